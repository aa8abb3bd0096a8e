/- Moves on both sides. -/
import Derived.Test.YtmefpaoakblndaaGreatDoorVM
namespace Go.Proofs.YtmefpaoakblndaaGreatDoor
open Go.RowKit Go.Lib
theorem results_row_tmp {P : Program} {fn : Func} {p q : Tmp} {ty : TypeId} (h : fn.results = #[.cell p ty, .tmp q]) (tmps : Array Value) (w : World) (g : Nat) (t : TypeId) (cs : Array Value) (fr : Nat × Nat) (d : TypeDesc) (u : Value)
    (hp : tmps.getD p undef = .pointer (some ⟨g, 0, none⟩)) (hq : tmps.getD q undef = u) (hg : w.heap[g]? = some (.cells cs t fr))
    (hu : P.underlying ty = some d) (hd : (match d with | .struct _ | .array _ _ => true | _ => false) = true) (hi : (P.info? ty).map (·.size) = some cs.size) :
    (results fn tmps).run P w = .ok (.tuple #[.agg cs, u]) w := by
  have hp' : tmps[p]?.getD undef = .pointer (some ⟨g, 0, none⟩) := by simpa using hp
  have hq' : tmps[q]?.getD undef = u := by simpa using hq
  simp [results, h, hp', hq', asAddr, run_loadVar_row w g t ty cs fr d hg hu hd hi]
theorem set3 {w : World} {b : Nat} {t : TypeId} {x y z : Value} (h : w.heap[b]? = some (.cells #[x, y, z] t (0, 0))) (p q r : Value) : (((w.setCell ⟨b, 0, none⟩ p).setCell ⟨b, 1, none⟩ q).setCell ⟨b, 2, none⟩ r).heap[b]? = some (.cells #[p, q, r] t (0, 0)) := by
  have h1 := heap_setCell_same w b 0 _ _ p h
  have h2 := heap_setCell_same _ b 1 _ _ q h1
  have h3 := heap_setCell_same _ b 2 _ _ r h2
  simpa using h3
theorem below3s {w0 w : World} {B b : Nat} (h : Below B w0 w) (hb : B ≤ b) (p q r : Value) : Below B w0 (((w.setCell ⟨b, 0, none⟩ p).setCell ⟨b, 1, none⟩ q).setCell ⟨b, 2, none⟩ r) :=
  ((h.setCell (p := ⟨b, 0, none⟩) hb p).setCell (p := ⟨b, 1, none⟩) hb q).setCell (p := ⟨b, 2, none⟩) hb r
/-- The cells of what Moves hands out. -/
def movC (s : ByteArray) : Array Value := if stV s = 0 then #[.int .i64 (mvC s.data.toList), .int .i64 (mvT s.data.toList), .int .i64 (mvP s.data.toList)] else #[.int .i64 0, .int .i64 0, .int .i64 0]
set_option maxHeartbeats 2000000 in
set_option maxRecDepth 100000 in
theorem refMoves_any (s : ByteArray) (w : World) : Calls Tryz.prog 18 #[.string s] w fun e w' => e = .returned (.tuple #[.agg (movC s), .int .i64 (stV s)]) ∧ Below w.heap.size w w' := by
  have CK := Lib.hid (fun W => refCheck3_any s W)
  obtain ⟨z, hz⟩ : ∃ z, z = stV s := ⟨_, rfl⟩
  have hv : movC s = if z = 0 then #[.int .i64 (mvC s.data.toList), .int .i64 (mvT s.data.toList), .int .i64 (mvP s.data.toList)] else #[.int .i64 0, .int .i64 0, .int .i64 0] := by rw [hz]; rfl
  rw [hv]
  rw [← hz] at CK ⊢
  by_cases h0 : z = 0
  · subst h0
    have h16 := (st_ok hz.symm).1
    rw [if_pos rfl]
    have CL := Lib.hid (fun W => reflong_any s (by omega) W)
    obtain ⟨m1, m2, m3⟩ := mv_lng s.data.toList
    have hlen := lng_len s.data.toList
    have hsz : s.data.toList.length = s.size := by simp
    rw [hsz] at hlen
    generalize s.data.toList.flatMap lng = T at *
    have CM : ∀ (c : UInt8) (n : Nat), n = T.count c → ∀ W, Calls Tryz.prog 45 #[.string ⟨T.toArray⟩, .int .u8 (c.toNat : Int)] W fun e w' => e = .returned (.int .i64 (n : Int)) ∧ w' = W := fun c n hn W => by
      have := refmany_any ⟨T.toArray⟩ c (by show T.toArray.size ≤ 1000; simp; omega) W
      rw [hn]; exact this
    have hcl := fun c => List.count_le_length (a := c) (l := T)
    obtain ⟨n67, h67⟩ : ∃ n, n = T.count 67 := ⟨_, rfl⟩
    have b67 : n67 ≤ 100 := by rw [h67]; have := hcl 67; omega
    have C67 : ∀ W, Calls Tryz.prog 45 #[.string ⟨T.toArray⟩, .int .u8 67] W fun e w' => e = .returned (.int .i64 (n67 : Int)) ∧ w' = W := fun W => CM 67 n67 h67 W
    have H67 := Lib.hid C67
    clear C67
    obtain ⟨n99, h99⟩ : ∃ n, n = T.count 99 := ⟨_, rfl⟩
    have b99 : n99 ≤ 100 := by rw [h99]; have := hcl 99; omega
    have C99 : ∀ W, Calls Tryz.prog 45 #[.string ⟨T.toArray⟩, .int .u8 99] W fun e w' => e = .returned (.int .i64 (n99 : Int)) ∧ w' = W := fun W => CM 99 n99 h99 W
    have H99 := Lib.hid C99
    clear C99
    obtain ⟨n76, h76⟩ : ∃ n, n = T.count 76 := ⟨_, rfl⟩
    have b76 : n76 ≤ 100 := by rw [h76]; have := hcl 76; omega
    have C76 : ∀ W, Calls Tryz.prog 45 #[.string ⟨T.toArray⟩, .int .u8 76] W fun e w' => e = .returned (.int .i64 (n76 : Int)) ∧ w' = W := fun W => CM 76 n76 h76 W
    have H76 := Lib.hid C76
    clear C76
    obtain ⟨n82, h82⟩ : ∃ n, n = T.count 82 := ⟨_, rfl⟩
    have b82 : n82 ≤ 100 := by rw [h82]; have := hcl 82; omega
    have C82 : ∀ W, Calls Tryz.prog 45 #[.string ⟨T.toArray⟩, .int .u8 82] W fun e w' => e = .returned (.int .i64 (n82 : Int)) ∧ w' = W := fun W => CM 82 n82 h82 W
    have H82 := Lib.hid C82
    clear C82
    obtain ⟨n108, h108⟩ : ∃ n, n = T.count 108 := ⟨_, rfl⟩
    have b108 : n108 ≤ 100 := by rw [h108]; have := hcl 108; omega
    have C108 : ∀ W, Calls Tryz.prog 45 #[.string ⟨T.toArray⟩, .int .u8 108] W fun e w' => e = .returned (.int .i64 (n108 : Int)) ∧ w' = W := fun W => CM 108 n108 h108 W
    have H108 := Lib.hid C108
    clear C108
    obtain ⟨n114, h114⟩ : ∃ n, n = T.count 114 := ⟨_, rfl⟩
    have b114 : n114 ≤ 100 := by rw [h114]; have := hcl 114; omega
    have C114 : ∀ W, Calls Tryz.prog 45 #[.string ⟨T.toArray⟩, .int .u8 114] W fun e w' => e = .returned (.int .i64 (n114 : Int)) ∧ w' = W := fun W => CM 114 n114 h114 W
    have H114 := Lib.hid C114
    clear C114
    obtain ⟨n80, h80⟩ : ∃ n, n = T.count 80 := ⟨_, rfl⟩
    have b80 : n80 ≤ 100 := by rw [h80]; have := hcl 80; omega
    have C80 : ∀ W, Calls Tryz.prog 45 #[.string ⟨T.toArray⟩, .int .u8 80] W fun e w' => e = .returned (.int .i64 (n80 : Int)) ∧ w' = W := fun W => CM 80 n80 h80 W
    have H80 := Lib.hid C80
    clear C80
    rw [← h67, ← h99] at m1
    rw [← h76, ← h82, ← h108, ← h114] at m2
    rw [← h80] at m3
    clear h67 h99 h76 h82 h108 h114 h80 hcl CM hlen hsz
    have M1 := Lib.hid m1
    have M2 := Lib.hid m2
    have M3 := Lib.hid m3
    clear m1 m2 m3 hz hv
    go_enter Tryz.func18, Tryz.ntmps18
    go_wp2_with fail
    refine (CK.out _).mono ?_
    rintro e w1 ⟨rfl, hw⟩
    have hg : w1.heap[w.heap.size]? = some (.cells #[.int .i64 0, .int .i64 0, .int .i64 0] 30 (0, 0)) := by rw [hw]; exact heap_alloc_new _ _
    have HB := Lib.hid (show Below w.heap.size w w1 by rw [hw]; exact below_alloc w _)
    clear hw
    have c0 : w1.cell? ⟨w.heap.size, 0, none⟩ = some (.int .i64 0) := cell_of_row _ _ 0 _ _ _ hg
    have c1 : w1.cell? ⟨w.heap.size, 1, none⟩ = some (.int .i64 0) := cell_of_row _ _ 1 _ _ _ hg
    have c2 : w1.cell? ⟨w.heap.size, 2, none⟩ = some (.int .i64 0) := cell_of_row _ _ 2 _ _ _ hg
    have f0 := frozen_of_row _ _ 0 _ _ hg
    have f1 := frozen_of_row _ _ 1 _ _ hg
    have f2 := frozen_of_row _ _ 2 _ _ hg
    have HG := Lib.hid hg
    clear hg
    go_wp2_with fail
    refine (CL.out _).mono ?_
    rintro e w2 ⟨rfl, hw⟩
    obtain rfl := hw.symm
    clear hw
    go_wp2_with fail
    refine (H67.out _).mono ?_
    rintro e w2 ⟨rfl, hw⟩
    obtain rfl := hw.symm
    clear hw
    go_wp2_with fail
    refine (H99.out _).mono ?_
    rintro e w2 ⟨rfl, hw⟩
    obtain rfl := hw.symm
    clear hw
    go_wp2_with fail
    refine (H76.out _).mono ?_
    rintro e w2 ⟨rfl, hw⟩
    obtain rfl := hw.symm
    clear hw
    go_wp2_with fail
    refine (H82.out _).mono ?_
    rintro e w2 ⟨rfl, hw⟩
    obtain rfl := hw.symm
    clear hw
    go_wp2_with fail
    refine (H108.out _).mono ?_
    rintro e w2 ⟨rfl, hw⟩
    obtain rfl := hw.symm
    clear hw
    go_wp2_with fail
    refine (H114.out _).mono ?_
    rintro e w2 ⟨rfl, hw⟩
    obtain rfl := hw.symm
    clear hw
    go_wp2_with fail
    refine (H80.out _).mono ?_
    rintro e w2 ⟨rfl, hw⟩
    obtain rfl := hw.symm
    clear hw
    go_wp2_with fail
    refine bodyPost_ret (v := .tuple #[.agg #[.int .i64 ((n67 : Int) + n99), .int .i64 ((n76 : Int) + n82 + n108 + n114), .int .i64 (n80 : Int)], .int .i64 0]) (results_row_tmp rfl _ _ w.heap.size 30 #[.int .i64 ((n67 : Int) + n99), .int .i64 ((n76 : Int) + n82 + n108 + n114), .int .i64 (n80 : Int)] (0, 0) _ _ rfl rfl (set3 HG.out _ _ _) Tryz.underlying30 rfl (by kernel_rfl)) rfl ⟨?_, below3s HB.out (Nat.le_refl _) _ _ _⟩
    rw [← M1.out, ← M2.out, ← M3.out]
  · have hq : (z != 0) = true := by simpa using h0
    rw [if_neg h0]
    clear hz hv
    go_enter Tryz.func18, Tryz.ntmps18
    go_wp2_with fail
    refine (CK.out _).mono ?_
    rintro e w1 ⟨rfl, hw⟩
    have hg : w1.heap[w.heap.size]? = some (.cells #[.int .i64 0, .int .i64 0, .int .i64 0] 30 (0, 0)) := by rw [hw]; exact heap_alloc_new _ _
    have HB := Lib.hid (show Below w.heap.size w w1 by rw [hw]; exact below_alloc w _)
    clear hw
    have c0 : w1.cell? ⟨w.heap.size, 0, none⟩ = some (.int .i64 0) := cell_of_row _ _ 0 _ _ _ hg
    have c1 : w1.cell? ⟨w.heap.size, 1, none⟩ = some (.int .i64 0) := cell_of_row _ _ 1 _ _ _ hg
    have c2 : w1.cell? ⟨w.heap.size, 2, none⟩ = some (.int .i64 0) := cell_of_row _ _ 2 _ _ _ hg
    have f0 := frozen_of_row _ _ 0 _ _ hg
    have f1 := frozen_of_row _ _ 1 _ _ hg
    have f2 := frozen_of_row _ _ 2 _ _ hg
    have HG := Lib.hid hg
    clear hg
    go_wp2_with fail
    exact bodyPost_ret (v := .tuple #[.agg #[.int .i64 0, .int .i64 0, .int .i64 0], .int .i64 z]) (results_row_tmp rfl _ _ w.heap.size 30 #[.int .i64 0, .int .i64 0, .int .i64 0] (0, 0) _ _ rfl rfl (set3 HG.out _ _ _) Tryz.underlying30 rfl (by kernel_rfl)) rfl ⟨rfl, below3s HB.out (Nat.le_refl _) _ _ _⟩
end Go.Proofs.YtmefpaoakblndaaGreatDoor
