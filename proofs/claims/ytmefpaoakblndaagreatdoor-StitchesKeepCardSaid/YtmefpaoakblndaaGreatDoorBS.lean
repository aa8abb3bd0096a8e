/- The normal form of a word: normalOf walked. -/
import Derived.Test.YtmefpaoakblndaaGreatDoorBR
namespace Go.Proofs.YtmefpaoakblndaaGreatDoor
open Go.RowKit
theorem add_any (fb n : Nat) (q : Int) (p : Int) (ao : Option Addr) (cap : Nat) (L : List Pm) (w : World) (hn : n ≤ 12) (hq : q ≠ 0) (hl : -(n : Int) < q) (hr : q < n) (hi : AllIn n L) (hL : L.length < 10000) (hp : -10000 < p ∧ p < 10000) (hs : NS fb n p ao cap L w) :
    Calls Tryz.prog 113 #[.pointer (some ⟨fb, 0, none⟩), .int .i64 q] w (AddPost fb n q p L w) := by
  by_cases h : 0 < q
  · obtain ⟨z, rfl⟩ : ∃ z : Nat, q = (z : Int) + 1 := ⟨(q - 1).toNat, by omega⟩
    exact add_pos fb n z p ao cap L w hn (by omega) hi hL hp hs
  · exact add_neg fb n q p ao cap L w hn (by omega) hl hi hL hp hs
theorem popDelta_le (n : Nat) (p : Int) (D : List Pm) : (popDelta n p D).2.length ≤ D.length ∧ p ≤ (popDelta n p D).1 ∧ (popDelta n p D).1 ≤ p + 1 ∧ ∀ a ∈ (popDelta n p D).2, a ∈ D := by
  cases D with
  | nil => exact ⟨Nat.le_refl _, Int.le_refl _, by show p ≤ p + 1; omega, fun a h => h⟩
  | cons h D =>
    unfold popDelta
    dsimp only
    split
    · exact ⟨by simp, by simp; omega, by simp, fun a h => List.mem_cons_of_mem _ h⟩
    · exact ⟨by simp, by simp, by simp; omega, fun a h => h⟩
theorem dropFlat_le (n : Nat) (D : List Pm) : (dropFlat n D).length ≤ D.length ∧ ∀ a ∈ dropFlat n D, a ∈ D := by
  unfold dropFlat
  split
  · exact ⟨by rw [List.length_dropLast]; omega, fun a h => List.dropLast_subset D h⟩
  · exact ⟨Nat.le_refl _, fun a h => h⟩
theorem stepN_le {n : Nat} {z : Int} {x : Int × List Pm} (hz : z ≠ 0) (hl : -(n : Int) < z) (hr : z < n) (hi : AllIn n x.2) :
    (stepN n z x).2.length ≤ x.2.length + 1 ∧ x.1 - 1 ≤ (stepN n z x).1 ∧ (stepN n z x).1 ≤ x.1 + 1 ∧ AllIn n (stepN n z x).2 := by
  unfold stepN
  split
  · have hA : AllIn n x.2.reverse := fun y hy => hi y (by simpa using hy)
    have hL := pushR_len n x.2.reverse (idP.pre (z - 1).toNat) []
    have hI := pushR_in hA ((idP_in n).pre (by omega : (z - 1).toNat + 1 < n)) (acc := []) (fun y hy => by simp at hy)
    obtain ⟨a, b⟩ := dropFlat_le n (pushR n x.2.reverse (idP.pre (z - 1).toNat) [])
    obtain ⟨c, d, e, f⟩ := popDelta_le n x.1 (dropFlat n (pushR n x.2.reverse (idP.pre (z - 1).toNat) []))
    rw [List.length_reverse, List.length_nil] at hL
    exact ⟨by omega, by omega, e, fun y hy => hI y (b y (f y hy))⟩
  · have hA : AllIn n (x.2.map (tu n)).reverse := fun y hy => by
      obtain ⟨v, hv, rfl⟩ := List.mem_map.1 (List.mem_reverse.1 hy)
      exact tu_in (hi v hv)
    have hL := pushR_len n (x.2.map (tu n)).reverse ((dl n).pre (n + z - 1).toNat) []
    have hI := pushR_in hA ((dl_in n).pre (by omega : (n + z - 1).toNat + 1 < n)) (acc := []) (fun y hy => by simp at hy)
    obtain ⟨a, b⟩ := dropFlat_le n (pushR n (x.2.map (tu n)).reverse ((dl n).pre (n + z - 1).toNat) [])
    obtain ⟨c, d, e, f⟩ := popDelta_le n (x.1 - 1) (dropFlat n (pushR n (x.2.map (tu n)).reverse ((dl n).pre (n + z - 1).toNat) []))
    rw [List.length_reverse, List.length_map, List.length_nil] at hL
    exact ⟨by omega, by omega, by omega, fun y hy => hI y (b y (f y hy))⟩
theorem nf_le {n : Nat} (ws : List Int) : Word n ws → (nf n ws).2.length ≤ ws.length ∧ -(ws.length : Int) ≤ (nf n ws).1 ∧ (nf n ws).1 ≤ ws.length ∧ AllIn n (nf n ws).2 := by
  induction ws using snoc_ind with
  | h0 => exact fun _ => ⟨Nat.le_refl _, Int.le_refl _, Int.le_refl _, fun y hy => by simp [nf] at hy⟩
  | h1 w z ih =>
    intro hw
    obtain ⟨a, b, c, d⟩ := ih (fun y hy => hw y (by simp [hy]))
    obtain ⟨h1, h2, h3⟩ := hw z (by simp)
    obtain ⟨e, f, g, h⟩ := stepN_le (x := nf n w) h1 h2 h3 d
    rw [nf_snoc, List.length_append]
    simp only [List.length_cons, List.length_nil]
    exact ⟨by omega, by omega, by omega, h⟩
theorem results_mid1 {fn : Func} {p : Tmp} {ty : TypeId} (h : fn.results = #[.cell p ty]) (tmps : Array Value) (w : World) (b : Nat) (cs : List Value) (d : TypeDesc)
    (hp : tmps.getD p undef = .pointer (some ⟨b, 0, none⟩)) (hb : w.rangeAt b 0 cs)
    (hu : Tryz.prog.underlying ty = some d) (hd : d.isRow = true) (hi : (Tryz.prog.info? ty).map (·.size) = some cs.length) :
    (results fn tmps).run Tryz.prog w = .ok (.agg cs.toArray) w := by
  have hp' : tmps[p]?.getD undef = .pointer (some ⟨b, 0, none⟩) := by simpa using hp
  simp [results, h, hp', asAddr, run_loadVar_mid w b 0 ty cs d hb hu hd hi]
theorem fr_nil (B : Nat) (w : World) : FR B w none 0 [] := ⟨Nat.le_refl _, by decide +kernel, fun h => absurd h (Nat.lt_irrefl _)⟩
theorem FR.mono {B B' : Nat} {w : World} {ao : Option Addr} {cap : Nat} {L : List Pm} (h : FR B w ao cap L) (hb : B' ≤ B) : FR B' w ao cap L :=
  ⟨h.le, h.mx, fun hc => by
    obtain ⟨b, off, e, hB, hs, hr, ht⟩ := h.row hc
    exact ⟨b, off, e, Nat.le_trans hb hB, hs, hr, ht⟩⟩
theorem NS.range {fb n : Nat} {p : Int} {ao : Option Addr} {cap : Nat} {L : List Pm} {w : World} (h : NS fb n p ao cap L w) : w.rangeAt fb 0 [.int .i64 (n : Int), .int .i64 p, .slice ao L.length cap] := fun j v hv => by
  rw [Nat.zero_add]
  match j, hv with
  | 0, hv => exact h.c0.trans hv
  | 1, hv => exact h.c1.trans hv
  | 2, hv => exact h.c2.trans hv
  | _ + 3, hv => cases hv
theorem FR.cells {B b o : Nat} {w : World} {ao : Option Addr} {cap : Nat} {L : List Pm} (h : FR B w ao cap L) (hb : b < B) (vs : List Value) : FR B (w.setCells b o vs) ao cap L :=
  ⟨h.le, h.mx, fun hc => by
    obtain ⟨b', off, e, hB, hs, hr, ht⟩ := h.row hc
    exact ⟨b', off, e, hB, by rw [size_setCells']; exact hs, fun k a hk j u hj => (cell_setCells_block (by omega)).trans (hr k a hk j u hj), World.there_setCells ht _ _ _⟩⟩
theorem info68 : (Tryz.prog.info? 105).map (·.size) = some 3 := by kernel_rfl
set_option maxHeartbeats 400000 in
set_option maxRecDepth 100000 in
theorem normalOf_any (n : Nat) (ws : List Int) (sa : Option Addr) (sc : Nat) (w : World) (hn : n ≤ 12) (hw : Word n ws) (hl : ws.length < 10000) (_ : ws.length ≤ sc)
    (hc : ∀ k z, ws[k]? = some z → ∃ b off, sa = some ⟨b, off, none⟩ ∧ b < w.heap.size ∧ w.cell? ⟨b, off + k, none⟩ = some (.int .i64 z)) :
    Calls Tryz.prog 94 #[.int .i64 n, .slice sa ws.length sc] w fun e w' => ∃ ao cap, FR w.heap.size w' ao cap (nf n ws).2 ∧ Below w.heap.size w w' ∧
      e = .returned (.agg #[.int .i64 n, .int .i64 (nf n ws).1, .slice ao (nf n ws).2.length cap]) := by
  have Hc := Lib.hid hc
  clear hc
  go_enter Tryz.func94, Tryz.ntmps94
  go_wp2_with fail
  obtain ⟨W2, hW2⟩ : ∃ W, W = (w.alloc (.cells #[.int .i64 0, .int .i64 0, .slice none 0 0] 105)).alloc (.cells #[.int .i64 (n : Int), .int .i64 0, .slice none 0 0] 105) := ⟨_, rfl⟩
  have hz2 : W2.heap.size = w.heap.size + 1 + 1 := by rw [hW2]; simp
  have hB2 : Below w.heap.size w W2 := by rw [hW2]; exact (below_alloc w _).alloc (by simp) _
  have hh0 : W2.heap[w.heap.size]? = some (.cells #[.int .i64 0, .int .i64 0, .slice none 0 0] 105) := by rw [hW2]; exact heap_alloc2_old _ _ _
  have hh1 : W2.heap[w.heap.size + 1]? = some (.cells #[.int .i64 (n : Int), .int .i64 0, .slice none 0 0] 105) := by rw [hW2]; exact heap_alloc2_new _ _ _
  rw [← hW2]
  have hT : W2.there w.heap.size 0 3 := fun j hj => by
    rw [Nat.zero_add, cell_of_row W2 w.heap.size j _ _ _ hh0, frozen_of_row W2 w.heap.size j _ _ hh0, Array.getElem?_eq_getElem (by simpa using hj)]
    exact ⟨rfl, rfl⟩
  have hN2 : NS (w.heap.size + 1) n 0 none 0 [] W2 :=
    ⟨cell_of_row W2 _ 0 _ _ _ hh1, cell_of_row W2 _ 1 _ _ _ hh1, cell_of_row W2 _ 2 _ _ _ hh1, frozen_of_row W2 _ 1 _ _ hh1, frozen_of_row W2 _ 2 _ _ hh1, by omega, fr_nil _ _⟩
  have HT := Lib.hid hT
  have HN2 := Lib.hid hN2
  clear hW2 hh0 hh1 hT hN2
  go_loopw [12] (fun i wr => ∃ k : Nat, k ≤ ws.length ∧ i = .int .i64 k ∧ (∃ ao cap, NS (w.heap.size + 1) n (nf n (ws.take k)).1 ao cap (nf n (ws.take k)).2 wr) ∧ Below (w.heap.size + 1) W2 wr) (fun i _ => ws.length - (intOf i).toNat)
  case atStart => exact ⟨0, Nat.zero_le _, rfl, ⟨none, 0, by simpa [nf] using HN2.out⟩, Below.refl _ W2⟩
  case round =>
    obtain ⟨k, hk, rfl, ⟨ao, cap, hns⟩, hbw⟩ := hrel
    have Hns := Lib.hid hns
    have hzw := hns.sz
    clear hns
    by_cases hkl : k < ws.length
    · obtain ⟨x, hx⟩ : ∃ x, ws[k]? = some x := ⟨_, List.getElem?_eq_getElem hkl⟩
      have hwx := hw x (List.mem_of_getElem? hx)
      obtain ⟨b, off, rfl, hB, hcx⟩ := Hc.out k x hx
      have hcr : wr.cell? ⟨b, off + k, none⟩ = some (.int .i64 x) := (hbw.cell (p := ⟨b, off + k, none⟩) (Nat.lt_succ_of_lt hB)).trans ((hB2.cell (p := ⟨b, off + k, none⟩) hB).trans hcx)
      have k0 : (0 : Int) ≤ (k : Int) := by omega
      have k1 : (k : Int) < (ws.length : Int) := by omega
      obtain ⟨l1, l2, l3, l4⟩ := nf_le (n := n) (ws.take k) (fun y hy => hw y (List.mem_of_mem_take hy))
      rw [List.length_take] at l1 l2 l3
      have hpl : -10000 < (nf n (ws.take k)).1 ∧ (nf n (ws.take k)).1 < 10000 := by omega
      have hll : (nf n (ws.take k)).2.length < 10000 := by omega
      have hsx : nf n (ws.take (k + 1)) = stepN n x (nf n (ws.take k)) := by rw [List.take_add_one, hx, Option.toList_some, nf_snoc]
      clear hcx
      go_wp2_with fail
      refine (add_any (w.heap.size + 1) n x _ ao cap _ wr hn hwx.1 hwx.2.1 hwx.2.2 l4 hll hpl Hns.out).mono ?_
      rintro e w5 ⟨rfl, ⟨ao', cap', N5⟩, B5⟩
      rw [← hsx] at N5
      have HN5 := Lib.hid N5
      have HB5 := Lib.hid B5
      clear N5 B5
      go_wp2_with fail
      go_roundw
      case rel => exact ⟨k + 1, hkl, by go_num, ⟨ao', cap', HN5.out⟩, hbw.trans HB5.out⟩
      case measure => (simp [intOf] <;> omega)
    · obtain rfl : k = ws.length := by omega
      rw [List.take_length] at Hns
      obtain ⟨cs, hcs⟩ : ∃ cs : List Value, cs = [.int .i64 (n : Int), .int .i64 (nf n ws).1, .slice ao (nf n ws).2.length cap] := ⟨_, rfl⟩
      have hr : wr.rangeAt (w.heap.size + 1) 0 cs := by rw [hcs]; exact Hns.out.range
      have h3 : cs.length = 3 := by rw [hcs]; rfl
      have h1 : cs.toArray.all (·.oneCell') = true := all_oneCell_toArray (by rw [hcs]; intro v hv; simp only [List.mem_cons, List.not_mem_nil, or_false] at hv; rcases hv with rfl | rfl | rfl <;> rfl)
      have ht : wr.there w.heap.size 0 cs.length := by rw [h3]; exact there_below HT.out hbw (Nat.lt_succ_self _)
      go_wp2_with (first
        | (refine wpList_load_mid rfl 105 (.tmp 5) rfl (w.heap.size + 1) 0 rfl cs _ hr Tryz.underlying105 rfl (by rw [h3]; exact info68) ?_)
        | (refine wpList_store_mid rfl 105 (.tmp 4) (.tmp 19) rfl w.heap.size 0 cs.toArray rfl rfl (by rw [List.size_toArray]; exact ht) (by rw [List.size_toArray, h3]; exact info68) h1 ?_))
      refine bodyPost_ret (v := .agg cs.toArray) (results_mid1 rfl _ _ w.heap.size cs _ rfl (World.rangeAt_setCells_same wr w.heap.size 0 cs (fun i hi => ht i hi)) Tryz.underlying105 rfl (by rw [h3]; exact info68)) rfl ⟨ao, cap, (Hns.out.fr.cells (by omega) cs).mono (by omega), below_setCells (hB2.trans (hbw.mono (Nat.le_succ _))) (Nat.le_refl _) 0 cs, ?_⟩
      rw [hcs]
end Go.Proofs.YtmefpaoakblndaaGreatDoor
