/- Perm of braids (out of XCM, XCP, XCR, XCS). -/
import Derived.Test.YtmefpaoakblndaaGreatDoorVQ
namespace Go.Proofs.YtmefpaoakblndaaGreatDoor
open Go.RowKit Go.Lib
theorem take_more {l : List Int} {k : Nat} {z : Int} (h : l[k]? = some z) : l.take (k + 1) = l.take k ++ [z] := by
  rw [List.take_add_one, h]
  rfl
theorem own_blk {w w' : World} {B C n g cap k : Nat} {e : TypeId} {xs : List Value} (h : w.ownsRow B e k (.slice (some ⟨g, 0, none⟩) n cap) n xs) (hg : g < C) (hb : Below C w w') : w'.ownsRow B e k (.slice (some ⟨g, 0, none⟩) n cap) n xs := by
  refine ⟨h.1, ?_⟩
  rcases h.2 with h0 | ⟨g', cap', cur, h0, h1, h2, h3⟩
  · exact .inl h0
  · cases h0
    exact .inr ⟨g, cap, cur, rfl, h1, (hb.block g hg).trans h2, h3⟩
theorem ints_get {n : Nat} (x : Pm) {k : Nat} (h : k < n) : (ints n x)[k]? = some (x.f k : Int) := by simp [ints, h]
theorem ints_swap {n : Nat} (y : Pm) {j : Nat} (hj : j + 1 < n) : (((ints n y).map (Value.int .i64)).set j (.int .i64 (y.f (j + 1) : Int))).set (j + 1) (.int .i64 (y.f j : Int)) = (ints n (y.pre j)).map (Value.int .i64) := by
  apply List.ext_getElem?
  intro k
  rw [List.getElem?_set, List.getElem?_set, List.length_set, List.length_map, ints_len]
  rcases Nat.lt_or_ge k n with hk | hk
  · rw [List.getElem?_map, List.getElem?_map, ints_get _ hk, ints_get _ hk]
    show _ = some (Value.int .i64 (y.f (sw j k) : Int))
    by_cases h1 : j + 1 = k
    · subst h1; rw [if_pos rfl, if_pos hj, sw_r]
    · rw [if_neg h1]
      by_cases h2 : j = k
      · subst h2; rw [if_pos rfl, if_pos (by omega), sw_l]
      · rw [if_neg h2, sw_o (fun e => h2 e.symm) (fun e => h1 e.symm)]
        rfl
  · rw [if_neg (by omega), if_neg (by omega), List.getElem?_eq_none (by simp [ints_len]; omega), List.getElem?_eq_none (by simp [ints_len]; omega)]
theorem own_pos {w : World} {B n k : Nat} {e : TypeId} {v : Value} {xs : List Value} (h : w.ownsRow B e k v n xs) (hn : 0 < n) : ∃ g cap, v = .slice (some ⟨g, 0, none⟩) n cap := by
  rcases h.2 with ⟨_, h0⟩ | ⟨g, cap, _, rfl, _⟩
  · omega
  · exact ⟨g, cap, rfl⟩
theorem bon {a b c : World} (h : Below a.heap.size a b) (k : Below b.heap.size b c) : Below a.heap.size a c := h.trans (k.mono h.size)
/-- make([]int, n). -/
theorem mk_full (n : Nat) (hn : n < 100000) (W : World) : (Instr.makeSlice 23 (.int .i64 (n : Int)) (.int .i64 (n : Int))).run Tryz.prog W = .ok (.slice (some ⟨W.heap.size, 0, none⟩) n n) (W.alloc (.cells (madeCells #[.int .i64 0] n) 3)) := by
  obtain ⟨i0, hi, hz0, hz1, hz2⟩ := info_parts infoInt
  have h := run_make (P := Tryz.prog) W 23 3 i0 (.int .i64 0) Tryz.underlying23 hi hz0 .i64 .i64 (n : Int) (n : Int) (by omega) (by omega) (by rw [hz2]; omega) (by omega)
  rw [hz1] at h
  simp at h
  exact h
theorem own_full (n B : Nat) (hn : n < 100000) (W : World) (hB : B ≤ W.heap.size) : (W.alloc (.cells (madeCells #[.int .i64 0] n) 3)).ownsRow B 3 1 (.slice (some ⟨W.heap.size, 0, none⟩) n n) n (madeCells #[.int .i64 0] n).toList :=
  World.ownsRow_lit W _ n hB (by unfold maxLen; omega) (by rw [size_madeCells]; simp)
/-- The place left of the letter. -/
def num (z : Int) : Nat := z.natAbs - 1
def sgn (z : Int) : Int := if z < 0 then -1 else 1
theorem num_lt {n : Nat} {z : Int} (h : Letter n z) : num z + 1 < n := by
  obtain ⟨h1, h2, h3⟩ := h
  unfold num
  omega
theorem num_abs {z : Int} (h : z ≠ 0) : (num z : Int) + 1 = if z < 0 then -z else z := by
  unfold num
  split <;> omega
/-- The line after a word: which strand lies in each place. -/
def lineP (ws : List Int) : Pm := ws.foldl (fun a z => a.pre (num z)) idP
theorem lineP_next {ws : List Int} {k : Nat} {x : Int} (h : ws[k]? = some x) : lineP (ws.take (k + 1)) = (lineP (ws.take k)).pre (num x) := by
  rw [take_more h]
  simp [lineP]
theorem lineP_snoc (ws : List Int) (x : Int) : lineP (ws ++ [x]) = (lineP ws).pre (num x) := by simp [lineP]
theorem lineP_in {n : Nat} (ws : List Int) : Word n ws → (lineP ws).In n := by
  induction ws using snoc_ind with
  | h0 => intro _; exact idP_in n
  | h1 l a ih =>
    intro h
    rw [lineP_snoc]
    exact (ih h.left).pre (num_lt (h a (by simp)))
theorem infoLn : (Tryz.prog.info? 70).map (fun i => i.size) = some 12 := by kernel_rfl
theorem hiLn (s : Pm) : (Tryz.prog.info? 70).map (·.size) = some (pc s).size := by rw [pc_size]; exact infoLn
set_option maxHeartbeats 1000000 in
set_option maxRecDepth 100000 in
theorem newLine_any (w : World) :
    Calls Tryz.prog 62 #[] w fun e w' => e = .returned (.agg (pc idP)) ∧ Below w.heap.size w w' := by
  go_enter Tryz.func62, Tryz.ntmps62
  go_wp2_with fail
  go_loopw [3] (fun i wr => ∃ (k : Nat) (f : Nat → Nat), k ≤ 12 ∧ i = .int .i64 k ∧ wr.heap[w.heap.size]? = some (.cells (pcF fun _ => 0) 70 (0, 0)) ∧ wr.heap[w.heap.size + 1]? = some (.cells (pcF f) 70 (0, 0)) ∧ (∀ x, x < k → f x = x) ∧ Below w.heap.size w wr) (fun i _ => 12 - (intOf i).toNat)
  case atStart => exact ⟨0, fun _ => 0, by omega, rfl, heap_alloc2_old _ _ _, heap_alloc2_new _ _ _, fun x h => by omega, (below_alloc w _).alloc (by simp) _⟩
  case round =>
    obtain ⟨k, f, hk, rfl, hr0, hr1, hf, hb⟩ := hrel
    have Hf := Lib.hid hf
    have Hr0 := Lib.hid hr0
    have Hr1 := Lib.hid hr1
    clear hf
    by_cases h12 : k < 12
    · have c1 := cell_of_row wr _ k _ _ _ hr1
      rw [pcF_get f h12] at c1
      have f1 := frozen_of_row wr _ k _ _ hr1
      have hset := heap_setCell_same wr (w.heap.size + 1) k _ 70 (.int .i64 (k : Int)) hr1
      rw [pcF_set f k h12] at hset
      have Hset := Lib.hid hset
      have Ho := Lib.hid (heap_setCell_other wr ⟨w.heap.size + 1, k, none⟩ (.int .i64 (k : Int)) (k := w.heap.size) (by simp <;> omega))
      clear hset hr0 hr1
      go_wp2_with fail
      go_roundw
      case rel => exact ⟨k + 1, _, by omega, by go_num, Ho.out.trans Hr0.out, Hset.out, fun x hx => by
          by_cases e : x = k
          · simp [e]
          · simp only [if_neg e]; exact Hf.out x (by omega), hb.setCell (p := ⟨w.heap.size + 1, k, none⟩) (by simp) _⟩
      case measure => (simp [intOf] <;> omega)
    · obtain rfl : k = 12 := by omega
      have e : pcF f = pc idP := pcF_ext fun x hx => Hf.out x hx
      rw [e] at hr1
      clear Hr1 Hr0 Hf
      go_wp2_with (first
        | (refine wpList_load_row rfl 70 (.tmp 1) rfl (w.heap.size + 1) rfl 70 (pc idP) (0, 0) _ hr1 Tryz.underlying70 rfl (hiLn _) ?_)
        | (refine wpList_store_row rfl 70 (.tmp 0) (.tmp 10) rfl w.heap.size (pc idP) rfl rfl 70 _ hr0 (hiLn _) rfl (pc_one _) ?_))
      refine bodyPost_ret (v := .agg (pc idP)) (results_cell_row rfl _ _ w.heap.size 70 (pc idP) (0, 0) _ rfl (setRow_heap _ _ _ _ _ _ hr0) Tryz.underlying70 rfl (hiLn _)) rfl ⟨rfl, ?_⟩
      exact below_setRow hb (by omega) _
set_option maxHeartbeats 400000 in
set_option maxRecDepth 100000 in
theorem number_any (z : Int) (h0 : z ≠ 0) (hz : -100000 < z ∧ z < 100000) (w : World) :
    Calls Tryz.prog 82 #[.int .i64 z] w fun e w' => e = .returned (.int .i64 ((num z : Int) + 1)) ∧ w' = w := by
  have hn := num_abs h0
  have hw : IntKind.i64.wrap (-z) = -z := IntWalk.i64_in _ (by omega)
  obtain ⟨m, hm⟩ : ∃ m : Int, m = (num z : Int) + 1 := ⟨_, rfl⟩
  rw [← hm] at hn ⊢
  clear hm
  by_cases hlt : z < 0
  · rw [if_pos hlt] at hn
    subst hn
    have q : ¬ -z ≤ z := by omega
    clear h0
    go_enter Tryz.func82, Tryz.ntmps82
    go_wp2_with fail
    go_ret
    exact ⟨rfl, rfl⟩
  · rw [if_neg hlt] at hn
    subst hn
    have q : -m ≤ m := by omega
    clear h0
    go_enter Tryz.func82, Tryz.ntmps82
    go_wp2_with fail
    go_ret
    exact ⟨rfl, rfl⟩
set_option maxHeartbeats 1000000 in
set_option maxRecDepth 100000 in
theorem cross_any (lb : Nat) (s : Pm) (k : Nat) (z : Int) (hk : k = num z) (hk2 : k + 1 < 12) (h0 : z ≠ 0) (hz : -100000 < z ∧ z < 100000) (w : World) (hr : w.heap[lb]? = some (.cells (pc s) 70 (0, 0))) :
    Calls Tryz.prog 63 #[.pointer (some ⟨lb, 0, none⟩), .int .i64 z] w fun e w' => e = .returned (.tuple #[]) ∧ w'.heap[lb]? = some (.cells (pc (s.pre k)) 70 (0, 0)) ∧ Below lb w w' := by
  have CN := Lib.hid (number_any z h0 hz w)
  rw [← hk] at CN
  have c0 := (cell_of_row w lb k _ _ _ hr).trans (pc_get s (by omega))
  have c1 := (cell_of_row w lb (k + 1) _ _ _ hr).trans (pc_get s hk2)
  have f0 := frozen_of_row w lb k _ _ hr
  have f1 := frozen_of_row w lb (k + 1) _ _ hr
  have r1 := heap_setCell_same w lb k _ 70 (.int .i64 (s.f (k + 1) : Int)) hr
  have r2 := heap_setCell_same _ lb (k + 1) _ 70 (.int .i64 (s.f k : Int)) r1
  rw [pc_swap s hk2] at r2
  have R2 := Lib.hid r2
  have HB := Lib.hid (((Below.refl lb w).setCell (p := ⟨lb, k, none⟩) (Nat.le_refl _) (.int .i64 (s.f (k + 1) : Int))).setCell (p := ⟨lb, k + 1, none⟩) (Nat.le_refl _) (.int .i64 (s.f k : Int)))
  have n0 : IntKind.i64.wrap (k : Int) = (k : Int) := num_in (by omega) (by omega)
  have n1 : (0 : Int) ≤ (k : Int) := by omega
  have n2 : (k : Int) < 12 := by omega
  have n3 : (0 : Int) ≤ (k : Int) + 1 := by omega
  have n4 : (k : Int) + 1 < 12 := by omega
  have n5 : ((k : Int) + 1).toNat = k + 1 := by omega
  clear hr r1 r2 hk
  go_enter Tryz.func63, Tryz.ntmps63
  go_wp2_with fail
  refine CN.out.mono ?_
  rintro e w1 ⟨rfl, rfl⟩
  go_wp2_with fail
  go_region
  go_wp2_with fail
  go_end0
  exact ⟨rfl, R2.out, HB.out.drew⟩
/-- What Perm hands out. -/
def permL (n : Nat) (ws : List Int) : List Int := ints n (lineP ws).inv
theorem fill_all {n : Nat} {s : Pm} (hs : s.In n) {R : List Value} (hl : R.length = n) (h : ∀ j, j < n → R[s.f j]? = some (Value.int .i64 (j : Int))) : R = (ints n s.inv).map (Value.int .i64) := by
  apply List.ext_getElem?
  intro i
  rcases Nat.lt_or_ge i n with hi | hi
  · have := h (s.g i) (hs.glt hi)
    rw [s.fg] at this
    rw [this, List.getElem?_map, ints_get _ hi]
    rfl
  · rw [List.getElem?_eq_none (by omega), List.getElem?_eq_none (by simp [ints_len]; omega)]
theorem fill_next {n k : Nat} {s : Pm} (hs : s.In n) {R : List Value} (hk : k < n) (hl : R.length = n) (h : ∀ j, j < k → R[s.f j]? = some (Value.int .i64 (j : Int))) :
    ∀ j, j < k + 1 → (R.set (s.f k) (.int .i64 (k : Int)))[s.f j]? = some (Value.int .i64 (j : Int)) := fun j hj => by
  rw [List.getElem?_set]
  by_cases e : j = k
  · subst e
    rw [if_pos rfl, if_pos (by rw [hl]; exact hs.lt hk)]
  · rw [if_neg (fun h => e (s.inj h.symm)), h j (by omega)]
set_option maxHeartbeats 1000000 in
set_option maxRecDepth 100000 in
theorem refends_any (n : Nat) (hn : n ≤ 12) (s : Pm) (hs : s.In n) (v : Value) (w : World) (hv : IS w v (ints n s)) :
    Calls Tryz.prog 137 #[v] w fun e w' => ∃ v', e = .returned v' ∧ w'.ownsRow w.heap.size 3 1 v' n ((ints n s.inv).map (Value.int .i64)) ∧ Below w.heap.size w w' := by
  obtain ⟨sa, sc, rfl, _, _, _, hI⟩ := hv
  rw [ints_len]
  have HI := Lib.hid hI
  have Hs := Lib.hid hs
  have hmk := fun W => mk_full n (by omega) W
  have HO := Lib.hid (own_full n w.heap.size (by omega) w (Nat.le_refl _))
  have HB := Lib.hid (below_alloc w (.cells (madeCells #[.int .i64 0] n) 3))
  clear hI hs
  go_enter Tryz.func137, Tryz.ntmps137
  go_wp2_with fail
  clear hmk
  go_loopw [4] (fun i wr => ∃ (k : Nat) (R : List Value), k ≤ n ∧ i = .int .i64 k ∧ R.length = n ∧ (∀ j, j < k → R[s.f j]? = some (.int .i64 (j : Int))) ∧ wr.ownsRow w.heap.size 3 1 (.slice (some ⟨w.heap.size, 0, none⟩) n n) n R ∧ Below w.heap.size w wr) (fun i _ => n - (intOf i).toNat)
  case atStart => exact ⟨0, _, Nat.zero_le _, rfl, by simp [size_madeCells], fun j h => by omega, HO.out, HB.out⟩
  case round =>
    obtain ⟨k, R, hk, rfl, hRl, hR, hown, hbw⟩ := hrel
    have HR := Lib.hid hR
    have HRl := Lib.hid hRl
    clear hR hRl
    by_cases hkl : k < n
    · obtain ⟨b, off, rfl, hb, hc⟩ := HI.out k _ (ints_get s hkl)
      have hcx := (hbw.cell (p := ⟨b, off + k, none⟩) hb).trans hc
      have hfl := Hs.out.lt hkl
      have Hnext := Lib.hid (fill_next Hs.out hkl HRl.out HR.out)
      obtain ⟨R0, hR0⟩ : ∃ y, R[s.f k]? = some y := ⟨_, List.getElem?_eq_getElem (by rw [HRl.out]; exact hfl)⟩
      have cp := (hown.cellAt (s.f k) (by omega)).trans hR0
      have fp := hown.frozenAt (s.f k)
      have hst := Lib.hid (hown.stored (s.f k) (.int .i64 (k : Int))).1
      have hB2 := Lib.hid (hbw.setCell (p := ⟨w.heap.size, s.f k, none⟩) (Nat.le_refl _) (.int .i64 (k : Int)))
      have p0 : (0 : Int) ≤ (s.f k : Int) := by omega
      have p1 : (s.f k : Int) < (n : Int) := by omega
      have k0 : (0 : Int) ≤ (k : Int) := by omega
      have k1 : (k : Int) < (n : Int) := by omega
      clear hown hbw hc hR0
      go_wp2_with fail
      go_roundw
      case rel => exact ⟨k + 1, _, hkl, by go_num, by rw [List.length_set]; exact HRl.out, Hnext.out, hst.out, hB2.out⟩
      case measure => (simp [intOf] <;> omega)
    · have k1 : ¬ (k : Int) < (n : Int) := by omega
      have e := fill_all Hs.out HRl.out (fun j h => HR.out j (by omega))
      rw [e] at hown
      have Hown := Lib.hid hown
      clear hown e
      go_wp2_with fail
      go_ret
      exact ⟨_, rfl, Hown.out, hbw⟩
/-- What Perm hands out, at an error as well. -/
def permV (n : Int) (ws : List Int) : List Int := if checkV n ws = 0 then permL n.toNat ws else []
set_option maxHeartbeats 1000000 in
set_option maxRecDepth 100000 in
theorem Perm_any (n : Int) (ws : List Int) (v : Value) (w : World) (hv : IS w v ws) :
    Calls Tryz.prog 37 #[.int .i64 n, v] w fun e w' => ∃ v', e = .returned (.tuple #[v', .int .i64 (checkV n ws)]) ∧ IS w' v' (permV n ws) ∧ Below w.heap.size w w' := by
  obtain ⟨sa, sc, rfl, h1, h2, _, hI⟩ := hv
  have CK := Lib.hid (Check_any n ws sa sc w h1 h2 hI)
  have HI := Lib.hid hI
  have hok := fun h => checkV_ok (n := n) (ws := ws) h
  have HS := Lib.hid (show checkV n ws ≠ 0 → permV n ws = [] from fun h => if_neg h)
  have HT := Lib.hid (show checkV n ws = 0 → permV n ws = permL n.toNat ws from fun h => if_pos h)
  obtain ⟨c, hc⟩ : ∃ c, c = checkV n ws := ⟨_, rfl⟩
  rw [← hc] at CK hok HS HT ⊢
  have HO := Lib.hid hok
  clear hok hI hc
  by_cases h : c = 0
  · have hn := HT.out h
    obtain ⟨m, rfl, m1, m2, hl, hw⟩ := HO.out h
    rw [Int.toNat_natCast] at hn
    have Hn := Lib.hid hn
    have Hw := Lib.hid hw
    subst h
    have hmk := fun W => mk_full m (by omega) W
    clear HO HS HT hn hw
    go_enter Tryz.func37, Tryz.ntmps37
    go_wp2_with fail
    refine CK.out.mono ?_
    rintro e w1 ⟨rfl, B1⟩
    have HB1 := Lib.hid B1
    clear B1
    go_wp2_with fail
    refine (newLine_any w1).mono ?_
    rintro e w2 ⟨rfl, B2⟩
    have HB2 := Lib.hid (bon HB1.out B2)
    clear B2
    go_wp2_with (refine wpList_store_row rfl 70 (.tmp 7) (.tmp 18) rfl w2.heap.size (pc idP) rfl rfl 70 _ (heap_alloc_new _ _) (hiLn _) rfl (pc_one _) ?_)
    have hz2 : w.heap.size ≤ w2.heap.size := HB2.out.size
    go_loopw [21] (fun i wr => ∃ k : Nat, k ≤ ws.length ∧ i = .int .i64 k ∧ wr.heap[w2.heap.size]? = some (.cells (pc (lineP (ws.take k))) 70 (0, 0)) ∧ Below w2.heap.size w2 wr) (fun i _ => ws.length - (intOf i).toNat)
    case atStart => exact ⟨0, Nat.zero_le _, rfl, setRow_heap _ _ _ _ _ _ (heap_alloc_new _ _), below_setRow (below_alloc w2 _) (Nat.le_refl _) _⟩
    case round =>
      obtain ⟨k, hk, rfl, hrow, hbw⟩ := hrel
      have Hrow := Lib.hid hrow
      clear hrow
      by_cases hkl : k < ws.length
      · obtain ⟨x, hx⟩ : ∃ x, ws[k]? = some x := ⟨_, List.getElem?_eq_getElem hkl⟩
        have hlet : Letter m x := Hw.out x (List.mem_of_getElem? hx)
        obtain ⟨b, off, rfl, hb, hc⟩ := HI.out k x hx
        have hcx := ((HB2.out.trans (hbw.mono hz2)).cell (p := ⟨b, off + k, none⟩) hb).trans hc
        have k0 : (0 : Int) ≤ (k : Int) := by omega
        have k1 : (k : Int) < (ws.length : Int) := by omega
        have Hnext := Lib.hid (lineP_next hx)
        have CC := Lib.hid (cross_any w2.heap.size (lineP (ws.take k)) (num x) x rfl (by have := num_lt hlet; omega) hlet.1 (by have := hlet.2; omega) wr Hrow.out)
        clear hc hx hlet
        go_wp2_with fail
        refine CC.out.mono ?_
        rintro e w3 ⟨rfl, R3, B3⟩
        have HR3 := Lib.hid R3
        have HB3 := Lib.hid (hbw.trans B3)
        clear R3 B3 CC
        go_wp2_with fail
        go_roundw
        case rel => exact ⟨k + 1, hkl, by go_num, by rw [Hnext.out]; exact HR3.out, HB3.out⟩
        case measure => (simp [intOf] <;> omega)
      · have k1 : ¬ (k : Int) < (ws.length : Int) := by omega
        have e : k = ws.length := by omega
        have hrow := Hrow.out
        rw [e, List.take_length] at hrow
        have hsm := lineP_in ws Hw.out
        obtain ⟨s, hs⟩ : ∃ s, s = lineP ws := ⟨_, rfl⟩
        rw [← hs] at hrow hsm
        have Hsm := Lib.hid hsm
        have Hs := Lib.hid hs
        have Hrw := Lib.hid hrow
        have hz3 := hbw.size
        have hz4 := (Array.getElem?_eq_some_iff.1 hrow).1
        have HO := Lib.hid (own_full m (w2.heap.size + 1) (by omega) wr hz4)
        have HBO := Lib.hid (below_alloc wr (.cells (madeCells #[.int .i64 0] m) 3))
        have HBw := Lib.hid (HB2.out.trans (hbw.mono hz2))
        clear Hrow hrow hsm hs e hbw
        go_wp2_with fail
        clear hmk
        rename World => wr
        go_loopw [31] (fun i wy => ∃ (k : Nat) (R : List Value), k ≤ m ∧ i = .int .i64 k ∧ R.length = m ∧ (∀ j, j < k → R[s.f j]? = some (.int .i64 (j : Int))) ∧ wy.ownsRow (w2.heap.size + 1) 3 1 (.slice (some ⟨wr.heap.size, 0, none⟩) m m) m R ∧ Below wr.heap.size wr wy) (fun i _ => m - (intOf i).toNat)
        case atStart => exact ⟨0, _, Nat.zero_le _, rfl, by simp [size_madeCells], fun j h => by omega, HO.out, HBO.out⟩
        case round =>
          obtain ⟨k, R, hk, rfl, hRl, hR, hown, hby⟩ := hrel
          rename World => wy
          have HR := Lib.hid hR
          have HRl := Lib.hid hRl
          clear hR hRl
          by_cases hkm : k < m
          · have hfl := Hsm.out.lt hkm
            have hrow := (hby.block w2.heap.size hz4).trans Hrw.out
            have cl := (cell_of_row wy w2.heap.size k _ _ _ hrow).trans (pc_get s (by omega))
            have Hnext := Lib.hid (fill_next Hsm.out hkm HRl.out HR.out)
            obtain ⟨R0, hR0⟩ : ∃ y, R[s.f k]? = some y := ⟨_, List.getElem?_eq_getElem (by rw [HRl.out]; exact hfl)⟩
            have cp := (hown.cellAt (s.f k) (by omega)).trans hR0
            have fp := hown.frozenAt (s.f k)
            have hst := Lib.hid (hown.stored (s.f k) (.int .i64 (k : Int))).1
            have hB2 := Lib.hid (hby.setCell (p := ⟨wr.heap.size, s.f k, none⟩) (Nat.le_refl _) (.int .i64 (k : Int)))
            have p0 : (0 : Int) ≤ (s.f k : Int) := by omega
            have p1 : (s.f k : Int) < (m : Int) := by omega
            have k0 : (0 : Int) ≤ (k : Int) := by omega
            have k1 : (k : Int) < (m : Int) := by omega
            have k2 : (k : Int) < 12 := by omega
            clear hown hby hR0 hrow
            go_wp2_with fail
            go_roundw
            case rel => exact ⟨k + 1, _, hkm, by go_num, by rw [List.length_set]; exact HRl.out, Hnext.out, hst.out, hB2.out⟩
            case measure => (simp [intOf] <;> omega)
          · have k1 : ¬ (k : Int) < (m : Int) := by omega
            have e := fill_all Hsm.out HRl.out (fun j h => HR.out j (by omega))
            rw [e] at hown
            have Hown := Lib.hid hown
            have HBy := Lib.hid (bon HBw.out hby)
            clear hown e hby
            go_wp2_with fail
            go_ret2
            exact ⟨_, rfl, by rw [Hn.out, permL, ← Hs.out]; exact is_own Hown.out (ints_len _ _), HBy.out⟩
  · have hn := Lib.hid (HS.out h)
    go_enter Tryz.func37, Tryz.ntmps37
    go_wp2_with fail
    refine CK.out.mono ?_
    rintro e w1 ⟨rfl, B1⟩
    go_wp2_with fail
    go_ret2
    exact ⟨.slice none 0 0, rfl, by rw [hn.out]; exact is_nil _, B1⟩
end Go.Proofs.YtmefpaoakblndaaGreatDoor
