/- withLetter: a letter behind syllables. -/
import Derived.Test.YtmefpaoakblndaaGreatDoorVU
namespace Go.Proofs.YtmefpaoakblndaaGreatDoor
open Go.RowKit
set_option linter.unusedSimpArgs false
def Syl.isNil (s : Syl) : Bool := s.x == 0 && s.l == 0 && s.r == 0
/-- A syllable behind others, unless it is empty. -/
def addS (L : List Syl) (t : Syl) : List Syl := if t.isNil then L else L ++ [t]
/-- A letter behind syllables. -/
def putS (L : List Syl) (c : UInt8) : List Syl :=
  match L.getLast? with
  | some s => if s.cr = (sylOf c).cr then addS L.dropLast (s.add (sylOf c)) else addS L (sylOf c)
  | none => addS L (sylOf c)
theorem putS_nil (c : UInt8) : putS [] c = addS [] (sylOf c) := rfl
theorem putS_same {L : List Syl} {s : Syl} {c : UInt8} (h : s.cr = (sylOf c).cr) : putS (L ++ [s]) c = addS L (s.add (sylOf c)) := by
  unfold putS
  simp [h]
theorem putS_other {L : List Syl} {s : Syl} {c : UInt8} (h : ¬ s.cr = (sylOf c).cr) : putS (L ++ [s]) c = addS (L ++ [s]) (sylOf c) := by
  unfold putS
  simp [h]
theorem range_heap {w : World} {g : Nat} {cs : List Value} {t : TypeId} {fr : Nat × Nat} (h : w.heap[g]? = some (.cells cs.toArray t fr)) : w.rangeAt g 0 cs := fun j v hv => by
  rw [Nat.zero_add, cell_of_row _ _ j _ _ _ h, List.getElem?_toArray, hv]
theorem YR.belowC {B C : Nat} {w w' : World} {ao : Option Addr} {cap : Nat} {L : List Syl} (h : YR B w ao cap L) (hb : Below C w w') (hlt : ∀ b off, ao = some ⟨b, off, none⟩ → b < C) : YR B w' ao cap L :=
  ⟨h.le, h.mx, fun hc => by
    obtain ⟨b, off, e, hB, hs, hr, ht⟩ := h.row hc
    have h1 := hlt b off e
    exact ⟨b, off, e, hB, by have := hb.size; omega, fun k a hk => range_belowY (hr k a hk) hb h1, there_belowY ht hb h1⟩⟩
theorem YR.cut {B : Nat} {w : World} {ao : Option Addr} {cap : Nat} {L : List Syl} {s : Syl} (h : YR B w ao cap (L ++ [s])) : YR B w ao L.length L := by
  have hle := h.le
  rw [List.length_append, List.length_singleton] at hle
  refine ⟨Nat.le_refl _, Nat.le_trans (by omega) h.mx, fun hc => ?_⟩
  obtain ⟨b, off, e, h1, h2, h3, h4⟩ := h.row (by omega)
  exact ⟨b, off, e, h1, h2, fun k a hk => h3 k a (by rw [List.getElem?_append_left (List.getElem?_eq_some_iff.1 hk).1]; exact hk), fun j hj => h4 j (by omega)⟩
attribute [local irreducible] wpQuiet
set_option maxHeartbeats 8000000 in
set_option maxRecDepth 100000 in
theorem withLetter_nil (c : UInt8) (B : Nat) (ao : Option Addr) (cap : Nat) (w : World) (hB : B ≤ w.heap.size) (h : YR B w ao cap []) :
    Calls Tryz.prog 69 #[.slice ao 0 cap, .int .u8 (c.toNat : Int)] w fun e w' => ∃ ao' cap', e = .returned (.slice ao' (putS [] c).length cap') ∧ YR B w' ao' cap' (putS [] c) ∧ Below B w w' := by
  have HY := Lib.hid h
  clear h
  have CS := Lib.hid (fun W => syllableOf_any c W)
  have HSy : sylOf c = ⟨crX c, twL c, twR c⟩ := rfl
  obtain ⟨⟨t1, t2⟩, ⟨t3, t4⟩, t5, t6⟩ := tw_rng c
  unfold sylOf Syl.val at CS
  generalize hxc : crX c = xc at *
  generalize hxl : twL c = xl at *
  generalize hxr : twR c = xr at *
  clear hxc hxl hxr
  have HSY := Lib.hid HSy
  clear HSy
  have HP := Lib.hid (show putS [] c = addS [] ⟨xc, xl, xr⟩ by rw [putS_nil, HSY.out])
  go_enter Tryz.func69, Tryz.ntmps69
  go_wp2_with fail
  refine (CS.out _).mono ?_
  rintro e w1 ⟨rfl, hb1⟩
  have HB1 := Lib.hid (hb1.mono hB)
  have HY1 := Lib.hid (HY.out.below hb1)
  have hs1 := hb1.size
  clear hb1
  go_wp2_with fail
  obtain ⟨w2, hw2⟩ : ∃ W, W = w1.alloc (.cells #[.int .i64 xc, .int .i64 xl, .int .i64 xr] 81) := ⟨_, rfl⟩
  rw [← hw2]
  have HN := Lib.hid (show w2.heap[w1.heap.size]? = some (.cells #[.int .i64 xc, .int .i64 xl, .int .i64 xr] 81 (0, 0)) by rw [hw2]; exact heap_alloc_new _ _)
  have HB2 := Lib.hid (show Below B w w2 by rw [hw2]; exact HB1.out.alloc (by omega) _)
  have HY2 := Lib.hid (show YR B w2 ao cap [] by rw [hw2]; exact HY1.out.below (below_alloc _ _))
  have z2 : w2.heap.size = w1.heap.size + 1 := by rw [hw2]; simp
  clear hw2
  refine wp_region_class (fun w' => Below w2.heap.size w2 w') 11 (by kernel_rfl) (by kernel_rfl) (Below.refl _ w2).drew ?_
  simp only [List.take_succ_cons, List.take_zero, List.drop_succ_cons, List.drop_zero]
  refine quiet_moveV rfl _ rfl (.int .i64 (-1)) rfl ?_
  simp only [Act.put, List.setIfInBounds_toArray, List.set_cons_zero, List.set_cons_succ]
  refine quiet_still rfl (.bool false) (fun w _ => by go_simp) ?_
  simp only [Act.put, List.setIfInBounds_toArray, List.set_cons_zero, List.set_cons_succ]
  refine quiet_moveV rfl _ rfl (.bool false) rfl ?_
  simp only [Act.put, List.setIfInBounds_toArray, List.set_cons_zero, List.set_cons_succ]
  refine quiet_skip (by kernel_rfl) ?_
  simp only [Act.put, List.setIfInBounds_toArray, List.set_cons_zero, List.set_cons_succ]
  refine quiet_skip (by kernel_rfl) ?_
  simp only [Act.put, List.setIfInBounds_toArray, List.set_cons_zero, List.set_cons_succ]
  refine quiet_skip (by kernel_rfl) ?_
  simp only [Act.put, List.setIfInBounds_toArray, List.set_cons_zero, List.set_cons_succ]
  refine quiet_skip (by kernel_rfl) ?_
  simp only [Act.put, List.setIfInBounds_toArray, List.set_cons_zero, List.set_cons_succ]
  refine quiet_skip (by kernel_rfl) ?_
  simp only [Act.put, List.setIfInBounds_toArray, List.set_cons_zero, List.set_cons_succ]
  refine quiet_skip (by kernel_rfl) ?_
  simp only [Act.put, List.setIfInBounds_toArray, List.set_cons_zero, List.set_cons_succ]
  refine quiet_skip (by kernel_rfl) ?_
  simp only [Act.put, List.setIfInBounds_toArray, List.set_cons_zero, List.set_cons_succ]
  refine quiet_skip (by kernel_rfl) ?_
  simp only [Act.put, List.setIfInBounds_toArray, List.set_cons_zero, List.set_cons_succ]
  unfold wpQuiet
  intro w3 hb
  have HB3 := Lib.hid (HB2.out.trans (hb.mono (by omega)))
  have HN3 := Lib.hid ((hb.block _ (by omega)).trans HN.out)
  have HY3 := Lib.hid (HY2.out.below hb)
  have hBsw3 : B ≤ w3.heap.size := by have := hb.size; omega
  have hlenw3 : ([] : List Syl).length < 50000 := by decide
  clear hb
  have c9_0 : w3.cell? ⟨w1.heap.size, 0, none⟩ = some (.int .i64 xc) := cell_of_row _ _ 0 _ _ _ HN3.out
  have c9_1 : w3.cell? ⟨w1.heap.size, 1, none⟩ = some (.int .i64 xl) := cell_of_row _ _ 1 _ _ _ HN3.out
  have c9_2 : w3.cell? ⟨w1.heap.size, 2, none⟩ = some (.int .i64 xr) := cell_of_row _ _ 2 _ _ _ HN3.out
  have f9_0 := frozen_of_row _ _ 0 _ _ HN3.out
  have f9_1 := frozen_of_row _ _ 1 _ _ HN3.out
  have f9_2 := frozen_of_row _ _ 2 _ _ HN3.out
  by_cases y1 : xc = 0
  · by_cases y2 : xl = 0
    · by_cases y3 : xr = 0
      · have hni : Syl.isNil ⟨xc, xl, xr⟩ = true := by unfold Syl.isNil; simp [y1, y2, y3]
        have HE := Lib.hid (HP.out.trans (by unfold addS; rw [hni]; try rfl))
        have q1 : (xc == 0) = true := by simp [y1]
        have q2 : (xl == 0) = true := by simp [y2]
        have q3 : (xr == 0) = true := by simp [y3]
        clear hni
        go_wp2_with fail
        go_ret
        rw [HE.out]
        exact ⟨_, _, rfl, HY3.out, HB3.out⟩
      · have hni : Syl.isNil ⟨xc, xl, xr⟩ = false := by unfold Syl.isNil; simp [y3]
        have HE := Lib.hid (HP.out.trans (by unfold addS; rw [hni]; try rfl))
        have q3 : (xr == 0) = false := by simp [y3]
        clear hni
        clear y1
        try clear y2
        try clear y3
        go_wp2_with (at_builtin; refine list_append_syl rfl _ _ rfl (B := B) (L := []) (HY3.out.below (below_alloc _ _)) hlenw3 (by simp; omega) ⟨xc, xl, xr⟩ w3.heap.size 1 (range_heap (cs := yl ⟨xc, xl, xr⟩) (heap_alloc_new _ _)) (by first | rfl | (simp; done) | (rw [hlenL]; rfl)) rfl ?_; intro ao' cap' w9 hfr hb9)
        have HF := Lib.hid hfr
        have HB9 := Lib.hid (HB3.out.trans (Below.trans ((Below.refl _ w3).alloc hBsw3 _) hb9))
        clear hfr hb9
        go_wp2_with fail
        go_ret
        rw [HE.out]
        exact ⟨ao', cap', by first | rfl | simp, HF.out, HB9.out⟩
    · have hni : Syl.isNil ⟨xc, xl, xr⟩ = false := by unfold Syl.isNil; simp [y2]
      have HE := Lib.hid (HP.out.trans (by unfold addS; rw [hni]; try rfl))
      have q2 : (xl == 0) = false := by simp [y2]
      clear hni
      clear y1
      try clear y2
      try clear y3
      go_wp2_with (at_builtin; refine list_append_syl rfl _ _ rfl (B := B) (L := []) (HY3.out.below (below_alloc _ _)) hlenw3 (by simp; omega) ⟨xc, xl, xr⟩ w3.heap.size 1 (range_heap (cs := yl ⟨xc, xl, xr⟩) (heap_alloc_new _ _)) (by first | rfl | (simp; done) | (rw [hlenL]; rfl)) rfl ?_; intro ao' cap' w9 hfr hb9)
      have HF := Lib.hid hfr
      have HB9 := Lib.hid (HB3.out.trans (Below.trans ((Below.refl _ w3).alloc hBsw3 _) hb9))
      clear hfr hb9
      go_wp2_with fail
      go_ret
      rw [HE.out]
      exact ⟨ao', cap', by first | rfl | simp, HF.out, HB9.out⟩
  · have hni : Syl.isNil ⟨xc, xl, xr⟩ = false := by unfold Syl.isNil; simp [y1]
    have HE := Lib.hid (HP.out.trans (by unfold addS; rw [hni]; try rfl))
    have q1 : (xc == 0) = false := by simp [y1]
    clear hni
    clear y1
    try clear y2
    try clear y3
    go_wp2_with (at_builtin; refine list_append_syl rfl _ _ rfl (B := B) (L := []) (HY3.out.below (below_alloc _ _)) hlenw3 (by simp; omega) ⟨xc, xl, xr⟩ w3.heap.size 1 (range_heap (cs := yl ⟨xc, xl, xr⟩) (heap_alloc_new _ _)) (by first | rfl | (simp; done) | (rw [hlenL]; rfl)) rfl ?_; intro ao' cap' w9 hfr hb9)
    have HF := Lib.hid hfr
    have HB9 := Lib.hid (HB3.out.trans (Below.trans ((Below.refl _ w3).alloc hBsw3 _) hb9))
    clear hfr hb9
    go_wp2_with fail
    go_ret
    rw [HE.out]
    exact ⟨ao', cap', by first | rfl | simp, HF.out, HB9.out⟩
set_option maxHeartbeats 8000000 in
set_option maxRecDepth 100000 in
theorem withLetter_other (c : UInt8) (B : Nat) (ao : Option Addr) (cap : Nat) (L : List Syl) (s : Syl) (w : World) (hB : B ≤ w.heap.size) (hlen : L.length < 1000) (h : YR B w ao cap (L ++ [s])) (hsm : s.sm 1000) (hcr : ¬ s.cr = (sylOf c).cr) :
    Calls Tryz.prog 69 #[.slice ao (L ++ [s]).length cap, .int .u8 (c.toNat : Int)] w fun e w' => ∃ ao' cap', e = .returned (.slice ao' (putS (L ++ [s]) c).length cap') ∧ YR B w' ao' cap' (putS (L ++ [s]) c) ∧ Below B w w' := by
  have HY := Lib.hid h
  have HM := Lib.hid hsm
  obtain ⟨b, off, rfl, hBb, hlb, hrs0, _⟩ := YR.at h (k := L.length) (a := s) (by simp)
  have hle := h.le
  have hmx := h.mx
  rw [List.length_append, List.length_singleton] at hle
  have HRS := Lib.hid hrs0
  have HLB0 := Lib.hid hlb
  clear h hrs0 hsm
  have CS := Lib.hid (fun W => syllableOf_any c W)
  have HSy : sylOf c = ⟨crX c, twL c, twR c⟩ := rfl
  obtain ⟨⟨t1, t2⟩, ⟨t3, t4⟩, t5, t6⟩ := tw_rng c
  unfold sylOf Syl.val at CS
  generalize hxc : crX c = xc at *
  generalize hxl : twL c = xl at *
  generalize hxr : twR c = xr at *
  clear hxc hxl hxr
  have HSY := Lib.hid HSy
  clear HSy
  have HP := Lib.hid (show putS (L ++ [s]) c = addS (L ++ [s]) ⟨xc, xl, xr⟩ by rw [putS_other hcr, HSY.out])
  have heq : (s.cr == Syl.cr ⟨xc, xl, xr⟩) = false := by rw [← HSY.out]; simpa using hcr
  have hlenL : (L ++ [s]).length = L.length + 1 := by simp
  rw [hlenL]
  clear hcr
  have l0 : (0 : Int) ≤ (L.length : Int) := by omega
  have l1 : (L.length : Int) < (L.length : Int) + 1 := by omega
  have hwl : IntKind.i64.wrap ((L.length : Int) + 1 - 1) = (L.length : Int) := by rw [show (L.length : Int) + 1 - 1 = (L.length : Int) by omega]; exact IntWalk.i64_in _ (by omega)
  go_enter Tryz.func69, Tryz.ntmps69
  go_wp2_with fail
  refine (CS.out _).mono ?_
  rintro e w1 ⟨rfl, hb1⟩
  have HB1 := Lib.hid (hb1.mono hB)
  have HY1 := Lib.hid (HY.out.below hb1)
  have hs1 := hb1.size
  have HBW1 := Lib.hid hb1
  clear hb1
  go_wp2_with fail
  obtain ⟨w2, hw2⟩ : ∃ W, W = w1.alloc (.cells #[.int .i64 xc, .int .i64 xl, .int .i64 xr] 81) := ⟨_, rfl⟩
  rw [← hw2]
  have HN := Lib.hid (show w2.heap[w1.heap.size]? = some (.cells #[.int .i64 xc, .int .i64 xl, .int .i64 xr] 81 (0, 0)) by rw [hw2]; exact heap_alloc_new _ _)
  have HB2 := Lib.hid (show Below B w w2 by rw [hw2]; exact HB1.out.alloc (by omega) _)
  have HY2 := Lib.hid (show YR B w2 (some ⟨b, off, none⟩) cap (L ++ [s]) by rw [hw2]; exact HY1.out.below (below_alloc _ _))
  have z2 : w2.heap.size = w1.heap.size + 1 := by rw [hw2]; simp
  have HBW2 := Lib.hid (show Below w1.heap.size w1 w2 by rw [hw2]; exact below_alloc _ _)
  clear hw2
  have HNW := HN.out
  have hrs : w2.rangeAt b (off + L.length * 3) (yl s) := range_belowY (range_belowY HRS.out HBW1.out HLB0.out) HBW2.out (by omega)
  have HLB := Lib.hid (show b < w2.heap.size by omega)
  have HLN := Lib.hid (show w1.heap.size < w2.heap.size by omega)
  have hrn : w2.rangeAt w1.heap.size 0 [.int .i64 xc, .int .i64 xl, .int .i64 xr] := range_heap HN.out
  have HC1 := Lib.hid (fun W => isCross_any s W)
  have HC2 := Lib.hid (fun W => isCross_any ⟨xc, xl, xr⟩ W)
  refine wp_region_class (fun w' => Below w2.heap.size w2 w') 11 (by kernel_rfl) (by kernel_rfl) (Below.refl _ w2).drew ?_
  simp only [List.take_succ_cons, List.take_zero, List.drop_succ_cons, List.drop_zero]
  refine quiet_moveV rfl _ rfl (.int .i64 (L.length : Int)) rfl ?_
  simp only [Act.put, List.setIfInBounds_toArray, List.set_cons_zero, List.set_cons_succ]
  refine quiet_still rfl (.bool true) (fun w _ => by go_simp) ?_
  simp only [Act.put, List.setIfInBounds_toArray, List.set_cons_zero, List.set_cons_succ]
  refine quiet_moveV rfl _ rfl (.bool true) rfl ?_
  simp only [Act.put, List.setIfInBounds_toArray, List.set_cons_zero, List.set_cons_succ]
  refine quietW_moveV (by kernel_rfl) _ rfl (.slice (some ⟨b, off, none⟩) (L.length + 1) cap) rfl ?_
  simp only [Act.put, List.setIfInBounds_toArray, List.set_cons_zero, List.set_cons_succ]
  refine quietW_moveV (by kernel_rfl) _ rfl (.int .i64 (L.length : Int)) rfl ?_
  simp only [Act.put, List.setIfInBounds_toArray, List.set_cons_zero, List.set_cons_succ]
  refine quietW_still (by kernel_rfl) (.pointer (some ⟨b, off + L.length * 3, none⟩)) (fun w _ => by go_simp) ?_
  simp only [Act.put, List.setIfInBounds_toArray, List.set_cons_zero, List.set_cons_succ]
  refine quietW_load_mid (by kernel_rfl) _ _ rfl b (off + L.length * 3) rfl (yl s) _ (fun w' h => range_belowY hrs h HLB.out) Tryz.underlying81 rfl (by kernel_rfl) ?_
  simp only [Act.put, List.setIfInBounds_toArray, List.set_cons_zero, List.set_cons_succ]
  refine quietW_call (by kernel_rfl) 87 _ _ rfl (enter_of Tryz.func87 (by decide) (by intro h; cases h)) _ (fun W h => (HC1.out W).mono fun e w' ⟨he, hw⟩ => ⟨he, h.trans (hw.mono h.size)⟩) ?_
  simp only [Act.put, List.setIfInBounds_toArray, List.set_cons_zero, List.set_cons_succ]
  refine quietW_load_mid (by kernel_rfl) _ _ rfl w1.heap.size 0 rfl [.int .i64 xc, .int .i64 xl, .int .i64 xr] _ (fun w' h => range_belowY hrn h HLN.out) Tryz.underlying81 rfl (by kernel_rfl) ?_
  simp only [Act.put, List.setIfInBounds_toArray, List.set_cons_zero, List.set_cons_succ]
  refine quietW_call (by kernel_rfl) 87 _ _ rfl (enter_of Tryz.func87 (by decide) (by intro h; cases h)) _ (fun W h => (HC2.out W).mono fun e w' ⟨he, hw⟩ => ⟨he, h.trans (hw.mono h.size)⟩) ?_
  simp only [Act.put, List.setIfInBounds_toArray, List.set_cons_zero, List.set_cons_succ]
  refine quietW_still (by kernel_rfl) (.bool false) (fun w _ => by first | (go_simp; done) | (go_simp; exact heq)) ?_
  simp only [Act.put, List.setIfInBounds_toArray, List.set_cons_zero, List.set_cons_succ]
  unfold wpQuiet
  intro w3 hb
  have HB3 := Lib.hid (HB2.out.trans (hb.mono (by omega)))
  have HN3 := Lib.hid ((hb.block _ (by omega)).trans HN.out)
  have HY3 := Lib.hid (HY2.out.below hb)
  have hBsw3 : B ≤ w3.heap.size := by have := hb.size; omega
  have hlenw3 : (L ++ [s]).length < 50000 := by rw [hlenL]; omega
  clear hb hrs hrn HNW heq
  have c9_0 : w3.cell? ⟨w1.heap.size, 0, none⟩ = some (.int .i64 xc) := cell_of_row _ _ 0 _ _ _ HN3.out
  have c9_1 : w3.cell? ⟨w1.heap.size, 1, none⟩ = some (.int .i64 xl) := cell_of_row _ _ 1 _ _ _ HN3.out
  have c9_2 : w3.cell? ⟨w1.heap.size, 2, none⟩ = some (.int .i64 xr) := cell_of_row _ _ 2 _ _ _ HN3.out
  have f9_0 := frozen_of_row _ _ 0 _ _ HN3.out
  have f9_1 := frozen_of_row _ _ 1 _ _ HN3.out
  have f9_2 := frozen_of_row _ _ 2 _ _ HN3.out
  by_cases y1 : xc = 0
  · by_cases y2 : xl = 0
    · by_cases y3 : xr = 0
      · have hni : Syl.isNil ⟨xc, xl, xr⟩ = true := by unfold Syl.isNil; simp [y1, y2, y3]
        have HE := Lib.hid (HP.out.trans (by unfold addS; rw [hni]; try rfl))
        have q1 : (xc == 0) = true := by simp [y1]
        have q2 : (xl == 0) = true := by simp [y2]
        have q3 : (xr == 0) = true := by simp [y3]
        clear hni
        go_wp2_with fail
        go_ret
        rw [HE.out]
        exact ⟨_, _, by first | rfl | (simp; done) | (rw [hlenL]; rfl), HY3.out, HB3.out⟩
      · have hni : Syl.isNil ⟨xc, xl, xr⟩ = false := by unfold Syl.isNil; simp [y3]
        have HE := Lib.hid (HP.out.trans (by unfold addS; rw [hni]; try rfl))
        have q3 : (xr == 0) = false := by simp [y3]
        clear hni
        clear y1
        try clear y2
        try clear y3
        go_wp2_with (at_builtin; refine list_append_syl rfl _ _ rfl (B := B) (L := L ++ [s]) (HY3.out.below (below_alloc _ _)) hlenw3 (by simp; omega) ⟨xc, xl, xr⟩ w3.heap.size 1 (range_heap (cs := yl ⟨xc, xl, xr⟩) (heap_alloc_new _ _)) (by first | rfl | (simp; done) | (rw [hlenL]; rfl)) rfl ?_; intro ao' cap' w9 hfr hb9)
        have HF := Lib.hid hfr
        have HB9 := Lib.hid (HB3.out.trans (Below.trans ((Below.refl _ w3).alloc hBsw3 _) hb9))
        clear hfr hb9
        go_wp2_with fail
        go_ret
        rw [HE.out]
        exact ⟨ao', cap', by first | rfl | simp, HF.out, HB9.out⟩
    · have hni : Syl.isNil ⟨xc, xl, xr⟩ = false := by unfold Syl.isNil; simp [y2]
      have HE := Lib.hid (HP.out.trans (by unfold addS; rw [hni]; try rfl))
      have q2 : (xl == 0) = false := by simp [y2]
      clear hni
      clear y1
      try clear y2
      try clear y3
      go_wp2_with (at_builtin; refine list_append_syl rfl _ _ rfl (B := B) (L := L ++ [s]) (HY3.out.below (below_alloc _ _)) hlenw3 (by simp; omega) ⟨xc, xl, xr⟩ w3.heap.size 1 (range_heap (cs := yl ⟨xc, xl, xr⟩) (heap_alloc_new _ _)) (by first | rfl | (simp; done) | (rw [hlenL]; rfl)) rfl ?_; intro ao' cap' w9 hfr hb9)
      have HF := Lib.hid hfr
      have HB9 := Lib.hid (HB3.out.trans (Below.trans ((Below.refl _ w3).alloc hBsw3 _) hb9))
      clear hfr hb9
      go_wp2_with fail
      go_ret
      rw [HE.out]
      exact ⟨ao', cap', by first | rfl | simp, HF.out, HB9.out⟩
  · have hni : Syl.isNil ⟨xc, xl, xr⟩ = false := by unfold Syl.isNil; simp [y1]
    have HE := Lib.hid (HP.out.trans (by unfold addS; rw [hni]; try rfl))
    have q1 : (xc == 0) = false := by simp [y1]
    clear hni
    clear y1
    try clear y2
    try clear y3
    go_wp2_with (at_builtin; refine list_append_syl rfl _ _ rfl (B := B) (L := L ++ [s]) (HY3.out.below (below_alloc _ _)) hlenw3 (by simp; omega) ⟨xc, xl, xr⟩ w3.heap.size 1 (range_heap (cs := yl ⟨xc, xl, xr⟩) (heap_alloc_new _ _)) (by first | rfl | (simp; done) | (rw [hlenL]; rfl)) rfl ?_; intro ao' cap' w9 hfr hb9)
    have HF := Lib.hid hfr
    have HB9 := Lib.hid (HB3.out.trans (Below.trans ((Below.refl _ w3).alloc hBsw3 _) hb9))
    clear hfr hb9
    go_wp2_with fail
    go_ret
    rw [HE.out]
    exact ⟨ao', cap', by first | rfl | simp, HF.out, HB9.out⟩
set_option maxHeartbeats 8000000 in
set_option maxRecDepth 100000 in
theorem withLetter_same (c : UInt8) (B : Nat) (ao : Option Addr) (cap : Nat) (L : List Syl) (s : Syl) (w : World) (hB : B ≤ w.heap.size) (hlen : L.length < 1000) (h : YR B w ao cap (L ++ [s])) (hsm : s.sm 1000) (hcr : s.cr = (sylOf c).cr) :
    Calls Tryz.prog 69 #[.slice ao (L ++ [s]).length cap, .int .u8 (c.toNat : Int)] w fun e w' => ∃ ao' cap', e = .returned (.slice ao' (putS (L ++ [s]) c).length cap') ∧ YR B w' ao' cap' (putS (L ++ [s]) c) ∧ Below B w w' := by
  have HY := Lib.hid h
  have HM := Lib.hid hsm
  obtain ⟨b, off, rfl, hBb, hlb, hrs0, _⟩ := YR.at h (k := L.length) (a := s) (by simp)
  have hle := h.le
  have hmx := h.mx
  rw [List.length_append, List.length_singleton] at hle
  have HRS := Lib.hid hrs0
  have HLB0 := Lib.hid hlb
  clear h hrs0 hsm
  have CS := Lib.hid (fun W => syllableOf_any c W)
  have HSy : sylOf c = ⟨crX c, twL c, twR c⟩ := rfl
  obtain ⟨⟨t1, t2⟩, ⟨t3, t4⟩, t5, t6⟩ := tw_rng c
  unfold sylOf Syl.val at CS
  generalize hxc : crX c = xc at *
  generalize hxl : twL c = xl at *
  generalize hxr : twR c = xr at *
  clear hxc hxl hxr
  have HSY := Lib.hid HSy
  clear HSy
  have HP := Lib.hid (show putS (L ++ [s]) c = addS L (s.add ⟨xc, xl, xr⟩) by rw [putS_same hcr, HSY.out])
  have heq : (s.cr == Syl.cr ⟨xc, xl, xr⟩) = true := by rw [← HSY.out]; simpa using hcr
  have hlenL : (L ++ [s]).length = L.length + 1 := by simp
  rw [hlenL]
  clear hcr
  obtain ⟨tx, htx⟩ : ∃ t, t = s.x + xc := ⟨_, rfl⟩
  obtain ⟨tl, htl⟩ : ∃ t, t = s.l + xl := ⟨_, rfl⟩
  obtain ⟨tr, htr⟩ : ∃ t, t = s.r + xr := ⟨_, rfl⟩
  have hadd : s.add ⟨xc, xl, xr⟩ = ⟨tx, tl, tr⟩ := by rw [htx, htl, htr]; rfl
  replace HP := Lib.hid (HP.out.trans (by rw [hadd]))
  have CPl : ∀ W, Calls Tryz.prog 88 #[s.val, .agg #[.int .i64 xc, .int .i64 xl, .int .i64 xr]] W fun e w' => e = .returned (.agg #[.int .i64 tx, .int .i64 tl, .int .i64 tr]) ∧ Below W.heap.size W w' := fun W => by
    have := plus_any s ⟨xc, xl, xr⟩ (by obtain ⟨⟨m1, m2⟩, ⟨m3, m4⟩, m5, m6⟩ := HM.out; unfold Syl.sm; omega) (by unfold Syl.sm; dsimp only; omega) W
    rw [hadd] at this
    exact this
  clear htx htl htr hadd
  replace CPl := Lib.hid CPl
  have CPlX := Lib.hid (fun W => plus_any s ⟨xc, xl, xr⟩ (by obtain ⟨⟨m1, m2⟩, ⟨m3, m4⟩, m5, m6⟩ := HM.out; unfold Syl.sm; omega) (by unfold Syl.sm; dsimp only; omega) W)
  have l0 : (0 : Int) ≤ (L.length : Int) := by omega
  have l1 : (L.length : Int) < (L.length : Int) + 1 := by omega
  have hwl : IntKind.i64.wrap ((L.length : Int) + 1 - 1) = (L.length : Int) := by rw [show (L.length : Int) + 1 - 1 = (L.length : Int) by omega]; exact IntWalk.i64_in _ (by omega)
  go_enter Tryz.func69, Tryz.ntmps69
  go_wp2_with fail
  refine (CS.out _).mono ?_
  rintro e w1 ⟨rfl, hb1⟩
  have HB1 := Lib.hid (hb1.mono hB)
  have HY1 := Lib.hid (HY.out.below hb1)
  have hs1 := hb1.size
  have HBW1 := Lib.hid hb1
  clear hb1
  go_wp2_with fail
  obtain ⟨w2, hw2⟩ : ∃ W, W = w1.alloc (.cells #[.int .i64 xc, .int .i64 xl, .int .i64 xr] 81) := ⟨_, rfl⟩
  rw [← hw2]
  have HN := Lib.hid (show w2.heap[w1.heap.size]? = some (.cells #[.int .i64 xc, .int .i64 xl, .int .i64 xr] 81 (0, 0)) by rw [hw2]; exact heap_alloc_new _ _)
  have HB2 := Lib.hid (show Below B w w2 by rw [hw2]; exact HB1.out.alloc (by omega) _)
  have HY2 := Lib.hid (show YR B w2 (some ⟨b, off, none⟩) cap (L ++ [s]) by rw [hw2]; exact HY1.out.below (below_alloc _ _))
  have z2 : w2.heap.size = w1.heap.size + 1 := by rw [hw2]; simp
  have HBW2 := Lib.hid (show Below w1.heap.size w1 w2 by rw [hw2]; exact below_alloc _ _)
  clear hw2
  have HNW := HN.out
  have hrs : w2.rangeAt b (off + L.length * 3) (yl s) := range_belowY (range_belowY HRS.out HBW1.out HLB0.out) HBW2.out (by omega)
  have HLB := Lib.hid (show b < w2.heap.size by omega)
  have HLN := Lib.hid (show w1.heap.size < w2.heap.size by omega)
  have hrn : w2.rangeAt w1.heap.size 0 [.int .i64 xc, .int .i64 xl, .int .i64 xr] := range_heap HN.out
  have HC1 := Lib.hid (fun W => isCross_any s W)
  have HC2 := Lib.hid (fun W => isCross_any ⟨xc, xl, xr⟩ W)
  refine wp_region_class (fun w' => Below w2.heap.size w2 w') 11 (by kernel_rfl) (by kernel_rfl) (Below.refl _ w2).drew ?_
  simp only [List.take_succ_cons, List.take_zero, List.drop_succ_cons, List.drop_zero]
  refine quiet_moveV rfl _ rfl (.int .i64 (L.length : Int)) rfl ?_
  simp only [Act.put, List.setIfInBounds_toArray, List.set_cons_zero, List.set_cons_succ]
  refine quiet_still rfl (.bool true) (fun w _ => by go_simp) ?_
  simp only [Act.put, List.setIfInBounds_toArray, List.set_cons_zero, List.set_cons_succ]
  refine quiet_moveV rfl _ rfl (.bool true) rfl ?_
  simp only [Act.put, List.setIfInBounds_toArray, List.set_cons_zero, List.set_cons_succ]
  refine quietW_moveV (by kernel_rfl) _ rfl (.slice (some ⟨b, off, none⟩) (L.length + 1) cap) rfl ?_
  simp only [Act.put, List.setIfInBounds_toArray, List.set_cons_zero, List.set_cons_succ]
  refine quietW_moveV (by kernel_rfl) _ rfl (.int .i64 (L.length : Int)) rfl ?_
  simp only [Act.put, List.setIfInBounds_toArray, List.set_cons_zero, List.set_cons_succ]
  refine quietW_still (by kernel_rfl) (.pointer (some ⟨b, off + L.length * 3, none⟩)) (fun w _ => by go_simp) ?_
  simp only [Act.put, List.setIfInBounds_toArray, List.set_cons_zero, List.set_cons_succ]
  refine quietW_load_mid (by kernel_rfl) _ _ rfl b (off + L.length * 3) rfl (yl s) _ (fun w' h => range_belowY hrs h HLB.out) Tryz.underlying81 rfl (by kernel_rfl) ?_
  simp only [Act.put, List.setIfInBounds_toArray, List.set_cons_zero, List.set_cons_succ]
  refine quietW_call (by kernel_rfl) 87 _ _ rfl (enter_of Tryz.func87 (by decide) (by intro h; cases h)) _ (fun W h => (HC1.out W).mono fun e w' ⟨he, hw⟩ => ⟨he, h.trans (hw.mono h.size)⟩) ?_
  simp only [Act.put, List.setIfInBounds_toArray, List.set_cons_zero, List.set_cons_succ]
  refine quietW_load_mid (by kernel_rfl) _ _ rfl w1.heap.size 0 rfl [.int .i64 xc, .int .i64 xl, .int .i64 xr] _ (fun w' h => range_belowY hrn h HLN.out) Tryz.underlying81 rfl (by kernel_rfl) ?_
  simp only [Act.put, List.setIfInBounds_toArray, List.set_cons_zero, List.set_cons_succ]
  refine quietW_call (by kernel_rfl) 87 _ _ rfl (enter_of Tryz.func87 (by decide) (by intro h; cases h)) _ (fun W h => (HC2.out W).mono fun e w' ⟨he, hw⟩ => ⟨he, h.trans (hw.mono h.size)⟩) ?_
  simp only [Act.put, List.setIfInBounds_toArray, List.set_cons_zero, List.set_cons_succ]
  refine quietW_still (by kernel_rfl) (.bool true) (fun w _ => by first | (go_simp; done) | (go_simp; exact heq)) ?_
  simp only [Act.put, List.setIfInBounds_toArray, List.set_cons_zero, List.set_cons_succ]
  unfold wpQuiet
  intro w3 hb
  have HB3 := Lib.hid (HB2.out.trans (hb.mono (by omega)))
  have HN3 := Lib.hid ((hb.block _ (by omega)).trans HN.out)
  have HY3 := Lib.hid (HY2.out.below hb)
  have z3 := hb.size
  have hrs3 := range_belowY hrs hb HLB.out
  have hrn3 := range_belowY hrn hb HLN.out
  have HLB3 := Lib.hid (show b < w3.heap.size by omega)
  have HLN3 := Lib.hid (show w1.heap.size < w3.heap.size by omega)
  have hca : (L.length : Int) ≤ (cap : Int) := by omega
  clear hb hrs hrn HNW heq
  go_wp2_with fail
  refine wp_region_class (fun w' => Below w3.heap.size w3 w') 11 (by kernel_rfl) (by kernel_rfl) (Below.refl _ w3).drew ?_
  simp only [List.take_succ_cons, List.take_zero, List.drop_succ_cons, List.drop_zero]
  refine quiet_moveV rfl _ rfl (.slice (some ⟨b, off, none⟩) (L.length + 1) cap) rfl ?_
  simp only [Act.put, List.setIfInBounds_toArray, List.set_cons_zero, List.set_cons_succ]
  refine quiet_moveV rfl _ rfl (.int .i64 (L.length : Int)) rfl ?_
  simp only [Act.put, List.setIfInBounds_toArray, List.set_cons_zero, List.set_cons_succ]
  refine quiet_moveV rfl _ rfl (.int .i64 (L.length : Int)) rfl ?_
  simp only [Act.put, List.setIfInBounds_toArray, List.set_cons_zero, List.set_cons_succ]
  refine quiet_still rfl (.slice (some ⟨b, off, none⟩) L.length L.length) (fun w _ => by first | (go_simp; done) | (go_simp; omega) | (go_simp; simp; omega)) ?_
  simp only [Act.put, List.setIfInBounds_toArray, List.set_cons_zero, List.set_cons_succ]
  refine quiet_moveV rfl _ rfl (.slice (some ⟨b, off, none⟩) (L.length + 1) cap) rfl ?_
  simp only [Act.put, List.setIfInBounds_toArray, List.set_cons_zero, List.set_cons_succ]
  refine quiet_moveV rfl _ rfl (.int .i64 (L.length : Int)) rfl ?_
  simp only [Act.put, List.setIfInBounds_toArray, List.set_cons_zero, List.set_cons_succ]
  refine quiet_still rfl (.pointer (some ⟨b, off + L.length * 3, none⟩)) (fun w _ => by go_simp) ?_
  simp only [Act.put, List.setIfInBounds_toArray, List.set_cons_zero, List.set_cons_succ]
  refine quiet_load_mid rfl _ _ rfl b (off + L.length * 3) rfl (yl s) _ (fun w' h => range_belowY hrs3 h HLB3.out) Tryz.underlying81 rfl (by kernel_rfl) ?_
  simp only [Act.put, List.setIfInBounds_toArray, List.set_cons_zero, List.set_cons_succ]
  refine quiet_load_mid rfl _ _ rfl w1.heap.size 0 rfl [.int .i64 xc, .int .i64 xl, .int .i64 xr] _ (fun w' h => range_belowY hrn3 h HLN3.out) Tryz.underlying81 rfl (by kernel_rfl) ?_
  simp only [Act.put, List.setIfInBounds_toArray, List.set_cons_zero, List.set_cons_succ]
  refine quiet_call rfl 88 _ _ rfl (enter_of Tryz.func88 (by decide) (by intro h; cases h)) _ (fun W h => (CPl.out W).mono fun e w' ⟨he, hw⟩ => ⟨he, h.trans (hw.mono h.size)⟩) ?_
  simp only [Act.put, List.setIfInBounds_toArray, List.set_cons_zero, List.set_cons_succ]
  refine quiet_still rfl (.slice (some ⟨b, off, none⟩) L.length L.length) (fun w _ => by go_simp) ?_
  simp only [Act.put, List.setIfInBounds_toArray, List.set_cons_zero, List.set_cons_succ]
  unfold wpQuiet
  intro w4 hb
  have HB4 := Lib.hid (HB3.out.trans (hb.mono (by omega)))
  have hn4 := (hb.block _ (by omega)).trans HN3.out
  have HY4 := Lib.hid ((HY3.out.below hb).cut)
  have z4 := hb.size
  refine wpList_store_row rfl 81 (.tmp 5) (.tmp 33) rfl w1.heap.size #[.int .i64 tx, .int .i64 tl, .int .i64 tr] rfl rfl 81 _ hn4 (by kernel_rfl) rfl (by simp [Value.oneCell']) ?_
  obtain ⟨w5, hw5⟩ : ∃ W, W = w4.setRow w1.heap.size #[.int .i64 tx, .int .i64 tl, .int .i64 tr] := ⟨_, rfl⟩
  rw [← hw5]
  have HX5 := Lib.hid (show w5.heap[w1.heap.size]? = some (.cells #[.int .i64 tx, .int .i64 tl, .int .i64 tr] 81 (0, 0)) by rw [hw5]; exact setRow_heap _ _ _ _ _ _ hn4)
  have hb5 : Below w1.heap.size w4 w5 := by rw [hw5]; exact below_setRow (Below.refl _ _) (Nat.le_refl _) _
  have HB5 := Lib.hid (HB4.out.trans (hb5.mono (by omega)))
  have HY5 := Lib.hid (HY4.out.belowC hb5 (fun b' off' e => by cases e; omega))
  have hBsw5 : B ≤ w5.heap.size := by have := hb5.size; omega
  have hlenw5 : L.length < 50000 := by omega
  clear hb hrs3 hrn3 hn4 hb5 hw5
  have c9_0 : w5.cell? ⟨w1.heap.size, 0, none⟩ = some (.int .i64 tx) := cell_of_row _ _ 0 _ _ _ HX5.out
  have c9_1 : w5.cell? ⟨w1.heap.size, 1, none⟩ = some (.int .i64 tl) := cell_of_row _ _ 1 _ _ _ HX5.out
  have c9_2 : w5.cell? ⟨w1.heap.size, 2, none⟩ = some (.int .i64 tr) := cell_of_row _ _ 2 _ _ _ HX5.out
  have f9_0 := frozen_of_row _ _ 0 _ _ HX5.out
  have f9_1 := frozen_of_row _ _ 1 _ _ HX5.out
  have f9_2 := frozen_of_row _ _ 2 _ _ HX5.out
  by_cases y1 : tx = 0
  · by_cases y2 : tl = 0
    · by_cases y3 : tr = 0
      · have hni : Syl.isNil ⟨tx, tl, tr⟩ = true := by unfold Syl.isNil; simp [y1, y2, y3]
        have HE := Lib.hid (HP.out.trans (by unfold addS; rw [hni]; try rfl))
        have q1 : (tx == 0) = true := by simp [y1]
        have q2 : (tl == 0) = true := by simp [y2]
        have q3 : (tr == 0) = true := by simp [y3]
        clear hni
        go_wp2_with fail
        go_ret
        rw [HE.out]
        exact ⟨_, _, rfl, HY5.out, HB5.out⟩
      · have hni : Syl.isNil ⟨tx, tl, tr⟩ = false := by unfold Syl.isNil; simp [y3]
        have HE := Lib.hid (HP.out.trans (by unfold addS; rw [hni]; try rfl))
        have q3 : (tr == 0) = false := by simp [y3]
        clear hni
        clear y1
        try clear y2
        try clear y3
        go_wp2_with (at_builtin; refine list_append_syl rfl _ _ rfl (B := B) (L := L) (HY5.out.below (below_alloc _ _)) hlenw5 (by simp; omega) ⟨tx, tl, tr⟩ w5.heap.size 1 (range_heap (cs := yl ⟨tx, tl, tr⟩) (heap_alloc_new _ _)) (by first | rfl | (simp; done) | (rw [hlenL]; rfl)) rfl ?_; intro ao' cap' w9 hfr hb9)
        have HF := Lib.hid hfr
        have HB9 := Lib.hid (HB5.out.trans (Below.trans ((Below.refl _ w5).alloc hBsw5 _) hb9))
        clear hfr hb9
        go_wp2_with fail
        go_ret
        rw [HE.out]
        exact ⟨ao', cap', by first | rfl | simp, HF.out, HB9.out⟩
    · have hni : Syl.isNil ⟨tx, tl, tr⟩ = false := by unfold Syl.isNil; simp [y2]
      have HE := Lib.hid (HP.out.trans (by unfold addS; rw [hni]; try rfl))
      have q2 : (tl == 0) = false := by simp [y2]
      clear hni
      clear y1
      try clear y2
      try clear y3
      go_wp2_with (at_builtin; refine list_append_syl rfl _ _ rfl (B := B) (L := L) (HY5.out.below (below_alloc _ _)) hlenw5 (by simp; omega) ⟨tx, tl, tr⟩ w5.heap.size 1 (range_heap (cs := yl ⟨tx, tl, tr⟩) (heap_alloc_new _ _)) (by first | rfl | (simp; done) | (rw [hlenL]; rfl)) rfl ?_; intro ao' cap' w9 hfr hb9)
      have HF := Lib.hid hfr
      have HB9 := Lib.hid (HB5.out.trans (Below.trans ((Below.refl _ w5).alloc hBsw5 _) hb9))
      clear hfr hb9
      go_wp2_with fail
      go_ret
      rw [HE.out]
      exact ⟨ao', cap', by first | rfl | simp, HF.out, HB9.out⟩
  · have hni : Syl.isNil ⟨tx, tl, tr⟩ = false := by unfold Syl.isNil; simp [y1]
    have HE := Lib.hid (HP.out.trans (by unfold addS; rw [hni]; try rfl))
    have q1 : (tx == 0) = false := by simp [y1]
    clear hni
    clear y1
    try clear y2
    try clear y3
    go_wp2_with (at_builtin; refine list_append_syl rfl _ _ rfl (B := B) (L := L) (HY5.out.below (below_alloc _ _)) hlenw5 (by simp; omega) ⟨tx, tl, tr⟩ w5.heap.size 1 (range_heap (cs := yl ⟨tx, tl, tr⟩) (heap_alloc_new _ _)) (by first | rfl | (simp; done) | (rw [hlenL]; rfl)) rfl ?_; intro ao' cap' w9 hfr hb9)
    have HF := Lib.hid hfr
    have HB9 := Lib.hid (HB5.out.trans (Below.trans ((Below.refl _ w5).alloc hBsw5 _) hb9))
    clear hfr hb9
    go_wp2_with fail
    go_ret
    rw [HE.out]
    exact ⟨ao', cap', by first | rfl | simp, HF.out, HB9.out⟩
theorem withLetter_any (c : UInt8) (B : Nat) (ao : Option Addr) (cap : Nat) (L : List Syl) (w : World) (hB : B ≤ w.heap.size) (hlen : L.length < 1000) (h : YR B w ao cap L) (hsm : ∀ s ∈ L, s.sm 1000) :
    Calls Tryz.prog 69 #[.slice ao L.length cap, .int .u8 (c.toNat : Int)] w fun e w' => ∃ ao' cap', e = .returned (.slice ao' (putS L c).length cap') ∧ YR B w' ao' cap' (putS L c) ∧ Below B w w' := by
  rcases List.eq_nil_or_concat L with rfl | ⟨L0, s, rfl⟩
  · exact withLetter_nil c B ao cap w hB h
  · rw [List.concat_eq_append] at *
    rw [List.length_append, List.length_singleton] at hlen
    by_cases hcr : s.cr = (sylOf c).cr
    · exact withLetter_same c B ao cap L0 s w hB (by omega) h (hsm s (by simp)) hcr
    · exact withLetter_other c B ao cap L0 s w hB (by omega) h (hsm s (by simp)) hcr
end Go.Proofs.YtmefpaoakblndaaGreatDoor
