/- The examples. -/
import Derived.Test.YtphckichdcibkaaXC
namespace Go.Proofs.Ytphckichdcibkaa
open Go.RowKit
set_option linter.unusedSimpArgs false
attribute [local irreducible] wpQuiet
def K1 : List Wk := [⟨0, sCT⟩, ⟨0, sCT⟩]
def K2 : List Wk := [⟨0, ⟨#[76, 76, 76, 80, 76, 76, 76]⟩⟩]
def K3 : List Wk := [⟨0, ⟨#[84, 84]⟩⟩, ⟨0, sCTC⟩, ⟨0, sP⟩, ⟨0, sCTC⟩, ⟨0, ⟨#[84, 84]⟩⟩]
theorem kn_plait (w : World) : Calls Try.prog 8 #[.int .i64 2] w (Out ⟨2, K1, 0⟩ w) := by
  have h : plaitM 2 = ⟨2, K1, 0⟩ := by kernel_rfl
  rw [← h]
  exact Plait_any 2 w
theorem kn_picot (w : World) : Calls Try.prog 10 #[.int .i64 3] w (Out ⟨2, K2, 0⟩ w) := by
  have h : picotM 3 = ⟨2, K2, 0⟩ := by kernel_rfl
  rw [← h]
  exact Picot_any 3 w
theorem kn_spider (w : World) : Calls Try.prog 13 #[.int .i64 1, .int .i64 2] w (Out ⟨2, K3, 0⟩ w) := by
  have h : spiderM 1 2 = ⟨2, K3, 0⟩ := by kernel_rfl
  rw [← h]
  exact Spider_any 1 2 w
theorem kn_foot1 (w : World) : Calls Try.prog 17 #[.int .i64 23, .int .i64 9] w (Out ⟨0, [], 3⟩ w) := by
  have h : footM 23 9 = ⟨0, [], 3⟩ := by kernel_rfl
  rw [← h]
  exact Footside_any 23 9 w
theorem kn_foot2 (w : World) : Calls Try.prog 17 #[.int .i64 5, .int .i64 37] w (Out ⟨0, [], 3⟩ w) := by
  have h : footM 5 37 = ⟨0, [], 3⟩ := by kernel_rfl
  rw [← h]
  exact Footside_any 5 37 w
theorem kn_fan (s : Nat) (w : World) (hlt : s < w.heap.size) (h0 : w.cell? ⟨s, 0, none⟩ = some (.int .i64 13)) : Calls Try.prog 24 #[.string ⟨#[102, 97, 110]⟩, .slice (some ⟨s, 0, none⟩) 1 1] w (Out ⟨0, [], 7⟩ w) := by
  have h : fanM 13 = ⟨0, [], 7⟩ := by kernel_rfl
  rw [← h]
  exact make_fan13 s w hlt h0
theorem kn_sp (s : Nat) (w : World) : Calls Try.prog 24 #[.string ⟨#[115, 112, 105, 100, 101, 114]⟩, .slice (some ⟨s, 0, none⟩) 1 1] w (Out ⟨0, [], 2⟩ w) := make_spider1 s w
theorem kn_star (w : World) : Calls Try.prog 24 #[.string ⟨#[115, 116, 97, 114]⟩, .slice none 0 0] w (Out ⟨0, [], 4⟩ w) := make_star w
set_option maxHeartbeats 40000000 in
set_option maxRecDepth 100000 in
theorem known_any (w : World) : Calls Try.prog 7 #[] w fun e w' => e = .returned (.bool true) ∧ Below w.heap.size w w' := by
  go_enter Try.func7, Try.ntmps7
  have HB := Lib.hid (Below.refl w.heap.size w)
  go_wp2_with fail
  refine (kn_plait _).mono ?_
  rintro e w1 ⟨v1, rfl, hin, hB⟩
  obtain ⟨a1, c1, e1, _⟩ := id hin
  subst e1
  have HIN := Lib.hid hin
  clear hin
  replace HB := Lib.hid (HB.out.trans (hB.mono HB.out.size))
  clear hB
  go_wp2_with fail
  have hX := heap_alloc_new w1 (.cells #[.int .i64 2, .slice a1 K1.length c1] 24)
  have hb := below_alloc w1 (.cells #[.int .i64 2, .slice a1 K1.length c1] 24)
  have hz : w1.heap.size < (w1.alloc (.cells #[.int .i64 2, .slice a1 K1.length c1] 24)).heap.size := by simp
  have hq : (w1.alloc (.cells #[.int .i64 2, .slice a1 K1.length c1] 24)).heap.size = w1.heap.size + 1 := by simp
  generalize w1.alloc (.cells #[.int .i64 2, .slice a1 K1.length c1] 24) = wa1 at *
  replace HB := Lib.hid (HB.out.trans (hb.mono HB.out.size))
  have HX1 := Lib.hid hX
  have HW1 := Lib.hid (HIN.out.below hb)
  have z1 := hz
  clear HIN
  clear hX hb hz
  clear hq
  refine (kn_picot _).mono ?_
  rintro e w2 ⟨v2, rfl, hin, hB⟩
  obtain ⟨a2, c2, e2, _⟩ := id hin
  subst e2
  have HIN := Lib.hid hin
  clear hin
  replace HB := Lib.hid (HB.out.trans (hB.mono HB.out.size))
  replace HX1 := Lib.hid (hb_below hB HX1.out z1)
  replace HW1 := Lib.hid (HW1.out.below hB)
  replace z1 : w1.heap.size < w2.heap.size := Nat.lt_of_lt_of_le z1 hB.size
  clear hB
  go_wp2_with fail
  have hX := heap_alloc_new w2 (.cells #[.int .i64 2, .slice a2 K2.length c2] 24)
  have hb := below_alloc w2 (.cells #[.int .i64 2, .slice a2 K2.length c2] 24)
  have hz : w2.heap.size < (w2.alloc (.cells #[.int .i64 2, .slice a2 K2.length c2] 24)).heap.size := by simp
  have hq : (w2.alloc (.cells #[.int .i64 2, .slice a2 K2.length c2] 24)).heap.size = w2.heap.size + 1 := by simp
  generalize w2.alloc (.cells #[.int .i64 2, .slice a2 K2.length c2] 24) = wa2 at *
  replace HB := Lib.hid (HB.out.trans (hb.mono HB.out.size))
  replace HX1 := Lib.hid (hb_below hb HX1.out z1)
  replace HW1 := Lib.hid (HW1.out.below hb)
  replace z1 : w1.heap.size < wa2.heap.size := Nat.lt_of_lt_of_le z1 hb.size
  have HX2 := Lib.hid hX
  have HW2 := Lib.hid (HIN.out.below hb)
  have z2 := hz
  clear HIN
  clear hX hb hz
  clear hq
  refine (kn_spider _).mono ?_
  rintro e w3 ⟨v3, rfl, hin, hB⟩
  obtain ⟨a3, c3, e3, _⟩ := id hin
  subst e3
  have HIN := Lib.hid hin
  clear hin
  replace HB := Lib.hid (HB.out.trans (hB.mono HB.out.size))
  replace HX1 := Lib.hid (hb_below hB HX1.out z1)
  replace HW1 := Lib.hid (HW1.out.below hB)
  replace z1 : w1.heap.size < w3.heap.size := Nat.lt_of_lt_of_le z1 hB.size
  replace HX2 := Lib.hid (hb_below hB HX2.out z2)
  replace HW2 := Lib.hid (HW2.out.below hB)
  replace z2 : w2.heap.size < w3.heap.size := Nat.lt_of_lt_of_le z2 hB.size
  clear hB
  go_wp2_with fail
  have hX := heap_alloc_new w3 (.cells #[.int .i64 2, .slice a3 K3.length c3] 24)
  have hb := below_alloc w3 (.cells #[.int .i64 2, .slice a3 K3.length c3] 24)
  have hz : w3.heap.size < (w3.alloc (.cells #[.int .i64 2, .slice a3 K3.length c3] 24)).heap.size := by simp
  have hq : (w3.alloc (.cells #[.int .i64 2, .slice a3 K3.length c3] 24)).heap.size = w3.heap.size + 1 := by simp
  generalize w3.alloc (.cells #[.int .i64 2, .slice a3 K3.length c3] 24) = wa3 at *
  replace HB := Lib.hid (HB.out.trans (hb.mono HB.out.size))
  replace HX1 := Lib.hid (hb_below hb HX1.out z1)
  replace HW1 := Lib.hid (HW1.out.below hb)
  replace z1 : w1.heap.size < wa3.heap.size := Nat.lt_of_lt_of_le z1 hb.size
  replace HX2 := Lib.hid (hb_below hb HX2.out z2)
  replace HW2 := Lib.hid (HW2.out.below hb)
  replace z2 : w2.heap.size < wa3.heap.size := Nat.lt_of_lt_of_le z2 hb.size
  have HX3 := Lib.hid hX
  have HW3 := Lib.hid (HIN.out.below hb)
  have z3 := hz
  clear HIN
  clear hX hb hz
  clear hq
  refine (kn_foot1 _).mono ?_
  rintro e w4 ⟨v4, rfl, hin, hB⟩
  obtain ⟨a4, c4, e4, _⟩ := id hin
  subst e4
  clear hin
  replace HB := Lib.hid (HB.out.trans (hB.mono HB.out.size))
  replace HX1 := Lib.hid (hb_below hB HX1.out z1)
  replace HW1 := Lib.hid (HW1.out.below hB)
  replace z1 : w1.heap.size < w4.heap.size := Nat.lt_of_lt_of_le z1 hB.size
  replace HX2 := Lib.hid (hb_below hB HX2.out z2)
  replace HW2 := Lib.hid (HW2.out.below hB)
  replace z2 : w2.heap.size < w4.heap.size := Nat.lt_of_lt_of_le z2 hB.size
  replace HX3 := Lib.hid (hb_below hB HX3.out z3)
  replace HW3 := Lib.hid (HW3.out.below hB)
  replace z3 : w3.heap.size < w4.heap.size := Nat.lt_of_lt_of_le z3 hB.size
  clear hB
  go_wp2_with fail
  have hX := heap_alloc_new w4 (.cells #[.int .i64 0, .slice a4 0 c4] 24)
  have hb := below_alloc w4 (.cells #[.int .i64 0, .slice a4 0 c4] 24)
  have hz : w4.heap.size < (w4.alloc (.cells #[.int .i64 0, .slice a4 0 c4] 24)).heap.size := by simp
  have hq : (w4.alloc (.cells #[.int .i64 0, .slice a4 0 c4] 24)).heap.size = w4.heap.size + 1 := by simp
  generalize w4.alloc (.cells #[.int .i64 0, .slice a4 0 c4] 24) = wa4 at *
  replace HB := Lib.hid (HB.out.trans (hb.mono HB.out.size))
  replace HX1 := Lib.hid (hb_below hb HX1.out z1)
  replace HW1 := Lib.hid (HW1.out.below hb)
  replace z1 : w1.heap.size < wa4.heap.size := Nat.lt_of_lt_of_le z1 hb.size
  replace HX2 := Lib.hid (hb_below hb HX2.out z2)
  replace HW2 := Lib.hid (HW2.out.below hb)
  replace z2 : w2.heap.size < wa4.heap.size := Nat.lt_of_lt_of_le z2 hb.size
  replace HX3 := Lib.hid (hb_below hb HX3.out z3)
  replace HW3 := Lib.hid (HW3.out.below hb)
  replace z3 : w3.heap.size < wa4.heap.size := Nat.lt_of_lt_of_le z3 hb.size
  clear hX hb hz
  clear hq
  refine (kn_foot2 _).mono ?_
  rintro e w5 ⟨v5, rfl, hin, hB⟩
  obtain ⟨a5, c5, e5, _⟩ := id hin
  subst e5
  clear hin
  replace HB := Lib.hid (HB.out.trans (hB.mono HB.out.size))
  replace HX1 := Lib.hid (hb_below hB HX1.out z1)
  replace HW1 := Lib.hid (HW1.out.below hB)
  replace z1 : w1.heap.size < w5.heap.size := Nat.lt_of_lt_of_le z1 hB.size
  replace HX2 := Lib.hid (hb_below hB HX2.out z2)
  replace HW2 := Lib.hid (HW2.out.below hB)
  replace z2 : w2.heap.size < w5.heap.size := Nat.lt_of_lt_of_le z2 hB.size
  replace HX3 := Lib.hid (hb_below hB HX3.out z3)
  replace HW3 := Lib.hid (HW3.out.below hB)
  replace z3 : w3.heap.size < w5.heap.size := Nat.lt_of_lt_of_le z3 hB.size
  clear hB
  go_wp2_with fail
  have hX := heap_alloc_new w5 (.cells #[.int .i64 0, .slice a5 0 c5] 24)
  have hb := below_alloc w5 (.cells #[.int .i64 0, .slice a5 0 c5] 24)
  have hz : w5.heap.size < (w5.alloc (.cells #[.int .i64 0, .slice a5 0 c5] 24)).heap.size := by simp
  have hq : (w5.alloc (.cells #[.int .i64 0, .slice a5 0 c5] 24)).heap.size = w5.heap.size + 1 := by simp
  generalize w5.alloc (.cells #[.int .i64 0, .slice a5 0 c5] 24) = wa5 at *
  replace HB := Lib.hid (HB.out.trans (hb.mono HB.out.size))
  replace HX1 := Lib.hid (hb_below hb HX1.out z1)
  replace HW1 := Lib.hid (HW1.out.below hb)
  replace z1 : w1.heap.size < wa5.heap.size := Nat.lt_of_lt_of_le z1 hb.size
  replace HX2 := Lib.hid (hb_below hb HX2.out z2)
  replace HW2 := Lib.hid (HW2.out.below hb)
  replace z2 : w2.heap.size < wa5.heap.size := Nat.lt_of_lt_of_le z2 hb.size
  replace HX3 := Lib.hid (hb_below hb HX3.out z3)
  replace HW3 := Lib.hid (HW3.out.below hb)
  replace z3 : w3.heap.size < wa5.heap.size := Nat.lt_of_lt_of_le z3 hb.size
  clear hX hb hz
  have hX := heap_alloc_new wa5 (.cells #[.int .i64 2] 3)
  have hb := below_alloc wa5 (.cells #[.int .i64 2] 3)
  have hz : wa5.heap.size < (wa5.alloc (.cells #[.int .i64 2] 3)).heap.size := by simp
  generalize wa5.alloc (.cells #[.int .i64 2] 3) = wb6 at *
  replace HB := Lib.hid (HB.out.trans (hb.mono HB.out.size))
  replace HX1 := Lib.hid (hb_below hb HX1.out z1)
  replace HW1 := Lib.hid (HW1.out.below hb)
  replace z1 : w1.heap.size < wb6.heap.size := Nat.lt_of_lt_of_le z1 hb.size
  replace HX2 := Lib.hid (hb_below hb HX2.out z2)
  replace HW2 := Lib.hid (HW2.out.below hb)
  replace z2 : w2.heap.size < wb6.heap.size := Nat.lt_of_lt_of_le z2 hb.size
  replace HX3 := Lib.hid (hb_below hb HX3.out z3)
  replace HW3 := Lib.hid (HW3.out.below hb)
  replace z3 : w3.heap.size < wb6.heap.size := Nat.lt_of_lt_of_le z3 hb.size
  have hs0 := cell_of_heap (j := 0) hX rfl
  clear hX hb
  rw [hq] at hz hs0
  clear hq
  refine (kn_sp (w5.heap.size + 1) _).mono ?_
  rintro e w6 ⟨v6, rfl, hin, hB⟩
  obtain ⟨a6, c6, e6, _⟩ := id hin
  subst e6
  clear hin
  replace HB := Lib.hid (HB.out.trans (hB.mono HB.out.size))
  replace HX1 := Lib.hid (hb_below hB HX1.out z1)
  replace HW1 := Lib.hid (HW1.out.below hB)
  replace z1 : w1.heap.size < w6.heap.size := Nat.lt_of_lt_of_le z1 hB.size
  replace HX2 := Lib.hid (hb_below hB HX2.out z2)
  replace HW2 := Lib.hid (HW2.out.below hB)
  replace z2 : w2.heap.size < w6.heap.size := Nat.lt_of_lt_of_le z2 hB.size
  replace HX3 := Lib.hid (hb_below hB HX3.out z3)
  replace HW3 := Lib.hid (HW3.out.below hB)
  replace z3 : w3.heap.size < w6.heap.size := Nat.lt_of_lt_of_le z3 hB.size
  clear hB hz hs0
  go_wp2_with fail
  have hX := heap_alloc_new w6 (.cells #[.int .i64 0, .slice a6 0 c6] 24)
  have hb := below_alloc w6 (.cells #[.int .i64 0, .slice a6 0 c6] 24)
  have hz : w6.heap.size < (w6.alloc (.cells #[.int .i64 0, .slice a6 0 c6] 24)).heap.size := by simp
  have hq : (w6.alloc (.cells #[.int .i64 0, .slice a6 0 c6] 24)).heap.size = w6.heap.size + 1 := by simp
  generalize w6.alloc (.cells #[.int .i64 0, .slice a6 0 c6] 24) = wa6 at *
  replace HB := Lib.hid (HB.out.trans (hb.mono HB.out.size))
  replace HX1 := Lib.hid (hb_below hb HX1.out z1)
  replace HW1 := Lib.hid (HW1.out.below hb)
  replace z1 : w1.heap.size < wa6.heap.size := Nat.lt_of_lt_of_le z1 hb.size
  replace HX2 := Lib.hid (hb_below hb HX2.out z2)
  replace HW2 := Lib.hid (HW2.out.below hb)
  replace z2 : w2.heap.size < wa6.heap.size := Nat.lt_of_lt_of_le z2 hb.size
  replace HX3 := Lib.hid (hb_below hb HX3.out z3)
  replace HW3 := Lib.hid (HW3.out.below hb)
  replace z3 : w3.heap.size < wa6.heap.size := Nat.lt_of_lt_of_le z3 hb.size
  clear hX hb hz
  clear hq
  refine (kn_star _).mono ?_
  rintro e w7 ⟨v7, rfl, hin, hB⟩
  obtain ⟨a7, c7, e7, _⟩ := id hin
  subst e7
  clear hin
  replace HB := Lib.hid (HB.out.trans (hB.mono HB.out.size))
  replace HX1 := Lib.hid (hb_below hB HX1.out z1)
  replace HW1 := Lib.hid (HW1.out.below hB)
  replace z1 : w1.heap.size < w7.heap.size := Nat.lt_of_lt_of_le z1 hB.size
  replace HX2 := Lib.hid (hb_below hB HX2.out z2)
  replace HW2 := Lib.hid (HW2.out.below hB)
  replace z2 : w2.heap.size < w7.heap.size := Nat.lt_of_lt_of_le z2 hB.size
  replace HX3 := Lib.hid (hb_below hB HX3.out z3)
  replace HW3 := Lib.hid (HW3.out.below hB)
  replace z3 : w3.heap.size < w7.heap.size := Nat.lt_of_lt_of_le z3 hB.size
  clear hB
  go_wp2_with fail
  have hX := heap_alloc_new w7 (.cells #[.int .i64 0, .slice a7 0 c7] 24)
  have hb := below_alloc w7 (.cells #[.int .i64 0, .slice a7 0 c7] 24)
  have hz : w7.heap.size < (w7.alloc (.cells #[.int .i64 0, .slice a7 0 c7] 24)).heap.size := by simp
  have hq : (w7.alloc (.cells #[.int .i64 0, .slice a7 0 c7] 24)).heap.size = w7.heap.size + 1 := by simp
  generalize w7.alloc (.cells #[.int .i64 0, .slice a7 0 c7] 24) = wa7 at *
  replace HB := Lib.hid (HB.out.trans (hb.mono HB.out.size))
  replace HX1 := Lib.hid (hb_below hb HX1.out z1)
  replace HW1 := Lib.hid (HW1.out.below hb)
  replace z1 : w1.heap.size < wa7.heap.size := Nat.lt_of_lt_of_le z1 hb.size
  replace HX2 := Lib.hid (hb_below hb HX2.out z2)
  replace HW2 := Lib.hid (HW2.out.below hb)
  replace z2 : w2.heap.size < wa7.heap.size := Nat.lt_of_lt_of_le z2 hb.size
  replace HX3 := Lib.hid (hb_below hb HX3.out z3)
  replace HW3 := Lib.hid (HW3.out.below hb)
  replace z3 : w3.heap.size < wa7.heap.size := Nat.lt_of_lt_of_le z3 hb.size
  clear hX hb hz
  have hX := heap_alloc_new wa7 (.cells #[.int .i64 13] 3)
  have hb := below_alloc wa7 (.cells #[.int .i64 13] 3)
  have hz : wa7.heap.size < (wa7.alloc (.cells #[.int .i64 13] 3)).heap.size := by simp
  generalize wa7.alloc (.cells #[.int .i64 13] 3) = wb8 at *
  replace HB := Lib.hid (HB.out.trans (hb.mono HB.out.size))
  replace HX1 := Lib.hid (hb_below hb HX1.out z1)
  replace HW1 := Lib.hid (HW1.out.below hb)
  replace z1 : w1.heap.size < wb8.heap.size := Nat.lt_of_lt_of_le z1 hb.size
  replace HX2 := Lib.hid (hb_below hb HX2.out z2)
  replace HW2 := Lib.hid (HW2.out.below hb)
  replace z2 : w2.heap.size < wb8.heap.size := Nat.lt_of_lt_of_le z2 hb.size
  replace HX3 := Lib.hid (hb_below hb HX3.out z3)
  replace HW3 := Lib.hid (HW3.out.below hb)
  replace z3 : w3.heap.size < wb8.heap.size := Nat.lt_of_lt_of_le z3 hb.size
  have hs0 := cell_of_heap (j := 0) hX rfl
  clear hX hb
  rw [hq] at hz hs0
  clear hq
  refine (kn_fan (w7.heap.size + 1) _ hz hs0).mono ?_
  rintro e w8 ⟨v8, rfl, hin, hB⟩
  obtain ⟨a8, c8, e8, _⟩ := id hin
  subst e8
  clear hin
  replace HB := Lib.hid (HB.out.trans (hB.mono HB.out.size))
  replace HX1 := Lib.hid (hb_below hB HX1.out z1)
  replace HW1 := Lib.hid (HW1.out.below hB)
  replace z1 : w1.heap.size < w8.heap.size := Nat.lt_of_lt_of_le z1 hB.size
  replace HX2 := Lib.hid (hb_below hB HX2.out z2)
  replace HW2 := Lib.hid (HW2.out.below hB)
  replace z2 : w2.heap.size < w8.heap.size := Nat.lt_of_lt_of_le z2 hB.size
  replace HX3 := Lib.hid (hb_below hB HX3.out z3)
  replace HW3 := Lib.hid (HW3.out.below hB)
  replace z3 : w3.heap.size < w8.heap.size := Nat.lt_of_lt_of_le z3 hB.size
  clear hB hz hs0
  go_wp2_with fail
  have hX := heap_alloc_new w8 (.cells #[.int .i64 0, .slice a8 0 c8] 24)
  have hb := below_alloc w8 (.cells #[.int .i64 0, .slice a8 0 c8] 24)
  have hz : w8.heap.size < (w8.alloc (.cells #[.int .i64 0, .slice a8 0 c8] 24)).heap.size := by simp
  have hq : (w8.alloc (.cells #[.int .i64 0, .slice a8 0 c8] 24)).heap.size = w8.heap.size + 1 := by simp
  generalize w8.alloc (.cells #[.int .i64 0, .slice a8 0 c8] 24) = wa8 at *
  replace HB := Lib.hid (HB.out.trans (hb.mono HB.out.size))
  replace HX1 := Lib.hid (hb_below hb HX1.out z1)
  replace HW1 := Lib.hid (HW1.out.below hb)
  replace z1 : w1.heap.size < wa8.heap.size := Nat.lt_of_lt_of_le z1 hb.size
  replace HX2 := Lib.hid (hb_below hb HX2.out z2)
  replace HW2 := Lib.hid (HW2.out.below hb)
  replace z2 : w2.heap.size < wa8.heap.size := Nat.lt_of_lt_of_le z2 hb.size
  replace HX3 := Lib.hid (hb_below hb HX3.out z3)
  replace HW3 := Lib.hid (HW3.out.below hb)
  replace z3 : w3.heap.size < wa8.heap.size := Nat.lt_of_lt_of_le z3 hb.size
  clear hX hb hz
  have hX := heap_alloc_new wa8 (.cells #[.int .i64 3, .int .i64 1] 3)
  have hb := below_alloc wa8 (.cells #[.int .i64 3, .int .i64 1] 3)
  have hz : wa8.heap.size < (wa8.alloc (.cells #[.int .i64 3, .int .i64 1] 3)).heap.size := by simp
  generalize wa8.alloc (.cells #[.int .i64 3, .int .i64 1] 3) = wb9 at *
  replace HB := Lib.hid (HB.out.trans (hb.mono HB.out.size))
  replace HX1 := Lib.hid (hb_below hb HX1.out z1)
  replace HW1 := Lib.hid (HW1.out.below hb)
  replace z1 : w1.heap.size < wb9.heap.size := Nat.lt_of_lt_of_le z1 hb.size
  replace HX2 := Lib.hid (hb_below hb HX2.out z2)
  replace HW2 := Lib.hid (HW2.out.below hb)
  replace z2 : w2.heap.size < wb9.heap.size := Nat.lt_of_lt_of_le z2 hb.size
  replace HX3 := Lib.hid (hb_below hb HX3.out z3)
  replace HW3 := Lib.hid (HW3.out.below hb)
  replace z3 : w3.heap.size < wb9.heap.size := Nat.lt_of_lt_of_le z3 hb.size
  have hs0 := cell_of_heap (j := 0) hX rfl
  have hs1 := cell_of_heap (j := 1) hX rfl
  clear hX hb
  rw [hq] at hz hs0 hs1
  clear hq
  refine (width_foot31 (w8.heap.size + 1) _ hz hs0 hs1).mono ?_
  rintro e w9 ⟨rfl, hB⟩
  replace HB := Lib.hid (HB.out.trans (hB.mono HB.out.size))
  replace HX1 := Lib.hid (hb_below hB HX1.out z1)
  replace HW1 := Lib.hid (HW1.out.below hB)
  replace z1 : w1.heap.size < w9.heap.size := Nat.lt_of_lt_of_le z1 hB.size
  replace HX2 := Lib.hid (hb_below hB HX2.out z2)
  replace HW2 := Lib.hid (HW2.out.below hB)
  replace z2 : w2.heap.size < w9.heap.size := Nat.lt_of_lt_of_le z2 hB.size
  replace HX3 := Lib.hid (hb_below hB HX3.out z3)
  replace HW3 := Lib.hid (HW3.out.below hB)
  replace z3 : w3.heap.size < w9.heap.size := Nat.lt_of_lt_of_le z3 hB.size
  clear hB hz hs0 hs1
  go_upto_region 10 with fail
  refine wp_region_held (S := fun w' => Below w9.heap.size w9 w') (by kernel_rfl) ?_
  have hS0 : Below w9.heap.size w9 w9.drew := (Below.refl _ w9).drew
  have HSA := Lib.hid (show ∀ (W : World) (o : Obj), Below w9.heap.size w9 W → Below w9.heap.size w9 (W.alloc o) from fun W o h => h.alloc h.size o)
  refine heldW_take (i := 0) rfl (by kernel_rfl) (by kernel_rfl) (by kernel_rfl) (.int .i64 0) (fun _ _ _ h => h) hS0 (by kernel_rfl) (fun w _ => by go_simp) ?_
  simp only [Act.put, List.getElem_toArray, List.getElem_cons_succ, List.getElem_cons_zero, List.setIfInBounds_toArray, List.set_cons_zero, List.set_cons_succ]
  refine heldW_take (i := 1) rfl (by kernel_rfl) (by kernel_rfl) (by kernel_rfl) (.bool true) (fun _ _ _ h => h) hS0 (by kernel_rfl) (fun w _ => by go_simp) ?_
  simp only [Act.put, List.getElem_toArray, List.getElem_cons_succ, List.getElem_cons_zero, List.setIfInBounds_toArray, List.set_cons_zero, List.set_cons_succ]
  refine heldW_take (i := 2) rfl (by kernel_rfl) (by kernel_rfl) (by kernel_rfl) (.bool true) (fun _ _ _ h => h) hS0 (by kernel_rfl) (fun w _ => by go_simp) ?_
  simp only [Act.put, List.getElem_toArray, List.getElem_cons_succ, List.getElem_cons_zero, List.setIfInBounds_toArray, List.set_cons_zero, List.set_cons_succ]
  refine heldW_take (i := 3) rfl (by kernel_rfl) (by kernel_rfl) (by kernel_rfl) (.int .i64 0) (fun _ _ _ h => h) hS0 (by kernel_rfl) (fun w _ => by go_simp) ?_
  simp only [Act.put, List.getElem_toArray, List.getElem_cons_succ, List.getElem_cons_zero, List.setIfInBounds_toArray, List.set_cons_zero, List.set_cons_succ]
  refine heldW_take (i := 4) rfl (by kernel_rfl) (by kernel_rfl) (by kernel_rfl) (.bool true) (fun _ _ _ h => h) hS0 (by kernel_rfl) (fun w _ => by go_simp) ?_
  simp only [Act.put, List.getElem_toArray, List.getElem_cons_succ, List.getElem_cons_zero, List.setIfInBounds_toArray, List.set_cons_zero, List.set_cons_succ]
  refine heldW_take (i := 5) rfl (by kernel_rfl) (by kernel_rfl) (by kernel_rfl) (.bool true) (fun _ _ _ h => h) hS0 (by kernel_rfl) (fun w _ => by go_simp) ?_
  simp only [Act.put, List.getElem_toArray, List.getElem_cons_succ, List.getElem_cons_zero, List.setIfInBounds_toArray, List.set_cons_zero, List.set_cons_succ]
  refine heldW_take (i := 6) rfl (by kernel_rfl) (by kernel_rfl) (by kernel_rfl) (.bool true) (fun _ _ _ h => h) hS0 (by kernel_rfl) (fun w _ => by go_simp) ?_
  simp only [Act.put, List.getElem_toArray, List.getElem_cons_succ, List.getElem_cons_zero, List.setIfInBounds_toArray, List.set_cons_zero, List.set_cons_succ]
  refine heldW_take (i := 7) rfl (by kernel_rfl) (by kernel_rfl) (by kernel_rfl) (.int .i64 0) (fun _ _ _ h => h) hS0 (by kernel_rfl) (fun w _ => by go_simp) ?_
  simp only [Act.put, List.getElem_toArray, List.getElem_cons_succ, List.getElem_cons_zero, List.setIfInBounds_toArray, List.set_cons_zero, List.set_cons_succ]
  refine heldW_take (i := 8) rfl (by kernel_rfl) (by kernel_rfl) (by kernel_rfl) (.bool true) (fun _ _ _ h => h) hS0 (by kernel_rfl) (fun w _ => by go_simp) ?_
  simp only [Act.put, List.getElem_toArray, List.getElem_cons_succ, List.getElem_cons_zero, List.setIfInBounds_toArray, List.set_cons_zero, List.set_cons_succ]
  refine heldW_take (i := 9) rfl (by kernel_rfl) (by kernel_rfl) (by kernel_rfl) (.bool true) (fun _ _ _ h => h) hS0 (by kernel_rfl) (fun w _ => by go_simp) ?_
  simp only [Act.put, List.getElem_toArray, List.getElem_cons_succ, List.getElem_cons_zero, List.setIfInBounds_toArray, List.set_cons_zero, List.set_cons_succ]
  refine heldW_take (i := 10) rfl (by kernel_rfl) (by kernel_rfl) (by kernel_rfl) (.bool true) (fun _ _ _ h => h) hS0 (by kernel_rfl) (fun w _ => by go_simp) ?_
  simp only [Act.put, List.getElem_toArray, List.getElem_cons_succ, List.getElem_cons_zero, List.setIfInBounds_toArray, List.set_cons_zero, List.set_cons_succ]
  refine heldW_load (i := 11) rfl (by kernel_rfl) (by kernel_rfl) (by kernel_rfl) [.int .i64 2, .slice a1 K1.length c1] (fun _ _ _ h => h) hS0 (by kernel_rfl) _ _ rfl w1.heap.size 0 rfl _ (fun w h => range_of_heap (hb_below h HX1.out z1)) Try.underlying24 rfl (by kernel_rfl) ?_
  simp only [Act.put, List.getElem_toArray, List.getElem_cons_succ, List.getElem_cons_zero, List.setIfInBounds_toArray, List.set_cons_zero, List.set_cons_succ]
  refine held_two (i := 12) (j := 13) (p := 70) (q := 71) (n := 2) (by decide) (by decide) (by kernel_rfl) (by kernel_rfl) (by kernel_rfl) rfl rfl rfl rfl (by kernel_rfl) (by kernel_rfl) (fun _ => by kernel_rfl) (fun _ => by kernel_rfl) (.cells #[.string ⟨#[67, 84]⟩, .string ⟨#[67, 84]⟩] 9) (.cells #[.int .i64 0, .int .i64 0] 3) (fun w => by go_simp) (fun v w => by go_simp) (fun w => by go_simp) (fun v w => by go_simp) HSA.out hS0 ?_
  intro W1 x1 y1 S1 hx1 hy1 lx1 ly1
  simp only [Act.put, List.getElem_toArray, List.getElem_cons_succ, List.getElem_cons_zero, List.setIfInBounds_toArray, List.set_cons_zero, List.set_cons_succ]
  refine heldW_call (i := 14) (by kernel_rfl) rfl (by kernel_rfl) 32 _ _ rfl (enter_of Try.func32 (by decide) (by intro h; cases h)) #[.int .i64 2, .slice (some ⟨x1, 0, none⟩) 2 2, .slice (some ⟨y1, 0, none⟩) 2 2] (by kernel_rfl) ?_
  refine (works_lit 2 K1 (by decide) [.string ⟨#[67, 84]⟩, .string ⟨#[67, 84]⟩] [.int .i64 0, .int .i64 0] rfl rfl W1 _ _ x1 y1 hx1 hy1 lx1 ly1 2 rfl).mono ?_
  rintro e V1 ⟨u1, rfl, hu1, bu1⟩
  have T1 := S1.trans (bu1.mono S1.size)
  refine ⟨_, rfl, T1, ?_⟩
  simp only [Act.put, List.getElem_toArray, List.getElem_cons_succ, List.getElem_cons_zero, List.setIfInBounds_toArray, List.set_cons_zero, List.set_cons_succ]
  refine heldW_call (i := 15) (by kernel_rfl) rfl (by kernel_rfl) 12 _ _ rfl (enter_of Try.func12 (by decide) (by intro h; cases h)) #[.agg #[.int .i64 2, .slice a1 K1.length c1], .agg #[.int .i64 2, u1]] (by kernel_rfl) ?_
  refine (Same_yes 2 K1 _ _ _ (HW1.out.below T1) hu1 (by decide)).mono ?_
  rintro e U1 ⟨rfl, bb1⟩
  have Z1 := T1.trans (bb1.mono T1.size)
  refine ⟨_, rfl, Z1, ?_⟩
  simp only [Act.put, List.getElem_toArray, List.getElem_cons_succ, List.getElem_cons_zero, List.setIfInBounds_toArray, List.set_cons_zero, List.set_cons_succ]
  refine heldW_take (i := 16) rfl (by kernel_rfl) (by kernel_rfl) (by kernel_rfl) (.bool true) (fun _ _ _ h => h) Z1 (by kernel_rfl) (fun w _ => by go_simp) ?_
  simp only [Act.put, List.getElem_toArray, List.getElem_cons_succ, List.getElem_cons_zero, List.setIfInBounds_toArray, List.set_cons_zero, List.set_cons_succ]
  refine heldW_take (i := 17) rfl (by kernel_rfl) (by kernel_rfl) (by kernel_rfl) (.bool true) (fun _ _ _ h => h) Z1 (by kernel_rfl) (fun w _ => by go_simp) ?_
  simp only [Act.put, List.getElem_toArray, List.getElem_cons_succ, List.getElem_cons_zero, List.setIfInBounds_toArray, List.set_cons_zero, List.set_cons_succ]
  refine heldW_load (i := 18) rfl (by kernel_rfl) (by kernel_rfl) (by kernel_rfl) [.int .i64 2, .slice a2 K2.length c2] (fun _ _ _ h => h) Z1 (by kernel_rfl) _ _ rfl w2.heap.size 0 rfl _ (fun w h => range_of_heap (hb_below h HX2.out z2)) Try.underlying24 rfl (by kernel_rfl) ?_
  simp only [Act.put, List.getElem_toArray, List.getElem_cons_succ, List.getElem_cons_zero, List.setIfInBounds_toArray, List.set_cons_zero, List.set_cons_succ]
  refine held_two (i := 19) (j := 20) (p := 77) (q := 78) (n := 1) (by decide) (by decide) (by kernel_rfl) (by kernel_rfl) (by kernel_rfl) rfl rfl rfl rfl (by kernel_rfl) (by kernel_rfl) (fun _ => by kernel_rfl) (fun _ => by kernel_rfl) (.cells #[.string ⟨#[76, 76, 76, 80, 76, 76, 76]⟩] 9) (.cells #[.int .i64 0] 3) (fun w => by go_simp) (fun v w => by go_simp) (fun w => by go_simp) (fun v w => by go_simp) HSA.out Z1 ?_
  intro W2 x2 y2 S2 hx2 hy2 lx2 ly2
  simp only [Act.put, List.getElem_toArray, List.getElem_cons_succ, List.getElem_cons_zero, List.setIfInBounds_toArray, List.set_cons_zero, List.set_cons_succ]
  refine heldW_call (i := 21) (by kernel_rfl) rfl (by kernel_rfl) 32 _ _ rfl (enter_of Try.func32 (by decide) (by intro h; cases h)) #[.int .i64 2, .slice (some ⟨x2, 0, none⟩) 1 1, .slice (some ⟨y2, 0, none⟩) 1 1] (by kernel_rfl) ?_
  refine (works_lit 2 K2 (by decide) [.string ⟨#[76, 76, 76, 80, 76, 76, 76]⟩] [.int .i64 0] rfl rfl W2 _ _ x2 y2 hx2 hy2 lx2 ly2 1 rfl).mono ?_
  rintro e V2 ⟨u2, rfl, hu2, bu2⟩
  have T2 := S2.trans (bu2.mono S2.size)
  refine ⟨_, rfl, T2, ?_⟩
  simp only [Act.put, List.getElem_toArray, List.getElem_cons_succ, List.getElem_cons_zero, List.setIfInBounds_toArray, List.set_cons_zero, List.set_cons_succ]
  refine heldW_call (i := 22) (by kernel_rfl) rfl (by kernel_rfl) 12 _ _ rfl (enter_of Try.func12 (by decide) (by intro h; cases h)) #[.agg #[.int .i64 2, .slice a2 K2.length c2], .agg #[.int .i64 2, u2]] (by kernel_rfl) ?_
  refine (Same_yes 2 K2 _ _ _ (HW2.out.below T2) hu2 (by decide)).mono ?_
  rintro e U2 ⟨rfl, bb2⟩
  have Z2 := T2.trans (bb2.mono T2.size)
  refine ⟨_, rfl, Z2, ?_⟩
  simp only [Act.put, List.getElem_toArray, List.getElem_cons_succ, List.getElem_cons_zero, List.setIfInBounds_toArray, List.set_cons_zero, List.set_cons_succ]
  refine heldW_take (i := 23) rfl (by kernel_rfl) (by kernel_rfl) (by kernel_rfl) (.bool true) (fun _ _ _ h => h) Z2 (by kernel_rfl) (fun w _ => by go_simp) ?_
  simp only [Act.put, List.getElem_toArray, List.getElem_cons_succ, List.getElem_cons_zero, List.setIfInBounds_toArray, List.set_cons_zero, List.set_cons_succ]
  refine heldW_take (i := 24) rfl (by kernel_rfl) (by kernel_rfl) (by kernel_rfl) (.bool true) (fun _ _ _ h => h) Z2 (by kernel_rfl) (fun w _ => by go_simp) ?_
  simp only [Act.put, List.getElem_toArray, List.getElem_cons_succ, List.getElem_cons_zero, List.setIfInBounds_toArray, List.set_cons_zero, List.set_cons_succ]
  refine heldW_load (i := 25) rfl (by kernel_rfl) (by kernel_rfl) (by kernel_rfl) [.int .i64 2, .slice a3 K3.length c3] (fun _ _ _ h => h) Z2 (by kernel_rfl) _ _ rfl w3.heap.size 0 rfl _ (fun w h => range_of_heap (hb_below h HX3.out z3)) Try.underlying24 rfl (by kernel_rfl) ?_
  simp only [Act.put, List.getElem_toArray, List.getElem_cons_succ, List.getElem_cons_zero, List.setIfInBounds_toArray, List.set_cons_zero, List.set_cons_succ]
  refine held_two (i := 26) (j := 27) (p := 84) (q := 85) (n := 5) (by decide) (by decide) (by kernel_rfl) (by kernel_rfl) (by kernel_rfl) rfl rfl rfl rfl (by kernel_rfl) (by kernel_rfl) (fun _ => by kernel_rfl) (fun _ => by kernel_rfl) (.cells #[.string ⟨#[84, 84]⟩, .string ⟨#[67, 84, 67]⟩, .string ⟨#[80]⟩, .string ⟨#[67, 84, 67]⟩, .string ⟨#[84, 84]⟩] 9) (.cells #[.int .i64 0, .int .i64 0, .int .i64 0, .int .i64 0, .int .i64 0] 3) (fun w => by go_simp) (fun v w => by go_simp) (fun w => by go_simp) (fun v w => by go_simp) HSA.out Z2 ?_
  intro W3 x3 y3 S3 hx3 hy3 lx3 ly3
  simp only [Act.put, List.getElem_toArray, List.getElem_cons_succ, List.getElem_cons_zero, List.setIfInBounds_toArray, List.set_cons_zero, List.set_cons_succ]
  refine heldW_call (i := 28) (by kernel_rfl) rfl (by kernel_rfl) 32 _ _ rfl (enter_of Try.func32 (by decide) (by intro h; cases h)) #[.int .i64 2, .slice (some ⟨x3, 0, none⟩) 5 5, .slice (some ⟨y3, 0, none⟩) 5 5] (by kernel_rfl) ?_
  refine (works_lit 2 K3 (by decide) [.string ⟨#[84, 84]⟩, .string ⟨#[67, 84, 67]⟩, .string ⟨#[80]⟩, .string ⟨#[67, 84, 67]⟩, .string ⟨#[84, 84]⟩] [.int .i64 0, .int .i64 0, .int .i64 0, .int .i64 0, .int .i64 0] rfl rfl W3 _ _ x3 y3 hx3 hy3 lx3 ly3 5 rfl).mono ?_
  rintro e V3 ⟨u3, rfl, hu3, bu3⟩
  have T3 := S3.trans (bu3.mono S3.size)
  refine ⟨_, rfl, T3, ?_⟩
  simp only [Act.put, List.getElem_toArray, List.getElem_cons_succ, List.getElem_cons_zero, List.setIfInBounds_toArray, List.set_cons_zero, List.set_cons_succ]
  refine heldW_call (i := 29) (by kernel_rfl) rfl (by kernel_rfl) 12 _ _ rfl (enter_of Try.func12 (by decide) (by intro h; cases h)) #[.agg #[.int .i64 2, .slice a3 K3.length c3], .agg #[.int .i64 2, u3]] (by kernel_rfl) ?_
  refine (Same_yes 2 K3 _ _ _ (HW3.out.below T3) hu3 (by decide)).mono ?_
  rintro e U3 ⟨rfl, bb3⟩
  have Z3 := T3.trans (bb3.mono T3.size)
  refine ⟨_, rfl, Z3, ?_⟩
  simp only [Act.put, List.getElem_toArray, List.getElem_cons_succ, List.getElem_cons_zero, List.setIfInBounds_toArray, List.set_cons_zero, List.set_cons_succ]
  refine heldW_take (i := 30) rfl (by kernel_rfl) (by kernel_rfl) (by kernel_rfl) (.bool true) (fun _ _ _ h => h) Z3 (by kernel_rfl) (fun w _ => by go_simp) ?_
  simp only [Act.put, List.getElem_toArray, List.getElem_cons_succ, List.getElem_cons_zero, List.setIfInBounds_toArray, List.set_cons_zero, List.set_cons_succ]
  refine heldW_take (i := 31) rfl (by kernel_rfl) (by kernel_rfl) (by kernel_rfl) (.bool true) (fun _ _ _ h => h) Z3 (by kernel_rfl) (fun w _ => by go_simp) ?_
  simp only [Act.put, List.getElem_toArray, List.getElem_cons_succ, List.getElem_cons_zero, List.setIfInBounds_toArray, List.set_cons_zero, List.set_cons_succ]
  refine heldW_take (i := 32) rfl (by kernel_rfl) (by kernel_rfl) (by kernel_rfl) (.int .i64 3) (fun _ _ _ h => h) Z3 (by kernel_rfl) (fun w _ => by go_simp) ?_
  simp only [Act.put, List.getElem_toArray, List.getElem_cons_succ, List.getElem_cons_zero, List.setIfInBounds_toArray, List.set_cons_zero, List.set_cons_succ]
  refine heldW_take (i := 33) rfl (by kernel_rfl) (by kernel_rfl) (by kernel_rfl) (.bool true) (fun _ _ _ h => h) Z3 (by kernel_rfl) (fun w _ => by go_simp) ?_
  simp only [Act.put, List.getElem_toArray, List.getElem_cons_succ, List.getElem_cons_zero, List.setIfInBounds_toArray, List.set_cons_zero, List.set_cons_succ]
  refine heldW_take (i := 34) rfl (by kernel_rfl) (by kernel_rfl) (by kernel_rfl) (.bool true) (fun _ _ _ h => h) Z3 (by kernel_rfl) (fun w _ => by go_simp) ?_
  simp only [Act.put, List.getElem_toArray, List.getElem_cons_succ, List.getElem_cons_zero, List.setIfInBounds_toArray, List.set_cons_zero, List.set_cons_succ]
  refine heldW_take (i := 35) rfl (by kernel_rfl) (by kernel_rfl) (by kernel_rfl) (.bool true) (fun _ _ _ h => h) Z3 (by kernel_rfl) (fun w _ => by go_simp) ?_
  simp only [Act.put, List.getElem_toArray, List.getElem_cons_succ, List.getElem_cons_zero, List.setIfInBounds_toArray, List.set_cons_zero, List.set_cons_succ]
  refine heldW_take (i := 36) rfl (by kernel_rfl) (by kernel_rfl) (by kernel_rfl) (.int .i64 3) (fun _ _ _ h => h) Z3 (by kernel_rfl) (fun w _ => by go_simp) ?_
  simp only [Act.put, List.getElem_toArray, List.getElem_cons_succ, List.getElem_cons_zero, List.setIfInBounds_toArray, List.set_cons_zero, List.set_cons_succ]
  refine heldW_take (i := 37) rfl (by kernel_rfl) (by kernel_rfl) (by kernel_rfl) (.bool true) (fun _ _ _ h => h) Z3 (by kernel_rfl) (fun w _ => by go_simp) ?_
  simp only [Act.put, List.getElem_toArray, List.getElem_cons_succ, List.getElem_cons_zero, List.setIfInBounds_toArray, List.set_cons_zero, List.set_cons_succ]
  refine heldW_take (i := 38) rfl (by kernel_rfl) (by kernel_rfl) (by kernel_rfl) (.bool true) (fun _ _ _ h => h) Z3 (by kernel_rfl) (fun w _ => by go_simp) ?_
  simp only [Act.put, List.getElem_toArray, List.getElem_cons_succ, List.getElem_cons_zero, List.setIfInBounds_toArray, List.set_cons_zero, List.set_cons_succ]
  refine heldW_take (i := 39) rfl (by kernel_rfl) (by kernel_rfl) (by kernel_rfl) (.bool true) (fun _ _ _ h => h) Z3 (by kernel_rfl) (fun w _ => by go_simp) ?_
  simp only [Act.put, List.getElem_toArray, List.getElem_cons_succ, List.getElem_cons_zero, List.setIfInBounds_toArray, List.set_cons_zero, List.set_cons_succ]
  refine heldW_take (i := 40) rfl (by kernel_rfl) (by kernel_rfl) (by kernel_rfl) (.int .i64 2) (fun _ _ _ h => h) Z3 (by kernel_rfl) (fun w _ => by go_simp) ?_
  simp only [Act.put, List.getElem_toArray, List.getElem_cons_succ, List.getElem_cons_zero, List.setIfInBounds_toArray, List.set_cons_zero, List.set_cons_succ]
  refine heldW_take (i := 41) rfl (by kernel_rfl) (by kernel_rfl) (by kernel_rfl) (.bool true) (fun _ _ _ h => h) Z3 (by kernel_rfl) (fun w _ => by go_simp) ?_
  simp only [Act.put, List.getElem_toArray, List.getElem_cons_succ, List.getElem_cons_zero, List.setIfInBounds_toArray, List.set_cons_zero, List.set_cons_succ]
  refine heldW_take (i := 42) rfl (by kernel_rfl) (by kernel_rfl) (by kernel_rfl) (.bool true) (fun _ _ _ h => h) Z3 (by kernel_rfl) (fun w _ => by go_simp) ?_
  simp only [Act.put, List.getElem_toArray, List.getElem_cons_succ, List.getElem_cons_zero, List.setIfInBounds_toArray, List.set_cons_zero, List.set_cons_succ]
  refine heldW_take (i := 43) rfl (by kernel_rfl) (by kernel_rfl) (by kernel_rfl) (.bool true) (fun _ _ _ h => h) Z3 (by kernel_rfl) (fun w _ => by go_simp) ?_
  simp only [Act.put, List.getElem_toArray, List.getElem_cons_succ, List.getElem_cons_zero, List.setIfInBounds_toArray, List.set_cons_zero, List.set_cons_succ]
  refine heldW_take (i := 44) rfl (by kernel_rfl) (by kernel_rfl) (by kernel_rfl) (.int .i64 4) (fun _ _ _ h => h) Z3 (by kernel_rfl) (fun w _ => by go_simp) ?_
  simp only [Act.put, List.getElem_toArray, List.getElem_cons_succ, List.getElem_cons_zero, List.setIfInBounds_toArray, List.set_cons_zero, List.set_cons_succ]
  refine heldW_take (i := 45) rfl (by kernel_rfl) (by kernel_rfl) (by kernel_rfl) (.bool true) (fun _ _ _ h => h) Z3 (by kernel_rfl) (fun w _ => by go_simp) ?_
  simp only [Act.put, List.getElem_toArray, List.getElem_cons_succ, List.getElem_cons_zero, List.setIfInBounds_toArray, List.set_cons_zero, List.set_cons_succ]
  refine heldW_take (i := 46) rfl (by kernel_rfl) (by kernel_rfl) (by kernel_rfl) (.bool true) (fun _ _ _ h => h) Z3 (by kernel_rfl) (fun w _ => by go_simp) ?_
  simp only [Act.put, List.getElem_toArray, List.getElem_cons_succ, List.getElem_cons_zero, List.setIfInBounds_toArray, List.set_cons_zero, List.set_cons_succ]
  refine heldW_take (i := 47) rfl (by kernel_rfl) (by kernel_rfl) (by kernel_rfl) (.bool true) (fun _ _ _ h => h) Z3 (by kernel_rfl) (fun w _ => by go_simp) ?_
  simp only [Act.put, List.getElem_toArray, List.getElem_cons_succ, List.getElem_cons_zero, List.setIfInBounds_toArray, List.set_cons_zero, List.set_cons_succ]
  refine heldW_take (i := 48) rfl (by kernel_rfl) (by kernel_rfl) (by kernel_rfl) (.int .i64 7) (fun _ _ _ h => h) Z3 (by kernel_rfl) (fun w _ => by go_simp) ?_
  simp only [Act.put, List.getElem_toArray, List.getElem_cons_succ, List.getElem_cons_zero, List.setIfInBounds_toArray, List.set_cons_zero, List.set_cons_succ]
  refine heldW_take (i := 49) rfl (by kernel_rfl) (by kernel_rfl) (by kernel_rfl) (.bool true) (fun _ _ _ h => h) Z3 (by kernel_rfl) (fun w _ => by go_simp) ?_
  simp only [Act.put, List.getElem_toArray, List.getElem_cons_succ, List.getElem_cons_zero, List.setIfInBounds_toArray, List.set_cons_zero, List.set_cons_succ]
  refine heldW_take (i := 50) rfl (by kernel_rfl) (by kernel_rfl) (by kernel_rfl) (.bool true) (fun _ _ _ h => h) Z3 (by kernel_rfl) (fun w _ => by go_simp) ?_
  simp only [Act.put, List.getElem_toArray, List.getElem_cons_succ, List.getElem_cons_zero, List.setIfInBounds_toArray, List.set_cons_zero, List.set_cons_succ]
  refine heldW_take (i := 51) rfl (by kernel_rfl) (by kernel_rfl) (by kernel_rfl) (.bool true) (fun _ _ _ h => h) Z3 (by kernel_rfl) (fun w _ => by go_simp) ?_
  simp only [Act.put, List.getElem_toArray, List.getElem_cons_succ, List.getElem_cons_zero, List.setIfInBounds_toArray, List.set_cons_zero, List.set_cons_succ]
  refine heldW_take (i := 52) rfl (by kernel_rfl) (by kernel_rfl) (by kernel_rfl) (.int .i64 4) (fun _ _ _ h => h) Z3 (by kernel_rfl) (fun w _ => by go_simp) ?_
  simp only [Act.put, List.getElem_toArray, List.getElem_cons_succ, List.getElem_cons_zero, List.setIfInBounds_toArray, List.set_cons_zero, List.set_cons_succ]
  refine heldW_take (i := 53) rfl (by kernel_rfl) (by kernel_rfl) (by kernel_rfl) (.bool true) (fun _ _ _ h => h) Z3 (by kernel_rfl) (fun w _ => by go_simp) ?_
  simp only [Act.put, List.getElem_toArray, List.getElem_cons_succ, List.getElem_cons_zero, List.setIfInBounds_toArray, List.set_cons_zero, List.set_cons_succ]
  refine heldW_take (i := 54) rfl (by kernel_rfl) (by kernel_rfl) (by kernel_rfl) (.bool true) (fun _ _ _ h => h) Z3 (by kernel_rfl) (fun w _ => by go_simp) ?_
  simp only [Act.put, List.getElem_toArray, List.getElem_cons_succ, List.getElem_cons_zero, List.setIfInBounds_toArray, List.set_cons_zero, List.set_cons_succ]
  refine heldW_take (i := 55) rfl (by kernel_rfl) (by kernel_rfl) (by kernel_rfl) (.bool true) (fun _ _ _ h => h) Z3 (by kernel_rfl) (fun w _ => by go_simp) ?_
  simp only [Act.put, List.getElem_toArray, List.getElem_cons_succ, List.getElem_cons_zero, List.setIfInBounds_toArray, List.set_cons_zero, List.set_cons_succ]
  refine heldW_take (i := 56) rfl (by kernel_rfl) (by kernel_rfl) (by kernel_rfl) (.int .i64 0) (fun _ _ _ h => h) Z3 (by kernel_rfl) (fun w _ => by go_simp) ?_
  simp only [Act.put, List.getElem_toArray, List.getElem_cons_succ, List.getElem_cons_zero, List.setIfInBounds_toArray, List.set_cons_zero, List.set_cons_succ]
  refine heldW_take (i := 57) rfl (by kernel_rfl) (by kernel_rfl) (by kernel_rfl) (.bool true) (fun _ _ _ h => h) Z3 (by kernel_rfl) (fun w _ => by go_simp) ?_
  simp only [Act.put, List.getElem_toArray, List.getElem_cons_succ, List.getElem_cons_zero, List.setIfInBounds_toArray, List.set_cons_zero, List.set_cons_succ]
  refine heldW_take (i := 58) rfl (by kernel_rfl) (by kernel_rfl) (by kernel_rfl) (.bool true) (fun _ _ _ h => h) Z3 (by kernel_rfl) (fun w _ => by go_simp) ?_
  simp only [Act.put, List.getElem_toArray, List.getElem_cons_succ, List.getElem_cons_zero, List.setIfInBounds_toArray, List.set_cons_zero, List.set_cons_succ]
  refine heldW_take (i := 59) rfl (by kernel_rfl) (by kernel_rfl) (by kernel_rfl) (.bool true) (fun _ _ _ h => h) Z3 (by kernel_rfl) (fun w _ => by go_simp) ?_
  simp only [Act.put, List.getElem_toArray, List.getElem_cons_succ, List.getElem_cons_zero, List.setIfInBounds_toArray, List.set_cons_zero, List.set_cons_succ]
  refine heldW_call (i := 60) (by kernel_rfl) rfl (by kernel_rfl) 21 [] _ rfl (enter_of Try.func21 (by decide) (by intro h; cases h)) #[] (by kernel_rfl) ?_
  refine (shown_any _).mono ?_
  rintro e U4 ⟨rfl, bb4⟩
  have Z4 := Z3.trans (bb4.mono Z3.size)
  refine ⟨_, rfl, Z4, ?_⟩
  simp only [Act.put, List.getElem_toArray, List.getElem_cons_succ, List.getElem_cons_zero, List.setIfInBounds_toArray, List.set_cons_zero, List.set_cons_succ]
  refine heldW_take (i := 61) rfl (by kernel_rfl) (by kernel_rfl) (by kernel_rfl) (.bool true) (fun _ _ _ h => h) Z4 (by kernel_rfl) (fun w _ => by go_simp) ?_
  simp only [Act.put, List.getElem_toArray, List.getElem_cons_succ, List.getElem_cons_zero, List.setIfInBounds_toArray, List.set_cons_zero, List.set_cons_succ]
  refine heldW_take (i := 62) rfl (by kernel_rfl) (by kernel_rfl) (by kernel_rfl) (.bool true) (fun _ _ _ h => h) Z4 (by kernel_rfl) (fun w _ => by go_simp) ?_
  simp only [Act.put, List.getElem_toArray, List.getElem_cons_succ, List.getElem_cons_zero, List.setIfInBounds_toArray, List.set_cons_zero, List.set_cons_succ]
  refine wpAnyH_done (by kernel_rfl) ?_ _
  go_wp2_with fail
  go_ret
  exact ⟨by first | rfl | (simp; done), HB.out.trans (Z4.mono HB.out.size)⟩
end Go.Proofs.Ytphckichdcibkaa
