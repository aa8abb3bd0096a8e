/- The law of the plain motifs. -/
import Derived.Test.YtgbdccoimmkmeaaWZ
import Derived.Test.YtgbdccoimmkmeaaWT
import Derived.Test.YtgbdccoimmkmeaaWX
namespace Go.Proofs.Ytgbdccoimmkmeaa
open Go.RowKit
set_option linter.unusedSimpArgs false
theorem rep_le (m k : Nat) (W : List Wk) (h : m * W.length ≤ k) : (repL m W).length ≤ k := by rw [repL_len]; exact h
theorem plait_le (n : Int) : (plaitM n).L.length ≤ 1000 := by
  unfold plaitM
  split
  · exact rep_le _ _ _ (by simp; omega)
  · simp [moBad]
theorem picot_le (n : Int) : (picotM n).L.length ≤ 1000 := by
  unfold picotM
  split <;> simp [moBad]
theorem spider_le (n t : Int) : (spiderM n t).L.length ≤ 1000 := by
  unfold spiderM
  split
  · have h1 := legs_len n.toNat t.toNat
    have h2 := bodyL_len n.toNat
    have h3 : n.toNat * n.toNat ≤ 6 * 6 := Nat.mul_le_mul (by omega) (by omega)
    simp only [spiderL, List.length_append, List.length_singleton]
    omega
  · simp [moBad]
theorem fan_le (n : Int) : (fanM n).L.length ≤ 1000 := by
  unfold fanM
  split
  · have h := fanR_len n.toNat (2 * n.toNat - 1) (by omega)
    rw [fanR_all n.toNat (by omega)] at h
    show (fanL n.toNat).length ≤ 1000
    omega
  · simp [moBad]
theorem foot_le (n m : Int) : (footM n m).L.length ≤ 1000 := by
  unfold footM
  split
  · split
    · rename_i h1 h2
      refine rep_le _ _ _ ?_
      rw [footRow_len]
      have hn : ((2 * n.toNat + 1 : Nat) : Int) = 2 * n + 1 := by omega
      have hd : ((400 / (2 * n.toNat + 1) : Nat) : Int) = 400 / (2 * n + 1) := by
        rw [Int.natCast_ediv, hn]
        rfl
      have h3 : m.toNat ≤ 400 / (2 * n.toNat + 1) := by omega
      have h4 : m.toNat * (2 * n.toNat + 1) ≤ 400 / (2 * n.toNat + 1) * (2 * n.toNat + 1) := Nat.mul_le_mul_right _ h3
      have h5 : 400 / (2 * n.toNat + 1) * (2 * n.toNat + 1) ≤ 400 := Nat.div_mul_le_self _ _
      omega
    · simp [moBad]
  · simp [moBad]
theorem ws_store {w wf : World} {g : Nat} {v : Value} {X : List Wk} {c0 c1 : Value} {t : TypeId} (h : WS w v X) (hx : w.heap[g]? = some (.cells #[c0, c1] t (0, 0)))
    (hk : ∀ k : Nat, ¬ k = g → wf.heap[k]? = w.heap[k]?) (hz : wf.heap.size = w.heap.size) : WS wf v X := by
  obtain ⟨a, c, e, h1, h2, h3, h4⟩ := h
  refine ⟨a, c, e, h1, h2, h3, fun k x hk0 => ?_⟩
  obtain ⟨b, off, e2, hlt, hr⟩ := h4 k x hk0
  refine ⟨b, off, e2, by omega, fun j u hu => ?_⟩
  have hne : b ≠ g := by
    rintro rfl
    have h5 := hr 2 _ rfl
    unfold World.cell? at h5
    simp [hx] at h5
  exact (World.cell?_of_block (a := ⟨b, off + k * 3 + j, none⟩) (hk b hne)).trans (hr j u hu)
set_option maxHeartbeats 8000000 in
set_option maxRecDepth 100000 in
theorem plain_row (n m : Int) (w : World) (_ : (Lit.int .i64 n).wf = true) (_ : (Lit.int .i64 m).wf = true) : Calls Try.prog 3 #[.int .i64 n, .int .i64 m] w fun e w' => e = .returned (.bool true) ∧ Below w.heap.size w w' := by
  have CA1 : ∀ W, Calls Try.prog 8 #[.int .i64 n] W (Out (plaitM n) W) := fun W => Plait_any n W
  have CB1 : ∀ W, Calls Try.prog 9 #[.int .i64 n] W (Out (plaitM n) W) := fun W => refPlait_any n W
  have l1 := plait_le n
  generalize plaitM n = M1 at *
  have CA2 : ∀ W, Calls Try.prog 10 #[.int .i64 n] W (Out (picotM n) W) := fun W => Picot_any n W
  have CB2 : ∀ W, Calls Try.prog 11 #[.int .i64 n] W (Out (picotM n) W) := fun W => refPicot_any n W
  have l2 := picot_le n
  generalize picotM n = M2 at *
  have CA3 : ∀ W, Calls Try.prog 13 #[.int .i64 n, .int .i64 m] W (Out (spiderM n m) W) := fun W => Spider_any n m W
  have CB3 : ∀ W, Calls Try.prog 14 #[.int .i64 n, .int .i64 m] W (Out (spiderM n m) W) := fun W => refSpider_any n m W
  have l3 := spider_le n m
  generalize spiderM n m = M3 at *
  have CA4 : ∀ W, Calls Try.prog 15 #[.int .i64 n] W (Out (fanM n) W) := fun W => Fan_any n W
  have CB4 : ∀ W, Calls Try.prog 16 #[.int .i64 n] W (Out (fanM n) W) := fun W => refFan_any n W
  have l4 := fan_le n
  generalize fanM n = M4 at *
  have CA5 : ∀ W, Calls Try.prog 17 #[.int .i64 n, .int .i64 m] W (Out (footM n m) W) := fun W => Footside_any n m W
  have CB5 : ∀ W, Calls Try.prog 18 #[.int .i64 n, .int .i64 m] W (Out (footM n m) W) := fun W => refFootside_any n m W
  have l5 := foot_le n m
  generalize footM n m = M5 at *
  replace CA1 := Lib.hid CA1
  replace CB1 := Lib.hid CB1
  replace CA2 := Lib.hid CA2
  replace CB2 := Lib.hid CB2
  replace CA3 := Lib.hid CA3
  replace CB3 := Lib.hid CB3
  replace CA4 := Lib.hid CA4
  replace CB4 := Lib.hid CB4
  replace CA5 := Lib.hid CA5
  replace CB5 := Lib.hid CB5
  go_enter Try.func3, Try.ntmps3
  go_wp2_with fail
  refine (CA1.out _).mono ?_
  rintro e w1 ⟨v1, rfl, hi1, hB1⟩
  obtain ⟨a1, c1, e1, _⟩ := id hi1
  subst e1
  have HI1 := Lib.hid hi1
  clear hi1
  go_wp2_with fail
  have hX1 := heap_alloc_new w1 (.cells #[.int .i64 M1.p, .slice a1 M1.L.length c1] 24)
  have hb1 := below_alloc w1 (.cells #[.int .i64 M1.p, .slice a1 M1.L.length c1] 24)
  have hz1 : w1.heap.size < (w1.alloc (.cells #[.int .i64 M1.p, .slice a1 M1.L.length c1] 24)).heap.size := by simp
  generalize w1.alloc (.cells #[.int .i64 M1.p, .slice a1 M1.L.length c1] 24) = wa1 at *
  refine (CB1.out _).mono ?_
  rintro e w2 ⟨v2, rfl, hi2, hB2⟩
  obtain ⟨a2, c2, e2, _⟩ := id hi2
  subst e2
  have HI2 := Lib.hid hi2
  clear hi2
  go_wp2_with fail
  have hX2 := heap_alloc_new w2 (.cells #[.int .i64 M1.p, .slice a2 M1.L.length c2] 24)
  have hb2 := below_alloc w2 (.cells #[.int .i64 M1.p, .slice a2 M1.L.length c2] 24)
  have hz2 : w2.heap.size < (w2.alloc (.cells #[.int .i64 M1.p, .slice a2 M1.L.length c2] 24)).heap.size := by simp
  generalize w2.alloc (.cells #[.int .i64 M1.p, .slice a2 M1.L.length c2] 24) = wa2 at *
  refine (CA2.out _).mono ?_
  rintro e w3 ⟨v3, rfl, hi3, hB3⟩
  obtain ⟨a3, c3, e3, _⟩ := id hi3
  subst e3
  have HI3 := Lib.hid hi3
  clear hi3
  go_wp2_with fail
  have hX3 := heap_alloc_new w3 (.cells #[.int .i64 M2.p, .slice a3 M2.L.length c3] 24)
  have hb3 := below_alloc w3 (.cells #[.int .i64 M2.p, .slice a3 M2.L.length c3] 24)
  have hz3 : w3.heap.size < (w3.alloc (.cells #[.int .i64 M2.p, .slice a3 M2.L.length c3] 24)).heap.size := by simp
  generalize w3.alloc (.cells #[.int .i64 M2.p, .slice a3 M2.L.length c3] 24) = wa3 at *
  refine (CB2.out _).mono ?_
  rintro e w4 ⟨v4, rfl, hi4, hB4⟩
  obtain ⟨a4, c4, e4, _⟩ := id hi4
  subst e4
  have HI4 := Lib.hid hi4
  clear hi4
  have hX4 := heap_alloc_new w4 (.cells #[.int .i64 M2.p, .slice a4 M2.L.length c4] 24)
  have hb4 := below_alloc w4 (.cells #[.int .i64 M2.p, .slice a4 M2.L.length c4] 24)
  have hz4 : w4.heap.size < (w4.alloc (.cells #[.int .i64 M2.p, .slice a4 M2.L.length c4] 24)).heap.size := by simp
  go_upto_region 5 with fail
  generalize w4.alloc (.cells #[.int .i64 M2.p, .slice a4 M2.L.length c4] 24) = wa4 at *
  have s1 := hB1.size
  have t1 := hb1.size
  have s2 := hB2.size
  have t2 := hb2.size
  have s3 := hB3.size
  have t3 := hb3.size
  have s4 := hB4.size
  have t4 := hb4.size
  have HX4 := Lib.hid hX4
  have HX3 := Lib.hid (hb_below hb4 (hb_below hB4 hX3 hz3) (by omega))
  have HX2 := Lib.hid (hb_below hb4 (hb_below hB4 (hb_below hb3 (hb_below hB3 hX2 hz2) (by omega)) (by omega)) (by omega))
  have HX1 := Lib.hid (hb_below hb4 (hb_below hB4 (hb_below hb3 (hb_below hB3 (hb_below hb2 (hb_below hB2 hX1 hz1) (by omega)) (by omega)) (by omega)) (by omega)) (by omega))
  have HW1 := Lib.hid (((((((HI1.out.below hb1).below hB2).below hb2).below hB3).below hb3).below hB4).below hb4)
  have HW2 := Lib.hid (((((HI2.out.below hb2).below hB3).below hb3).below hB4).below hb4)
  have HW3 := Lib.hid (((HI3.out.below hb3).below hB4).below hb4)
  have HW4 := Lib.hid (HI4.out.below hb4)
  have HB := Lib.hid (hB1.trans (((((((hb1.trans (hB2.mono t1)).trans (hb2.mono (by omega))).trans (hB3.mono (by omega))).trans (hb3.mono (by omega))).trans (hB4.mono (by omega))).trans (hb4.mono (by omega))).mono s1))
  have o1 : w.heap.size ≤ w1.heap.size := by omega
  have o2 : w1.heap.size < w2.heap.size := by omega
  have o3 : w2.heap.size < w3.heap.size := by omega
  have o4 : w3.heap.size < w4.heap.size := by omega
  have o5 : w4.heap.size < wa4.heap.size := by omega
  clear hX1 hX2 hX3 hX4 hb1 hb2 hb3 hb4 hB1 hB2 hB3 hB4 HI1 HI2 HI3 HI4 hz1 hz2 hz3 hz4 s1 s2 s3 s4 t1 t2 t3 t4
  have d1 := cell_of_heap (j := 0) HX1.out rfl
  have f1 := cell_of_heap (j := 1) HX1.out rfl
  have d2 := cell_of_heap (j := 0) HX2.out rfl
  have f2 := cell_of_heap (j := 1) HX2.out rfl
  have d3 := cell_of_heap (j := 0) HX3.out rfl
  have f3 := cell_of_heap (j := 1) HX3.out rfl
  have d4 := cell_of_heap (j := 0) HX4.out rfl
  have f4 := cell_of_heap (j := 1) HX4.out rfl
  go_wp2_with fail
  refine (Same_yes M1.p M1.L _ _ _ HW1.out HW2.out l1).mono ?_
  rintro e w11 ⟨rfl, hbn⟩
  clear d1 d2 d3 d4 f1 f2 f3 f4
  replace HX1 := Lib.hid (hb_below hbn HX1.out (by omega))
  replace HW1 := Lib.hid (HW1.out.below hbn)
  replace HX2 := Lib.hid (hb_below hbn HX2.out (by omega))
  replace HW2 := Lib.hid (HW2.out.below hbn)
  replace HX3 := Lib.hid (hb_below hbn HX3.out (by omega))
  replace HW3 := Lib.hid (HW3.out.below hbn)
  replace HX4 := Lib.hid (hb_below hbn HX4.out (by omega))
  replace HW4 := Lib.hid (HW4.out.below hbn)
  replace HB := Lib.hid (HB.out.trans (hbn.mono (by omega)))
  have oo := hbn.size
  replace o5 : w4.heap.size < w11.heap.size := by omega
  clear oo hbn
  have d1 := cell_of_heap (j := 0) HX1.out rfl
  have f1 := cell_of_heap (j := 1) HX1.out rfl
  have d2 := cell_of_heap (j := 0) HX2.out rfl
  have f2 := cell_of_heap (j := 1) HX2.out rfl
  have d3 := cell_of_heap (j := 0) HX3.out rfl
  have f3 := cell_of_heap (j := 1) HX3.out rfl
  have d4 := cell_of_heap (j := 0) HX4.out rfl
  have f4 := cell_of_heap (j := 1) HX4.out rfl
  go_wp2_with fail
  refine (Same_yes M2.p M2.L _ _ _ HW3.out HW4.out l2).mono ?_
  rintro e w12 ⟨rfl, hbn⟩
  clear d1 d2 d3 d4 f1 f2 f3 f4
  replace HX1 := Lib.hid (hb_below hbn HX1.out (by omega))
  replace HW1 := Lib.hid (HW1.out.below hbn)
  replace HX2 := Lib.hid (hb_below hbn HX2.out (by omega))
  replace HW2 := Lib.hid (HW2.out.below hbn)
  replace HX3 := Lib.hid (hb_below hbn HX3.out (by omega))
  replace HW3 := Lib.hid (HW3.out.below hbn)
  replace HX4 := Lib.hid (hb_below hbn HX4.out (by omega))
  replace HW4 := Lib.hid (HW4.out.below hbn)
  replace HB := Lib.hid (HB.out.trans (hbn.mono (by omega)))
  have oo := hbn.size
  replace o5 : w4.heap.size < w12.heap.size := by omega
  clear oo hbn
  go_wp2_with fail
  refine (CA3.out _).mono ?_
  rintro e w13 ⟨vv, rfl, hin, hbn⟩
  obtain ⟨a13, c13, ee, _⟩ := id hin
  subst ee
  replace HX1 := Lib.hid (hb_below hbn HX1.out (by omega))
  replace HW1 := Lib.hid (HW1.out.below hbn)
  replace HX2 := Lib.hid (hb_below hbn HX2.out (by omega))
  replace HW2 := Lib.hid (HW2.out.below hbn)
  replace HX3 := Lib.hid (hb_below hbn HX3.out (by omega))
  replace HW3 := Lib.hid (HW3.out.below hbn)
  replace HX4 := Lib.hid (hb_below hbn HX4.out (by omega))
  replace HW4 := Lib.hid (HW4.out.below hbn)
  replace HB := Lib.hid (HB.out.trans (hbn.mono (by omega)))
  have oo := hbn.size
  replace o5 : w4.heap.size < w13.heap.size := by omega
  clear oo hbn
  have HN := Lib.hid hin
  clear hin
  go_wp2_with (refine store_row rfl _ _ _ rfl w1.heap.size _ rfl rfl _ _ HX1.out (by kernel_rfl) rfl (by kernel_rfl) ?_)
  intro wf13 hf hk2 hzf hBf
  replace HW2 := Lib.hid (ws_store HW2.out HX1.out hk2 hzf)
  replace HW3 := Lib.hid (ws_store HW3.out HX1.out hk2 hzf)
  replace HW4 := Lib.hid (ws_store HW4.out HX1.out hk2 hzf)
  replace HW1 := Lib.hid (ws_store HN.out HX1.out hk2 hzf)
  replace HX2 := Lib.hid ((hk2 _ (by omega)).trans HX2.out)
  replace HX3 := Lib.hid ((hk2 _ (by omega)).trans HX3.out)
  replace HX4 := Lib.hid ((hk2 _ (by omega)).trans HX4.out)
  replace HX1 := Lib.hid hf
  replace HB := Lib.hid (hBf _ _ HB.out (by omega))
  replace o5 : w4.heap.size < wf13.heap.size := by omega
  clear HN hf hk2 hzf hBf
  go_wp2_with fail
  refine (CB3.out _).mono ?_
  rintro e w14 ⟨vv, rfl, hin, hbn⟩
  obtain ⟨a14, c14, ee, _⟩ := id hin
  subst ee
  replace HX1 := Lib.hid (hb_below hbn HX1.out (by omega))
  replace HW1 := Lib.hid (HW1.out.below hbn)
  replace HX2 := Lib.hid (hb_below hbn HX2.out (by omega))
  replace HW2 := Lib.hid (HW2.out.below hbn)
  replace HX3 := Lib.hid (hb_below hbn HX3.out (by omega))
  replace HW3 := Lib.hid (HW3.out.below hbn)
  replace HX4 := Lib.hid (hb_below hbn HX4.out (by omega))
  replace HW4 := Lib.hid (HW4.out.below hbn)
  replace HB := Lib.hid (HB.out.trans (hbn.mono (by omega)))
  have oo := hbn.size
  replace o5 : w4.heap.size < w14.heap.size := by omega
  clear oo hbn
  have HN := Lib.hid hin
  clear hin
  go_wp2_with (refine store_row rfl _ _ _ rfl w2.heap.size _ rfl rfl _ _ HX2.out (by kernel_rfl) rfl (by kernel_rfl) ?_)
  intro wf14 hf hk2 hzf hBf
  replace HW1 := Lib.hid (ws_store HW1.out HX2.out hk2 hzf)
  replace HW3 := Lib.hid (ws_store HW3.out HX2.out hk2 hzf)
  replace HW4 := Lib.hid (ws_store HW4.out HX2.out hk2 hzf)
  replace HW2 := Lib.hid (ws_store HN.out HX2.out hk2 hzf)
  replace HX1 := Lib.hid ((hk2 _ (by omega)).trans HX1.out)
  replace HX3 := Lib.hid ((hk2 _ (by omega)).trans HX3.out)
  replace HX4 := Lib.hid ((hk2 _ (by omega)).trans HX4.out)
  replace HX2 := Lib.hid hf
  replace HB := Lib.hid (hBf _ _ HB.out (by omega))
  replace o5 : w4.heap.size < wf14.heap.size := by omega
  clear HN hf hk2 hzf hBf
  go_wp2_with fail
  refine (CA4.out _).mono ?_
  rintro e w15 ⟨vv, rfl, hin, hbn⟩
  obtain ⟨a15, c15, ee, _⟩ := id hin
  subst ee
  replace HX1 := Lib.hid (hb_below hbn HX1.out (by omega))
  replace HW1 := Lib.hid (HW1.out.below hbn)
  replace HX2 := Lib.hid (hb_below hbn HX2.out (by omega))
  replace HW2 := Lib.hid (HW2.out.below hbn)
  replace HX3 := Lib.hid (hb_below hbn HX3.out (by omega))
  replace HW3 := Lib.hid (HW3.out.below hbn)
  replace HX4 := Lib.hid (hb_below hbn HX4.out (by omega))
  replace HW4 := Lib.hid (HW4.out.below hbn)
  replace HB := Lib.hid (HB.out.trans (hbn.mono (by omega)))
  have oo := hbn.size
  replace o5 : w4.heap.size < w15.heap.size := by omega
  clear oo hbn
  have HN := Lib.hid hin
  clear hin
  go_wp2_with (refine store_row rfl _ _ _ rfl w3.heap.size _ rfl rfl _ _ HX3.out (by kernel_rfl) rfl (by kernel_rfl) ?_)
  intro wf15 hf hk2 hzf hBf
  replace HW1 := Lib.hid (ws_store HW1.out HX3.out hk2 hzf)
  replace HW2 := Lib.hid (ws_store HW2.out HX3.out hk2 hzf)
  replace HW4 := Lib.hid (ws_store HW4.out HX3.out hk2 hzf)
  replace HW3 := Lib.hid (ws_store HN.out HX3.out hk2 hzf)
  replace HX1 := Lib.hid ((hk2 _ (by omega)).trans HX1.out)
  replace HX2 := Lib.hid ((hk2 _ (by omega)).trans HX2.out)
  replace HX4 := Lib.hid ((hk2 _ (by omega)).trans HX4.out)
  replace HX3 := Lib.hid hf
  replace HB := Lib.hid (hBf _ _ HB.out (by omega))
  replace o5 : w4.heap.size < wf15.heap.size := by omega
  clear HN hf hk2 hzf hBf
  go_wp2_with fail
  refine (CB4.out _).mono ?_
  rintro e w16 ⟨vv, rfl, hin, hbn⟩
  obtain ⟨a16, c16, ee, _⟩ := id hin
  subst ee
  replace HX1 := Lib.hid (hb_below hbn HX1.out (by omega))
  replace HW1 := Lib.hid (HW1.out.below hbn)
  replace HX2 := Lib.hid (hb_below hbn HX2.out (by omega))
  replace HW2 := Lib.hid (HW2.out.below hbn)
  replace HX3 := Lib.hid (hb_below hbn HX3.out (by omega))
  replace HW3 := Lib.hid (HW3.out.below hbn)
  replace HX4 := Lib.hid (hb_below hbn HX4.out (by omega))
  replace HW4 := Lib.hid (HW4.out.below hbn)
  replace HB := Lib.hid (HB.out.trans (hbn.mono (by omega)))
  have oo := hbn.size
  replace o5 : w4.heap.size < w16.heap.size := by omega
  clear oo hbn
  have HN := Lib.hid hin
  clear hin
  go_wp2_with (refine store_row rfl _ _ _ rfl w4.heap.size _ rfl rfl _ _ HX4.out (by kernel_rfl) rfl (by kernel_rfl) ?_)
  intro wf16 hf hk2 hzf hBf
  replace HW1 := Lib.hid (ws_store HW1.out HX4.out hk2 hzf)
  replace HW2 := Lib.hid (ws_store HW2.out HX4.out hk2 hzf)
  replace HW3 := Lib.hid (ws_store HW3.out HX4.out hk2 hzf)
  replace HW4 := Lib.hid (ws_store HN.out HX4.out hk2 hzf)
  replace HX1 := Lib.hid ((hk2 _ (by omega)).trans HX1.out)
  replace HX2 := Lib.hid ((hk2 _ (by omega)).trans HX2.out)
  replace HX3 := Lib.hid ((hk2 _ (by omega)).trans HX3.out)
  replace HX4 := Lib.hid hf
  replace HB := Lib.hid (hBf _ _ HB.out (by omega))
  replace o5 : w4.heap.size < wf16.heap.size := by omega
  clear HN hf hk2 hzf hBf
  have d1 := cell_of_heap (j := 0) HX1.out rfl
  have f1 := cell_of_heap (j := 1) HX1.out rfl
  have d2 := cell_of_heap (j := 0) HX2.out rfl
  have f2 := cell_of_heap (j := 1) HX2.out rfl
  have d3 := cell_of_heap (j := 0) HX3.out rfl
  have f3 := cell_of_heap (j := 1) HX3.out rfl
  have d4 := cell_of_heap (j := 0) HX4.out rfl
  have f4 := cell_of_heap (j := 1) HX4.out rfl
  go_wp2_with fail
  refine (Same_yes M3.p M3.L _ _ _ HW1.out HW2.out l3).mono ?_
  rintro e w17 ⟨rfl, hbn⟩
  clear d1 d2 d3 d4 f1 f2 f3 f4
  replace HX1 := Lib.hid (hb_below hbn HX1.out (by omega))
  replace HW1 := Lib.hid (HW1.out.below hbn)
  replace HX2 := Lib.hid (hb_below hbn HX2.out (by omega))
  replace HW2 := Lib.hid (HW2.out.below hbn)
  replace HX3 := Lib.hid (hb_below hbn HX3.out (by omega))
  replace HW3 := Lib.hid (HW3.out.below hbn)
  replace HX4 := Lib.hid (hb_below hbn HX4.out (by omega))
  replace HW4 := Lib.hid (HW4.out.below hbn)
  replace HB := Lib.hid (HB.out.trans (hbn.mono (by omega)))
  have oo := hbn.size
  replace o5 : w4.heap.size < w17.heap.size := by omega
  clear oo hbn
  have d1 := cell_of_heap (j := 0) HX1.out rfl
  have f1 := cell_of_heap (j := 1) HX1.out rfl
  have d2 := cell_of_heap (j := 0) HX2.out rfl
  have f2 := cell_of_heap (j := 1) HX2.out rfl
  have d3 := cell_of_heap (j := 0) HX3.out rfl
  have f3 := cell_of_heap (j := 1) HX3.out rfl
  have d4 := cell_of_heap (j := 0) HX4.out rfl
  have f4 := cell_of_heap (j := 1) HX4.out rfl
  go_wp2_with fail
  refine (Same_yes M4.p M4.L _ _ _ HW3.out HW4.out l4).mono ?_
  rintro e w18 ⟨rfl, hbn⟩
  clear d1 d2 d3 d4 f1 f2 f3 f4
  replace HX1 := Lib.hid (hb_below hbn HX1.out (by omega))
  replace HW1 := Lib.hid (HW1.out.below hbn)
  replace HX2 := Lib.hid (hb_below hbn HX2.out (by omega))
  replace HW2 := Lib.hid (HW2.out.below hbn)
  replace HX3 := Lib.hid (hb_below hbn HX3.out (by omega))
  replace HW3 := Lib.hid (HW3.out.below hbn)
  replace HX4 := Lib.hid (hb_below hbn HX4.out (by omega))
  replace HW4 := Lib.hid (HW4.out.below hbn)
  replace HB := Lib.hid (HB.out.trans (hbn.mono (by omega)))
  have oo := hbn.size
  replace o5 : w4.heap.size < w18.heap.size := by omega
  clear oo hbn
  go_wp2_with fail
  refine (CA5.out _).mono ?_
  rintro e w19 ⟨vv, rfl, hin, hbn⟩
  obtain ⟨a19, c19, ee, _⟩ := id hin
  subst ee
  replace HX1 := Lib.hid (hb_below hbn HX1.out (by omega))
  replace HW1 := Lib.hid (HW1.out.below hbn)
  replace HX2 := Lib.hid (hb_below hbn HX2.out (by omega))
  replace HW2 := Lib.hid (HW2.out.below hbn)
  replace HX3 := Lib.hid (hb_below hbn HX3.out (by omega))
  replace HW3 := Lib.hid (HW3.out.below hbn)
  replace HX4 := Lib.hid (hb_below hbn HX4.out (by omega))
  replace HW4 := Lib.hid (HW4.out.below hbn)
  replace HB := Lib.hid (HB.out.trans (hbn.mono (by omega)))
  have oo := hbn.size
  replace o5 : w4.heap.size < w19.heap.size := by omega
  clear oo hbn
  have HN := Lib.hid hin
  clear hin
  go_wp2_with (refine store_row rfl _ _ _ rfl w1.heap.size _ rfl rfl _ _ HX1.out (by kernel_rfl) rfl (by kernel_rfl) ?_)
  intro wf19 hf hk2 hzf hBf
  replace HW2 := Lib.hid (ws_store HW2.out HX1.out hk2 hzf)
  replace HW3 := Lib.hid (ws_store HW3.out HX1.out hk2 hzf)
  replace HW4 := Lib.hid (ws_store HW4.out HX1.out hk2 hzf)
  replace HW1 := Lib.hid (ws_store HN.out HX1.out hk2 hzf)
  replace HX2 := Lib.hid ((hk2 _ (by omega)).trans HX2.out)
  replace HX3 := Lib.hid ((hk2 _ (by omega)).trans HX3.out)
  replace HX4 := Lib.hid ((hk2 _ (by omega)).trans HX4.out)
  replace HX1 := Lib.hid hf
  replace HB := Lib.hid (hBf _ _ HB.out (by omega))
  replace o5 : w4.heap.size < wf19.heap.size := by omega
  clear HN hf hk2 hzf hBf
  go_wp2_with fail
  refine (CB5.out _).mono ?_
  rintro e w20 ⟨vv, rfl, hin, hbn⟩
  obtain ⟨a20, c20, ee, _⟩ := id hin
  subst ee
  replace HX1 := Lib.hid (hb_below hbn HX1.out (by omega))
  replace HW1 := Lib.hid (HW1.out.below hbn)
  replace HX2 := Lib.hid (hb_below hbn HX2.out (by omega))
  replace HW2 := Lib.hid (HW2.out.below hbn)
  replace HX3 := Lib.hid (hb_below hbn HX3.out (by omega))
  replace HW3 := Lib.hid (HW3.out.below hbn)
  replace HX4 := Lib.hid (hb_below hbn HX4.out (by omega))
  replace HW4 := Lib.hid (HW4.out.below hbn)
  replace HB := Lib.hid (HB.out.trans (hbn.mono (by omega)))
  have oo := hbn.size
  replace o5 : w4.heap.size < w20.heap.size := by omega
  clear oo hbn
  have HN := Lib.hid hin
  clear hin
  go_wp2_with (refine store_row rfl _ _ _ rfl w2.heap.size _ rfl rfl _ _ HX2.out (by kernel_rfl) rfl (by kernel_rfl) ?_)
  intro wf20 hf hk2 hzf hBf
  replace HW1 := Lib.hid (ws_store HW1.out HX2.out hk2 hzf)
  replace HW3 := Lib.hid (ws_store HW3.out HX2.out hk2 hzf)
  replace HW4 := Lib.hid (ws_store HW4.out HX2.out hk2 hzf)
  replace HW2 := Lib.hid (ws_store HN.out HX2.out hk2 hzf)
  replace HX1 := Lib.hid ((hk2 _ (by omega)).trans HX1.out)
  replace HX3 := Lib.hid ((hk2 _ (by omega)).trans HX3.out)
  replace HX4 := Lib.hid ((hk2 _ (by omega)).trans HX4.out)
  replace HX2 := Lib.hid hf
  replace HB := Lib.hid (hBf _ _ HB.out (by omega))
  replace o5 : w4.heap.size < wf20.heap.size := by omega
  clear HN hf hk2 hzf hBf
  have d1 := cell_of_heap (j := 0) HX1.out rfl
  have f1 := cell_of_heap (j := 1) HX1.out rfl
  have d2 := cell_of_heap (j := 0) HX2.out rfl
  have f2 := cell_of_heap (j := 1) HX2.out rfl
  have d3 := cell_of_heap (j := 0) HX3.out rfl
  have f3 := cell_of_heap (j := 1) HX3.out rfl
  have d4 := cell_of_heap (j := 0) HX4.out rfl
  have f4 := cell_of_heap (j := 1) HX4.out rfl
  go_wp2_with fail
  refine (Same_yes M5.p M5.L _ _ _ HW1.out HW2.out l5).mono ?_
  rintro e w21 ⟨rfl, hbn⟩
  clear d1 d2 d3 d4 f1 f2 f3 f4
  replace HX1 := Lib.hid (hb_below hbn HX1.out (by omega))
  replace HW1 := Lib.hid (HW1.out.below hbn)
  replace HX2 := Lib.hid (hb_below hbn HX2.out (by omega))
  replace HW2 := Lib.hid (HW2.out.below hbn)
  replace HX3 := Lib.hid (hb_below hbn HX3.out (by omega))
  replace HW3 := Lib.hid (HW3.out.below hbn)
  replace HX4 := Lib.hid (hb_below hbn HX4.out (by omega))
  replace HW4 := Lib.hid (HW4.out.below hbn)
  replace HB := Lib.hid (HB.out.trans (hbn.mono (by omega)))
  have oo := hbn.size
  replace o5 : w4.heap.size < w21.heap.size := by omega
  clear oo hbn
  go_wp2_with fail
  refine (Windmill_any _).mono ?_
  rintro e y1 ⟨vy, rfl, hiy, hbn⟩
  have HY := Lib.hid hiy
  clear hiy
  replace HX1 := Lib.hid (hb_below hbn HX1.out (by omega))
  replace HW1 := Lib.hid (HW1.out.below hbn)
  replace HX2 := Lib.hid (hb_below hbn HX2.out (by omega))
  replace HW2 := Lib.hid (HW2.out.below hbn)
  replace HX3 := Lib.hid (hb_below hbn HX3.out (by omega))
  replace HW3 := Lib.hid (HW3.out.below hbn)
  replace HX4 := Lib.hid (hb_below hbn HX4.out (by omega))
  replace HW4 := Lib.hid (HW4.out.below hbn)
  replace HB := Lib.hid (HB.out.trans (hbn.mono (by omega)))
  have oo := hbn.size
  replace o5 : w4.heap.size < y1.heap.size := by omega
  clear oo hbn
  go_wp2_with fail
  refine (refWindmill_any _).mono ?_
  rintro e y2 ⟨vz, rfl, hiz, hbn⟩
  have HZ := Lib.hid hiz
  have HY2 := Lib.hid (HY.out.below hbn)
  clear hiz
  replace HX1 := Lib.hid (hb_below hbn HX1.out (by omega))
  replace HW1 := Lib.hid (HW1.out.below hbn)
  replace HX2 := Lib.hid (hb_below hbn HX2.out (by omega))
  replace HW2 := Lib.hid (HW2.out.below hbn)
  replace HX3 := Lib.hid (hb_below hbn HX3.out (by omega))
  replace HW3 := Lib.hid (HW3.out.below hbn)
  replace HX4 := Lib.hid (hb_below hbn HX4.out (by omega))
  replace HW4 := Lib.hid (HW4.out.below hbn)
  replace HB := Lib.hid (HB.out.trans (hbn.mono (by omega)))
  have oo := hbn.size
  replace o5 : w4.heap.size < y2.heap.size := by omega
  clear oo hbn
  go_wp2_with fail
  refine (Same_yes 4 millL _ _ _ HY2.out HZ.out (by decide)).mono ?_
  rintro e y3 ⟨rfl, hbn⟩
  replace HX1 := Lib.hid (hb_below hbn HX1.out (by omega))
  replace HW1 := Lib.hid (HW1.out.below hbn)
  replace HX2 := Lib.hid (hb_below hbn HX2.out (by omega))
  replace HW2 := Lib.hid (HW2.out.below hbn)
  replace HX3 := Lib.hid (hb_below hbn HX3.out (by omega))
  replace HW3 := Lib.hid (HW3.out.below hbn)
  replace HX4 := Lib.hid (hb_below hbn HX4.out (by omega))
  replace HW4 := Lib.hid (HW4.out.below hbn)
  replace HB := Lib.hid (HB.out.trans (hbn.mono (by omega)))
  have oo := hbn.size
  replace o5 : w4.heap.size < y3.heap.size := by omega
  clear oo hbn
  go_wp2_with fail
  refine (shown_any _).mono ?_
  rintro e y4 ⟨rfl, hbn⟩
  replace HX1 := Lib.hid (hb_below hbn HX1.out (by omega))
  replace HW1 := Lib.hid (HW1.out.below hbn)
  replace HX2 := Lib.hid (hb_below hbn HX2.out (by omega))
  replace HW2 := Lib.hid (HW2.out.below hbn)
  replace HX3 := Lib.hid (hb_below hbn HX3.out (by omega))
  replace HW3 := Lib.hid (HW3.out.below hbn)
  replace HX4 := Lib.hid (hb_below hbn HX4.out (by omega))
  replace HW4 := Lib.hid (HW4.out.below hbn)
  replace HB := Lib.hid (HB.out.trans (hbn.mono (by omega)))
  have oo := hbn.size
  replace o5 : w4.heap.size < y4.heap.size := by omega
  clear oo hbn
  go_wp2_with fail
  go_ret
  exact ⟨by first | rfl | (simp; done), HB.out⟩
end Go.Proofs.Ytgbdccoimmkmeaa
