/- Footside of the program. -/
import Derived.Test.YtgbdccoimmkmeaaWM
namespace Go.Proofs.Ytgbdccoimmkmeaa
open Go.RowKit
set_option linter.unusedSimpArgs false
theorem footRow_len (n : Nat) : (footRow n).length = 2 * n + 1 := by
  unfold footRow
  rw [List.length_append, List.length_append, upL_len, dnL_len]; simp; omega
set_option maxHeartbeats 4000000 in
set_option maxRecDepth 100000 in
theorem Foot_bad1 (n m : Int) (h : ¬ (1 ≤ n ∧ n ≤ 23)) (w : World) : Calls Try.prog 17 #[.int .i64 n, .int .i64 m] w (Out (moBad 7) w) := by
  have hr : false = (decide (1 ≤ n) && decide (n ≤ 23)) := by
    simp; omega
  unfold Out moBad
  have CB := Lib.hid (fun W => between_any 1 n 23 false hr W)
  clear hr
  go_enter Try.func17, Try.ntmps17
  go_wp2_with fail
  refine (CB.out _).mono ?_
  rintro e wb ⟨rfl, hw⟩
  obtain rfl := hw.symm
  clear hw
  go_wp2_with fail
  exact bodyPost_ret (results_bt rfl _ _ w.heap.size rfl rfl (heap_alloc_new _ _) Try.underlying24 rfl (by kernel_rfl)) rfl ⟨_, rfl, ws_nil _, below_alloc w _⟩
set_option maxHeartbeats 4000000 in
set_option maxRecDepth 100000 in
theorem Foot_bad2 (n m : Int) (h : 1 ≤ n ∧ n ≤ 23) (h2 : ¬ 1 ≤ m) (w : World) : Calls Try.prog 17 #[.int .i64 n, .int .i64 m] w (Out (moBad 7) w) := by
  have hr : true = (decide (1 ≤ n) && decide (n ≤ 23)) := by simp [h]
  have h3 : m < 1 := by omega
  unfold Out moBad
  have CB := Lib.hid (fun W => between_any 1 n 23 true hr W)
  clear hr
  go_enter Try.func17, Try.ntmps17
  go_wp2_with fail
  refine (CB.out _).mono ?_
  rintro e wb ⟨rfl, hw⟩
  obtain rfl := hw.symm
  clear hw
  go_wp2_with fail
  exact bodyPost_ret (results_bt rfl _ _ w.heap.size rfl rfl (heap_alloc_new _ _) Try.underlying24 rfl (by kernel_rfl)) rfl ⟨_, rfl, ws_nil _, below_alloc w _⟩
set_option maxHeartbeats 4000000 in
set_option maxRecDepth 100000 in
theorem Foot_long (n : Nat) (m : Int) (h1 : 1 ≤ n) (h2 : n ≤ 23) (h3 : 1 ≤ m) (hm : ¬ m ≤ ((400 / (2 * n + 1) : Nat) : Int)) (w : World) : Calls Try.prog 17 #[.int .i64 (n : Int), .int .i64 m] w (Out (moBad 3) w) := by
  have hr : true = (decide ((1 : Int) ≤ (n : Int)) && decide ((n : Int) ≤ 23)) := by simp; omega
  have h4 : ¬ m < 1 := by omega
  have hcat : catL [dnL sCTC ((n : Int) - 1) n, [⟨0, sLLP⟩], upL sCTC 0 n] = footRow n := by simp [catL, footRow]
  have hln : (catL [dnL sCTC ((n : Int) - 1) n, [⟨0, sLLP⟩], upL sCTC 0 n]).length < 50000 := by
    rw [hcat, footRow_len]; omega
  have HCAT := Lib.hid hcat
  have HLN := Lib.hid hln
  obtain ⟨q, hq⟩ : ∃ q : Nat, q = 400 / (2 * n + 1) := ⟨_, rfl⟩
  have HQ := Lib.hid hq
  have hlr := footRow_len n
  have HLR := Lib.hid hlr
  rw [← hq] at hm
  have HM := Lib.hid hm
  clear hcat hln hq hlr hm
  unfold Out moBad
  have CB := Lib.hid (fun W => between_any 1 (n : Int) 23 true hr W)
  clear hr
  go_enter Try.func17, Try.ntmps17
  go_wp2_with fail
  refine (CB.out _).mono ?_
  rintro e wb ⟨rfl, hw⟩
  obtain rfl := hw.symm
  clear hw
  have h0 : (w.alloc (.cells #[.int .i64 0, .slice none 0 0] 24)).heap[w.heap.size]? = some (.cells #[.int .i64 0, .slice none 0 0] 24 (0, 0)) := heap_alloc_new _ _
  have D0 := Lib.hid (below_alloc w (.cells #[.int .i64 0, .slice none 0 0] 24))
  have H0 := Lib.hid h0
  clear h0
  have hgs : w.heap.size < (w.alloc (.cells #[.int .i64 0, .slice none 0 0] 24)).heap.size := by simp
  generalize (w.alloc (.cells #[.int .i64 0, .slice none 0 0] 24)) = wa at *
  go_wp2_with fail
  refine (along_dn sCTC ((n : Int) - 1) n h1 (by omega) (by omega) 0 (by omega) _).mono ?_
  rintro e w1 ⟨v1, rfl, ho, hb⟩
  have O1 := Lib.hid (ho.mono (show w.heap.size + 1 ≤ _ by omega))
  replace H0 := Lib.hid (hb_below hb H0.out (by omega))
  have hz1 := hb.size
  have D1 := Lib.hid (D0.out.trans (hb.mono D0.out.size))
  clear hb ho
  go_wp2_with fail
  refine (along_up sLLP 0 1 (by omega) (by omega) (by omega) 0 (by omega) _).mono ?_
  rintro e w2 ⟨v2, rfl, ho, hb⟩
  replace O1 := Lib.hid (O1.out.below hb)
  have O2 := Lib.hid (ho.mono (show w.heap.size + 1 ≤ _ by omega))
  replace H0 := Lib.hid (hb_below hb H0.out (by omega))
  have hz2 := hb.size
  have D2 := Lib.hid (D1.out.trans (hb.mono D1.out.size))
  clear hb ho
  rw [one_up] at O2
  go_wp2_with fail
  refine (along_up sCTC 0 n h1 (by omega) (by omega) ((n : Int) - 1) (by omega) _).mono ?_
  rintro e w3 ⟨v3, rfl, ho, hb⟩
  replace O1 := Lib.hid (O1.out.below hb)
  replace O2 := Lib.hid (O2.out.below hb)
  have O3 := Lib.hid (ho.mono (show w.heap.size + 1 ≤ _ by omega))
  replace H0 := Lib.hid (hb_below hb H0.out (by omega))
  have hz3 := hb.size
  have D3 := Lib.hid (D2.out.trans (hb.mono D2.out.size))
  clear hb ho
  obtain ⟨a1, c1, e1, _⟩ := ws_own O1.out
  subst e1
  obtain ⟨a2, c2, e2, _⟩ := ws_own O2.out
  subst e2
  obtain ⟨a3, c3, e3, _⟩ := ws_own O3.out
  subst e3
  have CC := Lib.hid (Concat_any w3.heap.size 3 [dnL sCTC ((n : Int) - 1) n, [⟨0, sLLP⟩], upL sCTC 0 n] (w3.alloc (.cells #[(.slice a1 (dnL sCTC ((n : Int) - 1) n).length c1), (.slice a2 [(⟨0, sLLP⟩ : Wk)].length c2), (.slice a3 (upL sCTC 0 n).length c3)] 22)) rfl (by decide) (by simp) (hatN [(.slice a1 (dnL sCTC ((n : Int) - 1) n).length c1), (.slice a2 [(⟨0, sLLP⟩ : Wk)].length c2), (.slice a3 (upL sCTC 0 n).length c3)] _ _ (three_at (ws_own O1.out) (ws_own O2.out) (ws_own O3.out))) HLN.out)
  rw [HCAT.out] at CC
  go_wp2_with fail
  refine CC.out.mono ?_
  rintro e w4 ⟨v4, rfl, ho, hb⟩
  have hb2 : Below w3.heap.size w3 w4 := (below_alloc w3 _).trans (hb.mono (by simp))
  have O4 := Lib.hid (ho.mono (show w.heap.size + 1 ≤ _ by simp; omega))
  replace H0 := Lib.hid (hb_below hb2 H0.out (by omega))
  have hz4 := hb2.size
  have D4 := Lib.hid (D3.out.trans (hb2.mono D3.out.size))
  clear hb hb2 ho
  obtain ⟨a4, c4, e4, _⟩ := ws_own O4.out
  subst e4
  have hT : Int.tdiv 400 ((footRow n).length : Int) = (q : Int) := by
    rw [HLR.out, HQ.out, Int.natCast_ediv]
    exact (Int.tdiv_eq_ediv_of_nonneg (by omega))
  have h0r : (((footRow n).length : Int) == 0) = false := by rw [beq_eq_false_iff_ne]; have := HLR.out; omega
  have h1r : ¬ (footRow n).length = 0 := by have := HLR.out; omega
  have h2r : ¬ ((footRow n).length : Int) = 0 := by have := HLR.out; omega
  have hrr : (footRow n).length ≤ 100 := by have := HLR.out; omega
  generalize hF : (footRow n).length = r at *
  have hq4 : q ≤ 400 := by have := HQ.out; rw [this]; exact Nat.div_le_self _ _
  have hgt : (q : Int) < m := by have := HM.out; omega
  clear hF
  go_wp2_with (refine store_row rfl _ _ _ rfl w.heap.size _ rfl rfl _ _ H0.out (by kernel_rfl) rfl (by kernel_rfl) ?_)
  intro wf hf hk hzf hB
  have HF := Lib.hid hf
  have DF := Lib.hid (hB _ _ D4.out (Nat.le_refl _))
  clear hf hk hzf hB
  go_wp2_with fail
  exact bodyPost_ret (results_bt rfl _ _ w.heap.size rfl rfl HF.out Try.underlying24 rfl (by kernel_rfl)) rfl ⟨_, rfl, ws_nil _, DF.out⟩
set_option maxHeartbeats 4000000 in
set_option maxRecDepth 100000 in
theorem Foot_ok (n : Nat) (m : Nat) (h1 : 1 ≤ n) (h2 : n ≤ 23) (h3 : 1 ≤ m) (hm : m ≤ 400 / (2 * n + 1)) (w : World) : Calls Try.prog 17 #[.int .i64 (n : Int), .int .i64 (m : Int)] w (Out ⟨(n : Int) + 1, repL m (footRow n), 0⟩ w) := by
  have hr : true = (decide ((1 : Int) ≤ (n : Int)) && decide ((n : Int) ≤ 23)) := by simp; omega
  have h4 : ¬ (m : Int) < 1 := by omega
  have hcat : catL [dnL sCTC ((n : Int) - 1) n, [⟨0, sLLP⟩], upL sCTC 0 n] = footRow n := by simp [catL, footRow]
  have hln : (catL [dnL sCTC ((n : Int) - 1) n, [⟨0, sLLP⟩], upL sCTC 0 n]).length < 50000 := by
    rw [hcat, footRow_len]; omega
  have HCAT := Lib.hid hcat
  have HLN := Lib.hid hln
  obtain ⟨q, hq⟩ : ∃ q : Nat, q = 400 / (2 * n + 1) := ⟨_, rfl⟩
  have HQ := Lib.hid hq
  have hlr := footRow_len n
  have HLR := Lib.hid hlr
  rw [← hq] at hm
  have HM := Lib.hid hm
  clear hcat hln hq hlr hm
  unfold Out
  have CB := Lib.hid (fun W => between_any 1 (n : Int) 23 true hr W)
  clear hr
  go_enter Try.func17, Try.ntmps17
  go_wp2_with fail
  refine (CB.out _).mono ?_
  rintro e wb ⟨rfl, hw⟩
  obtain rfl := hw.symm
  clear hw
  have h0 : (w.alloc (.cells #[.int .i64 0, .slice none 0 0] 24)).heap[w.heap.size]? = some (.cells #[.int .i64 0, .slice none 0 0] 24 (0, 0)) := heap_alloc_new _ _
  have D0 := Lib.hid (below_alloc w (.cells #[.int .i64 0, .slice none 0 0] 24))
  have H0 := Lib.hid h0
  clear h0
  have hgs : w.heap.size < (w.alloc (.cells #[.int .i64 0, .slice none 0 0] 24)).heap.size := by simp
  generalize (w.alloc (.cells #[.int .i64 0, .slice none 0 0] 24)) = wa at *
  go_wp2_with fail
  refine (along_dn sCTC ((n : Int) - 1) n h1 (by omega) (by omega) 0 (by omega) _).mono ?_
  rintro e w1 ⟨v1, rfl, ho, hb⟩
  have O1 := Lib.hid (ho.mono (show w.heap.size + 1 ≤ _ by omega))
  replace H0 := Lib.hid (hb_below hb H0.out (by omega))
  have hz1 := hb.size
  have D1 := Lib.hid (D0.out.trans (hb.mono D0.out.size))
  clear hb ho
  go_wp2_with fail
  refine (along_up sLLP 0 1 (by omega) (by omega) (by omega) 0 (by omega) _).mono ?_
  rintro e w2 ⟨v2, rfl, ho, hb⟩
  replace O1 := Lib.hid (O1.out.below hb)
  have O2 := Lib.hid (ho.mono (show w.heap.size + 1 ≤ _ by omega))
  replace H0 := Lib.hid (hb_below hb H0.out (by omega))
  have hz2 := hb.size
  have D2 := Lib.hid (D1.out.trans (hb.mono D1.out.size))
  clear hb ho
  rw [one_up] at O2
  go_wp2_with fail
  refine (along_up sCTC 0 n h1 (by omega) (by omega) ((n : Int) - 1) (by omega) _).mono ?_
  rintro e w3 ⟨v3, rfl, ho, hb⟩
  replace O1 := Lib.hid (O1.out.below hb)
  replace O2 := Lib.hid (O2.out.below hb)
  have O3 := Lib.hid (ho.mono (show w.heap.size + 1 ≤ _ by omega))
  replace H0 := Lib.hid (hb_below hb H0.out (by omega))
  have hz3 := hb.size
  have D3 := Lib.hid (D2.out.trans (hb.mono D2.out.size))
  clear hb ho
  obtain ⟨a1, c1, e1, _⟩ := ws_own O1.out
  subst e1
  obtain ⟨a2, c2, e2, _⟩ := ws_own O2.out
  subst e2
  obtain ⟨a3, c3, e3, _⟩ := ws_own O3.out
  subst e3
  have CC := Lib.hid (Concat_any w3.heap.size 3 [dnL sCTC ((n : Int) - 1) n, [⟨0, sLLP⟩], upL sCTC 0 n] (w3.alloc (.cells #[(.slice a1 (dnL sCTC ((n : Int) - 1) n).length c1), (.slice a2 [(⟨0, sLLP⟩ : Wk)].length c2), (.slice a3 (upL sCTC 0 n).length c3)] 22)) rfl (by decide) (by simp) (hatN [(.slice a1 (dnL sCTC ((n : Int) - 1) n).length c1), (.slice a2 [(⟨0, sLLP⟩ : Wk)].length c2), (.slice a3 (upL sCTC 0 n).length c3)] _ _ (three_at (ws_own O1.out) (ws_own O2.out) (ws_own O3.out))) HLN.out)
  rw [HCAT.out] at CC
  go_wp2_with fail
  refine CC.out.mono ?_
  rintro e w4 ⟨v4, rfl, ho, hb⟩
  have hb2 : Below w3.heap.size w3 w4 := (below_alloc w3 _).trans (hb.mono (by simp))
  have O4 := Lib.hid (ho.mono (show w.heap.size + 1 ≤ _ by simp; omega))
  replace H0 := Lib.hid (hb_below hb2 H0.out (by omega))
  have hz4 := hb2.size
  have D4 := Lib.hid (D3.out.trans (hb2.mono D3.out.size))
  clear hb hb2 ho
  obtain ⟨a4, c4, e4, _⟩ := ws_own O4.out
  subst e4
  have hT : Int.tdiv 400 ((footRow n).length : Int) = (q : Int) := by
    rw [HLR.out, HQ.out, Int.natCast_ediv]
    exact (Int.tdiv_eq_ediv_of_nonneg (by omega))
  have h0r : (((footRow n).length : Int) == 0) = false := by rw [beq_eq_false_iff_ne]; have := HLR.out; omega
  have h1r : ¬ (footRow n).length = 0 := by have := HLR.out; omega
  have h2r : ¬ ((footRow n).length : Int) = 0 := by have := HLR.out; omega
  have hrr : (footRow n).length ≤ 100 := by have := HLR.out; omega
  generalize hF : (footRow n).length = r at *
  have hq4 : q ≤ 400 := by have := HQ.out; rw [this]; exact Nat.div_le_self _ _
  have hgt : ¬ (q : Int) < (m : Int) := by have := HM.out; omega
  have hj : m ≤ 401 := by have := HM.out; omega
  have CR : ∀ a c W, WS W (.slice a r c) (footRow n) → Calls Try.prog 34 #[.slice a r c, .int .i64 (m : Int)] W fun e w' => ∃ v', e = .returned v' ∧ WO W.heap.size w' v' (repL m (footRow n)) ∧ Below W.heap.size W w' := fun a c W h => repeat_any (footRow n) m (by omega) hj _ W h
  have HCR := Lib.hid CR
  have O4W : WS w4 (.slice a4 r c4) (footRow n) := ws_own O4.out
  have HO4W := Lib.hid O4W
  clear CR hF O4W
  go_wp2_with fail
  refine (HCR.out _ _ _ HO4W.out).mono ?_
  rintro e w5 ⟨v5, rfl, ho, hb⟩
  replace O4 := Lib.hid (O4.out.below hb)
  have O5 := Lib.hid (ho.mono (show w.heap.size + 1 ≤ _ by omega))
  replace H0 := Lib.hid (hb_below hb H0.out (by omega))
  have hz5 := hb.size
  have D5 := Lib.hid (D4.out.trans (hb.mono D4.out.size))
  clear hb ho
  obtain ⟨a5, c5, e5, _⟩ := ws_own O5.out
  subst e5
  go_wp2_with (refine store_row rfl _ _ _ rfl w.heap.size _ rfl rfl _ _ H0.out (by kernel_rfl) rfl (by kernel_rfl) ?_)
  intro wf hf hk hzf hB
  have HF := Lib.hid hf
  have SF := Lib.hid (ws_own (wo_keep O5.out (Nat.lt_succ_self _) (fun k ob h hn => (hk k hn).trans h)))
  have DF := Lib.hid (hB _ _ D5.out (Nat.le_refl _))
  clear hf hk hzf hB
  go_wp2_with fail
  exact bodyPost_ret (results_bt rfl _ _ w.heap.size rfl rfl HF.out Try.underlying24 rfl (by kernel_rfl)) rfl ⟨_, rfl, SF.out, DF.out⟩
theorem Footside_any (n m : Int) (w : World) : Calls Try.prog 17 #[.int .i64 n, .int .i64 m] w (Out (footM n m) w) := by
  by_cases h : 1 ≤ n ∧ n ≤ 23
  · by_cases h2 : 1 ≤ m
    · obtain ⟨k, rfl⟩ : ∃ k : Nat, n = (k : Int) := ⟨n.toNat, by omega⟩
      have ed : (400 : Int) / (2 * (k : Int) + 1) = ((400 / (2 * k + 1) : Nat) : Int) := by rw [Int.natCast_ediv]; rfl
      by_cases h3 : m ≤ 400 / (2 * (k : Int) + 1)
      · have hM : footM (k : Int) m = ⟨(k : Int) + 1, repL m.toNat (footRow k), 0⟩ := by unfold footM; rw [if_pos ⟨h, h2⟩, if_pos h3]; simp
        rw [hM]
        rw [ed] at h3
        obtain ⟨j, rfl⟩ : ∃ j : Nat, m = (j : Int) := ⟨m.toNat, by omega⟩
        exact Foot_ok k j (by omega) (by omega) (by omega) (by omega) w
      · have hM : footM (k : Int) m = moBad 3 := by unfold footM; rw [if_pos ⟨h, h2⟩, if_neg h3]
        rw [hM]
        rw [ed] at h3
        exact Foot_long k m (by omega) (by omega) h2 h3 w
    · have hM : footM n m = moBad 7 := by unfold footM; rw [if_neg (fun e => h2 e.2)]
      rw [hM]
      exact Foot_bad2 n m h h2 w
  · have hM : footM n m = moBad 7 := by unfold footM; rw [if_neg (fun e => h e.1)]
    rw [hM]
    exact Foot_bad1 n m h w
end Go.Proofs.Ytgbdccoimmkmeaa
