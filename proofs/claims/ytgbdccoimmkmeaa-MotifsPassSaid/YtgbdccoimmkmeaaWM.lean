/- Spider, Fan, Footside of the program. -/
import Derived.Test.YtgbdccoimmkmeaaWL
namespace Go.Proofs.Ytgbdccoimmkmeaa
open Go.RowKit
set_option linter.unusedSimpArgs false
theorem legs_len (n t : Nat) : (legsL n t).length ≤ n := by unfold legsL; split <;> simp
set_option maxHeartbeats 4000000 in
set_option maxRecDepth 100000 in
theorem Spider_bad1 (n t : Int) (h : ¬ (1 ≤ n ∧ n ≤ 6)) (w : World) : Calls Try.prog 13 #[.int .i64 n, .int .i64 t] w (Out (moBad 7) w) := by
  have hr : false = (decide (1 ≤ n) && decide (n ≤ 6)) := by
    simp; omega
  unfold Out moBad
  have CB := Lib.hid (fun W => between_any 1 n 6 false hr W)
  clear hr
  go_enter Try.func13, Try.ntmps13
  go_wp2_with fail
  refine (CB.out _).mono ?_
  rintro e wb ⟨rfl, hw⟩
  obtain rfl := hw.symm
  clear hw
  go_wp2_with fail
  exact bodyPost_ret (results_bt rfl _ _ w.heap.size rfl rfl (heap_alloc_new _ _) Try.underlying24 rfl (by kernel_rfl)) rfl ⟨_, rfl, ws_nil _, below_alloc w _⟩
set_option maxHeartbeats 4000000 in
set_option maxRecDepth 100000 in
theorem Spider_bad2 (n t : Int) (h : 1 ≤ n ∧ n ≤ 6) (h2 : ¬ (0 ≤ t ∧ t ≤ 16)) (w : World) : Calls Try.prog 13 #[.int .i64 n, .int .i64 t] w (Out (moBad 7) w) := by
  have hr : true = (decide (1 ≤ n) && decide (n ≤ 6)) := by simp [h]
  have hr2 : false = (decide (0 ≤ t) && decide (t ≤ 16)) := by
    simp; omega
  have CB2 := Lib.hid (fun W => between_any 0 t 16 false hr2 W)
  clear hr2 h2
  unfold Out moBad
  have CB := Lib.hid (fun W => between_any 1 n 6 true hr W)
  clear hr
  go_enter Try.func13, Try.ntmps13
  go_wp2_with fail
  refine (CB.out _).mono ?_
  rintro e wb ⟨rfl, hw⟩
  obtain rfl := hw.symm
  clear hw
  go_wp2_with fail
  refine (CB2.out _).mono ?_
  rintro e wb ⟨rfl, hw⟩
  obtain rfl := hw.symm
  clear hw
  go_wp2_with fail
  exact bodyPost_ret (results_bt rfl _ _ w.heap.size rfl rfl (heap_alloc_new _ _) Try.underlying24 rfl (by kernel_rfl)) rfl ⟨_, rfl, ws_nil _, below_alloc w _⟩
set_option maxHeartbeats 4000000 in
set_option maxRecDepth 100000 in
theorem Spider_ok (n t : Nat) (h1 : 1 ≤ n) (h2 : n ≤ 6) (h3 : t ≤ 16) (w : World) : Calls Try.prog 13 #[.int .i64 (n : Int), .int .i64 (t : Int)] w (Out ⟨2 * (n : Int), spiderL n t, 0⟩ w) := by
  have hr : true = (decide ((1 : Int) ≤ (n : Int)) && decide ((n : Int) ≤ 6)) := by simp; omega
  have hr2 : true = (decide ((0 : Int) ≤ (t : Int)) && decide ((t : Int) ≤ 16)) := by simp; omega
  have CB2 := Lib.hid (fun W => between_any 0 (t : Int) 16 true hr2 W)
  clear hr2
  have hcat : catL [legsL n t, bodyL n, [⟨(n : Int) - 1, sP⟩], bodyL n, legsL n t] = spiderL n t := by simp [catL, spiderL]
  have hln : (catL [legsL n t, bodyL n, [⟨(n : Int) - 1, sP⟩], bodyL n, legsL n t]).length < 50000 := by
    have h4 := legs_len n t
    have h5 := bodyL_len n
    have h6 : n * n ≤ 6 * 6 := Nat.mul_le_mul h2 h2
    simp [catL]
    omega
  have HCAT := Lib.hid hcat
  have HLN := Lib.hid hln
  clear hcat hln
  unfold Out
  have CB := Lib.hid (fun W => between_any 1 (n : Int) 6 true hr W)
  clear hr
  go_enter Try.func13, Try.ntmps13
  go_wp2_with fail
  refine (CB.out _).mono ?_
  rintro e wb ⟨rfl, hw⟩
  obtain rfl := hw.symm
  clear hw
  go_wp2_with fail
  refine (CB2.out _).mono ?_
  rintro e wb ⟨rfl, hw⟩
  obtain rfl := hw.symm
  clear hw
  have h0 : (w.alloc (.cells #[.int .i64 0, .slice none 0 0] 24)).heap[w.heap.size]? = some (.cells #[.int .i64 0, .slice none 0 0] 24 (0, 0)) := heap_alloc_new _ _
  have D0 := Lib.hid (below_alloc w (.cells #[.int .i64 0, .slice none 0 0] 24))
  have H0 := Lib.hid h0
  clear h0
  have hgs : w.heap.size < (w.alloc (.cells #[.int .i64 0, .slice none 0 0] 24)).heap.size := by simp
  generalize (w.alloc (.cells #[.int .i64 0, .slice none 0 0] 24)) = wa at *
  go_wp2_with fail
  refine (legs_any n t (by omega) (by omega) _).mono ?_
  rintro e w1 ⟨v1, rfl, ho, hb⟩
  have O1 := Lib.hid (ho.mono (show w.heap.size + 1 ≤ _ by omega))
  replace H0 := Lib.hid (hb_below hb H0.out (by omega))
  have hz1 := hb.size
  have D1 := Lib.hid (D0.out.trans (hb.mono D0.out.size))
  clear hb ho
  go_wp2_with fail
  refine (body_any n h1 (by omega) _).mono ?_
  rintro e w2 ⟨v2, rfl, ho, hb⟩
  replace O1 := Lib.hid (O1.out.below hb)
  have O2 := Lib.hid (ho.mono (show w.heap.size + 1 ≤ _ by omega))
  replace H0 := Lib.hid (hb_below hb H0.out (by omega))
  have hz2 := hb.size
  have D2 := Lib.hid (D1.out.trans (hb.mono D1.out.size))
  clear hb ho
  go_wp2_with fail
  refine (along_up sP ((n : Int) - 1) 1 (by omega) (by omega) (by omega) ((n : Int) - 1) (by omega) _).mono ?_
  rintro e w3 ⟨v3, rfl, ho, hb⟩
  replace O1 := Lib.hid (O1.out.below hb)
  replace O2 := Lib.hid (O2.out.below hb)
  have O3 := Lib.hid (ho.mono (show w.heap.size + 1 ≤ _ by omega))
  replace H0 := Lib.hid (hb_below hb H0.out (by omega))
  have hz3 := hb.size
  have D3 := Lib.hid (D2.out.trans (hb.mono D2.out.size))
  clear hb ho
  rw [one_up] at O3
  obtain ⟨a1, c1, e1, _⟩ := ws_own O1.out
  subst e1
  obtain ⟨a2, c2, e2, _⟩ := ws_own O2.out
  subst e2
  obtain ⟨a3, c3, e3, _⟩ := ws_own O3.out
  subst e3
  have CC := Lib.hid (Concat_any w3.heap.size 5 [legsL n t, bodyL n, [⟨(n : Int) - 1, sP⟩], bodyL n, legsL n t] (w3.alloc (.cells #[(.slice a1 (legsL n t).length c1), (.slice a2 (bodyL n).length c2), (.slice a3 [(⟨(n : Int) - 1, sP⟩ : Wk)].length c3), (.slice a2 (bodyL n).length c2), (.slice a1 (legsL n t).length c1)] 22)) rfl (by decide) (by simp) (hatN [(.slice a1 (legsL n t).length c1), (.slice a2 (bodyL n).length c2), (.slice a3 [(⟨(n : Int) - 1, sP⟩ : Wk)].length c3), (.slice a2 (bodyL n).length c2), (.slice a1 (legsL n t).length c1)] _ _ (five_at (ws_own O1.out) (ws_own O2.out) (ws_own O3.out) (ws_own O2.out) (ws_own O1.out))) HLN.out)
  rw [HCAT.out] at CC
  go_wp2_with fail
  refine CC.out.mono ?_
  rintro e w4 ⟨v4, rfl, ho, hb⟩
  have hb2 : Below w3.heap.size w3 w4 := (below_alloc w3 _).trans (hb.mono (by simp))
  have O4 := Lib.hid (ho.mono (show w.heap.size + 1 ≤ _ by simp; omega))
  replace H0 := Lib.hid (hb_below hb2 H0.out (by omega))
  have hz4 := hb2.size
  have D4 := Lib.hid (D3.out.trans (hb2.mono D3.out.size))
  clear hb hb2 ho
  obtain ⟨a4, c4, e4, _⟩ := ws_own O4.out
  subst e4
  go_wp2_with (refine store_row rfl _ _ _ rfl w.heap.size _ rfl rfl _ _ H0.out (by kernel_rfl) rfl (by kernel_rfl) ?_)
  intro wf hf hk hzf hB
  have HF := Lib.hid hf
  have SF := Lib.hid (ws_own (wo_keep O4.out (Nat.lt_succ_self _) (fun k ob h hn => (hk k hn).trans h)))
  have DF := Lib.hid (hB _ _ D4.out (Nat.le_refl _))
  clear hf hk hzf hB
  go_wp2_with fail
  exact bodyPost_ret (results_bt rfl _ _ w.heap.size rfl rfl HF.out Try.underlying24 rfl (by kernel_rfl)) rfl ⟨_, rfl, SF.out, DF.out⟩
theorem Spider_any (n t : Int) (w : World) : Calls Try.prog 13 #[.int .i64 n, .int .i64 t] w (Out (spiderM n t) w) := by
  by_cases h : 1 ≤ n ∧ n ≤ 6
  · by_cases h2 : 0 ≤ t ∧ t ≤ 16
    · obtain ⟨k, rfl⟩ : ∃ k : Nat, n = (k : Int) := ⟨n.toNat, by omega⟩
      obtain ⟨j, rfl⟩ : ∃ j : Nat, t = (j : Int) := ⟨t.toNat, by omega⟩
      have hM : spiderM (k : Int) (j : Int) = ⟨2 * (k : Int), spiderL k j, 0⟩ := by unfold spiderM; rw [if_pos ⟨h, h2⟩]; simp
      rw [hM]
      exact Spider_ok k j (by omega) (by omega) (by omega) w
    · have hM : spiderM n t = moBad 7 := by unfold spiderM; rw [if_neg (fun e => h2 e.2)]
      rw [hM]
      exact Spider_bad2 n t h h2 w
  · have hM : spiderM n t = moBad 7 := by unfold spiderM; rw [if_neg (fun e => h e.1)]
    rw [hM]
    exact Spider_bad1 n t h w
def fanA (k : Nat) : List Wk := (List.range k).flatMap fun i => fanRowL (i + 1)
theorem fanA_next (k : Nat) : fanA (k + 1) = fanA k ++ fanRowL (k + 1) := by simp [fanA, List.range_succ]
def fanB (n k : Nat) : List Wk := (List.range k).flatMap fun i => fanRowL (n - 1 - i)
theorem fanB_next (n k : Nat) : fanB n (k + 1) = fanB n k ++ fanRowL (n - 1 - k) := by simp [fanB, List.range_succ]
theorem fanA_len (k : Nat) (h : k ≤ 12) : (fanA k).length ≤ k * 25 := by
  induction k with
  | zero => simp [fanA]
  | succ k ih => rw [fanA_next, List.length_append, fanRow_len, Nat.succ_mul]; have := ih (by omega); omega
theorem fanB_len (n k : Nat) (h : n ≤ 12) : (fanB n k).length ≤ k * 25 := by
  induction k with
  | zero => simp [fanB]
  | succ k ih => rw [fanB_next, List.length_append, fanRow_len, Nat.succ_mul]; omega
set_option maxHeartbeats 4000000 in
set_option maxRecDepth 100000 in
theorem Fan_any (n : Int) (w : World) : Calls Try.prog 15 #[.int .i64 n] w (Out (fanM n) w) := by
  by_cases h : 1 ≤ n ∧ n ≤ 12
  · have hr : true = (decide (1 ≤ n) && decide (n ≤ 12)) := by simp [h]
    obtain ⟨m, rfl⟩ : ∃ k : Nat, n = (k : Int) := ⟨n.toNat, by omega⟩
    have hM : fanM (m : Int) = ⟨(m : Int) + 1, fanA m ++ fanB m (m - 1), 0⟩ := by unfold fanM; rw [if_pos h]; simp [fanL, fanA, fanB]
    have m1 : 1 ≤ m := by omega
    have m2 : m ≤ 12 := by omega
    rw [hM]
    unfold Out
    clear hM h
    have CB := Lib.hid (fun W => between_any 1 (m : Int) 12 true hr W)
    clear hr
    go_enter Try.func15, Try.ntmps15
    go_wp2_with fail
    refine (CB.out _).mono ?_
    rintro e wb ⟨rfl, hw⟩
    obtain rfl := hw.symm
    clear hw
    have h0 : (w.alloc (.cells #[.int .i64 0, .slice none 0 0] 24)).heap[w.heap.size]? = some (.cells #[.int .i64 0, .slice none 0 0] 24 (0, 0)) := heap_alloc_new _ _
    have D0 := Lib.hid (below_alloc w (.cells #[.int .i64 0, .slice none 0 0] 24))
    have H0 := Lib.hid h0
    clear h0
    have hgs : w.heap.size < (w.alloc (.cells #[.int .i64 0, .slice none 0 0] 24)).heap.size := by simp
    generalize (w.alloc (.cells #[.int .i64 0, .slice none 0 0] 24)) = wa at *
    go_wp2_with fail
    go_loopw [4, 5] (fun v i wr => ∃ k : Nat, k ≤ m ∧ i = .int .i64 ((k : Int) + 1) ∧ WO (w.heap.size + 1) wr v (fanA k) ∧ wr.heap[w.heap.size]? = some (.cells #[.int .i64 0, .slice none 0 0] 24 (0, 0)) ∧ Below w.heap.size w wr ∧ w.heap.size < wr.heap.size) (fun _ i _ => (m : Nat) + 1 - (intOf i).toNat)
    case atStart => exact ⟨0, Nat.zero_le _, rfl, wo_nil _ _, H0.out, D0.out, hgs⟩
    case round =>
      obtain ⟨k, hk, rfl, hown, hbox, hbw, hsz⟩ := hrel
      have HO := Lib.hid hown
      have HX := Lib.hid hbox
      have HB := Lib.hid hbw
      clear hown hbox hbw
      rename World => wk
      have hlen := fanA_len k (by omega)
      by_cases hkl : k < m
      · have k1 : (k : Int) + 1 ≤ (m : Int) := by omega
        have HN := Lib.hid (fanA_next k)
        have CF : ∀ W, Calls Try.prog 43 #[.int .i64 ((k : Int) + 1)] W fun e w' => ∃ v, e = .returned v ∧ WO W.heap.size w' v (fanRowL (k + 1)) ∧ Below W.heap.size W w' := fun W => fanRow_any (k + 1) (by omega) (by omega) W
        have HCF := Lib.hid CF
        have hfl := fanRow_len (k + 1)
        clear CF
        go_wp2_with fail
        refine (HCF.out _).mono ?_
        rintro e w3 ⟨u, rfl, hu, hb⟩
        have HO3 := Lib.hid (HO.out.below hb)
        have HX3 := Lib.hid (hb_below hb HX.out hsz)
        have HB3 := Lib.hid (HB.out.trans (hb.mono HB.out.size))
        have HU := Lib.hid (ws_own hu)
        have hz3 := hb.size
        clear hu hb
        go_wp2_with (refine app_wks (w0 := w3) (w.heap.size + 1) _ (fanA k) _ rfl _ _ rfl rfl HO3.out _ rfl HU.out (by omega) (Below.refl _ _) (by omega) ?_)
        intro v' w' ho' hb'
        have HO4 := Lib.hid ho'
        have HX4 := Lib.hid (hb_below hb' HX3.out (by omega))
        have HB4 := Lib.hid (HB3.out.trans (hb'.mono (by omega)))
        have hz4 := hb'.size
        clear ho' hb'
        go_wp2_with fail
        go_roundw
        case rel => exact ⟨k + 1, hkl, by go_num, by rw [HN.out]; exact HO4.out, HX4.out, HB4.out, by omega⟩
        case measure => (simp [intOf] <;> omega)
      · have k1 : ¬ (k : Int) + 1 ≤ (m : Int) := by omega
        obtain rfl : k = m := by omega
        clear hkl
        go_wp2_with fail
        go_loopw [4, 6] (fun v i wr => ∃ j : Nat, j ≤ k - 1 ∧ i = .int .i64 ((k : Int) - 1 - (j : Int)) ∧ WO (w.heap.size + 1) wr v (fanA k ++ fanB k j) ∧ wr.heap[w.heap.size]? = some (.cells #[.int .i64 0, .slice none 0 0] 24 (0, 0)) ∧ Below w.heap.size w wr ∧ w.heap.size < wr.heap.size) (fun _ i _ => (intOf i).toNat)
        case atStart => exact ⟨0, Nat.zero_le _, by congr 1; omega, by simpa [fanB] using HO.out, HX.out, HB.out, hsz⟩
        case round =>
          obtain ⟨j, hj, rfl, hown, hbox, hbw, hsz⟩ := hrel
          have HO := Lib.hid hown
          have HX := Lib.hid hbox
          have HB := Lib.hid hbw
          clear hown hbox hbw
          rename World => wj
          have hlen2 := fanB_len k j m2
          by_cases hjl : j < k - 1
          · obtain ⟨z, hz⟩ : ∃ z : Int, z = (k : Int) - 1 - (j : Int) := ⟨_, rfl⟩
            have HN := Lib.hid (fanB_next k j)
            have CF : ∀ W, Calls Try.prog 43 #[.int .i64 z] W fun e w' => ∃ v, e = .returned v ∧ WO W.heap.size w' v (fanRowL (k - 1 - j)) ∧ Below W.heap.size W w' := fun W => by
              have := fanRow_any (k - 1 - j) (by omega) (by omega) W
              rwa [show ((k - 1 - j : Nat) : Int) = z by omega] at this
            have HCF := Lib.hid CF
            have hfl := fanRow_len (k - 1 - j)
            have HZ := Lib.hid hz
            have z1 : 1 ≤ z := by omega
            have z2 : z ≤ 12 := by omega
            have hl3 : (fanA k ++ fanB k j).length ≤ 1000 := by rw [List.length_append]; omega
            rw [← hz]
            clear CF hz
            go_wp2_with fail
            refine (HCF.out _).mono ?_
            rintro e w3 ⟨u, rfl, hu, hb⟩
            have HO3 := Lib.hid (HO.out.below hb)
            have HX3 := Lib.hid (hb_below hb HX.out hsz)
            have HB3 := Lib.hid (HB.out.trans (hb.mono HB.out.size))
            have HU := Lib.hid (ws_own hu)
            have hz3 := hb.size
            clear hu hb
            go_wp2_with (refine app_wks (w0 := w3) (w.heap.size + 1) _ (fanA k ++ fanB k j) _ rfl _ _ rfl rfl HO3.out _ rfl HU.out (by omega) (Below.refl _ _) (by omega) ?_)
            intro v' w' ho' hb'
            have HO4 := Lib.hid ho'
            have HX4 := Lib.hid (hb_below hb' HX3.out (by omega))
            have HB4 := Lib.hid (HB3.out.trans (hb'.mono (by omega)))
            have hz4 := hb'.size
            clear ho' hb'
            go_wp2_with fail
            go_roundw
            case rel => exact ⟨j + 1, hjl, by have := HZ.out; congr 1; omega, by rw [HN.out]; first | exact HO4.out | (rw [← List.append_assoc]; exact HO4.out), HX4.out, HB4.out, by omega⟩
            case measure => have := HZ.out; simp [intOf]; omega
          · have z1 : ¬ 1 ≤ (k : Int) - 1 - (j : Int) := by omega
            have ej : j = k - 1 := by omega
            rw [ej] at HO
            clear hjl ej hlen2 hj
            skip
            skip
            have O9 := HO
            have H0 := HX
            obtain ⟨a9, c9, e9, _⟩ := ws_own O9.out
            subst e9
            go_wp2_with (refine store_row rfl _ _ _ rfl w.heap.size _ rfl rfl _ _ H0.out (by kernel_rfl) rfl (by kernel_rfl) ?_)
            intro wf hf hk hzf hB
            have HF := Lib.hid hf
            have SF := Lib.hid (ws_own (wo_keep O9.out (Nat.lt_succ_self _) (fun k ob h hn => (hk k hn).trans h)))
            have DF := Lib.hid (hB _ _ HB.out (Nat.le_refl _))
            clear hf hk hzf hB
            go_wp2_with fail
            exact bodyPost_ret (results_bt rfl _ _ w.heap.size rfl rfl HF.out Try.underlying24 rfl (by kernel_rfl)) rfl ⟨.slice a9 (fanA k ++ fanB k (k - 1)).length c9, by first | rfl | (simp only [List.length_append]; rfl), SF.out, DF.out⟩
  · have hr : false = (decide (1 ≤ n) && decide (n ≤ 12)) := by
      simp; omega
    have hM : fanM n = moBad 7 := by unfold fanM; rw [if_neg h]
    rw [hM]
    unfold Out moBad
    clear hM h
    have CB := Lib.hid (fun W => between_any 1 n 12 false hr W)
    clear hr
    go_enter Try.func15, Try.ntmps15
    go_wp2_with fail
    refine (CB.out _).mono ?_
    rintro e wb ⟨rfl, hw⟩
    obtain rfl := hw.symm
    clear hw
    go_wp2_with fail
    exact bodyPost_ret (results_bt rfl _ _ w.heap.size rfl rfl (heap_alloc_new _ _) Try.underlying24 rfl (by kernel_rfl)) rfl ⟨_, rfl, ws_nil _, below_alloc w _⟩
end Go.Proofs.Ytgbdccoimmkmeaa
