/- The motifs of the reference: Spider, Fan. -/
import Derived.Test.YtgbdccoimmkmeaaWR
namespace Go.Proofs.Ytgbdccoimmkmeaa
open Go.RowKit
set_option linter.unusedSimpArgs false
set_option maxHeartbeats 4000000 in
set_option maxRecDepth 100000 in
theorem refSpider_bad (n t : Int) (h : ¬ ((1 ≤ n ∧ n ≤ 6) ∧ 0 ≤ t ∧ t ≤ 16)) (w : World) : Calls Try.prog 14 #[.int .i64 n, .int .i64 t] w (Out (moBad 7) w) := by
  unfold Out moBad
  by_cases h1 : n < 1
  · clear h
    go_enter Try.func14, Try.ntmps14
    go_wp2_with fail
    exact bodyPost_ret (results_bt rfl _ _ w.heap.size rfl rfl (heap_alloc_new _ _) Try.underlying24 rfl (by kernel_rfl)) rfl ⟨_, rfl, ws_nil _, below_alloc w _⟩
  · by_cases h2 : 6 < n
    · clear h
      go_enter Try.func14, Try.ntmps14
      go_wp2_with fail
      exact bodyPost_ret (results_bt rfl _ _ w.heap.size rfl rfl (heap_alloc_new _ _) Try.underlying24 rfl (by kernel_rfl)) rfl ⟨_, rfl, ws_nil _, below_alloc w _⟩
    · by_cases h3 : t < 0
      · clear h
        go_enter Try.func14, Try.ntmps14
        go_wp2_with fail
        exact bodyPost_ret (results_bt rfl _ _ w.heap.size rfl rfl (heap_alloc_new _ _) Try.underlying24 rfl (by kernel_rfl)) rfl ⟨_, rfl, ws_nil _, below_alloc w _⟩
      · have h4 : 16 < t := by omega
        clear h
        go_enter Try.func14, Try.ntmps14
        go_wp2_with fail
        exact bodyPost_ret (results_bt rfl _ _ w.heap.size rfl rfl (heap_alloc_new _ _) Try.underlying24 rfl (by kernel_rfl)) rfl ⟨_, rfl, ws_nil _, below_alloc w _⟩
set_option maxHeartbeats 4000000 in
set_option maxRecDepth 100000 in
theorem refSpider_ok (n t : Nat) (h1 : 1 ≤ n) (h2 : n ≤ 6) (h3 : t ≤ 16) (w : World) : Calls Try.prog 14 #[.int .i64 (n : Int), .int .i64 (t : Int)] w (Out ⟨2 * (n : Int), spiderL n t, 0⟩ w) := by
  have k1 : ¬ (n : Int) < 1 := by omega
  have k2 : ¬ 6 < (n : Int) := by omega
  have k3 : ¬ (t : Int) < 0 := by omega
  have k4 : ¬ 16 < (t : Int) := by omega
  have HBD := Lib.hid (fun W => refbody_any n h1 (by omega) W)
  have hbl := bodyL_len n
  have hnn : n * n ≤ 6 * 6 := Nat.mul_le_mul h2 h2
  have hbl2 : (bodyL n).length ≤ 36 := by omega
  have HNE := Lib.hid (show bodyL n ≠ [] from fun e => by rw [e] at hbl; have : 0 < n * n := Nat.mul_pos h1 h1; simp at hbl; omega)
  have hll := legs_len n t
  clear hbl hnn
  unfold Out
  go_enter Try.func14, Try.ntmps14
  go_wp2_with fail
  have h0 : (w.alloc (.cells #[.int .i64 0, .slice none 0 0] 24)).heap[w.heap.size]? = some (.cells #[.int .i64 0, .slice none 0 0] 24 (0, 0)) := heap_alloc_new _ _
  have hD := below_alloc w (.cells #[.int .i64 0, .slice none 0 0] 24)
  have hs1 : w.heap.size < (w.alloc (.cells #[.int .i64 0, .slice none 0 0] 24)).heap.size := by simp
  generalize w.alloc (.cells #[.int .i64 0, .slice none 0 0] 24) = wa at *
  obtain ⟨m, hm⟩ : ∃ m : Nat, m = (if t = 0 then 0 else n) := ⟨_, rfl⟩
  have HM := Lib.hid hm
  clear hm
  go_loopw [6, 7] (fun v i wr => ∃ k : Nat, k ≤ m ∧ i = .int .i64 (k : Int) ∧ WO (w.heap.size + 1) wr v ((List.range k).map fun (k : Nat) => ⟨2 * (k : Int), sT t⟩) ∧ wr.heap[w.heap.size]? = some (.cells #[.int .i64 0, .slice none 0 0] 24 (0, 0)) ∧ Below w.heap.size w wr ∧ w.heap.size < wr.heap.size) (fun _ i _ => m - (intOf i).toNat)
  case atStart => exact ⟨0, Nat.zero_le _, rfl, wo_nil _ _, h0, hD, hs1⟩
  case round =>
    obtain ⟨k, hk, rfl, hown, hres, hbw, hsz⟩ := hrel
    have HO := Lib.hid hown
    have H0 := Lib.hid hres
    have HB := Lib.hid hbw
    clear hown hres hbw h0 hD hs1
    rename World => wk
    have hm2 : m ≤ n := by have := HM.out; split at this <;> omega
    by_cases hkl : k < m
    · have q0 : (k : Int) < (n : Int) := by omega
      have q1 : 0 < (t : Int) := by have := HM.out; split at this <;> omega
      have q2 : (0 : Int) ≤ (k : Int) := by omega
      have HN := Lib.hid (legs_next t k)
      have hlen : ((List.range k).map fun (k : Nat) => (⟨2 * (k : Int), sT t⟩ : Wk)).length ≤ 100 := by simp; omega
      have CL := Lib.hid (fun W => letters_any 84 t (by omega) W)
      generalize ((List.range k).map fun (k : Nat) => (⟨2 * (k : Int), sT t⟩ : Wk)) = D at *
      go_wp2_with fail
      refine (CL.out _).mono ?_
      rintro e w1 ⟨rfl, hw⟩
      obtain rfl := hw.symm
      clear hw
      go_wp2_with fail
      refine (refstitch_any (sT t) _ _).mono ?_
      rintro e w3 ⟨rfl, hb⟩
      have HO3 := Lib.hid (HO.out.below hb)
      have H03 := Lib.hid (hb_below hb H0.out hsz)
      have HB3 := Lib.hid (HB.out.trans (hb.mono HB.out.size))
      have hz3 := hb.size
      clear hb
      go_wp2_with (refine app_wk (w0 := w3) (w.heap.size + 1) _ D ⟨2 * (k : Int), sT t⟩ rfl _ _ rfl rfl HO3.out rfl (by omega) (Below.refl _ _) (by omega) ?_)
      intro v' w' ho' hb'
      have HO4 := Lib.hid ho'
      have H04 := Lib.hid (hb_below hb' H03.out (by omega))
      have HB4 := Lib.hid (HB3.out.trans (hb'.mono (by omega)))
      have hz4 := hb'.size
      clear ho' hb'
      go_wp2_with fail
      go_roundw
      case rel => exact ⟨k + 1, hkl, by go_num, by rw [HN.out]; exact HO4.out, H04.out, HB4.out, by omega⟩
      case measure => (simp [intOf] <;> omega)
    · have hkm : k = m := by omega
      have hlg : ((List.range k).map fun (k : Nat) => (⟨2 * (k : Int), sT t⟩ : Wk)) = legsL n t := by
        rw [hkm, HM.out]; unfold legsL
        split <;> simp
      rw [hlg] at HO
      have hgd : ((k : Int) < (n : Int) ∧ ¬ 0 < (t : Int)) ∨ ¬ (k : Int) < (n : Int) := by
        have := HM.out
        split at this <;> omega
      have e0 : IntKind.i64.wrap (2 * (n : Int)) = 2 * (n : Int) := IntWalk.i64_in _ (by omega)
      clear hlg hkm hkl hk
      rename World => wt
      obtain ⟨b, hbe⟩ : ∃ b, b = wt.heap.size := ⟨_, rfl⟩
      have hX : (wt.alloc (.cells #[.int .i64 (2 * (n : Int)), .slice none 0 0] 24)).heap[b]? = some (.cells #[.int .i64 (2 * (n : Int)), .slice none 0 0] 24 (0, 0)) := hb_new hbe
      have hBB : Below b wt (wt.alloc (.cells #[.int .i64 (2 * (n : Int)), .slice none 0 0] 24)) := by rw [hbe]; exact below_alloc _ _
      have hsz2 : b < (wt.alloc (.cells #[.int .i64 (2 * (n : Int)), .slice none 0 0] 24)).heap.size := by rw [hbe]; simp
      have hrb : w.heap.size < b := by omega
      have H0t := H0
      have Dt := HB
      have HTW := Lib.hid (ws_own HO.out)
      obtain ⟨at6, ct6, et6, _⟩ := HTW.out
      subst et6
      have HBE := Lib.hid hbe
      clear H0 HB HO
      have HX := Lib.hid hX
      have HB := Lib.hid hBB
      clear hX hBB hsz
      rcases hgd with ⟨q0, q1⟩ | q0
      all_goals
        go_upto_region 9 with fail
        rw [← hbe]
        generalize wt.alloc (.cells #[.int .i64 (2 * (n : Int)), .slice none 0 0] 24) = wk at *
        clear hbe
        have HO := Lib.hid (wo_nil (b + 1) wk)
        skip
        go_cut [] from 9 to 48 (fun wr => ∃ v, WO (b + 1) wr v (legsL n t) ∧ wr.heap[b]? = some (.cells #[.int .i64 (2 * (n : Int)), v] 24 (0, 0)) ∧ Below b wt wr ∧ b < wr.heap.size)
        case first =>
          have c0 := cell_of_heap (j := 1) HX.out rfl
          have f0 := frozen_of_heap HX.out 1
          have HT2 := Lib.hid (HTW.out.below (by rw [← HBE.out]; exact HB.out))
          go_wp2_with (refine app_wks (w0 := wk) (b + 1) _ [] (legsL n t) rfl _ _ rfl rfl HO.out _ rfl HT2.out (by first | omega | (simp; omega)) (Below.refl _ _) (by omega) ?_)
          intro v6 w6 O6 B6
          obtain ⟨a6, q6, e6, _⟩ := ws_own O6
          subst e6
          replace O6 := Lib.hid O6
          replace B6 := Lib.hid B6
          try rw [List.length_append] at O6
          have HX6 := Lib.hid (hb_below B6.out HX.out (by omega))
          have hz6 := B6.out.size
          have hlt6 : b < w6.heap.size := (by omega)
          have HB6 := Lib.hid (HB.out.trans (B6.out.mono (by omega)))
          have c6 := cell_of_heap (j := 1) HX6.out rfl
          have f6 := frozen_of_heap HX6.out 1
          have HX7 := Lib.hid (show (w6.setCell ⟨b, 1, none⟩ (.slice a6 ((legsL n t).length) q6)).heap[b]? = some (.cells #[.int .i64 (2 * (n : Int)), (.slice a6 ((legsL n t).length) q6)] 24 (0, 0)) from heap_setCell_same _ _ _ _ _ _ HX6.out)
          have HO7 := Lib.hid (wo_keep (w' := (w6.setCell ⟨b, 1, none⟩ (.slice a6 ((legsL n t).length) q6))) O6.out (Nat.lt_succ_self b) (fun k ob h hn => (heap_setCell_other _ _ _ _ hn).trans h))
          have HB7 := Lib.hid (HB6.out.setCell (p := ⟨b, 1, none⟩) (Nat.le_refl _) (.slice a6 ((legsL n t).length) q6))
          have hz7 : b < (w6.setCell ⟨b, 1, none⟩ (.slice a6 ((legsL n t).length) q6)).heap.size := by simp; omega
          go_wp2_with fail
          go_meet
          exact ⟨_, by simpa using HO7.out, HX7.out, HB7.out, hz7⟩
        case rest =>
          obtain ⟨v, hown, hbox, hbw, hsz3⟩ := hcut
          clear HX HB HO hsz2
          have hsz2 := hsz3
          clear hsz3
          have HO := Lib.hid hown
          have HX := Lib.hid hbox
          have HB := Lib.hid hbw
          clear hown hbox hbw
          rename World => wk
          go_upto_region 10 with fail
          go_cut [] from 9 to 54 (fun wr => ∃ v, WO (b + 1) wr v (legsL n t ++ bodyL n) ∧ wr.heap[b]? = some (.cells #[.int .i64 (2 * (n : Int)), v] 24 (0, 0)) ∧ Below b wt wr ∧ b < wr.heap.size)
          case first =>
            have c0 := cell_of_heap (j := 1) HX.out rfl
            have f0 := frozen_of_heap HX.out 1
            obtain ⟨av, cv, ev, _⟩ := ws_own HO.out
            subst ev
            go_region_law (first
              | (go_simp; go_at_call 42; refine (HBD.out _).mono ?_; rintro e w1 ⟨u1, rfl, hu, hb⟩; have hb1 : Below wk.heap.size wk w1 := (by first | exact hb | exact ((Below.refl _ wk).drew).trans hb); have HX1 := Lib.hid (hb_below hb1 HX.out (by omega)); have HO1 := Lib.hid (HO.out.below hb1); have hz1 := hb1.size; have hlt1 : b < w1.heap.size := (by omega); have HB1 := Lib.hid (HB.out.trans (hb1.mono (by omega))); have c1 := cell_of_heap (j := 1) HX1.out rfl; have f1 := frozen_of_heap HX1.out 1; have HU1 := Lib.hid (ws_own hu); obtain ⟨a7, c7, e7, _⟩ := HU1.out; subst e7; clear hb hb1 hu)
              | (refine step_wks (o := ⟨some 53, _, _, _, _, _⟩) (w := w1) (w0 := w1) (b + 1) _ (legsL n t) (bodyL n) rfl (.tmp 50) (.tmp 52) rfl (by rfl) HO1.out _ (by rfl) HU1.out HNE.out (by omega) (Below.refl _ _) (by omega) ?_; intro v6 w6 O6 B6; obtain ⟨a6, q6, e6, _⟩ := ws_own O6.out; subst e6; rw [List.length_append] at O6; have HX6 := Lib.hid (hb_below B6.out HX1.out (by omega)); have hz6 := B6.out.size; have hlt6 : b < w6.heap.size := (by omega); have HB6 := Lib.hid (HB1.out.trans (B6.out.mono (by omega))); have c6 := cell_of_heap (j := 1) HX6.out rfl; have f6 := frozen_of_heap HX6.out 1))
            all_goals
              have HX7 := Lib.hid (show (w6.setCell ⟨b, 1, none⟩ (.slice a6 ((legsL n t).length + (bodyL n).length) q6)).heap[b]? = some (.cells #[.int .i64 (2 * (n : Int)), (.slice a6 ((legsL n t).length + (bodyL n).length) q6)] 24 (0, 0)) from heap_setCell_same _ _ _ _ _ _ HX6.out)
              have HO7 := Lib.hid (wo_keep (w' := (w6.setCell ⟨b, 1, none⟩ (.slice a6 ((legsL n t).length + (bodyL n).length) q6))) O6.out (Nat.lt_succ_self b) (fun k ob h hn => (heap_setCell_other _ _ _ _ hn).trans h))
              have HB7 := Lib.hid (HB6.out.setCell (p := ⟨b, 1, none⟩) (Nat.le_refl _) (.slice a6 ((legsL n t).length + (bodyL n).length) q6))
              have hz7 : b < (w6.setCell ⟨b, 1, none⟩ (.slice a6 ((legsL n t).length + (bodyL n).length) q6)).heap.size := by simp; omega
              go_wp2_with fail
              go_meet
              exact ⟨_, HO7.out, HX7.out, HB7.out, hz7⟩
          case rest =>
            obtain ⟨v, hown, hbox, hbw, hsz3⟩ := hcut
            clear HX HB HO hsz2
            have hsz2 := hsz3
            clear hsz3
            have HO := Lib.hid hown
            have HX := Lib.hid hbox
            have HB := Lib.hid hbw
            clear hown hbox hbw
            rename World => wk
            obtain ⟨E2, hE2⟩ : ∃ E, E = legsL n t ++ bodyL n := ⟨_, rfl⟩
            rw [← hE2] at HO
            have lE2 : E2.length ≤ 50 := by rw [hE2]; simp only [List.length_append, List.length_singleton]; omega
            have HE2 := Lib.hid hE2
            clear hE2
            go_upto_region 11 with fail
            go_cut [] from 9 to 62 (fun wr => ∃ v, WO (b + 1) wr v (E2 ++ [⟨(n : Int) - 1, sP⟩]) ∧ wr.heap[b]? = some (.cells #[.int .i64 (2 * (n : Int)), v] 24 (0, 0)) ∧ Below b wt wr ∧ b < wr.heap.size)
            case first =>
              have c0 := cell_of_heap (j := 1) HX.out rfl
              have f0 := frozen_of_heap HX.out 1
              obtain ⟨av, cv, ev, _⟩ := ws_own HO.out
              subst ev
              have e9 : IntKind.i64.wrap ((n : Int) - 1) = (n : Int) - 1 := IntWalk.i64_in _ (by omega)
              go_region_law (first
                | (go_simp; go_at_call 36; refine (refstitch_any sP ((n : Int) - 1) _).mono ?_; rintro e w1 ⟨rfl, hb⟩; have hb1 : Below wk.heap.size wk w1 := (by first | exact hb | exact ((Below.refl _ wk).drew).trans hb); have HX1 := Lib.hid (hb_below hb1 HX.out (by omega)); have HO1 := Lib.hid (HO.out.below hb1); have hz1 := hb1.size; have hlt1 : b < w1.heap.size := (by omega); have HB1 := Lib.hid (HB.out.trans (hb1.mono (by omega))); have c1 := cell_of_heap (j := 1) HX1.out rfl; have f1 := frozen_of_heap HX1.out 1; clear hb hb1)
                | (refine step_wk (o := ⟨some 61, _, _, _, _, _⟩) (w := w1) (w0 := w1) (b + 1) _ E2 ⟨((n : Int) - 1), sP⟩ rfl (.tmp 56) (.tmp 60) rfl (by rfl) HO1.out (by rfl) (by omega) (Below.refl _ _) (by omega) ?_; intro v6 w6 O6 B6; obtain ⟨a6, q6, e6, _⟩ := ws_own O6.out; subst e6; rw [List.length_append, List.length_singleton] at O6; have HX6 := Lib.hid (hb_below B6.out HX1.out (by omega)); have hz6 := B6.out.size; have hlt6 : b < w6.heap.size := (by omega); have HB6 := Lib.hid (HB1.out.trans (B6.out.mono (by omega))); have c6 := cell_of_heap (j := 1) HX6.out rfl; have f6 := frozen_of_heap HX6.out 1))
              all_goals
                have HX7 := Lib.hid (show (w6.setCell ⟨b, 1, none⟩ (.slice a6 (E2.length + 1) q6)).heap[b]? = some (.cells #[.int .i64 (2 * (n : Int)), (.slice a6 (E2.length + 1) q6)] 24 (0, 0)) from heap_setCell_same _ _ _ _ _ _ HX6.out)
                have HO7 := Lib.hid (wo_keep (w' := (w6.setCell ⟨b, 1, none⟩ (.slice a6 (E2.length + 1) q6))) O6.out (Nat.lt_succ_self b) (fun k ob h hn => (heap_setCell_other _ _ _ _ hn).trans h))
                have HB7 := Lib.hid (HB6.out.setCell (p := ⟨b, 1, none⟩) (Nat.le_refl _) (.slice a6 (E2.length + 1) q6))
                have hz7 : b < (w6.setCell ⟨b, 1, none⟩ (.slice a6 (E2.length + 1) q6)).heap.size := by simp; omega
                go_wp2_with fail
                go_meet
                exact ⟨_, HO7.out, HX7.out, HB7.out, hz7⟩
            case rest =>
              obtain ⟨v, hown, hbox, hbw, hsz3⟩ := hcut
              clear HX HB HO hsz2
              have hsz2 := hsz3
              clear hsz3
              have HO := Lib.hid hown
              have HX := Lib.hid hbox
              have HB := Lib.hid hbw
              clear hown hbox hbw
              rename World => wk
              obtain ⟨E3, hE3⟩ : ∃ E, E = E2 ++ [⟨(n : Int) - 1, sP⟩] := ⟨_, rfl⟩
              rw [← hE3] at HO
              have lE3 : E3.length ≤ 60 := by rw [hE3]; simp only [List.length_append, List.length_singleton]; omega
              have HE3 := Lib.hid hE3
              clear hE3
              go_upto_region 12 with fail
              go_cut [] from 9 to 68 (fun wr => ∃ v, WO (b + 1) wr v (E3 ++ bodyL n) ∧ wr.heap[b]? = some (.cells #[.int .i64 (2 * (n : Int)), v] 24 (0, 0)) ∧ Below b wt wr ∧ b < wr.heap.size)
              case first =>
                have c0 := cell_of_heap (j := 1) HX.out rfl
                have f0 := frozen_of_heap HX.out 1
                obtain ⟨av, cv, ev, _⟩ := ws_own HO.out
                subst ev
                go_region_law (first
                  | (go_simp; go_at_call 42; refine (HBD.out _).mono ?_; rintro e w1 ⟨u1, rfl, hu, hb⟩; have hb1 : Below wk.heap.size wk w1 := (by first | exact hb | exact ((Below.refl _ wk).drew).trans hb); have HX1 := Lib.hid (hb_below hb1 HX.out (by omega)); have HO1 := Lib.hid (HO.out.below hb1); have hz1 := hb1.size; have hlt1 : b < w1.heap.size := (by omega); have HB1 := Lib.hid (HB.out.trans (hb1.mono (by omega))); have c1 := cell_of_heap (j := 1) HX1.out rfl; have f1 := frozen_of_heap HX1.out 1; have HU1 := Lib.hid (ws_own hu); obtain ⟨a7, c7, e7, _⟩ := HU1.out; subst e7; clear hb hb1 hu)
                  | (refine step_wks (o := ⟨some 67, _, _, _, _, _⟩) (w := w1) (w0 := w1) (b + 1) _ E3 (bodyL n) rfl (.tmp 64) (.tmp 66) rfl (by rfl) HO1.out _ (by rfl) HU1.out HNE.out (by omega) (Below.refl _ _) (by omega) ?_; intro v6 w6 O6 B6; obtain ⟨a6, q6, e6, _⟩ := ws_own O6.out; subst e6; rw [List.length_append] at O6; have HX6 := Lib.hid (hb_below B6.out HX1.out (by omega)); have hz6 := B6.out.size; have hlt6 : b < w6.heap.size := (by omega); have HB6 := Lib.hid (HB1.out.trans (B6.out.mono (by omega))); have c6 := cell_of_heap (j := 1) HX6.out rfl; have f6 := frozen_of_heap HX6.out 1))
                all_goals
                  have HX7 := Lib.hid (show (w6.setCell ⟨b, 1, none⟩ (.slice a6 (E3.length + (bodyL n).length) q6)).heap[b]? = some (.cells #[.int .i64 (2 * (n : Int)), (.slice a6 (E3.length + (bodyL n).length) q6)] 24 (0, 0)) from heap_setCell_same _ _ _ _ _ _ HX6.out)
                  have HO7 := Lib.hid (wo_keep (w' := (w6.setCell ⟨b, 1, none⟩ (.slice a6 (E3.length + (bodyL n).length) q6))) O6.out (Nat.lt_succ_self b) (fun k ob h hn => (heap_setCell_other _ _ _ _ hn).trans h))
                  have HB7 := Lib.hid (HB6.out.setCell (p := ⟨b, 1, none⟩) (Nat.le_refl _) (.slice a6 (E3.length + (bodyL n).length) q6))
                  have hz7 : b < (w6.setCell ⟨b, 1, none⟩ (.slice a6 (E3.length + (bodyL n).length) q6)).heap.size := by simp; omega
                  go_wp2_with fail
                  go_meet
                  exact ⟨_, HO7.out, HX7.out, HB7.out, hz7⟩
              case rest =>
                obtain ⟨v, hown, hbox, hbw, hsz3⟩ := hcut
                clear HX HB HO hsz2
                have hsz2 := hsz3
                clear hsz3
                have HO := Lib.hid hown
                have HX := Lib.hid hbox
                have HB := Lib.hid hbw
                clear hown hbox hbw
                rename World => wk
                obtain ⟨E4, hE4⟩ : ∃ E, E = E3 ++ bodyL n := ⟨_, rfl⟩
                rw [← hE4] at HO
                have lE4 : E4.length ≤ 100 := by rw [hE4]; simp only [List.length_append, List.length_singleton]; omega
                have HE4 := Lib.hid hE4
                clear hE4
                go_upto_region 13 with fail
                go_cut [] from 9 to 73 (fun wr => ∃ v, WO (b + 1) wr v (E4 ++ legsL n t) ∧ wr.heap[b]? = some (.cells #[.int .i64 (2 * (n : Int)), v] 24 (0, 0)) ∧ Below b wt wr ∧ b < wr.heap.size)
                case first =>
                  have c0 := cell_of_heap (j := 1) HX.out rfl
                  have f0 := frozen_of_heap HX.out 1
                  obtain ⟨av, cv, ev, _⟩ := ws_own HO.out
                  subst ev
                  have HT2 := Lib.hid (HTW.out.below (by rw [← HBE.out]; exact HB.out))
                  go_wp2_with (refine app_wks (w0 := wk) (b + 1) _ E4 (legsL n t) rfl _ _ rfl rfl HO.out _ rfl HT2.out (by first | omega | (simp; omega)) (Below.refl _ _) (by omega) ?_)
                  intro v6 w6 O6 B6
                  obtain ⟨a6, q6, e6, _⟩ := ws_own O6
                  subst e6
                  replace O6 := Lib.hid O6
                  replace B6 := Lib.hid B6
                  try rw [List.length_append] at O6
                  have HX6 := Lib.hid (hb_below B6.out HX.out (by omega))
                  have hz6 := B6.out.size
                  have hlt6 : b < w6.heap.size := (by omega)
                  have HB6 := Lib.hid (HB.out.trans (B6.out.mono (by omega)))
                  have c6 := cell_of_heap (j := 1) HX6.out rfl
                  have f6 := frozen_of_heap HX6.out 1
                  all_goals
                    have HX7 := Lib.hid (show (w6.setCell ⟨b, 1, none⟩ (.slice a6 (E4.length + (legsL n t).length) q6)).heap[b]? = some (.cells #[.int .i64 (2 * (n : Int)), (.slice a6 (E4.length + (legsL n t).length) q6)] 24 (0, 0)) from heap_setCell_same _ _ _ _ _ _ HX6.out)
                    have HO7 := Lib.hid (wo_keep (w' := (w6.setCell ⟨b, 1, none⟩ (.slice a6 (E4.length + (legsL n t).length) q6))) O6.out (Nat.lt_succ_self b) (fun k ob h hn => (heap_setCell_other _ _ _ _ hn).trans h))
                    have HB7 := Lib.hid (HB6.out.setCell (p := ⟨b, 1, none⟩) (Nat.le_refl _) (.slice a6 (E4.length + (legsL n t).length) q6))
                    have hz7 : b < (w6.setCell ⟨b, 1, none⟩ (.slice a6 (E4.length + (legsL n t).length) q6)).heap.size := by simp; omega
                    go_wp2_with fail
                    go_meet
                    exact ⟨_, HO7.out, HX7.out, HB7.out, hz7⟩
                case rest =>
                  obtain ⟨v, hown, hbox, hbw, hsz3⟩ := hcut
                  clear HX HB HO hsz2
                  have hsz2 := hsz3
                  clear hsz3
                  have HO := Lib.hid hown
                  have HX := Lib.hid hbox
                  have HB := Lib.hid hbw
                  clear hown hbox hbw
                  rename World => wk
                  obtain ⟨E5, hE5⟩ : ∃ E, E = E4 ++ legsL n t := ⟨_, rfl⟩
                  rw [← hE5] at HO
                  have lE5 : E5.length ≤ 120 := by rw [hE5]; simp only [List.length_append, List.length_singleton]; omega
                  have HE5 := Lib.hid hE5
                  clear hE5
                  have hfin : E5 = spiderL n t := by rw [HE5.out, HE4.out, HE3.out, HE2.out]; simp [spiderL]
                  rw [hfin] at HO
                  clear hfin
                  have H0 := Lib.hid (hb_below HB.out H0t.out hrb)
                  have DW := Lib.hid (Dt.out.trans (HB.out.mono (Nat.le_of_lt hrb)))
                  obtain ⟨av, cv, ev, _⟩ := ws_own HO.out
                  subst ev
                  have c0 := cell_of_heap (j := 0) HX.out rfl
                  have c1 := cell_of_heap (j := 1) HX.out rfl
                  go_wp2_with (refine store_row rfl _ _ _ rfl w.heap.size _ rfl rfl _ _ H0.out (by kernel_rfl) rfl (by kernel_rfl) ?_)
                  intro wf hf hk2 hzf hB
                  have HF := Lib.hid hf
                  have SF := Lib.hid (ws_own (wo_keep HO.out (show w.heap.size < b + 1 by omega) (fun k ob h hn => (hk2 k hn).trans h)))
                  have DF := Lib.hid (hB _ _ DW.out (Nat.le_refl _))
                  clear hf hk2 hzf hB
                  go_wp2_with fail
                  exact bodyPost_ret (results_bt rfl _ _ w.heap.size rfl rfl HF.out Try.underlying24 rfl (by kernel_rfl)) rfl ⟨_, by first | rfl | (simp only [List.length_append]; rfl), SF.out, DF.out⟩
theorem refSpider_any (n t : Int) (w : World) : Calls Try.prog 14 #[.int .i64 n, .int .i64 t] w (Out (spiderM n t) w) := by
  by_cases h : (1 ≤ n ∧ n ≤ 6) ∧ 0 ≤ t ∧ t ≤ 16
  · obtain ⟨k, rfl⟩ : ∃ k : Nat, n = (k : Int) := ⟨n.toNat, by omega⟩
    obtain ⟨j, rfl⟩ : ∃ j : Nat, t = (j : Int) := ⟨t.toNat, by omega⟩
    have hM : spiderM (k : Int) (j : Int) = ⟨2 * (k : Int), spiderL k j, 0⟩ := by unfold spiderM; rw [if_pos h]; simp
    rw [hM]
    exact refSpider_ok k j (by omega) (by omega) (by omega) w
  · have hM : spiderM n t = moBad 7 := by unfold spiderM; rw [if_neg h]
    rw [hM]
    exact refSpider_bad n t h w
end Go.Proofs.Ytgbdccoimmkmeaa
