/- The motifs of the reference: Fan. -/
import Derived.Test.YtgbdccoimmkmeaaWR
namespace Go.Proofs.Ytgbdccoimmkmeaa
open Go.RowKit
set_option linter.unusedSimpArgs false
def fanR (m r : Nat) : List Wk := (List.range r).flatMap fun i => fanRowL (min (i + 1) (2 * m - 1 - i))
theorem fanR_next (m r : Nat) : fanR m (r + 1) = fanR m r ++ fanRowL (min (r + 1) (2 * m - 1 - r)) := by simp [fanR, List.range_succ]
theorem fanR_len (m r : Nat) (hm : m ≤ 12) : (fanR m r).length ≤ r * 25 := by
  induction r with
  | zero => simp [fanR]
  | succ r ih => rw [fanR_next, List.length_append, fanRow_len, Nat.succ_mul]; omega
theorem fanR_low (m r : Nat) (h : r ≤ m) : fanR m r = fanA r := by
  induction r with
  | zero => rfl
  | succ r ih => rw [fanR_next, fanA_next, ih (by omega), show min (r + 1) (2 * m - 1 - r) = r + 1 by omega]
theorem fanR_high (m j : Nat) (h : 1 ≤ m) : fanR m (m + j) = fanA m ++ fanB m j := by
  induction j with
  | zero => simp [fanR_low m m (Nat.le_refl m), fanB]
  | succ j ih => rw [← Nat.add_assoc, fanR_next, ih, fanB_next, List.append_assoc, show min (m + j + 1) (2 * m - 1 - (m + j)) = m - 1 - j by omega]
theorem fanR_all (m : Nat) (h : 1 ≤ m) : fanR m (2 * m - 1) = fanL m := by
  rw [show 2 * m - 1 = m + (m - 1) by omega, fanR_high m (m - 1) h]
  simp [fanL, fanA, fanB]
set_option maxHeartbeats 40000000 in
set_option maxRecDepth 100000 in
theorem refFan_bad (n : Int) (h : ¬ (1 ≤ n ∧ n ≤ 12)) (w : World) : Calls Try.prog 16 #[.int .i64 n] w (Out (moBad 7) w) := by
  unfold Out moBad
  by_cases h1 : n < 1
  · clear h
    go_enter Try.func16, Try.ntmps16
    go_wp2_with fail
    exact bodyPost_ret (results_bt rfl _ _ w.heap.size rfl rfl (heap_alloc_new _ _) Try.underlying24 rfl (by kernel_rfl)) rfl ⟨_, rfl, ws_nil _, below_alloc w _⟩
  · have h2 : 12 < n := by omega
    clear h
    go_enter Try.func16, Try.ntmps16
    go_wp2_with fail
    exact bodyPost_ret (results_bt rfl _ _ w.heap.size rfl rfl (heap_alloc_new _ _) Try.underlying24 rfl (by kernel_rfl)) rfl ⟨_, rfl, ws_nil _, below_alloc w _⟩
set_option maxHeartbeats 40000000 in
set_option maxRecDepth 100000 in
theorem refFan_ok (m : Nat) (h1 : 1 ≤ m) (h2 : m ≤ 12) (w : World) : Calls Try.prog 16 #[.int .i64 (m : Int)] w (Out ⟨(m : Int) + 1, fanL m, 0⟩ w) := by
  have k1 : ¬ (m : Int) < 1 := by omega
  have k2 : ¬ 12 < (m : Int) := by omega
  have e1 : IntKind.i64.wrap (2 * (m : Int)) = 2 * (m : Int) := IntWalk.i64_in _ (by omega)
  have e2 : IntKind.i64.wrap (2 * (m : Int) - 1) = 2 * (m : Int) - 1 := IntWalk.i64_in _ (by omega)
  unfold Out
  go_enter Try.func16, Try.ntmps16
  go_wp2_with fail
  obtain ⟨wt, hwt⟩ : ∃ W, W = (w.alloc (.cells #[.int .i64 0, .slice none 0 0] 24)) := ⟨_, rfl⟩
  have h0t : wt.heap[w.heap.size]? = some (.cells #[.int .i64 0, .slice none 0 0] 24 (0, 0)) := by rw [hwt]; exact heap_alloc_new _ _
  have dt : Below w.heap.size w wt := by rw [hwt]; exact below_alloc _ _
  obtain ⟨b, hbe⟩ : ∃ b, b = wt.heap.size := ⟨_, rfl⟩
  have hrb : w.heap.size < b := by rw [hbe, hwt]; simp
  have e1 : w.heap.size + 1 = b := by rw [hbe, hwt]; simp
  rw [← hwt]
  try rw [e1]
  have hX : (wt.alloc (.cells #[.int .i64 ((m : Int) + 1), .slice none 0 0] 24)).heap[b]? = some (.cells #[.int .i64 ((m : Int) + 1), .slice none 0 0] 24 (0, 0)) := hb_new hbe
  have hBB : Below b wt (wt.alloc (.cells #[.int .i64 ((m : Int) + 1), .slice none 0 0] 24)) := by rw [hbe]; exact below_alloc _ _
  have hSS : b < (wt.alloc (.cells #[.int .i64 ((m : Int) + 1), .slice none 0 0] 24)).heap.size := by rw [hbe]; simp
  generalize wt.alloc (.cells #[.int .i64 ((m : Int) + 1), .slice none 0 0] 24) = wa at *
  have H0t := Lib.hid h0t
  have Dt := Lib.hid dt
  have HXA := Lib.hid hX
  have HBA := Lib.hid hBB
  clear hwt h0t dt hbe e1 hX hBB
  go_loopw [5] (fun i wr => ∃ (r : Nat) (v : Value), r ≤ 2 * m - 1 ∧ i = .int .i64 ((r : Int) + 1) ∧ WO (b + 1) wr v (fanR m r) ∧ wr.heap[b]? = some (.cells #[.int .i64 ((m : Int) + 1), v] 24 (0, 0)) ∧ Below b wt wr ∧ b < wr.heap.size) (fun i _ => 2 * m - (intOf i).toNat)
  case atStart => exact ⟨0, _, Nat.zero_le _, rfl, wo_nil _ _, HXA.out, HBA.out, hSS⟩
  case round =>
    obtain ⟨r, v, hr, rfl, hown, hbox, hbw, hsz⟩ := hrel
    have HO := Lib.hid hown
    have HX := Lib.hid hbox
    have HB := Lib.hid hbw
    clear hown hbox hbw
    rename World => wk
    have hln : (fanR m r).length ≤ 600 := by
      have := fanR_len m r h2
      omega
    by_cases hrl : r < 2 * m - 1
    · have kk1 : (r : Int) + 1 ≤ 2 * (m : Int) - 1 := by omega
      obtain ⟨k, hk⟩ : ∃ k : Nat, k = min (r + 1) (2 * m - 1 - r) := ⟨_, rfl⟩
      have hkI : min ((r : Int) + 1) (2 * (m : Int) - ((r : Int) + 1)) = (k : Int) := by omega
      have e3 : IntKind.i64.wrap (2 * (m : Int) - ((r : Int) + 1)) = 2 * (m : Int) - ((r : Int) + 1) := IntWalk.i64_in _ (by omega)
      have g1 : 1 ≤ k := by omega
      have g2 : k ≤ 12 := by omega
      have e4 : IntKind.i64.wrap ((k : Int) - 1) = (k : Int) - 1 := IntWalk.i64_in _ (by omega)
      have HN := Lib.hid (show fanR m (r + 1) = fanR m r ++ fanRowL k by rw [fanR_next, hk])
      clear hk
      generalize fanR m r = D0 at *
      go_wp2_with fail
      go_loopw [7] (fun i wr => ∃ (i2 : Nat) (v : Value), i2 ≤ k ∧ i = .int .i64 (i2 : Int) ∧ WO (b + 1) wr v (D0 ++ upL sCTC 0 i2) ∧ wr.heap[b]? = some (.cells #[.int .i64 ((m : Int) + 1), v] 24 (0, 0)) ∧ Below b wt wr ∧ b < wr.heap.size) (fun i _ => k - (intOf i).toNat)
      case atStart => exact ⟨0, _, Nat.zero_le _, rfl, by simpa [upL] using HO.out, HX.out, HB.out, hsz⟩
      case round =>
        obtain ⟨i2, v, hi2, rfl, hown, hbox, hbw, hsz⟩ := hrel
        clear HO HX HB
        have HO := Lib.hid hown
        have HX := Lib.hid hbox
        have HB := Lib.hid hbw
        clear hown hbox hbw
        rename World => wk
        have hl5 : (D0 ++ upL sCTC 0 i2).length ≤ 650 := by rw [List.length_append, upL_len]; omega
        by_cases hil : i2 < k
        · have q1 : (i2 : Int) < (k : Int) := by omega
          have HNX := Lib.hid (show D0 ++ upL sCTC 0 (i2 + 1) = D0 ++ upL sCTC 0 i2 ++ [⟨(i2 : Int), sCTC⟩] by rw [upL_next, List.append_assoc, Int.zero_add])
          generalize D0 ++ upL sCTC 0 i2 = G at *
          have c0 := cell_of_heap (j := 1) HX.out rfl
          have f0 := frozen_of_heap HX.out 1
          obtain ⟨av, cv, ev, _⟩ := ws_own HO.out
          subst ev
          go_wp2_with fail
          go_region_law (first
            | (go_simp; go_at_call 36; refine (refstitch_any sCTC (i2 : Int) _).mono ?_; rintro e w1 ⟨rfl, hb⟩; have hb1 : Below wk.heap.size wk w1 := (by first | exact hb | exact ((Below.refl _ wk).drew).trans hb); have HX1 := Lib.hid (hb_below hb1 HX.out (by omega)); have HO1 := Lib.hid (HO.out.below hb1); have hz1 := hb1.size; have hlt1 : b < w1.heap.size := (by omega); have HB1 := Lib.hid (HB.out.trans (hb1.mono (by omega))); have c1 := cell_of_heap (j := 1) HX1.out rfl; have f1 := frozen_of_heap HX1.out 1; clear hb hb1)
            | (refine step_wk (o := ⟨some 42, _, _, _, _, _⟩) (w := w1) (w0 := w1) (b + 1) _ G ⟨(i2 : Int), sCTC⟩ rfl (.tmp 38) (.tmp 41) rfl (by rfl) HO1.out (by rfl) (by omega) (Below.refl _ _) (by omega) ?_; intro v6 w6 O6 B6; obtain ⟨a6, q6, e6, _⟩ := ws_own O6.out; subst e6; rw [List.length_append, List.length_singleton] at O6; have HX6 := Lib.hid (hb_below B6.out HX1.out (by omega)); have hz6 := B6.out.size; have hlt6 : b < w6.heap.size := (by omega); have HB6 := Lib.hid (HB1.out.trans (B6.out.mono (by omega))); have c6 := cell_of_heap (j := 1) HX6.out rfl; have f6 := frozen_of_heap HX6.out 1))
          all_goals
            have HX7 := Lib.hid (show (w6.setCell ⟨b, 1, none⟩ (.slice a6 (G.length + 1) q6)).heap[b]? = some (.cells #[.int .i64 ((m : Int) + 1), (.slice a6 (G.length + 1) q6)] 24 (0, 0)) from heap_setCell_same _ _ _ _ _ _ HX6.out)
            have HO7 := Lib.hid (wo_keep (w' := (w6.setCell ⟨b, 1, none⟩ (.slice a6 (G.length + 1) q6))) O6.out (Nat.lt_succ_self b) (fun k ob h hn => (heap_setCell_other _ _ _ _ hn).trans h))
            have HB7 := Lib.hid (HB6.out.setCell (p := ⟨b, 1, none⟩) (Nat.le_refl _) (.slice a6 (G.length + 1) q6))
            have hz7 : b < (w6.setCell ⟨b, 1, none⟩ (.slice a6 (G.length + 1) q6)).heap.size := by simp; omega
            clear HX HO HB HX1 HO1 HB1 c0 f0 c1 f1 HX6 O6 HB6 B6 c6 f6
            go_wp2_with fail
            go_roundw
            case rel => exact ⟨i2 + 1, _, hil, by go_num, by rw [HNX.out]; exact HO7.out, HX7.out, HB7.out, hz7⟩
            case measure => (simp [intOf] <;> omega)
        · have q1 : ¬ (i2 : Int) < (k : Int) := by omega
          obtain rfl : k = i2 := by omega
          generalize hD : D0 ++ upL sCTC 0 k = D at *
          have HDD := Lib.hid hD
          clear hD
          have c0 := cell_of_heap (j := 1) HX.out rfl
          have f0 := frozen_of_heap HX.out 1
          obtain ⟨av, cv, ev, _⟩ := ws_own HO.out
          subst ev
          go_upto_region 12 with fail
          go_cut [] from 44 to 51 (fun wr => ∃ v, WO (b + 1) wr v (D ++ [⟨(k : Int) - 1, sRP⟩]) ∧ wr.heap[b]? = some (.cells #[.int .i64 ((m : Int) + 1), v] 24 (0, 0)) ∧ Below b wt wr ∧ b < wr.heap.size)
          case first =>
            skip
            go_region_law (first
              | (go_simp; go_at_call 36; refine (refstitch_any sRP ((k : Int) - 1) _).mono ?_; rintro e w1 ⟨rfl, hb⟩; have hb1 : Below wk.heap.size wk w1 := (by first | exact hb | exact ((Below.refl _ wk).drew).trans hb); have HX1 := Lib.hid (hb_below hb1 HX.out (by omega)); have HO1 := Lib.hid (HO.out.below hb1); have hz1 := hb1.size; have hlt1 : b < w1.heap.size := (by omega); have HB1 := Lib.hid (HB.out.trans (hb1.mono (by omega))); have c1 := cell_of_heap (j := 1) HX1.out rfl; have f1 := frozen_of_heap HX1.out 1; clear hb hb1)
              | (refine step_wk (o := ⟨some 50, _, _, _, _, _⟩) (w := w1) (w0 := w1) (b + 1) _ D ⟨((k : Int) - 1), sRP⟩ rfl (.tmp 45) (.tmp 49) rfl (by rfl) HO1.out (by rfl) (by omega) (Below.refl _ _) (by omega) ?_; intro v6 w6 O6 B6; obtain ⟨a6, q6, e6, _⟩ := ws_own O6.out; subst e6; rw [List.length_append, List.length_singleton] at O6; have HX6 := Lib.hid (hb_below B6.out HX1.out (by omega)); have hz6 := B6.out.size; have hlt6 : b < w6.heap.size := (by omega); have HB6 := Lib.hid (HB1.out.trans (B6.out.mono (by omega))); have c6 := cell_of_heap (j := 1) HX6.out rfl; have f6 := frozen_of_heap HX6.out 1))
            all_goals
              have HX7 := Lib.hid (show (w6.setCell ⟨b, 1, none⟩ (.slice a6 (D.length + 1) q6)).heap[b]? = some (.cells #[.int .i64 ((m : Int) + 1), (.slice a6 (D.length + 1) q6)] 24 (0, 0)) from heap_setCell_same _ _ _ _ _ _ HX6.out)
              have HO7 := Lib.hid (wo_keep (w' := (w6.setCell ⟨b, 1, none⟩ (.slice a6 (D.length + 1) q6))) O6.out (Nat.lt_succ_self b) (fun k ob h hn => (heap_setCell_other _ _ _ _ hn).trans h))
              have HB7 := Lib.hid (HB6.out.setCell (p := ⟨b, 1, none⟩) (Nat.le_refl _) (.slice a6 (D.length + 1) q6))
              have hz7 : b < (w6.setCell ⟨b, 1, none⟩ (.slice a6 (D.length + 1) q6)).heap.size := by simp; omega
              go_wp2_with fail
              go_meet
              exact ⟨_, HO7.out, HX7.out, HB7.out, hz7⟩
          case rest =>
            obtain ⟨v, hown, hbox, hbw, hsz⟩ := hcut
            clear HO HX HB c0 f0
            have HO := Lib.hid hown
            have HX := Lib.hid hbox
            have HB := Lib.hid hbw
            clear hown hbox hbw
            rename World => wk
            have hl4 : (D ++ [(⟨(k : Int) - 1, sRP⟩ : Wk)]).length ≤ 651 := by rw [List.length_append]; simp; omega
            generalize hE : D ++ [(⟨(k : Int) - 1, sRP⟩ : Wk)] = E at *
            have HEE := Lib.hid hE
            clear hE
            go_wp2_with fail
            go_loopw [8] (fun i wr => ∃ (j : Nat) (v : Value), j ≤ k ∧ i = .int .i64 ((k : Int) - 1 - (j : Int)) ∧ WO (b + 1) wr v (E ++ dnL sCTC ((k : Int) - 1) j) ∧ wr.heap[b]? = some (.cells #[.int .i64 ((m : Int) + 1), v] 24 (0, 0)) ∧ Below b wt wr ∧ b < wr.heap.size) (fun i _ => (intOf i + 1).toNat)
            case atStart => exact ⟨0, _, Nat.zero_le _, by congr 1; omega, by simpa [dnL] using HO.out, HX.out, HB.out, hsz⟩
            case round =>
              obtain ⟨j, v, hj, rfl, hown, hbox, hbw, hsz⟩ := hrel
              clear HO HX HB
              have HO := Lib.hid hown
              have HX := Lib.hid hbox
              have HB := Lib.hid hbw
              clear hown hbox hbw
              rename World => wk
              have hl6 : (E ++ dnL sCTC ((k : Int) - 1) j).length ≤ 700 := by rw [List.length_append, dnL_len]; omega
              by_cases hjl : j < k
              · obtain ⟨z, hz⟩ : ∃ z : Int, z = (k : Int) - 1 - (j : Int) := ⟨_, rfl⟩
                have HNX := Lib.hid (show E ++ dnL sCTC ((k : Int) - 1) (j + 1) = E ++ dnL sCTC ((k : Int) - 1) j ++ [⟨z, sCTC⟩] by rw [dnL_next, hz, List.append_assoc])
                have HZ := Lib.hid hz
                have z0 : 0 ≤ z := by omega
                have z1 : z ≤ 30 := by omega
                rw [← hz]
                clear hz
                generalize E ++ dnL sCTC ((k : Int) - 1) j = G at *
                have c0 := cell_of_heap (j := 1) HX.out rfl
                have f0 := frozen_of_heap HX.out 1
                obtain ⟨av, cv, ev, _⟩ := ws_own HO.out
                subst ev
                go_wp2_with fail
                go_region_law (first
                  | (go_simp; go_at_call 36; refine (refstitch_any sCTC z _).mono ?_; rintro e w1 ⟨rfl, hb⟩; have hb1 : Below wk.heap.size wk w1 := (by first | exact hb | exact ((Below.refl _ wk).drew).trans hb); have HX1 := Lib.hid (hb_below hb1 HX.out (by omega)); have HO1 := Lib.hid (HO.out.below hb1); have hz1 := hb1.size; have hlt1 : b < w1.heap.size := (by omega); have HB1 := Lib.hid (HB.out.trans (hb1.mono (by omega))); have c1 := cell_of_heap (j := 1) HX1.out rfl; have f1 := frozen_of_heap HX1.out 1; clear hb hb1)
                  | (refine step_wk (o := ⟨some 63, _, _, _, _, _⟩) (w := w1) (w0 := w1) (b + 1) _ G ⟨z, sCTC⟩ rfl (.tmp 59) (.tmp 62) rfl (by rfl) HO1.out (by rfl) (by omega) (Below.refl _ _) (by omega) ?_; intro v6 w6 O6 B6; obtain ⟨a6, q6, e6, _⟩ := ws_own O6.out; subst e6; rw [List.length_append, List.length_singleton] at O6; have HX6 := Lib.hid (hb_below B6.out HX1.out (by omega)); have hz6 := B6.out.size; have hlt6 : b < w6.heap.size := (by omega); have HB6 := Lib.hid (HB1.out.trans (B6.out.mono (by omega))); have c6 := cell_of_heap (j := 1) HX6.out rfl; have f6 := frozen_of_heap HX6.out 1))
                all_goals
                  have HX7 := Lib.hid (show (w6.setCell ⟨b, 1, none⟩ (.slice a6 (G.length + 1) q6)).heap[b]? = some (.cells #[.int .i64 ((m : Int) + 1), (.slice a6 (G.length + 1) q6)] 24 (0, 0)) from heap_setCell_same _ _ _ _ _ _ HX6.out)
                  have HO7 := Lib.hid (wo_keep (w' := (w6.setCell ⟨b, 1, none⟩ (.slice a6 (G.length + 1) q6))) O6.out (Nat.lt_succ_self b) (fun k ob h hn => (heap_setCell_other _ _ _ _ hn).trans h))
                  have HB7 := Lib.hid (HB6.out.setCell (p := ⟨b, 1, none⟩) (Nat.le_refl _) (.slice a6 (G.length + 1) q6))
                  have hz7 : b < (w6.setCell ⟨b, 1, none⟩ (.slice a6 (G.length + 1) q6)).heap.size := by simp; omega
                  clear HX HO HB HX1 HO1 HB1 c0 f0 c1 f1 HX6 O6 HB6 B6 c6 f6
                  go_wp2_with fail
                  go_roundw
                  case rel => exact ⟨j + 1, _, hjl, by have := HZ.out; congr 1; omega, by rw [HNX.out]; exact HO7.out, HX7.out, HB7.out, hz7⟩
                  case measure => have := HZ.out; simp [intOf]; omega
              · have z0 : ¬ 0 ≤ (k : Int) - 1 - (j : Int) := by omega
                obtain rfl : k = j := by omega
                have HFR := Lib.hid (show E ++ dnL sCTC ((k : Int) - 1) k = D0 ++ fanRowL k by rw [← HEE.out, ← HDD.out]; simp [fanRowL])
                rw [HFR.out] at HO
                go_wp2_with fail
                go_roundw
                case rel => exact ⟨r + 1, _, hrl, by go_num, by rw [HN.out]; exact HO.out, HX.out, HB.out, hsz⟩
                case measure => (simp [intOf] <;> omega)
    · have kk1 : ¬ (r : Int) + 1 ≤ 2 * (m : Int) - 1 := by omega
      obtain rfl : r = 2 * m - 1 := by omega
      rw [fanR_all m h1] at HO hln
      have hI : (((2 * m - 1 : Nat) : Int)) = 2 * (m : Int) - 1 := by omega
      have H0 := Lib.hid (hb_below HB.out H0t.out hrb)
      have DW := Lib.hid (Dt.out.trans (HB.out.mono (Nat.le_of_lt hrb)))
      obtain ⟨av, cv, ev, _⟩ := ws_own HO.out
      subst ev
      have c0 := cell_of_heap (j := 0) HX.out rfl
      have c1 := cell_of_heap (j := 1) HX.out rfl
      go_wp2_with (refine store_row rfl _ _ _ rfl w.heap.size _ rfl rfl _ _ H0.out (by kernel_rfl) rfl (by kernel_rfl) ?_)
      intro wf hf hk2 hzf hB
      have HF := Lib.hid hf
      have SF := Lib.hid (ws_own (wo_keep HO.out (show w.heap.size < b + 1 by omega) (fun k ob h hn => (hk2 k hn).trans h)))
      have DF := Lib.hid (hB _ _ DW.out (Nat.le_refl _))
      clear hf hk2 hzf hB
      go_wp2_with fail
      exact bodyPost_ret (results_bt rfl _ _ w.heap.size rfl rfl HF.out Try.underlying24 rfl (by kernel_rfl)) rfl ⟨_, by first | rfl | (simp only [List.length_append]; rfl), SF.out, DF.out⟩
theorem refFan_any (n : Int) (w : World) : Calls Try.prog 16 #[.int .i64 n] w (Out (fanM n) w) := by
  by_cases h : 1 ≤ n ∧ n ≤ 12
  · obtain ⟨k, rfl⟩ : ∃ k : Nat, n = (k : Int) := ⟨n.toNat, by omega⟩
    have hM : fanM (k : Int) = ⟨(k : Int) + 1, fanL k, 0⟩ := by unfold fanM; rw [if_pos h]; simp
    rw [hM]
    exact refFan_ok k (by omega) (by omega) w
  · have hM : fanM n = moBad 7 := by unfold fanM; rw [if_neg h]
    rw [hM]
    exact refFan_bad n h w
end Go.Proofs.Ytgbdccoimmkmeaa
