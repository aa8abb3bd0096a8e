/- The motifs of the reference: Footside. -/
import Derived.Test.YtgbdccoimmkmeaaWQ
import Derived.Deep.RegionLaw
import Derived.Deep.CutRange
import Derived.Laws.AppendOwnNone
namespace Go.Proofs.Ytgbdccoimmkmeaa
open Go.RowKit
set_option linter.unusedSimpArgs false
theorem step_wks {ops : Array Oper} {o : Oper} {a : Act} {K : Act → World → Prop} {Q : Exit → Act → World → Prop} {E : Prop} {w w0 : World} (B : Nat) (v : Value) (W X : List Wk)
    (hgd : o.guard = none) (s y : Operand) (ho : o.op = .call { callee := .builtin .append, args := #[s, y], argTypes := #[22, 22] }) (hs : a.eval s = v)
    (hown : WO B w v W) (u : Value) (hy : a.eval y = u) (hxs : WS w u X) (hne : X ≠ []) (hl : W.length + X.length < 100000) (hb : Below B w0 w) (hB : B ≤ w.heap.size)
    (h : ∀ v' w', Hid (WO B w' v' (W ++ X)) → Hid (Below B w0 w') → K (a.put o.dst v') w') :
    if Region.wanted o (yielded ops a.tmps) = true then Oper.wp Try.prog o a w K Q else E := by
  have hw : Region.wanted o (yielded ops a.tmps) = true := by simp [Region.wanted, hgd]
  rw [if_pos hw]
  obtain ⟨i0, hi, hz0, hz1, hz2⟩ := info_parts infoWk
  obtain ⟨sa, sc, rfl, _, _, h00, hxs⟩ := hxs
  cases sa with
  | none =>
    obtain rfl := h00 rfl
    have hx0 : X = [] := by
      cases X with
      | nil => rfl
      | cons x X => obtain ⟨b, off, e, _⟩ := hxs 0 x rfl; cases e
    exact absurd hx0 hne
  | some ad =>
    refine wp_append_own _ s y 22 ho B 51 i0 (.agg #[.int .i64 0, .int .i64 0, .string ⟨#[]⟩]) 3 32 Try.underlying22 hi hz0 hz1 hz2 rfl (by decide) v _ _ hs hown ad X.length sc (wfl X) hy (wfl_len X) ?_ (wfl_one X) (by unfold maxLen; omega) (by omega) hB ?_
    · intro j t hj
      have hjl := (List.getElem?_eq_some_iff.1 hj).1
      rw [wfl_len] at hjl
      obtain ⟨x, hx, hg⟩ := wfl_of X j hjl
      obtain ⟨b, off, e, _, hr⟩ := hxs _ x hx
      cases e
      rw [Addr.add_mid]
      have := hr (j % 3) t (by rw [← hg]; exact hj)
      rwa [show off + j / 3 * 3 + j % 3 = off + j by omega] at this
    · intro v' w' hown' hgrow _
      refine h v' w' ?_ (Below.grown hb hgrow hB fun k e => (hown.lt k e).1)
      show WO B w' v' (W ++ X)
      unfold WO
      rw [wfl_app, List.length_append]
      exact hown'
set_option maxHeartbeats 4000000 in
set_option maxRecDepth 100000 in
theorem refFoot_bad (n m : Int) (h : ¬ ((1 ≤ n ∧ n ≤ 23) ∧ 1 ≤ m)) (w : World) : Calls Try.prog 18 #[.int .i64 n, .int .i64 m] w (Out (moBad 7) w) := by
  unfold Out moBad
  by_cases h1 : n < 1
  · clear h
    go_enter Try.func18, Try.ntmps18
    go_wp2_with fail
    exact bodyPost_ret (results_bt rfl _ _ w.heap.size rfl rfl (heap_alloc_new _ _) Try.underlying24 rfl (by kernel_rfl)) rfl ⟨_, rfl, ws_nil _, below_alloc w _⟩
  · by_cases h2 : 23 < n
    · clear h
      go_enter Try.func18, Try.ntmps18
      go_wp2_with fail
      exact bodyPost_ret (results_bt rfl _ _ w.heap.size rfl rfl (heap_alloc_new _ _) Try.underlying24 rfl (by kernel_rfl)) rfl ⟨_, rfl, ws_nil _, below_alloc w _⟩
    · have h3 : m < 1 := by omega
      clear h
      go_enter Try.func18, Try.ntmps18
      go_wp2_with fail
      exact bodyPost_ret (results_bt rfl _ _ w.heap.size rfl rfl (heap_alloc_new _ _) Try.underlying24 rfl (by kernel_rfl)) rfl ⟨_, rfl, ws_nil _, below_alloc w _⟩
set_option maxHeartbeats 4000000 in
set_option maxRecDepth 100000 in
theorem refFoot_long (n : Nat) (m : Int) (h1 : 1 ≤ n) (h2 : n ≤ 23) (h3 : 1 ≤ m) (q : Nat) (hq : q = 400 / (2 * n + 1)) (hm : ¬ m ≤ (q : Int)) (w : World) : Calls Try.prog 18 #[.int .i64 (n : Int), .int .i64 m] w (Out (moBad 3) w) := by
  have k1 : ¬ (n : Int) < 1 := by omega
  have k2 : ¬ 23 < (n : Int) := by omega
  have k3 : ¬ m < 1 := by omega
  have e1 : IntKind.i64.wrap (2 * (n : Int)) = 2 * (n : Int) := IntWalk.i64_in _ (by omega)
  have hT : Int.tdiv 400 (2 * (n : Int) + 1) = (q : Int) := by
    rw [hq, Int.natCast_ediv]
    exact (Int.tdiv_eq_ediv_of_nonneg (by omega))
  have hq4 : q ≤ 400 := by rw [hq]; exact Nat.div_le_self _ _
  have h0r : ((2 * (n : Int) + 1) == 0) = false := by rw [beq_eq_false_iff_ne]; omega
  have h1r : ¬ (2 * (n : Int) + 1) = 0 := by omega
  have k4 : (q : Int) < m := by omega
  clear hq e1
  unfold Out moBad
  go_enter Try.func18, Try.ntmps18
  go_wp2_with fail
  exact bodyPost_ret (results_bt rfl _ _ w.heap.size rfl rfl (heap_alloc_new _ _) Try.underlying24 rfl (by kernel_rfl)) rfl ⟨_, rfl, ws_nil _, below_alloc w _⟩
set_option maxHeartbeats 4000000 in
set_option maxRecDepth 100000 in
theorem refFoot_ok (n m : Nat) (h1 : 1 ≤ n) (h2 : n ≤ 23) (h3 : 1 ≤ m) (q : Nat) (hq : q = 400 / (2 * n + 1)) (hm : m ≤ q) (w : World) : Calls Try.prog 18 #[.int .i64 (n : Int), .int .i64 (m : Int)] w (Out ⟨(n : Int) + 1, repL m (footRow n), 0⟩ w) := by
  have k1 : ¬ (n : Int) < 1 := by omega
  have k2 : ¬ 23 < (n : Int) := by omega
  have k3 : ¬ (m : Int) < 1 := by omega
  have e1 : IntKind.i64.wrap (2 * (n : Int)) = 2 * (n : Int) := IntWalk.i64_in _ (by omega)
  have hT : Int.tdiv 400 (2 * (n : Int) + 1) = (q : Int) := by
    rw [hq, Int.natCast_ediv]
    exact (Int.tdiv_eq_ediv_of_nonneg (by omega))
  have hq4 : q ≤ 400 := by rw [hq]; exact Nat.div_le_self _ _
  have h0r : ((2 * (n : Int) + 1) == 0) = false := by rw [beq_eq_false_iff_ne]; omega
  have h1r : ¬ (2 * (n : Int) + 1) = 0 := by omega
  have k4 : ¬ (q : Int) < (m : Int) := by omega
  have hmul : m * (2 * n + 1) ≤ 400 := by
    have h5 : m * (2 * n + 1) ≤ q * (2 * n + 1) := Nat.mul_le_mul_right _ hm
    have h6 : q * (2 * n + 1) ≤ 400 := by rw [hq]; exact Nat.div_mul_le_self _ _
    omega
  have HMU := Lib.hid hmul
  clear hq e1 hmul
  unfold Out
  go_enter Try.func18, Try.ntmps18
  go_wp2_with fail
  obtain ⟨wt, hwt⟩ : ∃ W, W = (w.alloc (.cells #[.int .i64 0, .slice none 0 0] 24)) := ⟨_, rfl⟩
  have h0t : wt.heap[w.heap.size]? = some (.cells #[.int .i64 0, .slice none 0 0] 24 (0, 0)) := by rw [hwt]; exact heap_alloc_new _ _
  have dt : Below w.heap.size w wt := by rw [hwt]; exact below_alloc _ _
  obtain ⟨b, hbe⟩ : ∃ b, b = wt.heap.size := ⟨_, rfl⟩
  have hrb : w.heap.size < b := by rw [hbe, hwt]; simp
  have e1 : w.heap.size + 1 = b := by rw [hbe, hwt]; simp
  rw [← hwt]
  try rw [e1]
  have hX : (wt.alloc (.cells #[.int .i64 ((n : Int) + 1), .slice none 0 0] 24)).heap[b]? = some (.cells #[.int .i64 ((n : Int) + 1), .slice none 0 0] 24 (0, 0)) := hb_new hbe
  have hBB : Below b wt (wt.alloc (.cells #[.int .i64 ((n : Int) + 1), .slice none 0 0] 24)) := by rw [hbe]; exact below_alloc _ _
  have hSS : b < (wt.alloc (.cells #[.int .i64 ((n : Int) + 1), .slice none 0 0] 24)).heap.size := by rw [hbe]; simp
  generalize wt.alloc (.cells #[.int .i64 ((n : Int) + 1), .slice none 0 0] 24) = wa at *
  have H0t := Lib.hid h0t
  have Dt := Lib.hid dt
  have HXA := Lib.hid hX
  have HBA := Lib.hid hBB
  clear hwt h0t dt hbe e1 hX hBB
  go_loopw [7] (fun i wr => ∃ (k : Nat) (v : Value), k ≤ m ∧ i = .int .i64 (k : Int) ∧ WO (b + 1) wr v (repL k (footRow n)) ∧ wr.heap[b]? = some (.cells #[.int .i64 ((n : Int) + 1), v] 24 (0, 0)) ∧ Below b wt wr ∧ b < wr.heap.size) (fun i _ => m - (intOf i).toNat)
  case atStart => exact ⟨0, _, Nat.zero_le _, rfl, wo_nil _ _, HXA.out, HBA.out, hSS⟩
  case round =>
    obtain ⟨k, v, hk, rfl, hown, hbox, hbw, hsz⟩ := hrel
    have HO := Lib.hid hown
    have HX := Lib.hid hbox
    have HB := Lib.hid hbw
    clear hown hbox hbw
    rename World => wk
    have hln : (repL k (footRow n)).length ≤ 400 := by
      rw [repL_len, footRow_len]
      exact Nat.le_trans (Nat.mul_le_mul_right _ hk) HMU.out
    have HN := Lib.hid (show repL (k + 1) (footRow n) = repL k (footRow n) ++ footRow n by simp [repL, List.range_succ])
    by_cases hkl : k < m
    · have kk1 : (k : Int) < (m : Int) := by omega
      generalize repL k (footRow n) = D0 at *
      go_wp2_with fail
      go_loopw [8] (fun i wr => ∃ (j : Nat) (v : Value), j ≤ n ∧ i = .int .i64 ((n : Int) - 1 - (j : Int)) ∧ WO (b + 1) wr v (D0 ++ dnL sCTC ((n : Int) - 1) j) ∧ wr.heap[b]? = some (.cells #[.int .i64 ((n : Int) + 1), v] 24 (0, 0)) ∧ Below b wt wr ∧ b < wr.heap.size) (fun i _ => (intOf i + 1).toNat)
      case atStart => exact ⟨0, _, Nat.zero_le _, by congr 1; omega, by simpa [dnL] using HO.out, HX.out, HB.out, hsz⟩
      case round =>
        obtain ⟨j, v, hj, rfl, hown, hbox, hbw, hsz⟩ := hrel
        clear HO HX HB
        have HO := Lib.hid hown
        have HX := Lib.hid hbox
        have HB := Lib.hid hbw
        clear hown hbox hbw
        rename World => wk
        have hl2 : (D0 ++ dnL sCTC ((n : Int) - 1) j).length ≤ 500 := by rw [List.length_append, dnL_len]; omega
        by_cases hjl : j < n
        · obtain ⟨z, hz⟩ : ∃ z : Int, z = (n : Int) - 1 - (j : Int) := ⟨_, rfl⟩
          have HNX := Lib.hid (show D0 ++ dnL sCTC ((n : Int) - 1) (j + 1) = D0 ++ dnL sCTC ((n : Int) - 1) j ++ [⟨z, sCTC⟩] by rw [dnL_next, hz, List.append_assoc])
          have HZ := Lib.hid hz
          have z0 : 0 ≤ z := by omega
          have z1 : z ≤ 30 := by omega
          rw [← hz]
          clear hz
          generalize D0 ++ dnL sCTC ((n : Int) - 1) j = D at *
          have c0 := cell_of_heap (j := 1) HX.out rfl
          have f0 := frozen_of_heap HX.out 1
          obtain ⟨av, cv, ev, _⟩ := ws_own HO.out
          subst ev
          go_wp2_with fail
          go_region_law (first
            | (go_simp; go_at_call 36; refine (refstitch_any sCTC z _).mono ?_; rintro e w1 ⟨rfl, hb⟩; have hb1 : Below wk.heap.size wk w1 := (by first | exact hb | exact ((Below.refl _ wk).drew).trans hb); have HX1 := Lib.hid (hb_below hb1 HX.out (by omega)); have HO1 := Lib.hid (HO.out.below hb1); have hz1 := hb1.size; have hlt1 : b < w1.heap.size := (by omega); have HB1 := Lib.hid (HB.out.trans (hb1.mono (by omega))); have c1 := cell_of_heap (j := 1) HX1.out rfl; have f1 := frozen_of_heap HX1.out 1; clear hb hb1)
            | (refine step_wk (o := ⟨some 47, _, _, _, _, _⟩) (w := w1) (w0 := w1) (b + 1) _ D ⟨z, sCTC⟩ rfl (.tmp 43) (.tmp 46) rfl (by rfl) HO1.out (by rfl) (by omega) (Below.refl _ _) (by omega) ?_; intro v6 w6 O6 B6; obtain ⟨a6, q6, e6, _⟩ := ws_own O6.out; subst e6; rw [List.length_append, List.length_singleton] at O6; have HX6 := Lib.hid (hb_below B6.out HX1.out (by omega)); have hz6 := B6.out.size; have hlt6 : b < w6.heap.size := (by omega); have HB6 := Lib.hid (HB1.out.trans (B6.out.mono (by omega))); have c6 := cell_of_heap (j := 1) HX6.out rfl; have f6 := frozen_of_heap HX6.out 1))
          all_goals
            have HX7 := Lib.hid (show (w6.setCell ⟨b, 1, none⟩ (.slice a6 (D.length + 1) q6)).heap[b]? = some (.cells #[.int .i64 ((n : Int) + 1), (.slice a6 (D.length + 1) q6)] 24 (0, 0)) from heap_setCell_same _ _ _ _ _ _ HX6.out)
            have HO7 := Lib.hid (wo_keep (w' := (w6.setCell ⟨b, 1, none⟩ (.slice a6 (D.length + 1) q6))) O6.out (Nat.lt_succ_self b) (fun k ob h hn => (heap_setCell_other _ _ _ _ hn).trans h))
            have HB7 := Lib.hid (HB6.out.setCell (p := ⟨b, 1, none⟩) (Nat.le_refl _) (.slice a6 (D.length + 1) q6))
            have hz7 : b < (w6.setCell ⟨b, 1, none⟩ (.slice a6 (D.length + 1) q6)).heap.size := by simp; omega
            clear HX HO HB HX1 HO1 HB1 c0 f0 c1 f1 HX6 O6 HB6 B6 c6 f6
            go_wp2_with fail
            go_roundw
            case rel => exact ⟨j + 1, _, hjl, by have := HZ.out; congr 1; omega, by rw [HNX.out]; exact HO7.out, HX7.out, HB7.out, hz7⟩
            case measure => have := HZ.out; simp [intOf]; omega
        · have z0 : ¬ 0 ≤ (n : Int) - 1 - (j : Int) := by omega
          obtain rfl : j = n := by omega
          generalize hD : D0 ++ dnL sCTC ((j : Int) - 1) j = D at *
          have c0 := cell_of_heap (j := 1) HX.out rfl
          have f0 := frozen_of_heap HX.out 1
          obtain ⟨av, cv, ev, _⟩ := ws_own HO.out
          subst ev
          go_upto_region 13 with fail
          go_cut [] from 49 to 54 (fun wr => ∃ v, WO (b + 1) wr v (D ++ [⟨0, sLLP⟩]) ∧ wr.heap[b]? = some (.cells #[.int .i64 ((j : Int) + 1), v] 24 (0, 0)) ∧ Below b wt wr ∧ b < wr.heap.size)
          case first =>
            skip
            go_region_law (first
              | (go_simp; go_at_call 36; refine (refstitch_any sLLP 0 _).mono ?_; rintro e w1 ⟨rfl, hb⟩; have hb1 : Below wk.heap.size wk w1 := (by first | exact hb | exact ((Below.refl _ wk).drew).trans hb); have HX1 := Lib.hid (hb_below hb1 HX.out (by omega)); have HO1 := Lib.hid (HO.out.below hb1); have hz1 := hb1.size; have hlt1 : b < w1.heap.size := (by omega); have HB1 := Lib.hid (HB.out.trans (hb1.mono (by omega))); have c1 := cell_of_heap (j := 1) HX1.out rfl; have f1 := frozen_of_heap HX1.out 1; clear hb hb1)
              | (refine step_wk (o := ⟨some 53, _, _, _, _, _⟩) (w := w1) (w0 := w1) (b + 1) _ D ⟨0, sLLP⟩ rfl (.tmp 50) (.tmp 52) rfl (by rfl) HO1.out (by rfl) (by omega) (Below.refl _ _) (by omega) ?_; intro v6 w6 O6 B6; obtain ⟨a6, q6, e6, _⟩ := ws_own O6.out; subst e6; rw [List.length_append, List.length_singleton] at O6; have HX6 := Lib.hid (hb_below B6.out HX1.out (by omega)); have hz6 := B6.out.size; have hlt6 : b < w6.heap.size := (by omega); have HB6 := Lib.hid (HB1.out.trans (B6.out.mono (by omega))); have c6 := cell_of_heap (j := 1) HX6.out rfl; have f6 := frozen_of_heap HX6.out 1))
            all_goals
              have HX7 := Lib.hid (show (w6.setCell ⟨b, 1, none⟩ (.slice a6 (D.length + 1) q6)).heap[b]? = some (.cells #[.int .i64 ((j : Int) + 1), (.slice a6 (D.length + 1) q6)] 24 (0, 0)) from heap_setCell_same _ _ _ _ _ _ HX6.out)
              have HO7 := Lib.hid (wo_keep (w' := (w6.setCell ⟨b, 1, none⟩ (.slice a6 (D.length + 1) q6))) O6.out (Nat.lt_succ_self b) (fun k ob h hn => (heap_setCell_other _ _ _ _ hn).trans h))
              have HB7 := Lib.hid (HB6.out.setCell (p := ⟨b, 1, none⟩) (Nat.le_refl _) (.slice a6 (D.length + 1) q6))
              have hz7 : b < (w6.setCell ⟨b, 1, none⟩ (.slice a6 (D.length + 1) q6)).heap.size := by simp; omega
              go_wp2_with fail
              go_meet
              exact ⟨_, HO7.out, HX7.out, HB7.out, hz7⟩
          case rest =>
            obtain ⟨v, hown, hbox, hbw, hsz⟩ := hcut
            clear HO HX HB c0 f0
            have HO := Lib.hid hown
            have HX := Lib.hid hbox
            have HB := Lib.hid hbw
            clear hown hbox hbw
            rename World => wk
            have hl4 : (D ++ [(⟨0, sLLP⟩ : Wk)]).length ≤ 501 := by rw [List.length_append]; simp; omega
            have HDD := Lib.hid hD
            clear hD
            generalize hE : D ++ [(⟨0, sLLP⟩ : Wk)] = E at *
            have HEE := Lib.hid hE
            clear hE
            go_wp2_with fail
            go_loopw [9] (fun i wr => ∃ (i2 : Nat) (v : Value), i2 ≤ j ∧ i = .int .i64 (i2 : Int) ∧ WO (b + 1) wr v (E ++ upL sCTC 0 i2) ∧ wr.heap[b]? = some (.cells #[.int .i64 ((j : Int) + 1), v] 24 (0, 0)) ∧ Below b wt wr ∧ b < wr.heap.size) (fun i _ => j - (intOf i).toNat)
            case atStart => exact ⟨0, _, Nat.zero_le _, rfl, by simpa [upL] using HO.out, HX.out, HB.out, hsz⟩
            case round =>
              obtain ⟨i2, v, hi2, rfl, hown, hbox, hbw, hsz⟩ := hrel
              clear HO HX HB
              have HO := Lib.hid hown
              have HX := Lib.hid hbox
              have HB := Lib.hid hbw
              clear hown hbox hbw
              rename World => wk
              have hl5 : (E ++ upL sCTC 0 i2).length ≤ 600 := by rw [List.length_append, upL_len]; omega
              by_cases hil : i2 < j
              · have q1 : (i2 : Int) < (j : Int) := by omega
                have HNX := Lib.hid (show E ++ upL sCTC 0 (i2 + 1) = E ++ upL sCTC 0 i2 ++ [⟨(i2 : Int), sCTC⟩] by rw [upL_next, List.append_assoc, Int.zero_add])
                generalize E ++ upL sCTC 0 i2 = G at *
                have c0 := cell_of_heap (j := 1) HX.out rfl
                have f0 := frozen_of_heap HX.out 1
                obtain ⟨av, cv, ev, _⟩ := ws_own HO.out
                subst ev
                go_wp2_with fail
                go_region_law (first
                  | (go_simp; go_at_call 36; refine (refstitch_any sCTC (i2 : Int) _).mono ?_; rintro e w1 ⟨rfl, hb⟩; have hb1 : Below wk.heap.size wk w1 := (by first | exact hb | exact ((Below.refl _ wk).drew).trans hb); have HX1 := Lib.hid (hb_below hb1 HX.out (by omega)); have HO1 := Lib.hid (HO.out.below hb1); have hz1 := hb1.size; have hlt1 : b < w1.heap.size := (by omega); have HB1 := Lib.hid (HB.out.trans (hb1.mono (by omega))); have c1 := cell_of_heap (j := 1) HX1.out rfl; have f1 := frozen_of_heap HX1.out 1; clear hb hb1)
                  | (refine step_wk (o := ⟨some 65, _, _, _, _, _⟩) (w := w1) (w0 := w1) (b + 1) _ G ⟨(i2 : Int), sCTC⟩ rfl (.tmp 61) (.tmp 64) rfl (by rfl) HO1.out (by rfl) (by omega) (Below.refl _ _) (by omega) ?_; intro v6 w6 O6 B6; obtain ⟨a6, q6, e6, _⟩ := ws_own O6.out; subst e6; rw [List.length_append, List.length_singleton] at O6; have HX6 := Lib.hid (hb_below B6.out HX1.out (by omega)); have hz6 := B6.out.size; have hlt6 : b < w6.heap.size := (by omega); have HB6 := Lib.hid (HB1.out.trans (B6.out.mono (by omega))); have c6 := cell_of_heap (j := 1) HX6.out rfl; have f6 := frozen_of_heap HX6.out 1))
                all_goals
                  have HX7 := Lib.hid (show (w6.setCell ⟨b, 1, none⟩ (.slice a6 (G.length + 1) q6)).heap[b]? = some (.cells #[.int .i64 ((j : Int) + 1), (.slice a6 (G.length + 1) q6)] 24 (0, 0)) from heap_setCell_same _ _ _ _ _ _ HX6.out)
                  have HO7 := Lib.hid (wo_keep (w' := (w6.setCell ⟨b, 1, none⟩ (.slice a6 (G.length + 1) q6))) O6.out (Nat.lt_succ_self b) (fun k ob h hn => (heap_setCell_other _ _ _ _ hn).trans h))
                  have HB7 := Lib.hid (HB6.out.setCell (p := ⟨b, 1, none⟩) (Nat.le_refl _) (.slice a6 (G.length + 1) q6))
                  have hz7 : b < (w6.setCell ⟨b, 1, none⟩ (.slice a6 (G.length + 1) q6)).heap.size := by simp; omega
                  clear HX HO HB HX1 HO1 HB1 c0 f0 c1 f1 HX6 O6 HB6 B6 c6 f6
                  go_wp2_with fail
                  go_roundw
                  case rel => exact ⟨i2 + 1, _, hil, by go_num, by rw [HNX.out]; exact HO7.out, HX7.out, HB7.out, hz7⟩
                  case measure => (simp [intOf] <;> omega)
              · have q1 : ¬ (i2 : Int) < (j : Int) := by omega
                obtain rfl : i2 = j := by omega
                have HFR := Lib.hid (show E ++ upL sCTC 0 i2 = D0 ++ footRow i2 by rw [← HEE.out, ← HDD.out]; simp [footRow])
                rw [HFR.out] at HO
                go_wp2_with fail
                go_roundw
                case rel => exact ⟨k + 1, _, hkl, by go_num, by rw [HN.out]; exact HO.out, HX.out, HB.out, hsz⟩
                case measure => (simp [intOf] <;> omega)
    · have kk1 : ¬ (k : Int) < (m : Int) := by omega
      obtain rfl : k = m := by omega
      have H0 := Lib.hid (hb_below HB.out H0t.out hrb)
      have DW := Lib.hid (Dt.out.trans (HB.out.mono (Nat.le_of_lt hrb)))
      obtain ⟨av, cv, ev, _⟩ := ws_own HO.out
      subst ev
      have c0 := cell_of_heap (j := 0) HX.out rfl
      have c1 := cell_of_heap (j := 1) HX.out rfl
      go_wp2_with (refine store_row rfl _ _ _ rfl w.heap.size _ rfl rfl _ _ H0.out (by kernel_rfl) rfl (by kernel_rfl) ?_)
      intro wf hf hk2 hzf hB
      have HF := Lib.hid hf
      have SF := Lib.hid (ws_own (wo_keep HO.out (show w.heap.size < b + 1 by omega) (fun k ob h hn => (hk2 k hn).trans h)))
      have DF := Lib.hid (hB _ _ DW.out (Nat.le_refl _))
      clear hf hk2 hzf hB
      go_wp2_with fail
      exact bodyPost_ret (results_bt rfl _ _ w.heap.size rfl rfl HF.out Try.underlying24 rfl (by kernel_rfl)) rfl ⟨_, by first | rfl | (simp only [List.length_append]; rfl), SF.out, DF.out⟩
theorem refFootside_any (n m : Int) (w : World) : Calls Try.prog 18 #[.int .i64 n, .int .i64 m] w (Out (footM n m) w) := by
  by_cases h : (1 ≤ n ∧ n ≤ 23) ∧ 1 ≤ m
  · obtain ⟨k, rfl⟩ : ∃ k : Nat, n = (k : Int) := ⟨n.toNat, by omega⟩
    have ed : (400 : Int) / (2 * (k : Int) + 1) = ((400 / (2 * k + 1) : Nat) : Int) := by rw [Int.natCast_ediv]; rfl
    by_cases h3 : m ≤ 400 / (2 * (k : Int) + 1)
    · have hM : footM (k : Int) m = ⟨(k : Int) + 1, repL m.toNat (footRow k), 0⟩ := by unfold footM; rw [if_pos h, if_pos h3]; simp
      rw [hM]
      rw [ed] at h3
      obtain ⟨j, rfl⟩ : ∃ j : Nat, m = (j : Int) := ⟨m.toNat, by omega⟩
      exact refFoot_ok k j (by omega) (by omega) (by omega) _ rfl (by omega) w
    · have hM : footM (k : Int) m = moBad 3 := by unfold footM; rw [if_pos h, if_neg h3]
      rw [hM]
      rw [ed] at h3
      exact refFoot_long k m (by omega) (by omega) h.2 _ rfl h3 w
  · have hM : footM n m = moBad 7 := by unfold footM; rw [if_neg h]
    rw [hM]
    exact refFoot_bad n m h w
end Go.Proofs.Ytgbdccoimmkmeaa
