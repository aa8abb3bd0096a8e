/- The motifs of the reference: Plait. -/
import Derived.Test.YtgbdccoimmkmeaaWN
import Derived.Deep.RegionLaw
namespace Go.Proofs.Ytgbdccoimmkmeaa
open Go.RowKit
set_option linter.unusedSimpArgs false
theorem step_wk {ops : Array Oper} {o : Oper} {a : Act} {K : Act → World → Prop} {Q : Exit → Act → World → Prop} {E : Prop} {w w0 : World} (B : Nat) (v : Value) (W : List Wk) (x : Wk)
    (hgd : o.guard = none) (s y : Operand) (ho : o.op = .call { callee := .builtin .append, args := #[s, y], argTypes := #[22, 22] }) (hs : a.eval s = v)
    (hown : WO B w v W) (hy : a.eval y = .slice (some ⟨w.heap.size, 0, none⟩) 1 1) (hl : W.length < 100000) (hb : Below B w0 w) (hB : B ≤ w.heap.size)
    (h : ∀ v' w', Hid (WO B w' v' (W ++ [x])) → Hid (Below B w0 w') → K (a.put o.dst v') w') :
    if Region.wanted o (yielded ops a.tmps) = true then Oper.wp Try.prog o a (w.alloc (.cells #[.int .i64 1, .int .i64 x.pl, .string x.wd] 51)) K Q else E := by
  have hw : Region.wanted o (yielded ops a.tmps) = true := by simp [Region.wanted, hgd]
  rw [if_pos hw]
  obtain ⟨i0, hi, hz0, hz1, hz2⟩ := info_parts infoWk
  refine wp_append_own _ s y 22 ho B 51 i0 (.agg #[.int .i64 0, .int .i64 0, .string ⟨#[]⟩]) 3 32 Try.underlying22 hi hz0 hz1 hz2 rfl (by decide) v _ _ hs (hown.alloc _) ⟨w.heap.size, 0, none⟩ 1 1 (wl x) hy rfl ?_ ?_ (by unfold maxLen; omega) (by omega) (by simp; omega) ?_
  · intro j u hu
    have hj := (List.getElem?_eq_some_iff.1 hu).1
    rw [wl_len] at hj
    rw [Addr.add_mid, Nat.zero_add, World.cell?_alloc_new, ← Array.getElem?_toList]
    exact hu
  · intro u hu
    exact wfl_one [x] u (by simpa [wfl] using hu)
  · intro v' w' hown' hgrow _
    refine h v' w' ?_ (Below.grown (hb.alloc hB _) hgrow (by simp; omega) fun k e => (hown.lt k e).1)
    show WO B w' v' (W ++ [x])
    unfold WO
    rw [wfl_app, List.length_append, List.length_singleton]
    simpa [wfl] using hown'
set_option maxHeartbeats 4000000 in
set_option maxRecDepth 100000 in
theorem refPlait_any (n : Int) (w : World) : Calls Try.prog 9 #[.int .i64 n] w (Out (plaitM n) w) := by
  by_cases h : 1 ≤ n ∧ n ≤ 100
  · have h1 : ¬ n < 1 := by omega
    have h2 : ¬ 100 < n := by omega
    obtain ⟨m, rfl⟩ : ∃ k : Nat, n = (k : Int) := ⟨n.toNat, by omega⟩
    have hM : plaitM (m : Int) = ⟨2, repL m [⟨0, sCT⟩], 0⟩ := by unfold plaitM; rw [if_pos h]; simp
    rw [hM]
    unfold Out
    have hm : m ≤ 100 := by omega
    clear hM h
    go_enter Try.func9, Try.ntmps9
    go_wp2_with fail
    have h0 : ((w.alloc (.cells #[.int .i64 0, .slice none 0 0] 24)).alloc (.cells #[.int .i64 2, .slice none 0 0] 24)).heap[w.heap.size]? = some (.cells #[.int .i64 0, .slice none 0 0] 24 (0, 0)) := hb_old (heap_alloc_new _ _) (by simp)
    have hX : ((w.alloc (.cells #[.int .i64 0, .slice none 0 0] 24)).alloc (.cells #[.int .i64 2, .slice none 0 0] 24)).heap[w.heap.size + 1]? = some (.cells #[.int .i64 2, .slice none 0 0] 24 (0, 0)) := hb_new (by simp)
    have hD : Below w.heap.size w ((w.alloc (.cells #[.int .i64 0, .slice none 0 0] 24)).alloc (.cells #[.int .i64 2, .slice none 0 0] 24)) := (below_alloc _ _).alloc (by simp) _
    have hS : ((w.alloc (.cells #[.int .i64 0, .slice none 0 0] 24)).alloc (.cells #[.int .i64 2, .slice none 0 0] 24)).heap.size = w.heap.size + 2 := by simp
    generalize ((w.alloc (.cells #[.int .i64 0, .slice none 0 0] 24)).alloc (.cells #[.int .i64 2, .slice none 0 0] 24)) = wa at *
    go_loopw [5] (fun i wr => ∃ (k : Nat) (v : Value), k ≤ m ∧ i = .int .i64 (k : Int) ∧ WO (w.heap.size + 2) wr v (repL k [⟨0, sCT⟩]) ∧ wr.heap[w.heap.size + 1]? = some (.cells #[.int .i64 2, v] 24 (0, 0)) ∧ wr.heap[w.heap.size]? = some (.cells #[.int .i64 0, .slice none 0 0] 24 (0, 0)) ∧ Below w.heap.size w wr ∧ w.heap.size + 2 ≤ wr.heap.size) (fun i _ => m - (intOf i).toNat)
    case atStart => exact ⟨0, _, Nat.zero_le _, rfl, wo_nil _ _, hX, h0, hD, by omega⟩
    case round =>
      obtain ⟨k, v, hk, rfl, hown, hbox, hres, hbw, hsz⟩ := hrel
      have HO := Lib.hid hown
      have HX := Lib.hid hbox
      have H0 := Lib.hid hres
      have HB := Lib.hid hbw
      clear hown hbox hres hbw h0 hX hD hS
      rename World => wk
      by_cases hkl : k < m
      · have k1 : (k : Int) < (m : Int) := by omega
        have hlen : (repL k [(⟨0, sCT⟩ : Wk)]).length ≤ 200 := by rw [repL_len]; simp; omega
        have HN := Lib.hid (show repL (k + 1) [(⟨0, sCT⟩ : Wk)] = repL k [⟨0, sCT⟩] ++ [⟨0, sCT⟩] by simp [repL, List.range_succ])
        have c0 := cell_of_heap (j := 1) HX.out rfl
        have f0 := frozen_of_heap HX.out 1
        generalize repL k [(⟨0, sCT⟩ : Wk)] = D at *
        obtain ⟨av, cv, ev, _⟩ := ws_own HO.out
        subst ev
        go_wp2_with fail
        go_region_law (first
          | (go_simp; go_at_call 36; refine (refstitch_any sCT 0 _).mono ?_; rintro e w1 ⟨rfl, hb⟩; have hb1 : Below wk.heap.size wk w1 := (by first | exact hb | exact ((Below.refl _ wk).drew).trans hb); have HX1 := Lib.hid (hb_below hb1 HX.out (by omega)); have HO1 := Lib.hid (HO.out.below hb1); have H01 := Lib.hid (hb_below hb1 H0.out (by omega)); have hz1 := hb1.size; have hlt1 : w.heap.size + 1 < w1.heap.size := (by omega); have HB1 := Lib.hid (HB.out.trans (hb1.mono (by omega))); have c1 := cell_of_heap (j := 1) HX1.out rfl; have f1 := frozen_of_heap HX1.out 1; clear hb hb1)
          | (refine step_wk (o := ⟨some 23, _, _, _, _, _⟩) (w := w1) (w0 := w1) (w.heap.size + 2) _ D ⟨0, sCT⟩ rfl (.tmp 20) (.tmp 22) rfl (by rfl) HO1.out (by rfl) (by omega) (Below.refl _ _) (by omega) ?_; intro v6 w6 O6 B6; obtain ⟨a6, q6, e6, _⟩ := ws_own O6.out; subst e6; rw [List.length_append, List.length_singleton] at O6; have HX6 := Lib.hid (hb_below B6.out HX1.out (by omega)); have H06 := Lib.hid (hb_below B6.out H01.out (by omega)); have hz6 := B6.out.size; have hlt6 : w.heap.size + 1 < w6.heap.size := (by omega); have HB6 := Lib.hid (HB1.out.trans (B6.out.mono (by omega))); have c6 := cell_of_heap (j := 1) HX6.out rfl; have f6 := frozen_of_heap HX6.out 1))
        all_goals
          have HX7 := Lib.hid (show (w6.setCell ⟨w.heap.size + 1, 1, none⟩ (.slice a6 (D.length + 1) q6)).heap[w.heap.size + 1]? = some (.cells #[.int .i64 2, (.slice a6 (D.length + 1) q6)] 24 (0, 0)) from heap_setCell_same _ _ _ _ _ _ HX6.out)
          have HO7 := Lib.hid (wo_keep (w' := (w6.setCell ⟨w.heap.size + 1, 1, none⟩ (.slice a6 (D.length + 1) q6))) O6.out (show w.heap.size + 1 < (w.heap.size + 2) by omega) (fun k ob h hn => (heap_setCell_other _ _ _ _ hn).trans h))
          have H07 := Lib.hid (show (w6.setCell ⟨w.heap.size + 1, 1, none⟩ (.slice a6 (D.length + 1) q6)).heap[w.heap.size]? = _ from (heap_setCell_other _ _ _ _ (by simp)).trans H06.out)
          have HB7 := Lib.hid (HB6.out.setCell (p := ⟨w.heap.size + 1, 1, none⟩) (Nat.le_succ _) (.slice a6 (D.length + 1) q6))
          have hz7 : w.heap.size + 2 ≤ (w6.setCell ⟨w.heap.size + 1, 1, none⟩ (.slice a6 (D.length + 1) q6)).heap.size := by simp; omega
          clear HX HO H0 HB HX1 HO1 H01 HB1 c0 f0 c1 f1 HX6 O6 H06 HB6 B6 c6 f6
          go_wp2_with fail
          go_roundw
          case rel => exact ⟨k + 1, _, hkl, by go_num, by rw [HN.out]; exact HO7.out, HX7.out, H07.out, HB7.out, hz7⟩
          case measure => (simp [intOf] <;> omega)
      · have k1 : ¬ (k : Int) < (m : Int) := by omega
        obtain rfl : k = m := by omega
        obtain ⟨av, cv, ev, _⟩ := ws_own HO.out
        subst ev
        have c0 := cell_of_heap (j := 0) HX.out rfl
        have c1 := cell_of_heap (j := 1) HX.out rfl
        go_wp2_with (refine store_row rfl _ _ _ rfl w.heap.size _ rfl rfl _ _ H0.out (by kernel_rfl) rfl (by kernel_rfl) ?_)
        intro wf hf hk2 hzf hB
        have HF := Lib.hid hf
        have SF := Lib.hid (ws_own (wo_keep HO.out (show w.heap.size < w.heap.size + 2 by omega) (fun k ob h hn => (hk2 k hn).trans h)))
        have DF := Lib.hid (hB _ _ HB.out (Nat.le_refl _))
        clear hf hk2 hzf hB
        go_wp2_with fail
        exact bodyPost_ret (results_bt rfl _ _ w.heap.size rfl rfl HF.out Try.underlying24 rfl (by kernel_rfl)) rfl ⟨_, rfl, SF.out, DF.out⟩
  · have hM : plaitM n = moBad 7 := by unfold plaitM; rw [if_neg h]
    rw [hM]
    unfold Out moBad
    by_cases h1 : n < 1
    · clear hM h
      go_enter Try.func9, Try.ntmps9
      go_wp2_with fail
      exact bodyPost_ret (results_bt rfl _ _ w.heap.size rfl rfl (heap_alloc_new _ _) Try.underlying24 rfl (by kernel_rfl)) rfl ⟨_, rfl, ws_nil _, below_alloc w _⟩
    · have h2 : 100 < n := by omega
      clear hM h
      go_enter Try.func9, Try.ntmps9
      go_wp2_with fail
      exact bodyPost_ret (results_bt rfl _ _ w.heap.size rfl rfl (heap_alloc_new _ _) Try.underlying24 rfl (by kernel_rfl)) rfl ⟨_, rfl, ws_nil _, below_alloc w _⟩
end Go.Proofs.Ytgbdccoimmkmeaa
