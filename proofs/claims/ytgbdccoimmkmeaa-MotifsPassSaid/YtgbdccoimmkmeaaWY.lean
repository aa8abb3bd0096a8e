/- The law's helper: works. -/
import Derived.Test.YtgbdccoimmkmeaaWR
namespace Go.Proofs.Ytgbdccoimmkmeaa
open Go.RowKit
set_option linter.unusedSimpArgs false
set_option maxHeartbeats 40000000 in
set_option maxRecDepth 100000 in
theorem works_any (p : Int) (X : List Wk) (hX : X.length ≤ 1000) (s1 s2 : Nat) (w : World) (hs1 : s1 < w.heap.size) (hs2 : s2 < w.heap.size) (hl : w.rangeAt s1 0 (X.map fun x => .string x.wd)) (ha : w.rangeAt s2 0 (X.map fun x => .int .i64 x.pl)) : Calls Try.prog 32 #[.int .i64 p, .slice (some ⟨s1, 0, none⟩) X.length X.length, .slice (some ⟨s2, 0, none⟩) X.length X.length] w fun e w' => ∃ v, e = .returned (.agg #[.int .i64 p, v]) ∧ WS w' v X ∧ Below w.heap.size w w' := by
  have HL := Lib.hid hl
  have HA := Lib.hid ha
  clear hl ha
  go_enter Try.func32, Try.ntmps32
  go_wp2_with fail
  obtain ⟨wt, hwt⟩ : ∃ W, W = (w.alloc (.cells #[.int .i64 0, .slice none 0 0] 24)) := ⟨_, rfl⟩
  have h0t : wt.heap[w.heap.size]? = some (.cells #[.int .i64 0, .slice none 0 0] 24 (0, 0)) := by rw [hwt]; exact heap_alloc_new _ _
  have dt : Below w.heap.size w wt := by rw [hwt]; exact below_alloc _ _
  obtain ⟨b, hbe⟩ : ∃ b, b = wt.heap.size := ⟨_, rfl⟩
  have hrb : w.heap.size < b := by rw [hbe, hwt]; simp
  have e1 : w.heap.size + 1 = b := by rw [hbe, hwt]; simp
  rw [← hwt]
  try rw [e1]
  have hX : (wt.alloc (.cells #[.int .i64 p, .slice none 0 0] 24)).heap[b]? = some (.cells #[.int .i64 p, .slice none 0 0] 24 (0, 0)) := hb_new hbe
  have hBB : Below b wt (wt.alloc (.cells #[.int .i64 p, .slice none 0 0] 24)) := by rw [hbe]; exact below_alloc _ _
  have hSS : b < (wt.alloc (.cells #[.int .i64 p, .slice none 0 0] 24)).heap.size := by rw [hbe]; simp
  generalize wt.alloc (.cells #[.int .i64 p, .slice none 0 0] 24) = wa at *
  have H0t := Lib.hid h0t
  have Dt := Lib.hid dt
  have HXA := Lib.hid hX
  have HBA := Lib.hid hBB
  clear hwt h0t dt hbe e1 hX hBB
  go_loopw [8] (fun i wr => ∃ (k : Nat) (v : Value), k ≤ X.length ∧ i = .int .i64 (k : Int) ∧ WO (b + 1) wr v (X.take k) ∧ wr.heap[b]? = some (.cells #[.int .i64 p, v] 24 (0, 0)) ∧ Below b wt wr ∧ b < wr.heap.size) (fun i _ => X.length - (intOf i).toNat)
  case atStart => exact ⟨0, _, Nat.zero_le _, rfl, wo_nil _ _, HXA.out, HBA.out, hSS⟩
  case round =>
    obtain ⟨k, v, hk, rfl, hown, hbox, hbw, hsz⟩ := hrel
    have HO := Lib.hid hown
    have HX := Lib.hid hbox
    have HB := Lib.hid hbw
    clear hown hbox hbw
    rename World => wk
    by_cases hkl : k < X.length
    · have kk1 : (k : Int) < (X.length : Int) := by omega
      have kk0 : (0 : Int) ≤ (k : Int) := by omega
      obtain ⟨x, hx⟩ : ∃ x, X[k]? = some x := ⟨_, List.getElem?_eq_getElem hkl⟩
      have DK : Below w.heap.size w wk := Dt.out.trans (HB.out.mono (Nat.le_of_lt hrb))
      have d1 : wk.cell? ⟨s1, k, none⟩ = some (.string x.wd) := (DK.cell (p := ⟨s1, k, none⟩) hs1).trans (by have := HL.out k (.string x.wd) (by rw [List.getElem?_map, hx]; rfl); rwa [Nat.zero_add] at this)
      have d2 : wk.cell? ⟨s2, k, none⟩ = some (.int .i64 x.pl) := (DK.cell (p := ⟨s2, k, none⟩) hs2).trans (by have := HA.out k (.int .i64 x.pl) (by rw [List.getElem?_map, hx]; rfl); rwa [Nat.zero_add] at this)
      have HN := Lib.hid (show X.take (k + 1) = X.take k ++ [x] by rw [List.take_add_one, hx]; rfl)
      have hlt : (X.take k).length ≤ 1000 := by rw [List.length_take]; omega
      clear DK hx
      generalize X.take k = D at *
      have c0 := cell_of_heap (j := 1) HX.out rfl
      have f0 := frozen_of_heap HX.out 1
      obtain ⟨av, cv, ev, _⟩ := ws_own HO.out
      subst ev
      have hbd : Below wk.heap.size wk wk.drew := (Below.refl _ wk).drew
      have HX1 := Lib.hid (hb_below hbd HX.out (by omega))
      have HO1 := Lib.hid (HO.out.below hbd)
      have hz1 := hbd.size
      have hlt1 : b < wk.drew.heap.size := (by omega)
      have HB1 := Lib.hid (HB.out.trans (hbd.mono (by omega)))
      clear hbd
      go_upto_region 5 with fail
      go_region_law (first
        | (refine step_wk (o := ⟨some 29, _, _, _, _, _⟩) (w := wk.drew) (w0 := wk.drew) (b + 1) _ D x rfl (.tmp 18) (.tmp 28) rfl (by rfl) HO1.out (by rfl) (by omega) (Below.refl _ _) (by omega) ?_; intro v6 w6 O6 B6; obtain ⟨a6, q6, e6, _⟩ := ws_own O6.out; subst e6; rw [List.length_append, List.length_singleton] at O6; have HX6 := Lib.hid (hb_below B6.out HX1.out (by omega)); have hz6 := B6.out.size; have hlt6 : b < w6.heap.size := (by omega); have HB6 := Lib.hid (HB1.out.trans (B6.out.mono (by omega))); have c6 := cell_of_heap (j := 1) HX6.out rfl; have f6 := frozen_of_heap HX6.out 1))
      all_goals
        have HX7 := Lib.hid (show (w6.setCell ⟨b, 1, none⟩ (.slice a6 (D.length + 1) q6)).heap[b]? = some (.cells #[.int .i64 p, (.slice a6 (D.length + 1) q6)] 24 (0, 0)) from heap_setCell_same _ _ _ _ _ _ HX6.out)
        have HO7 := Lib.hid (wo_keep (w' := (w6.setCell ⟨b, 1, none⟩ (.slice a6 (D.length + 1) q6))) O6.out (Nat.lt_succ_self b) (fun k ob h hn => (heap_setCell_other _ _ _ _ hn).trans h))
        have HB7 := Lib.hid (HB6.out.setCell (p := ⟨b, 1, none⟩) (Nat.le_refl _) (.slice a6 (D.length + 1) q6))
        have hz7 : b < (w6.setCell ⟨b, 1, none⟩ (.slice a6 (D.length + 1) q6)).heap.size := by simp; omega
        clear HX HO HB HX1 HO1 HB1 c0 f0 HX6 O6 HB6 B6 c6 f6 d1 d2
        go_wp2_with fail
        go_roundw
        case rel => exact ⟨k + 1, _, hkl, by go_num, by rw [HN.out]; exact HO7.out, HX7.out, HB7.out, hz7⟩
        case measure => (simp [intOf] <;> omega)
    · have kk1 : ¬ (k : Int) < (X.length : Int) := by omega
      obtain rfl : k = X.length := by omega
      rw [List.take_length] at HO
      have H0 := Lib.hid (hb_below HB.out H0t.out hrb)
      have DW := Lib.hid (Dt.out.trans (HB.out.mono (Nat.le_of_lt hrb)))
      obtain ⟨av, cv, ev, _⟩ := ws_own HO.out
      subst ev
      have c0 := cell_of_heap (j := 0) HX.out rfl
      have c1 := cell_of_heap (j := 1) HX.out rfl
      go_wp2_with (refine store_row rfl _ _ _ rfl w.heap.size _ rfl rfl _ _ H0.out (by kernel_rfl) rfl (by kernel_rfl) ?_)
      intro wf hf hk2 hzf hB
      have HF := Lib.hid hf
      have SF := Lib.hid (ws_own (wo_keep HO.out (show w.heap.size < b + 1 by omega) (fun k ob h hn => (hk2 k hn).trans h)))
      have DF := Lib.hid (hB _ _ DW.out (Nat.le_refl _))
      clear hf hk2 hzf hB
      go_wp2_with fail
      exact bodyPost_ret (results_b rfl _ _ w.heap.size rfl HF.out Try.underlying24 rfl (by kernel_rfl)) rfl ⟨_, rfl, SF.out, DF.out⟩
end Go.Proofs.Ytgbdccoimmkmeaa
