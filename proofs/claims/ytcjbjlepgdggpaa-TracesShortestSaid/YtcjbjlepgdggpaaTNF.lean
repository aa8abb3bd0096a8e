/- What holds of the exchanges from a sheet to another order of it. -/
import Derived.Test.YtcjbjlepgdggpaaTNC
namespace Go.Proofs.Ytcjbjlepgdggpaa
open Go.RowKit
set_option linter.unusedSimpArgs false
set_option linter.unusedVariables false
theorem swW_mem : ∀ (ps : List Nat) (x : List Wk), ∀ u ∈ swW x ps, u ∈ x
  | [], x, u, h => h
  | p :: ps, x, u, h => (swN_perm x p).mem_iff.1 (swW_mem ps _ u h)
/-- Among the first ones: as many wrong pairs, then those with the next one. -/
theorem inv_take {ml : List Int} {i : Nat} {z : Int} (h : ml[i]? = some z) : invN (ml.take (i + 1)) = invN (ml.take i) + (ml.take i).countP fun y => decide (z < y) := by
  rw [List.take_add_one, h]
  simp only [Option.toList_some]
  exact invN_snoc _ _
theorem cnt_take {ml : List Int} {k : Nat} {y z : Int} (h : ml[k]? = some y) : (ml.take (k + 1)).countP (fun y => decide (z < y)) = (ml.take k).countP (fun y => decide (z < y)) + if z < y then 1 else 0 := by
  rw [List.take_add_one, h]
  simp only [Option.toList_some]
  rw [List.countP_append, List.countP_singleton]
  simp
theorem inv_bd {ml : List Int} (h : ml.length ≤ 80) (i : Nat) : invN (ml.take i) ≤ 4000 := by
  have h1 := invN_le (ml.take i)
  have h2 : (ml.take i).length ≤ 80 := by rw [List.length_take]; omega
  have h3 : (ml.take i).length * ((ml.take i).length - 1) ≤ 80 * 80 := Nat.mul_le_mul h2 (by omega)
  omega
theorem cnt_bd {ml : List Int} (h : ml.length ≤ 80) (k : Nat) (z : Int) : (ml.take k).countP (fun y => decide (z < y)) ≤ 80 := by
  have h1 : (ml.take k).countP (fun y => decide (z < y)) ≤ (ml.take k).length := List.countP_le_length
  have h2 : (ml.take k).length ≤ 80 := by rw [List.length_take]; omega
  omega
/-- The calls of the law of shortest exchanges. -/
structure ExS (a : Sh) (V : List Wk) (o : List Nat) (ml : List Int) : Prop where
  len : V.length = a.ws.length
  mlen : ml.length = a.ws.length
  mbd : ∀ z ∈ ml, 0 ≤ z ∧ z ≤ 400
  olen : o.length = invN ml
  obd : o.length ≤ 4000
  step : ∀ (j p : Nat), o[j]? = some p → p + 1 < a.ws.length ∧ tchN (swW a.ws (o.take j)) p (p + 1) = false
  done : swW a.ws o = V
  swa : ∀ (u v : Value) (W : World), WS W u a.ws → WS W v V → Calls Try.prog 24 #[.agg #[.int .i64 a.pr, u], .agg #[.int .i64 a.pr, v]] W fun e w' => ∃ lv, e = .returned (.tuple #[lv, .int .i64 0]) ∧ IS w' lv (LI o) ∧ Below W.heap.size W w'
  mat : ∀ (u v : Value) (W : World), WS W u a.ws → WS W v V → Calls Try.prog 17 #[.agg #[.int .i64 a.pr, u], .agg #[.int .i64 a.pr, v]] W fun e w' => ∃ lv, e = .returned (.tuple #[lv, .int .i64 0]) ∧ IS w' lv ml ∧ Below W.heap.size W w'
  eqb : ∀ (u v : Value) (W : World), WS W u V → WS W v V → Calls Try.prog 37 #[.agg #[.int .i64 a.pr, u], .agg #[.int .i64 a.pr, v]] W fun e w' => e = .returned (.bool true) ∧ Below W.heap.size W w'
theorem exS (a : Sh) (zs : List Nat) (hc : chkS a = 0) (hn : a.ws.length ≤ 80) : ∃ o ml, ExS a (exL a.ws zs) o ml := by
  obtain ⟨l, hO⟩ := exL_ok zs a.ws _ (okL_refl a.ws)
  have hcb : chkS ⟨a.pr, exL a.ws zs⟩ = 0 := by rw [chkS_perm (exL_perm zs a.ws)]; exact hc
  generalize exL a.ws zs = V at *
  have hm := hO.whole
  have hne : ¬ (a.pr ≠ (⟨a.pr, V⟩ : Sh).pr ∨ a.ws.length ≠ (⟨a.pr, V⟩ : Sh).ws.length) := by
    simp only [ne_eq, not_true_eq_false, false_or, Classical.not_not]
    exact hO.vlen.symm
  obtain ⟨m1, m2⟩ := mE_5 (a := a) (b := ⟨a.pr, V⟩) hc hcb hne hm
  have hb := matchL_back (a := a) (b := ⟨a.pr, V⟩) hc hcb hne hm
  simp only at hb
  have hw := hO.way
  have hinv := hO.inv
  generalize ht : LI (invL l V.length) = t at *
  have htl : t.length = a.ws.length := by rw [hw.tl, hO.vlen]
  have hle : invN t ≤ 4000 := by
    have h1 := invN_le t
    have h2 : t.length * (t.length - 1) ≤ 80 * 80 := Nat.mul_le_mul (by omega) (by omega)
    omega
  obtain ⟨s1, s2⟩ := sw_out hw (by omega)
  obtain ⟨s3, _, _, s4⟩ := sw_way hw _ (Nat.le_refl _)
  have s5 := way_end s3 (sw_end hw)
  have e0 : swE a ⟨a.pr, V⟩ = 0 ∧ swV a ⟨a.pr, V⟩ = LI (swGo t (invN t)).2 := sr_3 m1 (by rw [hb]; exact s1)
  refine ⟨(swGo t (invN t)).2, LI l, hO.vlen, by rw [LI_len, hO.len], fun z hz => ?_, by rw [s2, hinv], by omega, s4, ?_, fun u v W hu hv => ?_, fun u v W hu hv => ?_, fun u v W hu hv => ?_⟩
  · obtain ⟨j, hj⟩ := List.getElem?_of_mem hz
    obtain ⟨i, hi, rfl⟩ := LI_inv hj
    have := (hO.ok j i hi).2.2
    omega
  · apply List.ext_getElem?
    intro i
    by_cases hi : i < V.length
    · rw [wkN_some hi, wkN_some (by rw [swW_len, ← hO.vlen]; exact hi), sameW_eq (s5 i hi)]
    · rw [List.getElem?_eq_none (by rw [swW_len, ← hO.vlen]; omega), List.getElem?_eq_none (by omega)]
  · refine (Swaps_any a ⟨a.pr, V⟩ u v W hu hv).mono ?_
    rintro e w' ⟨lv, rfl, ho, hb⟩
    rw [e0.2] at ho
    exact ⟨lv, by rw [e0.1], ho, hb⟩
  · refine (Match_any a ⟨a.pr, V⟩ u v W hu hv).mono ?_
    rintro e w' ⟨lv, rfl, ho, hb⟩
    have ho := is_own ho rfl
    rw [m2] at ho
    exact ⟨lv, by rw [m1], ho, hb⟩
  · exact same4_yes ⟨a.pr, V⟩ _ _ W ⟨u, rfl, hu⟩ ⟨v, rfl, hv⟩ (by simp only [hO.vlen]; omega)
end Go.Proofs.Ytcjbjlepgdggpaa
