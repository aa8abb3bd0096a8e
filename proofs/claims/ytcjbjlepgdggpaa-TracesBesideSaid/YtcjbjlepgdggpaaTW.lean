/- The reference's Same and Match; the law of same sheets. -/
import Derived.Test.YtcjbjlepgdggpaaTV
namespace Go.Proofs.Ytcjbjlepgdggpaa
open Go.RowKit Go.Shelf Go.Lib
set_option maxRecDepth 100000
set_option linter.unusedSimpArgs false
attribute [local irreducible] wpQuiet
def bothE (a b : Sh) : Int := if chkS a ≠ 0 then chkS a else chkS b
set_option maxHeartbeats 4000000 in
set_option maxRecDepth 100000 in
theorem both_any (a b : Sh) (u v : Value) (w : World) (hu : WS w u a.ws) (hv : WS w v b.ws) :
    Calls Try.prog 43 #[.agg #[.int .i64 a.pr, u], .agg #[.int .i64 b.pr, v]] w fun e w' => e = .returned (.int .i64 (bothE a b)) ∧ Below w.heap.size w w' := by
  have HU := Lib.hid hu
  have HV := Lib.hid hv
  obtain ⟨ua, uc, rfl, k1, k2, _⟩ := id hu
  obtain ⟨va, vc, rfl, k3, k4, _⟩ := id hv
  have C1 := Lib.hid (fun W h => refCheck4_any a (.agg #[.int .i64 a.pr, .slice ua a.ws.length uc]) W ⟨_, rfl, h⟩)
  have C2 := Lib.hid (fun W h => refCheck4_any b (.agg #[.int .i64 b.pr, .slice va b.ws.length vc]) W ⟨_, rfl, h⟩)
  have HB := Lib.hid (show bothE a b = if chkS a ≠ 0 then chkS a else chkS b from rfl)
  generalize bothE a b = be at *
  generalize chkS a = za at *
  generalize chkS b = zb at *
  clear hu hv
  go_enter Try.func43, Try.ntmps43
  go_wp2_with fail
  have B0 : Below w.heap.size w ((w.alloc (.cells #[.int .i64 a.pr, .slice ua a.ws.length uc] 24)).alloc (.cells #[.int .i64 b.pr, .slice va b.ws.length vc] 24)) := (below_alloc _ _).alloc (by simp) _
  have h0 := heap_alloc2_old w (.cells #[.int .i64 a.pr, .slice ua a.ws.length uc] 24) (.cells #[.int .i64 b.pr, .slice va b.ws.length vc] 24)
  have h1 := heap_alloc2_new w (.cells #[.int .i64 a.pr, .slice ua a.ws.length uc] 24) (.cells #[.int .i64 b.pr, .slice va b.ws.length vc] 24)
  have hz0 : w.heap.size + 2 ≤ ((w.alloc (.cells #[.int .i64 a.pr, .slice ua a.ws.length uc] 24)).alloc (.cells #[.int .i64 b.pr, .slice va b.ws.length vc] 24)).heap.size := by simp
  generalize (w.alloc (.cells #[.int .i64 a.pr, .slice ua a.ws.length uc] 24)).alloc (.cells #[.int .i64 b.pr, .slice va b.ws.length vc] 24) = W0 at *
  refine (C1.out W0 (HU.out.below B0)).mono ?_
  rintro e w1 ⟨rfl, b1⟩
  have H01 := Lib.hid (hb_below b1 h0 (by omega))
  have H11 := Lib.hid (hb_below b1 h1 (by omega))
  have HB1 := Lib.hid (bon B0 b1)
  have hz1 : w.heap.size + 2 ≤ w1.heap.size := Nat.le_trans hz0 b1.size
  try clear ca0 ca1 cb0 cb1
  have ca0 : w1.cell? ⟨w.heap.size, 0, none⟩ = some (.int .i64 a.pr) := cell_of_row w1 _ 0 _ _ _ H01.out
  have ca1 : w1.cell? ⟨w.heap.size, 1, none⟩ = some (.slice ua a.ws.length uc) := cell_of_row w1 _ 1 _ _ _ H01.out
  have cb0 : w1.cell? ⟨w.heap.size + 1, 0, none⟩ = some (.int .i64 b.pr) := cell_of_row w1 _ 0 _ _ _ H11.out
  have cb1 : w1.cell? ⟨w.heap.size + 1, 1, none⟩ = some (.slice va b.ws.length vc) := cell_of_row w1 _ 1 _ _ _ H11.out
  clear b1
  by_cases hz : za = 0
  · subst hz
    have e : be = zb := by rw [HB.out]; simp
    subst e
    go_wp2_with fail
    refine (C2.out w1 (HV.out.below HB1.out)).mono ?_
    rintro e w2 ⟨rfl, b2⟩
    have HBF := Lib.hid (bon HB1.out b2)
    clear b2
    go_wp2_with fail
    go_ret
    exact ⟨rfl, HBF.out⟩
  · have e : be = za := by rw [HB.out, if_pos hz]
    subst e
    have hz' : (be == 0) = false := beq_eq_false_iff_ne.2 hz
    go_wp2_with fail
    go_ret
    exact ⟨rfl, HB1.out⟩
theorem both_sm {a b : Sh} (h : bothE a b ≠ 0) : mE a b = bothE a b ∧ smB a b = false ∧ smE a b = bothE a b ∧ matchL a b = [] := by
  unfold bothE at h ⊢
  have hne : ∀ s : Sh, chkS s ≠ 4 := fun s => by unfold chkS; split <;> (try split) <;> (try split) <;> (try split) <;> (try split) <;> (try split) <;> omega
  by_cases hc : chkS a ≠ 0
  · rw [if_pos hc]
    obtain ⟨h1, h2⟩ := mE_1 (b := b) hc
    exact ⟨h1, by unfold smB; rw [h1]; exact decide_eq_false hc, by unfold smE; rw [h1, if_neg (hne a)], h2⟩
  · rw [if_neg hc] at h ⊢
    have hc' : chkS a = 0 := Classical.byContradiction hc
    obtain ⟨h1, h2⟩ := mE_2 hc' h
    exact ⟨h1, by unfold smB; rw [h1]; exact decide_eq_false h, by unfold smE; rw [h1, if_neg (hne b)], h2⟩
theorem both_ok {a b : Sh} (h : bothE a b = 0) : chkS a = 0 ∧ chkS b = 0 := by
  unfold bothE at h
  split at h
  · contradiction
  · rename_i hc
    exact ⟨Classical.byContradiction hc, h⟩
theorem mE_04 {a b : Sh} (h1 : chkS a = 0) (h2 : chkS b = 0) : mE a b = 0 ∨ mE a b = 4 := by
  unfold mE
  rw [if_neg (by simp [h1]), if_neg (by simp [h2])]
  split
  · exact .inr rfl
  · split
    · exact .inr rfl
    · exact .inl rfl
set_option maxHeartbeats 4000000 in
set_option maxRecDepth 100000 in
theorem refSame_any (a b : Sh) (u v : Value) (w : World) (hu : WS w u a.ws) (hv : WS w v b.ws) :
    Calls Try.prog 16 #[.agg #[.int .i64 a.pr, u], .agg #[.int .i64 b.pr, v]] w fun e w' => e = .returned (.tuple #[.bool (smB a b), .int .i64 (smE a b)]) ∧ Below w.heap.size w w' := by
  have HU := Lib.hid hu
  have HV := Lib.hid hv
  obtain ⟨ua, uc, rfl, k1, k2, _⟩ := id hu
  obtain ⟨va, vc, rfl, k3, k4, _⟩ := id hv
  have C1 := Lib.hid (fun W h1 h2 => both_any a b (.slice ua a.ws.length uc) (.slice va b.ws.length vc) W h1 h2)
  have C2 := Lib.hid (fun W h1 h2 h3 h4 => refMatch0_any a b (.slice ua a.ws.length uc) (.slice va b.ws.length vc) W h1 h2 h3 h4)
  have K1 := Lib.hid (@both_sm a b)
  have K2 := Lib.hid (@both_ok a b)
  have K3 := Lib.hid (fun h1 h2 => show smE a b = 0 by unfold smE; rcases @mE_04 a b h1 h2 with e | e <;> rw [e] <;> rfl)
  generalize smB a b = sb at *
  generalize smE a b = se at *
  generalize bothE a b = be at *
  clear hu hv
  go_enter Try.func16, Try.ntmps16
  go_wp2_with fail
  have B0 : Below w.heap.size w ((w.alloc (.cells #[.int .i64 a.pr, .slice ua a.ws.length uc] 24)).alloc (.cells #[.int .i64 b.pr, .slice va b.ws.length vc] 24)) := (below_alloc _ _).alloc (by simp) _
  have h0 := heap_alloc2_old w (.cells #[.int .i64 a.pr, .slice ua a.ws.length uc] 24) (.cells #[.int .i64 b.pr, .slice va b.ws.length vc] 24)
  have h1 := heap_alloc2_new w (.cells #[.int .i64 a.pr, .slice ua a.ws.length uc] 24) (.cells #[.int .i64 b.pr, .slice va b.ws.length vc] 24)
  have hz0 : w.heap.size + 2 ≤ ((w.alloc (.cells #[.int .i64 a.pr, .slice ua a.ws.length uc] 24)).alloc (.cells #[.int .i64 b.pr, .slice va b.ws.length vc] 24)).heap.size := by simp
  generalize (w.alloc (.cells #[.int .i64 a.pr, .slice ua a.ws.length uc] 24)).alloc (.cells #[.int .i64 b.pr, .slice va b.ws.length vc] 24) = W0 at *
  refine (C1.out W0 (HU.out.below B0) (HV.out.below B0)).mono ?_
  rintro e w1 ⟨rfl, b1⟩
  have H01 := Lib.hid (hb_below b1 h0 (by omega))
  have H11 := Lib.hid (hb_below b1 h1 (by omega))
  have HB1 := Lib.hid (bon B0 b1)
  have hz1 : w.heap.size + 2 ≤ w1.heap.size := Nat.le_trans hz0 b1.size
  try clear ca0 ca1 cb0 cb1
  have ca0 : w1.cell? ⟨w.heap.size, 0, none⟩ = some (.int .i64 a.pr) := cell_of_row w1 _ 0 _ _ _ H01.out
  have ca1 : w1.cell? ⟨w.heap.size, 1, none⟩ = some (.slice ua a.ws.length uc) := cell_of_row w1 _ 1 _ _ _ H01.out
  have cb0 : w1.cell? ⟨w.heap.size + 1, 0, none⟩ = some (.int .i64 b.pr) := cell_of_row w1 _ 0 _ _ _ H11.out
  have cb1 : w1.cell? ⟨w.heap.size + 1, 1, none⟩ = some (.slice va b.ws.length vc) := cell_of_row w1 _ 1 _ _ _ H11.out
  clear b1
  by_cases hz : be = 0
  · subst hz
    obtain ⟨ha, hb⟩ := K2.out (by trivial)
    have e := K3.out ha hb
    subst e
    go_wp2_with fail
    refine (C2.out w1 (HU.out.below HB1.out) (HV.out.below HB1.out) ha hb).mono ?_
    rintro e w2 ⟨lv, rfl, hls, b2⟩
    have HBF := Lib.hid (bon HB1.out b2)
    obtain ⟨la, lc, rfl, _⟩ := hls
    clear b2
    go_wp2_with fail
    go_ret2
    exact ⟨rfl, HBF.out⟩
  · obtain ⟨_, e1, e2, _⟩ := K1.out hz
    subst e1 e2
    have hz' : (se == 0) = false := beq_eq_false_iff_ne.2 hz
    go_wp2_with fail
    go_ret2
    exact ⟨rfl, HB1.out⟩
set_option maxHeartbeats 4000000 in
set_option maxRecDepth 100000 in
theorem refMatch_any (a b : Sh) (u v : Value) (w : World) (hu : WS w u a.ws) (hv : WS w v b.ws) :
    Calls Try.prog 18 #[.agg #[.int .i64 a.pr, u], .agg #[.int .i64 b.pr, v]] w fun e w' => ∃ lv, e = .returned (.tuple #[lv, .int .i64 (mE a b)]) ∧ IS w' lv (matchL a b) ∧ Below w.heap.size w w' := by
  have HU := Lib.hid hu
  have HV := Lib.hid hv
  have HNIL := Lib.hid (fun (W : World) => is_nil W)
  obtain ⟨ua, uc, rfl, k1, k2, _⟩ := id hu
  obtain ⟨va, vc, rfl, k3, k4, _⟩ := id hv
  have C1 := Lib.hid (fun W h1 h2 => both_any a b (.slice ua a.ws.length uc) (.slice va b.ws.length vc) W h1 h2)
  have C2 := Lib.hid (fun W h1 h2 h3 h4 => refMatch0_any a b (.slice ua a.ws.length uc) (.slice va b.ws.length vc) W h1 h2 h3 h4)
  have K1 := Lib.hid (@both_sm a b)
  have K2 := Lib.hid (@both_ok a b)
  have K3 := Lib.hid (@mE_04 a b)
  have K4 := Lib.hid (show smB a b = decide (mE a b = 0) from rfl)
  have K5 := Lib.hid (fun h => show matchL a b = [] by unfold matchL; exact if_neg (show ¬ mE a b = 0 by rw [show mE a b = 4 from h]; decide))
  generalize smB a b = sb at *
  generalize matchL a b = ml at *
  generalize mE a b = me at *
  generalize bothE a b = be at *
  clear hu hv
  go_enter Try.func18, Try.ntmps18
  go_wp2_with fail
  have B0 : Below w.heap.size w ((w.alloc (.cells #[.int .i64 a.pr, .slice ua a.ws.length uc] 24)).alloc (.cells #[.int .i64 b.pr, .slice va b.ws.length vc] 24)) := (below_alloc _ _).alloc (by simp) _
  have h0 := heap_alloc2_old w (.cells #[.int .i64 a.pr, .slice ua a.ws.length uc] 24) (.cells #[.int .i64 b.pr, .slice va b.ws.length vc] 24)
  have h1 := heap_alloc2_new w (.cells #[.int .i64 a.pr, .slice ua a.ws.length uc] 24) (.cells #[.int .i64 b.pr, .slice va b.ws.length vc] 24)
  have hz0 : w.heap.size + 2 ≤ ((w.alloc (.cells #[.int .i64 a.pr, .slice ua a.ws.length uc] 24)).alloc (.cells #[.int .i64 b.pr, .slice va b.ws.length vc] 24)).heap.size := by simp
  generalize (w.alloc (.cells #[.int .i64 a.pr, .slice ua a.ws.length uc] 24)).alloc (.cells #[.int .i64 b.pr, .slice va b.ws.length vc] 24) = W0 at *
  refine (C1.out W0 (HU.out.below B0) (HV.out.below B0)).mono ?_
  rintro e w1 ⟨rfl, b1⟩
  have H01 := Lib.hid (hb_below b1 h0 (by omega))
  have H11 := Lib.hid (hb_below b1 h1 (by omega))
  have HB1 := Lib.hid (bon B0 b1)
  have hz1 : w.heap.size + 2 ≤ w1.heap.size := Nat.le_trans hz0 b1.size
  try clear ca0 ca1 cb0 cb1
  have ca0 : w1.cell? ⟨w.heap.size, 0, none⟩ = some (.int .i64 a.pr) := cell_of_row w1 _ 0 _ _ _ H01.out
  have ca1 : w1.cell? ⟨w.heap.size, 1, none⟩ = some (.slice ua a.ws.length uc) := cell_of_row w1 _ 1 _ _ _ H01.out
  have cb0 : w1.cell? ⟨w.heap.size + 1, 0, none⟩ = some (.int .i64 b.pr) := cell_of_row w1 _ 0 _ _ _ H11.out
  have cb1 : w1.cell? ⟨w.heap.size + 1, 1, none⟩ = some (.slice va b.ws.length vc) := cell_of_row w1 _ 1 _ _ _ H11.out
  clear b1
  by_cases hz : be = 0
  · subst hz
    obtain ⟨ha, hb⟩ := K2.out (by trivial)
    go_wp2_with fail
    refine (C2.out w1 (HU.out.below HB1.out) (HV.out.below HB1.out) ha hb).mono ?_
    rintro e w2 ⟨lv, rfl, hls, b2⟩
    have HBF := Lib.hid (bon HB1.out b2)
    have HLS := Lib.hid hls
    obtain ⟨la, lc, rfl, _⟩ := hls
    clear b2
    rcases K3.out ha hb with e | e
    · subst e
      have e := K4.out
      simp only [decide_true] at e
      subst e
      go_wp2_with fail
      go_ret2
      exact ⟨_, rfl, HLS.out, HBF.out⟩
    · subst e
      have e : sb = false := K4.out
      subst e
      have e2 := K5.out (by trivial)
      subst e2
      go_wp2_with fail
      go_ret2
      exact ⟨_, rfl, HNIL.out _, HBF.out⟩
  · obtain ⟨e1, _, _, e2⟩ := K1.out hz
    subst e1 e2
    have hz' : (me == 0) = false := beq_eq_false_iff_ne.2 hz
    go_wp2_with fail
    go_ret2
    exact ⟨_, rfl, HNIL.out _, HB1.out⟩
def farB (s : Sh) (m : Int) : Bool := decide (m < (s.ws.length : Int)) && decide (s.ws.length ≤ 400) || decide (450 < s.ws.length)
set_option maxHeartbeats 4000000 in
set_option maxRecDepth 100000 in
theorem far_any (s : Sh) (m : Int) (u : Value) (w : World) (hu : WS w u s.ws) :
    Calls Try.prog 13 #[.agg #[.int .i64 s.pr, u], .int .i64 m] w fun e w' => e = .returned (.bool (farB s m)) ∧ Below w.heap.size w w' := by
  obtain ⟨ua, uc, rfl, k1, k2, _⟩ := hu
  have B0 := below_alloc w (.cells #[.int .i64 s.pr, .slice ua s.ws.length uc] 24)
  unfold farB
  by_cases h1 : m < (s.ws.length : Int)
  · rw [decide_eq_true h1]
    by_cases h2 : s.ws.length ≤ 400
    · have h2' : (s.ws.length : Int) ≤ 400 := by omega
      rw [decide_eq_true h2]
      go_enter Try.func13, Try.ntmps13
      go_wp2_with fail
      go_ret
      exact ⟨rfl, B0⟩
    · have h2' : ¬ (s.ws.length : Int) ≤ 400 := by omega
      rw [decide_eq_false h2]
      by_cases h3 : 450 < s.ws.length
      · have h3' : (450 : Int) < (s.ws.length : Int) := by omega
        rw [decide_eq_true h3]
        go_enter Try.func13, Try.ntmps13
        go_wp2_with fail
        go_ret
        exact ⟨rfl, B0⟩
      · have h3' : ¬ (450 : Int) < (s.ws.length : Int) := by omega
        rw [decide_eq_false h3]
        go_enter Try.func13, Try.ntmps13
        go_wp2_with fail
        go_ret
        exact ⟨rfl, B0⟩
  · rw [decide_eq_false h1]
    by_cases h3 : 450 < s.ws.length
    · have h3' : (450 : Int) < (s.ws.length : Int) := by omega
      rw [decide_eq_true h3]
      go_enter Try.func13, Try.ntmps13
      go_wp2_with fail
      go_ret
      exact ⟨rfl, B0⟩
    · have h3' : ¬ (450 : Int) < (s.ws.length : Int) := by omega
      rw [decide_eq_false h3]
      go_enter Try.func13, Try.ntmps13
      go_wp2_with fail
      go_ret
      exact ⟨rfl, B0⟩
theorem matchL_len (a b : Sh) : (matchL a b).length ≤ 200000 := by
  unfold matchL
  split
  · rename_i h
    have hb : chkS b = 0 := by
      refine Classical.byContradiction fun hc => ?_
      by_cases ha : chkS a = 0
      · rw [(mE_2 ha hc).1] at h; exact hc h
      · rw [(mE_1 ha).1] at h; exact ha h
    cases hm : matchTo a.ws b.ws b.ws.length with
    | none => simp [LI]
    | some l =>
      have := (matchTo_clo hm).2.1
      have := (chk_small hb).2.2.1
      rw [Option.getD_some, LI_len]
      omega
  · simp
set_option maxHeartbeats 8000000 in
set_option maxRecDepth 100000 in
theorem same_law (a b : Sh) (u v : Value) (w : World) (hu : WS w u a.ws) (hv : WS w v b.ws) :
    Calls Try.prog 3 #[.agg #[.int .i64 a.pr, u], .agg #[.int .i64 b.pr, v]] w fun e w' => e = .returned (.bool true) ∧ Below w.heap.size w w' := by
  have HU := Lib.hid hu
  have HV := Lib.hid hv
  obtain ⟨ua, uc, rfl, k1, k2, _⟩ := id hu
  obtain ⟨va, vc, rfl, k3, k4, _⟩ := id hv
  have CA := Lib.hid (fun W => awake_any W)
  have F1 := Lib.hid (fun W h => far_any a 80 (.slice ua a.ws.length uc) W h)
  have F2 := Lib.hid (fun W h => far_any b 80 (.slice va b.ws.length vc) W h)
  have C1 := Lib.hid (fun W h1 h2 => Same_any a b (.slice ua a.ws.length uc) (.slice va b.ws.length vc) W h1 h2)
  have C2 := Lib.hid (fun W h1 h2 => refSame_any a b (.slice ua a.ws.length uc) (.slice va b.ws.length vc) W h1 h2)
  have C3 := Lib.hid (fun W h1 h2 => Match_any a b (.slice ua a.ws.length uc) (.slice va b.ws.length vc) W h1 h2)
  have C4 := Lib.hid (fun W h1 h2 => refMatch_any a b (.slice ua a.ws.length uc) (.slice va b.ws.length vc) W h1 h2)
  have HML := Lib.hid (matchL_len a b)
  generalize smB a b = sb at *
  generalize smE a b = se at *
  generalize matchL a b = ml at *
  generalize mE a b = me at *
  generalize farB a 80 = fa at *
  generalize farB b 80 = fb at *
  clear hu hv
  go_enter Try.func3, Try.ntmps3
  go_wp2_with fail
  have B0 : Below w.heap.size w ((w.alloc (.cells #[.int .i64 a.pr, .slice ua a.ws.length uc] 24)).alloc (.cells #[.int .i64 b.pr, .slice va b.ws.length vc] 24)) := (below_alloc _ _).alloc (by simp) _
  have h0 := heap_alloc2_old w (.cells #[.int .i64 a.pr, .slice ua a.ws.length uc] 24) (.cells #[.int .i64 b.pr, .slice va b.ws.length vc] 24)
  have h1 := heap_alloc2_new w (.cells #[.int .i64 a.pr, .slice ua a.ws.length uc] 24) (.cells #[.int .i64 b.pr, .slice va b.ws.length vc] 24)
  have hz0 : w.heap.size + 2 ≤ ((w.alloc (.cells #[.int .i64 a.pr, .slice ua a.ws.length uc] 24)).alloc (.cells #[.int .i64 b.pr, .slice va b.ws.length vc] 24)).heap.size := by simp
  generalize (w.alloc (.cells #[.int .i64 a.pr, .slice ua a.ws.length uc] 24)).alloc (.cells #[.int .i64 b.pr, .slice va b.ws.length vc] 24) = W0 at *
  refine (F1.out W0 (HU.out.below B0)).mono ?_
  rintro e w1 ⟨rfl, b1⟩
  have H01 := Lib.hid (hb_below b1 h0 (by omega))
  have H11 := Lib.hid (hb_below b1 h1 (by omega))
  have HB1 := Lib.hid (bon B0 b1)
  have hz1 : w.heap.size + 2 ≤ w1.heap.size := Nat.le_trans hz0 b1.size
  try clear ca0 ca1 cb0 cb1
  have ca0 : w1.cell? ⟨w.heap.size, 0, none⟩ = some (.int .i64 a.pr) := cell_of_row w1 _ 0 _ _ _ H01.out
  have ca1 : w1.cell? ⟨w.heap.size, 1, none⟩ = some (.slice ua a.ws.length uc) := cell_of_row w1 _ 1 _ _ _ H01.out
  have cb0 : w1.cell? ⟨w.heap.size + 1, 0, none⟩ = some (.int .i64 b.pr) := cell_of_row w1 _ 0 _ _ _ H11.out
  have cb1 : w1.cell? ⟨w.heap.size + 1, 1, none⟩ = some (.slice va b.ws.length vc) := cell_of_row w1 _ 1 _ _ _ H11.out
  clear b1
  cases fa
  · go_wp2_with fail
    refine (F2.out w1 (HV.out.below HB1.out)).mono ?_
    rintro e w2 ⟨rfl, b2⟩
    have H02 := Lib.hid (hb_below b2 H01.out (by omega))
    have H12 := Lib.hid (hb_below b2 H11.out (by omega))
    have HB2 := Lib.hid (bon HB1.out b2)
    have hz2 : w.heap.size + 2 ≤ w2.heap.size := Nat.le_trans hz1 b2.size
    try clear ca0 ca1 cb0 cb1
    have ca0 : w2.cell? ⟨w.heap.size, 0, none⟩ = some (.int .i64 a.pr) := cell_of_row w2 _ 0 _ _ _ H02.out
    have ca1 : w2.cell? ⟨w.heap.size, 1, none⟩ = some (.slice ua a.ws.length uc) := cell_of_row w2 _ 1 _ _ _ H02.out
    have cb0 : w2.cell? ⟨w.heap.size + 1, 0, none⟩ = some (.int .i64 b.pr) := cell_of_row w2 _ 0 _ _ _ H12.out
    have cb1 : w2.cell? ⟨w.heap.size + 1, 1, none⟩ = some (.slice va b.ws.length vc) := cell_of_row w2 _ 1 _ _ _ H12.out
    clear b2
    cases fb
    · go_wp2_with fail
      refine (C1.out w2 (HU.out.below HB2.out) (HV.out.below HB2.out)).mono ?_
      rintro e w3 ⟨rfl, b3⟩
      have H03 := Lib.hid (hb_below b3 H02.out (by omega))
      have H13 := Lib.hid (hb_below b3 H12.out (by omega))
      have HB3 := Lib.hid (bon HB2.out b3)
      have hz3 : w.heap.size + 2 ≤ w3.heap.size := Nat.le_trans hz2 b3.size
      try clear ca0 ca1 cb0 cb1
      have ca0 : w3.cell? ⟨w.heap.size, 0, none⟩ = some (.int .i64 a.pr) := cell_of_row w3 _ 0 _ _ _ H03.out
      have ca1 : w3.cell? ⟨w.heap.size, 1, none⟩ = some (.slice ua a.ws.length uc) := cell_of_row w3 _ 1 _ _ _ H03.out
      have cb0 : w3.cell? ⟨w.heap.size + 1, 0, none⟩ = some (.int .i64 b.pr) := cell_of_row w3 _ 0 _ _ _ H13.out
      have cb1 : w3.cell? ⟨w.heap.size + 1, 1, none⟩ = some (.slice va b.ws.length vc) := cell_of_row w3 _ 1 _ _ _ H13.out
      clear b3
      go_wp2_with fail
      refine (C2.out w3 (HU.out.below HB3.out) (HV.out.below HB3.out)).mono ?_
      rintro e w4 ⟨rfl, b4⟩
      have H04 := Lib.hid (hb_below b4 H03.out (by omega))
      have H14 := Lib.hid (hb_below b4 H13.out (by omega))
      have HB4 := Lib.hid (bon HB3.out b4)
      have hz4 : w.heap.size + 2 ≤ w4.heap.size := Nat.le_trans hz3 b4.size
      try clear ca0 ca1 cb0 cb1
      have ca0 : w4.cell? ⟨w.heap.size, 0, none⟩ = some (.int .i64 a.pr) := cell_of_row w4 _ 0 _ _ _ H04.out
      have ca1 : w4.cell? ⟨w.heap.size, 1, none⟩ = some (.slice ua a.ws.length uc) := cell_of_row w4 _ 1 _ _ _ H04.out
      have cb0 : w4.cell? ⟨w.heap.size + 1, 0, none⟩ = some (.int .i64 b.pr) := cell_of_row w4 _ 0 _ _ _ H14.out
      have cb1 : w4.cell? ⟨w.heap.size + 1, 1, none⟩ = some (.slice va b.ws.length vc) := cell_of_row w4 _ 1 _ _ _ H14.out
      clear b4
      go_wp2_with fail
      refine (C3.out w4 (HU.out.below HB4.out) (HV.out.below HB4.out)).mono ?_
      rintro e w5 ⟨lv, rfl, how, b5⟩
      have I5 := Lib.hid (is_own how rfl)
      obtain ⟨la, lc, rfl⟩ := own_form how
      clear how
      have H05 := Lib.hid (hb_below b5 H04.out (by omega))
      have H15 := Lib.hid (hb_below b5 H14.out (by omega))
      have HB5 := Lib.hid (bon HB4.out b5)
      have hz5 : w.heap.size + 2 ≤ w5.heap.size := Nat.le_trans hz4 b5.size
      try clear ca0 ca1 cb0 cb1
      have ca0 : w5.cell? ⟨w.heap.size, 0, none⟩ = some (.int .i64 a.pr) := cell_of_row w5 _ 0 _ _ _ H05.out
      have ca1 : w5.cell? ⟨w.heap.size, 1, none⟩ = some (.slice ua a.ws.length uc) := cell_of_row w5 _ 1 _ _ _ H05.out
      have cb0 : w5.cell? ⟨w.heap.size + 1, 0, none⟩ = some (.int .i64 b.pr) := cell_of_row w5 _ 0 _ _ _ H15.out
      have cb1 : w5.cell? ⟨w.heap.size + 1, 1, none⟩ = some (.slice va b.ws.length vc) := cell_of_row w5 _ 1 _ _ _ H15.out
      clear b5
      go_wp2_with fail
      refine (C4.out w5 (HU.out.below HB5.out) (HV.out.below HB5.out)).mono ?_
      rintro e w6 ⟨mv, rfl, him, b6⟩
      have I6 := Lib.hid him
      have I56 := Lib.hid (I5.out.below b6)
      obtain ⟨mma, mmc, rfl, _⟩ := him
      have H06 := Lib.hid (hb_below b6 H05.out (by omega))
      have H16 := Lib.hid (hb_below b6 H15.out (by omega))
      have HB6 := Lib.hid (bon HB5.out b6)
      have hz6 : w.heap.size + 2 ≤ w6.heap.size := Nat.le_trans hz5 b6.size
      try clear ca0 ca1 cb0 cb1
      have ca0 : w6.cell? ⟨w.heap.size, 0, none⟩ = some (.int .i64 a.pr) := cell_of_row w6 _ 0 _ _ _ H06.out
      have ca1 : w6.cell? ⟨w.heap.size, 1, none⟩ = some (.slice ua a.ws.length uc) := cell_of_row w6 _ 1 _ _ _ H06.out
      have cb0 : w6.cell? ⟨w.heap.size + 1, 0, none⟩ = some (.int .i64 b.pr) := cell_of_row w6 _ 0 _ _ _ H16.out
      have cb1 : w6.cell? ⟨w.heap.size + 1, 1, none⟩ = some (.slice va b.ws.length vc) := cell_of_row w6 _ 1 _ _ _ H16.out
      clear b6
      go_wp2_with fail
      refine (sameI_yes ml _ _ w6 I56.out I6.out HML.out).mono ?_
      rintro e w7 ⟨rfl, b7⟩
      have HB7 := Lib.hid (bon HB6.out b7)
      clear b7
      go_wp2_with fail
      refine (CA.out w7).mono ?_
      rintro e w8 ⟨rfl, b8⟩
      have HB8 := Lib.hid (bon HB7.out b8)
      clear b8
      go_wp2_with fail
      go_ret
      exact ⟨rfl, HB8.out⟩
    · go_wp2_with fail
      refine (CA.out w2).mono ?_
      rintro e w3 ⟨rfl, b3⟩
      have HB3 := Lib.hid (bon HB2.out b3)
      clear b3
      go_wp2_with fail
      go_ret
      exact ⟨rfl, HB3.out⟩
  · go_wp2_with fail
    refine (CA.out w1).mono ?_
    rintro e w2 ⟨rfl, b2⟩
    have HB2 := Lib.hid (bon HB1.out b2)
    clear b2
    go_wp2_with fail
    go_ret
    exact ⟨rfl, HB2.out⟩
theorem same_row (a b : Sh) (v0 v1 : Value) (w : World) (h0 : SV w v0 a) (_ : (Lit.int .i64 a.pr).wf = true) (h1 : SV w v1 b) (_ : (Lit.int .i64 b.pr).wf = true) : Calls Try.prog 3 #[v0, v1] w fun e w' => e = .returned (.bool true) ∧ Below w.heap.size w w' := by
  obtain ⟨u, rfl, hu⟩ := h0
  obtain ⟨v, rfl, hv⟩ := h1
  exact same_law a b u v w hu hv
end Go.Proofs.Ytcjbjlepgdggpaa
