/- The law of moves that are undone and composed. -/
import Derived.Test.YtjekfkmcgfnkaaaDoorIU
import Derived.Test.YtjekfkmcgfnkaaaDoorHC
namespace Go.Proofs.YtjekfkmcgfnkaaaDoor
open Go.RowKit Go.Lib
set_option linter.unusedSimpArgs false
set_option linter.unusedVariables false
theorem okV_parts {b1 b2 b3 : Bool} {z : Int} (h : (if (b1 && b2) = true then (if b3 = true then (0 : Int) else 7) else 2) = 0) : b1 = true ∧ b2 = true ∧ b3 = true := by
  cases b1 <;> cases b2 <;> cases b3 <;> simp_all
theorem comE_zero {m n : Mov} (h : comE m n = 0) : okV m = true ∧ okV n = true ∧ okV (comp m n).w = true ∧ comV m n = comp m n ∧ okV (comp m n) = true := by
  obtain ⟨h1, h2, h3⟩ := okV_parts (z := 0) h
  have e := comp_w h1 h2
  rw [e] at h3
  refine ⟨h1, h2, by rw [e]; exact h3, ?_, h3⟩
  unfold comV
  rw [e, h1, h2, h3]; rfl
theorem appE_zero {m : Mov} {p : Pt} (h : appE m p = 0) : okV m = true ∧ okP p = true ∧ appV m p = appl m p ∧ okP (appl m p) = true := by
  obtain ⟨h1, h2, h3⟩ := okV_parts (z := 0) h
  have e := appl_w h1 h2
  rw [e] at h3
  refine ⟨h1, h2, ?_, h3⟩
  unfold appV
  rw [e, h1, h2, h3]; rfl
theorem back_case {m : Mov} {p : Pt} (h : invE m = 0) (k : appE m p = 0) : appE (invV m) (appV m p) = 0 ∧ appV (invV m) (appV m p) = p := by
  obtain ⟨h1, h2, h3, h4⟩ := appE_zero k
  unfold invE at h
  rw [h1, if_pos rfl] at h
  cases hu : unitB m.m
  · rw [hu] at h; simp at h
  · rw [hu, if_pos rfl] at h
    cases hb : okV (back m)
    · rw [hb] at h; simp at h
    · have hv : invV m = back m := by unfold invV; rw [h1, hu, hb]; rfl
      have U := (unitB_iff _).1 hu
      have e2 := appl_w hb h4
      rw [appl_back U] at e2
      rw [hv, h3]
      unfold appE appV
      rw [appl_back U, e2, hb, h4, h2]
      exact ⟨rfl, rfl⟩
theorem comp_case {m n o : Mov} (h : comE m n = 0) (k : comE n o = 0) : comV (comV m n) o = comV m (comV n o) ∧ comE (comV m n) o = comE m (comV n o) := by
  obtain ⟨h1, h2, _, h3, h4⟩ := comE_zero h
  obtain ⟨_, k2, _, k3, k4⟩ := comE_zero k
  rw [h3, k3]
  unfold comV comE
  rw [comp_assoc, h4, k2, h1, k4]
  exact ⟨rfl, rfl⟩
theorem app_case {m n : Mov} {p : Pt} (h : comE m n = 0) (k : appE n p = 0) : appV m (appV n p) = appV (comV m n) p ∧ appE m (appV n p) = appE (comV m n) p := by
  obtain ⟨h1, h2, _, h3, h4⟩ := comE_zero h
  obtain ⟨_, k2, k3, k4⟩ := appE_zero k
  rw [h3, k3]
  unfold appV appE
  rw [appl_comp, h1, h4, k4, k2]
  exact ⟨rfl, rfl⟩
end Go.Proofs.YtjekfkmcgfnkaaaDoor
