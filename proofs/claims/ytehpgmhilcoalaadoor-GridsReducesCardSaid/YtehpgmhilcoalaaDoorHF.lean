/- Turn is an order of directions: plain mathematics. -/
import Derived.Test.YtehpgmhilcoalaaDoorGL
namespace Go.Proofs.YtehpgmhilcoalaaDoor
def dotP (s t : Pt) : Int := s.x * t.x + s.y * t.y
/-- The part and the turn without words. -/
def partM (f s : Pt) : Int := if 0 < crossP f s then 1 else if crossP f s < 0 then 3 else if 0 < dotP f s then 0 else 2
def turnM (f s t : Pt) : Int := if cmpI (partM f s) (partM f t) ≠ 0 then cmpI (partM f s) (partM f t) else cmpI 0 (crossP s t)
theorem cmpI_anti (a b : Int) : cmpI a b = -cmpI b a := by unfold cmpI; split <;> split <;> omega
theorem cmpI_zero {a b : Int} : cmpI a b = 0 ↔ a = b := by unfold cmpI; split <;> (try split) <;> omega
theorem cmpI_le {a b : Int} : cmpI a b ≤ 0 ↔ a ≤ b := by unfold cmpI; split <;> (try split) <;> omega
theorem cross_anti (s t : Pt) : crossP s t = -crossP t s := by unfold crossP; grind
theorem turn_anti (f s t : Pt) : turnM f s t = -turnM f t s := by
  unfold turnM
  rw [cmpI_anti (partM f t) (partM f s), cross_anti t s]
  by_cases h : cmpI (partM f s) (partM f t) = 0
  · rw [if_neg (by omega), if_neg (by omega)]
    unfold cmpI; split <;> (try split) <;> (try split) <;> (try split) <;> omega
  · rw [if_pos h, if_pos (by omega)]; omega
theorem sq_pos {f : Pt} (h : f ≠ ⟨0, 0⟩) : 0 < f.x * f.x + f.y * f.y := by
  have h1 := sq_nonneg f.x
  have h2 := sq_nonneg f.y
  rcases Int.lt_or_le 0 (f.x * f.x + f.y * f.y) with h3 | h3
  · exact h3
  · exfalso
    have e1 : f.x * f.x = 0 := by omega
    have e2 : f.y * f.y = 0 := by omega
    have d1 : f.x = 0 := by rcases Int.mul_eq_zero.1 e1 with g | g <;> exact g
    have d2 : f.y = 0 := by rcases Int.mul_eq_zero.1 e2 with g | g <;> exact g
    exact h (by cases f; simp only at d1 d2; rw [d1, d2])
theorem part_ge (f s : Pt) : 0 ≤ partM f s := by unfold partM; split <;> (try split) <;> (try split) <;> omega
theorem part_self {f : Pt} (h : f ≠ ⟨0, 0⟩) : partM f f = 0 := by
  have e : crossP f f = 0 := by unfold crossP; grind
  unfold partM
  rw [e, if_neg (by omega), if_neg (by omega), if_pos (show 0 < dotP f f from sq_pos h)]
theorem part_zero {f s : Pt} (h : partM f s = 0 ∨ partM f s = 2) : crossP f s = 0 := by
  unfold partM at h
  split at h
  · omega
  · split at h
    · omega
    · omega
theorem part_one {f s : Pt} (h : partM f s = 1) : 0 < crossP f s := by
  unfold partM at h
  split at h
  · assumption
  · split at h
    · omega
    · split at h <;> omega
theorem part_three {f s : Pt} (h : partM f s = 3) : crossP f s < 0 := by
  unfold partM at h
  split at h
  · omega
  · split at h
    · assumption
    · split at h <;> omega
theorem part_cases (f s : Pt) : partM f s = 0 ∨ partM f s = 1 ∨ partM f s = 2 ∨ partM f s = 3 := by
  unfold partM; split <;> (try split) <;> (try split) <;> omega
theorem turn_first {f q : Pt} (h : f ≠ ⟨0, 0⟩) : turnM f f q ≤ 0 := by
  unfold turnM
  rw [part_self h]
  split
  · rw [cmpI_le]; exact part_ge _ _
  · rename_i hc
    have : partM f q = 0 := by
      have := cmpI_zero.1 (Classical.not_not.1 hc)
      omega
    rw [cmpI_le, part_zero (.inl this)]
    omega
theorem par {f q r : Pt} (h : f ≠ ⟨0, 0⟩) (h1 : crossP f q = 0) (h2 : crossP f r = 0) : crossP q r = 0 := by
  have e : (f.x * f.x + f.y * f.y) * crossP q r = dotP f q * crossP f r - crossP f q * dotP f r := by unfold crossP dotP; grind
  rw [h1, h2] at e
  have e2 : (f.x * f.x + f.y * f.y) * crossP q r = 0 := by rw [e]; simp
  rcases Int.mul_eq_zero.1 e2 with g | g
  · have := sq_pos h; omega
  · exact g
theorem plu (f q r y : Pt) : crossP f r * crossP q y = crossP f q * crossP r y + crossP f y * crossP q r := by unfold crossP; grind
theorem turn_eq {f s t : Pt} (h : partM f s = partM f t) : turnM f s t = cmpI 0 (crossP s t) := by
  unfold turnM
  rw [cmpI_zero.2 h, if_neg (by simp)]
theorem turn_ne {f s t : Pt} (h : partM f s ≠ partM f t) : turnM f s t = cmpI (partM f s) (partM f t) := by
  unfold turnM
  rw [if_pos (fun e => h (cmpI_zero.1 e))]
theorem turn_trans {f q r y : Pt} (h : f ≠ ⟨0, 0⟩) (h1 : turnM f q r ≤ 0) (h2 : turnM f r y ≤ 0) : turnM f q y ≤ 0 ∧ ((turnM f q r = 0 ∧ turnM f r y = 0) ↔ turnM f q y = 0) := by
  have key : partM f q = partM f r → partM f r = partM f y → 0 ≤ crossP q r → 0 ≤ crossP r y → 0 ≤ crossP q y ∧ ((crossP q r = 0 ∧ crossP r y = 0) ↔ crossP q y = 0) := fun e1 e2 k1 k2 => by
    have hp := plu f q r y
    rcases part_cases f r with c | c | c | c
    · have a := part_zero (.inl (e1.trans c)); have b := part_zero (.inl c); have d := part_zero (.inl (e2.symm.trans c))
      rw [par h a b, par h b d, par h a d]; simp
    · have a := part_one (e1.trans c); have b := part_one c; have d := part_one (e2.symm.trans c)
      have m1 := Int.mul_nonneg (Int.le_of_lt a) k2
      have m2 := Int.mul_nonneg (Int.le_of_lt d) k1
      refine ⟨?_, fun ⟨u, v⟩ => ?_, fun u => ?_⟩
      · refine Int.le_of_not_gt fun hn => ?_
        have := Int.mul_pos b (show 0 < -crossP q y by omega)
        grind
      · rw [u, v] at hp
        have : crossP f r * crossP q y = 0 := by rw [hp]; simp
        rcases Int.mul_eq_zero.1 this with g | g
        · omega
        · exact g
      · rw [u, Int.mul_zero] at hp
        have z1 : crossP f q * crossP r y = 0 := by omega
        have z2 : crossP f y * crossP q r = 0 := by omega
        rcases Int.mul_eq_zero.1 z1 with g | g
        · omega
        · rcases Int.mul_eq_zero.1 z2 with g' | g'
          · omega
          · exact ⟨g', g⟩
    · have a := part_zero (.inr (e1.trans c)); have b := part_zero (.inr c); have d := part_zero (.inr (e2.symm.trans c))
      rw [par h a b, par h b d, par h a d]; simp
    · have a := part_three (e1.trans c); have b := part_three c; have d := part_three (e2.symm.trans c)
      have m1 := Int.mul_nonneg (show 0 ≤ -crossP f q by omega) k2
      have m2 := Int.mul_nonneg (show 0 ≤ -crossP f y by omega) k1
      rw [Int.neg_mul] at m1 m2
      refine ⟨?_, fun ⟨u, v⟩ => ?_, fun u => ?_⟩
      · refine Int.le_of_not_gt fun hn => ?_
        have := Int.mul_pos (show 0 < -crossP f r by omega) (show 0 < -crossP q y by omega)
        grind
      · rw [u, v] at hp
        have : crossP f r * crossP q y = 0 := by rw [hp]; simp
        rcases Int.mul_eq_zero.1 this with g | g
        · omega
        · exact g
      · rw [u, Int.mul_zero] at hp
        have z1 : crossP f q * crossP r y = 0 := by omega
        have z2 : crossP f y * crossP q r = 0 := by omega
        rcases Int.mul_eq_zero.1 z1 with g | g
        · omega
        · rcases Int.mul_eq_zero.1 z2 with g' | g'
          · omega
          · exact ⟨g', g⟩
  by_cases e1 : partM f q = partM f r
  · rw [turn_eq e1] at h1 ⊢
    by_cases e2 : partM f r = partM f y
    · rw [turn_eq e2] at h2 ⊢
      rw [turn_eq (e1.trans e2)]
      rw [cmpI_le] at h1 h2
      obtain ⟨k1, k2⟩ := key e1 e2 h1 h2
      rw [cmpI_le, cmpI_zero, cmpI_zero, cmpI_zero]
      exact ⟨k1, ⟨fun ⟨u, v⟩ => (k2.1 ⟨u.symm, v.symm⟩).symm, fun u => ⟨(k2.2 u.symm).1.symm, (k2.2 u.symm).2.symm⟩⟩⟩
    · rw [turn_ne e2] at h2 ⊢
      rw [turn_ne (fun e => e2 (e1.symm.trans e)), e1]
      exact ⟨h2, ⟨fun ⟨_, v⟩ => v, fun v => absurd (cmpI_zero.1 v) e2⟩⟩
  · rw [turn_ne e1] at h1 ⊢
    have l1 := cmpI_le.1 h1
    have l2 : partM f r ≤ partM f y := by
      by_cases e2 : partM f r = partM f y
      · exact Int.le_of_eq e2
      · rw [turn_ne e2] at h2; exact cmpI_le.1 h2
    have c : partM f q ≠ partM f y := fun e => e1 (by omega)
    rw [turn_ne c]
    exact ⟨cmpI_le.2 (by omega), ⟨fun ⟨u, _⟩ => absurd (cmpI_zero.1 u) e1, fun v => absurd (cmpI_zero.1 v) c⟩⟩
end Go.Proofs.YtehpgmhilcoalaaDoor
