/- The steps of the reduction: plain mathematics. -/
import Derived.Test.YtehpgmhilcoalaaDoorGP
namespace Go.Proofs.YtehpgmhilcoalaaDoor
theorem bet_unit {l : Lat} {m : Mat} (h : BetV l = some m) : Unit1 m := by
  unfold BetV at h
  split at h
  · obtain rfl := Option.some.inj h; exact .inr (by simp [Mat.det])
  · split at h
    · obtain rfl := Option.some.inj h; exact .inr (by simp [Mat.det])
    · split at h
      · obtain rfl := Option.some.inj h; exact .inl (by simp [Mat.det])
      · cases h
theorem bet_red {l : Lat} (h : BetV l = none) (hl : Ok l) : Red l := by
  obtain ⟨k1, k2, k3, k4, k5, k6, k7⟩ := hl
  unfold BetV at h
  split at h
  · cases h
  · split at h
    · cases h
    · split at h
      · cases h
      · exact ⟨by omega, by omega, by omega, k1⟩
/-- How much is left to do. -/
def mu (l : Lat) : Nat := 4 * l.a.toNat + (if l.c < l.a then 0 else if l.a < 2 * l.b then 2 else if l.a < -(2 * l.b) then 3 else if l.b < 0 then 1 else 0)
theorem bet_step {l : Lat} (hl : Ok l) {m : Mat} (h : BetV l = some m) : Ok (led l m) ∧ mu (led l m) < mu l := by
  obtain ⟨A, B, C⟩ := l
  obtain ⟨k1, k2, k3, k4, k5, k6, k7⟩ := hl
  simp only at k1 k2 k3 k4 k5 k6 k7
  unfold BetV at h
  simp only at h
  split at h
  · rename_i q
    obtain rfl := Option.some.inj h
    have e : led ⟨A, B, C⟩ ⟨0, 1, 1, 0⟩ = ⟨C, B, A⟩ := by simp [led, prod]
    rw [e]
    refine ⟨⟨k5, k6, k3, k4, k1, k2, by simp only; rw [Int.mul_comm]; exact k7⟩, ?_⟩
    unfold mu
    simp only
    rw [if_pos q]
    split <;> (try split) <;> (try split) <;> (try split) <;> omega
  · rename_i q
    split at h
    · rename_i q2
      obtain rfl := Option.some.inj h
      have e : led ⟨A, B, C⟩ ⟨1, 0, 0, -1⟩ = ⟨A, -B, C⟩ := by simp [led, prod]
      rw [e]
      refine ⟨⟨k1, k2, by simp only; omega, by simp only; omega, k5, k6, by simp only; grind⟩, ?_⟩
      unfold mu
      simp only
      rw [if_neg q, if_neg q]
      split <;> (try split) <;> (try split) <;> (try split) <;> (try split) <;> (try split) <;> omega
    · rename_i q2
      split at h
      · rename_i q3
        obtain rfl := Option.some.inj h
        obtain ⟨k, hk⟩ : ∃ k, k = (2 * B + A).tdiv (2 * A) := ⟨_, rfl⟩
        rw [← hk]
        have hdiv : k = (2 * B + A) / (2 * A) := by rw [hk]; exact Int.tdiv_eq_ediv_of_nonneg (by omega)
        have d1 := Int.mul_ediv_self_le (x := 2 * B + A) (k := 2 * A) (by omega)
        have d2 := Int.lt_mul_ediv_self_add (x := 2 * B + A) (k := 2 * A) (by omega)
        rw [← hdiv] at d1 d2
        clear hdiv hk
        have e : led ⟨A, B, C⟩ ⟨1, -k, 0, 1⟩ = ⟨A, B - A * k, C - 2 * (B * k) + A * k * k⟩ := by
          simp only [led, prod, Lat.mk.injEq]
          refine ⟨by simp, by grind, by grind⟩
        rw [e]
        have hak : 2 * A * k = 2 * (A * k) := by grind
        rw [hak] at d1 d2
        have b1 : -A ≤ 2 * (B - A * k) := by omega
        have b2 : 2 * (B - A * k) ≤ A := by omega
        have hdet : A * (C - 2 * (B * k) + A * k * k) - (B - A * k) * (B - A * k) = A * C - B * B := by grind
        have hBB : (B - A * k) * (B - A * k) ≤ B * B := by
          have := Int.mul_nonneg (show 0 ≤ B - (B - A * k) by omega) (show 0 ≤ B + (B - A * k) by omega)
          grind
        have hsq : 0 ≤ (B - A * k) * (B - A * k) := sq_nonneg _
        have hC1 : 1 ≤ C - 2 * (B * k) + A * k * k := by
          refine Int.le_of_not_gt fun hn => ?_
          have : 0 ≤ A * (0 - (C - 2 * (B * k) + A * k * k)) := Int.mul_nonneg (by omega) (by omega)
          grind
        have hC2 : C - 2 * (B * k) + A * k * k ≤ C := by
          refine Int.le_of_not_gt fun hn => ?_
          have : 1 * 1 ≤ A * ((C - 2 * (B * k) + A * k * k) - C) := Int.mul_le_mul (by omega) (by omega) (by omega) (by omega)
          grind
        generalize C - 2 * (B * k) + A * k * k = C' at *
        generalize B - A * k = B' at *
        refine ⟨⟨k1, k2, by simp only; omega, by simp only; omega, hC1, by simp only; omega, by simp only; omega⟩, ?_⟩
        unfold mu
        simp only
        rw [if_neg q]
        split <;> (try split) <;> (try split) <;> (try split) <;> (try split) <;> (try split) <;> omega
      · cases h
/-- Reckoning with the numbers of valid lattices and of what leads to them stays in the words. -/
theorem led_w {l : Lat} (h : Ok l) : l.w = l := by
  obtain ⟨k1, k2, k3, k4, k5, k6, k7⟩ := h
  cases l
  simp only [Lat.w, Lat.mk.injEq] at *
  exact ⟨wrap64_id (by omega), wrap64_id (by omega), wrap64_id (by omega)⟩
theorem mok_w {m : Mat} (h : Mok m) : m.w = m := by
  obtain ⟨k1, k2, k3, k4⟩ := h
  cases m
  simp only [Mat.w, Mat.mk.injEq] at *
  exact ⟨wrap64_id (by omega), wrap64_id (by omega), wrap64_id (by omega), wrap64_id (by omega)⟩
theorem lead_ok {l r : Lat} (hl : Ok l) (hr : r.a ≤ 10000 ∧ r.c ≤ 10000) {m : Mat} (e : led l m = r) : Mok m := by
  obtain ⟨k1, k2, k3, k4, k5, k6, k7⟩ := hl
  exact lead_bound k1 k7 (by omega) k2 k6 e hr.1 hr.2
end Go.Proofs.YtehpgmhilcoalaaDoor
