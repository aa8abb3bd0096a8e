/- Plain facts on whole numbers and their digits. -/
import Derived.Test.YtkbmdmipdcjjcaaGreatDoorNW
import Derived.Test.YtkbmdmipdcjjcaaGreatDoorN
namespace Go.Proofs.YtkbmdmipdcjjcaaGreatDoor
open Go.RowKit

theorem numV_snoc (m : List UInt8) (c : UInt8) : numV (m ++ [c]) = numV m * 10 + (c.toNat - 48) := by simp [numV]
theorem numV_app (a b : List UInt8) : numV a ≤ numV (a ++ b) := by
  have := numA_ge b (numV a)
  have e : numV (a ++ b) = numA (numV a) b := by simp [numV, numA]
  omega
theorem dig_nat (d : Nat) (h : d < 10) : (UInt8.ofNat (48 + d)).toNat = 48 + d := by rw [UInt8.toNat_ofNat']; omega
theorem numV_dec (K : Nat) : ∀ u : Nat, u ≤ K → numV (Lib.decDigits u) = u := by
  induction K with
  | zero => intro u hu; obtain rfl : u = 0 := by omega
            rw [dec_small 0 (by omega)]; rfl
  | succ K ih =>
    intro u hu
    by_cases h : u < 10
    · rw [dec_small u h]
      show (0 * 10 + ((UInt8.ofNat (48 + u)).toNat - 48)) = u
      rw [dig_nat u h]; omega
    · rw [dec_big u h, dec_small (u % 10) (by omega), numV_snoc, ih (u / 10) (by omega), dig_nat _ (by omega)]
      omega
theorem dec_ge (K : Nat) : ∀ u : Nat, u ≤ K → ∀ b ∈ Lib.decDigits u, 48 ≤ b.toNat := by
  induction K with
  | zero =>
    intro u hu b hb
    obtain rfl : u = 0 := by omega
    rw [dec_small 0 (by omega)] at hb
    simp at hb; subst hb; decide
  | succ K ih =>
    intro u hu b hb
    by_cases h : u < 10
    · rw [dec_small u h] at hb
      have hb' : b = UInt8.ofNat (48 + u) := by simpa using hb
      rw [hb', dig_nat u h]; omega
    · rw [dec_big u h, dec_small (u % 10) (by omega), List.mem_append] at hb
      rcases hb with hb | hb
      · exact ih (u / 10) (by omega) b hb
      · have hb' : b = UInt8.ofNat (48 + u % 10) := by simpa using hb
        rw [hb', dig_nat _ (by omega)]; omega
theorem dec_num (K : Nat) : ∀ d : List UInt8, d.length ≤ K → numB d = true → Lib.decDigits (numV d) = d := by
  induction K with
  | zero => intro d hd h; have := List.eq_nil_of_length_eq_zero (Nat.le_zero.1 hd); subst this; cases h
  | succ K ih =>
    intro d hd h
    obtain ⟨hne, hw⟩ := numB_parts h
    obtain ⟨m, c, rfl⟩ : ∃ m c, d = m ++ [c] := ⟨d.dropLast, d.getLast hne, (List.dropLast_concat_getLast hne).symm⟩
    have hw2 := hw
    unfold withinB at hw2
    rw [List.all_append, Bool.and_eq_true] at hw2
    have hc : 48 ≤ c.toNat ∧ c.toNat ≤ 57 := by have := hw2.2; simp [inB] at this; omega
    have hcc : UInt8.ofNat (48 + (c.toNat - 48)) = c := by rw [show 48 + (c.toNat - 48) = c.toNat by omega]; simp
    cases m with
    | nil =>
      have e : numV ([] ++ [c]) = c.toNat - 48 := by rw [numV_snoc]; simp [numV]
      rw [e, dec_small _ (by omega), hcc]; rfl
    | cons a r =>
      have ha : a ≠ 48 := by
        intro e
        subst e
        unfold numB at h
        simp at h
      have hm : numB (a :: r) = true := by
        unfold numB withinB
        rw [hw2.1]
        simp [ha]
      have hi := ih (a :: r) (by simp at hd ⊢; omega) hm
      have h1 : 1 ≤ numV (a :: r) := by
        rcases Nat.eq_zero_or_pos (numV (a :: r)) with h0 | h0
        · rw [h0, dec_small 0 (by omega)] at hi
          have := (List.cons.inj hi).1
          exact absurd this.symm ha
        · exact h0
      rw [numV_snoc, dec_big _ (by omega), show (numV (a :: r) * 10 + (c.toNat - 48)) / 10 = numV (a :: r) by omega, hi,
        show (numV (a :: r) * 10 + (c.toNat - 48)) % 10 = c.toNat - 48 by omega, dec_small _ (by omega), hcc]

/-- The signed value of a text. -/
def sv (l : List UInt8) : Int := if l.head? = some 45 then -(numV l.tail : Int) else numV l
def fitB (l : List UInt8) : Bool := decide (-9223372036854775808 ≤ sv l) && decide (sv l ≤ 9223372036854775807)
theorem sv_itoa (n : Int) : sv (Lib.itoa n) = n := by
  by_cases h : n < 0
  · obtain ⟨m, rfl⟩ : ∃ m : Nat, n = -(m : Int) := ⟨n.natAbs, by omega⟩
    rw [Lib.itoa_neg m (by omega)]
    unfold sv
    simp only [List.head?_cons, if_true, List.tail_cons]
    rw [numV_dec m m (Nat.le_refl _)]
  · obtain ⟨m, rfl⟩ : ∃ m : Nat, n = (m : Int) := ⟨n.toNat, by omega⟩
    rw [Lib.itoa_nonneg]
    unfold sv
    have : ¬ (Lib.decDigits m).head? = some 45 := by
      intro e
      have hm := List.mem_of_mem_head? (by rw [e]; rfl : (45 : UInt8) ∈ (Lib.decDigits m).head?)
      have := dec_ge m m (Nat.le_refl _) _ hm
      exact absurd this (by decide)
    rw [if_neg this, numV_dec m m (Nat.le_refl _)]
theorem whole_cases {l : List UInt8} (h : wholeB l = true) : (∃ ds, l = 45 :: ds ∧ numB ds = true ∧ 1 ≤ numV ds) ∨ (numB l = true ∧ ¬ l.head? = some 45) := by
  unfold wholeB at h
  rw [trim_neg, Bool.and_eq_true] at h
  obtain ⟨h1, h2⟩ := h
  by_cases hh : l.head? = some 45
  · rw [if_pos hh] at h1
    cases l with
    | nil => simp at hh
    | cons a ds =>
      have ha : a = 45 := by simpa using hh
      subst ha
      refine .inl ⟨ds, rfl, h1, ?_⟩
      rcases Nat.eq_zero_or_pos (numV ds) with h0 | h0
      · have hi := dec_num _ ds (Nat.le_refl _) h1
        rw [h0, dec_small 0 (by omega)] at hi
        rw [← hi] at h2
        exact absurd h2 (by decide)
      · exact h0
  · rw [if_neg hh] at h1
    exact .inr ⟨h1, hh⟩
theorem whole_itoa {l : List UInt8} (h : wholeB l = true) : Lib.itoa (sv l) = l := by
  rcases whole_cases h with ⟨ds, rfl, h1, h2⟩ | ⟨h1, h2⟩
  · unfold sv
    simp only [List.head?_cons, if_true, List.tail_cons]
    rw [Lib.itoa_neg _ h2, dec_num _ ds (Nat.le_refl _) h1]
  · unfold sv
    rw [if_neg h2, Lib.itoa_nonneg, dec_num _ l (Nat.le_refl _) h1]
theorem parse_neg {ds : List UInt8} (h : numB ds = true) (h1 : 1 ≤ numV ds) : (numV ds ≤ 9223372036854775808 → Lib.parseIntB 64 (45 :: ds) = .ok (-(numV ds : Int))) ∧ (9223372036854775808 < numV ds → Lib.parseIntB 64 (45 :: ds) = .range) := by
  obtain ⟨hne, hw⟩ := numB_parts h
  obtain ⟨p1, p2⟩ := parseM_val (2 ^ 64 - 1) (by decide) ds 0 hw (by decide)
  have hv : numA 0 ds = numV ds := rfl
  rw [hv] at p1 p2
  have e : (if (45 : UInt8).toNat = 43 ∨ (45 : UInt8).toNat = 45 then ds else 45 :: ds) = ds := if_pos (Or.inr rfl)
  have h45 : (45 : UInt8).toNat = 45 := rfl
  unfold Lib.parseIntB
  simp only [e]
  unfold Lib.parseUintB
  rw [if_neg hne]
  by_cases hb : numV ds ≤ 2 ^ 64 - 1
  · rw [p1 hb]
    refine ⟨fun hle => ?_, fun hgt => ?_⟩
    · simp only
      have q1 : ¬ (¬ (45 : UInt8).toNat = 45 ∧ 2 ^ (64 - 1) ≤ numV ds) := fun hx => hx.1 h45
      have q2 : ¬ ((45 : UInt8).toNat = 45 ∧ 2 ^ (64 - 1) < numV ds) := fun hx => by have := hx.2; omega
      rw [if_neg q1, if_neg q2, if_pos h45]
    · simp only
      have q1 : ¬ (¬ (45 : UInt8).toNat = 45 ∧ 2 ^ (64 - 1) ≤ numV ds) := fun hx => hx.1 h45
      rw [if_neg q1, if_pos ⟨h45, by omega⟩]
  · rw [p2 (by omega)]
    exact ⟨fun hle => by omega, fun _ => rfl⟩
theorem whole_parse {l : List UInt8} (h : wholeB l = true) : Lib.parseIntB 64 l = if fitB l then .ok (sv l) else .range := by
  unfold fitB
  rcases whole_cases h with ⟨ds, rfl, h1, h2⟩ | ⟨h1, h2⟩
  · have hs : sv (45 :: ds) = -(numV ds : Int) := by unfold sv; simp
    rw [hs]
    obtain ⟨p1, p2⟩ := parse_neg h1 h2
    by_cases hb : numV ds ≤ 9223372036854775808
    · rw [p1 hb, if_pos (by simp; omega)]
    · rw [p2 (by omega), if_neg (by simp; omega)]
  · have hs : sv l = (numV l : Int) := by unfold sv; rw [if_neg h2]
    rw [hs]
    obtain ⟨p1, p2⟩ := parse_num h1
    by_cases hb : numV l ≤ 9223372036854775807
    · rw [p1 hb, if_pos (by simp; omega)]
    · rw [p2 (by omega), if_neg (by simp; omega)]
theorem whole_long {l : List UInt8} (h : wholeB l = true) (hl : 20 < l.length) : fitB l = false := by
  cases hf : fitB l with
  | false => rfl
  | true =>
    unfold fitB at hf
    simp only [Bool.and_eq_true, decide_eq_true_eq] at hf
    have hi := congrArg List.length (whole_itoa h)
    by_cases hn : sv l < 0
    · obtain ⟨m, hm⟩ : ∃ m : Nat, sv l = -(m : Int) := ⟨(sv l).natAbs, by omega⟩
      rw [hm, Lib.itoa_neg m (by omega)] at hi
      have := decDigits_len 18 m (by omega)
      simp at hi; omega
    · obtain ⟨m, hm⟩ : ∃ m : Nat, sv l = (m : Int) := ⟨(sv l).toNat, by omega⟩
      rw [hm, Lib.itoa_nonneg] at hi
      have := decDigits_len 18 m (by omega)
      omega
/-- What Int returns of a whole number. -/
theorem intP_whole {l : List UInt8} {lo hi : Int} (h : wholeB l = true) (hlh : ¬ hi < lo) : intP l lo hi = if fitB l && decide (lo ≤ sv l) && decide (sv l ≤ hi) then (sv l, 0) else (0, 7) := by
  have hw : ¬ (numB (Lib.trimPrefix l [45]) = false ∨ l = [45, 48]) := by
    unfold wholeB at h
    rw [Bool.and_eq_true] at h
    rintro (e | e)
    · rw [e] at h; cases h.1
    · rw [e] at h; exact absurd h.2 (by decide)
  unfold intP
  rw [if_neg hlh, if_neg hw, whole_parse h]
  cases hf : fitB l with
  | false => simp
  | true =>
    simp only [if_true, Bool.true_and]
    by_cases h1 : sv l < lo ∨ hi < sv l
    · rw [if_pos h1, if_neg (by simp; omega)]
    · rw [if_neg h1, if_pos (by simp; omega)]
theorem intP_not {l : List UInt8} {lo hi : Int} (h : wholeB l = false) (hlh : ¬ hi < lo) : intP l lo hi = (0, 6) := by
  have hw : numB (Lib.trimPrefix l [45]) = false ∨ l = [45, 48] := by
    unfold wholeB at h
    rw [Bool.and_eq_false_iff] at h
    rcases h with h | h
    · exact .inl h
    · exact .inr (by simpa using h)
  unfold intP
  rw [if_neg hlh, if_pos hw]
end Go.Proofs.YtkbmdmipdcjjcaaGreatDoor
