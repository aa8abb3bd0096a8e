/- Plain facts on numerals: their values, how they compare, what bounded makes of them. -/
import Derived.Test.YtkbmdmipdcjjcaaGreatDoorQ
namespace Go.Proofs.YtkbmdmipdcjjcaaGreatDoor
open Go.RowKit

def numV (l : List UInt8) : Nat := l.foldl (fun n c => n * 10 + (c.toNat - 48)) 0
def numA (acc : Nat) (l : List UInt8) : Nat := l.foldl (fun n c => n * 10 + (c.toNat - 48)) acc
theorem numA_ge : ∀ (l : List UInt8) (acc : Nat), acc ≤ numA acc l
  | [], acc => Nat.le_refl _
  | c :: r, acc => by
    have := numA_ge r (acc * 10 + (c.toNat - 48))
    show acc ≤ numA (acc * 10 + (c.toNat - 48)) r
    omega
theorem parseM_val (M : Nat) (hM : M ≤ 18446744073709551615) : ∀ (l : List UInt8) (acc : Nat), withinB 48 57 l = true → acc ≤ M →
    (numA acc l ≤ M → Lib.parseUintM M acc l = .ok (numA acc l)) ∧ (M < numA acc l → Lib.parseUintM M acc l = .range)
  | [], acc, _, ha => ⟨fun _ => rfl, fun h => absurd ha (by simp only [numA, List.foldl_nil] at h; omega)⟩
  | c :: r, acc, h, ha => by
    unfold withinB at h
    rw [List.all_cons, Bool.and_eq_true] at h
    have hc : 48 ≤ c.toNat ∧ c.toNat ≤ 57 := by have := h.1; simp [inB] at this; omega
    have hge := numA_ge r (acc * 10 + (c.toNat - 48))
    have he : numA acc (c :: r) = numA (acc * 10 + (c.toNat - 48)) r := rfl
    unfold Lib.parseUintM
    rw [if_pos hc, he]
    by_cases h1 : 1844674407370955162 ≤ acc
    · rw [if_pos h1]; exact ⟨fun hn => by omega, fun _ => rfl⟩
    · rw [if_neg h1]
      by_cases h2 : M < acc * 10 + (c.toNat - 48)
      · rw [if_pos h2]; exact ⟨fun hn => by omega, fun _ => rfl⟩
      · rw [if_neg h2]; exact parseM_val M hM r _ h.2 (by omega)

/-- A numeral without a sign is read as its value, or is beyond every int64. -/
theorem parse_num {l : List UInt8} (h : numB l = true) : (numV l ≤ 9223372036854775807 → Lib.parseIntB 64 l = .ok (numV l : Int)) ∧ (9223372036854775807 < numV l → Lib.parseIntB 64 l = .range) := by
  obtain ⟨h1, h2⟩ := numB_parts h
  cases l with
  | nil => exact absurd rfl h1
  | cons c r =>
    have hd : 48 ≤ c.toNat := by have h3 := h2; unfold withinB at h3; rw [List.all_cons, Bool.and_eq_true] at h3; have := h3.1; simp [inB] at this; omega
    have e : (if c.toNat = 43 ∨ c.toNat = 45 then r else c :: r) = c :: r := if_neg (by omega)
    obtain ⟨p1, p2⟩ := parseM_val (2 ^ 64 - 1) (by decide) (c :: r) 0 h2 (by decide)
    have hv : numA 0 (c :: r) = numV (c :: r) := rfl
    rw [hv] at p1 p2
    unfold Lib.parseIntB
    simp only [e]
    unfold Lib.parseUintB
    rw [if_neg h1]
    have hng : ¬ (c.toNat = 45) := by omega
    by_cases hb : numV (c :: r) ≤ 2 ^ 64 - 1
    · rw [p1 hb]
      refine ⟨fun hle => ?_, fun hgt => ?_⟩
      · simp only
        have q1 : ¬ (¬ c.toNat = 45 ∧ 2 ^ (64 - 1) ≤ numV (c :: r)) := fun hx => by have := hx.2; omega
        have q2 : ¬ (c.toNat = 45 ∧ 2 ^ (64 - 1) < numV (c :: r)) := fun hx => hng hx.1
        rw [if_neg q1, if_neg q2, if_neg hng]
      · simp only
        rw [if_pos ⟨hng, by omega⟩]
    · rw [p2 (by omega)]
      exact ⟨fun hle => by omega, fun _ => rfl⟩

theorem trim_num {l : List UInt8} (h : numB l = true) : Lib.trimPrefix l [45] = l := by
  rw [trim_neg]
  obtain ⟨h1, h2⟩ := numB_parts h
  cases l with
  | nil => rfl
  | cons c r =>
    have hd : 48 ≤ c.toNat := by have h3 := h2; unfold withinB at h3; rw [List.all_cons, Bool.and_eq_true] at h3; have := h3.1; simp [inB] at this; omega
    rw [if_neg]
    intro e
    simp at e
    rw [e] at hd
    exact absurd hd (by decide)
theorem num_not_neg0 {l : List UInt8} (h : numB l = true) : l ≠ [45, 48] := by
  intro e; rw [e] at h; exact absurd h (by decide)
theorem bnd_num {l : List UInt8} (h : numB l = true) : bndP l = ((min (numV l) 10000 : Nat) : Int) := by
  have hI : intP l 0 9999 = if numV l ≤ 9999 then ((numV l : Int), 0) else (0, 7) := by
    unfold intP
    rw [if_neg (by omega), if_neg (by rw [trim_num h]; rintro (e | e); · rw [h] at e; cases e
                                      exact num_not_neg0 h e)]
    obtain ⟨p1, p2⟩ := parse_num h
    by_cases hb : numV l ≤ 9223372036854775807
    · rw [p1 hb]
      simp only
      by_cases h9 : numV l ≤ 9999
      · rw [if_pos h9, if_neg (by omega)]
      · rw [if_neg h9, if_pos (by omega)]
    · rw [p2 (by omega), if_neg (by omega)]
  unfold bndP
  rw [hI]
  by_cases h9 : numV l ≤ 9999
  · rw [if_pos h9]; simp; omega
  · rw [if_neg h9]; simp; omega
theorem bnd_le (l : List UInt8) : ∃ n : Nat, bndP l = n ∧ n ≤ 10000 := by
  unfold bndP
  by_cases hc : (intP l 0 9999).2 = 0
  · rw [if_pos hc]
    have : 0 ≤ (intP l 0 9999).1 ∧ (intP l 0 9999).1 ≤ 9999 := by
      unfold intP at hc ⊢
      split
      · simp
      · split
        · simp
        · split
          · split
            · simp
            · simp; omega
          · simp
    exact ⟨(intP l 0 9999).1.toNat, by omega, by omega⟩
  · rw [if_neg hc]; exact ⟨10000, rfl, Nat.le_refl _⟩

theorem within_cons {c : UInt8} {r : List UInt8} (h : withinB 48 57 (c :: r) = true) : (48 ≤ c.toNat ∧ c.toNat ≤ 57) ∧ withinB 48 57 r = true := by
  unfold withinB at h
  rw [List.all_cons, Bool.and_eq_true] at h
  exact ⟨by have := h.1; simp [inB] at this; omega, h.2⟩
theorem numA_bounds : ∀ (l : List UInt8) (acc : Nat), withinB 48 57 l = true → acc * 10 ^ l.length ≤ numA acc l ∧ numA acc l < (acc + 1) * 10 ^ l.length
  | [], acc, _ => by simp [numA]
  | c :: r, acc, h => by
    obtain ⟨hc, hr⟩ := within_cons h
    have ih := numA_bounds r (acc * 10 + (c.toNat - 48)) hr
    have he : numA acc (c :: r) = numA (acc * 10 + (c.toNat - 48)) r := rfl
    rw [he, List.length_cons, Nat.pow_succ]
    refine ⟨Nat.le_trans ?_ ih.1, Nat.lt_of_lt_of_le ih.2 ?_⟩
    · rw [show acc * (10 ^ r.length * 10) = (acc * 10) * 10 ^ r.length by rw [Nat.mul_comm (10 ^ r.length) 10, Nat.mul_assoc]]
      exact Nat.mul_le_mul_right _ (by omega)
    · rw [show (acc + 1) * (10 ^ r.length * 10) = ((acc + 1) * 10) * 10 ^ r.length by rw [Nat.mul_comm (10 ^ r.length) 10, Nat.mul_assoc]]
      exact Nat.mul_le_mul_right _ (by omega)
theorem less_num : ∀ (a b : List UInt8) (acc : Nat), a.length = b.length → withinB 48 57 a = true → withinB 48 57 b = true → Op.bytesLess a b = true → numA acc a < numA acc b
  | [], [], _, _, _, _, h => by simp [Op.bytesLess] at h
  | [], _ :: _, _, h, _, _, _ => by simp at h
  | _ :: _, [], _, h, _, _, _ => by simp at h
  | c :: r, d :: s, acc, hl, ha, hb, h => by
    obtain ⟨hc, hr⟩ := within_cons ha
    obtain ⟨hd, hs⟩ := within_cons hb
    have hl' : r.length = s.length := by simpa using hl
    have e1 : numA acc (c :: r) = numA (acc * 10 + (c.toNat - 48)) r := rfl
    have e2 : numA acc (d :: s) = numA (acc * 10 + (d.toNat - 48)) s := rfl
    rw [e1, e2]
    simp only [Op.bytesLess, Bool.or_eq_true, Bool.and_eq_true, decide_eq_true_eq, beq_iff_eq] at h
    rcases h with h | ⟨h1, h2⟩
    · have hlt : c.toNat < d.toNat := UInt8.lt_iff_toNat_lt.1 h
      have b1 := (numA_bounds r (acc * 10 + (c.toNat - 48)) hr).2
      have b2 := (numA_bounds s (acc * 10 + (d.toNat - 48)) hs).1
      refine Nat.lt_of_lt_of_le b1 (Nat.le_trans ?_ b2)
      rw [hl']
      exact Nat.mul_le_mul_right _ (by omega)
    · rw [h1]; exact less_num r s _ hl' hr hs h2
theorem ltB_num {a b : List UInt8} (ha : numB a = true) (hb : numB b = true) (h : ltB a b = true) : numV a < numV b := by
  obtain ⟨a1, a2⟩ := numB_parts ha
  obtain ⟨b1, b2⟩ := numB_parts hb
  unfold ltB at h
  simp only [Bool.or_eq_true, Bool.and_eq_true, decide_eq_true_eq] at h
  rcases h with h | ⟨h1, h2⟩
  · have k1 := (numA_bounds a 0 a2).2
    have hv1 : numA 0 a = numV a := rfl
    rw [hv1] at k1
    cases b with
    | nil => exact absurd rfl b1
    | cons d s =>
      obtain ⟨hd, hs⟩ := within_cons b2
      have hne : d ≠ 48 := by
        intro e
        unfold numB at hb
        simp only [Bool.and_eq_true, Bool.or_eq_true] at hb
        rcases hb.2 with hx | hx
        · simp [e] at hx
        · simp [e] at hx
          subst hx
          have : a.length = 0 := by simp at h; exact h ▸ rfl
          exact a1 (List.eq_nil_of_length_eq_zero this)
      have hd1 : 49 ≤ d.toNat := by
        have : d.toNat ≠ 48 := fun e => hne (UInt8.toNat.inj e)
        omega
      have k2 := (numA_bounds s (0 * 10 + (d.toNat - 48)) hs).1
      have hv2 : numA (0 * 10 + (d.toNat - 48)) s = numV (d :: s) := rfl
      rw [hv2] at k2
      have hp : 10 ^ a.length ≤ 10 ^ s.length := Nat.pow_le_pow_right (by omega) (by simp at h; omega)
      have : 1 * 10 ^ s.length ≤ (0 * 10 + (d.toNat - 48)) * 10 ^ s.length := Nat.mul_le_mul_right _ (by omega)
      omega
  · exact less_num a b 0 h1 a2 b2 h2

/-- An item that has the form is three numbers that expand can take. -/
theorem itm_ok {l : List UInt8} (h : (itmP l).2 = true) : ∃ x : NItm, (itmP l).1 = toI x ∧ okN x := by
  unfold itmP at h ⊢
  split at h
  · rename_i h1
    rw [if_pos h1]
    simp only [Bool.and_eq_true] at h
    obtain ⟨⟨n1, n2⟩, n3⟩ := h
    have hlt := ltB_num n1 n2 n3
    rw [bnd_num n1, bnd_num n2]
    exact ⟨(1, min (numV (cutHead 45 l)) 10000, min (numV (cutTail 45 l)) 10000), rfl, by show (1 : Nat) ≤ 10000; decide, by show min _ _ ≤ min _ _; omega, Nat.min_le_right _ _⟩
  · rename_i h1
    rw [if_neg h1]
    split at h
    · rename_i h2
      rw [if_pos h2]
      obtain ⟨m, hm, hm2⟩ := bnd_le (cutHead 120 l)
      obtain ⟨n, hn, hn2⟩ := bnd_le (cutTail 120 l)
      rw [hm, hn]
      exact ⟨(m, n, n), rfl, hm2, Nat.le_refl _, hn2⟩
    · rename_i h2
      rw [if_neg h2]
      obtain ⟨n, hn, hn2⟩ := bnd_le l
      rw [hn]
      exact ⟨(1, n, n), rfl, by show (1 : Nat) ≤ 10000; decide, Nat.le_refl _, hn2⟩
theorem itemsGo_ok : ∀ (l : List (List UInt8)) (is : List Itm), itemsGo l = some is → is.length = l.length ∧ ∃ xs : List NItm, is = xs.map toI ∧ ∀ x ∈ xs, okN x
  | [], is, h => by simp [itemsGo] at h; subst h; exact ⟨rfl, [], rfl, fun _ hx => by cases hx⟩
  | x :: r, is, h => by
    unfold itemsGo at h
    split at h
    · rename_i hok
      cases hr : itemsGo r with
      | none => rw [hr] at h; cases h
      | some js =>
        rw [hr] at h
        simp at h
        subst h
        obtain ⟨hl, xs, rfl, hx⟩ := itemsGo_ok r js hr
        obtain ⟨y, hy, hy2⟩ := itm_ok hok
        refine ⟨by simp [hl], y :: xs, by rw [hy]; rfl, fun z hz => ?_⟩
        rcases List.mem_cons.1 hz with rfl | hz
        · exact hy2
        · exact hx z hz
    · cases h
theorem itemsP_ok {l : List UInt8} {is : List Itm} (h : itemsP l = some is) : is.length ≤ l.length + 1 ∧ ∃ xs : List NItm, is = xs.map toI ∧ ∀ x ∈ xs, okN x := by
  unfold itemsP at h
  split at h
  · simp at h; subst h; exact ⟨Nat.zero_le _, [], rfl, fun _ hx => by cases hx⟩
  · obtain ⟨h1, h2⟩ := itemsGo_ok _ _ h
    refine ⟨?_, h2⟩
    rw [h1, splitL_length]
    have := List.count_le_length (a := (44 : UInt8)) (l := l)
    omega
end Go.Proofs.YtkbmdmipdcjjcaaGreatDoor
