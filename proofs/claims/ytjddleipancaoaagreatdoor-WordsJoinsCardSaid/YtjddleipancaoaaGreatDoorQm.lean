/- Plain facts on the quotation of a text: what undoing it gives. -/
import Derived.Test.YtjddleipancaoaaGreatDoorG
namespace Go.Proofs.YtjddleipancaoaaGreatDoor
open Go.Lib

theorem index2_ne {b : UInt8} (h : b ≠ 34) (l : List UInt8) : index (b :: l) [34, 34] = if index l [34, 34] == -1 then -1 else index l [34, 34] + 1 := by
  have h' : ¬ (34 = b) := fun e => h e.symm
  have : ¬ ([34, 34].isPrefixOf (b :: l) = true) := by simp [List.isPrefixOf, h']
  rw [index, if_neg this]
theorem index2_hit (l : List UInt8) : index (34 :: 34 :: l) [34, 34] = 0 := by simp [index, List.isPrefixOf]
theorem replace2_ne {b : UInt8} (h : b ≠ 34) (new : List UInt8) (k : Nat) (l : List UInt8) : replaceK [34, 34] new k (b :: l) = b :: replaceK [34, 34] new k l := by
  cases k with
  | zero => rfl
  | succ k =>
    rcases Int.lt_or_le (index l [34, 34]) 0 with hm | hp
    · have hi : index l [34, 34] = -1 := by have := index_ge l [34, 34]; omega
      have hi2 : index (b :: l) [34, 34] = -1 := by rw [index2_ne h, hi]; rfl
      simp [replaceK, hi, hi2]
    · obtain ⟨i, hi⟩ : ∃ i : Nat, index l [34, 34] = i := ⟨(index l [34, 34]).toNat, by omega⟩
      have hne : ¬ (index l [34, 34] == -1) = true := by simp; omega
      have hi2 : index (b :: l) [34, 34] = (i + 1 : Nat) := by rw [index2_ne h, if_neg hne, hi]; rfl
      rw [replaceK_hit _ _ _ _ _ hi, replaceK_hit _ _ _ _ _ hi2]
      simp
theorem count2_ne {b : UInt8} (h : b ≠ 34) (f : Nat) (l : List UInt8) : countFrom [34, 34] f (b :: l) = countFrom [34, 34] f l := by
  cases f with
  | zero => rfl
  | succ f =>
    rcases Int.lt_or_le (index l [34, 34]) 0 with hm | hp
    · have hi : index l [34, 34] = -1 := by have := index_ge l [34, 34]; omega
      have hi2 : index (b :: l) [34, 34] = -1 := by rw [index2_ne h, hi]; rfl
      simp [countFrom, hi, hi2]
    · obtain ⟨i, hi⟩ : ∃ i : Nat, index l [34, 34] = i := ⟨(index l [34, 34]).toNat, by omega⟩
      have hne : ¬ (index l [34, 34] == -1) = true := by simp; omega
      have hi2 : index (b :: l) [34, 34] = (i + 1 : Nat) := by rw [index2_ne h, if_neg hne, hi]; rfl
      have hne2 : ¬ (index (b :: l) [34, 34] == -1) = true := by rw [hi2]; simp; omega
      rw [countFrom, countFrom, if_neg hne, if_neg hne2, hi, hi2]
      simp
theorem count2_dbl : ∀ (o : List UInt8) (f : Nat), o.count 34 ≤ f → o.count 34 ≤ countFrom [34, 34] f (dblL o)
  | [], _, _ => by simp
  | b :: o, f, hf => by
    by_cases hb : b = 34
    · subst hb
      cases f with
      | zero => simp at hf
      | succ f =>
        have ih := count2_dbl o f (by simp at hf; omega)
        rw [dblL_cons, if_pos rfl]
        show _ ≤ countFrom [34, 34] (f + 1) (34 :: 34 :: dblL o)
        rw [countFrom, index2_hit, if_neg (by decide)]
        simp
        omega
    · rw [dblL_cons, if_neg hb]
      show _ ≤ countFrom [34, 34] f (b :: dblL o)
      rw [count2_ne hb, List.count_cons_of_ne (by simpa using hb)]
      exact count2_dbl o f (by rw [List.count_cons_of_ne (by simpa using hb)] at hf; exact hf)
theorem replace2_dbl : ∀ (o : List UInt8) (k : Nat), o.count 34 ≤ k → replaceK [34, 34] [34] k (dblL o) = o
  | [], k, _ => by cases k <;> simp [replaceK, dblL, index]
  | b :: o, k, hk => by
    by_cases hb : b = 34
    · subst hb
      cases k with
      | zero => simp at hk
      | succ k =>
        have ih := replace2_dbl o k (by simp at hk; omega)
        rw [dblL_cons, if_pos rfl]
        show replaceK [34, 34] [34] (k + 1) (34 :: 34 :: dblL o) = _
        rw [replaceK_hit _ _ _ _ 0 (index2_hit _)]
        simp [ih]
    · rw [dblL_cons, if_neg hb]
      show replaceK [34, 34] [34] k (b :: dblL o) = _
      rw [replace2_ne hb, replace2_dbl o k (by rw [List.count_cons_of_ne (by simpa using hb)] at hk; exact hk)]
theorem dbl_ge : ∀ o : List UInt8, o.length ≤ (dblL o).length
  | [] => Nat.le_refl _
  | b :: o => by
    have := dbl_ge o
    rw [dblL_cons]
    by_cases hb : b = 34 <;> simp [hb] <;> omega
theorem unreplace (o : List UInt8) : replaceAll (dblL o) [34, 34] [34] = o := by
  unfold replaceAll replace
  rw [if_neg (by simp)]
  apply replace2_dbl
  unfold replaceNum
  rw [if_pos (Or.inl (by omega))]
  unfold count
  exact count2_dbl o _ (by have := dbl_ge o; have := List.count_le_length (a := (34 : UInt8)) (l := o); omega)

/-- The reference's reading of what stands between the two outer marks. -/
def uq : List UInt8 → Option (List UInt8)
  | [] => some []
  | b :: r => if b = 34 then (match r with
    | c :: r' => if c = 34 then (uq r').map (34 :: ·) else none
    | [] => none) else (uq r).map (b :: ·)
theorem uq_ne {b : UInt8} (hb : b ≠ 34) (r : List UInt8) : uq (b :: r) = (uq r).map (b :: ·) := by
  cases r <;> simp [uq, hb]
theorem uq_dbl : ∀ t : List UInt8, uq (dblL t) = some t
  | [] => rfl
  | b :: t => by
    have ih := uq_dbl t
    rw [dblL_cons]
    by_cases hb : b = 34
    · subst hb; rw [if_pos rfl]; show uq (34 :: 34 :: dblL t) = _; simp [uq, ih]
    · rw [if_neg hb]; show uq (b :: dblL t) = _; rw [uq_ne hb, ih]; rfl
theorem uq_some : ∀ (n : Nat) (m o : List UInt8), m.length ≤ n → uq m = some o → dblL o = m
  | _, [], o, _, h => by simp [uq] at h; subst h; rfl
  | 0, b :: r, o, hn, _ => by simp at hn
  | n + 1, b :: r, o, hn, h => by
    by_cases hb : b = 34
    · subst hb
      cases r with
      | nil => simp [uq] at h
      | cons c r' =>
        by_cases hc : c = 34
        · subst hc
          simp only [uq, if_true, Option.map_eq_some_iff] at h
          obtain ⟨o', ho, rfl⟩ := h
          rw [dblL_cons, if_pos rfl, uq_some n r' o' (by simp at hn; omega) ho]
          rfl
        · simp [uq, hc] at h
    · rw [uq_ne hb] at h
      simp only [Option.map_eq_some_iff] at h
      obtain ⟨o', ho, rfl⟩ := h
      rw [dblL_cons, if_neg hb, uq_some n r o' (by simp at hn; omega) ho]
      rfl
def inL (l : List UInt8) : List UInt8 := (l.drop 1).take (l.length - 2)
theorem in_quote (t : List UInt8) : inL (quoteL t) = dblL t := by
  unfold inL quoteL
  rw [show (34 :: (dblL t ++ [34])).length - 2 = (dblL t).length by simp]
  simp
theorem unqT_in (l : List UInt8) : unqT l = replaceAll (inL l) [34, 34] [34] := rfl
theorem quote_len (t : List UInt8) : (quoteL t).length = (dblL t).length + 2 := by simp [quoteL]
theorem unq_quote (t : List UInt8) : unqT (quoteL t) = t := by rw [unqT_in, in_quote, unreplace]
theorem unqB_quote (t : List UInt8) : unqB (quoteL t) = textB t := by
  unfold unqB
  rw [unq_quote, quote_len]
  simp
theorem unqB_yes {l : List UInt8} (h : unqB l = true) : textB (unqT l) = true ∧ quoteL (unqT l) = l := by
  unfold unqB at h
  simp only [Bool.and_eq_true, beq_iff_eq] at h
  exact ⟨h.1.2, h.2⟩
theorem unq_none {l : List UInt8} (h : uq (inL l) = none) : unqB l = false := by
  cases hb : unqB l with
  | false => rfl
  | true =>
    have := (unqB_yes hb).2
    rw [← this, in_quote, uq_dbl] at h
    cases h
theorem unq_some {l o : List UInt8} (hl : l = 34 :: (inL l ++ [34])) (h : uq (inL l) = some o) : unqT l = o ∧ unqB l = textB o := by
  have hd := uq_some _ _ _ (Nat.le_refl _) h
  rw [← hd] at hl
  have e : l = quoteL o := hl
  rw [e]
  exact ⟨unq_quote o, unqB_quote o⟩
end Go.Proofs.YtjddleipancaoaaGreatDoor
