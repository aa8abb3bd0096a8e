/- Plain facts on items and their texts: what is written is read as it was, and the other way round. -/
import Derived.Test.YtkbmdmipdcjjcaaGreatDoorNM
import Derived.Test.YtkbmdmipdcjjcaaGreatDoorU
namespace Go.Proofs.YtkbmdmipdcjjcaaGreatDoor
open Go.RowKit

theorem bl_irr : ∀ a : List UInt8, Op.bytesLess a a = false
  | [] => rfl
  | a :: x => by simp [Op.bytesLess, bl_irr x]
theorem bl_tri : ∀ a b : List UInt8, Op.bytesLess a b = true ∨ a = b ∨ Op.bytesLess b a = true
  | [], [] => Or.inr (Or.inl rfl)
  | [], _ :: _ => Or.inl rfl
  | _ :: _, [] => Or.inr (Or.inr rfl)
  | a :: x, b :: y => by
    have ih := bl_tri x y
    rcases Nat.lt_trichotomy a.toNat b.toNat with h | h | h
    · exact Or.inl (by simp [Op.bytesLess, UInt8.lt_iff_toNat_lt, h])
    · have e : a = b := UInt8.toNat.inj h
      subst e
      rcases ih with h1 | h1 | h1
      · exact Or.inl (by simp [Op.bytesLess, h1])
      · exact Or.inr (Or.inl (by rw [h1]))
      · exact Or.inr (Or.inr (by simp [Op.bytesLess, h1]))
    · exact Or.inr (Or.inr (by simp [Op.bytesLess, UInt8.lt_iff_toNat_lt, h]))
theorem bl_trans : ∀ a b c : List UInt8, Op.bytesLess a b = true → Op.bytesLess b c = true → Op.bytesLess a c = true
  | _, [], _, h, _ => by simp [Op.bytesLess] at h
  | _, _ :: _, [], _, h => by simp [Op.bytesLess] at h
  | [], _ :: _, _ :: _, _, _ => rfl
  | a :: x, b :: y, c :: z, h1, h2 => by
    simp only [Op.bytesLess, Bool.or_eq_true, decide_eq_true_eq, Bool.and_eq_true, beq_iff_eq, UInt8.lt_iff_toNat_lt] at h1 h2 ⊢
    rcases h1 with h1 | ⟨rfl, h1⟩
    · rcases h2 with h2 | ⟨rfl, _⟩
      · exact Or.inl (by omega)
      · exact Or.inl h1
    · rcases h2 with h2 | ⟨rfl, h2⟩
      · exact Or.inl h2
      · exact Or.inr ⟨rfl, bl_trans x y z h1 h2⟩
theorem bl_app (c : List UInt8) (a b : List UInt8) : Op.bytesLess (c ++ a) (c ++ b) = Op.bytesLess a b := by
  induction c with
  | nil => rfl
  | cons x c ih => simp [Op.bytesLess, ih]
theorem ltB_iff (a b : List UInt8) : ltB a b = true ↔ a.length < b.length ∨ (a.length = b.length ∧ Op.bytesLess a b = true) := by
  unfold ltB; simp
theorem ltB_irr (a : List UInt8) : ltB a a = false := by unfold ltB; simp [bl_irr]
theorem ltB_tri (a b : List UInt8) : ltB a b = true ∨ a = b ∨ ltB b a = true := by
  rcases Nat.lt_trichotomy a.length b.length with h | h | h
  · exact Or.inl ((ltB_iff a b).2 (Or.inl h))
  · rcases bl_tri a b with h1 | h1 | h1
    · exact Or.inl ((ltB_iff a b).2 (Or.inr ⟨h, h1⟩))
    · exact Or.inr (Or.inl h1)
    · exact Or.inr (Or.inr ((ltB_iff b a).2 (Or.inr ⟨h.symm, h1⟩)))
  · exact Or.inr (Or.inr ((ltB_iff b a).2 (Or.inl h)))
theorem ltB_trans {a b c : List UInt8} (h1 : ltB a b = true) (h2 : ltB b c = true) : ltB a c = true := by
  rw [ltB_iff] at *
  rcases h1 with h1 | ⟨e1, h1⟩
  · rcases h2 with h2 | ⟨e2, _⟩
    · exact Or.inl (by omega)
    · exact Or.inl (by omega)
  · rcases h2 with h2 | ⟨e2, h2⟩
    · exact Or.inl (by omega)
    · exact Or.inr ⟨by omega, bl_trans _ _ _ h1 h2⟩
/-- a is no later than b. -/
def leB (a b : List UInt8) : Prop := ltB b a = false
theorem leB_refl (a : List UInt8) : leB a a := ltB_irr a
theorem leB_of {a b : List UInt8} (h : ltB a b = true) : leB a b := by
  unfold leB
  cases h2 : ltB b a with
  | false => rfl
  | true => have := ltB_trans h h2; rw [ltB_irr] at this; cases this
theorem leB_trans {a b c : List UInt8} (h1 : leB a b) (h2 : leB b c) : leB a c := by
  rcases ltB_tri a b with h | h | h
  · rcases ltB_tri b c with k | k | k
    · exact leB_of (ltB_trans h k)
    · rw [← k]; exact h1
    · unfold leB at h2; rw [h2] at k; cases k
  · rw [h]; exact h2
  · unfold leB at h1; rw [h1] at h; cases h
theorem leB_app (c : List UInt8) {a b : List UInt8} (h : leB a b) : leB (c ++ a) (c ++ b) := by
  unfold leB ltB at *
  simpa [bl_app] using h

/-- The digits of a number. -/
theorem dec_byte (n : Nat) : ∀ b ∈ Lib.decDigits n, 48 ≤ b.toNat ∧ b.toNat ≤ 57 := by
  have : ∀ K u : Nat, u ≤ K → ∀ b ∈ Lib.decDigits u, 48 ≤ b.toNat ∧ b.toNat ≤ 57 := by
    intro K
    induction K with
    | zero =>
      intro u hu b hb
      obtain rfl : u = 0 := by omega
      rw [dec_small 0 (by omega)] at hb
      simp at hb; subst hb; decide
    | succ K ih =>
      intro u hu b hb
      by_cases h : u < 10
      · rw [dec_small u h] at hb
        have hb' : b = UInt8.ofNat (48 + u) := by simpa using hb
        rw [hb', dig_nat u h]; omega
      · rw [dec_big u h, dec_small (u % 10) (by omega), List.mem_append] at hb
        rcases hb with hb | hb
        · exact ih (u / 10) (by omega) b hb
        · have hb' : b = UInt8.ofNat (48 + u % 10) := by simpa using hb
          rw [hb', dig_nat _ (by omega)]; omega
  exact this n n (Nat.le_refl _)
theorem dec_ne (n : Nat) : Lib.decDigits n ≠ [] := by
  by_cases h : n < 10
  · rw [dec_small n h]; simp
  · rw [dec_big n h, dec_small (n % 10) (by omega)]; simp
theorem dec_headL : ∀ K n : Nat, n ≤ K → 0 < n → (Lib.decDigits n).headD 0 ≠ 48
  | 0, n, h, h0 => by omega
  | K + 1, n, h, h0 => by
    by_cases hn : n < 10
    · rw [dec_small n hn]
      intro e
      have e' : UInt8.ofNat (48 + n) = 48 := e
      have := congrArg UInt8.toNat e'
      rw [dig_nat n hn] at this
      have h48 : (48 : UInt8).toNat = 48 := rfl
      omega
    · rw [dec_big n hn]
      have ih := dec_headL K (n / 10) (by omega) (by omega)
      cases hd : Lib.decDigits (n / 10) with
      | nil => exact absurd hd (dec_ne _)
      | cons a r => rw [hd] at ih; exact ih
theorem dec_numL (n : Nat) : numB (Lib.decDigits n) = true := by
  unfold numB withinB inB
  have h1 : (Lib.decDigits n).isEmpty = false := by
    cases h : Lib.decDigits n with
    | nil => exact absurd h (dec_ne n)
    | cons a r => rfl
  have h2 : ((Lib.decDigits n).all fun c => decide ((48 : Int) ≤ (c.toNat : Int)) && decide ((c.toNat : Int) ≤ 57)) = true := by
    rw [List.all_eq_true]
    intro b hb
    have := dec_byte n b hb
    simp; omega
  rw [h1, h2]
  by_cases h0 : n = 0
  · subst h0
    rw [dec_small 0 (by omega)]
    decide
  · have := dec_headL n n (Nat.le_refl _) (by omega)
    rw [decide_eq_false this]
    rfl
theorem dec_V (n : Nat) : numV (Lib.decDigits n) = n := numV_dec n n (Nat.le_refl _)
theorem V_dec {l : List UInt8} (h : numB l = true) : Lib.decDigits (numV l) = l := dec_num l.length l (Nat.le_refl _) h
theorem dec_bnd (n : Nat) (h : n ≤ 10000) : bndP (Lib.decDigits n) = (n : Int) := by
  rw [bnd_num (dec_numL n), dec_V]
  congr 1
  omega
theorem dec_lt {a b : Nat} (h : a < b) : ltB (Lib.decDigits a) (Lib.decDigits b) = true := by
  rcases ltB_tri (Lib.decDigits a) (Lib.decDigits b) with h1 | h1 | h1
  · exact h1
  · have := congrArg numV h1
    rw [dec_V, dec_V] at this
    omega
  · have := ltB_num (dec_numL b) (dec_numL a) h1
    rw [dec_V, dec_V] at this
    omega

theorem cut_here {c : UInt8} : ∀ (a b : List UInt8), c ∉ a → cutHead c (a ++ c :: b) = a ∧ cutTail c (a ++ c :: b) = b ∧ Lib.contains (a ++ c :: b) [c] = true
  | [], b, _ => by
    refine ⟨by simp [cutHead], by simp [cutTail], ?_⟩
    rw [contains_one]; simp
  | x :: a, b, h => by
    have hx : x ≠ c := fun e => h (by simp [e])
    obtain ⟨h1, h2, h3⟩ := cut_here (c := c) a b (fun e => h (List.mem_cons_of_mem _ e))
    refine ⟨by show cutHead c (x :: (a ++ c :: b)) = _; simp [cutHead, hx, h1], by show cutTail c (x :: (a ++ c :: b)) = _; simp [cutTail, hx, h2], ?_⟩
    rw [contains_one]; simp
theorem cut_not {c : UInt8} {a : List UInt8} (h : c ∉ a) : Lib.contains a [c] = false := by
  rw [contains_one]
  simp only [List.any_eq_false, beq_iff_eq]
  intro b hb e
  exact h (e ▸ hb)
theorem cut_join {c : UInt8} : ∀ {l : List UInt8}, Lib.contains l [c] = true → l = cutHead c l ++ c :: cutTail c l
  | [], h => by rw [contains_one] at h; simp at h
  | b :: l, h => by
    by_cases hb : b = c
    · subst hb; simp [cutHead, cutTail]
    · have h' : Lib.contains l [c] = true := by
        rw [contains_one] at h ⊢
        simpa [hb] using h
      have ih := cut_join h'
      simp only [cutHead, cutTail, if_neg hb, List.cons_append]
      rw [← ih]

/-- An item that may be written: times, from, to. -/
def vI (x : NItm) : Prop := (x.1 = 1 ∧ x.2.1 ≤ x.2.2) ∨ (2 ≤ x.1 ∧ x.2.1 = x.2.2)
def itext (x : NItm) : List UInt8 := if x.2.1 < x.2.2 then Lib.decDigits x.2.1 ++ 45 :: Lib.decDigits x.2.2 else if x.1 = 1 then Lib.decDigits x.2.1 else Lib.decDigits x.1 ++ 120 :: Lib.decDigits x.2.1
theorem dec_no {n : Nat} {c : UInt8} (h : c.toNat < 48 ∨ 57 < c.toNat) : c ∉ Lib.decDigits n := fun e => by have := dec_byte n c e; omega
theorem itm_itext {x : NItm} (hv : vI x) (h1 : x.1 ≤ 9999) (h2 : x.2.2 ≤ 9999) : itmP (itext x) = (toI x, true) := by
  obtain ⟨a, b, c⟩ := x
  simp only at h1 h2
  unfold itext
  simp only
  by_cases hbc : b < c
  · have ha : a = 1 := by
      rcases hv with h | h
      · exact h.1
      · have : b = c := h.2; omega
    subst ha
    rw [if_pos hbc]
    obtain ⟨k1, k2, k3⟩ := cut_here (c := 45) (Lib.decDigits b) (Lib.decDigits c) (dec_no (by decide))
    unfold itmP
    rw [if_pos k3, k1, k2, dec_numL, dec_numL, dec_lt hbc, dec_bnd b (by omega), dec_bnd c (by omega)]
    rfl
  · rw [if_neg hbc]
    have hbe : b = c := by
      rcases hv with h | h
      · have : b ≤ c := h.2; omega
      · exact h.2
    subst hbe
    by_cases ha : a = 1
    · subst ha
      rw [if_pos rfl]
      unfold itmP
      rw [if_neg (by rw [cut_not (dec_no (by decide))]; simp), if_neg (by rw [cut_not (dec_no (by decide))]; simp), dec_numL, dec_bnd b (by omega)]
      rfl
    · rw [if_neg ha]
      have ha2 : 2 ≤ a := by
        rcases hv with h | h
        · exact absurd h.1 ha
        · exact h.1
      obtain ⟨k1, k2, k3⟩ := cut_here (c := 120) (Lib.decDigits a) (Lib.decDigits b) (dec_no (by decide))
      have h45 : (45 : UInt8) ∉ Lib.decDigits a ++ 120 :: Lib.decDigits b := by
        intro e
        rcases List.mem_append.1 e with e | e
        · exact dec_no (by decide) e
        · rcases List.mem_cons.1 e with e | e
          · exact absurd e (by decide)
          · exact dec_no (by decide) e
      have h49 : ltB [49] (Lib.decDigits a) = true := by
        have := dec_lt (a := 1) (b := a) (by omega)
        rwa [dec_small 1 (by omega)] at this
      unfold itmP
      rw [if_neg (by rw [cut_not h45]; simp), if_pos k3, k1, k2, dec_numL, dec_numL, h49, dec_bnd a (by omega), dec_bnd b (by omega)]
      rfl
theorem bnd_exact {l : List UInt8} {n : Nat} (h : numB l = true) (hb : bndP l = (n : Int)) (hn : n ≤ 9999) : Lib.decDigits n = l ∧ numV l = n := by
  rw [bnd_num h] at hb
  have : numV l = n := by omega
  rw [← this]
  exact ⟨V_dec h, rfl⟩
theorem itext_itm {l : List UInt8} {x : NItm} (h : itmP l = (toI x, true)) (h1 : x.1 ≤ 9999) (h2 : x.2.1 ≤ x.2.2) (h3 : x.2.2 ≤ 9999) : vI x ∧ itext x = l := by
  obtain ⟨a, b, c⟩ := x
  simp only at h1 h2 h3
  unfold itmP at h
  by_cases c45 : Lib.contains l [45] = true
  · rw [if_pos c45] at h
    simp only [Prod.mk.injEq, toI, Bool.and_eq_true] at h
    obtain ⟨⟨e1, e2, e3⟩, ⟨n1, n2⟩, hl⟩ := h
    obtain ⟨d1, v1⟩ := bnd_exact n1 e2 (by omega)
    obtain ⟨d2, v2⟩ := bnd_exact n2 e3 (by omega)
    have hlt := ltB_num n1 n2 hl
    rw [v1, v2] at hlt
    refine ⟨Or.inl ⟨by show a = 1; omega, h2⟩, ?_⟩
    unfold itext
    simp only
    rw [if_pos hlt, d1, d2]
    exact (cut_join c45).symm
  · rw [if_neg c45] at h
    by_cases c120 : Lib.contains l [120] = true
    · rw [if_pos c120] at h
      simp only [Prod.mk.injEq, toI, Bool.and_eq_true] at h
      obtain ⟨⟨e1, e2, e3⟩, ⟨n1, n2⟩, hl⟩ := h
      obtain ⟨d1, v1⟩ := bnd_exact n1 e1 (by omega)
      obtain ⟨d2, v2⟩ := bnd_exact n2 e2 (by omega)
      have hlt := ltB_num (a := [49]) (by decide) n1 hl
      rw [v1] at hlt
      have ha : 1 < a := hlt
      have hbc : b = c := by have := e2.symm.trans e3; omega
      refine ⟨Or.inr ⟨ha, hbc⟩, ?_⟩
      unfold itext
      simp only
      rw [if_neg (by omega), if_neg (by omega), d1, d2]
      exact (cut_join c120).symm
    · rw [if_neg c120] at h
      simp only [Prod.mk.injEq, toI] at h
      obtain ⟨⟨e1, e2, e3⟩, n1⟩ := h
      obtain ⟨d1, v1⟩ := bnd_exact n1 e2 (by omega)
      have hbc : b = c := by have := e2.symm.trans e3; omega
      refine ⟨Or.inl ⟨by show a = 1; omega, h2⟩, ?_⟩
      unfold itext
      simp only
      rw [if_neg (by omega), if_pos (by omega), d1]

def joinC : List (List UInt8) → List UInt8
  | [] => []
  | [a] => a
  | a :: b :: r => a ++ 44 :: joinC (b :: r)
def txt (xs : List NItm) : List UInt8 := joinC (xs.map itext)
theorem joinC_split : ∀ l : List UInt8, joinC (splitL 44 l) = l
  | [] => rfl
  | b :: l => by
    have ih := joinC_split l
    have hne := splitL_ne 44 l
    by_cases hb : b = 44
    · subst hb
      have e : splitL 44 (44 :: l) = [] :: splitL 44 l := by simp [splitL]
      rw [e, hne]
      show [] ++ 44 :: joinC ((splitL 44 l).headD [] :: (splitL 44 l).tail) = _
      rw [← hne, ih]; rfl
    · have e : splitL 44 (b :: l) = (b :: (splitL 44 l).headD []) :: (splitL 44 l).tail := by simp [splitL, hb]
      rw [e]
      rw [hne] at ih
      cases ht : (splitL 44 l).tail with
      | nil =>
        rw [ht] at ih
        show b :: (splitL 44 l).headD [] = _
        rw [show (splitL 44 l).headD [] = l from ih]
      | cons c r =>
        rw [ht] at ih
        show (b :: (splitL 44 l).headD []) ++ 44 :: joinC (c :: r) = _
        rw [List.cons_append]
        congr 1
theorem split_one {a : List UInt8} : 44 ∉ a → splitL 44 a = [a] := by
  induction a with
  | nil => intro _; rfl
  | cons b a ih =>
    intro h
    have hb : b ≠ 44 := fun e => h (by simp [e])
    have := ih (fun e => h (by simp [e]))
    simp [splitL, hb, this]
theorem split_app {a : List UInt8} (b : List UInt8) : 44 ∉ a → splitL 44 (a ++ 44 :: b) = a :: splitL 44 b := by
  induction a with
  | nil => intro _; simp [splitL]
  | cons c a ih =>
    intro h
    have hc : c ≠ 44 := fun e => h (by simp [e])
    have := ih (fun e => h (by simp [e]))
    simp [splitL, hc, this]
theorem split_join : ∀ l : List (List UInt8), l ≠ [] → (∀ a ∈ l, 44 ∉ a) → splitL 44 (joinC l) = l
  | [], h, _ => absurd rfl h
  | [a], _, h => split_one (h a (by simp))
  | a :: b :: r, _, h => by
    have ih := split_join (b :: r) (by simp) (fun x hx => h x (by simp at hx ⊢; exact Or.inr hx))
    show splitL 44 (a ++ 44 :: joinC (b :: r)) = _
    rw [split_app _ (h a (by simp)), ih]
theorem itext_44 (x : NItm) : 44 ∉ itext x := by
  unfold itext
  intro e
  split at e
  · rcases List.mem_append.1 e with e | e
    · exact dec_no (by decide) e
    · rcases List.mem_cons.1 e with e | e
      · exact absurd e (by decide)
      · exact dec_no (by decide) e
  · split at e
    · exact dec_no (by decide) e
    · rcases List.mem_append.1 e with e | e
      · exact dec_no (by decide) e
      · rcases List.mem_cons.1 e with e | e
        · exact absurd e (by decide)
        · exact dec_no (by decide) e
theorem itext_ne (x : NItm) : itext x ≠ [] := by
  unfold itext
  split
  · simp
  · split
    · exact dec_ne _
    · simp
theorem txt_ne {x : NItm} {r : List NItm} : txt (x :: r) ≠ [] := by
  cases r with
  | nil => exact itext_ne x
  | cons y r =>
    show itext x ++ 44 :: _ ≠ []
    simp
theorem txt_cons (x y : NItm) (r : List NItm) : txt (x :: y :: r) = itext x ++ 44 :: txt (y :: r) := rfl
def good (x : NItm) : Prop := vI x ∧ x.1 ≤ 9999 ∧ x.2.2 ≤ 9999
theorem itemsGo_txt : ∀ xs : List NItm, (∀ x ∈ xs, good x) → itemsGo (xs.map itext) = some (xs.map toI)
  | [], _ => rfl
  | x :: xs, h => by
    have hx := h x (by simp)
    have ih := itemsGo_txt xs (fun y hy => h y (by simp [hy]))
    show itemsGo (itext x :: xs.map itext) = _
    unfold itemsGo
    rw [itm_itext hx.1 hx.2.1 hx.2.2]
    simp [ih]
theorem itemsP_txt (xs : List NItm) (h : ∀ x ∈ xs, good x) : itemsP (txt xs) = some (xs.map toI) := by
  cases xs with
  | nil => rfl
  | cons x r =>
    unfold itemsP
    rw [if_neg txt_ne]
    unfold txt
    rw [split_join _ (by simp) (fun a ha => by obtain ⟨y, _, rfl⟩ := List.mem_map.1 ha; exact itext_44 y)]
    exact itemsGo_txt _ h
theorem par_txt (xs : List NItm) (h : ∀ x ∈ xs, good x) (hs : sumN xs ≤ 500) (hl : (txt xs).length ≤ 2500) : parP (txt xs) = (expN xs, 0) := by
  unfold parP
  rw [if_neg (by omega), itemsP_txt xs h]
  have h1 : ((xs.map toI).any fun i => decide (9999 < i.2.2)) = false := by
    rw [List.any_eq_false]
    intro i hi
    obtain ⟨x, hx, rfl⟩ := List.mem_map.1 hi
    have := (h x hx).2.2
    intro e
    have e' : (9999 : Int) < ((x.2.2 : Nat) : Int) := of_decide_eq_true e
    omega
  have h2 : (xs.map toI).map toN = xs := by
    rw [List.map_map]
    exact (List.map_congr_left fun x _ => toN_toI x).trans (List.map_id xs)
  simp only [h1, h2, if_neg (show ¬ 500 < sumN xs by omega)]
  rfl
theorem sumN_mem {xs : List NItm} {x : NItm} (h : x ∈ xs) : numN x ≤ sumN xs := by
  induction xs with
  | nil => simp at h
  | cons y xs ih =>
    show _ ≤ numN y + sumN xs
    rcases List.mem_cons.1 h with rfl | h
    · omega
    · have := ih h; omega
theorem itemsGo_good : ∀ (l : List (List UInt8)) (is : List Itm), itemsGo l = some is → (∀ i ∈ is, i.2.2 ≤ 9999) → sumN (is.map toN) ≤ 500 → ∃ xs : List NItm, is = xs.map toI ∧ (∀ x ∈ xs, good x) ∧ xs.map itext = l
  | [], is, h, _, _ => by
    simp only [itemsGo, Option.some.injEq] at h
    subst h
    exact ⟨[], rfl, fun x hx => by simp at hx, rfl⟩
  | p :: r, is, h, h9, hs => by
    unfold itemsGo at h
    by_cases hp : (itmP p).2 = true
    · rw [if_pos hp] at h
      simp only [Option.map_eq_some_iff] at h
      obtain ⟨js, hj, rfl⟩ := h
      obtain ⟨x, hx, hok⟩ := itm_ok hp
      have hsum : numN x + sumN (js.map toN) ≤ 500 := by
        have e : sumN (((itmP p).1 :: js).map toN) = numN (toN (itmP p).1) + sumN (js.map toN) := rfl
        rw [e, hx, toN_toI] at hs
        exact hs
      obtain ⟨xs, rfl, hg, ht⟩ := itemsGo_good r js hj (fun i hi => h9 i (by simp [hi])) (by omega)
      have hx9 := h9 _ (List.mem_cons_self)
      rw [hx] at hx9
      have hx9' : x.2.2 ≤ 9999 := by have : ((x.2.2 : Nat) : Int) ≤ 9999 := hx9; omega
      have hok2 : x.2.1 ≤ x.2.2 := hok.2.1
      have hx1 : x.1 ≤ 9999 := by
        have h1 : x.1 * 1 ≤ x.1 * (x.2.2 - x.2.1 + 1) := Nat.mul_le_mul_left _ (by omega)
        unfold numN at hsum
        omega
      have heq : itmP p = (toI x, true) := Prod.ext hx hp
      obtain ⟨v, t⟩ := itext_itm heq hx1 hok2 hx9'
      refine ⟨x :: xs, by rw [hx]; rfl, fun y hy => ?_, by rw [List.map_cons, t, ht]⟩
      rcases List.mem_cons.1 hy with rfl | hy
      · exact ⟨v, hx1, hx9'⟩
      · exact hg y hy
    · rw [if_neg hp] at h; cases h
/-- Whatever is read as a list is a text of items. -/
theorem par_good {l : List UInt8} {zs : List Int} (h : parP l = (zs, 0)) : ∃ xs : List NItm, (∀ x ∈ xs, good x) ∧ txt xs = l ∧ expN xs = zs ∧ sumN xs ≤ 500 ∧ l.length ≤ 2500 := by
  unfold parP at h
  by_cases h1 : 2500 < l.length
  · rw [if_pos h1] at h; simp at h
  · rw [if_neg h1] at h
    cases hi : itemsP l with
    | none => rw [hi] at h; simp at h
    | some is =>
      rw [hi] at h
      simp only at h
      by_cases h9 : (is.any fun i => decide (9999 < i.2.2)) = true
      · rw [if_pos h9] at h; simp at h
      · rw [if_neg h9] at h
        by_cases h5 : 500 < sumN (is.map toN)
        · rw [if_pos h5] at h; simp at h
        · rw [if_neg h5] at h
          have h9' : ∀ i ∈ is, i.2.2 ≤ 9999 := by
            intro i hi'
            have h10 : (is.any fun i => decide (9999 < i.2.2)) = false := by simpa using h9
            rw [List.any_eq_false] at h10
            have := h10 i hi'
            simp at this
            exact this
          unfold itemsP at hi
          by_cases hl : l = []
          · rw [if_pos hl] at hi
            simp only [Option.some.injEq] at hi
            subst hi
            refine ⟨[], fun x hx => by simp at hx, by rw [hl]; rfl, ?_, by decide, by omega⟩
            exact (Prod.mk.inj h).1
          · rw [if_neg hl] at hi
            obtain ⟨xs, rfl, hg, ht⟩ := itemsGo_good _ _ hi h9' (by omega)
            have h2 : (xs.map toI).map toN = xs := by
              rw [List.map_map]
              exact (List.map_congr_left fun x _ => toN_toI x).trans (List.map_id xs)
            rw [h2] at h h5
            refine ⟨xs, hg, ?_, (Prod.mk.inj h).1, by omega, by omega⟩
            unfold txt
            rw [ht, joinC_split]
end Go.Proofs.YtkbmdmipdcjjcaaGreatDoor
