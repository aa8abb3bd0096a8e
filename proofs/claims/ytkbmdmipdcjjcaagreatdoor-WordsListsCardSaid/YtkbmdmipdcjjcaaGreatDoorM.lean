/- Plain facts on lists of bytes: what replacing, splitting and cutting at one byte are. No program is named here. -/
import Derived.Lib.Replace
import Derived.Lib.SplitLaws
import Derived.Lib.IndexMore
import Derived.Lib.ParseIntB
namespace Go.Proofs.YtkbmdmipdcjjcaaGreatDoor
open Go.Lib

theorem index_nil (c : UInt8) : index [] [c] = -1 := by simp [index]
theorem index_cons_eq (c : UInt8) (l : List UInt8) : index (c :: l) [c] = 0 := by simp [index, List.isPrefixOf]
theorem index_cons_ne {b c : UInt8} (l : List UInt8) (h : b ≠ c) : index (b :: l) [c] = if index l [c] == -1 then -1 else index l [c] + 1 := by
  have : ¬ ([c].isPrefixOf (b :: l) = true) := by simp [List.isPrefixOf]; exact fun e => h e.symm
  rw [index, if_neg this]

theorem replaceK_cons_ne {b c : UInt8} (h : b ≠ c) (new : List UInt8) (k : Nat) (l : List UInt8) : replaceK [c] new k (b :: l) = b :: replaceK [c] new k l := by
  cases k with
  | zero => rfl
  | succ k =>
    rcases Int.lt_or_le (index l [c]) 0 with hm | hp
    · have hi : index l [c] = -1 := by have := index_ge l [c]; omega
      have hi2 : index (b :: l) [c] = -1 := by rw [index_cons_ne l h, hi]; rfl
      simp [replaceK, hi, hi2]
    · obtain ⟨i, hi⟩ : ∃ i : Nat, index l [c] = i := ⟨(index l [c]).toNat, by omega⟩
      have hne : ¬ (index l [c] == -1) = true := by simp; omega
      have hi2 : index (b :: l) [c] = (i + 1 : Nat) := by rw [index_cons_ne l h, if_neg hne, hi]; rfl
      rw [replaceK_hit _ _ _ _ _ hi, replaceK_hit _ _ _ _ _ hi2]
      simp

def dblL (l : List UInt8) : List UInt8 := l.flatMap fun c => if c = 34 then [34, 34] else [c]
theorem replaceK_dbl : ∀ (l : List UInt8) (k : Nat), l.count 34 ≤ k → replaceK [34] [34, 34] k l = dblL l
  | [], k, _ => by cases k <;> simp [replaceK, dblL, index]
  | b :: l, k, hk => by
    by_cases hb : b = 34
    · subst hb
      cases k with
      | zero => simp at hk
      | succ k =>
        rw [replaceK_hit _ _ _ _ 0 (index_cons_eq _ _)]
        have ih := replaceK_dbl l k (by simp at hk; omega)
        simp [dblL] at ih ⊢
        exact ih
    · rw [replaceK_cons_ne hb, replaceK_dbl l k (by rw [List.count_cons] at hk; simp [hb] at hk; exact hk)]
      simp [dblL, hb]
theorem replaceAll_dbl (l : List UInt8) : replaceAll l [34] [34, 34] = dblL l := by
  unfold replaceAll replace
  rw [if_neg (by simp)]
  apply replaceK_dbl
  unfold replaceNum
  rw [if_pos (Or.inl (by omega)), count_one]
  exact Nat.le_refl _


/-- A list cut at each c. -/
def splitL (c : UInt8) : List UInt8 → List (List UInt8)
  | [] => [[]]
  | b :: l => if b = c then [] :: splitL c l else ((b :: (splitL c l).headD []) :: (splitL c l).tail)
theorem splitL_ne (c : UInt8) (l : List UInt8) : splitL c l = (splitL c l).headD [] :: (splitL c l).tail := by
  cases l with
  | nil => rfl
  | cons b l => unfold splitL; split <;> rfl
theorem splitK_cons_ne {b c : UInt8} (h : b ≠ c) (k : Nat) (l : List UInt8) : splitK [c] 0 k (b :: l) = (b :: (splitK [c] 0 k l).headD []) :: (splitK [c] 0 k l).tail := by
  cases k with
  | zero => rfl
  | succ k =>
    rcases Int.lt_or_le (index l [c]) 0 with hm | hp
    · have hi : index l [c] = -1 := by have := index_ge l [c]; omega
      have hi2 : index (b :: l) [c] = -1 := by rw [index_cons_ne l h, hi]; rfl
      simp [splitK, hi, hi2]
    · obtain ⟨i, hi⟩ : ∃ i : Nat, index l [c] = i := ⟨(index l [c]).toNat, by omega⟩
      have hne : ¬ (index l [c] == -1) = true := by simp; omega
      have hi2 : index (b :: l) [c] = (i + 1 : Nat) := by rw [index_cons_ne l h, if_neg hne, hi]; rfl
      have hne2 : ¬ (index (b :: l) [c] == -1) = true := by rw [hi2]; simp; omega
      rw [splitK, if_neg hne2, splitK, if_neg hne, hi, hi2]
      simp
theorem splitK_all (c : UInt8) : ∀ l : List UInt8, splitK [c] 0 (l.count c) l = splitL c l
  | [] => rfl
  | b :: l => by
    by_cases hb : b = c
    · subst hb
      rw [List.count_cons_self, splitK, index_cons_eq, if_neg (by simp)]
      simp [splitL, splitK_all b l]
    · rw [splitK_cons_ne hb, List.count_cons_of_ne (fun e => hb (by simpa using e))]
      rw [splitK_all c l]
      conv => rhs; unfold splitL
      rw [if_neg hb]
theorem splitB_all_data (c : UInt8) (s : ByteArray) : (splitB ⟨#[c]⟩ 0 (countB s ⟨#[c]⟩) s).map (·.data.toList) = splitL c s.data.toList := by
  rw [splitB_data]
  show splitK [c] 0 (count s.data.toList [c]) s.data.toList = _
  rw [count_one]; exact splitK_all c _
theorem splitL_length (c : UInt8) : ∀ l : List UInt8, (splitL c l).length = l.count c + 1
  | [] => rfl
  | b :: l => by
    unfold splitL
    by_cases hb : b = c
    · subst hb; simp [splitL_length b l]
    · have := splitL_length c l
      rw [splitL_ne] at this
      simp [hb] at this ⊢
      exact this

def cutHead (c : UInt8) : List UInt8 → List UInt8
  | [] => []
  | b :: l => if b = c then [] else b :: cutHead c l
def cutTail (c : UInt8) : List UInt8 → List UInt8
  | [] => []
  | b :: l => if b = c then l else cutTail c l
theorem contains_one (c : UInt8) : ∀ l : List UInt8, contains l [c] = l.any (fun b => b == c)
  | [] => by simp [contains, index]
  | b :: l => by
    by_cases hb : b = c
    · subst hb; unfold contains; rw [index_cons_eq]; simp
    · have ih := contains_one c l
      unfold contains at ih ⊢
      rw [index_cons_ne l hb]
      by_cases hm : index l [c] = -1
      · rw [hm] at ih ⊢
        simp [hb] at ih ⊢
        exact fun x hx => ih x hx
      · have hne : ¬ (index l [c] == -1) = true := by simpa using hm
        have hge := index_ge l [c]
        rw [if_neg hne]
        have h0 : 0 ≤ index l [c] := by omega
        have h1 : 0 ≤ index l [c] + 1 := by omega
        simp only [h0, decide_true] at ih
        simp only [h1, decide_true, List.any_cons, ← ih, Bool.or_true]
theorem cut_one (c : UInt8) : ∀ l : List UInt8, cut l [c] = if contains l [c] then (cutHead c l, cutTail c l, true) else (l, [], false)
  | [] => by simp [cut, contains, index]
  | b :: l => by
    by_cases hb : b = c
    · subst hb; unfold cut contains; rw [index_cons_eq]; simp [cutHead, cutTail]
    · have ih := cut_one c l
      have hge := index_ge l [c]
      unfold cut contains at ih ⊢
      rw [index_cons_ne l hb]
      by_cases hm : index l [c] = -1
      · simp [hm]
      · have hne : ¬ (index l [c] == -1) = true := by simpa using hm
        rw [if_neg hne]
        have h0 : 0 ≤ index l [c] := by omega
        have h1 : 0 ≤ index l [c] + 1 := by omega
        rw [if_pos h0, if_pos (by simpa using h0)] at ih
        rw [if_pos h1, if_pos (by simpa using h1)]
        simp only [Prod.mk.injEq] at ih ⊢
        obtain ⟨i1, i2, _⟩ := ih
        have e : (index l [c] + 1).toNat = (index l [c]).toNat + 1 := by omega
        refine ⟨?_, ?_, trivial⟩
        · rw [e, List.take_succ_cons, i1]; simp [cutHead, hb]
        · rw [e, show (index l [c]).toNat + 1 + [c].length = ((index l [c]).toNat + [c].length) + 1 by omega, List.drop_succ_cons, i2]; simp [cutTail, hb]

end Go.Proofs.YtkbmdmipdcjjcaaGreatDoor
