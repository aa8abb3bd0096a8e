/- Two texts of lists with a comma between them. -/
import Derived.Test.YtkbmdmipdcjjcaaGreatDoorLX
namespace Go.Proofs.YtkbmdmipdcjjcaaGreatDoor
open Go.RowKit

theorem splitL_head (c : UInt8) : ∀ l : List UInt8, splitL c l ≠ []
  | [] => by simp [splitL]
  | b :: l => by unfold splitL; split <;> simp
theorem splitL_both (c : UInt8) (t : List UInt8) : ∀ s : List UInt8, splitL c (s ++ c :: t) = splitL c s ++ splitL c t
  | [] => by simp [splitL]
  | b :: s => by
    have ih := splitL_both c t s
    by_cases hb : b = c
    · subst hb
      simp [splitL, ih]
    · have hne := splitL_ne c s
      have e1 : splitL c (b :: (s ++ c :: t)) = (b :: (splitL c (s ++ c :: t)).headD []) :: (splitL c (s ++ c :: t)).tail := by simp [splitL, hb]
      have e2 : splitL c (b :: s) = (b :: (splitL c s).headD []) :: (splitL c s).tail := by simp [splitL, hb]
      rw [List.cons_append, e1, e2, ih]
      rw [hne]
      simp
theorem itemsGo_cons (x : List UInt8) (r : List (List UInt8)) : itemsGo (x :: r) = if (itmP x).2 then (itemsGo r).map ((itmP x).1 :: ·) else none := rfl
theorem itemsGo_both : ∀ (a b : List (List UInt8)), itemsGo (a ++ b) = (itemsGo a).bind fun x => (itemsGo b).map fun y => x ++ y
  | [], b => by
    show itemsGo b = (some []).bind _
    cases itemsGo b <;> rfl
  | x :: a, b => by
    have ih := itemsGo_both a b
    rw [List.cons_append, itemsGo_cons, itemsGo_cons]
    by_cases hx : (itmP x).2 = true
    · rw [if_pos hx, if_pos hx, ih]
      cases itemsGo a <;> cases itemsGo b <;> rfl
    · rw [if_neg hx, if_neg hx]; rfl
theorem itemsP_both {s t : List UInt8} (hs : s ≠ []) (ht : t ≠ []) : itemsP (s ++ 44 :: t) = (itemsP s).bind fun x => (itemsP t).map fun y => x ++ y := by
  unfold itemsP
  rw [if_neg hs, if_neg ht, if_neg (by simp), splitL_both, itemsGo_both]
theorem sumN_both (a b : List NItm) : sumN (a ++ b) = sumN a + sumN b := by simp [sumN]
theorem expN_both (a b : List NItm) : expN (a ++ b) = expN a ++ expN b := by simp [expN]
/-- What the items come to. -/
def parM (o : Option (List Itm)) : List Int × Int := match o with
  | none => ([], 6)
  | some is => if is.any (fun i => decide (9999 < i.2.2)) then ([], 7) else if 500 < sumN (is.map toN) then ([], 3) else (expN (is.map toN), 0)
theorem parP_short {l : List UInt8} (h : l.length ≤ 2500) : parP l = parM (itemsP l) := by
  unfold parP
  rw [if_neg (by omega)]
  cases itemsP l <;> rfl
/-- What ParseList of both is. -/
theorem parP_both {s t : List UInt8} (hs : s ≠ []) (ht : t ≠ []) (hl : s.length + t.length < 2500) :
    ((parP s).2 = 0 → (parP t).2 = 0 → (parP s).1.length + (parP t).1.length ≤ 500 → parP (s ++ 44 :: t) = ((parP s).1 ++ (parP t).1, 0)) ∧
    ((parP s).2 = 0 → (parP t).2 = 0 → 500 < (parP s).1.length + (parP t).1.length → parP (s ++ 44 :: t) = ([], 3)) ∧
    ((parP s).2 ≠ 0 ∨ (parP t).2 ≠ 0 → (parP (s ++ 44 :: t)).2 ≠ 0) := by
  rw [parP_short (l := s ++ 44 :: t) (by rw [List.length_append, List.length_cons]; omega), parP_short (l := s) (by omega), parP_short (l := t) (by omega), itemsP_both hs ht]
  cases h1 : itemsP s with
  | none => refine ⟨fun h => absurd h (by simp [parM]), fun h => absurd h (by simp [parM]), fun _ => by simp [parM]⟩
  | some xs =>
    cases h2 : itemsP t with
    | none => refine ⟨fun _ h => absurd h (by simp [parM]), fun _ h => absurd h (by simp [parM]), fun _ => by simp [parM]⟩
    | some ys =>
      simp only [Option.bind_some, Option.map_some, parM, List.any_append, List.map_append, sumN_both, expN_both]
      by_cases a1 : (xs.any fun i => decide (9999 < i.2.2)) = true
      · refine ⟨fun h => absurd h (by simp [a1]), fun h => absurd h (by simp [a1]), fun _ => by simp [a1]⟩
      · by_cases a2 : (ys.any fun i => decide (9999 < i.2.2)) = true
        · refine ⟨fun _ h => absurd h (by simp [a2]), fun _ h => absurd h (by simp [a2]), fun _ => by simp [a2]⟩
        · rw [if_neg a1, if_neg a2]
          have a3 : ¬ ((xs.any fun i => decide (9999 < i.2.2)) || (ys.any fun i => decide (9999 < i.2.2))) = true := by
            simp only [Bool.not_eq_true] at a1 a2
            rw [a1, a2]; simp
          rw [if_neg a3]
          by_cases b1 : 500 < sumN (xs.map toN)
          · rw [if_pos b1]
            refine ⟨fun h => absurd h (by simp), fun h => absurd h (by simp), fun _ => by rw [if_pos (by omega)]; simp⟩
          · by_cases b2 : 500 < sumN (ys.map toN)
            · rw [if_pos b2]
              refine ⟨fun _ h => absurd h (by simp), fun _ h => absurd h (by simp), fun _ => by rw [if_pos (by omega)]; simp⟩
            · rw [if_neg b1, if_neg b2]
              simp only [expN_length]
              refine ⟨fun _ _ h => by rw [if_neg (by omega)], fun _ _ h => by rw [if_pos (by omega)], fun h => ?_⟩
              rcases h with h | h <;> exact absurd rfl h
/-- The text of both lists is not longer than both texts and a comma. -/
theorem both_len {xs ys : List Int} (hx : ∀ z ∈ xs, 0 ≤ z ∧ z ≤ 9999) (hy : ∀ z ∈ ys, 0 ≤ z ∧ z ≤ 9999) (hl : xs.length + ys.length ≤ 500) : (listS (xs ++ ys)).length ≤ (listS xs).length + 1 + (listS ys).length := by
  have hxy : ∀ z ∈ xs ++ ys, 0 ≤ z ∧ z ≤ 9999 := fun z h => by
    rcases List.mem_append.1 h with h | h
    · exact hx z h
    · exact hy z h
  by_cases h1 : xs = []
  · subst h1; rw [List.nil_append]; omega
  · by_cases h2 : ys = []
    · subst h2; rw [List.append_nil]; omega
    · obtain ⟨p1, l1, _⟩ := list_main hx (by omega)
      obtain ⟨p2, l2, _⟩ := list_main hy (by omega)
      obtain ⟨p3, l3, m3⟩ := list_main hxy (by rw [List.length_append]; omega)
      obtain ⟨us, ga, ta, ea, sa, _⟩ := par_good p1
      obtain ⟨vs, gb, tb, eb, sb, _⟩ := par_good p2
      have na : us ≠ [] := fun e => h1 (by rw [← ea, e]; rfl)
      have nb : vs ≠ [] := fun e => h2 (by rw [← eb, e]; rfl)
      have hs1 : listS xs ≠ [] := by
        rw [← ta]
        cases us with
        | nil => exact absurd rfl na
        | cons a r => exact txt_ne
      have hs2 : listS ys ≠ [] := by
        rw [← tb]
        cases vs with
        | nil => exact absurd rfl nb
        | cons a r => exact txt_ne
      by_cases hl5 : (listS xs).length + (listS ys).length < 2500
      · obtain ⟨k, _, _⟩ := parP_both hs1 hs2 hl5
        rw [p1, p2] at k
        have := leB_len (m3 _ (k rfl rfl hl))
        rw [List.length_append, List.length_cons] at this
        omega
      · omega
end Go.Proofs.YtkbmdmipdcjjcaaGreatDoor
