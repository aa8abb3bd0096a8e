/- Plain facts: what the reference reads is what the items are. -/
import Derived.Test.YtkbmdmipdcjjcaaGreatDoorRB
import Derived.Test.YtkbmdmipdcjjcaaGreatDoorLY
import Derived.Test.YtkbmdmipdcjjcaaGreatDoorLA
namespace Go.Proofs.YtkbmdmipdcjjcaaGreatDoor
open Go.RowKit

abbrev RItm := List UInt8 × List UInt8 × List UInt8
def rdOk (p : List UInt8) (x : RItm) : Prop := RD p x.1 x.2.1 x.2.2 true
def rN (x : RItm) : NItm := (min (numV x.2.2) 10000, min (numV x.1) 10000, min (numV x.2.1) 10000)
def rG (x : RItm) : Prop := numB x.1 = true ∧ numB x.2.1 = true ∧ numB x.2.2 = true ∧ numV x.1 ≤ numV x.2.1 ∧ 1 ≤ numV x.2.2 ∧ (numV x.2.2 = 1 ∨ x.1 = x.2.1)
theorem num_no {l : List UInt8} {c : UInt8} (h : numB l = true) (hc : c.toNat < 48 ∨ 57 < c.toNat) : c ∉ l := by
  intro hm
  unfold numB at h
  simp only [Bool.and_eq_true] at h
  have h2 := h.1.2
  unfold withinB at h2
  rw [List.all_eq_true] at h2
  have := h2 c hm
  unfold inB at this
  simp at this
  omega
theorem cut_first {c : UInt8} : ∀ l : List UInt8, c ∈ l → ∃ a b, l = a ++ c :: b ∧ c ∉ a
  | [], h => by simp at h
  | x :: l, h => by
    by_cases hx : x = c
    · exact ⟨[], l, by rw [hx]; rfl, by simp⟩
    · obtain ⟨a, b, h1, h2⟩ := cut_first l (by rcases List.mem_cons.1 h with h | h; exact absurd h.symm hx; exact h)
      exact ⟨x :: a, b, by rw [h1]; rfl, fun e => by rcases List.mem_cons.1 e with e | e; exact hx e.symm; exact h2 e⟩
theorem toI_rN (n m t : List UInt8) (hn : numB n = true) (hm : numB m = true) (ht : numB t = true) : toI (rN (n, m, t)) = (bndP t, bndP n, bndP m) := by
  rw [bnd_num hn, bnd_num hm, bnd_num ht]; rfl
theorem num_four (l : List UInt8) (a : UInt8) (h : numB l = true) (ha : a ∈ l) : ¬ (a.toNat < 48 ∨ 57 < a.toNat) := fun e => num_no h e ha
theorem rd_itm {l n m t : List UInt8} {ok : Bool} (h : RD l n m t ok) : (itmP l).2 = ok ∧ (ok = true → (itmP l).1 = toI (rN (n, m, t)) ∧ rG (n, m, t)) := by
  rcases h with ⟨a, b, hl, hs, rfl, rfl, rfl, hok⟩ | ⟨a, b, hl, hs, rfl, rfl, rfl, hok⟩ | ⟨hs, rfl, rfl, rfl, hok⟩
  · obtain ⟨c1, c2, c3⟩ := cut_here (c := 45) n m (fun e => (hs 45 e).1 rfl)
    rw [← hl] at c1 c2 c3
    unfold itmP
    rw [if_pos c3, c1, c2]
    refine ⟨hok.symm, fun ho => ?_⟩
    rw [hok] at ho
    simp only [Bool.and_eq_true] at ho
    obtain ⟨⟨n1, n2⟩, n3⟩ := ho
    refine ⟨by rw [toI_rN n m [49] n1 n2 (by decide)]; rfl, n1, n2, (by decide : numB [49] = true), Nat.le_of_lt (ltB_num n1 n2 n3), (by decide : 1 ≤ numV [49]), Or.inl (by decide : numV [49] = 1)⟩
  · by_cases hb : (45 : UInt8) ∈ m
    · obtain ⟨b1, b2, hb1, hb2⟩ := cut_first m hb
      have hl2 : l = (t ++ 120 :: b1) ++ 45 :: b2 := by rw [hl, hb1]; simp
      obtain ⟨c1, c2, c3⟩ := cut_here (c := 45) (t ++ 120 :: b1) b2 (by
        intro e
        rcases List.mem_append.1 e with e | e
        · exact (hs 45 e).1 rfl
        · rcases List.mem_cons.1 e with e | e
          · exact absurd e (by decide)
          · exact hb2 e)
      rw [← hl2] at c1 c2 c3
      have hf : ok = false := by
        rw [hok]
        have : numB m = false := by
          rw [Bool.eq_false_iff]
          intro e
          exact num_no e (by decide) hb
        rw [this]; simp
      have hf2 : numB (t ++ 120 :: b1) = false := by
        rw [Bool.eq_false_iff]
        intro e
        exact num_no (c := 120) e (by decide) (by simp)
      unfold itmP
      rw [if_pos c3, c1, c2, hf2, hf]
      exact ⟨rfl, fun e => by cases e⟩
    · have h45 : (45 : UInt8) ∉ l := by
        rw [hl]
        intro e
        rcases List.mem_append.1 e with e | e
        · exact (hs 45 e).1 rfl
        · rcases List.mem_cons.1 e with e | e
          · exact absurd e (by decide)
          · exact hb e
      obtain ⟨c1, c2, c3⟩ := cut_here (c := 120) t m (fun e => (hs 120 e).2 rfl)
      rw [← hl] at c1 c2 c3
      unfold itmP
      rw [if_neg (by rw [cut_not h45]; simp), if_pos c3, c1, c2]
      refine ⟨hok.symm, fun ho => ?_⟩
      rw [hok] at ho
      simp only [Bool.and_eq_true] at ho
      obtain ⟨⟨n1, n2⟩, n3⟩ := ho
      have h1 : 1 < numV t := ltB_num (a := [49]) (by decide) n1 n3
      exact ⟨by rw [toI_rN m m t n2 n2 n1], n2, n2, n1, Nat.le_refl _, (by show 1 ≤ numV t; omega), Or.inr rfl⟩
  · have h45 : (45 : UInt8) ∉ m := fun e => (hs 45 e).1 rfl
    have h120 : (120 : UInt8) ∉ m := fun e => (hs 120 e).2 rfl
    unfold itmP
    rw [if_neg (by rw [cut_not h45]; simp), if_neg (by rw [cut_not h120]; simp)]
    refine ⟨hok.symm, fun ho => ?_⟩
    rw [hok] at ho
    exact ⟨by rw [toI_rN m m [49] ho ho (by decide)]; rfl, ho, ho, (by decide : numB [49] = true), Nat.le_refl _, (by decide : 1 ≤ numV [49]), Or.inr rfl⟩
def rdAll : List (List UInt8) → List RItm → Prop
  | [], [] => True
  | p :: ps, x :: xs => rdOk p x ∧ rdAll ps xs
  | _, _ => False
theorem rdAll_snoc {p : List UInt8} {x : RItm} (hp : rdOk p x) : ∀ {ps : List (List UInt8)} {xs : List RItm}, rdAll ps xs → rdAll (ps ++ [p]) (xs ++ [x])
  | [], [], _ => ⟨hp, trivial⟩
  | [], _ :: _, h => h.elim
  | _ :: _, [], h => h.elim
  | _ :: _, _ :: _, h => ⟨h.1, rdAll_snoc hp h.2⟩
theorem rdAll_go : ∀ {ps : List (List UInt8)} {xs : List RItm}, rdAll ps xs → itemsGo ps = some (xs.map fun x => toI (rN x)) ∧ ∀ x ∈ xs, rG x
  | [], [], _ => ⟨rfl, fun x hx => by simp at hx⟩
  | [], _ :: _, h => h.elim
  | _ :: _, [], h => h.elim
  | p :: ps, x :: xs, h => by
    obtain ⟨h1, h2⟩ := rd_itm h.1
    obtain ⟨h3, h4⟩ := h2 rfl
    obtain ⟨i1, i2⟩ := rdAll_go h.2
    refine ⟨?_, fun y hy => ?_⟩
    · rw [itemsGo_cons, if_pos h1, i1, h3]; rfl
    · rcases List.mem_cons.1 hy with rfl | hy
      · exact h4
      · exact i2 y hy
theorem rdAll_bad {p : List UInt8} {r : List (List UInt8)} {n m t : List UInt8} (hp : RD p n m t false) {ps : List (List UInt8)} {xs : List RItm} (h : rdAll ps xs) : itemsGo (ps ++ p :: r) = none := by
  rw [itemsGo_both, (rdAll_go h).1]
  have h1 := (rd_itm hp).1
  rw [itemsGo_cons, if_neg (by rw [h1]; simp)]
  rfl
theorem nine_less {m : List UInt8} (h : numB m = true) : ltB [57, 57, 57, 57] m = decide (9999 < numV m) := by
  have h9 : numV [57, 57, 57, 57] = 9999 := by decide
  have n9 : numB [57, 57, 57, 57] = true := by decide
  rcases ltB_tri [57, 57, 57, 57] m with h1 | h1 | h1
  · have := ltB_num n9 h h1
    rw [h1, h9] at *
    simp [this]
  · rw [← h1, ltB_irr, h9]; rfl
  · have h2 := ltB_num h n9 h1
    rw [h9] at h2
    have h3 : ltB [57, 57, 57, 57] m = false := by
      rw [Bool.eq_false_iff]
      intro e
      have := ltB_num n9 h e
      omega
    rw [h3]
    simp
    omega
theorem rN_any {xs : List RItm} : (((xs.map fun x => toI (rN x)).any fun i => decide (9999 < i.2.2)) = true) ↔ ∃ x ∈ xs, 9999 < numV x.2.1 := by
  rw [List.any_eq_true]
  constructor
  · rintro ⟨i, hi, h⟩
    obtain ⟨x, hx, rfl⟩ := List.mem_map.1 hi
    have h' : (9999 : Int) < ((min (numV x.2.1) 10000 : Nat) : Int) := of_decide_eq_true h
    exact ⟨x, hx, by omega⟩
  · rintro ⟨x, hx, h⟩
    refine ⟨_, List.mem_map.2 ⟨x, hx, rfl⟩, ?_⟩
    apply decide_eq_true
    show (9999 : Int) < ((min (numV x.2.1) 10000 : Nat) : Int)
    omega
theorem rN_map (xs : List RItm) : (xs.map fun x => toI (rN x)).map toN = xs.map rN := by
  rw [List.map_map]
  exact List.map_congr_left fun x _ => toN_toI (rN x)
theorem rpar_big {l : List UInt8} {xs : List RItm} (hl : l.length ≤ 2500) (hi : itemsP l = some (xs.map fun x => toI (rN x))) (h : ∃ x ∈ xs, 9999 < numV x.2.1) : parP l = ([], 7) := by
  rw [parP_short hl, hi]
  unfold parM
  simp only
  rw [if_pos (rN_any.2 h)]
theorem rpar_sum {l : List UInt8} {xs : List RItm} (hl : l.length ≤ 2500) (hi : itemsP l = some (xs.map fun x => toI (rN x))) (h : ∀ x ∈ xs, numV x.2.1 ≤ 9999) (hs : 500 < sumN (xs.map rN)) : parP l = ([], 3) := by
  rw [parP_short hl, hi]
  unfold parM
  simp only
  rw [if_neg (fun e => by obtain ⟨x, hx, hb⟩ := rN_any.1 e; have := h x hx; omega), rN_map, if_pos hs]
theorem rpar_fine {l : List UInt8} {xs : List RItm} (hl : l.length ≤ 2500) (hi : itemsP l = some (xs.map fun x => toI (rN x))) (h : ∀ x ∈ xs, numV x.2.1 ≤ 9999) (hs : sumN (xs.map rN) ≤ 500) : parP l = (expN (xs.map rN), 0) := by
  rw [parP_short hl, hi]
  unfold parM
  simp only
  rw [if_neg (fun e => by obtain ⟨x, hx, hb⟩ := rN_any.1 e; have := h x hx; omega), rN_map, if_neg (by omega)]
theorem items_split {l : List UInt8} (h : l ≠ []) : itemsP l = itemsGo (splitL 44 l) := by unfold itemsP; rw [if_neg h]
theorem rN_val {x : RItm} (hg : rG x) (hm : numV x.2.1 ≤ 9999) : rN x = (min (numV x.2.2) 10000, numV x.1, numV x.2.1) := by
  have := hg.2.2.2.1
  unfold rN
  rw [Nat.min_eq_left (show numV x.1 ≤ 10000 by omega), Nat.min_eq_left (show numV x.2.1 ≤ 10000 by omega)]
end Go.Proofs.YtkbmdmipdcjjcaaGreatDoor
