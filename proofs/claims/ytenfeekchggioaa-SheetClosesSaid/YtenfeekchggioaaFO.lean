/- The block of a progress: two sets, of what is done and of what is waiting. -/
import Derived.Test.YtenfeekchggioaaFN
namespace Go.Proofs.Ytenfeekchggioaa
open Go.RowKit Go.Shelf Go.Lib
attribute [local go_sem] Oper.semAt_some
/-- Block P holds a progress. -/
structure PR (w : World) (P : Nat) (A B : Nat → Bool) : Prop where
  row : ∃ vs : List Value, vs.length = 14 ∧ w.heap[P]? = some (.cells vs.toArray 70 (0, 0))
  done : SetAt w P 0 A
  wait : SetAt w P 7 B
theorem SetAt.same {w w' : World} {B off : Nat} {S : Nat → Bool} (h : SetAt w B off S) (hc : ∀ k, k < 7 → w'.cell? ⟨B, off + k, none⟩ = w.cell? ⟨B, off + k, none⟩ ∧ w'.frozen? ⟨B, off + k, none⟩ = w.frozen? ⟨B, off + k, none⟩) : SetAt w' B off S := fun k hk => by
  obtain ⟨m, h1, h2, h3, h4⟩ := h k hk
  exact ⟨m, h1, (hc k hk).1.trans h2, (hc k hk).2.trans h3, h4⟩
theorem cell_of_heap {w w' : World} {P : Nat} (h : w'.heap[P]? = w.heap[P]?) (k : Nat) : w'.cell? ⟨P, k, none⟩ = w.cell? ⟨P, k, none⟩ ∧ w'.frozen? ⟨P, k, none⟩ = w.frozen? ⟨P, k, none⟩ := by
  constructor
  · simp [World.cell?, h]
  · simp [World.frozen?, h]
theorem PR.of_heap {w w' : World} {P : Nat} {A B : Nat → Bool} (h : PR w P A B) (e : w'.heap[P]? = w.heap[P]?) : PR w' P A B := by
  obtain ⟨⟨vs, h1, h2⟩, h3, h4⟩ := h
  exact ⟨⟨vs, h1, e.trans h2⟩, h3.same (fun k _ => cell_of_heap e _), h4.same (fun k _ => cell_of_heap e _)⟩
theorem PR.lt {w : World} {P : Nat} {A B : Nat → Bool} (h : PR w P A B) : P < w.heap.size := by
  obtain ⟨vs, _, h2⟩ := h.row
  exact (Array.getElem?_eq_some_iff.1 h2).1
theorem PR.below {w w' : World} {P : Nat} {A B : Nat → Bool} (h : PR w P A B) (hb : Below w.heap.size w w') : PR w' P A B := h.of_heap (hb.block P h.lt)
theorem pr_own {β : Type} (P : Nat) (A B : β → Nat → Bool) : Own (fun s W => PR W P (A s) (B s)) := fun s X Y row hs hg hrow => hs.of_heap (hg.block P hs.lt (fun e => by
  obtain ⟨o, ho, hc⟩ := hrow P e.symm
  obtain ⟨vs, _, h2⟩ := hs.row
  rw [h2] at ho
  cases ho
  cases hc))
theorem setCell_cells (w : World) (P i : Nat) (vs : List Value) (t : TypeId) (v : Value) (h : w.heap[P]? = some (.cells vs.toArray t (0, 0))) : (w.setCell ⟨P, i, none⟩ v).heap[P]? = some (.cells (vs.set i v).toArray t (0, 0)) := by
  obtain ⟨hlt, hk⟩ := Array.getElem?_eq_some_iff.1 h
  show (w.heap.modify P _)[P]? = _
  rw [Array.getElem?_eq_getElem (by rw [Array.size_modify]; exact hlt), Array.getElem_modify_self, hk]
  simp
/-- All sets are empty in a new progress. -/
theorem pr_zero (w : World) (P : Nat) (h : w.heap[P]? = some (.cells (List.replicate 14 (Value.int .u64 0)).toArray 70 (0, 0))) : PR w P (fun _ => false) (fun _ => false) := by
  have hz : ∀ off, off ≤ 7 → SetAt w P off (fun _ => false) := fun off ho k hk => by
    refine ⟨0, by decide, ?_, ?_, fun j _ => Nat.zero_testBit j⟩
    · rw [cell_of_row _ _ _ _ _ _ h, List.getElem?_toArray, List.getElem?_replicate, if_pos (by omega)]
      rfl
    · simp [World.frozen?, h]
  exact ⟨⟨_, by simp, h⟩, hz 0 (by omega), hz 7 (by omega)⟩
theorem PR.add0 {w w' : World} {P : Nat} {A B A' : Nat → Bool} {i : Nat} {v : Value} (h : PR w P A B) (hi : i < 448) (hS : SetAt w' P 0 A') (e : w' = (w.setCell ⟨P, 0 + i / 64, none⟩ v).drew) : PR w' P A' B := by
  obtain ⟨⟨vs, h1, h2⟩, _, h4⟩ := h
  refine ⟨⟨vs.set (0 + i / 64) v, by rw [List.length_set]; exact h1, by rw [e]; exact setCell_cells w P _ vs _ v h2⟩, hS, ?_⟩
  subst e
  refine h4.same fun k _ => ⟨?_, ?_⟩
  · rw [World.cell?_drew, World.cell?_setCell_other _ _ _ _ (by simp only [ne_eq, Addr.mk.injEq, true_and, and_true]; omega)]
  · rw [World.frozen?_drew, World.frozen?_setCell]
theorem PR.add7 {w w' : World} {P : Nat} {A B B' : Nat → Bool} {i : Nat} {v : Value} (h : PR w P A B) (hS : SetAt w' P 7 B') (e : w' = (w.setCell ⟨P, 7 + i / 64, none⟩ v).drew) : PR w' P A B' := by
  obtain ⟨⟨vs, h1, h2⟩, h3, _⟩ := h
  refine ⟨⟨vs.set (7 + i / 64) v, by rw [List.length_set]; exact h1, by rw [e]; exact setCell_cells w P _ vs _ v h2⟩, ?_, hS⟩
  subst e
  refine h3.same fun k hk => ⟨?_, ?_⟩
  · rw [World.cell?_drew, World.cell?_setCell_other _ _ _ _ (by simp only [ne_eq, Addr.mk.injEq, true_and, and_true]; omega)]
  · rw [World.frozen?_drew, World.frozen?_setCell]
/-- The words of a set in a row. -/
theorem PR.words {w : World} {P : Nat} {A B : Nat → Bool} (h : PR w P A B) : ∃ vs : List Value, vs.length = 14 ∧ w.heap[P]? = some (.cells vs.toArray 70 (0, 0)) ∧ SetVs (vs.take 7) A ∧ SetVs (vs.drop 7) B := by
  obtain ⟨⟨vs, h1, h2⟩, h3, h4⟩ := h
  refine ⟨vs, h1, h2, ⟨by simp [h1], fun k hk => ?_⟩, ⟨by simp [h1], fun k hk => ?_⟩⟩
  · obtain ⟨m, g1, g2, _, g4⟩ := h3 k hk
    rw [cell_of_row _ _ _ _ _ _ h2, List.getElem?_toArray] at g2
    exact ⟨m, g1, by rw [List.getElem?_take, if_pos hk, ← g2, Nat.zero_add], g4⟩
  · obtain ⟨m, g1, g2, _, g4⟩ := h4 k hk
    rw [cell_of_row _ _ _ _ _ _ h2, List.getElem?_toArray] at g2
    exact ⟨m, g1, by rw [List.getElem?_drop, ← g2], g4⟩
end Go.Proofs.Ytenfeekchggioaa
