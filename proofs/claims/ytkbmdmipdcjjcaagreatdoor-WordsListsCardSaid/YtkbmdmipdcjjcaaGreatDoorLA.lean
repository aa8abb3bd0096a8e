/- The lines of a text; the reference's Lines. -/
import Derived.Test.YtkbmdmipdcjjcaaGreatDoorV
namespace Go.Proofs.YtkbmdmipdcjjcaaGreatDoor
open Go.RowKit

def encS (x : List UInt8) : Value := .string ⟨x.toArray⟩
def linesP (l : List UInt8) : List (List UInt8) × Int :=
  if 1048576 < l.length then ([], 3) else if l ≠ [] ∧ ¬ l.getLast? = some 10 then ([], 6) else if 5000 < l.count 10 then ([], 3) else ((splitL 10 l).dropLast, 0)
def LinesPost (w : World) (l : List UInt8) (e : Ending) (w' : World) : Prop :=
  ∃ v : Value, e = .returned (.tuple #[v, .int .i64 (linesP l).2]) ∧ w'.ownsRow w.heap.size 9 1 v (linesP l).1.length ((linesP l).1.map encS) ∧ Below w.heap.size w w'
theorem lines_bad {w w' : World} {l : List UInt8} {c : Int} (h : linesP l = ([], c)) (hb : Below w.heap.size w w') : LinesPost w l (.returned (.tuple #[.slice none 0 0, .int .i64 c])) w' := by
  unfold LinesPost; rw [h]; exact ⟨_, rfl, World.ownsRow_nil _ _ _ _, hb⟩
theorem split_piece (c : UInt8) : ∀ (a b : List UInt8), (∀ x ∈ a, x ≠ c) → splitL c (a ++ c :: b) = a :: splitL c b
  | [], b, _ => by simp [splitL]
  | x :: a, b, h => by
    have hx : x ≠ c := h x (by simp)
    have ih := split_piece c a b (fun y hy => h y (by simp [hy]))
    show splitL c (x :: (a ++ c :: b)) = _
    rw [splitL, if_neg hx, ih]
    rfl
theorem split_none (c : UInt8) : ∀ a : List UInt8, (∀ x ∈ a, x ≠ c) → splitL c a = [a]
  | [], _ => rfl
  | x :: a, h => by
    rw [splitL, if_neg (h x (by simp)), split_none c a (fun y hy => h y (by simp [hy]))]
    rfl
/-- What stands from f to k. -/
def midL (l : List UInt8) (f k : Nat) : List UInt8 := (l.take k).drop f
theorem mid_ext (s : ByteArray) (f k : Nat) : s.extract f k = ⟨(midL s.data.toList f k).toArray⟩ := by
  rw [Lib.extract_eq]
  unfold midL
  rw [List.drop_take]
theorem mid_snoc (s : ByteArray) (f k : Nat) (hf : f ≤ k) (hk : k < s.size) : midL s.data.toList f (k + 1) = midL s.data.toList f k ++ [s[k]] := by
  unfold midL
  rw [take_snoc s k hk, List.drop_append_of_le_length (by rw [List.length_take, size_len]; omega)]
theorem mid_cut (s : ByteArray) (f k : Nat) (hf : f ≤ k) (hk : k < s.size) : s.data.toList.drop f = midL s.data.toList f k ++ s[k] :: s.data.toList.drop (k + 1) := by
  unfold midL
  have h1 : s.data.toList.drop k = s[k] :: s.data.toList.drop (k + 1) := by
    rw [List.drop_eq_getElem_cons (by rw [size_len]; exact hk)]; congr 1
  have h2 : s.data.toList.drop f = (s.data.toList.take k ++ s.data.toList.drop k).drop f := by rw [List.take_append_drop]
  rw [h2, List.drop_append_of_le_length (by rw [List.length_take, size_len]; omega), h1]
theorem last_nil (s : ByteArray) (f : Nat) (hl : s.data.toList = [] ∨ s.data.toList.getLast? = some 10) (hn : ∀ x ∈ s.data.toList.drop f, x ≠ 10) : s.data.toList.drop f = [] := by
  rcases hl with h | h
  · rw [h]; simp
  · cases hd : s.data.toList.drop f with
    | nil => rfl
    | cons a r =>
      have hlast : (s.data.toList.drop f).getLast? = some 10 := by
        have hlen : f < s.data.toList.length := by
          rcases Nat.lt_or_ge f s.data.toList.length with h' | h'
          · exact h'
          · rw [List.drop_eq_nil_of_le h'] at hd; cases hd
        rw [List.getLast?_drop, if_neg (by omega)]; exact h
      exact absurd rfl (hn 10 (List.mem_of_getLast? hlast))
theorem lines_done (l : List UInt8) (acc : List (List UInt8)) (h : splitL 10 l = acc ++ [[]]) : acc = (splitL 10 l).dropLast ∧ acc.length = l.count 10 := by
  have hl := splitL_length 10 l
  rw [h] at hl
  refine ⟨by rw [h]; simp, ?_⟩
  simp at hl; exact hl
end Go.Proofs.YtkbmdmipdcjjcaaGreatDoor
