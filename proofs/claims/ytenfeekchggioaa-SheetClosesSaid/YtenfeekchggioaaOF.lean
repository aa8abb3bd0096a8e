/- isOrder. -/
import Derived.Test.YtenfeekchggioaaOE
namespace Go.Proofs.Ytenfeekchggioaa
open Go.RowKit Go.Shelf Go.Lib
attribute [local go_sem] Oper.semAt_some
set_option linter.unusedSimpArgs false
theorem results_c {P : Program} {fn : Func} {p : Tmp} {ty : TypeId} (h : fn.results = #[.cell p ty]) (tmps : Array Value) (w : World) (g : Nat) (v : Value) (hp : tmps.getD p undef = .pointer (some ⟨g, 0, none⟩)) (hl : (loadVar ty ⟨g, 0, none⟩).run P w = .ok v w) : (results fn tmps).run P w = .ok v w := by
  have hp' : tmps[p]?.getD undef = .pointer (some ⟨g, 0, none⟩) := by simpa using hp
  simp [results, h, hp', asAddr, hl]
theorem load_bool (g : Nat) (v : Value) (w : World) (h : w.cell? ⟨g, 0, none⟩ = some v) : (loadVar 4 ⟨g, 0, none⟩).run Try.prog w = .ok v w := by
  simp [loadVar, go_sem, Try.isAgg4, h]
/-- When each work is done. -/
def posN (os : List Int) (k j : Nat) : Nat := if (j : Int) ∈ os.take k then os.idxOf (j : Int) else 0
theorem posN_next (os : List Int) (k i : Nat) (h : os[k]? = some (i : Int)) (hn : doneS (os.take k) i = false) : upB (posN os k) i k = posN os (k + 1) := by
  have hni : ¬ (i : Int) ∈ os.take k := by simpa [doneS] using hn
  funext j
  unfold upB posN
  rw [List.take_add_one, h, Option.toList_some]
  by_cases e : j = i
  · subst e
    rw [if_pos rfl, if_pos (by simp)]
    have hk := (List.getElem?_eq_some_iff.1 h).1
    have hs : os = os.take k ++ (j : Int) :: os.drop (k + 1) := by
      conv => lhs; rw [← List.take_append_drop k os]
      rw [List.drop_eq_getElem_cons hk, (List.getElem?_eq_some_iff.1 h).2]
    rw [hs, List.idxOf_append, if_neg hni, List.idxOf_cons_self]
    simp
    omega
  · rw [if_neg e]
    have : ((j : Int) ∈ os.take k ++ [(i : Int)]) ↔ (j : Int) ∈ os.take k := by simp; omega
    simp only [this]
theorem posN_lt (os : List Int) (k j : Nat) : posN os k j ≤ os.length := by
  unfold posN
  split
  · exact List.idxOf_le_length
  · exact Nat.zero_le _
def inOrd (os : List Int) (e : Ed) : Bool := decide (posN os os.length e.fr.toNat ≤ posN os os.length e.to.toNat)
def permB (n : Nat) (os : List Int) : Bool := decide (os.length = n) && os.all (fun z => decide (0 ≤ z) && decide (z < (n : Int))) && decide os.Nodup
/-- Whether it is an order. -/
def ordB (pr : Nat) (W : List Wk) (os : List Int) : Bool := permB W.length os && (stepsL pr W).all (inOrd os)
/-- The first numbers of a list, each once. -/
def PreOk (n : Nat) (os : List Int) (k : Nat) : Prop := (∀ z ∈ os.take k, 0 ≤ z ∧ z < (n : Int)) ∧ (os.take k).Nodup
theorem preOk_next {n : Nat} {os : List Int} {k : Nat} {z : Int} (h : PreOk n os k) (hz : os[k]? = some z) (h1 : 0 ≤ z ∧ z < (n : Int)) (h2 : ¬ z ∈ os.take k) : PreOk n os (k + 1) := by
  have e : os.take (k + 1) = os.take k ++ [z] := by rw [List.take_add_one, hz, Option.toList_some]
  refine ⟨fun y hy => ?_, ?_⟩
  · rw [e] at hy
    rcases List.mem_append.1 hy with hy | hy
    · exact h.1 y hy
    · rw [List.mem_singleton] at hy
      subst hy
      exact h1
  · rw [e, List.nodup_append]
    exact ⟨h.2, by simp, fun y hy x hx e1 => by rw [List.mem_singleton] at hx; rw [e1, hx] at hy; exact h2 hy⟩
theorem permB_bad {n : Nat} {os : List Int} {k : Nat} {z : Int} (hz : os[k]? = some z) (h : ¬ (0 ≤ z ∧ z < (n : Int)) ∨ z ∈ os.take k) : permB n os = false := by
  rw [Bool.eq_false_iff]
  intro hp
  unfold permB at hp
  simp only [Bool.and_eq_true, decide_eq_true_eq, List.all_eq_true] at hp
  obtain ⟨⟨_, h1⟩, h2⟩ := hp
  rcases h with h | h
  · exact h (h1 z (List.mem_of_getElem? hz))
  · have hk := (List.getElem?_eq_some_iff.1 hz).1
    have hs : os = os.take k ++ z :: os.drop (k + 1) := by
      conv => lhs; rw [← List.take_append_drop k os]
      rw [List.drop_eq_getElem_cons hk, (List.getElem?_eq_some_iff.1 hz).2]
    rw [hs, List.nodup_append] at h2
    exact h2.2.2 z h z (by simp) rfl
theorem permB_ok {n : Nat} {os : List Int} (hl : os.length = n) (h : PreOk n os os.length) : permB n os = true := by
  unfold PreOk at h
  rw [List.take_length] at h
  unfold permB
  simp only [Bool.and_eq_true, decide_eq_true_eq, List.all_eq_true]
  exact ⟨⟨hl, h.1⟩, h.2⟩
structure OS (w wr : World) (os : List Int) (k : Nat) (bx : Array Value) : Prop where
  met : SetAt wr (w.heap.size + 1 + 1) 0 (doneS (os.take k))
  row : wr.heap[w.heap.size + 3]? = some (.cells (bkC (posN os k)).toArray 88 (0, 0))
  box : wr.heap[w.heap.size]? = some (.cells bx 24 (0, 0))
  res : wr.heap[w.heap.size + 1]? = some (.cells #[.bool false] 4 (0, 0))
  low : Below w.heap.size w wr
  big : w.heap.size + 4 ≤ wr.heap.size
theorem OS.below {w wr w' : World} {os : List Int} {k : Nat} {bx : Array Value} (h : OS w wr os k bx) (hb : Below wr.heap.size wr w') : OS w w' os k bx :=
  ⟨h.met.below (by have := h.big; omega) hb, (hb.block _ (by have := h.big; omega)).trans h.row, (hb.block _ (by have := h.big; omega)).trans h.box, (hb.block _ (by have := h.big; omega)).trans h.res, h.low.trans (hb.mono (by have := h.big; omega)), by have := hb.size; have := h.big; omega⟩
end Go.Proofs.Ytenfeekchggioaa
