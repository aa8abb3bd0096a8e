/- The levels of a sheet. -/
import Derived.Test.YtcjbjlepgdggpaaTR
namespace Go.Proofs.Ytcjbjlepgdggpaa
open Go.RowKit Go.Shelf Go.Lib
set_option maxRecDepth 100000
set_option linter.unusedSimpArgs false
attribute [local irreducible] wpQuiet
def niC (n : Nat) (A : Nat → Nat) : List Value := (List.range n).map fun (j : Nat) => .int .i64 (A j : Int)
theorem niC_len (n : Nat) (A : Nat → Nat) : (niC n A).length = n := by simp [niC]
theorem niC_get (n : Nat) (A : Nat → Nat) {j : Nat} (h : j < n) : (niC n A)[j]? = some (.int .i64 (A j : Int)) := by simp [niC, h]
theorem niC_set (n : Nat) (A : Nat → Nat) (i z : Nat) : (niC n A).set i (.int .i64 (z : Int)) = niC n (updN A i z) := by
  apply List.ext_getElem?
  intro j
  rw [List.getElem?_set]
  by_cases c : i = j
  · subst c
    rw [if_pos rfl, niC_len]
    by_cases h : i < n
    · rw [if_pos h, niC_get _ _ h]
      simp [updN]
    · rw [if_neg h, List.getElem?_eq_none (by rw [niC_len]; omega)]
  · rw [if_neg c]
    by_cases h : j < n
    · rw [niC_get _ _ h, niC_get _ _ h]
      unfold updN
      rw [if_neg (fun e => c e.symm)]
    · rw [List.getElem?_eq_none (by rw [niC_len]; omega), List.getElem?_eq_none (by rw [niC_len]; omega)]
theorem niC_made (n : Nat) : (madeCells #[.int .i64 0] n).toList = niC n (fun _ => 0) := by
  apply List.ext_getElem?
  intro j
  by_cases h : j < n
  · rw [Array.getElem?_toList, made_one _ _ _ h, niC_get _ _ h]
    rfl
  · rw [List.getElem?_eq_none (by simp [madeCells]; omega), List.getElem?_eq_none (by rw [niC_len]; omega)]
/-- An own row of numbers. -/
def NO (B : Nat) (w : World) (g n : Nat) (A : Nat → Nat) : Prop := w.ownsRow B 3 1 (.slice (some ⟨g, 0, none⟩) n n) n (niC n A)
theorem no_made (n B : Nat) (hn : n < 100000) (W : World) (hB : B ≤ W.heap.size) : NO B (W.alloc (.cells (madeCells #[.int .i64 0] n) 3)) W.heap.size n (fun _ => 0) := by
  unfold NO
  rw [← niC_made]
  exact World.ownsRow_lit W _ n hB (by unfold maxLen; omega) (by rw [size_madeCells]; omega)
theorem mk_intsN (n : Nat) (hn : n < 100000) (W : World) : (Instr.makeSlice 30 (.int .i64 (n : Int)) (.int .i64 (n : Int))).run Try.prog W = .ok (.slice (some ⟨W.heap.size, 0, none⟩) n n) (W.alloc (.cells (madeCells #[.int .i64 0] n) 3)) := by
  obtain ⟨i0, hi, hz0, hz1, hz2⟩ := info_parts infoInt
  have h := run_make (P := Try.prog) W 30 3 i0 (.int .i64 0) Try.underlying30 hi hz0 .i64 .i64 (n : Int) (n : Int) (by omega) (by omega) (by rw [hz2]; omega) (by omega)
  rw [hz1] at h
  simp at h
  exact h
theorem NO.cell {B g n : Nat} {w : World} {A : Nat → Nat} (h : NO B w g n A) {j : Nat} (hj : j < n) : w.cell? ⟨g, j, none⟩ = some (.int .i64 (A j : Int)) := by
  have := World.ownsRow.cellAt h j (by omega)
  rwa [niC_get _ _ hj] at this
theorem NO.frozen {B g n : Nat} {w : World} {A : Nat → Nat} (h : NO B w g n A) (j : Nat) : w.frozen? ⟨g, j, none⟩ = false := World.ownsRow.frozenAt h j
theorem NO.set {B g n : Nat} {w : World} {A : Nat → Nat} (h : NO B w g n A) (i z : Nat) : NO B (w.setCell ⟨g, i, none⟩ (.int .i64 (z : Int))) g n (updN A i z) := by
  unfold NO
  rw [← niC_set]
  exact (World.ownsRow.stored h i (.int .i64 (z : Int))).1
theorem NO.lt {B g n : Nat} {w : World} {A : Nat → Nat} (h : NO B w g n A) : g < w.heap.size := (World.ownsRow.lt h g rfl).2
theorem NO.belowB {B g n C : Nat} {w w' : World} {A : Nat → Nat} (h : NO B w g n A) (hb : Below C w w') (hg : g < C) : NO B w' g n A := own_blk h hg hb
theorem plv_le : ∀ (m : Nat) (L : List Ed), L.length = m → ∀ i, plv L i ≤ m
  | 0, L, hm, i => by rw [List.eq_nil_of_length_eq_zero hm]; exact Nat.le_refl _
  | m + 1, L, hm, i => by
    rcases List.eq_nil_or_concat L with h | ⟨L', e, h⟩
    · subst h; simp at hm
    · rw [List.concat_eq_append] at h
      subst h
      have ih := plv_le m L' (by simpa using hm)
      have h1 := ih e.to.toNat
      have h2 := ih e.fr.toNat
      have h3 := ih i
      rw [plv_snoc]
      unfold updN
      split <;> omega
/-- The levels of a sheet. -/
def lvV (s : Sh) : List Int := if chkS s = 0 then LI (lvL s.ws s.ws.length) else []
theorem lvV_no {s : Sh} (h : chkS s ≠ 0) : lvV s = [] := by unfold lvV; rw [if_neg h]
theorem lvV_ok {s : Sh} (h : chkS s = 0) : lvV s = LI (lvL s.ws s.ws.length) := by unfold lvV; rw [if_pos h]
theorem niC_lv {s : Sh} (h : chkS s = 0) : niC s.ws.length (plv (stepV s)) = (lvV s).map (Value.int .i64) := by
  rw [lvV_ok h, stepV_ok h]
  apply List.ext_getElem?
  intro j
  by_cases hj : j < s.ws.length
  · rw [niC_get _ _ hj, plv_eq (j + 1) j (by omega) hj, List.getElem?_map]
    unfold LI
    rw [List.getElem?_map, lvL_get _ _ _ hj]
    rfl
  · rw [List.getElem?_eq_none (by rw [niC_len]; omega), List.getElem?_eq_none (by rw [List.length_map, LI_len, lvL_len]; omega)]
theorem lvV_len {s : Sh} (h : chkS s = 0) : (lvV s).length = s.ws.length := by rw [lvV_ok h, LI_len, lvL_len]
end Go.Proofs.Ytcjbjlepgdggpaa
