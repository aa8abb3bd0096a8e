/- Links: the matrix, in plain words and in memory. -/
import Derived.Test.YtnfppebcpagjpaaCX
namespace Go.Proofs.Ytnfppebcpagjpaa
open Go.RowKit Go.Lib
def addM (M : Nat → Nat → Int) (a b : Nat) (s : Int) : Nat → Nat → Int := fun i j => if i = a ∧ j = b then M i j + s else M i j
def lkF (x : Pm × (Nat → Nat → Int)) (z : Int) : Pm × (Nat → Nat → Int) :=
  (x.1.pre (num z), addM (addM x.2 (x.1.f (num z)) (x.1.f (num z + 1)) (sgn z)) (x.1.f (num z + 1)) (x.1.f (num z)) (sgn z))
def lk (ws : List Int) : Pm × (Nat → Nat → Int) := ws.foldl lkF (idP, fun _ _ => 0)
theorem lk_snoc (ws : List Int) (z : Int) : lk (ws ++ [z]) = lkF (lk ws) z := by simp [lk]
theorem lk_next {ws : List Int} {k : Nat} {x : Int} (h : ws[k]? = some x) : lk (ws.take (k + 1)) = lkF (lk (ws.take k)) x := by rw [take_more h, lk_snoc]
theorem lk_line (ws : List Int) : (lk ws).1 = lineP ws := by
  induction ws using snoc_ind with
  | h0 => rfl
  | h1 l a ih => rw [lk_snoc, lineP_snoc, ← ih]; rfl
theorem lk_le (ws : List Int) : ∀ i j, -(2 * ws.length : Int) ≤ (lk ws).2 i j ∧ (lk ws).2 i j ≤ 2 * ws.length := by
  induction ws using snoc_ind with
  | h0 => intro i j; show -(2 * (0 : Nat) : Int) ≤ 0 ∧ (0 : Int) ≤ 2 * (0 : Nat); omega
  | h1 l a ih =>
    intro i j
    rw [lk_snoc, List.length_append]
    have h := ih i j
    have hs : sgn a = 1 ∨ sgn a = -1 := by unfold sgn; split <;> simp
    show -(2 * ((l.length + [a].length : Nat) : Int)) ≤ addM (addM _ _ _ _) _ _ _ i j ∧ addM (addM _ _ _ _) _ _ _ i j ≤ _
    unfold addM
    simp only [List.length_singleton]
    generalize sgn a = s at *
    repeat' split
    all_goals omega
def linksL (m : Nat) (ws : List Int) : List (List Int) := (List.range m).map fun i => (List.range m).map fun j => (lk ws).2 i j
theorem linksL_len (m : Nat) (ws : List Int) : (linksL m ws).length = m := by simp [linksL]
def mrow (m : Nat) (f : Nat → Int) : Array Value := ((List.range m).map fun j => Value.int .i64 (f j)).toArray
theorem mrow_get {m : Nat} (f : Nat → Int) {j : Nat} (h : j < m) : (mrow m f)[j]? = some (.int .i64 (f j)) := by simp [mrow, h]
theorem mrow_zero (m : Nat) : mrow m (fun _ => 0) = madeCells #[Value.int .i64 0] m := by
  apply Array.ext_getElem?
  intro j
  rcases Nat.lt_or_ge j m with h | h
  · rw [mrow_get _ h, made_one _ _ _ h]
  · rw [Array.getElem?_eq_none (by simp [mrow]; omega), Array.getElem?_eq_none (by rw [size_madeCells]; omega)]
theorem mrow_set {m : Nat} (M : Nat → Nat → Int) {a b : Nat} (s : Int) (h : b < m) : (mrow m (M a)).setIfInBounds b (.int .i64 (M a b + s)) = mrow m (addM M a b s a) := by
  apply Array.ext_getElem?
  intro j
  rw [Array.getElem?_setIfInBounds]
  rcases Nat.lt_or_ge j m with hj | hj
  · rw [mrow_get _ hj, mrow_get _ hj]
    unfold addM
    by_cases e : b = j
    · subst e
      rw [if_pos rfl, if_pos (by simp [mrow]; exact h), if_pos ⟨rfl, rfl⟩]
    · rw [if_neg e, if_neg (fun h => e h.2.symm)]
  · rw [if_neg (by omega), Array.getElem?_eq_none (by simp [mrow]; omega), Array.getElem?_eq_none (by simp [mrow]; omega)]
theorem mrow_other {m : Nat} (M : Nat → Nat → Int) {a b i : Nat} (s : Int) (h : i ≠ a) : mrow m (addM M a b s i) = mrow m (M i) := by
  unfold mrow addM
  congr 1
  exact List.map_congr_left fun j _ => by rw [if_neg (fun e => h e.1)]
/-- The matrix in memory: a block of slices, and a block for each row. -/
structure MX (B C gl : Nat) (gr : Nat → Nat) (m : Nat) (M : Nat → Nat → Int) (w : World) : Prop where
  ptr : ∀ i, i < m → w.cell? ⟨gl, i, none⟩ = some (.slice (some ⟨gr i, 0, none⟩) m m)
  row : ∀ i, i < m → w.heap[gr i]? = some (.cells (mrow m (M i)) 3 (0, 0))
  lo : ∀ i, i < m → B ≤ gr i
  hi : ∀ i, i < m → gr i < C
  inj : ∀ i j, i < m → j < m → gr i = gr j → i = j
  ne : ∀ i, i < m → gr i ≠ gl
  gl : gl < C
  top : C ≤ w.heap.size
theorem MX.below {B C gl m : Nat} {gr : Nat → Nat} {M : Nat → Nat → Int} {w w' : World} (h : MX B C gl gr m M w) (hb : Below C w w') : MX B C gl gr m M w' :=
  ⟨fun i hi => (hb.cell (p := ⟨gl, i, none⟩) h.gl).trans (h.ptr i hi), fun i hi => (hb.block (gr i) (h.hi i hi)).trans (h.row i hi), h.lo, h.hi, h.inj, h.ne, h.gl, Nat.le_trans h.top hb.size⟩
theorem MX.drew {B C gl m : Nat} {gr : Nat → Nat} {M : Nat → Nat → Int} {w : World} (h : MX B C gl gr m M w) : MX B C gl gr m M w.drew := h.below (Below.refl _ w).drew
theorem MX.set {B C gl m : Nat} {gr : Nat → Nat} {M : Nat → Nat → Int} {w : World} (h : MX B C gl gr m M w) {a b : Nat} (ha : a < m) (hb : b < m) (s : Int) :
    MX B C gl gr m (addM M a b s) (w.setCell ⟨gr a, b, none⟩ (.int .i64 (M a b + s))) :=
  ⟨fun i hi => (World.cell?_of_block (a := ⟨gl, i, none⟩) (heap_setCell_other w ⟨gr a, b, none⟩ gl _ (fun e => h.ne a ha e.symm))).trans (h.ptr i hi), fun i hi => by
    by_cases e : i = a
    · subst e
      rw [heap_setCell_same w (gr i) b _ _ _ (h.row i hi), mrow_set M s hb]
    · rw [heap_setCell_other w ⟨gr a, b, none⟩ (gr i) _ (fun e' => e (h.inj i a hi ha e')), h.row i hi, mrow_other M s e], h.lo, h.hi, h.inj, h.ne, h.gl, by have := h.top; simpa [World.setCell] using this⟩
theorem MX.at {B C gl m : Nat} {gr : Nat → Nat} {M : Nat → Nat → Int} {w : World} (h : MX B C gl gr m M w) {a b : Nat} (ha : a < m) (hb : b < m) : w.cell? ⟨gr a, b, none⟩ = some (.int .i64 (M a b)) :=
  (cell_of_row w (gr a) b _ _ _ (h.row a ha)).trans (mrow_get _ hb)
theorem MX.fz {B C gl m : Nat} {gr : Nat → Nat} {M : Nat → Nat → Int} {w : World} (h : MX B C gl gr m M w) {a : Nat} (b : Nat) (ha : a < m) : w.frozen? ⟨gr a, b, none⟩ = false := frozen_of_row w (gr a) b _ _ (h.row a ha)
theorem MX.form {B C gl m : Nat} {gr : Nat → Nat} {ws : List Int} {w : World} (h : MX B C gl gr m (lk ws).2 w) (hm : m ≤ 12) : FormAt w (some ⟨gl, 0, none⟩) (linksL m ws) := fun k l hl => by
  have hk := (List.getElem?_eq_some_iff.1 hl).1
  rw [linksL_len] at hk
  have e : (linksL m ws)[k]? = some ((List.range m).map fun j => (lk ws).2 k j) := by simp [linksL, hk]
  rw [e] at hl
  obtain rfl := Option.some.inj hl
  have hle : (List.map (fun j => (lk ws).2 k j) (List.range m)).length = m := by simp
  refine ⟨gl, 0, rfl, Nat.lt_of_lt_of_le h.gl h.top, some ⟨gr k, 0, none⟩, m, by rw [Nat.zero_add, hle]; exact h.ptr k hk, by rw [hle]; exact Nat.le_refl _, by unfold maxLen; omega, fun j z hz => ⟨gr k, 0, rfl, Nat.lt_of_lt_of_le (h.hi k hk) h.top, ?_⟩⟩
  have hj := (List.getElem?_eq_some_iff.1 hz).1
  rw [hle] at hj
  rw [Nat.zero_add, h.at hk hj]
  have : (List.map (fun j => (lk ws).2 k j) (List.range m))[j]? = some ((lk ws).2 k j) := by simp [hj]
  rw [this] at hz
  rw [Option.some.inj hz]
theorem MX.as {B C gl m : Nat} {gr : Nat → Nat} {M N : Nat → Nat → Int} {w : World} (h : MX B C gl gr m M w) (e : ∀ i j, M i j = N i j) : MX B C gl gr m N w := by
  have : M = N := funext fun i => funext fun j => e i j
  rw [← this]
  exact h
end Go.Proofs.Ytnfppebcpagjpaa
