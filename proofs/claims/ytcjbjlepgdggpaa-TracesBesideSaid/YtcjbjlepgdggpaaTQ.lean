/- Taken over: OA OB OJ OQ OR OU. -/
import Derived.Test.YtcjbjlepgdggpaaFU

namespace Go.Proofs.Ytcjbjlepgdggpaa
section
open Go.RowKit Go.Shelf Go.Lib
/-- A path, read backwards, along the row. -/
def Tr (bk : Nat → Nat) (a : Nat) : List Nat → Prop
  | [] => False
  | [x] => x = a ∧ x < 400
  | x :: y :: r => bk x = y ∧ y < x ∧ x < 400 ∧ Tr bk a (y :: r)
theorem Tr.ge {bk : Nat → Nat} {a : Nat} : ∀ {r : List Nat} {x : Nat}, Tr bk a (x :: r) → a ≤ x ∧ x < 400 ∧ (x = a ↔ r = [])
  | [], x, h => ⟨by have := h.1; omega, h.2, by simp [h.1]⟩
  | y :: r, x, h => by
    obtain ⟨h1, h2, h3, h4⟩ := h
    have := (Tr.ge h4).1
    exact ⟨by omega, h3, ⟨fun e => by omega, fun e => by cases e⟩⟩
end
section
open Go.RowKit Go.Shelf Go.Lib
def wkN (W : List Wk) (i : Nat) : Wk := (W[i]?).getD ⟨0, 0, ⟨#[]⟩⟩
def tchN (W : List Wk) (i j : Nat) : Bool := touchP (wkN W i) (wkN W j)
theorem nodup_len : ∀ (n : Nat) (l : List Nat), l.Nodup → (∀ x ∈ l, x < n) → l.length ≤ n
  | 0, l, _, h => by
    cases l with
    | nil => simp
    | cons a l => exact absurd (h a (List.mem_cons_self)) (by omega)
  | n + 1, l, hd, h => by
    have h1 := nodup_len n (l.erase n) (hd.erase n) (fun x hx => by
      have := (List.Nodup.mem_erase_iff hd).1 hx
      have := h x this.2
      omega)
    rw [List.length_erase] at h1
    split at h1 <;> omega
end
section
open Go.RowKit Go.Shelf
set_option linter.unusedSimpArgs false
attribute [local irreducible] wpQuiet
theorem flat_get {α : Type} (f : α → List Value) (n : Nat) (hf : ∀ a, (f a).length = n) (L : List α) : ∀ (k : Nat) (a : α), L[k]? = some a → ∀ j, j < n → (L.flatMap f)[k * n + j]? = (f a)[j]? := by
  induction L with
  | nil => intro k a h; simp at h
  | cons b L ih =>
    intro k a h j hj
    rw [List.flatMap_cons]
    cases k with
    | zero =>
      simp at h; subst h
      rw [List.getElem?_append_left (by rw [hf]; omega)]
      congr 1
      omega
    | succ k =>
      have e : (k + 1) * n + j = n + (k * n + j) := by rw [Nat.succ_mul]; omega
      rw [List.getElem?_append_right (by rw [hf, e]; omega), hf, ← ih k a (by simpa using h) j hj]
      congr 1
      omega
/-- A slice that reads as these edges. -/
def ES (w : World) (v : Value) (L : List Ed) : Prop := ∃ a c, v = .slice a L.length c ∧ ∀ (k : Nat) (x : Ed), L[k]? = some x → ∃ b off, a = some ⟨b, off, none⟩ ∧ b < w.heap.size ∧ w.rangeAt b (off + k * 4) x.cs
theorem ES.below {w w' : World} {v : Value} {L : List Ed} (h : ES w v L) (hb : Below w.heap.size w w') : ES w' v L := by
  obtain ⟨a, c, e, h4⟩ := h
  refine ⟨a, c, e, fun k x hx => ?_⟩
  obtain ⟨b, off, e2, hlt, hr⟩ := h4 k x hx
  exact ⟨b, off, e2, by have := hb.size; omega, range_below3 hr hlt hb⟩
theorem es_own {B : Nat} {w : World} {v : Value} {L : List Ed} (h : w.ownsRow B 76 4 v L.length (L.flatMap Ed.cs)) : ES w v L := by
  obtain ⟨hl, hh⟩ := h
  rcases hh with ⟨rfl, h0⟩ | ⟨g, cap, cur, rfl, _, hg, hle, hmx, hsz, htk⟩
  · have : L = [] := List.eq_nil_of_length_eq_zero h0
    subst this
    exact ⟨none, 0, rfl, fun k x hx => by cases hx⟩
  · refine ⟨some ⟨g, 0, none⟩, cap, rfl, fun k x hx => ?_⟩
    have hgs := (Array.getElem?_eq_some_iff.1 hg).1
    refine ⟨g, 0, rfl, hgs, fun j u hu => ?_⟩
    have hk := (List.getElem?_eq_some_iff.1 hx).1
    have hj := (List.getElem?_eq_some_iff.1 hu).1
    have hj4 : j < 4 := by simpa [Ed.cs] using hj
    rw [cell_of_row _ _ _ _ _ _ hg]
    have e := flat_get Ed.cs 4 (fun _ => rfl) L k x hx j hj4
    rw [← htk, List.getElem?_take_of_lt (by omega), hu] at e
    rw [show 0 + k * 4 + j = k * 4 + j by omega, ← Array.getElem?_toList]
    exact e
set_option maxHeartbeats 4000000 in
set_option maxRecDepth 100000 in
theorem sameI_yes (X : List Int) (u v : Value) (w : World) (hu : IS w u X) (hv : IS w v X) (hl : X.length ≤ 200000) : Calls Try.prog 19 #[u, v] w fun e w' => e = .returned (.bool true) ∧ Below w.heap.size w w' := by
  obtain ⟨a1, c1, rfl, _, _, _, h1⟩ := hu
  obtain ⟨a2, c2, rfl, _, _, _, h2⟩ := hv
  have H1 := Lib.hid h1
  have H2 := Lib.hid h2
  clear h1 h2
  go_enter Try.func19, Try.ntmps19
  go_wp2_with fail
  go_loopw [5] (fun i wr => ∃ k : Nat, k ≤ X.length ∧ i = .int .i64 (k : Int) ∧ Below w.heap.size w wr) (fun i _ => X.length - (intOf i).toNat)
  case atStart => exact ⟨0, Nat.zero_le _, rfl, Below.refl _ _⟩
  case round =>
    obtain ⟨k, hk, rfl, hbw⟩ := hrel
    have HB := Lib.hid hbw
    have hzz := hbw.size
    rename World => wk
    by_cases hkl : k < X.length
    · have k0 : (0 : Int) ≤ (k : Int) := by omega
      have k1 : (k : Int) < (X.length : Int) := by omega
      obtain ⟨x, hx⟩ : ∃ x, X[k]? = some x := ⟨_, List.getElem?_eq_getElem hkl⟩
      obtain ⟨b1, o1, rfl, hb1, hr1⟩ := H1.out k x hx
      obtain ⟨b2, o2, rfl, hb2, hr2⟩ := H2.out k x hx
      have e1 : wk.cell? ⟨b1, o1 + k, none⟩ = some (.int .i64 x) := (hbw.cell (p := ⟨b1, o1 + k, none⟩) hb1).trans hr1
      have e2 : wk.cell? ⟨b2, o2 + k, none⟩ = some (.int .i64 x) := (hbw.cell (p := ⟨b2, o2 + k, none⟩) hb2).trans hr2
      clear hr1 hr2 hx hbw
      go_wp2_with fail
      go_quiet (fail)
      rename_i nq
      have BD := Lib.hid (below_drewN (Below.refl wk.heap.size wk) nq)
      go_wp2_with fail
      go_roundw
      case rel => exact ⟨k + 1, hkl, by go_num, HB.out.trans (BD.out.mono hzz)⟩
      case measure => (simp [intOf] <;> omega)
    · have k1 : ¬ (k : Int) < (X.length : Int) := by omega
      go_wp2_with fail
      go_ret
      exact ⟨rfl, hbw⟩
end
section
open Go.RowKit Go.Shelf
theorem wkN_get {W : List Wk} {i : Nat} {x : Wk} (h : W[i]? = some x) : wkN W i = x := by unfold wkN; rw [h]; rfl
/-- Where an edge ends. -/
theorem endL_char (W : List Wk) (p : Int) : ∀ (m f : Nat), W.length ≤ f + m →
    (∃ c x, f ≤ c ∧ W[c]? = some x ∧ endL (W.drop f) f p = ((c : Int), p - x.pl) ∧ 0 ≤ p - x.pl ∧ p - x.pl < 2 ∧ ∀ k y, f ≤ k → k < c → W[k]? = some y → ¬ (0 ≤ p - y.pl ∧ p - y.pl < 2)) ∨
    (endL (W.drop f) f p = (-1, p) ∧ ∀ k y, f ≤ k → W[k]? = some y → ¬ (0 ≤ p - y.pl ∧ p - y.pl < 2))
  | 0, f, h => .inr ⟨endL_none (by omega), fun k y hk hy => by have := (List.getElem?_eq_some_iff.1 hy).1; omega⟩
  | m + 1, f, h => by
    by_cases hf : f < W.length
    · obtain ⟨x, hx⟩ : ∃ x, W[f]? = some x := ⟨_, List.getElem?_eq_getElem hf⟩
      by_cases hp : 0 ≤ p - x.pl ∧ p - x.pl < 2
      · exact .inl ⟨f, x, Nat.le_refl _, hx, endL_hit hx hp.1 hp.2, hp.1, hp.2, fun k y h1 h2 => by omega⟩
      · rw [endL_miss hx hp]
        rcases endL_char W p m (f + 1) (by omega) with ⟨c, y, h1, h2, h3, h4, h5, h6⟩ | ⟨h1, h2⟩
        · refine .inl ⟨c, y, by omega, h2, h3, h4, h5, fun k z k1 k2 kz => ?_⟩
          by_cases e : k = f
          · subst e
            rw [hx] at kz
            cases kz
            exact hp
          · exact h6 k z (by omega) k2 kz
        · refine .inr ⟨h1, fun k z k1 kz => ?_⟩
          by_cases e : k = f
          · subst e
            rw [hx] at kz
            cases kz
            exact hp
          · exact h2 k z (by omega) kz
    · exact .inr ⟨endL_none (by omega), fun k y hk hy => by have := (List.getElem?_eq_some_iff.1 hy).1; omega⟩
theorem tch_iff {W : List Wk} {i j : Nat} {x y : Wk} (hx : W[i]? = some x) (hy : W[j]? = some y) : tchN W i j = true ↔ (x.pl - y.pl < 2 ∧ y.pl - x.pl < 2) := by
  unfold tchN touchP
  rw [wkN_get hx, wkN_get hy]
  simp
end
section
open Go.RowKit Go.Shelf
set_option linter.unusedSimpArgs false
attribute [local irreducible] wpQuiet
theorem mk_boolsN (n : Nat) (hn : n < 100000) (W : World) : (Instr.makeSlice 71 (.int .i64 (n : Int)) (.int .i64 (n : Int))).run Try.prog W = .ok (.slice (some ⟨W.heap.size, 0, none⟩) n n) (W.alloc (.cells (madeCells #[.bool false] n) 4)) := by
  obtain ⟨i0, hi, hz0, hz1, hz2⟩ := info_parts infoBool
  have h := run_make (P := Try.prog) W 71 4 i0 (.bool false) Try.underlying71 hi hz0 .i64 .i64 (n : Int) (n : Int) (by omega) (by omega) (by rw [hz2]; omega) (by omega)
  rw [hz1] at h
  simp at h
  exact h
theorem load_boolA (ad : Addr) (v : Value) (w : World) (h : w.cell? ad = some v) : (Instr.loadAt 4 (.pointer (some ad))).run Try.prog w = .ok v w := by
  simp [Instr.loadAt, Instr.sureAddr, loadVar, go_sem, Try.isAgg4, h]
def blC (n : Nat) (A : Nat → Bool) : List Value := (List.range n).map fun (j : Nat) => .bool (A j)
theorem blC_len (n : Nat) (A : Nat → Bool) : (blC n A).length = n := by simp [blC]
theorem blC_get (n : Nat) (A : Nat → Bool) {j : Nat} (h : j < n) : (blC n A)[j]? = some (.bool (A j)) := by simp [blC, h]
theorem blC_set (n : Nat) (A : Nat → Bool) (i : Nat) : (blC n A).set i (.bool true) = blC n (fun j => decide (j = i) || A j) := by
  apply List.ext_getElem?
  intro j
  rw [List.getElem?_set]
  by_cases c : i = j
  · subst c
    rw [if_pos rfl, blC_len]
    by_cases h : i < n
    · rw [if_pos h, blC_get _ _ h]
      simp
    · rw [if_neg h, List.getElem?_eq_none (by rw [blC_len]; omega)]
  · rw [if_neg c]
    by_cases h : j < n
    · rw [blC_get _ _ h, blC_get _ _ h, decide_eq_false (show ¬ j = i from fun h => c h.symm), Bool.false_or]
    · rw [List.getElem?_eq_none (by rw [blC_len]; omega), List.getElem?_eq_none (by rw [blC_len]; omega)]
theorem blC_made (n : Nat) : (madeCells #[.bool false] n).toList = blC n (fun _ => false) := by
  apply List.ext_getElem?
  intro j
  by_cases h : j < n
  · rw [Array.getElem?_toList, made_one _ _ _ h, blC_get _ _ h]
  · rw [List.getElem?_eq_none (by simp [madeCells]; omega), List.getElem?_eq_none (by rw [blC_len]; omega)]
/-- An own row of Booleans. -/
def BO (B : Nat) (w : World) (g n : Nat) (A : Nat → Bool) : Prop := w.ownsRow B 4 1 (.slice (some ⟨g, 0, none⟩) n n) n (blC n A)
theorem bo_made (n B : Nat) (hn : n < 100000) (W : World) (hB : B ≤ W.heap.size) : BO B (W.alloc (.cells (madeCells #[.bool false] n) 4)) W.heap.size n (fun _ => false) := by
  unfold BO
  rw [← blC_made]
  exact World.ownsRow_lit W _ n hB (by unfold maxLen; omega) (by rw [size_madeCells]; omega)
theorem BO.below {B g n : Nat} {w w' : World} {A : Nat → Bool} (h : BO B w g n A) (hb : Below w.heap.size w w') : BO B w' g n A := own_below h hb
theorem BO.cell {B g n : Nat} {w : World} {A : Nat → Bool} (h : BO B w g n A) {j : Nat} (hj : j < n) : w.cell? ⟨g, j, none⟩ = some (.bool (A j)) := by
  have := World.ownsRow.cellAt h j (by omega)
  rwa [blC_get _ _ hj] at this
theorem BO.frozen {B g n : Nat} {w : World} {A : Nat → Bool} (h : BO B w g n A) (j : Nat) : w.frozen? ⟨g, j, none⟩ = false := World.ownsRow.frozenAt h j
theorem BO.set {B g n : Nat} {w : World} {A : Nat → Bool} (h : BO B w g n A) (i : Nat) : BO B (w.setCell ⟨g, i, none⟩ (.bool true)) g n (fun j => decide (j = i) || A j) := by
  unfold BO
  rw [← blC_set]
  exact (World.ownsRow.stored h i (.bool true)).1
theorem BO.ge {B g n : Nat} {w : World} {A : Nat → Bool} (h : BO B w g n A) : B ≤ g := (World.ownsRow.lt h g rfl).1
end
section
open Go.RowKit Go.Shelf
theorem top_get (pr : Nat) (W : List Wk) (p : Nat) (h : p < pr) : (edgesL pr W)[p]? = some (topE W p) := by
  unfold edgesL
  rw [List.getElem?_append_left (by rw [List.length_map, List.length_range]; exact h), List.getElem?_map, List.getElem?_range h]
  rfl
theorem down_get (W : List Wk) : ∀ (L : List Wk) (i0 i j : Nat) (x : Wk), j < 2 → L[i]? = some x → (downE W L i0)[2 * i + j]? = some (sideE W (i0 + i) x j)
  | [], _, i, _, _, _, h => by simp at h
  | y :: L, i0, 0, j, x, hj, h => by
    simp at h
    subst h
    have : j = 0 ∨ j = 1 := by omega
    rcases this with rfl | rfl <;> rfl
  | y :: L, i0, i + 1, j, x, hj, h => by
    have := down_get W L (i0 + 1) i j x hj (by simpa using h)
    rw [show i0 + 1 + i = i0 + (i + 1) by omega] at this
    rw [show 2 * (i + 1) + j = (2 * i + j) + 1 + 1 by omega]
    simpa [downE] using this
theorem side_get (pr : Nat) (W : List Wk) (i j : Nat) (x : Wk) (hj : j < 2) (h : W[i]? = some x) : (edgesL pr W)[pr + 2 * i + j]? = some (sideE W i x j) := by
  unfold edgesL
  rw [List.getElem?_append_right (by rw [List.length_map, List.length_range]; omega), List.length_map, List.length_range, show pr + 2 * i + j - pr = 2 * i + j by omega, down_get W W 0 i j x hj h, Nat.zero_add]
def Wk.takes (y : Wk) (p : Nat) : Prop := 0 ≤ (p : Int) - y.pl ∧ (p : Int) - y.pl < 2
theorem tch_of {W : List Wk} {a b p : Nat} {x y : Wk} (hx : W[a]? = some x) (hy : W[b]? = some y) (h1 : x.takes p) (h2 : y.takes p) : tchN W a b = true := by
  rw [tch_iff hx hy]
  unfold Wk.takes at h1 h2
  omega
end
end Go.Proofs.Ytcjbjlepgdggpaa
