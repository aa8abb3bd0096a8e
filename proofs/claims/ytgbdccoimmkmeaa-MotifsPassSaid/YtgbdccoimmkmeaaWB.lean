/- Rows of works; append. -/
import Derived.Test.YtgbdccoimmkmeaaWA
namespace Go.Proofs.Ytgbdccoimmkmeaa
open Go.RowKit Go.Lib
set_option linter.unusedSimpArgs false
/-- A stitch: its place, its word. -/
structure Wk where
  pl : Int
  wd : ByteArray
def wl (x : Wk) : List Value := [.int .i64 1, .int .i64 x.pl, .string x.wd]
theorem wl_len (x : Wk) : (wl x).length = 3 := rfl
def wfl (W : List Wk) : List Value := W.flatMap wl
theorem wfl_len (W : List Wk) : (wfl W).length = W.length * 3 := by
  induction W with
  | nil => rfl
  | cons a W ih => show (wl a ++ wfl W).length = _; rw [List.length_append, wl_len, ih, List.length_cons]; omega
theorem wfl_app (A B : List Wk) : wfl (A ++ B) = wfl A ++ wfl B := by simp [wfl]
theorem wfl_get (L : List Wk) : ∀ (k : Nat) (a : Wk), L[k]? = some a → ∀ j, j < 3 → (wfl L)[k * 3 + j]? = (wl a)[j]? := by
  induction L with
  | nil => intro k a h; simp at h
  | cons b L ih =>
    intro k a h j hj
    show (wl b ++ wfl L)[k * 3 + j]? = _
    cases k with
    | zero =>
      simp at h; subst h
      rw [List.getElem?_append_left (by rw [wl_len]; omega)]
      congr 1
      omega
    | succ k =>
      rw [List.getElem?_append_right (by rw [wl_len]; omega), wl_len, ← ih k a (by simpa using h) j hj]
      congr 1
      omega
theorem wfl_of (L : List Wk) (i : Nat) (h : i < L.length * 3) : ∃ a, L[i / 3]? = some a ∧ (wfl L)[i]? = (wl a)[i % 3]? := by
  have hk : i / 3 < L.length := by omega
  refine ⟨L[i / 3], List.getElem?_eq_getElem hk, ?_⟩
  have := wfl_get L (i / 3) _ (List.getElem?_eq_getElem hk) (i % 3) (by omega)
  rwa [show i / 3 * 3 + i % 3 = i by omega] at this
theorem wfl_one (L : List Wk) : ∀ u ∈ wfl L, u.oneCell' = true := by
  intro u hu
  obtain ⟨x, _, hx⟩ := List.mem_flatMap.1 hu
  simp only [wl, List.mem_cons, List.not_mem_nil, or_false] at hx
  rcases hx with rfl | rfl | rfl <;> rfl
theorem infoWk : (Try.prog.info? 51).map (fun i => (i.zero, i.size, i.bytes)) = some (some (.agg #[.int .i64 0, .int .i64 0, .string ⟨#[]⟩]), 3, 32) := by kernel_rfl
/-- An own row of works; a slice that reads as works. -/
def WO (B : Nat) (w : World) (v : Value) (W : List Wk) : Prop := w.ownsRow B 51 3 v W.length (wfl W)
def WS (w : World) (v : Value) (W : List Wk) : Prop := ∃ a c, v = .slice a W.length c ∧ W.length ≤ c ∧ c ≤ maxLen ∧ (a = none → c = 0) ∧ ∀ (k : Nat) (x : Wk), W[k]? = some x → ∃ b off, a = some ⟨b, off, none⟩ ∧ b < w.heap.size ∧ w.rangeAt b (off + k * 3) (wl x)
theorem WS.below {w w' : World} {v : Value} {W : List Wk} (h : WS w v W) (hb : Below w.heap.size w w') : WS w' v W := by
  obtain ⟨a, c, e, h1, h2, h3, h4⟩ := h
  refine ⟨a, c, e, h1, h2, h3, fun k x hx => ?_⟩
  obtain ⟨b, off, e2, hlt, hr⟩ := h4 k x hx
  exact ⟨b, off, e2, by have := hb.size; omega, fun j u hu => (hb.cell (p := ⟨b, off + k * 3 + j, none⟩) hlt).trans (hr j u hu)⟩
theorem WO.below {B : Nat} {w w' : World} {v : Value} {W : List Wk} (h : WO B w v W) (hb : Below w.heap.size w w') : WO B w' v W := own_below h hb
theorem WO.mono {B B' : Nat} {w : World} {v : Value} {W : List Wk} (h : WO B w v W) (hb : B' ≤ B) : WO B' w v W := own_mono h hb
theorem wo_nil (B : Nat) (w : World) : WO B w (.slice none 0 0) [] := World.ownsRow_nil _ _ _ _
theorem ws_own {B : Nat} {w : World} {v : Value} {W : List Wk} (h : WO B w v W) : WS w v W := by
  obtain ⟨hl, hh⟩ := h
  rcases hh with ⟨rfl, h0⟩ | ⟨g, cap, cur, rfl, _, hg, hle, hmx, hsz, htk⟩
  · have : W = [] := List.eq_nil_of_length_eq_zero h0
    subst this
    exact ⟨none, 0, rfl, Nat.le_refl _, Nat.zero_le _, fun _ => rfl, fun k x hx => by cases hx⟩
  · refine ⟨some ⟨g, 0, none⟩, cap, rfl, hle, hmx, (fun e => by cases e), fun k x hx => ?_⟩
    have hgs := (Array.getElem?_eq_some_iff.1 hg).1
    refine ⟨g, 0, rfl, hgs, fun j u hu => ?_⟩
    have hk := (List.getElem?_eq_some_iff.1 hx).1
    have hj := (List.getElem?_eq_some_iff.1 hu).1
    rw [wl_len] at hj
    rw [cell_of_row _ _ _ _ _ _ hg]
    have e := wfl_get W k x hx j hj
    rw [← htk, List.getElem?_take_of_lt (by omega), hu] at e
    rw [show 0 + k * 3 + j = k * 3 + j by omega, ← Array.getElem?_toList]
    exact e
/-- append(v, x), x a work. -/
theorem app_wk {ops : Array Oper} {rest : List Oper} {o : Oper} {a : Act} {Q : Exit → Act → World → Prop} {w w0 : World} (B : Nat) (v : Value) (W : List Wk) (x : Wk)
    (hgd : o.guard = none) (s y : Operand) (ho : o.op = .call { callee := .builtin .append, args := #[s, y], argTypes := #[22, 22] }) (hs : a.eval s = v)
    (hown : WO B w v W) (hy : a.eval y = .slice (some ⟨w.heap.size, 0, none⟩) 1 1) (hl : W.length < 100000) (hb : Below B w0 w) (hB : B ≤ w.heap.size)
    (h : ∀ v' w', WO B w' v' (W ++ [x]) → Below B w0 w' → wpList Try.prog ops Q rest (a.put o.dst v') w') :
    wpList Try.prog ops Q (o :: rest) a (w.alloc (.cells #[.int .i64 1, .int .i64 x.pl, .string x.wd] 51)) := by
  obtain ⟨i0, hi, hz0, hz1, hz2⟩ := info_parts infoWk
  refine wpList_append_own _ hgd s y 22 ho B 51 i0 (.agg #[.int .i64 0, .int .i64 0, .string ⟨#[]⟩]) 3 32 Try.underlying22 hi hz0 hz1 hz2 rfl (by decide) v _ _ hs (hown.alloc _) ⟨w.heap.size, 0, none⟩ 1 1 (wl x) hy rfl ?_ ?_ (by unfold maxLen; omega) (by omega) (by simp; omega) ?_
  · intro j u hu
    have hj := (List.getElem?_eq_some_iff.1 hu).1
    rw [wl_len] at hj
    rw [Addr.add_mid, Nat.zero_add, World.cell?_alloc_new, ← Array.getElem?_toList]
    exact hu
  · intro u hu
    exact wfl_one [x] u (by simpa [wfl] using hu)
  · intro v' w' hown' hgrow _
    refine h v' w' ?_ (Below.grown (hb.alloc hB _) hgrow (by simp; omega) fun k e => (hown.lt k e).1)
    unfold WO
    rw [wfl_app, List.length_append, List.length_singleton]
    simpa [wfl] using hown'
/-- append(v, u...). -/
theorem app_wks {ops : Array Oper} {rest : List Oper} {o : Oper} {a : Act} {Q : Exit → Act → World → Prop} {w w0 : World} (B : Nat) (v : Value) (W X : List Wk)
    (hgd : o.guard = none) (s y : Operand) (ho : o.op = .call { callee := .builtin .append, args := #[s, y], argTypes := #[22, 22] }) (hs : a.eval s = v)
    (hown : WO B w v W) (u : Value) (hy : a.eval y = u) (hxs : WS w u X) (hl : W.length + X.length < 100000) (hb : Below B w0 w) (hB : B ≤ w.heap.size)
    (h : ∀ v' w', WO B w' v' (W ++ X) → Below B w0 w' → wpList Try.prog ops Q rest (a.put o.dst v') w') :
    wpList Try.prog ops Q (o :: rest) a w := by
  obtain ⟨i0, hi, hz0, hz1, hz2⟩ := info_parts infoWk
  obtain ⟨sa, sc, rfl, _, _, h00, hxs⟩ := hxs
  cases sa with
  | none =>
    obtain rfl := h00 rfl
    have hx0 : X = [] := by
      cases X with
      | nil => rfl
      | cons x X => obtain ⟨b, off, e, _⟩ := hxs 0 x rfl; cases e
    subst hx0
    refine wpList_append_own_none hgd s y 22 ho B 51 i0 3 Try.underlying22 hi v _ _ hs hown hy (h v w ?_ hb)
    rw [List.append_nil]
    exact hown
  | some ad =>
    refine wpList_append_own _ hgd s y 22 ho B 51 i0 (.agg #[.int .i64 0, .int .i64 0, .string ⟨#[]⟩]) 3 32 Try.underlying22 hi hz0 hz1 hz2 rfl (by decide) v _ _ hs hown ad X.length sc (wfl X) hy (wfl_len X) ?_ (wfl_one X) (by unfold maxLen; omega) (by omega) hB ?_
    · intro j t hj
      have hjl := (List.getElem?_eq_some_iff.1 hj).1
      rw [wfl_len] at hjl
      obtain ⟨x, hx, hg⟩ := wfl_of X j hjl
      obtain ⟨b, off, e, _, hr⟩ := hxs _ x hx
      cases e
      rw [Addr.add_mid]
      have := hr (j % 3) t (by rw [← hg]; exact hj)
      rwa [show off + j / 3 * 3 + j % 3 = off + j by omega] at this
    · intro v' w' hown' hgrow _
      refine h v' w' ?_ (Below.grown hb hgrow hB fun k e => (hown.lt k e).1)
      unfold WO
      rw [wfl_app, List.length_append]
      exact hown'
end Go.Proofs.Ytgbdccoimmkmeaa
