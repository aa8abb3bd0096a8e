/- Rows of syllables of the call's own: elements of three cells; append. -/
import Derived.Test.YtmefpaoakblndaaGreatDoorVB
import Derived.Deep.AppendSrc
namespace Go.Proofs.YtmefpaoakblndaaGreatDoor
open Go.RowKit Go.Lib
/-- A syllable: crosses, twists of the left pair, twists of the right one. -/
structure Syl where
  x : Int
  l : Int
  r : Int
def yl (m : Syl) : List Value := [.int .i64 m.x, .int .i64 m.l, .int .i64 m.r]
theorem yl_len (m : Syl) : (yl m).length = 3 := rfl
theorem yl_one (m : Syl) : ∀ v ∈ yl m, v.oneCell' = true := by
  intro v hv
  simp only [yl, List.mem_cons, List.not_mem_nil, or_false] at hv
  rcases hv with rfl | rfl | rfl <;> rfl
theorem range_belowY {B : Nat} {w w' : World} {b o : Nat} {cs : List Value} (h : w.rangeAt b o cs) (hb : Below B w w') (hlt : b < B) : w'.rangeAt b o cs := fun j v hv => (hb.cell (p := ⟨b, o + j, none⟩) hlt).trans (h j v hv)
theorem there_belowY {B : Nat} {w w' : World} {b o n : Nat} (h : w.there b o n) (hb : Below B w w') (hlt : b < B) : w'.there b o n := fun j hj => by
  rw [hb.cell (p := ⟨b, o + j, none⟩) hlt, hb.frozen (p := ⟨b, o + j, none⟩) hlt]
  exact h j hj
theorem below_setCellsY {B : Nat} {a w : World} (h : Below B a w) {b : Nat} (hb : B ≤ b) (o : Nat) : ∀ (vs : List Value), Below B a (w.setCells b o vs) := by
  intro vs
  induction vs generalizing o w with
  | nil => exact h
  | cons v vs ih => exact ih (h.setCell (p := ⟨b, o, none⟩) hb v) (o + 1)
theorem size_setCellsY (w : World) (b : Nat) : ∀ (vs : List Value) (o : Nat), (w.setCells b o vs).heap.size = w.heap.size := by
  intro vs
  induction vs generalizing w with
  | nil => intro o; rfl
  | cons v vs ih => intro o; exact (ih (w.setCell ⟨b, o, none⟩ v) (o + 1)).trans (by simp [World.setCell])
structure YR (B : Nat) (w : World) (ao : Option Addr) (cap : Nat) (L : List Syl) : Prop where
  le : L.length ≤ cap
  mx : cap ≤ maxLen
  row : 0 < cap → ∃ b off, ao = some ⟨b, off, none⟩ ∧ B ≤ b ∧ b < w.heap.size ∧ (∀ k a, L[k]? = some a → w.rangeAt b (off + k * 3) (yl a)) ∧ w.there b off (cap * 3)
theorem YR.below {B : Nat} {w w' : World} {ao : Option Addr} {cap : Nat} {L : List Syl} (h : YR B w ao cap L) (hb : Below w.heap.size w w') : YR B w' ao cap L :=
  ⟨h.le, h.mx, fun hc => by
    obtain ⟨b, off, e, hB, hs, hr, ht⟩ := h.row hc
    exact ⟨b, off, e, hB, by have := hb.size; omega, fun k a hk => range_belowY (hr k a hk) hb hs, there_belowY ht hb hs⟩⟩
theorem YR.at {B : Nat} {w : World} {ao : Option Addr} {cap k : Nat} {L : List Syl} {a   : Syl} (h : YR B w ao cap L) (hk : L[k]? = some a) :
    ∃ b off, ao = some ⟨b, off, none⟩ ∧ B ≤ b ∧ b < w.heap.size ∧ w.rangeAt b (off + k * 3) (yl a) ∧ w.there b (off + k * 3) 3 := by
  have hlt := (List.getElem?_eq_some_iff.1 hk).1
  have hle := h.le
  obtain ⟨b, off, e, hB, hs, hr, ht⟩ := h.row (by omega)
  refine ⟨b, off, e, hB, hs, hr k a hk, fun j hj => ?_⟩
  have := ht (k * 3 + j) (by omega)
  rwa [← Nat.add_assoc] at this
theorem YR.set {B b off : Nat} {w : World} {cap k : Nat} {L : List Syl} (h : YR B w (some ⟨b, off, none⟩) cap L) (hk : k < L.length) (x   : Syl) :
    YR B (w.setCells b (off + k * 3) (yl x)) (some ⟨b, off, none⟩) cap (L.set k x) := by
  have hle := h.le
  refine ⟨by rw [List.length_set]; exact hle, h.mx, fun hc => ?_⟩
  obtain ⟨b', off', e, hB, hs, hr, ht⟩ := h.row hc
  cases e
  refine ⟨b, off, rfl, hB, by rw [size_setCellsY]; exact hs, fun j a hj => ?_, World.there_setCells ht _ _ _⟩
  rw [List.getElem?_set] at hj
  by_cases e : k = j
  · subst e
    rw [if_pos rfl, if_pos hk] at hj
    obtain rfl := Option.some.inj hj
    refine World.rangeAt_setCells_same w b _ _ (fun i hi => ?_)
    rw [yl_len] at hi
    have := ht (k * 3 + i) (by omega)
    rwa [← Nat.add_assoc] at this
  · rw [if_neg e] at hj
    refine World.rangeAt_setCells_apart (hr j a hj) _ _ _ (.inr ?_)
    rw [yl_len, yl_len]
    omega
theorem infoY : (Tryz.prog.info? 81).map (fun i => (i.zero, i.size, i.bytes)) = some (some (.agg #[.int .i64 0, .int .i64 0, .int .i64 0]), 3, 24) := by kernel_rfl
theorem below_moreY {B C : Nat} {w w' : World} (h : Below C w w') (hB : B ≤ C) : Below B w w' := h.mono hB
theorem yl_get {x   : Syl} {j : Nat} {u : Value} (h : (yl x)[j]? = some u) : j < 3 := by
  have := (List.getElem?_eq_some_iff.1 h).1
  rwa [yl_len] at this
/-- The cells of a list of factors. -/
def yfl (L : List Syl) : List Value := L.flatMap yl
theorem yfl_len (L : List Syl) : (yfl L).length = L.length * 3 := by
  induction L with
  | nil => rfl
  | cons a L ih => show (yl a ++ yfl L).length = _; rw [List.length_append, yl_len, ih, List.length_cons]; omega
theorem yfl_get (L : List Syl) : ∀ (k : Nat) (a   : Syl), L[k]? = some a → ∀ j, j < 3 → (yfl L)[k * 3 + j]? = (yl a)[j]? := by
  induction L with
  | nil => intro k a h; simp at h
  | cons b L ih =>
    intro k a h j hj
    show (yl b ++ yfl L)[k * 3 + j]? = _
    cases k with
    | zero =>
      simp at h; subst h
      rw [List.getElem?_append_left (by rw [yl_len]; omega)]
      congr 1
      omega
    | succ k =>
      rw [List.getElem?_append_right (by rw [yl_len]; omega), yl_len, ← ih k a (by simpa using h) j hj]
      congr 1
      omega
theorem yfl_of (L : List Syl) (i : Nat) (h : i < L.length * 3) : ∃ a, L[i / 3]? = some a ∧ (yfl L)[i]? = (yl a)[i % 3]? := by
  have hk : i / 3 < L.length := by omega
  refine ⟨L[i / 3], List.getElem?_eq_getElem hk, ?_⟩
  have := yfl_get L (i / 3) _ (List.getElem?_eq_getElem hk) (i % 3) (by omega)
  rwa [show i / 3 * 3 + i % 3 = i by omega] at this
/-- append(factors, x): where there is room, and where there is none. -/
theorem append_syl {B : Nat} {w : World} {ao : Option Addr} {cap : Nat} {L : List Syl} (h : YR B w ao cap L) (hL : L.length < 50000) (hB : B ≤ w.heap.size) (x   : Syl) (g c : Nat) (hx : w.rangeAt g 0 (yl x)) (ty : TypeId) :
    ∃ ao' cap' w', (Builtin.append_ #[75, 75] ty #[.slice ao L.length cap, .slice (some ⟨g, 0, none⟩) 1 c]).run Tryz.prog w = .ok (.slice ao' (L.length + 1) cap') w' ∧ YR B w' ao' cap' (L ++ [x]) ∧ Below B w w' ∧ w.heap.size ≤ w'.heap.size := by
  obtain ⟨i0, hi, hxx⟩ := Option.map_eq_some_iff.1 infoY
  simp only [Prod.mk.injEq] at hxx
  obtain ⟨hz0, hz1, hz2⟩ := hxx
  have hsrc : Src Tryz.prog 3 75 (.slice (some ⟨g, 0, none⟩) 1 c) 1 (yl x) w :=
    Src.ofSlice w Tryz.underlying75 ⟨g, 0, none⟩ 1 c (yl x) (by rw [yl_len]) (fun j u hu => by rw [Addr.add_mid]; exact hx j u hu) (yl_one x)
  have hle := h.le
  have hmx := h.mx
  by_cases hroom : L.length + 1 ≤ cap
  · obtain ⟨b, off, e, hBb, hs, hr, ht⟩ := h.row (by omega)
    subst e
    have htx : w.there b (off + L.length * 3) 3 := fun j hj => by
      have := ht (L.length * 3 + j) (by omega)
      rwa [← Nat.add_assoc] at this
    have hrun := run_append_room_src (P := Tryz.prog) w 75 75 ty 81 i0 Tryz.underlying75 hi b off L.length cap _ 1 (yl x) (by rw [hz1]; exact hsrc) hroom
      (fun j hj => by rw [hz1]; rw [yl_len] at hj; exact (htx j hj).1) (fun j hj => by rw [hz1]; rw [yl_len] at hj; exact (htx j hj).2)
    rw [hz1] at hrun
    refine ⟨_, _, _, hrun, ⟨by simpa using hroom, hmx, fun hc => ⟨b, off, rfl, hBb, by rw [size_setCellsY]; exact hs, fun k a hk => ?_, World.there_setCells ht _ _ _⟩⟩, below_setCellsY (Below.refl _ _) hBb _ _, by rw [size_setCellsY]; exact Nat.le_refl _⟩
    rcases Nat.lt_or_ge k L.length with hk' | hk'
    · rw [List.getElem?_append_left hk'] at hk
      refine World.rangeAt_setCells_apart (hr k a hk) _ _ _ (.inr ?_)
      rw [yl_len, yl_len]; omega
    · rw [List.getElem?_append_right hk'] at hk
      have hk0 : k = L.length := by
        rcases Nat.eq_zero_or_pos (k - L.length) with h0 | h0
        · omega
        · rw [List.getElem?_eq_none (by simp; omega)] at hk; cases hk
      subst hk0
      simp at hk
      subst hk
      exact World.rangeAt_setCells_same w b _ _ (by rw [yl_len]; exact htx)
  · have hc0 : cap < L.length + 1 := by omega
    have hold : (Builtin.firstCells i0.size L.length (.slice ao L.length cap)).run Tryz.prog w.drew = .ok (yfl L).toArray w.drew := by
      rw [hz1]
      rcases Nat.eq_zero_or_pos cap with h0 | h0
      · have hl0 : L = [] := List.eq_nil_of_length_eq_zero (by omega)
        subst hl0
        cases ao with
        | none => exact run_firstCells_none w.drew 3 0 0 cap
        | some a' => exact run_firstCells_some w.drew 3 0 a' 0 cap [] (by simp) (by intro _ _ h'; simp at h')
      · obtain ⟨b, off, e, hBb, hs, hr, ht⟩ := h.row h0
        subst e
        refine run_firstCells_some w.drew 3 L.length ⟨b, off, none⟩ L.length cap (yfl L) (by rw [yfl_len]) (fun j u hu => ?_)
        have hj : j < L.length * 3 := by
          have := (List.getElem?_eq_some_iff.1 hu).1
          rwa [yfl_len] at this
        obtain ⟨a, ha, hf⟩ := yfl_of L j hj
        rw [hf] at hu
        have := hr (j / 3) a ha (j % 3) u hu
        rw [Addr.add_mid]
        have e1 : off + j = off + j / 3 * 3 + j % 3 := by omega
        rw [e1]
        simpa using this
    have hrun := run_append_grow_src (P := Tryz.prog) w 75 75 ty 81 i0 (.agg #[.int .i64 0, .int .i64 0, .int .i64 0]) Tryz.underlying75 hi hz0 ao L.length cap (yfl L) hold _ 1 (yl x) (by rw [hz1]; exact hsrc)
      hc0 (by omega) (growslice_fits hc0 (by rw [hz2]; omega))
    have hge := grownCap_ge w (L.length + 1) cap 81
    have hcm := grownCap_le_maxLen w (L.length + 1) cap 81 (by unfold maxLen; omega)
    obtain ⟨gc, hgc⟩ : ∃ gc, gc = grownCap w (L.length + 1) cap 81 := ⟨_, rfl⟩
    rw [← hgc] at hrun hge hcm
    have hsz : ((yfl L ++ yl x).toArray ++ Builtin.zeroCells (Value.agg #[.int .i64 0, .int .i64 0, .int .i64 0]).cells (gc - (L.length + 1))).size = gc * 3 := by
      rw [Array.size_append, List.size_toArray, List.length_append, yfl_len, yl_len, size_zeroCells]
      have : (Value.agg #[.int .i64 0, .int .i64 0, .int .i64 0]).cells.size = 3 := rfl
      rw [this]
      omega
    refine ⟨_, _, _, hrun, ⟨by simpa using hge, hcm, fun _ => ⟨w.heap.size, 0, rfl, hB, by simp, fun k a hk => fun j u hu => ?_, fun j hj => ⟨?_, World.frozen?_alloc_new w.drew _ _ (0 + j)⟩⟩⟩, (Below.refl _ w).drew.alloc hB _, by simp⟩
    · have hj := yl_get hu
      have hkl : k < L.length + 1 := by
        have := (List.getElem?_eq_some_iff.1 hk).1
        simpa using this
      have e1 : (w.drew.alloc (.cells ((yfl L ++ yl x).toArray ++ Builtin.zeroCells (Value.agg #[.int .i64 0, .int .i64 0, .int .i64 0]).cells (gc - (L.length + 1))) 81)).cell? ⟨w.heap.size, 0 + k * 3 + j, none⟩ = _ := World.cell?_alloc_new w.drew _ _ (0 + k * 3 + j)
      rw [e1, Nat.zero_add, Array.getElem?_append_left (by rw [List.size_toArray, List.length_append, yfl_len, yl_len]; omega), List.getElem?_toArray]
      have e2 : yfl L ++ yl x = yfl (L ++ [x]) := by simp [yfl]
      rw [e2, yfl_get _ k a hk j hj]
      exact hu
    · have e1 : (w.drew.alloc (.cells ((yfl L ++ yl x).toArray ++ Builtin.zeroCells (Value.agg #[.int .i64 0, .int .i64 0, .int .i64 0]).cells (gc - (L.length + 1))) 81)).cell? ⟨w.heap.size, 0 + j, none⟩ = _ := World.cell?_alloc_new w.drew _ _ (0 + j)
      rw [e1, Nat.zero_add, Array.getElem?_eq_getElem (by rw [hsz]; exact hj)]
      rfl
set_option linter.unusedSimpArgs false
set_option linter.unusedVariables false
theorem list_append_syl {ops : Array Oper} {rest : List Oper} {o : Oper} {a : Act} {w : World} {Q : Exit → Act → World → Prop} (hgd : o.guard = none) (s y : Operand) (ho : o.op = .call { callee := .builtin .append, args := #[s, y], argTypes := #[75, 75] })
    {B : Nat} {ao : Option Addr} {cap : Nat} {L : List Syl} (h : YR B w ao cap L) (hL : L.length < 50000) (hB : B ≤ w.heap.size) (x : Syl) (g c : Nat) (hx : w.rangeAt g 0 (yl x))
    (hs : a.eval s = .slice ao L.length cap) (hy : a.eval y = .slice (some ⟨g, 0, none⟩) 1 c) (hk : ∀ ao' cap' w', YR B w' ao' cap' (L ++ [x]) → Below B w w' → wpList Tryz.prog ops Q rest (a.put o.dst (.slice ao' (L.length + 1) cap')) w') :
    wpList Tryz.prog ops Q (o :: rest) a w := by
  obtain ⟨ao', cap', w', hr, hf, hb, _⟩ := append_syl h hL hB x g c hx o.type
  refine wpList_plain hgd fun K hK => ?_
  unfold Oper.wp execOp
  simp only [ho, resolve, invoke, builtin, Sem.run_bind, Sem.run_pure, Result.andThen_ok, List.map_toArray, List.map_cons, List.map_nil, hs, hy, hr]
  exact hK _ _ (hk ao' cap' w' hf hb)
theorem YR.nil (B : Nat) (w : World) : YR B w none 0 [] := ⟨Nat.le_refl _, Nat.zero_le _, fun h => absurd h (by omega)⟩
theorem YR.mono {B B' : Nat} {w : World} {ao : Option Addr} {cap : Nat} {L : List Syl} (h : YR B w ao cap L) (hB : B' ≤ B) : YR B' w ao cap L :=
  ⟨h.le, h.mx, fun hc => by obtain ⟨b, off, e, h1, h2, h3, h4⟩ := h.row hc; exact ⟨b, off, e, by omega, h2, h3, h4⟩⟩
end Go.Proofs.YtmefpaoakblndaaGreatDoor
