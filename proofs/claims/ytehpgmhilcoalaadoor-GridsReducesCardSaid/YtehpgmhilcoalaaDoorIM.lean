/- A row of points of the call's own: elements of two cells. -/
import Derived.Test.YtehpgmhilcoalaaDoorGV
import Derived.Deep.AppendSrc
namespace Go.Proofs.YtehpgmhilcoalaaDoor
open Go.RowKit Go.Lib
def qlP (m : Pt) : List Value := [.int .i64 m.x, .int .i64 m.y]
theorem qlP_len (m : Pt) : (qlP m).length = 2 := rfl
theorem qlP_one (m : Pt) : ∀ v ∈ qlP m, v.oneCell' = true := by
  intro v hv
  simp only [qlP, List.mem_cons, List.not_mem_nil, or_false] at hv
  rcases hv with rfl | rfl <;> rfl
structure FRP (B : Nat) (w : World) (ao : Option Addr) (cap : Nat) (L : List Pt) : Prop where
  le : L.length ≤ cap
  mx : cap ≤ maxLen
  row : 0 < cap → ∃ b off, ao = some ⟨b, off, none⟩ ∧ B ≤ b ∧ b < w.heap.size ∧ (∀ k a, L[k]? = some a → w.rangeAt b (off + k * 2) (qlP a)) ∧ w.there b off (cap * 2)
theorem FRP.below {B : Nat} {w w' : World} {ao : Option Addr} {cap : Nat} {L : List Pt} (h : FRP B w ao cap L) (hb : Below w.heap.size w w') : FRP B w' ao cap L :=
  ⟨h.le, h.mx, fun hc => by
    obtain ⟨b, off, e, hB, hs, hr, ht⟩ := h.row hc
    exact ⟨b, off, e, hB, by have := hb.size; omega, fun k a hk => range_belowM (hr k a hk) hb hs, there_below ht hb hs⟩⟩
theorem FRP.at {B : Nat} {w : World} {ao : Option Addr} {cap k : Nat} {L : List Pt} {a   : Pt} (h : FRP B w ao cap L) (hk : L[k]? = some a) :
    ∃ b off, ao = some ⟨b, off, none⟩ ∧ B ≤ b ∧ b < w.heap.size ∧ w.rangeAt b (off + k * 2) (qlP a) ∧ w.there b (off + k * 2) 2 := by
  have hlt := (List.getElem?_eq_some_iff.1 hk).1
  have hle := h.le
  obtain ⟨b, off, e, hB, hs, hr, ht⟩ := h.row (by omega)
  refine ⟨b, off, e, hB, hs, hr k a hk, fun j hj => ?_⟩
  have := ht (k * 2 + j) (by omega)
  rwa [← Nat.add_assoc] at this
theorem FRP.set {B b off : Nat} {w : World} {cap k : Nat} {L : List Pt} (h : FRP B w (some ⟨b, off, none⟩) cap L) (hk : k < L.length) (x   : Pt) :
    FRP B (w.setCells b (off + k * 2) (qlP x)) (some ⟨b, off, none⟩) cap (L.set k x) := by
  have hle := h.le
  refine ⟨by rw [List.length_set]; exact hle, h.mx, fun hc => ?_⟩
  obtain ⟨b', off', e, hB, hs, hr, ht⟩ := h.row hc
  cases e
  refine ⟨b, off, rfl, hB, by rw [size_setCells']; exact hs, fun j a hj => ?_, World.there_setCells ht _ _ _⟩
  rw [List.getElem?_set] at hj
  by_cases e : k = j
  · subst e
    rw [if_pos rfl, if_pos hk] at hj
    obtain rfl := Option.some.inj hj
    refine World.rangeAt_setCells_same w b _ _ (fun i hi => ?_)
    rw [qlP_len] at hi
    have := ht (k * 2 + i) (by omega)
    rwa [← Nat.add_assoc] at this
  · rw [if_neg e] at hj
    refine World.rangeAt_setCells_apart (hr j a hj) _ _ _ (.inr ?_)
    rw [qlP_len, qlP_len]
    omega

theorem infoP : (Tryd.prog.info? 25).map (fun i => (i.zero, i.size, i.bytes)) = some (some (.agg #[.int .i64 0, .int .i64 0]), 2, 16) := by kernel_rfl
theorem qlP_get {x   : Pt} {j : Nat} {u : Value} (h : (qlP x)[j]? = some u) : j < 2 := by
  have := (List.getElem?_eq_some_iff.1 h).1
  rwa [qlP_len] at this
/-- The cells of a list of factors. -/
def flP (L : List Pt) : List Value := L.flatMap qlP
theorem flP_len (L : List Pt) : (flP L).length = L.length * 2 := by
  induction L with
  | nil => rfl
  | cons a L ih => show (qlP a ++ flP L).length = _; rw [List.length_append, qlP_len, ih, List.length_cons]; omega
theorem flP_get (L : List Pt) : ∀ (k : Nat) (a   : Pt), L[k]? = some a → ∀ j, j < 2 → (flP L)[k * 2 + j]? = (qlP a)[j]? := by
  induction L with
  | nil => intro k a h; simp at h
  | cons b L ih =>
    intro k a h j hj
    show (qlP b ++ flP L)[k * 2 + j]? = _
    cases k with
    | zero =>
      simp at h; subst h
      rw [List.getElem?_append_left (by rw [qlP_len]; omega)]
      congr 1
      omega
    | succ k =>
      rw [List.getElem?_append_right (by rw [qlP_len]; omega), qlP_len, ← ih k a (by simpa using h) j hj]
      congr 1
      omega
theorem flP_of (L : List Pt) (i : Nat) (h : i < L.length * 2) : ∃ a, L[i / 2]? = some a ∧ (flP L)[i]? = (qlP a)[i % 2]? := by
  have hk : i / 2 < L.length := by omega
  refine ⟨L[i / 2], List.getElem?_eq_getElem hk, ?_⟩
  have := flP_get L (i / 2) _ (List.getElem?_eq_getElem hk) (i % 2) (by omega)
  rwa [show i / 2 * 2 + i % 2 = i by omega] at this

/-- append(factors, x): where there is room, and where there is none. -/
theorem append_facP {B : Nat} {w : World} {ao : Option Addr} {cap : Nat} {L : List Pt} (h : FRP B w ao cap L) (hL : L.length < 50000) (hB : B ≤ w.heap.size) (x   : Pt) (g c : Nat) (hx : w.rangeAt g 0 (qlP x)) (ty : TypeId) :
    ∃ ao' cap' w', (Builtin.append_ #[73, 73] ty #[.slice ao L.length cap, .slice (some ⟨g, 0, none⟩) 1 c]).run Tryd.prog w = .ok (.slice ao' (L.length + 1) cap') w' ∧ FRP B w' ao' cap' (L ++ [x]) ∧ Below B w w' ∧ w.heap.size ≤ w'.heap.size := by
  obtain ⟨i0, hi, hxx⟩ := Option.map_eq_some_iff.1 infoP
  simp only [Prod.mk.injEq] at hxx
  obtain ⟨hz0, hz1, hz2⟩ := hxx
  have hsrc : Src Tryd.prog 2 73 (.slice (some ⟨g, 0, none⟩) 1 c) 1 (qlP x) w :=
    Src.ofSlice w Tryd.underlying73 ⟨g, 0, none⟩ 1 c (qlP x) (by rw [qlP_len]) (fun j u hu => by rw [Addr.add_mid]; exact hx j u hu) (qlP_one x)
  have hle := h.le
  have hmx := h.mx
  by_cases hroom : L.length + 1 ≤ cap
  · obtain ⟨b, off, e, hBb, hs, hr, ht⟩ := h.row (by omega)
    subst e
    have htx : w.there b (off + L.length * 2) 2 := fun j hj => by
      have := ht (L.length * 2 + j) (by omega)
      rwa [← Nat.add_assoc] at this
    have hrun := run_append_room_src (P := Tryd.prog) w 73 73 ty 25 i0 Tryd.underlying73 hi b off L.length cap _ 1 (qlP x) (by rw [hz1]; exact hsrc) hroom
      (fun j hj => by rw [hz1]; rw [qlP_len] at hj; exact (htx j hj).1) (fun j hj => by rw [hz1]; rw [qlP_len] at hj; exact (htx j hj).2)
    rw [hz1] at hrun
    refine ⟨_, _, _, hrun, ⟨by simpa using hroom, hmx, fun hc => ⟨b, off, rfl, hBb, by rw [size_setCells']; exact hs, fun k a hk => ?_, World.there_setCells ht _ _ _⟩⟩, below_setCells (Below.refl _ _) hBb _ _, by rw [size_setCells']; exact Nat.le_refl _⟩
    rcases Nat.lt_or_ge k L.length with hk' | hk'
    · rw [List.getElem?_append_left hk'] at hk
      refine World.rangeAt_setCells_apart (hr k a hk) _ _ _ (.inr ?_)
      rw [qlP_len, qlP_len]; omega
    · rw [List.getElem?_append_right hk'] at hk
      have hk0 : k = L.length := by
        rcases Nat.eq_zero_or_pos (k - L.length) with h0 | h0
        · omega
        · rw [List.getElem?_eq_none (by simp; omega)] at hk; cases hk
      subst hk0
      simp at hk
      subst hk
      exact World.rangeAt_setCells_same w b _ _ (by rw [qlP_len]; exact htx)
  · have hc0 : cap < L.length + 1 := by omega
    have hold : (Builtin.firstCells i0.size L.length (.slice ao L.length cap)).run Tryd.prog w.drew = .ok (flP L).toArray w.drew := by
      rw [hz1]
      rcases Nat.eq_zero_or_pos cap with h0 | h0
      · have hl0 : L = [] := List.eq_nil_of_length_eq_zero (by omega)
        subst hl0
        cases ao with
        | none => exact run_firstCells_none w.drew 2 0 0 cap
        | some a' => exact run_firstCells_some w.drew 2 0 a' 0 cap [] (by simp) (by intro _ _ h'; simp at h')
      · obtain ⟨b, off, e, hBb, hs, hr, ht⟩ := h.row h0
        subst e
        refine run_firstCells_some w.drew 2 L.length ⟨b, off, none⟩ L.length cap (flP L) (by rw [flP_len]) (fun j u hu => ?_)
        have hj : j < L.length * 2 := by
          have := (List.getElem?_eq_some_iff.1 hu).1
          rwa [flP_len] at this
        obtain ⟨a, ha, hf⟩ := flP_of L j hj
        rw [hf] at hu
        have := hr (j / 2) a ha (j % 2) u hu
        rw [Addr.add_mid]
        have e1 : off + j = off + j / 2 * 2 + j % 2 := by omega
        rw [e1]
        simpa using this
    have hrun := run_append_grow_src (P := Tryd.prog) w 73 73 ty 25 i0 (.agg #[.int .i64 0, .int .i64 0]) Tryd.underlying73 hi hz0 ao L.length cap (flP L) hold _ 1 (qlP x) (by rw [hz1]; exact hsrc)
      hc0 (by omega) (growslice_fits hc0 (by rw [hz2]; omega))
    have hge := grownCap_ge w (L.length + 1) cap 25
    have hcm := grownCap_le_maxLen w (L.length + 1) cap 25 (by unfold maxLen; omega)
    obtain ⟨gc, hgc⟩ : ∃ gc, gc = grownCap w (L.length + 1) cap 25 := ⟨_, rfl⟩
    rw [← hgc] at hrun hge hcm
    have hsz : ((flP L ++ qlP x).toArray ++ Builtin.zeroCells (Value.agg #[.int .i64 0, .int .i64 0]).cells (gc - (L.length + 1))).size = gc * 2 := by
      rw [Array.size_append, List.size_toArray, List.length_append, flP_len, qlP_len, size_zeroCells]
      have : (Value.agg #[.int .i64 0, .int .i64 0]).cells.size = 2 := rfl
      rw [this]
      omega
    refine ⟨_, _, _, hrun, ⟨by simpa using hge, hcm, fun _ => ⟨w.heap.size, 0, rfl, hB, by simp, fun k a hk => fun j u hu => ?_, fun j hj => ⟨?_, World.frozen?_alloc_new w.drew _ _ (0 + j)⟩⟩⟩, (Below.refl _ w).drew.alloc hB _, by simp⟩
    · have hj := qlP_get hu
      have hkl : k < L.length + 1 := by
        have := (List.getElem?_eq_some_iff.1 hk).1
        simpa using this
      have e1 : (w.drew.alloc (.cells ((flP L ++ qlP x).toArray ++ Builtin.zeroCells (Value.agg #[.int .i64 0, .int .i64 0]).cells (gc - (L.length + 1))) 25)).cell? ⟨w.heap.size, 0 + k * 2 + j, none⟩ = _ := World.cell?_alloc_new w.drew _ _ (0 + k * 2 + j)
      rw [e1, Nat.zero_add, Array.getElem?_append_left (by rw [List.size_toArray, List.length_append, flP_len, qlP_len]; omega), List.getElem?_toArray]
      have e2 : flP L ++ qlP x = flP (L ++ [x]) := by simp [flP]
      rw [e2, flP_get _ k a hk j hj]
      exact hu
    · have e1 : (w.drew.alloc (.cells ((flP L ++ qlP x).toArray ++ Builtin.zeroCells (Value.agg #[.int .i64 0, .int .i64 0]).cells (gc - (L.length + 1))) 25)).cell? ⟨w.heap.size, 0 + j, none⟩ = _ := World.cell?_alloc_new w.drew _ _ (0 + j)
      rw [e1, Nat.zero_add, Array.getElem?_eq_getElem (by rw [hsz]; exact hj)]
      rfl
theorem list_append_facP {ops : Array Oper} {rest : List Oper} {o : Oper} {a : Act} {w : World} {Q : Exit → Act → World → Prop} (hgd : o.guard = none) (s y : Operand) (ho : o.op = .call { callee := .builtin .append, args := #[s, y], argTypes := #[73, 73] })
    {B : Nat} {ao : Option Addr} {cap : Nat} {L : List Pt} (h : FRP B w ao cap L) (hL : L.length < 50000) (hB : B ≤ w.heap.size) (x : Pt) (g c : Nat) (hx : w.rangeAt g 0 (qlP x))
    (hs : a.eval s = .slice ao L.length cap) (hy : a.eval y = .slice (some ⟨g, 0, none⟩) 1 c) (hk : ∀ ao' cap' w', FRP B w' ao' cap' (L ++ [x]) → Below B w w' → wpList Tryd.prog ops Q rest (a.put o.dst (.slice ao' (L.length + 1) cap')) w') :
    wpList Tryd.prog ops Q (o :: rest) a w := by
  obtain ⟨ao', cap', w', hr, hf, hb, _⟩ := append_facP h hL hB x g c hx o.type
  refine wpList_plain hgd fun K hK => ?_
  unfold Oper.wp execOp
  simp only [ho, resolve, invoke, builtin, Sem.run_bind, Sem.run_pure, Result.andThen_ok, List.map_toArray, List.map_cons, List.map_nil, hs, hy, hr]
  exact hK _ _ (hk ao' cap' w' hf hb)
theorem FRP.nil (B : Nat) (w : World) : FRP B w none 0 [] := ⟨Nat.le_refl _, Nat.zero_le _, fun h => absurd h (by omega)⟩
theorem FRP.mono {B B' : Nat} {w : World} {ao : Option Addr} {cap : Nat} {L : List Pt} (h : FRP B w ao cap L) (hB : B' ≤ B) : FRP B' w ao cap L :=
  ⟨h.le, h.mx, fun hc => by obtain ⟨b, off, e, h1, h2, h3, h4⟩ := h.row hc; exact ⟨b, off, e, by omega, h2, h3, h4⟩⟩
theorem FRP.keep {B : Nat} {w w' : World} {ao : Option Addr} {cap : Nat} {L : List Pt} (h : FRP B w ao cap L) (hs : w.heap.size ≤ w'.heap.size) (hk : ∀ b, B ≤ b → w'.heap[b]? = w.heap[b]?) : FRP B w' ao cap L :=
  ⟨h.le, h.mx, fun hc => by
    obtain ⟨b, off, e, h1, h2, h3, h4⟩ := h.row hc
    refine ⟨b, off, e, h1, by omega, fun k a ha j v hv => ?_, fun j hj => ?_⟩
    · rw [World.cell?_of_block (w := w) (a := ⟨b, off + k * 2 + j, none⟩) (hk b h1)]; exact h3 k a ha j v hv
    · obtain ⟨p, q⟩ := h4 j hj
      exact ⟨by rw [World.cell?_of_block (w := w) (a := ⟨b, off + j, none⟩) (hk b h1)]; exact p, by rw [World.frozen?_of_block (w := w) (a := ⟨b, off + j, none⟩) (hk b h1)]; exact q⟩⟩
end Go.Proofs.YtehpgmhilcoalaaDoor
