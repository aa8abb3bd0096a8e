/- A row of matrices of the call's own: elements of four cells. -/
import Derived.Test.YtehpgmhilcoalaaDoorGO
import Derived.Deep.AppendSrc
namespace Go.Proofs.YtehpgmhilcoalaaDoor
open Go.RowKit Go.Lib
def ml (m : Mat) : List Value := [.int .i64 m.a, .int .i64 m.b, .int .i64 m.c, .int .i64 m.d]
theorem pl_len (m : Mat) : (ml m).length = 4 := rfl
theorem pl_one (m : Mat) : ∀ v ∈ ml m, v.oneCell' = true := by
  intro v hv
  simp only [ml, List.mem_cons, List.not_mem_nil, or_false] at hv
  rcases hv with rfl | rfl | rfl | rfl <;> rfl
theorem range_belowM {B : Nat} {w w' : World} {b o : Nat} {cs : List Value} (h : w.rangeAt b o cs) (hb : Below B w w') (hlt : b < B) : w'.rangeAt b o cs := fun j v hv => (hb.cell (p := ⟨b, o + j, none⟩) hlt).trans (h j v hv)
theorem there_below {B : Nat} {w w' : World} {b o n : Nat} (h : w.there b o n) (hb : Below B w w') (hlt : b < B) : w'.there b o n := fun j hj => by
  rw [hb.cell (p := ⟨b, o + j, none⟩) hlt, hb.frozen (p := ⟨b, o + j, none⟩) hlt]
  exact h j hj
theorem below_setCells {B : Nat} {a w : World} (h : Below B a w) {b : Nat} (hb : B ≤ b) (o : Nat) : ∀ (vs : List Value), Below B a (w.setCells b o vs) := by
  intro vs
  induction vs generalizing o w with
  | nil => exact h
  | cons v vs ih => exact ih (h.setCell (p := ⟨b, o, none⟩) hb v) (o + 1)

theorem size_setCells' (w : World) (b : Nat) : ∀ (vs : List Value) (o : Nat), (w.setCells b o vs).heap.size = w.heap.size := by
  intro vs
  induction vs generalizing w with
  | nil => intro o; rfl
  | cons v vs ih => intro o; exact (ih (w.setCell ⟨b, o, none⟩ v) (o + 1)).trans (by simp [World.setCell])
structure FR (B : Nat) (w : World) (ao : Option Addr) (cap : Nat) (L : List Mat) : Prop where
  le : L.length ≤ cap
  mx : cap ≤ maxLen
  row : 0 < cap → ∃ b off, ao = some ⟨b, off, none⟩ ∧ B ≤ b ∧ b < w.heap.size ∧ (∀ k a, L[k]? = some a → w.rangeAt b (off + k * 4) (ml a)) ∧ w.there b off (cap * 4)
theorem FR.below {B : Nat} {w w' : World} {ao : Option Addr} {cap : Nat} {L : List Mat} (h : FR B w ao cap L) (hb : Below w.heap.size w w') : FR B w' ao cap L :=
  ⟨h.le, h.mx, fun hc => by
    obtain ⟨b, off, e, hB, hs, hr, ht⟩ := h.row hc
    exact ⟨b, off, e, hB, by have := hb.size; omega, fun k a hk => range_belowM (hr k a hk) hb hs, there_below ht hb hs⟩⟩
theorem FR.at {B : Nat} {w : World} {ao : Option Addr} {cap k : Nat} {L : List Mat} {a   : Mat} (h : FR B w ao cap L) (hk : L[k]? = some a) :
    ∃ b off, ao = some ⟨b, off, none⟩ ∧ B ≤ b ∧ b < w.heap.size ∧ w.rangeAt b (off + k * 4) (ml a) ∧ w.there b (off + k * 4) 4 := by
  have hlt := (List.getElem?_eq_some_iff.1 hk).1
  have hle := h.le
  obtain ⟨b, off, e, hB, hs, hr, ht⟩ := h.row (by omega)
  refine ⟨b, off, e, hB, hs, hr k a hk, fun j hj => ?_⟩
  have := ht (k * 4 + j) (by omega)
  rwa [← Nat.add_assoc] at this
theorem FR.set {B b off : Nat} {w : World} {cap k : Nat} {L : List Mat} (h : FR B w (some ⟨b, off, none⟩) cap L) (hk : k < L.length) (x   : Mat) :
    FR B (w.setCells b (off + k * 4) (ml x)) (some ⟨b, off, none⟩) cap (L.set k x) := by
  have hle := h.le
  refine ⟨by rw [List.length_set]; exact hle, h.mx, fun hc => ?_⟩
  obtain ⟨b', off', e, hB, hs, hr, ht⟩ := h.row hc
  cases e
  refine ⟨b, off, rfl, hB, by rw [size_setCells']; exact hs, fun j a hj => ?_, World.there_setCells ht _ _ _⟩
  rw [List.getElem?_set] at hj
  by_cases e : k = j
  · subst e
    rw [if_pos rfl, if_pos hk] at hj
    obtain rfl := Option.some.inj hj
    refine World.rangeAt_setCells_same w b _ _ (fun i hi => ?_)
    rw [pl_len] at hi
    have := ht (k * 4 + i) (by omega)
    rwa [← Nat.add_assoc] at this
  · rw [if_neg e] at hj
    refine World.rangeAt_setCells_apart (hr j a hj) _ _ _ (.inr ?_)
    rw [pl_len, pl_len]
    omega

theorem infoM : (Tryd.prog.info? 40).map (fun i => (i.zero, i.size, i.bytes)) = some (some (.agg #[.int .i64 0, .int .i64 0, .int .i64 0, .int .i64 0]), 4, 32) := by kernel_rfl
theorem below_more {B C : Nat} {w w' : World} (h : Below C w w') (hB : B ≤ C) : Below B w w' := h.mono hB
theorem pl_get {x   : Mat} {j : Nat} {u : Value} (h : (ml x)[j]? = some u) : j < 4 := by
  have := (List.getElem?_eq_some_iff.1 h).1
  rwa [pl_len] at this
/-- The cells of a list of factors. -/
def fl (L : List Mat) : List Value := L.flatMap ml
theorem fl_len (L : List Mat) : (fl L).length = L.length * 4 := by
  induction L with
  | nil => rfl
  | cons a L ih => show (ml a ++ fl L).length = _; rw [List.length_append, pl_len, ih, List.length_cons]; omega
theorem fl_get (L : List Mat) : ∀ (k : Nat) (a   : Mat), L[k]? = some a → ∀ j, j < 4 → (fl L)[k * 4 + j]? = (ml a)[j]? := by
  induction L with
  | nil => intro k a h; simp at h
  | cons b L ih =>
    intro k a h j hj
    show (ml b ++ fl L)[k * 4 + j]? = _
    cases k with
    | zero =>
      simp at h; subst h
      rw [List.getElem?_append_left (by rw [pl_len]; omega)]
      congr 1
      omega
    | succ k =>
      rw [List.getElem?_append_right (by rw [pl_len]; omega), pl_len, ← ih k a (by simpa using h) j hj]
      congr 1
      omega
theorem fl_of (L : List Mat) (i : Nat) (h : i < L.length * 4) : ∃ a, L[i / 4]? = some a ∧ (fl L)[i]? = (ml a)[i % 4]? := by
  have hk : i / 4 < L.length := by omega
  refine ⟨L[i / 4], List.getElem?_eq_getElem hk, ?_⟩
  have := fl_get L (i / 4) _ (List.getElem?_eq_getElem hk) (i % 4) (by omega)
  rwa [show i / 4 * 4 + i % 4 = i by omega] at this

/-- append(factors, x): where there is room, and where there is none. -/
theorem append_fac {B : Nat} {w : World} {ao : Option Addr} {cap : Nat} {L : List Mat} (h : FR B w ao cap L) (hL : L.length < 50000) (hB : B ≤ w.heap.size) (x   : Mat) (g c : Nat) (hx : w.rangeAt g 0 (ml x)) (ty : TypeId) :
    ∃ ao' cap' w', (Builtin.append_ #[41, 41] ty #[.slice ao L.length cap, .slice (some ⟨g, 0, none⟩) 1 c]).run Tryd.prog w = .ok (.slice ao' (L.length + 1) cap') w' ∧ FR B w' ao' cap' (L ++ [x]) ∧ Below B w w' ∧ w.heap.size ≤ w'.heap.size := by
  obtain ⟨i0, hi, hxx⟩ := Option.map_eq_some_iff.1 infoM
  simp only [Prod.mk.injEq] at hxx
  obtain ⟨hz0, hz1, hz2⟩ := hxx
  have hsrc : Src Tryd.prog 4 41 (.slice (some ⟨g, 0, none⟩) 1 c) 1 (ml x) w :=
    Src.ofSlice w Tryd.underlying41 ⟨g, 0, none⟩ 1 c (ml x) (by rw [pl_len]) (fun j u hu => by rw [Addr.add_mid]; exact hx j u hu) (pl_one x)
  have hle := h.le
  have hmx := h.mx
  by_cases hroom : L.length + 1 ≤ cap
  · obtain ⟨b, off, e, hBb, hs, hr, ht⟩ := h.row (by omega)
    subst e
    have htx : w.there b (off + L.length * 4) 4 := fun j hj => by
      have := ht (L.length * 4 + j) (by omega)
      rwa [← Nat.add_assoc] at this
    have hrun := run_append_room_src (P := Tryd.prog) w 41 41 ty 40 i0 Tryd.underlying41 hi b off L.length cap _ 1 (ml x) (by rw [hz1]; exact hsrc) hroom
      (fun j hj => by rw [hz1]; rw [pl_len] at hj; exact (htx j hj).1) (fun j hj => by rw [hz1]; rw [pl_len] at hj; exact (htx j hj).2)
    rw [hz1] at hrun
    refine ⟨_, _, _, hrun, ⟨by simpa using hroom, hmx, fun hc => ⟨b, off, rfl, hBb, by rw [size_setCells']; exact hs, fun k a hk => ?_, World.there_setCells ht _ _ _⟩⟩, below_setCells (Below.refl _ _) hBb _ _, by rw [size_setCells']; exact Nat.le_refl _⟩
    rcases Nat.lt_or_ge k L.length with hk' | hk'
    · rw [List.getElem?_append_left hk'] at hk
      refine World.rangeAt_setCells_apart (hr k a hk) _ _ _ (.inr ?_)
      rw [pl_len, pl_len]; omega
    · rw [List.getElem?_append_right hk'] at hk
      have hk0 : k = L.length := by
        rcases Nat.eq_zero_or_pos (k - L.length) with h0 | h0
        · omega
        · rw [List.getElem?_eq_none (by simp; omega)] at hk; cases hk
      subst hk0
      simp at hk
      subst hk
      exact World.rangeAt_setCells_same w b _ _ (by rw [pl_len]; exact htx)
  · have hc0 : cap < L.length + 1 := by omega
    have hold : (Builtin.firstCells i0.size L.length (.slice ao L.length cap)).run Tryd.prog w.drew = .ok (fl L).toArray w.drew := by
      rw [hz1]
      rcases Nat.eq_zero_or_pos cap with h0 | h0
      · have hl0 : L = [] := List.eq_nil_of_length_eq_zero (by omega)
        subst hl0
        cases ao with
        | none => exact run_firstCells_none w.drew 4 0 0 cap
        | some a' => exact run_firstCells_some w.drew 4 0 a' 0 cap [] (by simp) (by intro _ _ h'; simp at h')
      · obtain ⟨b, off, e, hBb, hs, hr, ht⟩ := h.row h0
        subst e
        refine run_firstCells_some w.drew 4 L.length ⟨b, off, none⟩ L.length cap (fl L) (by rw [fl_len]) (fun j u hu => ?_)
        have hj : j < L.length * 4 := by
          have := (List.getElem?_eq_some_iff.1 hu).1
          rwa [fl_len] at this
        obtain ⟨a, ha, hf⟩ := fl_of L j hj
        rw [hf] at hu
        have := hr (j / 4) a ha (j % 4) u hu
        rw [Addr.add_mid]
        have e1 : off + j = off + j / 4 * 4 + j % 4 := by omega
        rw [e1]
        simpa using this
    have hrun := run_append_grow_src (P := Tryd.prog) w 41 41 ty 40 i0 (.agg #[.int .i64 0, .int .i64 0, .int .i64 0, .int .i64 0]) Tryd.underlying41 hi hz0 ao L.length cap (fl L) hold _ 1 (ml x) (by rw [hz1]; exact hsrc)
      hc0 (by omega) (growslice_fits hc0 (by rw [hz2]; omega))
    have hge := grownCap_ge w (L.length + 1) cap 40
    have hcm := grownCap_le_maxLen w (L.length + 1) cap 40 (by unfold maxLen; omega)
    obtain ⟨gc, hgc⟩ : ∃ gc, gc = grownCap w (L.length + 1) cap 40 := ⟨_, rfl⟩
    rw [← hgc] at hrun hge hcm
    have hsz : ((fl L ++ ml x).toArray ++ Builtin.zeroCells (Value.agg #[.int .i64 0, .int .i64 0, .int .i64 0, .int .i64 0]).cells (gc - (L.length + 1))).size = gc * 4 := by
      rw [Array.size_append, List.size_toArray, List.length_append, fl_len, pl_len, size_zeroCells]
      have : (Value.agg #[.int .i64 0, .int .i64 0, .int .i64 0, .int .i64 0]).cells.size = 4 := rfl
      rw [this]
      omega
    refine ⟨_, _, _, hrun, ⟨by simpa using hge, hcm, fun _ => ⟨w.heap.size, 0, rfl, hB, by simp, fun k a hk => fun j u hu => ?_, fun j hj => ⟨?_, World.frozen?_alloc_new w.drew _ _ (0 + j)⟩⟩⟩, (Below.refl _ w).drew.alloc hB _, by simp⟩
    · have hj := pl_get hu
      have hkl : k < L.length + 1 := by
        have := (List.getElem?_eq_some_iff.1 hk).1
        simpa using this
      have e1 : (w.drew.alloc (.cells ((fl L ++ ml x).toArray ++ Builtin.zeroCells (Value.agg #[.int .i64 0, .int .i64 0, .int .i64 0, .int .i64 0]).cells (gc - (L.length + 1))) 40)).cell? ⟨w.heap.size, 0 + k * 4 + j, none⟩ = _ := World.cell?_alloc_new w.drew _ _ (0 + k * 4 + j)
      rw [e1, Nat.zero_add, Array.getElem?_append_left (by rw [List.size_toArray, List.length_append, fl_len, pl_len]; omega), List.getElem?_toArray]
      have e2 : fl L ++ ml x = fl (L ++ [x]) := by simp [fl]
      rw [e2, fl_get _ k a hk j hj]
      exact hu
    · have e1 : (w.drew.alloc (.cells ((fl L ++ ml x).toArray ++ Builtin.zeroCells (Value.agg #[.int .i64 0, .int .i64 0, .int .i64 0, .int .i64 0]).cells (gc - (L.length + 1))) 40)).cell? ⟨w.heap.size, 0 + j, none⟩ = _ := World.cell?_alloc_new w.drew _ _ (0 + j)
      rw [e1, Nat.zero_add, Array.getElem?_eq_getElem (by rw [hsz]; exact hj)]
      rfl
end Go.Proofs.YtehpgmhilcoalaaDoor
