/- One factor more behind a row of factors. -/
import Derived.Test.YtmefpaoakblndaaGreatDoorBM
import Derived.Deep.AppendSrc
namespace Go.Proofs.YtmefpaoakblndaaGreatDoor
open Go.RowKit

theorem info59b : (Tryz.prog.info? 108).map (fun i => (i.zero, i.size, i.bytes)) = some (some (.agg (pcF fun _ => 0)), 12, 96) := by kernel_rfl
theorem below_more {B C : Nat} {w w' : World} (h : Below C w w') (hB : B ≤ C) : Below B w w' := h.mono hB
theorem pl_get {x : Pm} {j : Nat} {u : Value} (h : (pl x)[j]? = some u) : j < 12 := by
  have := (List.getElem?_eq_some_iff.1 h).1
  rwa [pl_len] at this
/-- The cells of a list of factors. -/
def fl (L : List Pm) : List Value := L.flatMap pl
theorem fl_len (L : List Pm) : (fl L).length = L.length * 12 := by
  induction L with
  | nil => rfl
  | cons a L ih => show (pl a ++ fl L).length = _; rw [List.length_append, pl_len, ih, List.length_cons]; omega
theorem fl_get (L : List Pm) : ∀ (k : Nat) (a : Pm), L[k]? = some a → ∀ j, j < 12 → (fl L)[k * 12 + j]? = (pl a)[j]? := by
  induction L with
  | nil => intro k a h; simp at h
  | cons b L ih =>
    intro k a h j hj
    show (pl b ++ fl L)[k * 12 + j]? = _
    cases k with
    | zero =>
      simp at h; subst h
      rw [List.getElem?_append_left (by rw [pl_len]; omega)]
      congr 1
      omega
    | succ k =>
      rw [List.getElem?_append_right (by rw [pl_len]; omega), pl_len, ← ih k a (by simpa using h) j hj]
      congr 1
      omega
theorem fl_of (L : List Pm) (i : Nat) (h : i < L.length * 12) : ∃ a, L[i / 12]? = some a ∧ (fl L)[i]? = (pl a)[i % 12]? := by
  have hk : i / 12 < L.length := by omega
  refine ⟨L[i / 12], List.getElem?_eq_getElem hk, ?_⟩
  have := fl_get L (i / 12) _ (List.getElem?_eq_getElem hk) (i % 12) (by omega)
  rwa [show i / 12 * 12 + i % 12 = i by omega] at this

/-- append(factors, x): where there is room, and where there is none. -/
theorem append_fac {B : Nat} {w : World} {ao : Option Addr} {cap : Nat} {L : List Pm} (h : FR B w ao cap L) (hL : L.length < 50000) (hB : B ≤ w.heap.size) (x : Pm) (g c : Nat) (hx : w.rangeAt g 0 (pl x)) (ty : TypeId) :
    ∃ ao' cap' w', (Builtin.append_ #[103, 103] ty #[.slice ao L.length cap, .slice (some ⟨g, 0, none⟩) 1 c]).run Tryz.prog w = .ok (.slice ao' (L.length + 1) cap') w' ∧ FR B w' ao' cap' (L ++ [x]) ∧ Below B w w' ∧ w.heap.size ≤ w'.heap.size := by
  obtain ⟨i0, hi, hxx⟩ := Option.map_eq_some_iff.1 info59b
  simp only [Prod.mk.injEq] at hxx
  obtain ⟨hz0, hz1, hz2⟩ := hxx
  have hsrc : Src Tryz.prog 12 103 (.slice (some ⟨g, 0, none⟩) 1 c) 1 (pl x) w :=
    Src.ofSlice w Tryz.underlying103 ⟨g, 0, none⟩ 1 c (pl x) (by rw [pl_len]) (fun j u hu => by rw [Addr.add_mid]; exact hx j u hu) (pl_one x)
  have hle := h.le
  have hmx := h.mx
  by_cases hroom : L.length + 1 ≤ cap
  · obtain ⟨b, off, e, hBb, hs, hr, ht⟩ := h.row (by omega)
    subst e
    have htx : w.there b (off + L.length * 12) 12 := fun j hj => by
      have := ht (L.length * 12 + j) (by omega)
      rwa [← Nat.add_assoc] at this
    have hrun := run_append_room_src (P := Tryz.prog) w 103 103 ty 108 i0 Tryz.underlying103 hi b off L.length cap _ 1 (pl x) (by rw [hz1]; exact hsrc) hroom
      (fun j hj => by rw [hz1]; rw [pl_len] at hj; exact (htx j hj).1) (fun j hj => by rw [hz1]; rw [pl_len] at hj; exact (htx j hj).2)
    rw [hz1] at hrun
    refine ⟨_, _, _, hrun, ⟨by simpa using hroom, hmx, fun hc => ⟨b, off, rfl, hBb, by rw [size_setCells']; exact hs, fun k a hk => ?_, World.there_setCells ht _ _ _⟩⟩, below_setCells (Below.refl _ _) hBb _ _, by rw [size_setCells']; exact Nat.le_refl _⟩
    rcases Nat.lt_or_ge k L.length with hk' | hk'
    · rw [List.getElem?_append_left hk'] at hk
      refine World.rangeAt_setCells_apart (hr k a hk) _ _ _ (.inr ?_)
      rw [pl_len, pl_len]; omega
    · rw [List.getElem?_append_right hk'] at hk
      have hk0 : k = L.length := by
        rcases Nat.eq_zero_or_pos (k - L.length) with h0 | h0
        · omega
        · rw [List.getElem?_eq_none (by simp; omega)] at hk; cases hk
      subst hk0
      simp at hk
      subst hk
      exact World.rangeAt_setCells_same w b _ _ (by rw [pl_len]; exact htx)
  · have hc0 : cap < L.length + 1 := by omega
    have hold : (Builtin.firstCells i0.size L.length (.slice ao L.length cap)).run Tryz.prog w.drew = .ok (fl L).toArray w.drew := by
      rw [hz1]
      rcases Nat.eq_zero_or_pos cap with h0 | h0
      · have hl0 : L = [] := List.eq_nil_of_length_eq_zero (by omega)
        subst hl0
        cases ao with
        | none => exact run_firstCells_none w.drew 12 0 0 cap
        | some a' => exact run_firstCells_some w.drew 12 0 a' 0 cap [] (by simp) (by intro _ _ h'; simp at h')
      · obtain ⟨b, off, e, hBb, hs, hr, ht⟩ := h.row h0
        subst e
        refine run_firstCells_some w.drew 12 L.length ⟨b, off, none⟩ L.length cap (fl L) (by rw [fl_len]) (fun j u hu => ?_)
        have hj : j < L.length * 12 := by
          have := (List.getElem?_eq_some_iff.1 hu).1
          rwa [fl_len] at this
        obtain ⟨a, ha, hf⟩ := fl_of L j hj
        rw [hf] at hu
        have := hr (j / 12) a ha (j % 12) u hu
        rw [Addr.add_mid]
        have e1 : off + j = off + j / 12 * 12 + j % 12 := by omega
        rw [e1]
        simpa using this
    have hrun := run_append_grow_src (P := Tryz.prog) w 103 103 ty 108 i0 (.agg (pcF fun _ => 0)) Tryz.underlying103 hi hz0 ao L.length cap (fl L) hold _ 1 (pl x) (by rw [hz1]; exact hsrc)
      hc0 (by omega) (growslice_fits hc0 (by rw [hz2]; omega))
    have hge := grownCap_ge w (L.length + 1) cap 108
    have hcm := grownCap_le_maxLen w (L.length + 1) cap 108 (by unfold maxLen; omega)
    obtain ⟨gc, hgc⟩ : ∃ gc, gc = grownCap w (L.length + 1) cap 108 := ⟨_, rfl⟩
    rw [← hgc] at hrun hge hcm
    have hsz : ((fl L ++ pl x).toArray ++ Builtin.zeroCells (Value.agg (pcF fun _ => 0)).cells (gc - (L.length + 1))).size = gc * 12 := by
      rw [Array.size_append, List.size_toArray, List.length_append, fl_len, pl_len, size_zeroCells]
      have : (Value.agg (pcF fun _ => 0)).cells.size = 12 := pcF_size _
      rw [this]
      omega
    refine ⟨_, _, _, hrun, ⟨by simpa using hge, hcm, fun _ => ⟨w.heap.size, 0, rfl, hB, by simp, fun k a hk => fun j u hu => ?_, fun j hj => ⟨?_, World.frozen?_alloc_new w.drew _ _ (0 + j)⟩⟩⟩, (Below.refl _ w).drew.alloc hB _, by simp⟩
    · have hj := pl_get hu
      have hkl : k < L.length + 1 := by
        have := (List.getElem?_eq_some_iff.1 hk).1
        simpa using this
      have e1 : (w.drew.alloc (.cells ((fl L ++ pl x).toArray ++ Builtin.zeroCells (Value.agg (pcF fun _ => 0)).cells (gc - (L.length + 1))) 108)).cell? ⟨w.heap.size, 0 + k * 12 + j, none⟩ = _ := World.cell?_alloc_new w.drew _ _ (0 + k * 12 + j)
      rw [e1, Nat.zero_add, Array.getElem?_append_left (by rw [List.size_toArray, List.length_append, fl_len, pl_len]; omega), List.getElem?_toArray]
      have e2 : fl L ++ pl x = fl (L ++ [x]) := by simp [fl]
      rw [e2, fl_get _ k a hk j hj]
      exact hu
    · have e1 : (w.drew.alloc (.cells ((fl L ++ pl x).toArray ++ Builtin.zeroCells (Value.agg (pcF fun _ => 0)).cells (gc - (L.length + 1))) 108)).cell? ⟨w.heap.size, 0 + j, none⟩ = _ := World.cell?_alloc_new w.drew _ _ (0 + j)
      rw [e1, Nat.zero_add, Array.getElem?_eq_getElem (by rw [hsz]; exact hj)]
      rfl
end Go.Proofs.YtmefpaoakblndaaGreatDoor
