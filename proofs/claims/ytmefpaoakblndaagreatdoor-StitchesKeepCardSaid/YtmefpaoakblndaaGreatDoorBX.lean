/- Normal walked. -/
import Derived.Test.YtmefpaoakblndaaGreatDoorBW
namespace Go.Proofs.YtmefpaoakblndaaGreatDoor
open Go.RowKit Go.Lib
/-- The list that a permutation is handed out as. -/
def ints (m : Nat) (x : Pm) : List Int := (List.range m).map fun i => (x.f i : Int)
theorem ints_len (m : Nat) (x : Pm) : (ints m x).length = m := by simp [ints]
/-- Rows of ints, one for each factor. -/
def Rows (B m : Nat) (w : World) (fs : List Value) (D : List Pm) : Prop := ∀ (k : Nat) (x : Pm), D[k]? = some x → ∃ u, fs[k]? = some u ∧ w.ownsRow B 3 1 u m ((ints m x).map (Value.int .i64))
theorem infoInts : (Tryz.prog.info? 23).map (fun i => (i.zero, i.size, i.bytes)) = some (some (.slice none 0 0), 1, 24) := by kernel_rfl
theorem ints_pl {m : Nat} (hm : m ≤ 12) (x : Pm) {j : Nat} {u : Value} (h : ((ints m x).map (Value.int .i64))[j]? = some u) : (pl x)[j]? = some u := by
  have hj := (List.getElem?_eq_some_iff.1 h).1
  rw [List.length_map, ints_len] at hj
  have hj' : j < 12 := by omega
  simp [ints, hj] at h
  simp [pl, hj', h]
theorem own_below {B : Nat} {e : TypeId} {k : Nat} {v : Value} {n : Nat} {xs : List Value} {w w' : World} (h : w.ownsRow B e k v n xs) (hb : Below w.heap.size w w') : w'.ownsRow B e k v n xs :=
  h.kept (row := none) ⟨hb.os, hb.tape, hb.output, hb.size, fun k hk _ => hb.block k hk⟩ (by cases hv : v.ownBlock <;> simp)
theorem own_apart {B B' : Nat} {e e' : TypeId} {k k' n n' : Nat} {v u : Value} {xs ys : List Value} {w : World} (h : w.ownsRow B e k v n xs) (h' : w.ownsRow B' e' k' u n' ys) (hne : e ≠ e') : v.ownBlock = none ∨ v.ownBlock ≠ u.ownBlock := by
  rcases h.2 with ⟨rfl, _⟩ | ⟨g, cap, cur, rfl, _, hg, _⟩
  · exact .inl rfl
  · refine .inr fun hb => ?_
    rcases h'.2 with ⟨rfl, _⟩ | ⟨g', cap', cur', rfl, _, hg', _⟩
    · cases hb
    · simp only [Value.ownBlock, Option.some.injEq] at hb
      subst hb
      rw [hg] at hg'
      simp only [Option.some.injEq, Obj.cells.injEq] at hg'
      exact hne hg'.2.1
theorem own_mono {w : World} {b b' : Nat} {e : TypeId} {size n : Nat} {v : Value} {xs : List Value} (h : w.ownsRow b e size v n xs) (hb : b' ≤ b) : w.ownsRow b' e size v n xs := by
  refine ⟨h.1, ?_⟩
  rcases h.2 with hn | ⟨g, cap, cur, h1, h2, h3⟩
  · exact .inl hn
  · exact .inr ⟨g, cap, cur, h1, Nat.le_trans hb h2, h3⟩
theorem own_one {w : World} {b k : Nat} {e : TypeId} {n : Nat} {v : Value} {xs : List Value} (h : w.ownsRow b e k v n xs) : v.oneCell' = true := by
  rcases h.2 with ⟨rfl, _⟩ | ⟨g, cap, cur, rfl, _⟩
  · rfl
  · rfl
theorem run_slice_arr (W : World) (g m : Nat) (hm : m ≤ 12) : (Instr.sliceAt 108 (.pointer (some ⟨g, 0, none⟩)) none (some (.int .i64 (m : Int))) none).run Tryz.prog W = .ok (.slice (some ⟨g, 0, none⟩) m 12) W := by
  have h1 : (0 : Int) ≤ (m : Int) := by omega
  have h2 : (m : Int) ≤ 12 := by omega
  go_simp
theorem Rows.below {B m : Nat} {w w' : World} {fs : List Value} {D : List Pm} (h : Rows B m w fs D) (hb : Below w.heap.size w w') : Rows B m w' fs D := fun k x hx => by
  obtain ⟨u, hu, ho⟩ := h k x hx
  exact ⟨u, hu, own_below ho hb⟩
theorem Rows.grown {B B' m n : Nat} {w w' : World} {fs xs : List Value} {D : List Pm} {v : Value} (h : Rows B m w fs D) (hv : w.ownsRow B' 23 1 v n xs) (hg : w.grownBy w' v.ownBlock) : Rows B m w' fs D := fun k x hx => by
  obtain ⟨u, hu, ho⟩ := h k x hx
  exact ⟨u, hu, ho.kept hg (own_apart ho hv (by decide))⟩
theorem Rows.mono {B B' m : Nat} {w : World} {fs : List Value} {D : List Pm} (h : Rows B m w fs D) (hb : B' ≤ B) : Rows B' m w fs D := fun k x hx => by
  obtain ⟨u, hu, ho⟩ := h k x hx
  exact ⟨u, hu, own_mono ho hb⟩
theorem Rows.snoc {B m : Nat} {w : World} {fs : List Value} {D : List Pm} {x : Pm} {u : Value} (h : Rows B m w fs D) (hl : fs.length = D.length) (hu : w.ownsRow B 3 1 u m ((ints m x).map (Value.int .i64))) : Rows B m w (fs ++ [u]) (D ++ [x]) := fun k y hy => by
  rcases Nat.lt_or_ge k D.length with hk | hk
  · rw [List.getElem?_append_left hk] at hy
    obtain ⟨v, hv, ho⟩ := h k y hy
    exact ⟨v, by rw [List.getElem?_append_left (by omega)]; exact hv, ho⟩
  · rw [List.getElem?_append_right hk] at hy
    obtain rfl : k = D.length := by
      rcases Nat.eq_zero_or_pos (k - D.length) with h0 | h0
      · omega
      · rw [List.getElem?_eq_none (by simp; omega)] at hy; cases hy
    simp at hy
    subst hy
    exact ⟨u, by rw [List.getElem?_append_right (by omega), hl]; simp, hu⟩
end Go.Proofs.YtmefpaoakblndaaGreatDoor
