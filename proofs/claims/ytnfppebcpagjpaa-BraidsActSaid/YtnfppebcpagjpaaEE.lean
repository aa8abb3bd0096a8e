/- The reference's product walked; rows of ints of any lengths in a row of rows. -/
import Derived.Test.YtnfppebcpagjpaaED
import Derived.Test.YtnfppebcpagjpaaDB
namespace Go.Proofs.Ytnfppebcpagjpaa
open Go.RowKit Go.Lib
set_option maxHeartbeats 1000000 in
set_option maxRecDepth 100000 in
theorem refproduct_any (xs ys zs : List Int) (u v t : Value) (w : World) (hu : IS w u xs) (hv : IS w v ys) (ht : IS w t zs) (hx : Ltr 50 xs) (hy : Ltr 50 ys) (hz : Ltr 50 zs) (lx : xs.length ≤ 5000) (ly : ys.length ≤ 5000) (lz : zs.length ≤ 5000) :
    Calls Try.prog 72 #[u, v, t] w fun e w' => ∃ v', e = .returned v' ∧ w'.ownsRow w.heap.size 3 1 v' (red (xs ++ ys ++ zs)).length ((red (xs ++ ys ++ zs)).map (Value.int .i64)) ∧ Below w.heap.size w w' := by
  have hs1 := Nat.le_refl w.heap.size
  have B1 := Below.refl w.heap.size w
  have B1' : Below w.heap.size w (w.alloc (.cells #[] 3)) := below_alloc _ _
  have IX := Lib.hid (hu.below B1')
  have Hv := Lib.hid hv
  have Ht := Lib.hid ht
  have hw : Ltr 50 (xs ++ ys ++ zs) := (hx.app hy).app hz
  have Hw := Lib.hid hw
  clear hv ht hu hw hx hy hz
  go_enter Try.func72, Try.ntmps72
  go_wp2_with (first
    | (at_builtin; refine app_all (w0 := w) w.heap.size _ ([] ++ xs ++ ys) zs rfl _ _ rfl rfl HO3.out _ rfl IZ.out (by simp; omega) HB3.out HB3.out.size ?_; intro v4 w4 O4 B4; have HO4 := Lib.hid O4; have HB4 := Lib.hid B4; clear O4)
    | (at_builtin; refine app_all (w0 := w) w.heap.size _ ([] ++ xs) ys rfl _ _ rfl rfl HO2.out _ rfl IY.out (by simp; omega) HB2.out HB2.out.size ?_; intro v3 w3 O3 B3; have IZ := Lib.hid (Ht.out.below B3); have HB3 := Lib.hid B3; have HO3 := Lib.hid O3; clear O3)
    | (at_builtin; refine app_all (w0 := w) w.heap.size _ [] xs rfl _ _ rfl rfl (World.ownsRow_made _ #[] 0 hs1 (Nat.zero_le _) rfl) _ rfl IX.out (by simp; omega) B1' B1'.size ?_; intro v1 w2 O2 B2; have IY := Lib.hid (Hv.out.below B2); have HB2 := Lib.hid B2; have HO2 := Lib.hid O2; clear O2))
  rw [List.nil_append] at HO4
  refine (refreduced_any (xs ++ ys ++ zs) v4 w4 (is_own HO4.out rfl) (fun z hz => by have := Hw.out z hz; omega) (by simp; omega)).mono ?_
  rintro e w5 ⟨v5, rfl, O5, B5⟩
  have HO5 := Lib.hid O5
  clear O5
  go_wp2_with fail
  go_ret
  exact ⟨_, rfl, own_mono HO5.out HB4.out.size, bon HB4.out B5⟩
/-- The values fs are own rows that read as the lists G. -/
def RW (B : Nat) (w : World) (fs : List Value) (G : List (List Int)) : Prop := ∀ (k : Nat) (l : List Int), G[k]? = some l → ∃ u, fs[k]? = some u ∧ w.ownsRow B 3 1 u l.length (l.map (Value.int .i64))
theorem RW.below {B : Nat} {w w' : World} {fs : List Value} {G : List (List Int)} (h : RW B w fs G) (hb : Below w.heap.size w w') : RW B w' fs G := fun k x hx => by
  obtain ⟨u, hu, ho⟩ := h k x hx
  exact ⟨u, hu, own_below ho hb⟩
theorem RW.grown {B B' n : Nat} {w w' : World} {fs xs : List Value} {G : List (List Int)} {v : Value} (h : RW B w fs G) (hv : w.ownsRow B' 22 1 v n xs) (hg : w.grownBy w' v.ownBlock) : RW B w' fs G := fun k x hx => by
  obtain ⟨u, hu, ho⟩ := h k x hx
  exact ⟨u, hu, ho.kept hg (own_apart ho hv (by decide))⟩
theorem RW.mono {B B' : Nat} {w : World} {fs : List Value} {G : List (List Int)} (h : RW B w fs G) (hb : B' ≤ B) : RW B' w fs G := fun k x hx => by
  obtain ⟨u, hu, ho⟩ := h k x hx
  exact ⟨u, hu, own_mono ho hb⟩
theorem RW.snoc {B : Nat} {w : World} {fs : List Value} {G : List (List Int)} {x : List Int} {u : Value} (h : RW B w fs G) (hl : fs.length = G.length) (hu : w.ownsRow B 3 1 u x.length (x.map (Value.int .i64))) : RW B w (fs ++ [u]) (G ++ [x]) := fun k y hy => by
  rcases Nat.lt_or_ge k G.length with hk | hk
  · rw [List.getElem?_append_left hk] at hy
    obtain ⟨v, hv, ho⟩ := h k y hy
    exact ⟨v, by rw [List.getElem?_append_left (by omega)]; exact hv, ho⟩
  · rw [List.getElem?_append_right hk] at hy
    obtain rfl : k = G.length := by
      rcases Nat.eq_zero_or_pos (k - G.length) with h0 | h0
      · omega
      · rw [List.getElem?_eq_none (by simp; omega)] at hy; cases hy
    simp at hy
    subst hy
    exact ⟨u, by rw [List.getElem?_append_right (by omega), hl]; simp, hu⟩
theorem RW.set {B : Nat} {w : World} {fs : List Value} {G : List (List Int)} {x : List Int} {u : Value} (h : RW B w fs G) (hl : fs.length = G.length) (i : Nat) (hu : w.ownsRow B 3 1 u x.length (x.map (Value.int .i64))) : RW B w (fs.set i u) (G.set i x) := fun k y hy => by
  rw [List.getElem?_set] at hy ⊢
  by_cases e : i = k
  · rw [if_pos e] at hy ⊢
    split at hy
    · rename_i hk
      simp only [Option.some.injEq] at hy
      subst hy
      exact ⟨u, by rw [if_pos (by omega)], hu⟩
    · cases hy
  · rw [if_neg e] at hy ⊢
    exact h k y hy
/-- A row of ints stays, if a row of rows is stored into. -/
theorem own_setrow {B B' n m g cap : Nat} {w : World} {u : Value} {xs ys : List Value} (ho : w.ownsRow B 3 1 u n xs) (hv : w.ownsRow B' 22 1 (.slice (some ⟨g, 0, none⟩) m cap) m ys) (j : Nat) (y : Value) : (w.setCell ⟨g, j, none⟩ y).ownsRow B 3 1 u n xs := by
  have ha := own_apart ho hv (by decide)
  refine ⟨ho.1, ?_⟩
  rcases ho.2 with h0 | ⟨g1, cap', cur, h0, h1, h2, h3⟩
  · exact .inl h0
  · subst h0
    refine .inr ⟨g1, cap', cur, rfl, h1, (heap_setCell_other w ⟨g, j, none⟩ g1 y ?_).trans h2, h3⟩
    intro e
    rcases ha with ha | ha
    · cases ha
    · exact ha (by simp only [Value.ownBlock]; rw [e])
theorem RW.setrow {B B' m g cap : Nat} {w : World} {fs ys : List Value} {G : List (List Int)} (h : RW B w fs G) (hv : w.ownsRow B' 22 1 (.slice (some ⟨g, 0, none⟩) m cap) m ys) (j : Nat) (y : Value) : RW B (w.setCell ⟨g, j, none⟩ y) fs G := fun k x hx => by
  obtain ⟨u, hu, ho⟩ := h k x hx
  exact ⟨u, hu, own_setrow ho hv j y⟩
/-- Such a row of rows reads as a form. -/
theorem RW.fs {B B' g cap : Nat} {w : World} {fs : List Value} {G : List (List Int)} (h : RW B w fs G) (hv : w.ownsRow B' 22 1 (.slice (some ⟨g, 0, none⟩) G.length cap) G.length fs) : FS w (.slice (some ⟨g, 0, none⟩) G.length cap) G := by
  obtain ⟨c1, c2⟩ := own_cap hv
  refine ⟨_, _, rfl, c1, c2, fun k l hl => ?_⟩
  obtain ⟨u, hu, ho⟩ := h k l hl
  obtain ⟨ia, c, e, i1, i2, _, i3⟩ := is_own ho (rfl : l.length = l.length)
  have hk := (List.getElem?_eq_some_iff.1 hl).1
  exact ⟨g, 0, rfl, (hv.lt g rfl).2, ia, c, by rw [Nat.zero_add, hv.cellAt k (by omega), hu, e], i1, i2, i3⟩
end Go.Proofs.Ytnfppebcpagjpaa
