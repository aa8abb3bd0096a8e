/- append as a step of a region that draws its order: own rows of ints. -/
import Derived.Test.YtnfppebcpagjpaaDQ
namespace Go.Proofs.Ytnfppebcpagjpaa
open Go.RowKit Go.Lib
/-- append(v, xs...) as a step of a region that draws: an own row grows by another row; what else lies in memory stays. -/
theorem step_all {ops : Array Oper} {o : Oper} {a : Act} {K : Act → World → Prop} {Q : Exit → Act → World → Prop} {E : Prop} {w : World} (B : Nat) (v : Value) (zs xs : List Int)
    (hgd : o.guard = none) (s y : Operand) (ho : o.op = .call { callee := .builtin .append, args := #[s, y], argTypes := #[22, 22] }) (hs : a.eval s = v)
    (hown : w.ownsRow B 3 1 v zs.length (zs.map (Value.int .i64))) (u : Value) (hy : a.eval y = u) (hxs : IS w u xs) (hl : zs.length + xs.length < 100000) (hB : B ≤ w.heap.size)
    (h : ∀ v' w', Hid (w'.ownsRow B 3 1 v' (zs ++ xs).length ((zs ++ xs).map (Value.int .i64))) → Hid (w' = w ∨ w.grownBy w' v.ownBlock) → K (a.put o.dst v') w') :
    if Region.wanted o (yielded ops a.tmps) = true then Oper.wp Try.prog o a w K Q else E := by
  have hw : Region.wanted o (yielded ops a.tmps) = true := by simp [Region.wanted, hgd]
  rw [if_pos hw]
  obtain ⟨i0, hi, hz0, hz1, hz2⟩ := info_parts infoInt
  obtain ⟨sa, sc, rfl, _, _, h00, hxs⟩ := hxs
  cases sa with
  | none =>
    obtain rfl := h00 rfl
    have hx0 : xs = [] := by
      cases xs with
      | nil => rfl
      | cons x xs => obtain ⟨b, off, e, _⟩ := hxs 0 x rfl; cases e
    subst hx0
    have hrun := run_append_owned_none (P := Try.prog) (w := w) B 22 o.type 3 i0 1 Try.underlying22 hi v _ _ hown
    have hy' : a.eval y = .slice none 0 0 := hy
    unfold Oper.wp
    simp [execOp, ho, resolve, invoke, builtin, hs, hy', hrun, Result.andThen]
    exact h v w (by rw [List.append_nil]; exact hown) (.inl rfl)
  | some ad =>
    refine wp_append_own _ s y 22 ho B 3 i0 (.int .i64 0) 1 8 Try.underlying22 hi hz0 hz1 hz2 rfl (by decide) v _ _ hs hown ad xs.length sc (xs.map (Value.int .i64)) hy (by simp) ?_ ?_ (by unfold maxLen; omega) (by omega) hB ?_
    · intro j u hj
      rw [List.getElem?_map] at hj
      obtain ⟨z, hz, rfl⟩ := Option.map_eq_some_iff.1 hj
      obtain ⟨b, off, e, _, hc⟩ := hxs j z hz
      cases e
      rw [Addr.add_mid]
      exact hc
    · intro u hu
      obtain ⟨z, _, rfl⟩ := List.mem_map.1 hu
      rfl
    · intro v' w' hown' hgrow _
      exact h v' w' (by rw [List.map_append, List.length_append]; exact hown') (.inr hgrow)
theorem step_all2 {ops : Array Oper} {o : Oper} {a : Act} {K : Act → World → Prop} {Q : Exit → Act → World → Prop} {E : Prop} {w w0 : World} (B : Nat) (v : Value) (zs xs : List Int)
    (hgd : o.guard = none) (s y : Operand) (ho : o.op = .call { callee := .builtin .append, args := #[s, y], argTypes := #[22, 22] }) (hs : a.eval s = v)
    (hown : w.ownsRow B 3 1 v zs.length (zs.map (Value.int .i64))) (u : Value) (hy : a.eval y = u) (hxs : IS w u xs) (hl : zs.length + xs.length < 100000) (hb : Below B w0 w) (hB : B ≤ w.heap.size)
    (h : ∀ v' w', Hid (w'.ownsRow B 3 1 v' (zs ++ xs).length ((zs ++ xs).map (Value.int .i64))) → Hid (Below B w0 w') → Hid (∀ c : Nat, c < w.heap.size → v.ownBlock ≠ some c → w'.heap[c]? = w.heap[c]?) → Hid (B ≤ w'.heap.size) → K (a.put o.dst v') w') :
    if Region.wanted o (yielded ops a.tmps) = true then Oper.wp Try.prog o a w K Q else E := by
  refine step_all B v zs xs hgd s y ho hs hown u hy hxs hl hB fun v' w' O G => ?_
  rcases G.out with rfl | hg
  · exact h v' w' O hb (fun _ _ _ => rfl) hB
  · exact h v' w' O (Below.grown hb hg hB fun k e => (hown.lt k e).1) (fun c hc hn => hg.block c hc (Ne.symm hn)) (Nat.le_trans hB hg.size)
end Go.Proofs.Ytnfppebcpagjpaa
