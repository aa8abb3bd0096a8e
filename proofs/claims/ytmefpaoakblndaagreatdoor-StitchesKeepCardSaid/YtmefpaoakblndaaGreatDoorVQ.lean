/- Slices of ints that are handed out; append of one and of many (out of XCE). -/
import Derived.Test.YtmefpaoakblndaaGreatDoorBX
import Derived.Maps.AppendAt
import Derived.Laws.AppendOwnNone
namespace Go.Proofs.YtmefpaoakblndaaGreatDoor
open Go.RowKit Go.Lib
/-- A slice value that reads as these numbers. -/
def IS (w : World) (v : Value) (zs : List Int) : Prop := ∃ a c, v = .slice a zs.length c ∧ zs.length ≤ c ∧ c ≤ maxLen ∧ (a = none → c = 0) ∧ IntsAt w a zs
theorem IS.below {w w' : World} {v : Value} {zs : List Int} (h : IS w v zs) (hb : Below w.heap.size w w') : IS w' v zs := by
  obtain ⟨a, c, e, h1, h2, h0, h3⟩ := h
  exact ⟨a, c, e, h1, h2, h0, h3.below hb⟩
theorem is_nil (w : World) : IS w (.slice none 0 0) [] := ⟨none, 0, rfl, Nat.le_refl _, Nat.zero_le _, fun _ => rfl, fun k z h => by cases h⟩
theorem is_own {w : World} {B n : Nat} {v : Value} {zs : List Int} (h : w.ownsRow B 3 1 v n (zs.map (Value.int .i64))) (hn : zs.length = n) : IS w v zs := by
  rcases h.2 with ⟨rfl, h0⟩ | ⟨g, cap, cur, rfl, _, hg, h1, h2, _, _⟩
  · have : zs = [] := List.eq_nil_of_length_eq_zero (by omega)
    subst this
    exact is_nil w
  · refine ⟨some ⟨g, 0, none⟩, cap, by rw [hn], by omega, h2, (fun e => by cases e), fun k z hz => ⟨g, 0, rfl, (Array.getElem?_eq_some_iff.1 hg).1, ?_⟩⟩
    have hk := (List.getElem?_eq_some_iff.1 hz).1
    rw [Nat.zero_add, h.cellAt k (by omega), List.getElem?_map, hz]
    rfl
/-- append(v, x), x an int: an own row grows by one. -/
theorem app_one {ops : Array Oper} {rest : List Oper} {o : Oper} {a : Act} {Q : Exit → Act → World → Prop} {w w0 : World} (B : Nat) (v : Value) (zs : List Int) (x : Int)
    (hgd : o.guard = none) (s y : Operand) (ho : o.op = .call { callee := .builtin .append, args := #[s, y], argTypes := #[23, 23] }) (hs : a.eval s = v)
    (hown : w.ownsRow B 3 1 v zs.length (zs.map (Value.int .i64))) (hy : a.eval y = .slice (some ⟨w.heap.size, 0, none⟩) 1 1) (hl : zs.length < 100000) (hb : Below B w0 w) (hB : B ≤ w.heap.size)
    (h : ∀ g cap w', w'.ownsRow B 3 1 (.slice (some ⟨g, 0, none⟩) (zs.length + 1) cap) (zs.length + 1) ((zs ++ [x]).map (Value.int .i64)) → Below B w0 w' → wpList Tryz.prog ops Q rest (a.put o.dst (.slice (some ⟨g, 0, none⟩) (zs.length + 1) cap)) w') :
    wpList Tryz.prog ops Q (o :: rest) a (w.alloc (.cells #[.int .i64 x] 3)) := by
  obtain ⟨i0, hi, hz0, hz1, hz2⟩ := info_parts infoInt
  refine wpList_append_own _ hgd s y 23 ho B 3 i0 (.int .i64 0) 1 8 Tryz.underlying23 hi hz0 hz1 hz2 rfl (by decide) v _ _ hs (hown.alloc _) ⟨w.heap.size, 0, none⟩ 1 1 [.int .i64 x] hy rfl (cell_one_new _ _ _) (by simp [Value.oneCell']) (by unfold maxLen; omega) (by omega) (by simp; omega) ?_
  intro v' w' hown' hgrow _
  rcases hown'.2 with ⟨_, h0⟩ | ⟨g, cap, _, rfl, _⟩
  · omega
  · refine h g cap w' (by rw [List.map_append]; exact hown') ?_
    exact Below.grown (hb.alloc hB _) hgrow (by simp; omega) fun k e => (hown.lt k e).1
/-- append(v, xs...): an own row grows by another row. -/
theorem app_all {ops : Array Oper} {rest : List Oper} {o : Oper} {a : Act} {Q : Exit → Act → World → Prop} {w w0 : World} (B : Nat) (v : Value) (zs xs : List Int)
    (hgd : o.guard = none) (s y : Operand) (ho : o.op = .call { callee := .builtin .append, args := #[s, y], argTypes := #[23, 23] }) (hs : a.eval s = v)
    (hown : w.ownsRow B 3 1 v zs.length (zs.map (Value.int .i64))) (u : Value) (hy : a.eval y = u) (hxs : IS w u xs) (hl : zs.length + xs.length < 100000) (hb : Below B w0 w) (hB : B ≤ w.heap.size)
    (h : ∀ v' w', w'.ownsRow B 3 1 v' (zs ++ xs).length ((zs ++ xs).map (Value.int .i64)) → Below B w0 w' → wpList Tryz.prog ops Q rest (a.put o.dst v') w') :
    wpList Tryz.prog ops Q (o :: rest) a w := by
  obtain ⟨i0, hi, hz0, hz1, hz2⟩ := info_parts infoInt
  obtain ⟨sa, sc, rfl, _, _, h00, hxs⟩ := hxs
  cases sa with
  | none =>
    obtain rfl := h00 rfl
    have hx0 : xs = [] := by
      cases xs with
      | nil => rfl
      | cons x xs => obtain ⟨b, off, e, _⟩ := hxs 0 x rfl; cases e
    subst hx0
    refine wpList_append_own_none hgd s y 23 ho B 3 i0 1 Tryz.underlying23 hi v _ _ hs hown hy (h v w ?_ hb)
    rw [List.append_nil]
    exact hown
  | some ad =>
    refine wpList_append_own _ hgd s y 23 ho B 3 i0 (.int .i64 0) 1 8 Tryz.underlying23 hi hz0 hz1 hz2 rfl (by decide) v _ _ hs hown ad xs.length sc (xs.map (Value.int .i64)) hy (by simp) ?_ ?_ (by unfold maxLen; omega) (by omega) hB ?_
    · intro j u hj
      rw [List.getElem?_map] at hj
      obtain ⟨z, hz, rfl⟩ := Option.map_eq_some_iff.1 hj
      obtain ⟨b, off, e, _, hc⟩ := hxs j z hz
      cases e
      rw [Addr.add_mid]
      exact hc
    · intro u hu
      obtain ⟨z, _, rfl⟩ := List.mem_map.1 hu
      rfl
    · intro v' w' hown' hgrow _
      refine h v' w' (by rw [List.map_append, List.length_append]; exact hown') ?_
      exact Below.grown hb hgrow hB fun k e => (hown.lt k e).1
end Go.Proofs.YtmefpaoakblndaaGreatDoor
