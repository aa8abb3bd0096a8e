/- passes: the line and the table of meetings are laid. -/
import Derived.Test.YtgbdccoimmkmeaaWV
import Derived.Test.YtgbdccoimmkmeaaXP
import Derived.OrdersHeld
import Derived.Deep.CutBlock
namespace Go.Proofs.Ytgbdccoimmkmeaa
open Go.RowKit
set_option linter.unusedSimpArgs false
attribute [local irreducible] wpQuiet
abbrev zrow (pr : Nat) : Array Value := madeCells #[.int .i64 0] pr
abbrev slv (pr g : Nat) : Value := .slice (some ⟨g, 0, none⟩) pr pr
theorem infoInts : (Try.prog.info? 33).map (fun i => (i.zero, i.size, i.bytes)) = some (some (.slice none 0 0), 1, 24) := by kernel_rfl
/-- append of a number, with what it turns. -/
theorem app_l {ops : Array Oper} {rest : List Oper} {o : Oper} {a : Act} {Q : Exit → Act → World → Prop} {w : World} (B : Nat) (v : Value) (zs : List Int) (x : Int)
    (hgd : o.guard = none) (s y : Operand) (ho : o.op = .call { callee := .builtin .append, args := #[s, y], argTypes := #[33, 33] }) (hs : a.eval s = v)
    (hown : w.ownsRow B 3 1 v zs.length (zs.map (Value.int .i64))) (hy : a.eval y = .slice (some ⟨w.heap.size, 0, none⟩) 1 1) (hl : zs.length < 100000) (hB : B ≤ w.heap.size)
    (h : ∀ v' w', w'.ownsRow B 3 1 v' (zs.length + 1) ((zs ++ [x]).map (Value.int .i64)) → (w.alloc (.cells #[.int .i64 x] 3)).grownBy w' v.ownBlock → (v'.ownBlock = v.ownBlock ∨ v'.ownBlock = some (w.heap.size + 1)) → wpList Try.prog ops Q rest (a.put o.dst v') w') :
    wpList Try.prog ops Q (o :: rest) a (w.alloc (.cells #[.int .i64 x] 3)) := by
  obtain ⟨i0, hi, hz0, hz1, hz2⟩ := info_parts infoInt
  refine wpList_append_own_at _ hgd s y 33 ho B 3 i0 (.int .i64 0) 1 8 Try.underlying33 hi hz0 hz1 hz2 rfl (by decide) v _ _ hs (hown.alloc _) ⟨w.heap.size, 0, none⟩ 1 1 [.int .i64 x] hy rfl (cell_one_new _ _ _) (by simp [Value.oneCell']) (by unfold maxLen; omega) (by omega) (by simp; omega) ?_
  intro v' w' hown' hgrow _ hloc
  exact h v' w' (by rw [List.map_append]; exact hown') hgrow (by simpa using hloc)
/-- append of a row, with what it turns. -/
theorem app_m {ops : Array Oper} {rest : List Oper} {o : Oper} {a : Act} {Q : Exit → Act → World → Prop} {w : World} (B : Nat) (v : Value) (fs : List Value) (u : Value)
    (hgd : o.guard = none) (s y : Operand) (ho : o.op = .call { callee := .builtin .append, args := #[s, y], argTypes := #[40, 40] }) (hs : a.eval s = v)
    (hown : w.ownsRow B 33 1 v fs.length fs) (hu : u.oneCell' = true) (b : Nat) (hb : w.heap.size = b) (hy : a.eval y = .slice (some ⟨b, 0, none⟩) 1 1) (hl : fs.length < 100000) (hB : B ≤ w.heap.size)
    (h : ∀ v' w', w'.ownsRow B 33 1 v' (fs.length + 1) (fs ++ [u]) → (w.alloc (.cells #[u] 33)).grownBy w' v.ownBlock → wpList Try.prog ops Q rest (a.put o.dst v') w') :
    wpList Try.prog ops Q (o :: rest) a (w.alloc (.cells #[u] 33)) := by
  subst hb
  obtain ⟨i0, hi, hz0, hz1, hz2⟩ := info_parts infoInts
  refine wpList_append_own_at _ hgd s y 40 ho B 33 i0 (.slice none 0 0) 1 24 Try.underlying40 hi hz0 hz1 hz2 rfl (by decide) v _ _ hs (hown.alloc _) ⟨w.heap.size, 0, none⟩ 1 1 [u] hy rfl (cell_one_new _ _ _) (by simpa using hu) (by unfold maxLen; omega) (by omega) (by simp; omega) ?_
  intro v' w' hown' hgrow _ _
  exact h v' w' hown' hgrow
/-- The line and the table, k of them laid. -/
structure P1 (B : Nat) (w : World) (pr k : Nat) (vl vm : Value) (gs : List Nat) : Prop where
  lin : w.ownsRow B 3 1 vl k (((List.range k).map fun (i : Nat) => (i : Int)).map (Value.int .i64))
  tab : w.ownsRow B 33 1 vm k (gs.map (slv pr))
  len : gs.length = k
  nd : gs.Nodup
  row : ∀ g ∈ gs, B ≤ g ∧ w.heap[g]? = some (.cells (zrow pr) 3 (0, 0))
  far : ∀ g ∈ gs, vl.ownBlock ≠ some g
theorem heap_lt {w : World} {g : Nat} {o : Obj} (h : w.heap[g]? = some o) : g < w.heap.size := (Array.getElem?_eq_some_iff.1 h).1
theorem own_type {w : World} {B k n : Nat} {e : TypeId} {v : Value} {xs : List Value} (h : w.ownsRow B e k v n xs) {g : Nat} {cs : Array Value} {t : TypeId} {fr : Nat × Nat} (hg : w.heap[g]? = some (.cells cs t fr)) (hne : e ≠ t) : v.ownBlock ≠ some g := fun he => by
  obtain ⟨_, hh⟩ := h
  rcases hh with ⟨rfl, _⟩ | ⟨g2, cap, cur, rfl, _, hg2, _⟩
  · cases he
  · have e2 : g2 = g := Option.some.inj he
    subst e2
    rw [hg] at hg2
    cases hg2
    exact hne rfl
theorem p1_zero (B pr : Nat) (w : World) : P1 B w pr 0 (.slice none 0 0) (.slice none 0 0) [] :=
  ⟨World.ownsRow_nil _ _ _ _, World.ownsRow_nil _ _ _ _, rfl, List.nodup_nil, (fun g hg => by cases hg), (fun g hg => by cases hg)⟩
theorem p1_line {B pr k : Nat} {w w' : World} {vl vl' vm : Value} {gs : List Nat} (h : P1 B w pr k vl vm gs)
    (hl : w'.ownsRow B 3 1 vl' (k + 1) ((((List.range k).map fun (i : Nat) => (i : Int)) ++ [(k : Int)]).map (Value.int .i64))) (hg : (w.alloc (.cells #[.int .i64 (k : Int)] 3)).grownBy w' vl.ownBlock) (hloc : vl'.ownBlock = vl.ownBlock ∨ vl'.ownBlock = some (w.heap.size + 1)) :
    w'.ownsRow B 3 1 vl' (k + 1) (((List.range (k + 1)).map fun (i : Nat) => (i : Int)).map (Value.int .i64)) ∧ w'.ownsRow B 33 1 vm k (gs.map (slv pr)) ∧ (∀ g ∈ gs, B ≤ g ∧ w'.heap[g]? = some (.cells (zrow pr) 3 (0, 0))) ∧ (∀ g ∈ gs, vl'.ownBlock ≠ some g) ∧ w.heap.size ≤ w'.heap.size := by
  refine ⟨by rw [List.range_succ, List.map_append]; exact hl, World.ownsRow.kept (h.tab.alloc _) hg (own_apart h.tab h.lin (by decide)), fun g hgm => ?_, fun g hgm e => ?_, ?_⟩
  · obtain ⟨h1, h2⟩ := h.row g hgm
    refine ⟨h1, ?_⟩
    have hlt := heap_lt h2
    rw [hg.block g (by simp; omega) (fun e => h.far g hgm e.symm)]
    exact (Below.heap_alloc w _ g hlt).trans h2
  · have hlt := heap_lt (h.row g hgm).2
    rcases hloc with hloc | hloc
    · exact h.far g hgm (hloc ▸ e)
    · rw [hloc] at e
      have := Option.some.inj e
      omega
  · have := hg.size
    simp at this
    omega
theorem p1_row {B pr k : Nat} {w w' : World} {vl vm vm' : Value} {gs : List Nat} (hB : B ≤ w.heap.size)
    (hl : w.ownsRow B 3 1 vl (k + 1) (((List.range (k + 1)).map fun (i : Nat) => (i : Int)).map (Value.int .i64))) (ht : w.ownsRow B 33 1 vm k (gs.map (slv pr))) (hlen : gs.length = k) (hnd : gs.Nodup)
    (hr : ∀ g ∈ gs, B ≤ g ∧ w.heap[g]? = some (.cells (zrow pr) 3 (0, 0))) (hf : ∀ g ∈ gs, vl.ownBlock ≠ some g)
    (ht' : w'.ownsRow B 33 1 vm' (k + 1) (gs.map (slv pr) ++ [slv pr w.heap.size])) (hg : ((w.alloc (.cells (zrow pr) 3)).alloc (.cells #[slv pr w.heap.size] 33)).grownBy w' vm.ownBlock) :
    P1 B w' pr (k + 1) vl vm' (gs ++ [w.heap.size]) ∧ w.heap.size ≤ w'.heap.size := by
  have hz := hg.size
  simp at hz
  have hnew : ((w.alloc (.cells (zrow pr) 3)).alloc (.cells #[slv pr w.heap.size] 33)).heap[w.heap.size]? = some (.cells (zrow pr) 3 (0, 0)) := (Below.heap_alloc _ _ _ (by simp)).trans (heap_alloc_new w _)
  have htt := (ht.alloc (.cells (zrow pr) 3)).alloc (.cells #[slv pr w.heap.size] 33)
  refine ⟨⟨?_, by rw [List.map_append]; exact ht', by rw [List.length_append, hlen]; rfl, ?_, fun g hgm => ?_, fun g hgm e => ?_⟩, by omega⟩
  · exact World.ownsRow.kept ((hl.alloc _).alloc _) hg (own_apart hl ht (by decide))
  · rw [List.nodup_append]
    refine ⟨hnd, by simp, fun a ha b hb e => ?_⟩
    rw [List.mem_singleton] at hb
    have := heap_lt (hr a ha).2
    omega
  · rcases List.mem_append.1 hgm with hm | hm
    · obtain ⟨h1, h2⟩ := hr g hm
      have hlt := heap_lt h2
      have h3 : ((w.alloc (.cells (zrow pr) 3)).alloc (.cells #[slv pr w.heap.size] 33)).heap[g]? = some (.cells (zrow pr) 3 (0, 0)) := ((Below.heap_alloc _ _ _ (by simp; omega)).trans (Below.heap_alloc w _ g hlt)).trans h2
      exact ⟨h1, (hg.block g (heap_lt h3) (fun e => own_type htt h3 (by decide) e.symm)).trans h3⟩
    · rw [List.mem_singleton] at hm
      subst hm
      exact ⟨hB, (hg.block _ (heap_lt hnew) (fun e => own_type htt hnew (by decide) e.symm)).trans hnew⟩
  · rcases List.mem_append.1 hgm with hm | hm
    · exact hf g hm e
    · rw [List.mem_singleton] at hm
      subst hm
      have := (World.ownsRow.lt hl _ e).2
      omega
end Go.Proofs.Ytgbdccoimmkmeaa
