/- Sheets in boxes: their laws. -/
import Derived.Test.YtgbdccoimmkmeaaWJ
import Derived.Laws.ResultCell
namespace Go.Proofs.Ytgbdccoimmkmeaa
open Go.RowKit
set_option linter.unusedSimpArgs false
theorem range_cell0 {W : World} {b j : Nat} {vs : List Value} {v : Value} (h : W.rangeAt b 0 vs) (hv : vs[j]? = some v) : W.cell? ⟨b, j, none⟩ = some v := by have := h j v hv; rwa [Nat.zero_add] at this
theorem hb_new {W : World} {b : Nat} {vs : Array Value} {T : TypeId} (h : b = W.heap.size) : (W.alloc (.cells vs T)).heap[b]? = some (.cells vs T (0, 0)) := by subst h; exact heap_alloc_new W _
theorem hb_below {W W' : World} {b n : Nat} {o : Option Obj} (hb : Below n W W') (h : W.heap[b]? = o) (hn : b < n) : W'.heap[b]? = o := (hb.block _ hn).trans h
theorem hb_old {W : World} {b : Nat} {o : Option Obj} {o' : Obj} (h : W.heap[b]? = o) (hn : b < W.heap.size) : (W.alloc o').heap[b]? = o := hb_below (below_alloc W o') h hn
theorem hb_drew {W : World} {b : Nat} {o : Option Obj} (h : W.heap[b]? = o) : W.drew.heap[b]? = o := h
theorem range_of_heap {W : World} {b : Nat} {vs : List Value} {T : TypeId} (h : W.heap[b]? = some (.cells vs.toArray T (0, 0))) : W.rangeAt b 0 vs := fun j v hv => by
  rw [Nat.zero_add, cell_of_row _ _ j _ _ _ h, List.getElem?_toArray, hv]
theorem cell_of_heap {W : World} {b j : Nat} {vs : List Value} {v : Value} {T : TypeId} (h : W.heap[b]? = some (.cells vs.toArray T (0, 0))) (hv : vs[j]? = some v) : W.cell? ⟨b, j, none⟩ = some v := range_cell0 (range_of_heap h) hv
theorem frozen_of_heap {W : World} {b : Nat} {vs : Array Value} {T : TypeId} (h : W.heap[b]? = some (.cells vs T (0, 0))) (j : Nat) : W.frozen? ⟨b, j, none⟩ = false := by
  simp [World.frozen?, h]
theorem store_row {P : Program} {ops : Array Oper} {rest : List Oper} {o : Oper} {a : Act} {w : World} {Q : Exit → Act → World → Prop} (hgd : o.guard = none) (ty : TypeId) (x y : Operand) (ho : o.op = .store ty x y)
    (g : Nat) (cells : Array Value) (hx : a.eval x = .pointer (some ⟨g, 0, none⟩)) (hy : a.eval y = .agg cells)
    (t : TypeId) (old : Array Value) (hg : w.heap[g]? = some (.cells old t (0, 0))) (hi : (P.info? ty).map (·.size) = some cells.size)
    (hold : old.size = cells.size) (h1 : cells.all (·.oneCell') = true)
    (h : ∀ w', w'.heap[g]? = some (.cells cells t (0, 0)) → (∀ (k : Nat) (ob : Option Obj), w.heap[k]? = ob → k ≠ g → w'.heap[k]? = ob) → w'.heap.size = w.heap.size → (∀ B w0, Below B w0 w → B ≤ g → Below B w0 w') → wpList P ops Q rest (a.put o.dst undef) w') :
    wpList P ops Q (o :: rest) a w := by
  refine wpList_plain hgd fun K hK => ?_
  unfold Oper.wp execOp
  simp only [ho, hx, hy, Instr.storeAt, Instr.sureAddr, Sem.run_bind, Sem.run_pure, Result.andThen_ok, run_storeVar_row w g t ty old cells hg hi hold h1]
  refine hK _ _ (h _ ?_ ?_ ?_ ?_)
  · unfold World.setRow
    simp only [Array.getElem?_modify, if_pos, hg, Option.map_some]
  · intro k ob hk hne
    rw [← hk]
    unfold World.setRow
    simp only [Array.getElem?_modify, if_neg (Ne.symm hne)]
  · simp [World.setRow]
  · exact fun B w0 hb hB => below_setRow hb hB _
section
variable {P : Program} {fn : Func}
theorem results_bt {p q : Tmp} {ty : TypeId} (h : fn.results = #[.cell p ty, .tmp q]) (tmps : Array Value) (w : World) (g : Nat) {t : TypeId} {cs : Array Value} {fr : Nat × Nat} {d : TypeDesc} {u : Value}
    (hp : tmps.getD p undef = .pointer (some ⟨g, 0, none⟩)) (hq : tmps.getD q undef = u) (hg : w.heap[g]? = some (.cells cs t fr))
    (hu : P.underlying ty = some d) (hd : (match d with | .struct _ | .array _ _ => true | _ => false) = true) (hi : (P.info? ty).map (·.size) = some cs.size) :
    (results fn tmps).run P w = .ok (.tuple #[.agg cs, u]) w := by
  have hp' : tmps[p]?.getD undef = .pointer (some ⟨g, 0, none⟩) := by simpa using hp
  have hq' : tmps[q]?.getD undef = u := by simpa using hq
  simp [results, h, hp', hq', asAddr, run_loadVar_row w g t ty cs fr d hg hu hd hi]
end
theorem results_b {P : Program} {fn : Func} {p : Tmp} {ty : TypeId} (h : fn.results = #[.cell p ty]) (tmps : Array Value) (w : World) (g : Nat) {t : TypeId} {cs : Array Value} {fr : Nat × Nat} {d : TypeDesc}
    (hp : tmps.getD p undef = .pointer (some ⟨g, 0, none⟩)) (hg : w.heap[g]? = some (.cells cs t fr))
    (hu : P.underlying ty = some d) (hd : (match d with | .struct _ | .array _ _ => true | _ => false) = true) (hi : (P.info? ty).map (·.size) = some cs.size) :
    (results fn tmps).run P w = .ok (.agg cs) w := by
  have hp' : tmps[p]?.getD undef = .pointer (some ⟨g, 0, none⟩) := by simpa using hp
  simp [results, h, hp', asAddr, run_loadVar_row w g t ty cs fr d hg hu hd hi]
end Go.Proofs.Ytgbdccoimmkmeaa
