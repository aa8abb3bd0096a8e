/- A whole row loaded and stored, in a walk under a fence. -/
import Derived.Test.YtenfeekchggioaaFO
namespace Go.Proofs.Ytenfeekchggioaa
open Go.RowKit Go.Shelf Go.Lib
attribute [local go_sem] Oper.semAt_some
theorem in_load_row {n : Nat} {ops : Array Oper} {rest : List Oper} {o : Oper} {a : Act} {w : World} {Q : Exit → Act → World → Prop} (hgd : o.guard = none) (ty : TypeId) (x : Operand) (ho : o.op = .load ty x)
    (g : Nat) (hx : a.eval x = .pointer (some ⟨g, 0, none⟩)) (cs : Array Value) (hl : (loadVar ty ⟨g, 0, none⟩).run Try.prog w = .ok (.agg cs) w)
    (h : wpListIn Fence.wide n Try.prog ops Q rest (a.put o.dst (.agg cs)) w) : wpListIn Fence.wide n Try.prog ops Q (o :: rest) a w :=
  wpListIn_plain hgd fun K hK => by
    refine ⟨fun _ _ => trivial, ?_⟩
    have e : (o.semAt Fence.wide.round a.eval).run Try.prog w = .ok (.value (.agg cs)) w := by
      show (o.semAt none a.eval).run Try.prog w = _
      simp only [Oper.semAt, execOp, ho, hx, Instr.loadAt, Instr.sureAddr, Sem.run_bind, Sem.run_pure, Result.andThen_ok, hl]
    rw [e]
    exact hK _ _ h
theorem in_store_row {n : Nat} {ops : Array Oper} {rest : List Oper} {o : Oper} {a : Act} {w : World} {Q : Exit → Act → World → Prop} (hgd : o.guard = none) (ty : TypeId) (x y : Operand) (ho : o.op = .store ty x y)
    (g : Nat) (cells : Array Value) (hx : a.eval x = .pointer (some ⟨g, 0, none⟩)) (hy : a.eval y = .agg cells)
    (t : TypeId) (old : Array Value) (hg : w.heap[g]? = some (.cells old t (0, 0))) (hi : (Try.prog.info? ty).map (·.size) = some cells.size)
    (hold : old.size = cells.size) (h1 : cells.all (·.oneCell') = true)
    (h : wpListIn Fence.wide n Try.prog ops Q rest (a.put o.dst undef) (w.setRow g cells)) : wpListIn Fence.wide n Try.prog ops Q (o :: rest) a w :=
  wpListIn_plain hgd fun K hK => by
    refine ⟨fun _ _ => trivial, ?_⟩
    have e : (o.semAt Fence.wide.round a.eval).run Try.prog w = .ok .skip (w.setRow g cells) := by
      show (o.semAt none a.eval).run Try.prog w = _
      simp only [Oper.semAt, execOp, ho, hx, hy, Instr.storeAt, Instr.sureAddr, Sem.run_bind, Sem.run_pure, Result.andThen_ok, run_storeVar_row w g t ty old cells hg hi hold h1]
    rw [e]
    exact hK _ _ h
end Go.Proofs.Ytenfeekchggioaa
