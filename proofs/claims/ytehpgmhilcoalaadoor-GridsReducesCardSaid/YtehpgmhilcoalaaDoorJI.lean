/- A region that draws its order, with loads beside calls that make memory: loads first, then one by one. -/
import Derived.Test.YtehpgmhilcoalaaDoorJD
import Derived.Test.YtehpgmhilcoalaaDoorJB
import Derived.Test.YtehpgmhilcoalaaDoorJC
namespace Go.Proofs.YtehpgmhilcoalaaDoor
open Go.RowKit Go.Lib
section
variable {P : Program} {ops : Array Oper} {md : Region.Mode} {S : World → Prop} {Q : Exit → Act → World → Prop} {fuel : Nat} {d : Array Bool} {a : Act} {w : World}
theorem held_take {i : Nat} {o : Oper} (hi : ops[i]? = some o) (hs : Region.noSelect ops = true) (hf : Region.free md ops d i = true) (hr : (Region.ready md ops d).contains i = true) (v : Value)
    (hQ : ∀ c a w, Q (.panic c) (a.put o.dst v) w → Q (.panic c) a w) (hS : S w) (hg : o.guard = none) (hy : ∀ w, S w → (execOp a.eval o).run P w = .ok (.value v) w)
    (h : wpAnyH P md ops Q S fuel (d.setIfInBounds i true) (a.put o.dst v) w) : wpAnyH P md ops Q S (fuel + 1) d a w :=
  wpAnyH_take hi hs hf hr hQ (.inl ⟨by simp [Region.wanted, hg], hy⟩) hS h
theorem held_load {i : Nat} {o : Oper} (hi : ops[i]? = some o) (hs : Region.noSelect ops = true) (hf : Region.free md ops d i = true) (hr : (Region.ready md ops d).contains i = true) (cs : List Value)
    (hQ : ∀ c a w, Q (.panic c) (a.put o.dst (.agg cs.toArray)) w → Q (.panic c) a w) (hS : S w) (hg : o.guard = none) (ty : TypeId) (x : Operand) (ho : o.op = .load ty x) (b off : Nat) (hx : a.eval x = .pointer (some ⟨b, off, none⟩)) (dd : TypeDesc)
    (hR : ∀ w, S w → w.rangeAt b off cs) (hu : P.underlying ty = some dd) (hd : dd.isRow = true) (hsz : (P.info? ty).map (·.size) = some cs.length)
    (h : wpAnyH P md ops Q S fuel (d.setIfInBounds i true) (a.put o.dst (.agg cs.toArray)) w) : wpAnyH P md ops Q S (fuel + 1) d a w :=
  held_take hi hs hf hr _ hQ hS hg (fun w' hw' => by
    unfold execOp
    simp only [ho, hx, Sem.run_bind, run_loadAt_mid w' b off ty cs dd (hR w' hw') hu hd hsz, Result.andThen_ok, Sem.run_pure]) h
theorem held_load1 {i : Nat} {o : Oper} (hi : ops[i]? = some o) (hs : Region.noSelect ops = true) (hf : Region.free md ops d i = true) (hr : (Region.ready md ops d).contains i = true) (v : Value)
    (hQ : ∀ c a w, Q (.panic c) (a.put o.dst v) w → Q (.panic c) a w) (hS : S w) (hg : o.guard = none) (ty : TypeId) (x : Operand) (ho : o.op = .load ty x) (ad : Addr) (hx : a.eval x = .pointer (some ad))
    (hl : ∀ w, w.cell? ad = some v → (Instr.loadAt ty (.pointer (some ad))).run P w = .ok v w) (hR : ∀ w, S w → w.cell? ad = some v)
    (h : wpAnyH P md ops Q S fuel (d.setIfInBounds i true) (a.put o.dst v) w) : wpAnyH P md ops Q S (fuel + 1) d a w :=
  held_take hi hs hf hr _ hQ hS hg (fun w' hw' => by
    unfold execOp
    simp only [ho, hx, Sem.run_bind, hl w' (hR w' hw'), Result.andThen_ok, Sem.run_pure]) h
theorem held_call {i : Nat} {o : Oper} (hr : Region.ready md ops d = [i]) (hi : ops[i]? = some o) (hg : o.guard = none) (f : FuncId) (args : List Operand) (ts : Array TypeId) (ho : o.op = .call { callee := .value (.func f), args := args.toArray, argTypes := ts }) (hent : ∀ args w, (callFunc f args).run P w = .ok (.enter f args) w) (vs : Array Value) (hv : (args.map a.eval).toArray = vs)
    (h : Calls P f vs w fun e w' => ∃ v, e = .returned v ∧ S w' ∧ wpAnyH P md ops Q S fuel (d.setIfInBounds i true) (a.put o.dst v) w') : wpAnyH P md ops Q S (fuel + 1) d a w := by
  subst hv
  refine wpAnyH_all hr (by simp) fun j hj => ?_
  obtain rfl : j = i := by simpa using hj
  have hw : Region.wanted o (yielded ops a.tmps) = true := by simp [Region.wanted, hg]
  unfold wpOp
  simp only [hi]
  rw [if_pos hw]
  refine .inl ?_
  unfold Oper.wp execOp
  simp [ho, resolve, invoke, Act.eval, go_sem, hent, Oper.upon]
  refine h.mono fun e w' ⟨v, he, hS, hk⟩ => ?_
  subst he
  exact ⟨hS, hk⟩
theorem held_still {i : Nat} {o : Oper} (hr : Region.ready md ops d = [i]) (hi : ops[i]? = some o) (hg : o.guard = none) (v : Value) (hv : (execOp a.eval o).run P w = .ok (.value v) w) (hS : S w)
    (h : wpAnyH P md ops Q S fuel (d.setIfInBounds i true) (a.put o.dst v) w) : wpAnyH P md ops Q S (fuel + 1) d a w := by
  refine wpAnyH_all hr (by simp) fun j hj => ?_
  obtain rfl : j = i := by simpa using hj
  have hw : Region.wanted o (yielded ops a.tmps) = true := by simp [Region.wanted, hg]
  unfold wpOp
  simp only [hi]
  rw [if_pos hw]
  refine .inl ?_
  unfold Oper.wp
  rw [hv]
  simp only [Oper.upon]
  exact ⟨hS, h⟩
end
theorem list_append_n {ops : Array Oper} {rest : List Oper} {o : Oper} {a : Act} {w : World} {Q : Exit → Act → World → Prop} (hgd : o.guard = none) (s y : Operand) (ho : o.op = .call { callee := .builtin .append, args := #[s, y], argTypes := #[41, 41] })
    {B : Nat} {ao : Option Addr} {cap : Nat} {L : List Mat} (h : FR B w ao cap L) (X : List Mat) (nl n : Nat) (hl : L.length = nl) (hn : X.length = n) (hL : nl + n < 4000000000) (hB : B ≤ w.heap.size) (sa : Option Addr) (c : Nat) (hx : Shows w sa X)
    (hs : a.eval s = .slice ao nl cap) (hy : a.eval y = .slice sa n c) (hk : ∀ ao' cap' w', FR B w' ao' cap' (L ++ X) → Below B w w' → w.heap.size ≤ w'.heap.size → wpList Tryd.prog ops Q rest (a.put o.dst (.slice ao' (nl + n) cap')) w') :
    wpList Tryd.prog ops Q (o :: rest) a w := by
  subst hl
  subst hn
  exact list_append_all hgd s y ho h X hL hB sa c hx hs hy hk
theorem shows_one {w : World} {g : Nat} {m : Mat} (h : w.rangeAt g 0 (ml m)) (hg : g < w.heap.size) : Shows w (some ⟨g, 0, none⟩) [m] :=
  ⟨fun e => (by cases e), fun a ha _ => ⟨g, 0, (Option.some.inj ha).symm, hg, by
    have e : fl [m] = ml m := by simp [fl]
    rw [e]; exact h⟩⟩
theorem insM_at {O : List Mat} {m : Mat} {ix : Nat} (h : atM m O = ix) : insM O m = O.take ix ++ [m] ++ O.drop ix := by
  unfold insM
  rw [h]; simp
end Go.Proofs.YtehpgmhilcoalaaDoor
