/- What the listed variables and the world's shape give every law of layer 3. -/
import Derived.Test.YtklkondkjaiinaaGreatDoorVF
import Derived.Test.YtklkondkjaiinaaGreatDoorShelf
import Derived.Test.YtklkondkjaiinaaGreatDoorRows
import Derived.ProofKit
import Derived.LaidMore
import Derived.Lay
import Derived.OpenShut
import Derived.Stop.Joined
import Derived.Stop.LaidErr
import Derived.HandedShaped
import Derived.ChangeSame
namespace Go.Proofs.YtklkondkjaiinaaGreatDoor
open Go.ChangeShapes Go.WideShapes Go.ChangeAt Go.RowKit
theorem own : ownKnob Tryz.prog.godebug = none := by kernel_rfl
theorem gUsual : Tryz.prog.globalNamed "torchon/stitches.usual" = some 0 := by kernel_rfl
theorem tUsual : (Tryz.prog.globals[0]?).map (·.type) = some 64 := by kernel_rfl
theorem gAcc : Tryz.prog.globalNamed "unicode/utf8.acceptRanges" = some 3 := by kernel_rfl
/-- The great premise of every law's row. -/
def laidL : List (String × DataW Unit) := [("unicode/utf8.acceptRanges", Rows.laid_unicode_utf8_acceptRanges), ("torchon/stitches.usual", Rows.laid_torchon_stitches_usual), ("unicode/utf8.first", Rows.laid_unicode_utf8_first)]
theorem str_of {s : ByteArray} {l : List UInt8} (h : s.data.toList = l) : s = ⟨l.toArray⟩ := by
  apply ByteArray.ext
  rw [← h]
set_option maxRecDepth 100000 in
theorem stitch_cells {enc : TypeId × Value → Unit} {W : World} {base fuel : Nat} {spare : Bool} {held : Nat → Bool} {u v : Value} {a b : List UInt8} {y : DataW Unit × List MemPlace} (hy : y.1 = .agg [.lit (.string a), .lit (.string b)]) (h : DataW.trod enc Tryz.prog W base held spare fuel 63 [u, v] = some y) : u = .string ⟨a.toArray⟩ ∧ v = .string ⟨b.toArray⟩ := by
  have hc1 : Tryz.prog.cellsOf 9 = 1 := by kernel_rfl
  obtain ⟨y0, y1, n, e, _, g0, g1⟩ := trod_struct2 Tryz.underlying63 h
  simp [hc1] at g0 g1
  obtain ⟨s0, e0, f0, _⟩ := DataW.trod_string Tryz.underlying9 g0
  obtain ⟨s1, e1, f1, _⟩ := DataW.trod_string Tryz.underlying9 g1
  subst f0 f1
  rw [e] at hy
  simp only [DataW.agg.injEq, List.cons.injEq, DataW.lit.injEq, Lit.string.injEq, and_true] at hy
  rw [(List.cons.inj e0).1, (List.cons.inj e1).1, str_of hy.1, str_of hy.2]
  exact ⟨rfl, rfl⟩
set_option maxHeartbeats 2000000 in
set_option maxRecDepth 100000 in
theorem glob_of_laid {W : World} (h : laidMetH Tryz.prog laidL W) (hs : W.ShapedOpen Tryz.prog) : Glob W := by
  rw [MakeChecks.laidMetH_plain _ _ _ (by kernel_rfl)] at h
  have h1 : laidMet Tryz.prog [("unicode/utf8.acceptRanges", Rows.laid_unicode_utf8_acceptRanges), ("torchon/stitches.usual", Rows.laid_torchon_stitches_usual), ("unicode/utf8.first", Rows.laid_unicode_utf8_first)] W := h
  have hsz : 3 < W.heap.size := by
    obtain ⟨ps, ⟨g, t, cs, fuel, p, q, hg, ht, hv2, _⟩, _, _⟩ := h1
    obtain rfl := Option.some.inj (gAcc.symm.trans hg)
    unfold World.var? at hv2
    rw [hg] at hv2
    simp only [Option.bind_some] at hv2
    rcases Nat.lt_or_ge 3 W.heap.size with h' | h'
    · exact h'
    · simp [Array.getElem?_eq_none h'] at hv2
  obtain ⟨ps, ⟨g, t, cs, fuel, p, q, hg, ht, hv, hd, _⟩, _, _⟩ := h1.tail
  obtain rfl := Option.some.inj (gUsual.symm.trans hg)
  obtain rfl := Option.some.inj (tUsual.symm.trans ht)
  have hc2 : Tryz.prog.cellsOf 63 = 2 := by kernel_rfl
  have hc16 : Tryz.prog.cellsOf 64 = 16 := by kernel_rfl
  obtain ⟨xs, m, _, ex, hln, hl, hel⟩ := DataW.trod_array Tryz.underlying64 hd
  have ex2 := DataW.agg.inj (Prod.mk.inj ex).1
  have hcs : cs = usualC.toArray := by
    obtain ⟨l⟩ := cs
    simp only at hln hel
    rw [hc16] at hln
    match l, hln with
    | [u0, u1, u2, u3, u4, u5, u6, u7, u8, u9, u10, u11, u12, u13, u14, u15], _ =>
      match xs, hl with
      | [y0, y1, y2, y3, y4, y5, y6, y7], _ =>
        simp only [List.map_cons, List.map_nil, List.cons.injEq, and_true] at ex2
        obtain ⟨x0, x1, x2, x3, x4, x5, x6, x7⟩ := ex2
        have g0 := hel 0 (by decide)
        simp [hc2] at g0
        obtain ⟨p0, q0⟩ := stitch_cells x0.symm g0
        have g1 := hel 1 (by decide)
        simp [hc2] at g1
        obtain ⟨p1, q1⟩ := stitch_cells x1.symm g1
        have g2 := hel 2 (by decide)
        simp [hc2] at g2
        obtain ⟨p2, q2⟩ := stitch_cells x2.symm g2
        have g3 := hel 3 (by decide)
        simp [hc2] at g3
        obtain ⟨p3, q3⟩ := stitch_cells x3.symm g3
        have g4 := hel 4 (by decide)
        simp [hc2] at g4
        obtain ⟨p4, q4⟩ := stitch_cells x4.symm g4
        have g5 := hel 5 (by decide)
        simp [hc2] at g5
        obtain ⟨p5, q5⟩ := stitch_cells x5.symm g5
        have g6 := hel 6 (by decide)
        simp [hc2] at g6
        obtain ⟨p6, q6⟩ := stitch_cells x6.symm g6
        have g7 := hel 7 (by decide)
        simp [hc2] at g7
        obtain ⟨p7, q7⟩ := stitch_cells x7.symm g7
        subst p0 q0 p1 q1 p2 q2 p3 q3 p4 q4 p5 q5 p6 q6 p7 q7
        rfl
  subst hcs
  unfold World.var? at hv
  rw [hg] at hv
  simp only [Option.bind_some] at hv
  split at hv
  · rename_i cs' t' fr' he
    obtain rfl := Option.some.inj hv
    exact ⟨⟨_, _, he⟩, Tryz.laysM146.s1_3 W hs, hsz⟩
  · cases hv
variable {H : Type} {enc : TypeId × Value → H}
set_option maxRecDepth 100000 in
/-- The wrap of a row that lists variables, with the world's shape handed on. -/
theorem wrap {os : Os} {f : FuncId} {fn : Func} {s : ChangeSpec} (started : os.Started) (noInit : Tryz.checked.prog.inits.idxOf? f = none) (hfn : Tryz.checked.prog.funcs[f]? = some fn)
    (witness : ∃ (w : World) (tape : Tape) (i : Input), w.os = os ∧ (w.forCall tape i).Shaped Tryz.checked.prog ∧ i.vars = [] ∧ Input.okWide Tryz.checked.prog (w.forCall tape i) .any w.heap.size f i ∧
      ((s.pre enc Tryz.checked.prog fn [] false (w.forCall tape i).memory i.args ∧ laidMetH Tryz.prog laidL (w.forCall tape i).memory) ∧ sizedMet enc Tryz.checked.prog fn (OpenSpec.ofChange s) false (w.forCall tape i).memory i.args) ∧ Assume.holds {} Tryz.checked.prog (lone (Frame.enter Tryz.checked.prog f i.args .normal) [] (w.forCall tape i)))
    (contract : ∀ (W : World) (base : Nat) (args : Array Value) (ds gs : List (DataW H)) (before : List MemPlace),
      (∀ (j : Nat) t v, fn.params[j]? = some t → args[j]? = some v → Value.okWide Tryz.prog W .any base t v) →
      DataW.Whole enc Tryz.prog fn.params.toList s.vars false W args.toList ds gs before → Glob W →
      Calls Tryz.prog f args W fun e W' => ∃ v, e = .returned v ∧ s.post enc Tryz.prog fn false true false false W args v W') :
    ReturnsInHanded {} Tryz.checked os f .any (fun w args => (s.pre enc Tryz.prog fn [] false w args ∧ laidMetH Tryz.prog laidL w) ∧ sizedMet enc Tryz.prog fn (OpenSpec.ofChange s) false w args) (s.post enc Tryz.prog fn false true false false) := by
  refine returnsInHanded_of_calls own started noInit witness ?_
  intro w tape i _ hsh _ hok hpre _
  obtain ⟨_, _, _, fn', hfn', _, _, _, _, hval⟩ := hok
  have e : fn' = fn := Option.some.inj (hfn'.symm.trans hfn)
  subst e
  obtain ⟨⟨⟨ds, gs, before, hw, _⟩, hl⟩, _⟩ := hpre
  have hw' := DataW.Whole.of_heap (w' := w.forCall tape i) (by rfl) hw
  refine (contract (w.forCall tape i) w.heap.size i.args ds gs before hval hw' (glob_of_laid (hl.of_heap (by rfl)) hsh)).mono fun e W' ⟨v, he, hp⟩ => ?_
  subst he
  exact ChangeSpec.post_blind hp
end Go.Proofs.YtklkondkjaiinaaGreatDoor
