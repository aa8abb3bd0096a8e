/- What the listed variable and the world's shape give every law of the grids; arguments that are structs. -/
import Derived.Test.YtehpgmhilcoalaaDoorGS
import Derived.Test.YtehpgmhilcoalaaDoorRows
import Derived.ProofKit
import Derived.LaidMore
import Derived.Lay
import Derived.OpenShut
import Derived.Stop.Joined
import Derived.Stop.LaidErr
import Derived.HandedShaped
namespace Go.Proofs.YtehpgmhilcoalaaDoor
open Go.ChangeShapes Go.WideShapes Go.ChangeAt Go.RowKit
theorem own : ownKnob Tryd.prog.godebug = none := by kernel_rfl
theorem gOne : Tryd.prog.globalNamed "torchon/grids.one" = some 0 := by kernel_rfl
theorem tOne : (Tryd.prog.globals[0]?).map (·.type) = some 40 := by kernel_rfl
set_option maxRecDepth 100000 in
theorem laidOut0 : laidOutB Tryd.prog = true := by kernel_rfl
section
variable {H : Type} {enc : TypeId × Value → H} {W : World} {base fuel : Nat} {spare : Bool} {held : Nat → Bool} {cs : List Value} {x : DataW H × List MemPlace}
set_option maxRecDepth 100000 in
theorem pt_cells (h : DataW.trod enc Tryd.prog W base held spare fuel 25 cs = some x) : ∃ p : Pt, cs = [.int .i64 p.x, .int .i64 p.y] := by
  have hc1 : Tryd.prog.cellsOf 2 = 1 := by kernel_rfl
  have hc2 : Tryd.prog.cellsOf 25 = 2 := by kernel_rfl
  obtain ⟨xs, k, _, _, hl, hxl, hff⟩ := DataW.trod_struct Tryd.underlying25 h
  rw [hc2] at hl
  match cs, hl with
  | [u0, u1], _ =>
    match xs, hxl with
    | [y0, y1], _ =>
      have g0 := hff 0 _ rfl
      have g1 := hff 1 _ rfl
      simp [hc1] at g0 g1
      obtain ⟨n0, e0, _, _⟩ := DataW.trod_int Tryd.underlying2 g0
      obtain ⟨n1, e1, _, _⟩ := DataW.trod_int Tryd.underlying2 g1
      exact ⟨⟨n0, n1⟩, by rw [(List.cons.inj e0).1, (List.cons.inj e1).1]⟩
set_option maxRecDepth 100000 in
theorem lat_cells (h : DataW.trod enc Tryd.prog W base held spare fuel 23 cs = some x) : ∃ l : Lat, cs = [.int .i64 l.a, .int .i64 l.b, .int .i64 l.c] := by
  have hc1 : Tryd.prog.cellsOf 2 = 1 := by kernel_rfl
  have hc2 : Tryd.prog.cellsOf 23 = 3 := by kernel_rfl
  obtain ⟨xs, k, _, _, hl, hxl, hff⟩ := DataW.trod_struct Tryd.underlying23 h
  rw [hc2] at hl
  match cs, hl with
  | [u0, u1, u2], _ =>
    match xs, hxl with
    | [y0, y1, y2], _ =>
      have g0 := hff 0 _ rfl
      have g1 := hff 1 _ rfl
      have g2 := hff 2 _ rfl
      simp [hc1] at g0 g1 g2
      obtain ⟨n0, e0, _, _⟩ := DataW.trod_int Tryd.underlying2 g0
      obtain ⟨n1, e1, _, _⟩ := DataW.trod_int Tryd.underlying2 g1
      obtain ⟨n2, e2, _, _⟩ := DataW.trod_int Tryd.underlying2 g2
      exact ⟨⟨n0, n1, n2⟩, by rw [(List.cons.inj e0).1, (List.cons.inj e1).1, (List.cons.inj e2).1]⟩
end
section
variable {H : Type} {enc : TypeId × Value → H} {W : World} {v0 : Value} {d0 : DataW H} {p0 : List MemPlace} {base : Nat}
set_option maxRecDepth 100000 in
theorem open_lat (hok : Value.okWide Tryd.prog W .any base 23 v0) (h : DataW.Trod enc Tryd.prog W 0 (fun _ => true) true 23 v0 d0 p0) : ∃ l : Lat, v0 = .agg #[.int .i64 l.a, .int .i64 l.b, .int .i64 l.c] := by
  obtain ⟨cs, rfl, _⟩ := okWide_struct Tryd.underlying23 hok
  obtain ⟨fuel, hf⟩ := h
  have hf' : DataW.trod enc Tryd.prog W 0 (fun _ => true) true fuel 23 cs.toList = some (d0, p0) := by simpa [Value.cells] using hf
  obtain ⟨l, hl⟩ := lat_cells hf'
  exact ⟨l, by rw [← hl]⟩
set_option maxRecDepth 100000 in
theorem open_four (hok : Value.okWide Tryd.prog W .any base 27 v0) (h : DataW.Trod enc Tryd.prog W 0 (fun _ => true) true 27 v0 d0 p0) : ∃ o p q r : Pt, v0 = .agg #[.int .i64 o.x, .int .i64 o.y, .int .i64 p.x, .int .i64 p.y, .int .i64 q.x, .int .i64 q.y, .int .i64 r.x, .int .i64 r.y] := by
  have hc2 : Tryd.prog.cellsOf 25 = 2 := by kernel_rfl
  have hc8 : Tryd.prog.cellsOf 27 = 8 := by kernel_rfl
  obtain ⟨cs, rfl, _⟩ := okWide_struct Tryd.underlying27 hok
  obtain ⟨fuel, hf⟩ := h
  have hf' : DataW.trod enc Tryd.prog W 0 (fun _ => true) true fuel 27 cs.toList = some (d0, p0) := by simpa [Value.cells] using hf
  obtain ⟨xs, k, _, _, hl, hxl, hff⟩ := DataW.trod_struct Tryd.underlying27 hf'
  rw [hc8] at hl
  obtain ⟨l⟩ := cs
  simp only at hl hff
  match l, hl with
  | [u0, u1, u2, u3, u4, u5, u6, u7], _ =>
    match xs, hxl with
    | [y0, y1, y2, y3], _ =>
      have g0 := hff 0 _ rfl
      have g1 := hff 1 _ rfl
      have g2 := hff 2 _ rfl
      have g3 := hff 3 _ rfl
      simp [hc2] at g0 g1 g2 g3
      obtain ⟨o, e0⟩ := pt_cells g0
      obtain ⟨p, e1⟩ := pt_cells g1
      obtain ⟨q, e2⟩ := pt_cells g2
      obtain ⟨r, e3⟩ := pt_cells g3
      simp only [List.cons.injEq, and_true] at e0 e1 e2 e3
      refine ⟨o, p, q, r, ?_⟩
      rw [e0.1, e0.2, e1.1, e1.2, e2.1, e2.2, e3.1, e3.2]
end
/-- The great premise of every law's row. -/
def laidL : List (String × DataW Unit) := [("torchon/grids.one", Rows.laid_torchon_grids_one)]
set_option maxRecDepth 100000 in
theorem glob_of_laid {W : World} (h : laidMetH Tryd.prog laidL W) : Glob W := by
  rw [MakeChecks.laidMetH_plain _ _ _ (by kernel_rfl)] at h
  have h1 : laidMet Tryd.prog [("torchon/grids.one", Rows.laid_torchon_grids_one)] W := h
  obtain ⟨ps, ⟨g, t, cs, fuel, p, q, hg, ht, hv, hd, _⟩, _, _⟩ := h1
  obtain rfl := Option.some.inj (gOne.symm.trans hg)
  obtain rfl := Option.some.inj (tOne.symm.trans ht)
  have hc1 : Tryd.prog.cellsOf 2 = 1 := by kernel_rfl
  have hc4 : Tryd.prog.cellsOf 40 = 4 := by kernel_rfl
  obtain ⟨xs, k, _, ex, hl, hxl, hff⟩ := DataW.trod_struct Tryd.underlying40 hd
  rw [hc4] at hl
  have hcs : cs = #[.int .i64 1, .int .i64 0, .int .i64 0, .int .i64 1] := by
    obtain ⟨l⟩ := cs
    simp only at hl hff
    match l, hl with
    | [u0, u1, u2, u3], _ =>
      match xs, hxl with
      | [y0, y1, y2, y3], _ =>
        have g0 := hff 0 _ rfl
        have g1 := hff 1 _ rfl
        have g2 := hff 2 _ rfl
        have g3 := hff 3 _ rfl
        simp [hc1] at g0 g1 g2 g3
        obtain ⟨n0, e0, f0, _⟩ := DataW.trod_int Tryd.underlying2 g0
        obtain ⟨n1, e1, f1, _⟩ := DataW.trod_int Tryd.underlying2 g1
        obtain ⟨n2, e2, f2, _⟩ := DataW.trod_int Tryd.underlying2 g2
        obtain ⟨n3, e3, f3, _⟩ := DataW.trod_int Tryd.underlying2 g3
        subst f0 f1 f2 f3
        have e4 := DataW.agg.inj (Prod.mk.inj ex).1
        simp at e4
        rw [(List.cons.inj e0).1, (List.cons.inj e1).1, (List.cons.inj e2).1, (List.cons.inj e3).1]
        obtain ⟨rfl, rfl, rfl, rfl⟩ := e4
        rfl
  subst hcs
  unfold World.var? at hv
  rw [hg] at hv
  simp only [Option.bind_some] at hv
  split at hv
  · rename_i cs' t' fr' he
    obtain rfl := Option.some.inj hv
    exact ⟨⟨_, _, he⟩, (Array.getElem?_eq_some_iff.1 he).1⟩
  · cases hv
variable {H : Type} {enc : TypeId × Value → H}
set_option maxRecDepth 100000 in
/-- The wrap of a row that lists variables. -/
theorem wrap {os : Os} {f : FuncId} {fn : Func} {s : ChangeSpec} (started : os.Started) (noInit : Tryd.checked.prog.inits.idxOf? f = none) (hfn : Tryd.checked.prog.funcs[f]? = some fn)
    (witness : ∃ (w : World) (tape : Tape) (i : Input), w.os = os ∧ (w.forCall tape i).Shaped Tryd.checked.prog ∧ i.vars = [] ∧ Input.okWide Tryd.checked.prog (w.forCall tape i) .any w.heap.size f i ∧
      ((s.pre enc Tryd.checked.prog fn [] false (w.forCall tape i).memory i.args ∧ laidMetH Tryd.prog laidL (w.forCall tape i).memory) ∧ sizedMet enc Tryd.checked.prog fn (OpenSpec.ofChange s) false (w.forCall tape i).memory i.args) ∧ Assume.holds {} Tryd.checked.prog (lone (Frame.enter Tryd.checked.prog f i.args .normal) [] (w.forCall tape i)))
    (contract : ∀ (W : World) (base : Nat) (args : Array Value) (ds gs : List (DataW H)) (before : List MemPlace),
      (∀ (j : Nat) t v, fn.params[j]? = some t → args[j]? = some v → Value.okWide Tryd.prog W .any base t v) →
      DataW.Whole enc Tryd.prog fn.params.toList s.vars false W args.toList ds gs before → Glob W →
      Calls Tryd.prog f args W fun e W' => ∃ v, e = .returned v ∧ s.post enc Tryd.prog fn false true false false W args v W') :
    ReturnsInHanded {} Tryd.checked os f .any (fun w args => (s.pre enc Tryd.prog fn [] false w args ∧ laidMetH Tryd.prog laidL w) ∧ sizedMet enc Tryd.prog fn (OpenSpec.ofChange s) false w args) (s.post enc Tryd.prog fn false true false false) := by
  refine returnsInHanded_of_calls own started noInit witness ?_
  intro w tape i _ hsh _ hok hpre _
  obtain ⟨_, _, _, fn', hfn', _, _, _, _, hval⟩ := hok
  have e : fn' = fn := Option.some.inj (hfn'.symm.trans hfn)
  subst e
  obtain ⟨⟨⟨ds, gs, before, hw, _⟩, hl⟩, _⟩ := hpre
  have hw' := DataW.Whole.of_heap (w' := w.forCall tape i) (by rfl) hw
  refine (contract (w.forCall tape i) w.heap.size i.args ds gs before hval hw' (glob_of_laid (hl.of_heap (by rfl)))).mono fun e W' ⟨v, he, hp⟩ => ?_
  subst he
  exact ChangeSpec.post_blind hp
end Go.Proofs.YtehpgmhilcoalaaDoor
