/- A letter put behind a braid: add walked. -/
import Derived.Test.YtmefpaoakblndaaGreatDoorBN
import Derived.Test.YtmefpaoakblndaaGreatDoorBP
namespace Go.Proofs.YtmefpaoakblndaaGreatDoor
open Go.RowKit

set_option maxRecDepth 100000 in
theorem wp_build1 {o : Oper} {a : Act} {w : World} {K : Act → World → Prop} {Q : Exit → Act → World → Prop} (t : Tmp) (ho : o.op = .buildSlice 103 1 #[(0, .tmp t)]) (x : Pm) (hy : a.eval (.tmp t) = .agg (pl x).toArray)
    (h : ∀ g w', g = w.heap.size → w'.rangeAt g 0 (pl x) → w'.heap.size = w.heap.size + 1 → Below w.heap.size w w' → K (a.put o.dst (.slice (some ⟨g, 0, none⟩) 1 1)) w') : o.wp Tryz.prog a w K Q := by
  have h1 := h w.heap.size (w.alloc (.cells (pl x).toArray 108)) rfl (pl_row (s := x) (heap_alloc_new w _)) (by simp) (below_alloc w _)
  unfold Oper.wp execOp
  simp only [ho]
  have hy2 : a.tmps[t]?.getD undef = .agg #[.int .i64 (x.f 0), .int .i64 (x.f 1), .int .i64 (x.f 2), .int .i64 (x.f 3), .int .i64 (x.f 4), .int .i64 (x.f 5), .int .i64 (x.f 6), .int .i64 (x.f 7), .int .i64 (x.f 8), .int .i64 (x.f 9), .int .i64 (x.f 10), .int .i64 (x.f 11)] := by
    have : a.eval (.tmp t) = a.tmps[t]?.getD undef := by simp [Act.eval]
    rw [← this, hy, pl_lit]
  rw [pl_lit] at h1
  clear hy h
  go_simp
  exact h1
theorem wp_append_fac {o : Oper} {a : Act} {w : World} {K : Act → World → Prop} {Q : Exit → Act → World → Prop} (s y : Operand) (ho : o.op = .call { callee := .builtin .append, args := #[s, y], argTypes := #[103, 103] })
    {B : Nat} {ao : Option Addr} {cap : Nat} {L : List Pm} (h : FR B w ao cap L) (hL : L.length < 50000) (hB : B ≤ w.heap.size) (x : Pm) (g c : Nat) (hx : w.rangeAt g 0 (pl x))
    (hs : a.eval s = .slice ao L.length cap) (hy : a.eval y = .slice (some ⟨g, 0, none⟩) 1 c)
    (hk : ∀ ao' cap' w', FR B w' ao' cap' (L ++ [x]) → Below B w w' → K (a.put o.dst (.slice ao' (L.length + 1) cap')) w') : o.wp Tryz.prog a w K Q := by
  obtain ⟨ao', cap', w', hr, hf, hb, _⟩ := append_fac h hL hB x g c hx o.type
  unfold Oper.wp execOp
  simp only [ho, resolve, invoke, builtin, Sem.run_bind, Sem.run_pure, Result.andThen_ok, List.map_toArray, List.map_cons, List.map_nil, hs, hy, hr]
  exact hk ao' cap' w' hf hb
theorem NS.header {fb n : Nat} {p : Int} {ao ao' : Option Addr} {cap cap' : Nat} {L L' : List Pm} {w0 w : World} (h : NS fb n p ao cap L w0) (hb : Below (fb + 1) w0 w) (hf : FR (fb + 1) w ao' cap' L') (len : Nat) (hl : len = L'.length) :
    NS fb n p ao' cap' L' (w.setCell ⟨fb, 2, none⟩ (.slice ao' len cap')) := by
  subst hl
  have e0 := (hb.cell (p := ⟨fb, 0, none⟩) (Nat.lt_succ_self fb)).trans h.c0
  have e1 := (hb.cell (p := ⟨fb, 1, none⟩) (Nat.lt_succ_self fb)).trans h.c1
  have e2 := (hb.cell (p := ⟨fb, 2, none⟩) (Nat.lt_succ_self fb)).trans h.c2
  have e3 := (hb.frozen (p := ⟨fb, 1, none⟩) (Nat.lt_succ_self fb)).trans h.f1
  have e4 := (hb.frozen (p := ⟨fb, 2, none⟩) (Nat.lt_succ_self fb)).trans h.f2
  exact ⟨(cell_set_ne (by omega)).trans e0, (cell_set_ne (by omega)).trans e1, World.cell?_setCell_same _ _ _ e2, by simpa using e3, by simpa using e4, by have := hb.size; have := h.sz; simp [World.setCell]; omega, hf.store (by omega)⟩
theorem entFlat (args : Array Value) (w : World) : (callFunc 132 args).run Tryz.prog w = .ok (.enter 132 args) w := enter_of Tryz.func132 (by decide +kernel) (by intro h; cases h) args w
theorem entDelta (args : Array Value) (w : World) : (callFunc 135 args).run Tryz.prog w = .ok (.enter 135 args) w := enter_of Tryz.func135 (by decide +kernel) (by intro h; cases h) args w
theorem flat_pl (w : World) : Calls Tryz.prog 132 #[] w fun e w' => e = .returned (.agg (pl idP).toArray) ∧ Below w.heap.size w w' := flat_any w
theorem delta_pl (n : Nat) (hn : n ≤ 12) (w : World) : Calls Tryz.prog 135 #[.int .i64 (n : Int)] w fun e w' => e = .returned (.agg (pl (dl n)).toArray) ∧ Below w.heap.size w w' := delta_any n hn w

theorem wp_store1 {o : Oper} {a : Act} {w : World} {K : Act → World → Prop} {Q : Exit → Act → World → Prop} (ty : TypeId) (x y : Operand) (ho : o.op = .store ty x y) (ad : Addr) (v : Value) (hx : a.eval x = .pointer (some ad)) (hy : a.eval y = v)
    (hs : (Instr.storeAt ty (.pointer (some ad)) v).run Tryz.prog w = .ok () (w.setCell ad v)) (h : K (a.put o.dst undef) (w.setCell ad v)) : o.wp Tryz.prog a w K Q := by
  unfold Oper.wp execOp
  simp only [ho, hx, hy, Sem.run_bind, hs, Result.andThen_ok, Sem.run_pure]
  exact h
theorem wp_still {o : Oper} {a : Act} {w : World} {K : Act → World → Prop} {Q : Exit → Act → World → Prop} (v : Value) (hs : (execOp a.eval o).run Tryz.prog w = .ok (.value v) w) (h : K (a.put o.dst v) w) : o.wp Tryz.prog a w K Q := by
  unfold Oper.wp
  rw [hs]
  exact h
theorem store_fac (w : World) (ad : Addr) (u : Value) (ao : Option Addr × Nat × Nat) (_ : Unit) (h : w.cell? ad = some u) (hf : w.frozen? ad = false) : (Instr.storeAt 103 (.pointer (some ad)) (.slice ao.1 ao.2.1 ao.2.2)).run Tryz.prog w = .ok () (w.setCell ad (.slice ao.1 ao.2.1 ao.2.2)) := by
  go_simp

theorem pushR_len (n : Nat) : ∀ (R : List Pm) (s : Pm) (acc : List Pm), (pushR n R s acc).length = R.length + 1 + acc.length
  | [], s, acc => by simp [pushR]; omega
  | a :: R, s, acc => by
    unfold pushR
    split
    · simp; omega
    · rw [pushR_len n R]; simp; omega
theorem pushR_in {n : Nat} : ∀ {R : List Pm}, AllIn n R → ∀ {s : Pm}, s.In n → ∀ {acc : List Pm}, AllIn n acc → AllIn n (pushR n R s acc)
  | [], _, s, hs, acc, ha => fun y hy => by
    rcases List.mem_cons.1 hy with rfl | hy
    · exact hs
    · exact ha y hy
  | a :: R, hR, s, hs, acc, ha => by
    obtain ⟨e, t⟩ := take_spec (hR a (by simp)) hs
    unfold pushR
    split
    · intro y hy
      simp at hy
      rcases hy with hy | rfl | rfl | hy
      · exact hR y (by simp [hy])
      · exact hR _ (by simp)
      · exact hs
      · exact ha y hy
    · refine pushR_in (fun y hy => hR y (by simp [hy])) t.ina (fun y hy => ?_)
      rcases List.mem_cons.1 hy with rfl | hy
      · exact t.inb
      · exact ha y hy
/-- Fewer factors of the same row. -/
theorem NS.cut {fb n : Nat} {p : Int} {ao : Option Addr} {cap : Nat} {L : List Pm} {w : World} (h : NS fb n p ao cap L w) (L' : List Pm) (hl : L'.length ≤ L.length) (hk : ∀ (k : Nat) (a : Pm), L'[k]? = some a → L[k]? = some a) (len : Nat) (hlen : len = L'.length) :
    NS fb n p ao cap L' (w.setCell ⟨fb, 2, none⟩ (.slice ao len cap)) :=
  h.header (Below.refl _ _) ⟨by have := h.fr.le; omega, h.fr.mx, fun hc => by
    obtain ⟨b, off, e, hB, hs, hr, ht⟩ := h.fr.row hc
    exact ⟨b, off, e, hB, hs, fun k a h' => hr k a (hk k a h'), ht⟩⟩ len hlen
section
variable {P : Program} {ops : Array Oper} {C : World → Prop}
theorem quietW_still {Q : Act → Prop} {a : Act} {o : Oper} {rest : List Oper} (hw : Region.wanted o (yielded ops a.tmps) = true) (v : Value) (hS : ∀ w, C w → (execOp a.eval o).run P w = .ok (.value v) w)
    (h : wpQuiet P ops C Q rest (a.put o.dst v)) : wpQuiet P ops C Q (o :: rest) a := by
  refine wpQuiet_step fun K hK => ?_
  rw [if_pos hw]
  refine ⟨v, fun w hw' => ?_, hK _ h⟩
  unfold Oper.quietAt
  rw [hS w hw']
  exact ⟨rfl, rfl⟩
theorem quiet_moveV {Q : Act → Prop} {a : Act} {o : Oper} {rest : List Oper} (hg : o.guard = none) (x : Operand) (ho : o.op = .move x) (v : Value) (hv : a.eval x = v) (h : wpQuiet P ops C Q rest (a.put o.dst v)) : wpQuiet P ops C Q (o :: rest) a := by
  subst hv
  exact quiet_move hg x ho h
theorem quietW_moveV {Q : Act → Prop} {a : Act} {o : Oper} {rest : List Oper} (hw : Region.wanted o (yielded ops a.tmps) = true) (x : Operand) (ho : o.op = .move x) (v : Value) (hv : a.eval x = v) (h : wpQuiet P ops C Q rest (a.put o.dst v)) : wpQuiet P ops C Q (o :: rest) a :=
  quietW_still hw v (fun w _ => by unfold execOp; simp [ho, hv]) h
theorem quietW_load1 {Q : Act → Prop} {a : Act} {o : Oper} {rest : List Oper} (hw : Region.wanted o (yielded ops a.tmps) = true) (ty : TypeId) (x : Operand) (ho : o.op = .load ty x) (ad : Addr) (hx : a.eval x = .pointer (some ad)) (v : Value)
    (hl : ∀ w, w.cell? ad = some v → (Instr.loadAt ty (.pointer (some ad))).run P w = .ok v w) (hS : ∀ w, C w → w.cell? ad = some v) (h : wpQuiet P ops C Q rest (a.put o.dst v)) : wpQuiet P ops C Q (o :: rest) a :=
  quietW_still hw v (fun w hw => by
    unfold execOp
    simp only [ho, hx, Sem.run_bind, hl w (hS w hw), Result.andThen_ok, Sem.run_pure]) h
theorem quietW_load_mid {Q : Act → Prop} {a : Act} {o : Oper} {rest : List Oper} (hw : Region.wanted o (yielded ops a.tmps) = true) (ty : TypeId) (x : Operand) (ho : o.op = .load ty x) (b off : Nat) (hx : a.eval x = .pointer (some ⟨b, off, none⟩)) (cs : List Value) (d : TypeDesc)
    (hS : ∀ w, C w → w.rangeAt b off cs) (hu : P.underlying ty = some d) (hd : d.isRow = true) (hi : (P.info? ty).map (·.size) = some cs.length)
    (h : wpQuiet P ops C Q rest (a.put o.dst (.agg cs.toArray))) : wpQuiet P ops C Q (o :: rest) a :=
  quietW_still hw _ (fun w hw' => by
    unfold execOp
    simp only [ho, hx, Sem.run_bind, run_loadAt_mid w b off ty cs d (hS w hw') hu hd hi, Result.andThen_ok, Sem.run_pure]) h
theorem quietW_call {Q : Act → Prop} {a : Act} {o : Oper} {rest : List Oper} (hw : Region.wanted o (yielded ops a.tmps) = true) (f : FuncId) (args : List Operand) (ts : Array TypeId) (ho : o.op = .call { callee := .value (.func f), args := args.toArray, argTypes := ts }) (hent : ∀ args w, (callFunc f args).run P w = .ok (.enter f args) w) (v : Value)
    (hS : ∀ w, C w → Calls P f (args.map a.eval).toArray w fun e w' => e = .returned v ∧ C w')
    (h : wpQuiet P ops C Q rest (a.put o.dst v)) : wpQuiet P ops C Q (o :: rest) a := by
  refine wpQuiet_step fun K hK => ?_
  rw [if_pos hw]
  refine ⟨v, fun w hw' => ?_, hK _ h⟩
  have hc := hS w hw'
  unfold Oper.quietAt execOp
  simp [ho, resolve, invoke, Act.eval, go_sem, hent, Oper.quietUpon]
  exact hc
theorem quiet_skip {Q : Act → Prop} {a : Act} {o : Oper} {rest : List Oper} (hw : Region.wanted o (yielded ops a.tmps) = false) (h : wpQuiet P ops C Q rest (a.put o.dst undef)) : wpQuiet P ops C Q (o :: rest) a := by
  refine wpQuiet_step fun K hK => ?_
  rw [if_neg (by rw [hw]; simp)]
  exact hK _ h
end

theorem dropFlat_of {n m : Nat} {M : List Pm} {y : Pm} (hl : M.length = m + 1) (hy : M[m]? = some y) : dropFlat n M = if eqB n y idP then M.dropLast else M := by
  unfold dropFlat
  have : M.getLastD (dl n) = y := by
    rw [List.getLastD_eq_getLast?, List.getLast?_eq_getElem?, hl, Nat.add_sub_cancel, hy]
    rfl
  rw [this]
theorem popDelta_of {n : Nat} {p : Int} {D : List Pm} {h : Pm} (hh : D[0]? = some h) : popDelta n p D = if eqB n h (dl n) then (p + 1, D.tail) else (p, D) := by
  cases D with
  | nil => simp at hh
  | cons a D =>
    simp at hh
    subst hh
    rfl
/-- All factors but the first. -/
theorem NS.rest {fb n b off : Nat} {p : Int} {cap : Nat} {D : List Pm} {w : World} (h : NS fb n p (some ⟨b, off, none⟩) cap D w) (hD : 0 < D.length) (len : Nat) (hlen : len = D.length - 1) (ao : Option Addr) (hao : 1 < cap → ao = some ⟨b, off + 12, none⟩) :
    NS fb n p ao (cap - 1) D.tail (w.setCell ⟨fb, 2, none⟩ (.slice ao len (cap - 1))) :=
  h.header (Below.refl _ _) ⟨by have := h.fr.le; rw [List.length_tail]; omega, by have := h.fr.mx; omega, fun hc => by
    obtain ⟨b', off', e, hB, hs, hr, ht⟩ := h.fr.row (by omega)
    cases e
    refine ⟨b, off + 12, hao (by omega), hB, hs, fun k a h' => ?_, fun j hj => ?_⟩
    · rw [List.getElem?_tail] at h'
      have := hr (k + 1) a h'
      rwa [show off + (k + 1) * 12 = off + 12 + k * 12 by omega] at this
    · have := ht (12 + j) (by omega)
      rwa [← Nat.add_assoc] at this⟩ len (by rw [hlen, List.length_tail])

/-- What add leaves. -/
def AddPost (fb n : Nat) (z : Int) (p : Int) (L : List Pm) (w : World) (e : Ending) (w' : World) : Prop :=
  e = .returned (.tuple #[]) ∧ (∃ ao cap, NS fb n (stepN n z (p, L)).1 ao cap (stepN n z (p, L)).2 w') ∧ Below fb w w'

attribute [local irreducible] wpQuiet
set_option maxHeartbeats 3000000 in
set_option maxRecDepth 100000 in
theorem add_pos (fb n : Nat) (z : Nat) (p : Int) (ao : Option Addr) (cap : Nat) (L : List Pm) (w : World) (hn : n ≤ 12) (hz : z + 1 < n) (hi : AllIn n L) (hL : L.length < 10000) (hp : -10000 < p ∧ p < 10000) (hs : NS fb n p ao cap L w) :
    Calls Tryz.prog 113 #[.pointer (some ⟨fb, 0, none⟩), .int .i64 ((z : Int) + 1)] w (AddPost fb n ((z : Int) + 1) p L w) := by
  have h0 : (0 : Int) < (z : Int) + 1 := by omega
  have hfz := hs.sz
  have Hs := Lib.hid hs
  have HS := Lib.hid (fun (W : World) (hW : Below w.heap.size w W) => (⟨Hs.out.below hW, hW⟩ : NS fb n p ao cap L W ∧ Below w.heap.size w W))
  clear hs
  go_enter Tryz.func113, Tryz.ntmps113
  go_wp2_with fail
  refine region_takesG (fun w' => w'.cell? ⟨fb, 2, none⟩ = some (.slice ao L.length cap)) 5 12 (by kernel_rfl) (by kernel_rfl) (fun t _ _ _ _ h => by cases t <;> exact h) (HS.out _ (Below.refl _ w).drew).1.c2 ?_
  simp only [List.take_succ_cons, List.take_zero]
  refine takes_still rfl (.pointer (some ⟨fb, 0, none⟩)) (fun w _ => by go_simp) ?_
  simp only [Act.put, List.setIfInBounds_toArray, List.set_cons_zero, List.set_cons_succ]
  refine takes_still rfl (.pointer (some ⟨fb, 0, none⟩)) (fun w _ => by go_simp) ?_
  simp only [Act.put, List.setIfInBounds_toArray, List.set_cons_zero, List.set_cons_succ]
  refine takes_still rfl (.pointer (some ⟨fb, 0, none⟩)) (fun w _ => by go_simp) ?_
  simp only [Act.put, List.setIfInBounds_toArray, List.set_cons_zero, List.set_cons_succ]
  refine takes_still rfl (.pointer (some ⟨fb, 2, none⟩)) (fun w _ => by go_simp) ?_
  simp only [Act.put, List.setIfInBounds_toArray, List.set_cons_zero, List.set_cons_succ]
  refine takes_load1 rfl _ _ rfl ⟨fb, 2, none⟩ rfl _ (load_fac _ _) (fun _ h => h) ?_
  simp only [Act.put, List.setIfInBounds_toArray, List.set_cons_zero, List.set_cons_succ]
  refine takes_nil ?_
  have B0 : Below w.heap.size w w.drew := (Below.refl _ w).drew
  refine wpG_take1 (i := 6) (oi := { dst := some 13, op := Op.move (Operand.tmp 1), type := 3, pos := "normal.go:38", after := #[], guard := none }) (v := .int .i64 ((z : Int) + 1)) rfl (by kernel_rfl) (fun _ _ _ h => h) (.inl ⟨by rfl, fun w _ => by go_simp⟩) (HS.out _ B0).1.c2 ?_
  simp only [Act.put, List.setIfInBounds_toArray, List.set_cons_zero, List.set_cons_succ]
  refine wpG_only (i := 5) (oi := { dst := some 12, op := Op.call { callee := Callee.value (Operand.func 132), args := #[], argTypes := #[] }, type := 108, pos := "normal.go:38", after := #[], guard := none }) rfl rfl (by kernel_rfl) (fun K hK => wp_call 132 _ _ rfl entFlat (.agg (pl idP).toArray) _ (flat_pl _) (fun W1 hb1 => hK _ _ (fun _ => (HS.out _ (B0.trans (hb1.mono B0.size))).1.c2) ?_))
  have B1 : Below w.heap.size w W1 := B0.trans (hb1.mono B0.size)
  clear hK K hb1
  simp only [Act.put, List.setIfInBounds_toArray, List.set_cons_zero, List.set_cons_succ]
  refine wpG_only (i := 7) (oi := { dst := some 14, op := Op.call { callee := Callee.value (Operand.func 133), args := #[Operand.tmp 12, Operand.tmp 13], argTypes := #[108, 3] }, type := 108, pos := "normal.go:38", after := #[{ on := 5, ground := Ground.data }, { on := 6, ground := Ground.data }, { on := 5, ground := Ground.chain }], guard := none }) rfl rfl (by kernel_rfl) (fun K hK => wp_call 133 _ _ rfl entSw (.agg (pl (idP.pre z)).toArray) _ (swapped_pl idP z (by omega) _) (fun W2 hb2 => hK _ _ (fun _ => (HS.out _ (B1.trans (hb2.mono B1.size))).1.c2) ?_))
  have B2 : Below w.heap.size w W2 := B1.trans (hb2.mono B1.size)
  clear hK K hb2
  simp only [Act.put, List.setIfInBounds_toArray, List.set_cons_zero, List.set_cons_succ]
  refine wpG_only (i := 8) (oi := { dst := some 15, op := Op.buildSlice 103 1 #[(0, Operand.tmp 14)], type := 103, pos := "normal.go:38", after := #[{ on := 7, ground := Ground.data }], guard := none }) rfl rfl (by kernel_rfl) (fun K hK => wp_build1 14 rfl (idP.pre z) rfl (fun g W3 e3 r3 z3 hb3 => hK _ _ (fun _ => (HS.out _ (B2.trans (hb3.mono B2.size))).1.c2) ?_))
  have B3 : Below w.heap.size w W3 := B2.trans (hb3.mono B2.size)
  clear hK K hb3 e3
  simp only [Act.put, List.setIfInBounds_toArray, List.set_cons_zero, List.set_cons_succ]
  have N3 := (HS.out _ B3).1
  refine wpG_only (i := 9) (oi := { dst := some 16, op := Op.call { callee := Callee.builtin Builtin.append, args := #[Operand.tmp 11, Operand.tmp 15], argTypes := #[103, 103] }, type := 103, pos := "normal.go:38", after := #[{ on := 4, ground := Ground.data }, { on := 8, ground := Ground.data }, { on := 7, ground := Ground.chain }], guard := none }) rfl rfl (by kernel_rfl) (fun K hK => wp_append_fac (.tmp 11) (.tmp 15) rfl N3.fr (by omega) (by have := B3.size; omega) (idP.pre z) g 1 r3 rfl rfl (fun ao' cap' W4 hf4 hb4 => hK _ _ (fun _ => ?_) ?_))
  · exact (hb4.cell (p := ⟨fb, 2, none⟩) (Nat.lt_succ_self fb)).trans N3.c2
  clear hK K
  simp only [Act.put, List.setIfInBounds_toArray, List.set_cons_zero, List.set_cons_succ]
  have c24 := (hb4.cell (p := ⟨fb, 2, none⟩) (Nat.lt_succ_self fb)).trans N3.c2
  have f24 := (hb4.frozen (p := ⟨fb, 2, none⟩) (Nat.lt_succ_self fb)).trans N3.f2
  refine wpG_only (i := 10) (oi := { dst := some 17, op := Op.nilCheck (Operand.tmp 7), type := 0, pos := "normal.go:38", after := #[{ on := 0, ground := Ground.data }, { on := 0, ground := Ground.phase }, { on := 1, ground := Ground.phase }, { on := 2, ground := Ground.phase }, { on := 3, ground := Ground.phase }, { on := 4, ground := Ground.phase }, { on := 5, ground := Ground.phase }, { on := 6, ground := Ground.phase }, { on := 7, ground := Ground.phase }, { on := 8, ground := Ground.phase }, { on := 9, ground := Ground.phase }], guard := none }) rfl rfl (by kernel_rfl) (fun K hK => wp_still (.pointer (some ⟨fb, 0, none⟩)) (by go_simp) (hK _ _ (fun _ => c24) ?_))
  clear hK K
  simp only [Act.put, List.setIfInBounds_toArray, List.set_cons_zero, List.set_cons_succ]
  refine wpG_only (i := 11) (oi := { dst := some 18, op := Op.fieldAddr 105 (Operand.tmp 17) 2, type := 0, pos := "normal.go:38", after := #[{ on := 10, ground := Ground.data }, { on := 0, ground := Ground.phase }, { on := 1, ground := Ground.phase }, { on := 2, ground := Ground.phase }, { on := 3, ground := Ground.phase }, { on := 4, ground := Ground.phase }, { on := 5, ground := Ground.phase }, { on := 6, ground := Ground.phase }, { on := 7, ground := Ground.phase }, { on := 8, ground := Ground.phase }, { on := 9, ground := Ground.phase }], guard := none }) rfl rfl (by kernel_rfl) (fun K hK => wp_still (.pointer (some ⟨fb, 2, none⟩)) (by go_simp) (hK _ _ (fun _ => c24) ?_))
  clear hK K
  simp only [Act.put, List.setIfInBounds_toArray, List.set_cons_zero, List.set_cons_succ]
  have N5 := N3.header hb4 hf4 (L.length + 1) (by simp)
  refine wpG_only (i := 12) (oi := { dst := none, op := Op.store 103 (Operand.tmp 18) (Operand.tmp 16), type := 0, pos := "normal.go:38", after := #[{ on := 11, ground := Ground.data }, { on := 9, ground := Ground.data }, { on := 9, ground := Ground.chain }, { on := 0, ground := Ground.phase }, { on := 1, ground := Ground.phase }, { on := 2, ground := Ground.phase }, { on := 3, ground := Ground.phase }, { on := 4, ground := Ground.phase }, { on := 5, ground := Ground.phase }, { on := 6, ground := Ground.phase }, { on := 7, ground := Ground.phase }, { on := 8, ground := Ground.phase }, { on := 9, ground := Ground.phase }], guard := none }) rfl rfl (by kernel_rfl) (fun K hK => wp_store1 _ (.tmp 18) (.tmp 16) rfl ⟨fb, 2, none⟩ (.slice ao' (L.length + 1) cap') rfl rfl (store_fac _ _ _ (ao', _, _) () c24 f24) (hK _ _ (fun h => absurd rfl h) ?_))
  clear hK K
  simp only [Act.put]
  refine wpG_done (by kernel_rfl) ?_ _
  have B5 : Below fb w (W4.setCell ⟨fb, 2, none⟩ (.slice ao' (L.length + 1) cap')) := ((B3.mono (Nat.le_of_lt hfz)).trans (hb4.mono (Nat.le_succ fb))).setCell (p := ⟨fb, 2, none⟩) (Nat.le_refl _) _
  obtain ⟨W5, hW5⟩ : ∃ W, W = W4.setCell ⟨fb, 2, none⟩ (.slice ao' (L.length + 1) cap') := ⟨_, rfl⟩
  rw [← hW5] at N5 B5 ⊢
  clear hW5 c24 f24 N3 B0 B1 B2 B3 hf4 hb4 r3 z3 h0
  go_wp2_with fail
  have hRin : AllIn n L.reverse := fun y hy => hi y (by simpa using hy)
  refine (pushLeft_any fb n p ao' cap' L.reverse (idP.pre z) W5 hn hRin ((idP_in n).pre hz) (by simp; omega) (by simpa using N5)).mono ?_
  rintro e W6 ⟨rfl, N6, B6⟩
  have hStl : (pushR n L.reverse (idP.pre z) []).length = L.length + 1 := by
    have h1 := pushR_len n L.reverse (idP.pre z) []
    simpa using h1
  have hMin := pushR_in hRin ((idP_in n).pre hz) (acc := []) (fun y hy => by simp at hy)
  obtain ⟨M, hM⟩ : ∃ M, M = pushR n L.reverse (idP.pre z) [] := ⟨_, rfl⟩
  rw [← hM] at N6 hStl hMin
  have HM := Lib.hid hM
  have B7 : Below fb w W6 := B5.trans B6
  clear hM N5 B5 B6
  obtain ⟨y, hy⟩ : ∃ y, M[L.length]? = some y := ⟨_, List.getElem?_eq_getElem (by omega)⟩
  have hyin := hMin y (List.mem_of_getElem? hy)
  obtain ⟨b, off, rfl, hBb, hsb, hry, _⟩ := N6.fr.at hy
  have hcM := N6.c2
  have hle6 := N6.fr.le
  rw [hStl] at hcM hle6
  have hw1 : IntKind.i64.wrap (((L.length + 1 : Nat) : Int) - 1) = (L.length : Int) := num_in (by omega) (by omega)
  have hw2 : IntKind.i64.wrap ((L.length : Int) + 1 - 1) = (L.length : Int) := num_in (by omega) (by omega)
  have hw3 : IntKind.i64.wrap (L.length : Int) = (L.length : Int) := num_in rfl (by omega)
  have l0 : (0 : Int) ≤ (L.length : Int) := by omega
  have l1 : (L.length : Int) < (L.length : Int) + 1 := by omega
  go_wp2_with fail
  have hz6 := N6.sz
  have HN6 := Lib.hid N6
  clear N6
  by_cases hyi : y = idP
  · have heq := fun w => eql_pl idP idP (idP_in 12) ((idP_in 12)) w (d := true) ⟨fun _ => rfl, fun _ => rfl⟩
    refine wp_region_quiet (C := fun w' => Below W6.heap.size W6 w') (by kernel_rfl) (by kernel_rfl) (Below.refl _ W6).drew ?_
    dsimp only
    refine quiet_still rfl (.pointer (some ⟨fb, 0, none⟩)) (fun w _ => by go_simp) ?_
    simp only [Act.put, List.setIfInBounds_toArray, List.set_cons_zero, List.set_cons_succ]
    refine quiet_still rfl (.pointer (some ⟨fb, 0, none⟩)) (fun w _ => by go_simp) ?_
    simp only [Act.put, List.setIfInBounds_toArray, List.set_cons_zero, List.set_cons_succ]
    refine quiet_still rfl (.pointer (some ⟨fb, 2, none⟩)) (fun w _ => by go_simp) ?_
    simp only [Act.put, List.setIfInBounds_toArray, List.set_cons_zero, List.set_cons_succ]
    refine quiet_load1 rfl _ _ rfl ⟨fb, 2, none⟩ rfl (.slice (some ⟨b, off, none⟩) (L.length + 1) cap') (load_fac _ _) (fun _ h => (h.cell (p := ⟨fb, 2, none⟩) hz6).trans hcM) ?_
    simp only [Act.put, List.setIfInBounds_toArray, List.set_cons_zero, List.set_cons_succ]
    refine quiet_still rfl (.int .i64 (L.length : Int)) (fun w _ => by go_simp) ?_
    simp only [Act.put, List.setIfInBounds_toArray, List.set_cons_zero, List.set_cons_succ]
    refine quiet_still rfl (.pointer (some ⟨b, off + L.length * 12, none⟩)) (fun w _ => by go_simp) ?_
    simp only [Act.put, List.setIfInBounds_toArray, List.set_cons_zero, List.set_cons_succ]
    refine quiet_load_mid rfl 108 (.tmp 55) rfl b (off + L.length * 12) rfl (pl y) _ (fun _ h => range_below hry h hsb) Tryz.underlying108 hd59 (hi59L _) ?_
    simp only [Act.put, List.setIfInBounds_toArray, List.set_cons_zero, List.set_cons_succ]
    refine quiet_call rfl 132 [] _ rfl entFlat (.agg (pl idP).toArray) (fun wc h => (flat_pl wc).mono fun e w' ⟨he, hb⟩ => ⟨he, h.trans (hb.mono h.size)⟩) ?_
    simp only [Act.put, List.setIfInBounds_toArray, List.set_cons_zero, List.set_cons_succ]
    refine quiet_still rfl (.bool true) (fun w _ => by go_simp) ?_
    simp only [Act.put, List.setIfInBounds_toArray, List.set_cons_zero, List.set_cons_succ]
    refine wpQuiet_nil fun U bu => ?_
    have NU := HN6.out.below bu
    have BU : Below fb w U := B7.trans (bu.mono (Nat.le_of_lt hz6))
    clear bu
    have hcU := NU.c2
    rw [hStl] at hcU
    have hfU := NU.f2
    have Nd := NU.cut M.dropLast (by rw [List.length_dropLast]; omega) (fun k a hk => by rw [List.getElem?_dropLast] at hk; split at hk; exact hk; cases hk) L.length (by rw [List.length_dropLast]; omega)
    have Bd := BU.setCell (p := ⟨fb, 2, none⟩) (Nat.le_refl _) (.slice (some ⟨b, off, none⟩) L.length cap')
    have lc : (L.length : Int) ≤ (cap' : Int) := by omega
    have HNd := Lib.hid Nd
    have HBd := Lib.hid Bd
    clear Nd Bd NU
    go_wp2_with fail
    obtain ⟨X, hX⟩ : ∃ X, X = U.setCell ⟨fb, 2, none⟩ (.slice (some ⟨b, off, none⟩) L.length cap') := ⟨_, rfl⟩
    have NX := HNd.out
    have BX := HBd.out
    rw [← hX] at NX BX ⊢
    clear hX HNd HBd hcU hfU
    have lD : (M.dropLast).length = L.length := by rw [List.length_dropLast]; omega
    have hcX := NX.c2
    obtain ⟨m, hm⟩ : ∃ m : Nat, m = L.length := ⟨_, rfl⟩
    have hmc : m ≤ cap' := by omega
    rw [← hm] at lD
    rw [lD] at hcX
    have Hm := Lib.hid hm
    clear hm heq hry hcM hw1 hw2 hw3 l0 l1
    have hc0X := NX.c0
    have hzX := NX.sz
    have hdf : dropFlat n M = M.dropLast := by rw [dropFlat_of hStl hy]; rw [if_pos ((eqB_iff hyin (idP_in n)).2 hyi)]
    by_cases hl0 : m = 0
    · subst hl0
      refine wp_region_quiet (C := fun w' => Below X.heap.size X w') (by kernel_rfl) (by kernel_rfl) (Below.refl _ X).drew ?_
      dsimp only
      refine quiet_still rfl (.pointer (some ⟨fb, 0, none⟩)) (fun w _ => by go_simp) ?_
      simp only [Act.put, List.setIfInBounds_toArray, List.set_cons_zero, List.set_cons_succ]
      refine quiet_still rfl (.pointer (some ⟨fb, 0, none⟩)) (fun w _ => by go_simp) ?_
      simp only [Act.put, List.setIfInBounds_toArray, List.set_cons_zero, List.set_cons_succ]
      refine quiet_still rfl (.pointer (some ⟨fb, 2, none⟩)) (fun w _ => by go_simp) ?_
      simp only [Act.put, List.setIfInBounds_toArray, List.set_cons_zero, List.set_cons_succ]
      refine quiet_load1 rfl _ _ rfl ⟨fb, 2, none⟩ rfl (.slice (some ⟨b, off, none⟩) 0 cap') (load_fac _ _) (fun _ h => (h.cell (p := ⟨fb, 2, none⟩) hzX).trans hcX) ?_
      simp only [Act.put, List.setIfInBounds_toArray, List.set_cons_zero, List.set_cons_succ]
      refine quiet_still rfl (.int .i64 0) (fun w _ => by go_simp) ?_
      simp only [Act.put, List.setIfInBounds_toArray, List.set_cons_zero, List.set_cons_succ]
      refine quiet_still rfl (.bool false) (fun w _ => by go_simp) ?_
      simp only [Act.put, List.setIfInBounds_toArray, List.set_cons_zero, List.set_cons_succ]
      refine quiet_moveV rfl (.tmp 73) rfl (.bool false) rfl ?_
      simp only [Act.put, List.setIfInBounds_toArray, List.set_cons_zero, List.set_cons_succ]
      refine quiet_skip (by kernel_rfl) ?_
      simp only [Act.put, List.setIfInBounds_toArray, List.set_cons_zero, List.set_cons_succ]
      refine quiet_skip (by kernel_rfl) ?_
      simp only [Act.put, List.setIfInBounds_toArray, List.set_cons_zero, List.set_cons_succ]
      refine quiet_skip (by kernel_rfl) ?_
      simp only [Act.put, List.setIfInBounds_toArray, List.set_cons_zero, List.set_cons_succ]
      refine quiet_skip (by kernel_rfl) ?_
      simp only [Act.put, List.setIfInBounds_toArray, List.set_cons_zero, List.set_cons_succ]
      refine quiet_skip (by kernel_rfl) ?_
      simp only [Act.put, List.setIfInBounds_toArray, List.set_cons_zero, List.set_cons_succ]
      refine quiet_skip (by kernel_rfl) ?_
      simp only [Act.put, List.setIfInBounds_toArray, List.set_cons_zero, List.set_cons_succ]
      refine quiet_skip (by kernel_rfl) ?_
      simp only [Act.put, List.setIfInBounds_toArray, List.set_cons_zero, List.set_cons_succ]
      refine quiet_skip (by kernel_rfl) ?_
      simp only [Act.put, List.setIfInBounds_toArray, List.set_cons_zero, List.set_cons_succ]
      refine quiet_skip (by kernel_rfl) ?_
      simp only [Act.put, List.setIfInBounds_toArray, List.set_cons_zero, List.set_cons_succ]
      refine quiet_skip (by kernel_rfl) ?_
      simp only [Act.put, List.setIfInBounds_toArray, List.set_cons_zero, List.set_cons_succ]
      refine quiet_skip (by kernel_rfl) ?_
      simp only [Act.put, List.setIfInBounds_toArray, List.set_cons_zero, List.set_cons_succ]
      refine quiet_skip (by kernel_rfl) ?_
      simp only [Act.put, List.setIfInBounds_toArray, List.set_cons_zero, List.set_cons_succ]
      refine quiet_still rfl (.bool false) (fun w _ => by go_simp) ?_
      simp only [Act.put, List.setIfInBounds_toArray, List.set_cons_zero, List.set_cons_succ]
      refine wpQuiet_nil fun V bv => ?_
      have NV := NX.below bv
      have BV : Below fb w V := BX.trans (bv.mono (Nat.le_of_lt hzX))
      clear bv
      go_wp2_with fail
      refine ⟨rfl, .tuple #[], results_none rfl _ _ _, rfl, ⟨some ⟨b, off, none⟩, cap', ?_⟩, BV⟩
      have hst : stepN n ((z : Int) + 1) (p, L) = (p, M.dropLast) := by
        unfold stepN
        have ez : ((z : Int) + 1 - 1).toNat = z := by omega
        rw [if_pos (by omega), ez, ← HM.out, hdf]
        have : M.dropLast = [] := List.eq_nil_of_length_eq_zero (by omega)
        rw [this]
        rfl
      rw [hst]
      exact NV
    · have hln : (0 : Int) < (m : Int) := by omega
      obtain ⟨x0, hh⟩ : ∃ x0, (M.dropLast)[0]? = some x0 := ⟨_, List.getElem?_eq_getElem (by omega)⟩
      have hhin : x0.In n := hMin x0 (List.dropLast_subset M (List.mem_of_getElem? hh))
      have hr0 : X.rangeAt b off (pl x0) := by
        obtain ⟨b', off', e', _, hs', hr', _⟩ := NX.fr.at hh
        cases e'
        simpa using hr'
      have hsb' : b < X.heap.size := by
        obtain ⟨b', off', e', _, hs', hr', _⟩ := NX.fr.at hh
        cases e'
        exact hs'
      by_cases hd : x0 = dl n
      · have heq2 := fun w => eql_pl (dl n) (dl n) ((dl_in n).more hn) ((dl_in n).more hn) w (d := true) ⟨fun _ => rfl, fun _ => rfl⟩
        refine wp_region_quiet (C := fun w' => Below X.heap.size X w') (by kernel_rfl) (by kernel_rfl) (Below.refl _ X).drew ?_
        dsimp only
        refine quiet_still rfl (.pointer (some ⟨fb, 0, none⟩)) (fun w _ => by go_simp) ?_
        simp only [Act.put, List.setIfInBounds_toArray, List.set_cons_zero, List.set_cons_succ]
        refine quiet_still rfl (.pointer (some ⟨fb, 0, none⟩)) (fun w _ => by go_simp) ?_
        simp only [Act.put, List.setIfInBounds_toArray, List.set_cons_zero, List.set_cons_succ]
        refine quiet_still rfl (.pointer (some ⟨fb, 2, none⟩)) (fun w _ => by go_simp) ?_
        simp only [Act.put, List.setIfInBounds_toArray, List.set_cons_zero, List.set_cons_succ]
        refine quiet_load1 rfl _ _ rfl ⟨fb, 2, none⟩ rfl (.slice (some ⟨b, off, none⟩) m cap') (load_fac _ _) (fun _ h => (h.cell (p := ⟨fb, 2, none⟩) hzX).trans hcX) ?_
        simp only [Act.put, List.setIfInBounds_toArray, List.set_cons_zero, List.set_cons_succ]
        refine quiet_still rfl (.int .i64 (m : Int)) (fun w _ => by go_simp) ?_
        simp only [Act.put, List.setIfInBounds_toArray, List.set_cons_zero, List.set_cons_succ]
        refine quiet_still rfl (.bool true) (fun w _ => by go_simp <;> omega) ?_
        simp only [Act.put, List.setIfInBounds_toArray, List.set_cons_zero, List.set_cons_succ]
        refine quiet_moveV rfl (.tmp 73) rfl (.bool true) rfl ?_
        simp only [Act.put, List.setIfInBounds_toArray, List.set_cons_zero, List.set_cons_succ]
        refine quietW_still (by kernel_rfl) (.pointer (some ⟨fb, 0, none⟩)) (fun w _ => by go_simp) ?_
        simp only [Act.put, List.setIfInBounds_toArray, List.set_cons_zero, List.set_cons_succ]
        refine quietW_still (by kernel_rfl) (.pointer (some ⟨fb, 0, none⟩)) (fun w _ => by go_simp) ?_
        simp only [Act.put, List.setIfInBounds_toArray, List.set_cons_zero, List.set_cons_succ]
        refine quietW_still (by kernel_rfl) (.pointer (some ⟨fb, 2, none⟩)) (fun w _ => by go_simp) ?_
        simp only [Act.put, List.setIfInBounds_toArray, List.set_cons_zero, List.set_cons_succ]
        refine quietW_load1 (by kernel_rfl) _ _ rfl ⟨fb, 2, none⟩ rfl (.slice (some ⟨b, off, none⟩) m cap') (load_fac _ _) (fun _ h => (h.cell (p := ⟨fb, 2, none⟩) hzX).trans hcX) ?_
        simp only [Act.put, List.setIfInBounds_toArray, List.set_cons_zero, List.set_cons_succ]
        refine quietW_still (by kernel_rfl) (.pointer (some ⟨b, off, none⟩)) (fun w _ => by go_simp <;> first | omega | (intro h'; omega)) ?_
        simp only [Act.put, List.setIfInBounds_toArray, List.set_cons_zero, List.set_cons_succ]
        refine quietW_load_mid (by kernel_rfl) 108 (.tmp 79) rfl b off rfl (pl x0) _ (fun _ h' => range_below hr0 h' hsb') Tryz.underlying108 hd59 (hi59L _) ?_
        simp only [Act.put, List.setIfInBounds_toArray, List.set_cons_zero, List.set_cons_succ]
        refine quietW_still (by kernel_rfl) (.pointer (some ⟨fb, 0, none⟩)) (fun w _ => by go_simp) ?_
        simp only [Act.put, List.setIfInBounds_toArray, List.set_cons_zero, List.set_cons_succ]
        refine quietW_still (by kernel_rfl) (.pointer (some ⟨fb, 0, none⟩)) (fun w _ => by go_simp) ?_
        simp only [Act.put, List.setIfInBounds_toArray, List.set_cons_zero, List.set_cons_succ]
        refine quietW_still (by kernel_rfl) (.pointer (some ⟨fb, 0, none⟩)) (fun w _ => by go_simp) ?_
        simp only [Act.put, List.setIfInBounds_toArray, List.set_cons_zero, List.set_cons_succ]
        refine quietW_load1 (by kernel_rfl) _ _ rfl ⟨fb, 0, none⟩ rfl (.int .i64 (n : Int)) (load_int _ _) (fun _ h => (h.cell (p := ⟨fb, 0, none⟩) hzX).trans hc0X) ?_
        simp only [Act.put, List.setIfInBounds_toArray, List.set_cons_zero, List.set_cons_succ]
        refine quietW_call (by kernel_rfl) 135 _ _ rfl entDelta (.agg (pl (dl n)).toArray) (fun wc h => (delta_pl n hn wc).mono fun e w' ⟨he, hb⟩ => ⟨he, h.trans (hb.mono h.size)⟩) ?_
        simp only [Act.put, List.setIfInBounds_toArray, List.set_cons_zero, List.set_cons_succ]
        refine quietW_still (by kernel_rfl) (.bool true) (fun w _ => by go_simp) ?_
        simp only [Act.put, List.setIfInBounds_toArray, List.set_cons_zero, List.set_cons_succ]
        refine quiet_still rfl (.bool true) (fun w _ => by go_simp) ?_
        simp only [Act.put, List.setIfInBounds_toArray, List.set_cons_zero, List.set_cons_succ]
        refine wpQuiet_nil fun V bv => ?_
        have NV := NX.below bv
        have BV : Below fb w V := BX.trans (bv.mono (Nat.le_of_lt hzX))
        clear bv
        have hc1V := NV.c1
        have hf1V := NV.f1
        have hwp : IntKind.i64.wrap (p + 1) = p + 1 := IntWalk.i64_in _ (by omega)
        have NP1 := NV.power (p + 1)
        have BP1 := BV.setCell (p := ⟨fb, 1, none⟩) (Nat.le_refl _) (.int .i64 (p + 1))
        have hcP := NP1.c2
        have hfP := NP1.f2
        rw [lD] at hcP
        have lc1 : (1 : Int) ≤ (m : Int) := by omega
        have lc2 : (m : Int) ≤ (cap' : Int) := by omega
        clear NV BV
        have HNP := Lib.hid NP1
        have HBP := Lib.hid BP1
        clear NP1 BP1
        have NR := fun ao hao => HNP.out.rest (by omega) (m - 1) (by omega) ao hao
        have BR := fun v => HBP.out.setCell (p := ⟨fb, 2, none⟩) (Nat.le_refl _) v
        have hst : stepN n ((z : Int) + 1) (p, L) = (p + 1, (M.dropLast).tail) := by
          unfold stepN
          have ez : ((z : Int) + 1 - 1).toNat = z := by omega
          rw [if_pos (by omega), ez, ← HM.out, hdf]
          rw [popDelta_of hh, if_pos ((eqB_iff hhin (dl_in n)).2 hd)]
        have Hst := Lib.hid hst
        clear hst
        go_wp2_with fail
        · subst h
          refine ⟨rfl, .tuple #[], results_none rfl _ _ _, rfl, ⟨some ⟨b, off, none⟩, 1 - 1, ?_⟩, BR _⟩
          rw [Hst.out]
          exact NR (some ⟨b, off, none⟩) (fun hc => by omega)
        · refine ⟨rfl, .tuple #[], results_none rfl _ _ _, rfl, ⟨some ⟨b, off + 12, none⟩, cap' - 1, ?_⟩, BR _⟩
          rw [Hst.out]
          exact NR (some ⟨b, off + 12, none⟩) (fun _ => rfl)
      · have heq2 := fun w => eql_pl x0 (dl n) (hhin.more hn) ((dl_in n).more hn) w (d := false) ⟨fun h' => (by cases h'), fun h' => absurd h' hd⟩
        refine wp_region_quiet (C := fun w' => Below X.heap.size X w') (by kernel_rfl) (by kernel_rfl) (Below.refl _ X).drew ?_
        dsimp only
        refine quiet_still rfl (.pointer (some ⟨fb, 0, none⟩)) (fun w _ => by go_simp) ?_
        simp only [Act.put, List.setIfInBounds_toArray, List.set_cons_zero, List.set_cons_succ]
        refine quiet_still rfl (.pointer (some ⟨fb, 0, none⟩)) (fun w _ => by go_simp) ?_
        simp only [Act.put, List.setIfInBounds_toArray, List.set_cons_zero, List.set_cons_succ]
        refine quiet_still rfl (.pointer (some ⟨fb, 2, none⟩)) (fun w _ => by go_simp) ?_
        simp only [Act.put, List.setIfInBounds_toArray, List.set_cons_zero, List.set_cons_succ]
        refine quiet_load1 rfl _ _ rfl ⟨fb, 2, none⟩ rfl (.slice (some ⟨b, off, none⟩) m cap') (load_fac _ _) (fun _ h => (h.cell (p := ⟨fb, 2, none⟩) hzX).trans hcX) ?_
        simp only [Act.put, List.setIfInBounds_toArray, List.set_cons_zero, List.set_cons_succ]
        refine quiet_still rfl (.int .i64 (m : Int)) (fun w _ => by go_simp) ?_
        simp only [Act.put, List.setIfInBounds_toArray, List.set_cons_zero, List.set_cons_succ]
        refine quiet_still rfl (.bool true) (fun w _ => by go_simp <;> omega) ?_
        simp only [Act.put, List.setIfInBounds_toArray, List.set_cons_zero, List.set_cons_succ]
        refine quiet_moveV rfl (.tmp 73) rfl (.bool true) rfl ?_
        simp only [Act.put, List.setIfInBounds_toArray, List.set_cons_zero, List.set_cons_succ]
        refine quietW_still (by kernel_rfl) (.pointer (some ⟨fb, 0, none⟩)) (fun w _ => by go_simp) ?_
        simp only [Act.put, List.setIfInBounds_toArray, List.set_cons_zero, List.set_cons_succ]
        refine quietW_still (by kernel_rfl) (.pointer (some ⟨fb, 0, none⟩)) (fun w _ => by go_simp) ?_
        simp only [Act.put, List.setIfInBounds_toArray, List.set_cons_zero, List.set_cons_succ]
        refine quietW_still (by kernel_rfl) (.pointer (some ⟨fb, 2, none⟩)) (fun w _ => by go_simp) ?_
        simp only [Act.put, List.setIfInBounds_toArray, List.set_cons_zero, List.set_cons_succ]
        refine quietW_load1 (by kernel_rfl) _ _ rfl ⟨fb, 2, none⟩ rfl (.slice (some ⟨b, off, none⟩) m cap') (load_fac _ _) (fun _ h => (h.cell (p := ⟨fb, 2, none⟩) hzX).trans hcX) ?_
        simp only [Act.put, List.setIfInBounds_toArray, List.set_cons_zero, List.set_cons_succ]
        refine quietW_still (by kernel_rfl) (.pointer (some ⟨b, off, none⟩)) (fun w _ => by go_simp <;> first | omega | (intro h'; omega)) ?_
        simp only [Act.put, List.setIfInBounds_toArray, List.set_cons_zero, List.set_cons_succ]
        refine quietW_load_mid (by kernel_rfl) 108 (.tmp 79) rfl b off rfl (pl x0) _ (fun _ h' => range_below hr0 h' hsb') Tryz.underlying108 hd59 (hi59L _) ?_
        simp only [Act.put, List.setIfInBounds_toArray, List.set_cons_zero, List.set_cons_succ]
        refine quietW_still (by kernel_rfl) (.pointer (some ⟨fb, 0, none⟩)) (fun w _ => by go_simp) ?_
        simp only [Act.put, List.setIfInBounds_toArray, List.set_cons_zero, List.set_cons_succ]
        refine quietW_still (by kernel_rfl) (.pointer (some ⟨fb, 0, none⟩)) (fun w _ => by go_simp) ?_
        simp only [Act.put, List.setIfInBounds_toArray, List.set_cons_zero, List.set_cons_succ]
        refine quietW_still (by kernel_rfl) (.pointer (some ⟨fb, 0, none⟩)) (fun w _ => by go_simp) ?_
        simp only [Act.put, List.setIfInBounds_toArray, List.set_cons_zero, List.set_cons_succ]
        refine quietW_load1 (by kernel_rfl) _ _ rfl ⟨fb, 0, none⟩ rfl (.int .i64 (n : Int)) (load_int _ _) (fun _ h => (h.cell (p := ⟨fb, 0, none⟩) hzX).trans hc0X) ?_
        simp only [Act.put, List.setIfInBounds_toArray, List.set_cons_zero, List.set_cons_succ]
        refine quietW_call (by kernel_rfl) 135 _ _ rfl entDelta (.agg (pl (dl n)).toArray) (fun wc h => (delta_pl n hn wc).mono fun e w' ⟨he, hb⟩ => ⟨he, h.trans (hb.mono h.size)⟩) ?_
        simp only [Act.put, List.setIfInBounds_toArray, List.set_cons_zero, List.set_cons_succ]
        refine quietW_still (by kernel_rfl) (.bool false) (fun w _ => by go_simp) ?_
        simp only [Act.put, List.setIfInBounds_toArray, List.set_cons_zero, List.set_cons_succ]
        refine quiet_still rfl (.bool false) (fun w _ => by go_simp) ?_
        simp only [Act.put, List.setIfInBounds_toArray, List.set_cons_zero, List.set_cons_succ]
        refine wpQuiet_nil fun V bv => ?_
        have NV := NX.below bv
        have BV : Below fb w V := BX.trans (bv.mono (Nat.le_of_lt hzX))
        clear bv
        go_wp2_with fail
        refine ⟨rfl, .tuple #[], results_none rfl _ _ _, rfl, ⟨some ⟨b, off, none⟩, cap', ?_⟩, BV⟩
        have hst : stepN n ((z : Int) + 1) (p, L) = (p, M.dropLast) := by
          unfold stepN
          have ez : ((z : Int) + 1 - 1).toNat = z := by omega
          rw [if_pos (by omega), ez, ← HM.out, hdf]
          rw [popDelta_of hh, if_neg (fun h' => hd ((eqB_iff hhin (dl_in n)).1 h'))]
        rw [hst]
        exact NV
  · have heq := fun w => eql_pl y idP (hyin.more hn) ((idP_in 12)) w (d := false) ⟨fun h => (by cases h), fun h => absurd h hyi⟩
    refine wp_region_quiet (C := fun w' => Below W6.heap.size W6 w') (by kernel_rfl) (by kernel_rfl) (Below.refl _ W6).drew ?_
    dsimp only
    refine quiet_still rfl (.pointer (some ⟨fb, 0, none⟩)) (fun w _ => by go_simp) ?_
    simp only [Act.put, List.setIfInBounds_toArray, List.set_cons_zero, List.set_cons_succ]
    refine quiet_still rfl (.pointer (some ⟨fb, 0, none⟩)) (fun w _ => by go_simp) ?_
    simp only [Act.put, List.setIfInBounds_toArray, List.set_cons_zero, List.set_cons_succ]
    refine quiet_still rfl (.pointer (some ⟨fb, 2, none⟩)) (fun w _ => by go_simp) ?_
    simp only [Act.put, List.setIfInBounds_toArray, List.set_cons_zero, List.set_cons_succ]
    refine quiet_load1 rfl _ _ rfl ⟨fb, 2, none⟩ rfl (.slice (some ⟨b, off, none⟩) (L.length + 1) cap') (load_fac _ _) (fun _ h => (h.cell (p := ⟨fb, 2, none⟩) hz6).trans hcM) ?_
    simp only [Act.put, List.setIfInBounds_toArray, List.set_cons_zero, List.set_cons_succ]
    refine quiet_still rfl (.int .i64 (L.length : Int)) (fun w _ => by go_simp) ?_
    simp only [Act.put, List.setIfInBounds_toArray, List.set_cons_zero, List.set_cons_succ]
    refine quiet_still rfl (.pointer (some ⟨b, off + L.length * 12, none⟩)) (fun w _ => by go_simp) ?_
    simp only [Act.put, List.setIfInBounds_toArray, List.set_cons_zero, List.set_cons_succ]
    refine quiet_load_mid rfl 108 (.tmp 55) rfl b (off + L.length * 12) rfl (pl y) _ (fun _ h => range_below hry h hsb) Tryz.underlying108 hd59 (hi59L _) ?_
    simp only [Act.put, List.setIfInBounds_toArray, List.set_cons_zero, List.set_cons_succ]
    refine quiet_call rfl 132 [] _ rfl entFlat (.agg (pl idP).toArray) (fun wc h => (flat_pl wc).mono fun e w' ⟨he, hb⟩ => ⟨he, h.trans (hb.mono h.size)⟩) ?_
    simp only [Act.put, List.setIfInBounds_toArray, List.set_cons_zero, List.set_cons_succ]
    refine quiet_still rfl (.bool false) (fun w _ => by go_simp) ?_
    simp only [Act.put, List.setIfInBounds_toArray, List.set_cons_zero, List.set_cons_succ]
    refine wpQuiet_nil fun U bu => ?_
    have NU := HN6.out.below bu
    have BU : Below fb w U := B7.trans (bu.mono (Nat.le_of_lt hz6))
    clear bu
    go_wp2_with fail
    have lD : (M).length = (L.length + 1) := by exact hStl
    have hcX := NU.c2
    obtain ⟨m, hm⟩ : ∃ m : Nat, m = (L.length + 1) := ⟨_, rfl⟩
    have hmc : m ≤ cap' := by omega
    rw [← hm] at lD
    rw [lD] at hcX
    have Hm := Lib.hid hm
    clear hm heq hry hcM hw1 hw2 hw3 l0 l1
    have hc0X := NU.c0
    have hzX := NU.sz
    have hdf : dropFlat n M = M := by rw [dropFlat_of hStl hy]; rw [if_neg (fun h => hyi ((eqB_iff hyin (idP_in n)).1 h))]
    have hln : (0 : Int) < (m : Int) := by have := Hm.out; omega
    obtain ⟨x0, hh⟩ : ∃ x0, (M)[0]? = some x0 := ⟨_, List.getElem?_eq_getElem (by omega)⟩
    have hhin : x0.In n := hMin x0 (List.mem_of_getElem? hh)
    have hr0 : U.rangeAt b off (pl x0) := by
      obtain ⟨b', off', e', _, hs', hr', _⟩ := NU.fr.at hh
      cases e'
      simpa using hr'
    have hsb' : b < U.heap.size := by
      obtain ⟨b', off', e', _, hs', hr', _⟩ := NU.fr.at hh
      cases e'
      exact hs'
    by_cases hd : x0 = dl n
    · have heq2 := fun w => eql_pl (dl n) (dl n) ((dl_in n).more hn) ((dl_in n).more hn) w (d := true) ⟨fun _ => rfl, fun _ => rfl⟩
      refine wp_region_quiet (C := fun w' => Below U.heap.size U w') (by kernel_rfl) (by kernel_rfl) (Below.refl _ U).drew ?_
      dsimp only
      refine quiet_still rfl (.pointer (some ⟨fb, 0, none⟩)) (fun w _ => by go_simp) ?_
      simp only [Act.put, List.setIfInBounds_toArray, List.set_cons_zero, List.set_cons_succ]
      refine quiet_still rfl (.pointer (some ⟨fb, 0, none⟩)) (fun w _ => by go_simp) ?_
      simp only [Act.put, List.setIfInBounds_toArray, List.set_cons_zero, List.set_cons_succ]
      refine quiet_still rfl (.pointer (some ⟨fb, 2, none⟩)) (fun w _ => by go_simp) ?_
      simp only [Act.put, List.setIfInBounds_toArray, List.set_cons_zero, List.set_cons_succ]
      refine quiet_load1 rfl _ _ rfl ⟨fb, 2, none⟩ rfl (.slice (some ⟨b, off, none⟩) m cap') (load_fac _ _) (fun _ h => (h.cell (p := ⟨fb, 2, none⟩) hzX).trans hcX) ?_
      simp only [Act.put, List.setIfInBounds_toArray, List.set_cons_zero, List.set_cons_succ]
      refine quiet_still rfl (.int .i64 (m : Int)) (fun w _ => by go_simp) ?_
      simp only [Act.put, List.setIfInBounds_toArray, List.set_cons_zero, List.set_cons_succ]
      refine quiet_still rfl (.bool true) (fun w _ => by go_simp <;> omega) ?_
      simp only [Act.put, List.setIfInBounds_toArray, List.set_cons_zero, List.set_cons_succ]
      refine quiet_moveV rfl (.tmp 73) rfl (.bool true) rfl ?_
      simp only [Act.put, List.setIfInBounds_toArray, List.set_cons_zero, List.set_cons_succ]
      refine quietW_still (by kernel_rfl) (.pointer (some ⟨fb, 0, none⟩)) (fun w _ => by go_simp) ?_
      simp only [Act.put, List.setIfInBounds_toArray, List.set_cons_zero, List.set_cons_succ]
      refine quietW_still (by kernel_rfl) (.pointer (some ⟨fb, 0, none⟩)) (fun w _ => by go_simp) ?_
      simp only [Act.put, List.setIfInBounds_toArray, List.set_cons_zero, List.set_cons_succ]
      refine quietW_still (by kernel_rfl) (.pointer (some ⟨fb, 2, none⟩)) (fun w _ => by go_simp) ?_
      simp only [Act.put, List.setIfInBounds_toArray, List.set_cons_zero, List.set_cons_succ]
      refine quietW_load1 (by kernel_rfl) _ _ rfl ⟨fb, 2, none⟩ rfl (.slice (some ⟨b, off, none⟩) m cap') (load_fac _ _) (fun _ h => (h.cell (p := ⟨fb, 2, none⟩) hzX).trans hcX) ?_
      simp only [Act.put, List.setIfInBounds_toArray, List.set_cons_zero, List.set_cons_succ]
      refine quietW_still (by kernel_rfl) (.pointer (some ⟨b, off, none⟩)) (fun w _ => by go_simp <;> first | omega | (intro h'; omega)) ?_
      simp only [Act.put, List.setIfInBounds_toArray, List.set_cons_zero, List.set_cons_succ]
      refine quietW_load_mid (by kernel_rfl) 108 (.tmp 79) rfl b off rfl (pl x0) _ (fun _ h' => range_below hr0 h' hsb') Tryz.underlying108 hd59 (hi59L _) ?_
      simp only [Act.put, List.setIfInBounds_toArray, List.set_cons_zero, List.set_cons_succ]
      refine quietW_still (by kernel_rfl) (.pointer (some ⟨fb, 0, none⟩)) (fun w _ => by go_simp) ?_
      simp only [Act.put, List.setIfInBounds_toArray, List.set_cons_zero, List.set_cons_succ]
      refine quietW_still (by kernel_rfl) (.pointer (some ⟨fb, 0, none⟩)) (fun w _ => by go_simp) ?_
      simp only [Act.put, List.setIfInBounds_toArray, List.set_cons_zero, List.set_cons_succ]
      refine quietW_still (by kernel_rfl) (.pointer (some ⟨fb, 0, none⟩)) (fun w _ => by go_simp) ?_
      simp only [Act.put, List.setIfInBounds_toArray, List.set_cons_zero, List.set_cons_succ]
      refine quietW_load1 (by kernel_rfl) _ _ rfl ⟨fb, 0, none⟩ rfl (.int .i64 (n : Int)) (load_int _ _) (fun _ h => (h.cell (p := ⟨fb, 0, none⟩) hzX).trans hc0X) ?_
      simp only [Act.put, List.setIfInBounds_toArray, List.set_cons_zero, List.set_cons_succ]
      refine quietW_call (by kernel_rfl) 135 _ _ rfl entDelta (.agg (pl (dl n)).toArray) (fun wc h => (delta_pl n hn wc).mono fun e w' ⟨he, hb⟩ => ⟨he, h.trans (hb.mono h.size)⟩) ?_
      simp only [Act.put, List.setIfInBounds_toArray, List.set_cons_zero, List.set_cons_succ]
      refine quietW_still (by kernel_rfl) (.bool true) (fun w _ => by go_simp) ?_
      simp only [Act.put, List.setIfInBounds_toArray, List.set_cons_zero, List.set_cons_succ]
      refine quiet_still rfl (.bool true) (fun w _ => by go_simp) ?_
      simp only [Act.put, List.setIfInBounds_toArray, List.set_cons_zero, List.set_cons_succ]
      refine wpQuiet_nil fun V bv => ?_
      have NV := NU.below bv
      have BV : Below fb w V := BU.trans (bv.mono (Nat.le_of_lt hzX))
      clear bv
      have hc1V := NV.c1
      have hf1V := NV.f1
      have hwp : IntKind.i64.wrap (p + 1) = p + 1 := IntWalk.i64_in _ (by omega)
      have NP1 := NV.power (p + 1)
      have BP1 := BV.setCell (p := ⟨fb, 1, none⟩) (Nat.le_refl _) (.int .i64 (p + 1))
      have hcP := NP1.c2
      have hfP := NP1.f2
      rw [lD] at hcP
      have lc1 : (1 : Int) ≤ (m : Int) := by omega
      have lc2 : (m : Int) ≤ (cap' : Int) := by omega
      clear NV BV
      have HNP := Lib.hid NP1
      have HBP := Lib.hid BP1
      clear NP1 BP1
      have NR := fun ao hao => HNP.out.rest (by omega) (m - 1) (by omega) ao hao
      have BR := fun v => HBP.out.setCell (p := ⟨fb, 2, none⟩) (Nat.le_refl _) v
      have hst : stepN n ((z : Int) + 1) (p, L) = (p + 1, (M).tail) := by
        unfold stepN
        have ez : ((z : Int) + 1 - 1).toNat = z := by omega
        rw [if_pos (by omega), ez, ← HM.out, hdf]
        rw [popDelta_of hh, if_pos ((eqB_iff hhin (dl_in n)).2 hd)]
      have Hst := Lib.hid hst
      clear hst
      go_wp2_with fail
      · subst h
        refine ⟨rfl, .tuple #[], results_none rfl _ _ _, rfl, ⟨some ⟨b, off, none⟩, 1 - 1, ?_⟩, BR _⟩
        rw [Hst.out]
        exact NR (some ⟨b, off, none⟩) (fun hc => by omega)
      · refine ⟨rfl, .tuple #[], results_none rfl _ _ _, rfl, ⟨some ⟨b, off + 12, none⟩, cap' - 1, ?_⟩, BR _⟩
        rw [Hst.out]
        exact NR (some ⟨b, off + 12, none⟩) (fun _ => rfl)
    · have heq2 := fun w => eql_pl x0 (dl n) (hhin.more hn) ((dl_in n).more hn) w (d := false) ⟨fun h' => (by cases h'), fun h' => absurd h' hd⟩
      refine wp_region_quiet (C := fun w' => Below U.heap.size U w') (by kernel_rfl) (by kernel_rfl) (Below.refl _ U).drew ?_
      dsimp only
      refine quiet_still rfl (.pointer (some ⟨fb, 0, none⟩)) (fun w _ => by go_simp) ?_
      simp only [Act.put, List.setIfInBounds_toArray, List.set_cons_zero, List.set_cons_succ]
      refine quiet_still rfl (.pointer (some ⟨fb, 0, none⟩)) (fun w _ => by go_simp) ?_
      simp only [Act.put, List.setIfInBounds_toArray, List.set_cons_zero, List.set_cons_succ]
      refine quiet_still rfl (.pointer (some ⟨fb, 2, none⟩)) (fun w _ => by go_simp) ?_
      simp only [Act.put, List.setIfInBounds_toArray, List.set_cons_zero, List.set_cons_succ]
      refine quiet_load1 rfl _ _ rfl ⟨fb, 2, none⟩ rfl (.slice (some ⟨b, off, none⟩) m cap') (load_fac _ _) (fun _ h => (h.cell (p := ⟨fb, 2, none⟩) hzX).trans hcX) ?_
      simp only [Act.put, List.setIfInBounds_toArray, List.set_cons_zero, List.set_cons_succ]
      refine quiet_still rfl (.int .i64 (m : Int)) (fun w _ => by go_simp) ?_
      simp only [Act.put, List.setIfInBounds_toArray, List.set_cons_zero, List.set_cons_succ]
      refine quiet_still rfl (.bool true) (fun w _ => by go_simp <;> omega) ?_
      simp only [Act.put, List.setIfInBounds_toArray, List.set_cons_zero, List.set_cons_succ]
      refine quiet_moveV rfl (.tmp 73) rfl (.bool true) rfl ?_
      simp only [Act.put, List.setIfInBounds_toArray, List.set_cons_zero, List.set_cons_succ]
      refine quietW_still (by kernel_rfl) (.pointer (some ⟨fb, 0, none⟩)) (fun w _ => by go_simp) ?_
      simp only [Act.put, List.setIfInBounds_toArray, List.set_cons_zero, List.set_cons_succ]
      refine quietW_still (by kernel_rfl) (.pointer (some ⟨fb, 0, none⟩)) (fun w _ => by go_simp) ?_
      simp only [Act.put, List.setIfInBounds_toArray, List.set_cons_zero, List.set_cons_succ]
      refine quietW_still (by kernel_rfl) (.pointer (some ⟨fb, 2, none⟩)) (fun w _ => by go_simp) ?_
      simp only [Act.put, List.setIfInBounds_toArray, List.set_cons_zero, List.set_cons_succ]
      refine quietW_load1 (by kernel_rfl) _ _ rfl ⟨fb, 2, none⟩ rfl (.slice (some ⟨b, off, none⟩) m cap') (load_fac _ _) (fun _ h => (h.cell (p := ⟨fb, 2, none⟩) hzX).trans hcX) ?_
      simp only [Act.put, List.setIfInBounds_toArray, List.set_cons_zero, List.set_cons_succ]
      refine quietW_still (by kernel_rfl) (.pointer (some ⟨b, off, none⟩)) (fun w _ => by go_simp <;> first | omega | (intro h'; omega)) ?_
      simp only [Act.put, List.setIfInBounds_toArray, List.set_cons_zero, List.set_cons_succ]
      refine quietW_load_mid (by kernel_rfl) 108 (.tmp 79) rfl b off rfl (pl x0) _ (fun _ h' => range_below hr0 h' hsb') Tryz.underlying108 hd59 (hi59L _) ?_
      simp only [Act.put, List.setIfInBounds_toArray, List.set_cons_zero, List.set_cons_succ]
      refine quietW_still (by kernel_rfl) (.pointer (some ⟨fb, 0, none⟩)) (fun w _ => by go_simp) ?_
      simp only [Act.put, List.setIfInBounds_toArray, List.set_cons_zero, List.set_cons_succ]
      refine quietW_still (by kernel_rfl) (.pointer (some ⟨fb, 0, none⟩)) (fun w _ => by go_simp) ?_
      simp only [Act.put, List.setIfInBounds_toArray, List.set_cons_zero, List.set_cons_succ]
      refine quietW_still (by kernel_rfl) (.pointer (some ⟨fb, 0, none⟩)) (fun w _ => by go_simp) ?_
      simp only [Act.put, List.setIfInBounds_toArray, List.set_cons_zero, List.set_cons_succ]
      refine quietW_load1 (by kernel_rfl) _ _ rfl ⟨fb, 0, none⟩ rfl (.int .i64 (n : Int)) (load_int _ _) (fun _ h => (h.cell (p := ⟨fb, 0, none⟩) hzX).trans hc0X) ?_
      simp only [Act.put, List.setIfInBounds_toArray, List.set_cons_zero, List.set_cons_succ]
      refine quietW_call (by kernel_rfl) 135 _ _ rfl entDelta (.agg (pl (dl n)).toArray) (fun wc h => (delta_pl n hn wc).mono fun e w' ⟨he, hb⟩ => ⟨he, h.trans (hb.mono h.size)⟩) ?_
      simp only [Act.put, List.setIfInBounds_toArray, List.set_cons_zero, List.set_cons_succ]
      refine quietW_still (by kernel_rfl) (.bool false) (fun w _ => by go_simp) ?_
      simp only [Act.put, List.setIfInBounds_toArray, List.set_cons_zero, List.set_cons_succ]
      refine quiet_still rfl (.bool false) (fun w _ => by go_simp) ?_
      simp only [Act.put, List.setIfInBounds_toArray, List.set_cons_zero, List.set_cons_succ]
      refine wpQuiet_nil fun V bv => ?_
      have NV := NU.below bv
      have BV : Below fb w V := BU.trans (bv.mono (Nat.le_of_lt hzX))
      clear bv
      go_wp2_with fail
      refine ⟨rfl, .tuple #[], results_none rfl _ _ _, rfl, ⟨some ⟨b, off, none⟩, cap', ?_⟩, BV⟩
      have hst : stepN n ((z : Int) + 1) (p, L) = (p, M) := by
        unfold stepN
        have ez : ((z : Int) + 1 - 1).toNat = z := by omega
        rw [if_pos (by omega), ez, ← HM.out, hdf]
        rw [popDelta_of hh, if_neg (fun h' => hd ((eqB_iff hhin (dl_in n)).1 h'))]
      rw [hst]
      exact NV
end Go.Proofs.YtmefpaoakblndaaGreatDoor
