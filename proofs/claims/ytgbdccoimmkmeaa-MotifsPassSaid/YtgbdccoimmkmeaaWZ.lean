/- The law's helper: shown. -/
import Derived.Test.YtgbdccoimmkmeaaWU
import Derived.Test.YtgbdccoimmkmeaaWY
import Derived.OrdersHeld
namespace Go.Proofs.Ytgbdccoimmkmeaa
open Go.RowKit
set_option linter.unusedSimpArgs false
attribute [local irreducible] wpQuiet
section
variable {P : Program} {md : Region.Mode} {ops : Array Oper} {Q : Exit → Act → World → Prop} {S : World → Prop} {fuel : Nat} {d : Array Bool} {a : Act} {w : World}
theorem heldW_take {i : Nat} {o : Oper} (hi : ops[i]? = some o) (hs : Region.noSelect ops = true) (hf : Region.free md ops d i = true) (hr : (Region.ready md ops d).contains i = true) (v : Value)
    (hQ : ∀ c a w, Q (.panic c) (a.put o.dst v) w → Q (.panic c) a w) (hS : S w) (hg : Region.wanted o (yielded ops a.tmps) = true) (hy : ∀ w, S w → (execOp a.eval o).run P w = .ok (.value v) w)
    (h : wpAnyH P md ops Q S fuel (d.setIfInBounds i true) (a.put o.dst v) w) : wpAnyH P md ops Q S (fuel + 1) d a w :=
  wpAnyH_take hi hs hf hr hQ (.inl ⟨hg, hy⟩) hS h
theorem heldW_load {i : Nat} {o : Oper} (hi : ops[i]? = some o) (hs : Region.noSelect ops = true) (hf : Region.free md ops d i = true) (hr : (Region.ready md ops d).contains i = true) (cs : List Value)
    (hQ : ∀ c a w, Q (.panic c) (a.put o.dst (.agg cs.toArray)) w → Q (.panic c) a w) (hS : S w) (hg : Region.wanted o (yielded ops a.tmps) = true) (ty : TypeId) (x : Operand) (ho : o.op = .load ty x) (b off : Nat) (hx : a.eval x = .pointer (some ⟨b, off, none⟩)) (dd : TypeDesc)
    (hR : ∀ w, S w → w.rangeAt b off cs) (hu : P.underlying ty = some dd) (hd : dd.isRow = true) (hsz : (P.info? ty).map (·.size) = some cs.length)
    (h : wpAnyH P md ops Q S fuel (d.setIfInBounds i true) (a.put o.dst (.agg cs.toArray)) w) : wpAnyH P md ops Q S (fuel + 1) d a w :=
  heldW_take hi hs hf hr _ hQ hS hg (fun w' hw' => by
    unfold execOp
    simp only [ho, hx, Sem.run_bind, run_loadAt_mid w' b off ty cs dd (hR w' hw') hu hd hsz, Result.andThen_ok, Sem.run_pure]) h
theorem heldW_call {i : Nat} {o : Oper} (hr : Region.ready md ops d = [i]) (hi : ops[i]? = some o) (hw : Region.wanted o (yielded ops a.tmps) = true) (f : FuncId) (args : List Operand) (ts : Array TypeId) (ho : o.op = .call { callee := .value (.func f), args := args.toArray, argTypes := ts }) (hent : ∀ args w, (callFunc f args).run P w = .ok (.enter f args) w) (vs : Array Value) (hv : (args.map a.eval).toArray = vs)
    (h : Calls P f vs w fun e w' => ∃ v, e = .returned v ∧ S w' ∧ wpAnyH P md ops Q S fuel (d.setIfInBounds i true) (a.put o.dst v) w') : wpAnyH P md ops Q S (fuel + 1) d a w := by
  subst hv
  refine wpAnyH_all hr (by simp) fun j hj => ?_
  obtain rfl : j = i := by simpa using hj
  unfold wpOp
  simp only [hi]
  rw [if_pos hw]
  refine .inl ?_
  unfold Oper.wp execOp
  simp [ho, resolve, invoke, Act.eval, go_sem, hent, Oper.upon]
  refine h.mono fun e w' ⟨v, he, hS, hk⟩ => ?_
  subst he
  exact ⟨hS, hk⟩
theorem held_one {i : Nat} {o : Oper} (hr : Region.ready md ops d = [i]) (hi : ops[i]? = some o) (hw : Region.wanted o (yielded ops a.tmps) = true) (v : Value) {w' : World} (hv : (execOp a.eval o).run P w = .ok (.value v) w') (hS : S w')
    (h : wpAnyH P md ops Q S fuel (d.setIfInBounds i true) (a.put o.dst v) w') : wpAnyH P md ops Q S (fuel + 1) d a w := by
  refine wpAnyH_all hr (by simp) fun j hj => ?_
  obtain rfl : j = i := by simpa using hj
  unfold wpOp
  simp only [hi]
  rw [if_pos hw]
  refine .inl ?_
  unfold Oper.wp
  rw [hv]
  simp only [Oper.upon]
  exact ⟨hS, h⟩
theorem held_two {i j p q n : Nat} {oi oj : Oper} (hij : i ≠ j) (hpq : p ≠ q) (hr : Region.ready md ops d = [i, j]) (hri : Region.ready md ops (d.setIfInBounds i true) = [j]) (hrj : Region.ready md ops (d.setIfInBounds j true) = [i])
    (hi : ops[i]? = some oi) (hj : ops[j]? = some oj) (hdi : oi.dst = some p) (hdj : oj.dst = some q) (hwi : Region.wanted oi (yielded ops a.tmps) = true) (hwj : Region.wanted oj (yielded ops a.tmps) = true)
    (hwi' : ∀ v, Region.wanted oi (yielded ops (a.put (some q) v).tmps) = true) (hwj' : ∀ v, Region.wanted oj (yielded ops (a.put (some p) v).tmps) = true) (ci cj : Obj)
    (hvi : ∀ w, (execOp a.eval oi).run P w = .ok (.value (.slice (some ⟨w.heap.size, 0, none⟩) n n)) (w.alloc ci)) (hvi' : ∀ v w, (execOp (a.put (some q) v).eval oi).run P w = .ok (.value (.slice (some ⟨w.heap.size, 0, none⟩) n n)) (w.alloc ci))
    (hvj : ∀ w, (execOp a.eval oj).run P w = .ok (.value (.slice (some ⟨w.heap.size, 0, none⟩) n n)) (w.alloc cj)) (hvj' : ∀ v w, (execOp (a.put (some p) v).eval oj).run P w = .ok (.value (.slice (some ⟨w.heap.size, 0, none⟩) n n)) (w.alloc cj))
    (hS : ∀ W o, S W → S (W.alloc o)) (hS0 : S w)
    (h : ∀ W x y, S W → W.heap[x]? = some ci → W.heap[y]? = some cj → x < W.heap.size → y < W.heap.size → wpAnyH P md ops Q S fuel ((d.setIfInBounds i true).setIfInBounds j true) ((a.put (some p) (.slice (some ⟨x, 0, none⟩) n n)).put (some q) (.slice (some ⟨y, 0, none⟩) n n)) W) : wpAnyH P md ops Q S (fuel + 2) d a w := by
  have G : ∀ (W : World) (o o' : Obj), ((W.alloc o).alloc o').heap[W.heap.size]? = some o ∧ ((W.alloc o).alloc o').heap[(W.alloc o).heap.size]? = some o' ∧ W.heap.size < ((W.alloc o).alloc o').heap.size ∧ (W.alloc o).heap.size < ((W.alloc o).alloc o').heap.size := fun W o o' =>
    ⟨hb_old (heap_alloc_new _ _) (by simp), heap_alloc_new _ _, by simp; omega, by simp⟩
  refine wpAnyH_all hr (by simp) fun k hk => ?_
  have hk2 : k = i ∨ k = j := by simpa using hk
  unfold wpOp
  rcases hk2 with rfl | rfl
  · simp only [hi]
    rw [if_pos hwi]
    refine .inl ?_
    unfold Oper.wp
    rw [hvi]
    simp only [Oper.upon]
    refine ⟨hS _ _ hS0, ?_⟩
    rw [hdi]
    obtain ⟨g1, g2, g3, g4⟩ := G w ci cj
    refine held_one hri hj (hwj' _) _ (hvj' _ _) (hS _ _ (hS _ _ hS0)) ?_
    rw [hdj]
    exact h _ _ _ (hS _ _ (hS _ _ hS0)) g1 g2 g3 g4
  · simp only [hj]
    rw [if_pos hwj]
    refine .inl ?_
    unfold Oper.wp
    rw [hvj]
    simp only [Oper.upon]
    refine ⟨hS _ _ hS0, ?_⟩
    rw [hdj]
    obtain ⟨g1, g2, g3, g4⟩ := G w cj ci
    refine held_one hrj hi (hwi' _) _ (hvi' _ _) (hS _ _ (hS _ _ hS0)) ?_
    rw [hdi, Array.setIfInBounds_comm _ _ hij.symm, Act.put_comm _ _ _ (by simpa using hpq)]
    exact h _ _ _ (hS _ _ (hS _ _ hS0)) g2 g1 g4 g3
end
def X1 : List Wk := [⟨1, sCTC⟩, ⟨2, sCTC⟩, ⟨0, sCTC⟩, ⟨1, sCTC⟩, ⟨1, sP⟩, ⟨1, sCTC⟩, ⟨2, sCTC⟩, ⟨0, sCTC⟩, ⟨1, sCTC⟩]
def X2 : List Wk := [⟨0, sCTC⟩, ⟨0, sRP⟩, ⟨0, sCTC⟩, ⟨0, sCTC⟩, ⟨1, sCTC⟩, ⟨1, sRP⟩, ⟨1, sCTC⟩, ⟨0, sCTC⟩, ⟨0, sCTC⟩, ⟨0, sRP⟩, ⟨0, sCTC⟩]
def X3 : List Wk := [⟨0, sCTC⟩, ⟨0, sLLP⟩, ⟨0, sCTC⟩, ⟨0, sCTC⟩, ⟨0, sLLP⟩, ⟨0, sCTC⟩]
theorem ex_spider (w : World) : Calls Try.prog 13 #[.int .i64 2, .int .i64 0] w (Out ⟨4, X1, 0⟩ w) := by
  have h : spiderM 2 0 = ⟨4, X1, 0⟩ := by kernel_rfl
  rw [← h]
  exact Spider_any 2 0 w
theorem ex_fan (w : World) : Calls Try.prog 15 #[.int .i64 2] w (Out ⟨3, X2, 0⟩ w) := by
  have h : fanM 2 = ⟨3, X2, 0⟩ := by kernel_rfl
  rw [← h]
  exact Fan_any 2 w
theorem ex_foot (w : World) : Calls Try.prog 17 #[.int .i64 1, .int .i64 2] w (Out ⟨2, X3, 0⟩ w) := by
  have h : footM 1 2 = ⟨2, X3, 0⟩ := by kernel_rfl
  rw [← h]
  exact Footside_any 1 2 w
theorem works_lit (p : Int) (X : List Wk) (hX : X.length ≤ 1000) (L A : List Value) (hL : L = X.map fun x => .string x.wd) (hA : A = X.map fun x => .int .i64 x.pl) (w : World) (t1 t2 s1 s2 : Nat) (h1 : w.heap[s1]? = some (.cells L.toArray t1 (0, 0))) (h2 : w.heap[s2]? = some (.cells A.toArray t2 (0, 0))) (hs1 : s1 < w.heap.size) (hs2 : s2 < w.heap.size) (n : Nat) (hn : n = X.length) : Calls Try.prog 32 #[.int .i64 p, .slice (some ⟨s1, 0, none⟩) n n, .slice (some ⟨s2, 0, none⟩) n n] w fun e w' => ∃ v, e = .returned (.agg #[.int .i64 p, v]) ∧ WS w' v X ∧ Below w.heap.size w w' := by
  subst hn
  exact works_any p X hX s1 s2 w hs1 hs2 (by rw [← hL]; exact range_of_heap h1) (by rw [← hA]; exact range_of_heap h2)
set_option maxHeartbeats 4000000 in
set_option maxRecDepth 100000 in
theorem shown_any (w : World) : Calls Try.prog 21 #[] w fun e w' => e = .returned (.bool true) ∧ Below w.heap.size w w' := by
  go_enter Try.func21, Try.ntmps21
  go_wp2_with fail
  refine (ex_spider _).mono ?_
  rintro e w1 ⟨v1, rfl, hi1, hB1⟩
  obtain ⟨a1, c1, e1, _⟩ := id hi1
  subst e1
  have HI1 := Lib.hid hi1
  clear hi1
  go_wp2_with fail
  have hX1 := heap_alloc_new w1 (.cells #[.int .i64 4, .slice a1 X1.length c1] 24)
  have hb1 := below_alloc w1 (.cells #[.int .i64 4, .slice a1 X1.length c1] 24)
  have hz1 : w1.heap.size < (w1.alloc (.cells #[.int .i64 4, .slice a1 X1.length c1] 24)).heap.size := by simp
  generalize w1.alloc (.cells #[.int .i64 4, .slice a1 X1.length c1] 24) = wa1 at *
  refine (ex_fan _).mono ?_
  rintro e w2 ⟨v2, rfl, hi2, hB2⟩
  obtain ⟨a2, c2, e2, _⟩ := id hi2
  subst e2
  have HI2 := Lib.hid hi2
  clear hi2
  go_wp2_with fail
  have hX2 := heap_alloc_new w2 (.cells #[.int .i64 3, .slice a2 X2.length c2] 24)
  have hb2 := below_alloc w2 (.cells #[.int .i64 3, .slice a2 X2.length c2] 24)
  have hz2 : w2.heap.size < (w2.alloc (.cells #[.int .i64 3, .slice a2 X2.length c2] 24)).heap.size := by simp
  generalize w2.alloc (.cells #[.int .i64 3, .slice a2 X2.length c2] 24) = wa2 at *
  refine (ex_foot _).mono ?_
  rintro e w3 ⟨v3, rfl, hi3, hB3⟩
  obtain ⟨a3, c3, e3, _⟩ := id hi3
  subst e3
  have HI3 := Lib.hid hi3
  clear hi3
  have hX3 := heap_alloc_new w3 (.cells #[.int .i64 2, .slice a3 X3.length c3] 24)
  have hb3 := below_alloc w3 (.cells #[.int .i64 2, .slice a3 X3.length c3] 24)
  have hz3 : w3.heap.size < (w3.alloc (.cells #[.int .i64 2, .slice a3 X3.length c3] 24)).heap.size := by simp
  go_upto_region 4 with fail
  generalize w3.alloc (.cells #[.int .i64 2, .slice a3 X3.length c3] 24) = wa3 at *
  have s1 := hB1.size
  have s2 := hB2.size
  have s3 := hB3.size
  have t1 := hb1.size
  have t2 := hb2.size
  have t3 := hb3.size
  have HX3 := Lib.hid hX3
  have HX2 := Lib.hid (hb_below hb3 (hb_below hB3 hX2 hz2) (by omega))
  have HX1 := Lib.hid (hb_below hb3 (hb_below hB3 (hb_below hb2 (hb_below hB2 hX1 hz1) (by omega)) (by omega)) (by omega))
  have HW1 := Lib.hid (((((HI1.out.below hb1).below hB2).below hb2).below hB3).below hb3)
  have HW2 := Lib.hid (((HI2.out.below hb2).below hB3).below hb3)
  have HW3 := Lib.hid (HI3.out.below hb3)
  have HB := Lib.hid (hB1.trans (((((hb1.trans (hB2.mono t1)).trans (hb2.mono (by omega))).trans (hB3.mono (by omega))).trans (hb3.mono (by omega))).mono s1))
  have z1 : w1.heap.size < wa3.heap.size := by omega
  have z2 : w2.heap.size < wa3.heap.size := by omega
  have z3 : w3.heap.size < wa3.heap.size := by omega
  clear hX1 hX2 hX3 hb1 hb2 hb3 hB1 hB2 hB3 HI1 HI2 HI3 hz1 hz2 hz3 s1 s2 s3 t1 t2 t3
  refine wp_region_held (S := fun w' => Below wa3.heap.size wa3 w') (by kernel_rfl) ?_
  have hS0 : Below wa3.heap.size wa3 wa3.drew := (Below.refl _ wa3).drew
  have HSA := Lib.hid (show ∀ (W : World) (o : Obj), Below wa3.heap.size wa3 W → Below wa3.heap.size wa3 (W.alloc o) from fun W o h => h.alloc h.size o)
  refine heldW_take (i := 0) rfl (by kernel_rfl) (by kernel_rfl) (by kernel_rfl) (.int .i64 0) (fun _ _ _ h => h) hS0 (by kernel_rfl) (fun w _ => by go_simp) ?_
  simp only [Act.put, List.getElem_toArray, List.getElem_cons_succ, List.getElem_cons_zero, List.setIfInBounds_toArray, List.set_cons_zero, List.set_cons_succ]
  refine heldW_take (i := 1) rfl (by kernel_rfl) (by kernel_rfl) (by kernel_rfl) (.bool true) (fun _ _ _ h => h) hS0 (by kernel_rfl) (fun w _ => by go_simp) ?_
  simp only [Act.put, List.getElem_toArray, List.getElem_cons_succ, List.getElem_cons_zero, List.setIfInBounds_toArray, List.set_cons_zero, List.set_cons_succ]
  refine heldW_take (i := 2) rfl (by kernel_rfl) (by kernel_rfl) (by kernel_rfl) (.bool true) (fun _ _ _ h => h) hS0 (by kernel_rfl) (fun w _ => by go_simp) ?_
  simp only [Act.put, List.getElem_toArray, List.getElem_cons_succ, List.getElem_cons_zero, List.setIfInBounds_toArray, List.set_cons_zero, List.set_cons_succ]
  refine heldW_take (i := 3) rfl (by kernel_rfl) (by kernel_rfl) (by kernel_rfl) (.int .i64 0) (fun _ _ _ h => h) hS0 (by kernel_rfl) (fun w _ => by go_simp) ?_
  simp only [Act.put, List.getElem_toArray, List.getElem_cons_succ, List.getElem_cons_zero, List.setIfInBounds_toArray, List.set_cons_zero, List.set_cons_succ]
  refine heldW_take (i := 4) rfl (by kernel_rfl) (by kernel_rfl) (by kernel_rfl) (.bool true) (fun _ _ _ h => h) hS0 (by kernel_rfl) (fun w _ => by go_simp) ?_
  simp only [Act.put, List.getElem_toArray, List.getElem_cons_succ, List.getElem_cons_zero, List.setIfInBounds_toArray, List.set_cons_zero, List.set_cons_succ]
  refine heldW_take (i := 5) rfl (by kernel_rfl) (by kernel_rfl) (by kernel_rfl) (.bool true) (fun _ _ _ h => h) hS0 (by kernel_rfl) (fun w _ => by go_simp) ?_
  simp only [Act.put, List.getElem_toArray, List.getElem_cons_succ, List.getElem_cons_zero, List.setIfInBounds_toArray, List.set_cons_zero, List.set_cons_succ]
  refine heldW_take (i := 6) rfl (by kernel_rfl) (by kernel_rfl) (by kernel_rfl) (.bool true) (fun _ _ _ h => h) hS0 (by kernel_rfl) (fun w _ => by go_simp) ?_
  simp only [Act.put, List.getElem_toArray, List.getElem_cons_succ, List.getElem_cons_zero, List.setIfInBounds_toArray, List.set_cons_zero, List.set_cons_succ]
  refine heldW_take (i := 7) rfl (by kernel_rfl) (by kernel_rfl) (by kernel_rfl) (.int .i64 0) (fun _ _ _ h => h) hS0 (by kernel_rfl) (fun w _ => by go_simp) ?_
  simp only [Act.put, List.getElem_toArray, List.getElem_cons_succ, List.getElem_cons_zero, List.setIfInBounds_toArray, List.set_cons_zero, List.set_cons_succ]
  refine heldW_take (i := 8) rfl (by kernel_rfl) (by kernel_rfl) (by kernel_rfl) (.bool true) (fun _ _ _ h => h) hS0 (by kernel_rfl) (fun w _ => by go_simp) ?_
  simp only [Act.put, List.getElem_toArray, List.getElem_cons_succ, List.getElem_cons_zero, List.setIfInBounds_toArray, List.set_cons_zero, List.set_cons_succ]
  refine heldW_take (i := 9) rfl (by kernel_rfl) (by kernel_rfl) (by kernel_rfl) (.bool true) (fun _ _ _ h => h) hS0 (by kernel_rfl) (fun w _ => by go_simp) ?_
  simp only [Act.put, List.getElem_toArray, List.getElem_cons_succ, List.getElem_cons_zero, List.setIfInBounds_toArray, List.set_cons_zero, List.set_cons_succ]
  refine heldW_take (i := 10) rfl (by kernel_rfl) (by kernel_rfl) (by kernel_rfl) (.bool true) (fun _ _ _ h => h) hS0 (by kernel_rfl) (fun w _ => by go_simp) ?_
  simp only [Act.put, List.getElem_toArray, List.getElem_cons_succ, List.getElem_cons_zero, List.setIfInBounds_toArray, List.set_cons_zero, List.set_cons_succ]
  refine heldW_load (i := 11) rfl (by kernel_rfl) (by kernel_rfl) (by kernel_rfl) [.int .i64 4, .slice a1 X1.length c1] (fun _ _ _ h => h) hS0 (by kernel_rfl) _ _ rfl w1.heap.size 0 rfl _ (fun w h => range_of_heap (hb_below h HX1.out z1)) Try.underlying24 rfl (by kernel_rfl) ?_
  simp only [Act.put, List.getElem_toArray, List.getElem_cons_succ, List.getElem_cons_zero, List.setIfInBounds_toArray, List.set_cons_zero, List.set_cons_succ]
  refine held_two (i := 12) (j := 13) (p := 31) (q := 32) (n := 9) (by decide) (by decide) (by kernel_rfl) (by kernel_rfl) (by kernel_rfl) rfl rfl rfl rfl (by kernel_rfl) (by kernel_rfl) (fun _ => by kernel_rfl) (fun _ => by kernel_rfl) (.cells #[.string ⟨#[67, 84, 67]⟩, .string ⟨#[67, 84, 67]⟩, .string ⟨#[67, 84, 67]⟩, .string ⟨#[67, 84, 67]⟩, .string ⟨#[80]⟩, .string ⟨#[67, 84, 67]⟩, .string ⟨#[67, 84, 67]⟩, .string ⟨#[67, 84, 67]⟩, .string ⟨#[67, 84, 67]⟩] 9) (.cells #[.int .i64 1, .int .i64 2, .int .i64 0, .int .i64 1, .int .i64 1, .int .i64 1, .int .i64 2, .int .i64 0, .int .i64 1] 3) (fun w => by go_simp) (fun v w => by go_simp) (fun w => by go_simp) (fun v w => by go_simp) HSA.out hS0 ?_
  intro W1 x1 y1 S1 hx1 hy1 lx1 ly1
  simp only [Act.put, List.getElem_toArray, List.getElem_cons_succ, List.getElem_cons_zero, List.setIfInBounds_toArray, List.set_cons_zero, List.set_cons_succ]
  refine heldW_call (i := 14) (by kernel_rfl) rfl (by kernel_rfl) 32 _ _ rfl (enter_of Try.func32 (by decide) (by intro h; cases h)) #[.int .i64 4, .slice (some ⟨x1, 0, none⟩) 9 9, .slice (some ⟨y1, 0, none⟩) 9 9] (by kernel_rfl) ?_
  refine (works_lit 4 X1 (by decide) [.string ⟨#[67, 84, 67]⟩, .string ⟨#[67, 84, 67]⟩, .string ⟨#[67, 84, 67]⟩, .string ⟨#[67, 84, 67]⟩, .string ⟨#[80]⟩, .string ⟨#[67, 84, 67]⟩, .string ⟨#[67, 84, 67]⟩, .string ⟨#[67, 84, 67]⟩, .string ⟨#[67, 84, 67]⟩] [.int .i64 1, .int .i64 2, .int .i64 0, .int .i64 1, .int .i64 1, .int .i64 1, .int .i64 2, .int .i64 0, .int .i64 1] rfl rfl W1 _ _ x1 y1 hx1 hy1 lx1 ly1 9 rfl).mono ?_
  rintro e V1 ⟨u1, rfl, hu1, bu1⟩
  have T1 := S1.trans (bu1.mono S1.size)
  refine ⟨_, rfl, T1, ?_⟩
  simp only [Act.put, List.getElem_toArray, List.getElem_cons_succ, List.getElem_cons_zero, List.setIfInBounds_toArray, List.set_cons_zero, List.set_cons_succ]
  refine heldW_call (i := 15) (by kernel_rfl) rfl (by kernel_rfl) 12 _ _ rfl (enter_of Try.func12 (by decide) (by intro h; cases h)) #[.agg #[.int .i64 4, .slice a1 X1.length c1], .agg #[.int .i64 4, u1]] (by kernel_rfl) ?_
  refine (Same_yes 4 X1 _ _ _ (HW1.out.below T1) hu1 (by decide)).mono ?_
  rintro e U1 ⟨rfl, bb1⟩
  have Z1 := T1.trans (bb1.mono T1.size)
  refine ⟨_, rfl, Z1, ?_⟩
  simp only [Act.put, List.getElem_toArray, List.getElem_cons_succ, List.getElem_cons_zero, List.setIfInBounds_toArray, List.set_cons_zero, List.set_cons_succ]
  refine heldW_take (i := 16) rfl (by kernel_rfl) (by kernel_rfl) (by kernel_rfl) (.bool true) (fun _ _ _ h => h) Z1 (by kernel_rfl) (fun w _ => by go_simp) ?_
  simp only [Act.put, List.getElem_toArray, List.getElem_cons_succ, List.getElem_cons_zero, List.setIfInBounds_toArray, List.set_cons_zero, List.set_cons_succ]
  refine heldW_take (i := 17) rfl (by kernel_rfl) (by kernel_rfl) (by kernel_rfl) (.bool true) (fun _ _ _ h => h) Z1 (by kernel_rfl) (fun w _ => by go_simp) ?_
  simp only [Act.put, List.getElem_toArray, List.getElem_cons_succ, List.getElem_cons_zero, List.setIfInBounds_toArray, List.set_cons_zero, List.set_cons_succ]
  refine heldW_load (i := 18) rfl (by kernel_rfl) (by kernel_rfl) (by kernel_rfl) [.int .i64 3, .slice a2 X2.length c2] (fun _ _ _ h => h) Z1 (by kernel_rfl) _ _ rfl w2.heap.size 0 rfl _ (fun w h => range_of_heap (hb_below h HX2.out z2)) Try.underlying24 rfl (by kernel_rfl) ?_
  simp only [Act.put, List.getElem_toArray, List.getElem_cons_succ, List.getElem_cons_zero, List.setIfInBounds_toArray, List.set_cons_zero, List.set_cons_succ]
  refine held_two (i := 19) (j := 20) (p := 38) (q := 39) (n := 11) (by decide) (by decide) (by kernel_rfl) (by kernel_rfl) (by kernel_rfl) rfl rfl rfl rfl (by kernel_rfl) (by kernel_rfl) (fun _ => by kernel_rfl) (fun _ => by kernel_rfl) (.cells #[.string ⟨#[67, 84, 67]⟩, .string ⟨#[82, 80]⟩, .string ⟨#[67, 84, 67]⟩, .string ⟨#[67, 84, 67]⟩, .string ⟨#[67, 84, 67]⟩, .string ⟨#[82, 80]⟩, .string ⟨#[67, 84, 67]⟩, .string ⟨#[67, 84, 67]⟩, .string ⟨#[67, 84, 67]⟩, .string ⟨#[82, 80]⟩, .string ⟨#[67, 84, 67]⟩] 9) (.cells #[.int .i64 0, .int .i64 0, .int .i64 0, .int .i64 0, .int .i64 1, .int .i64 1, .int .i64 1, .int .i64 0, .int .i64 0, .int .i64 0, .int .i64 0] 3) (fun w => by go_simp) (fun v w => by go_simp) (fun w => by go_simp) (fun v w => by go_simp) HSA.out Z1 ?_
  intro W2 x2 y2 S2 hx2 hy2 lx2 ly2
  simp only [Act.put, List.getElem_toArray, List.getElem_cons_succ, List.getElem_cons_zero, List.setIfInBounds_toArray, List.set_cons_zero, List.set_cons_succ]
  refine heldW_call (i := 21) (by kernel_rfl) rfl (by kernel_rfl) 32 _ _ rfl (enter_of Try.func32 (by decide) (by intro h; cases h)) #[.int .i64 3, .slice (some ⟨x2, 0, none⟩) 11 11, .slice (some ⟨y2, 0, none⟩) 11 11] (by kernel_rfl) ?_
  refine (works_lit 3 X2 (by decide) [.string ⟨#[67, 84, 67]⟩, .string ⟨#[82, 80]⟩, .string ⟨#[67, 84, 67]⟩, .string ⟨#[67, 84, 67]⟩, .string ⟨#[67, 84, 67]⟩, .string ⟨#[82, 80]⟩, .string ⟨#[67, 84, 67]⟩, .string ⟨#[67, 84, 67]⟩, .string ⟨#[67, 84, 67]⟩, .string ⟨#[82, 80]⟩, .string ⟨#[67, 84, 67]⟩] [.int .i64 0, .int .i64 0, .int .i64 0, .int .i64 0, .int .i64 1, .int .i64 1, .int .i64 1, .int .i64 0, .int .i64 0, .int .i64 0, .int .i64 0] rfl rfl W2 _ _ x2 y2 hx2 hy2 lx2 ly2 11 rfl).mono ?_
  rintro e V2 ⟨u2, rfl, hu2, bu2⟩
  have T2 := S2.trans (bu2.mono S2.size)
  refine ⟨_, rfl, T2, ?_⟩
  simp only [Act.put, List.getElem_toArray, List.getElem_cons_succ, List.getElem_cons_zero, List.setIfInBounds_toArray, List.set_cons_zero, List.set_cons_succ]
  refine heldW_call (i := 22) (by kernel_rfl) rfl (by kernel_rfl) 12 _ _ rfl (enter_of Try.func12 (by decide) (by intro h; cases h)) #[.agg #[.int .i64 3, .slice a2 X2.length c2], .agg #[.int .i64 3, u2]] (by kernel_rfl) ?_
  refine (Same_yes 3 X2 _ _ _ (HW2.out.below T2) hu2 (by decide)).mono ?_
  rintro e U2 ⟨rfl, bb2⟩
  have Z2 := T2.trans (bb2.mono T2.size)
  refine ⟨_, rfl, Z2, ?_⟩
  simp only [Act.put, List.getElem_toArray, List.getElem_cons_succ, List.getElem_cons_zero, List.setIfInBounds_toArray, List.set_cons_zero, List.set_cons_succ]
  refine heldW_take (i := 23) rfl (by kernel_rfl) (by kernel_rfl) (by kernel_rfl) (.bool true) (fun _ _ _ h => h) Z2 (by kernel_rfl) (fun w _ => by go_simp) ?_
  simp only [Act.put, List.getElem_toArray, List.getElem_cons_succ, List.getElem_cons_zero, List.setIfInBounds_toArray, List.set_cons_zero, List.set_cons_succ]
  refine heldW_take (i := 24) rfl (by kernel_rfl) (by kernel_rfl) (by kernel_rfl) (.bool true) (fun _ _ _ h => h) Z2 (by kernel_rfl) (fun w _ => by go_simp) ?_
  simp only [Act.put, List.getElem_toArray, List.getElem_cons_succ, List.getElem_cons_zero, List.setIfInBounds_toArray, List.set_cons_zero, List.set_cons_succ]
  refine heldW_load (i := 25) rfl (by kernel_rfl) (by kernel_rfl) (by kernel_rfl) [.int .i64 2, .slice a3 X3.length c3] (fun _ _ _ h => h) Z2 (by kernel_rfl) _ _ rfl w3.heap.size 0 rfl _ (fun w h => range_of_heap (hb_below h HX3.out z3)) Try.underlying24 rfl (by kernel_rfl) ?_
  simp only [Act.put, List.getElem_toArray, List.getElem_cons_succ, List.getElem_cons_zero, List.setIfInBounds_toArray, List.set_cons_zero, List.set_cons_succ]
  refine held_two (i := 26) (j := 27) (p := 45) (q := 46) (n := 6) (by decide) (by decide) (by kernel_rfl) (by kernel_rfl) (by kernel_rfl) rfl rfl rfl rfl (by kernel_rfl) (by kernel_rfl) (fun _ => by kernel_rfl) (fun _ => by kernel_rfl) (.cells #[.string ⟨#[67, 84, 67]⟩, .string ⟨#[76, 76, 80]⟩, .string ⟨#[67, 84, 67]⟩, .string ⟨#[67, 84, 67]⟩, .string ⟨#[76, 76, 80]⟩, .string ⟨#[67, 84, 67]⟩] 9) (.cells #[.int .i64 0, .int .i64 0, .int .i64 0, .int .i64 0, .int .i64 0, .int .i64 0] 3) (fun w => by go_simp) (fun v w => by go_simp) (fun w => by go_simp) (fun v w => by go_simp) HSA.out Z2 ?_
  intro W3 x3 y3 S3 hx3 hy3 lx3 ly3
  simp only [Act.put, List.getElem_toArray, List.getElem_cons_succ, List.getElem_cons_zero, List.setIfInBounds_toArray, List.set_cons_zero, List.set_cons_succ]
  refine heldW_call (i := 28) (by kernel_rfl) rfl (by kernel_rfl) 32 _ _ rfl (enter_of Try.func32 (by decide) (by intro h; cases h)) #[.int .i64 2, .slice (some ⟨x3, 0, none⟩) 6 6, .slice (some ⟨y3, 0, none⟩) 6 6] (by kernel_rfl) ?_
  refine (works_lit 2 X3 (by decide) [.string ⟨#[67, 84, 67]⟩, .string ⟨#[76, 76, 80]⟩, .string ⟨#[67, 84, 67]⟩, .string ⟨#[67, 84, 67]⟩, .string ⟨#[76, 76, 80]⟩, .string ⟨#[67, 84, 67]⟩] [.int .i64 0, .int .i64 0, .int .i64 0, .int .i64 0, .int .i64 0, .int .i64 0] rfl rfl W3 _ _ x3 y3 hx3 hy3 lx3 ly3 6 rfl).mono ?_
  rintro e V3 ⟨u3, rfl, hu3, bu3⟩
  have T3 := S3.trans (bu3.mono S3.size)
  refine ⟨_, rfl, T3, ?_⟩
  simp only [Act.put, List.getElem_toArray, List.getElem_cons_succ, List.getElem_cons_zero, List.setIfInBounds_toArray, List.set_cons_zero, List.set_cons_succ]
  refine heldW_call (i := 29) (by kernel_rfl) rfl (by kernel_rfl) 12 _ _ rfl (enter_of Try.func12 (by decide) (by intro h; cases h)) #[.agg #[.int .i64 2, .slice a3 X3.length c3], .agg #[.int .i64 2, u3]] (by kernel_rfl) ?_
  refine (Same_yes 2 X3 _ _ _ (HW3.out.below T3) hu3 (by decide)).mono ?_
  rintro e U3 ⟨rfl, bb3⟩
  have Z3 := T3.trans (bb3.mono T3.size)
  refine ⟨_, rfl, Z3, ?_⟩
  simp only [Act.put, List.getElem_toArray, List.getElem_cons_succ, List.getElem_cons_zero, List.setIfInBounds_toArray, List.set_cons_zero, List.set_cons_succ]
  refine heldW_take (i := 30) rfl (by kernel_rfl) (by kernel_rfl) (by kernel_rfl) (.bool true) (fun _ _ _ h => h) Z3 (by kernel_rfl) (fun w _ => by go_simp) ?_
  simp only [Act.put, List.getElem_toArray, List.getElem_cons_succ, List.getElem_cons_zero, List.setIfInBounds_toArray, List.set_cons_zero, List.set_cons_succ]
  refine heldW_take (i := 31) rfl (by kernel_rfl) (by kernel_rfl) (by kernel_rfl) (.bool true) (fun _ _ _ h => h) Z3 (by kernel_rfl) (fun w _ => by go_simp) ?_
  simp only [Act.put, List.getElem_toArray, List.getElem_cons_succ, List.getElem_cons_zero, List.setIfInBounds_toArray, List.set_cons_zero, List.set_cons_succ]
  refine wpAnyH_done (by kernel_rfl) ?_ _
  go_wp2_with fail
  go_ret
  exact ⟨by first | rfl | (simp; done), HB.out.trans (Z3.mono HB.out.size)⟩
end Go.Proofs.Ytgbdccoimmkmeaa
