/- In how many orders what is left can be done. -/
import Derived.Test.YtcjbjlepgdggpaaTH
import Derived.Test.YtcjbjlepgdggpaaTI
namespace Go.Proofs.Ytcjbjlepgdggpaa
open Go.RowKit Go.Shelf Go.Lib
set_option maxRecDepth 100000
set_option linter.unusedSimpArgs false
attribute [local irreducible] wpQuiet
/-- What the map knows is right. -/
def OI (w : World) (n : Nat) (R : Nat → Nat → Bool) (mb : Nat) : Prop := ∃ f, MP w mb f ∧ f (wholeN n) = some 1 ∧ ∀ y v, y < 65536 → f y = some v → v = ordN n R y
theorem OI.kept {w w' : World} {n mb : Nat} {R : Nat → Nat → Bool} {row : Option Nat} (h : OI w n R mb) (hg : w.grownBy w' row) (hne : some mb ≠ row) : OI w' n R mb :=
  let ⟨f, h1, h2⟩ := h
  ⟨f, h1.kept hg hne, h2⟩
theorem OI.lt {w : World} {n mb : Nat} {R : Nat → Nat → Bool} (h : OI w n R mb) : mb < w.heap.size := let ⟨_, h1, _⟩ := h; h1.lt
theorem OI.store {w : World} {n mb x : Nat} {R : Nat → Nat → Bool} (h : OI w n R mb) (hx : x < 65536) (hb : ordN n R x < 2 ^ 62) :
    ∃ w', (Instr.mapUpdate 80 (.map (some mb)) (.int .u16 (x : Int)) (.int .i64 (ordN n R x : Int))).run Try.prog w = .ok () w' ∧ OI w' n R mb ∧ w.mapTurned w' mb := by
  obtain ⟨f, h1, h2, h3⟩ := h
  obtain ⟨w', r1, r2, r3⟩ := h1.store hx hb
  refine ⟨w', r1, ⟨_, r2, ?_, fun y v hy e => ?_⟩, r3⟩
  · unfold updM
    split
    · rename_i e
      rw [← e, ordN_whole]
    · exact h2
  · unfold updM at e
    split at e
    · rename_i q
      subst q
      simpa using e.symm
    · exact h3 y v hy e
theorem grown_trans {a b c : World} {r : Option Nat} (h : a.grownBy b r) (k : b.grownBy c r) : a.grownBy c r :=
  ⟨k.os.trans h.os, k.tape.trans h.tape, k.output.trans h.output, Nat.le_trans h.size k.size, fun i hi hr => (k.block i (Nat.lt_of_lt_of_le hi h.size) hr).trans (h.block i hi hr)⟩
theorem grown_below {a b : World} (r : Option Nat) (h : Below a.heap.size a b) : a.grownBy b r := ⟨h.os, h.tape, h.output, h.size, fun k hk _ => h.block k hk⟩
theorem leaves_ret {F : Fence} {n : Nat} {P : Program} {fn : Func} {R : Ending → World → Prop} {a : Act} {w : World} {v : Value} (h : (results fn a.tmps).run P w = .ok v w) (hd : a.defers = []) (hR : R (.returned v) w) : bodyPostM F n P fn R .ret a w := by
  show LeavesInM F n P fn a.tmps R a.defers .returning w
  rw [hd]
  exact ⟨v, h, hR⟩
theorem lex_stillS {P : Program} {ops : Array Oper} {S : World → Prop} {Q : Act → Prop} {a : Act} {o : Oper} {rest : List Oper} (hg : o.guard = none) (v : Value) (hS : ∀ w, S w → (execOp a.eval o).run P w = .ok (.value v) w)
    (h : wpLex P ops S Q rest (a.put o.dst v)) : wpLex P ops S Q (o :: rest) a := by
  refine ⟨v, .inl ⟨by simp [Region.wanted, hg], fun w hw' => ?_⟩, h⟩
  unfold Oper.quietAt
  rw [hS w hw']
  exact ⟨rfl, rfl⟩
theorem sr_cell {P : Program} {Z : Obj} {o : Oper} {b : Nat} {a : Act} (hgd : o.guard = none) (ty : TypeId) (x y : Operand) (ho : o.op = .store ty x y) (v : Value) (hx : a.eval x = .pointer (some ⟨b, 0, none⟩)) (hy : a.eval y = v)
    (t : TypeId) (old : Value) (hZ : Z = .cells #[old] t (0, 0)) (hst : ∀ w, w.cell? ⟨b, 0, none⟩ = some old → w.frozen? ⟨b, 0, none⟩ = false → (Instr.storeAt ty (.pointer (some ⟨b, 0, none⟩)) v).run P w = .ok () (w.setCell ⟨b, 0, none⟩ v)) : SR P Z (.cells #[v] t (0, 0)) o b a := by
  subst hZ
  refine ⟨hgd, fun w hg => ?_⟩
  have hr : (execOp a.eval o).run P w = .ok .skip (w.setCell ⟨b, 0, none⟩ v) := by
    unfold execOp
    simp only [ho, hx, hy, Sem.run_bind, Sem.run_pure, Result.andThen_ok, hst w (cell_of_row w b 0 _ _ _ hg) (frozen_of_heap hg 0)]
  refine ⟨_, hr, ?_, by simp, fun B w0 hb hB => hb.setCell (p := ⟨b, 0, none⟩) hB v⟩
  exact Go.heap_setCell_same _ _ _ _ _ _ hg
theorem load_map (ad : Addr) (v : Value) (w : World) (h : w.cell? ad = some v) : (Instr.loadAt 80 (.pointer (some ad))).run Try.prog w = .ok v w := by
  simp [Instr.loadAt, Instr.sureAddr, loadVar, go_sem, Try.isAgg80, h]
theorem load_i64 (ad : Addr) (v : Value) (w : World) (h : w.cell? ad = some v) : (Instr.loadAt 2 (.pointer (some ad))).run Try.prog w = .ok v w := by
  simp [Instr.loadAt, Instr.sureAddr, loadVar, go_sem, Try.isAgg2, h]
theorem store_i64 (ad : Addr) (z : Int) (u : Value) (w : World) (h : w.cell? ad = some u) (hf : w.frozen? ad = false) : (Instr.storeAt 2 (.pointer (some ad)) (.int .i64 z)).run Try.prog w = .ok () (w.setCell ad (.int .i64 z)) := by
  simp [Instr.storeAt, Instr.sureAddr, storeVar, go_sem, Try.isAgg2, h, hf]
/-- What the range keeps between two rounds. -/
structure OIn (w0 : World) (n : Nat) (F : Nat → Nat) (c mb x b5 s : Nat) (W : World) : Prop where
  sum : W.heap[b5]? = some (.cells #[.int .i64 (s : Int)] 2 (0, 0))
  b0 : W.heap[w0.heap.size]? = some (.cells #[.pointer (some ⟨c, 0, none⟩)]  106 (0, 0))
  b1 : W.heap[w0.heap.size + 1]? = some (.cells #[.int .u16 (x : Int)] 78 (0, 0))
  box : CB W c n mb F
  map : OI W n (rdyM n F) mb
  grown : w0.grownBy W (some mb)
theorem OIn.own {w0 A B : World} {n c mb x b5 s Bd : Nat} {F : Nat → Nat} {row : Option Nat} (h : OIn w0 n F c mb x b5 s A) (hg : A.grownBy B row) (hr : ∀ r, row = some r → Bd ≤ r) (h5 : b5 < Bd) (h0 : w0.heap.size + 1 < Bd) (hc : c < Bd) (hm : mb < Bd) : OIn w0 n F c mb x b5 s B := by
  have keep : ∀ (k : Nat) (o : Obj), k < Bd → A.heap[k]? = some o → B.heap[k]? = some o := fun k o hk ho => (hg.block k (Array.getElem?_eq_some_iff.1 ho).1 (fun e => by have := hr k e.symm; omega)).trans ho
  refine ⟨keep _ _ h5 h.sum, keep _ _ (by omega) h.b0, keep _ _ h0 h.b1, keep _ _ hc h.box, h.map.kept hg (fun e => by have := hr mb e.symm; omega), ⟨hg.os.trans h.grown.os, hg.tape.trans h.grown.tape, hg.output.trans h.grown.output, Nat.le_trans h.grown.size hg.size, fun i hi hne => ?_⟩⟩
  exact (hg.block i (Nat.lt_of_lt_of_le hi h.grown.size) (fun e => by have := hr i e.symm; omega)).trans (h.grown.block i hi hne)
theorem OIn.call {w0 A B : World} {n c mb x b5 s : Nat} {F : Nat → Nat} (h : OIn w0 n F c mb x b5 s A) (hm : OI B n (rdyM n F) mb) (hg : A.grownBy B (some mb)) (h5 : b5 ≠ mb) (h0 : mb < w0.heap.size) (hc : c ≠ mb) : OIn w0 n F c mb x b5 s B := by
  have keep : ∀ (k : Nat) (o : Obj), k ≠ mb → A.heap[k]? = some o → B.heap[k]? = some o := fun k o hk ho => (hg.block k (Array.getElem?_eq_some_iff.1 ho).1 (fun e => by cases e; exact hk rfl)).trans ho
  exact ⟨keep _ _ h5 h.sum, keep _ _ (by omega) h.b0, keep _ _ (by omega) h.b1, keep _ _ hc h.box, hm, grown_trans h.grown hg⟩
theorem OIn.set {w0 A : World} {n c mb x b5 s t : Nat} {F : Nat → Nat} (h : OIn w0 n F c mb x b5 s A) (h5 : w0.heap.size + 1 < b5) (hc : c < w0.heap.size) (hm : mb < w0.heap.size) : OIn w0 n F c mb x b5 t (A.setCell ⟨b5, 0, none⟩ (.int .i64 (t : Int))) := by
  have keep : ∀ (k : Nat) (o : Obj), k ≠ b5 → A.heap[k]? = some o → (A.setCell ⟨b5, 0, none⟩ (.int .i64 (t : Int))).heap[k]? = some o := fun k o hk ho => (heap_setCell_other _ _ _ _ hk).trans ho
  refine ⟨Go.heap_setCell_same _ _ _ _ _ _ h.sum, keep _ _ (by omega) h.b0, keep _ _ (by omega) h.b1, keep _ _ (by omega) h.box, ?_, ⟨h.grown.os, h.grown.tape, h.grown.output, by simpa using h.grown.size, fun i hi hne => (heap_setCell_other _ _ _ _ (by simp only []; omega)).trans (h.grown.block i hi hne)⟩⟩
  obtain ⟨f, h1, h2, h3⟩ := h.map
  exact ⟨f, h1.setCell (by simp only []; omega) _, h2, h3⟩
def ids {n : Nat} {F : Nat → Nat} {x : Nat} (l : List (Rd n F x)) : List Nat := l.map fun i => i.1
theorem ids_snoc {n : Nat} {F : Nat → Nat} {x : Nat} (l : List (Rd n F x)) (i : Rd n F x) : ids (l ++ [i]) = ids l ++ [i.1] := by simp [ids]
theorem ids_len {n : Nat} {F : Nat → Nat} {x : Nat} (l : List (Rd n F x)) : (ids l).length = l.length := by simp [ids]
def sumR (n : Nat) (R : Nat → Nat → Bool) (x : Nat) (l : List Nat) : Nat := (l.map fun i => ordN n R (x ||| 1 <<< i)).sum
theorem sumR_snoc (n : Nat) (R : Nat → Nat → Bool) (x : Nat) (l : List Nat) (i : Nat) : sumR n R x (l ++ [i]) = sumR n R x l + ordN n R (x ||| 1 <<< i) := by
  unfold sumR
  rw [List.map_append, List.sum_append]
  simp
theorem sumR_all (n : Nat) (R : Nat → Nat → Bool) (x k : Nat) : sumR n R x ((List.range k).filter (R x)) = ordS n R x k := by
  induction k with
  | zero => rfl
  | succ k ih =>
    rw [ordS_next, List.range_succ, List.filter_append, ← ih]
    cases h : R x k with
    | true => simp only [List.filter_cons_of_pos h, List.filter_nil, if_true]; exact sumR_snoc _ _ _ _ _
    | false => rw [List.filter_cons_of_neg (by simp [h])]; simp
theorem sumR_le {n : Nat} {R : Nat → Nat → Bool} (hR : ∀ x i, R x i = true → i < n ∧ x.testBit i = false) (hn : n ≤ 16) (x : Nat) : ∀ (l : List Nat), sumR n R x l ≤ l.length * 20922789888000
  | [] => Nat.zero_le _
  | i :: l => by
    have h1 := sumR_le hR hn x l
    have h2 := ordN_le hR hn (x ||| 1 <<< i)
    unfold sumR at h1 ⊢
    rw [List.map_cons, List.sum_cons, List.length_cons, Nat.succ_mul]
    omega
set_option maxHeartbeats 4000000 in
set_option maxRecDepth 100000 in
theorem orders_any (n c mb : Nat) (F : Nat → Nat) (hn : n ≤ 16) (hF : ∀ i, F i < 2 ^ 16) (hcm : c ≠ mb) : ∀ (k x : Nat) (w : World), miss n x ≤ k → x < 2 ^ 16 → CB w c n mb F → OI w n (rdyM n F) mb →
    Calls Try.prog 52 #[.pointer (some ⟨c, 0, none⟩), .int .u16 (x : Int)] w fun e w' => e = .returned (.int .i64 (ordN n (rdyM n F) x : Int)) ∧ OI w' n (rdyM n F) mb ∧ w.grownBy w' (some mb) := by
  intro k
  induction k using Nat.strongRecOn with
  | _ k ih =>
  intro x w hk hx hc hm
  have IH := Lib.hid ih
  have HC := Lib.hid hc
  have HM := Lib.hid hm
  have HR := Lib.hid (fun x i => rdyM_lt n F x i)
  have zc := hc.lt
  have zm := hm.lt
  obtain ⟨f, f1, f2, f3⟩ := hm
  have hlook := f1.look hx
  clear ih hc
  refine (callsIn_wide (n := 9)).1 ?_
  refine callsIn_of_wp_marks Try.func52 rfl trivial ?_ rfl
  refine wpIn_wide.2 ?_
  simp only [Try.ntmps52, List.size_toArray, List.length_cons, List.length_nil, Nat.reduceAdd, Nat.reduceSub, Array.replicate_succ, Array.replicate_zero, List.push_toArray, List.append_toArray, List.nil_append, List.cons_append]
  go_wp2_with fail
  have B0 : Below w.heap.size w ((w.alloc (.cells #[.pointer (some ⟨c, 0, none⟩)] 106)).alloc (.cells #[.int .u16 (x : Int)] 78)) := (below_alloc _ _).alloc (by simp) _
  have h0 := heap_alloc2_old w (.cells #[.pointer (some ⟨c, 0, none⟩)] 106) (.cells #[.int .u16 (x : Int)] 78)
  have h1 := heap_alloc2_new w (.cells #[.pointer (some ⟨c, 0, none⟩)] 106) (.cells #[.int .u16 (x : Int)] 78)
  have hz : ((w.alloc (.cells #[.pointer (some ⟨c, 0, none⟩)] 106)).alloc (.cells #[.int .u16 (x : Int)] 78)).heap.size = w.heap.size + 2 := by simp
  generalize (w.alloc (.cells #[.pointer (some ⟨c, 0, none⟩)] 106)).alloc (.cells #[.int .u16 (x : Int)] 78) = W0 at *
  have HB0 := Lib.hid B0
  have H0 := Lib.hid h0
  have H1 := Lib.hid h1
  have HC0 := Lib.hid (HC.out.below B0 zc)
  have HM0 := Lib.hid (f1.below B0 zm)
  clear B0 h0 h1 hlook
  refine wp_region_as 9 (.cells #[.int .i64 0] 2 (0, 0)) (.cells #[.int .i64 (((f x).getD 0 : Nat) : Int)] 2 (0, 0)) (by kernel_rfl) (by kernel_rfl) ?_ ?_
  · intro o ho
    simp only [List.getElem?_toArray, List.getElem?_cons_succ, List.getElem?_cons_zero, Option.some.injEq] at ho; subst ho; exact ⟨rfl, fun a w => by go_simp; try rfl⟩
  simp only [List.take_succ_cons, List.take_zero, List.drop_succ_cons, List.drop_zero]
  refine lex_load1 rfl _ _ rfl ⟨w.heap.size, 0, none⟩ rfl (.pointer (some ⟨c, 0, none⟩)) (load_cptr _ _) (fun w' h => cell_of_row w' _ 0 _ _ _ (hb_below h H0.out (by omega))) ?_
  simp only [Act.put, List.setIfInBounds_toArray, List.set_cons_zero, List.set_cons_succ]
  refine lex_still rfl (.pointer (some ⟨c, 0, none⟩)) (fun w => by go_simp) ?_
  simp only [Act.put, List.setIfInBounds_toArray, List.set_cons_zero, List.set_cons_succ]
  refine lex_still rfl (.pointer (some ⟨c, 17, none⟩)) (fun w => by go_simp) ?_
  simp only [Act.put, List.setIfInBounds_toArray, List.set_cons_zero, List.set_cons_succ]
  refine lex_load1 rfl _ _ rfl ⟨c, 17, none⟩ rfl (.map (some mb)) (load_map _ _) (fun w' h => CB.cell (HC0.out.below h (by omega)) (cnC_m n F mb)) ?_
  simp only [Act.put, List.setIfInBounds_toArray, List.set_cons_zero, List.set_cons_succ]
  refine lex_load1 rfl _ _ rfl ⟨w.heap.size + 1, 0, none⟩ rfl (.int .u16 (x : Int)) (load_set _ _) (fun w' h => cell_of_row w' _ 0 _ _ _ (hb_below h H1.out (by omega))) ?_
  simp only [Act.put, List.setIfInBounds_toArray, List.set_cons_zero, List.set_cons_succ]
  refine lex_stillS rfl (.tuple #[.int .i64 (((f x).getD 0 : Nat) : Int), .bool (f x).isSome]) (fun w' h => by
    have := (HM0.out.below h (by omega)).look hx
    go_simp) ?_
  simp only [Act.put, List.setIfInBounds_toArray, List.set_cons_zero, List.set_cons_succ]
  refine lex_still rfl (.tuple #[.int .i64 (((f x).getD 0 : Nat) : Int), .bool (f x).isSome]) (fun w => by go_simp) ?_
  simp only [Act.put, List.setIfInBounds_toArray, List.set_cons_zero, List.set_cons_succ]
  refine lex_still rfl (.int .i64 (((f x).getD 0 : Nat) : Int)) (fun w => by go_simp) ?_
  simp only [Act.put, List.setIfInBounds_toArray, List.set_cons_zero, List.set_cons_succ]
  refine lex_still rfl (.bool (f x).isSome) (fun w => by go_simp) ?_
  simp only [Act.put, List.setIfInBounds_toArray, List.set_cons_zero, List.set_cons_succ]
  refine ⟨_, _, rfl, rfl, fun b5 => ⟨sr_cell rfl 2 (.tmp 5) (.tmp 15) rfl _ rfl rfl _ _ rfl (fun w h hf => store_i64 _ _ _ w h hf), ?_⟩⟩
  intro w2 hb g5 l5 h5
  try simp only [List.drop_succ_cons, List.drop_zero]
  try simp only [Act.put, List.setIfInBounds_toArray, List.set_cons_zero, List.set_cons_succ]
  have H5 := Lib.hid h5
  have HB2 := Lib.hid (HB0.out.trans (hb.mono (by omega)))
  have HC2 := Lib.hid (HC0.out.below hb (by omega))
  have HM2 := Lib.hid (show OI w2 n (rdyM n F) mb from ⟨f, HM0.out.below hb (by omega), f2, f3⟩)
  have H02 := Lib.hid (hb_below hb H0.out (by omega))
  have H12 := Lib.hid (hb_below hb H1.out (by omega))
  have c5 := cell_of_row w2 b5 0 _ _ _ h5
  have c0 := cell_of_row w2 _ 0 _ _ _ H02.out
  have c1 := cell_of_row w2 _ 0 _ _ _ H12.out
  simp only [List.getElem?_toArray, List.getElem?_cons_zero] at c0 c1 c5
  have hz2 := hb.size
  clear hb h5 HM0 HC0 HB0 H0 H1
  cases hfx : f x with
  | some v =>
    have hv := f3 x v hx hfx
    rw [hfx] at c5
    subst hv
    simp only [Option.getD_some] at c5
    clear f1 f2 f3
    go_wp2_with fail
    refine leaves_ret (results_tmp rfl _ _ _) rfl ⟨rfl, HM2.out, grown_below _ HB2.out⟩
  | none =>
    rw [hfx] at c5 H5
    simp only [Option.getD_none] at c5 H5
    have HNE := Lib.hid (show x ≠ wholeN n from fun e => by rw [e, f2] at hfx; cases hfx)
    clear f1 f2 f3 hfx
    go_wp2_with fail
    refine (ready_any c x w2).mono ?_
    rintro e w3 ⟨rfl, hw3⟩
    have B3 : Below w2.heap.size w2 w3 := by rw [hw3]; exact (below_alloc _ _).alloc (by simp) _
    have g1 : w3.heap[w2.heap.size]? = some (.cells #[.pointer (some ⟨c, 0, none⟩)]  106 (0, 0)) := by rw [hw3]; exact heap_alloc2_old _ _ _
    have g2 : w3.heap[w2.heap.size + 1]? = some (.cells #[.int .u16 (x : Int)] 78 (0, 0)) := by rw [hw3]; exact heap_alloc2_new _ _ _
    have hz3 : w3.heap.size = w2.heap.size + 2 := by rw [hw3]; simp
    have HB3 := Lib.hid (HB2.out.trans (B3.mono HB2.out.size))
    have HC3 := Lib.hid (HC2.out.below B3 (by omega))
    have HM3 := Lib.hid (HM2.out.kept (grown_below none B3) (by simp))
    have H03 := Lib.hid (hb_below B3 H02.out (by omega))
    have H13 := Lib.hid (hb_below B3 H12.out (by omega))
    have H53 := Lib.hid (hb_below B3 H5.out (by omega))
    have HSQ := Lib.hid (ready1_own (9 - 1) (by omega) c n mb x w2.heap.size (w2.heap.size + 1) F hn hx hF w3 HC3.out g1 g2)
    clear hw3 B3 g1 g2 H5 HB2 HC2 HM2 H02 H12 c0 c1 c5
    go_upto_block 0 with fail
    refine (wpIn_wide (n := 9)).1 ?_
    gi_wp2_with fail
    have HZ := Lib.hid (show c < w3.heap.size ∧ mb < w3.heap.size ∧ w.heap.size + 1 < b5 ∧ b5 < w2.heap.size ∧ c < w.heap.size ∧ mb < w.heap.size from ⟨by omega, by omega, by omega, by omega, zc, zm⟩)
    refine range_own 9 (gf := 82) (lb := #[.pointer (some ⟨w2.heap.size, 0, none⟩), .pointer (some ⟨w2.heap.size + 1, 0, none⟩)]) rfl (enters_of Try.func82 (by kernel_rfl) rfl)
      HSQ.out (fun h k => Kc.trans h k) (fun W l o o' h1 h2 h3 h4 => ⟨by simp, World.putObj_heap_other (by have := HZ.out; omega), World.putObj_heap_other (by omega), World.putObj_heap_other (by omega)⟩) (Below.refl _ _) (fun _ => rfl)
      (fun (pre : List (Rd n F x)) W => OIn w n F c mb x b5 (sumR n (rdyM n F) x (ids pre)) W ∧ w3.heap.size ≤ W.heap.size) (fun _ _ => False)
      (fun s A B row hs hg hr => ⟨hs.1.own hg (fun r e => (hr r e).1) (by omega) (by omega) (by omega) (by omega), Nat.le_trans hs.2 hg.size⟩)
      (fun _ _ _ _ hs _ _ => hs)
      ⟨⟨H53.out, H03.out, H13.out, HC3.out, HM3.out, grown_below _ HB3.out⟩, Nat.le_refl _⟩
      (fun i a' _ => a' = { tmps := #[.pointer (some ⟨c, 0, none⟩), .int .u16 (x : Int), .pointer (some ⟨w.heap.size, 0, none⟩), .pointer (some ⟨w.heap.size + 1, 0, none⟩), .int .i64 0, .pointer (some ⟨b5, 0, none⟩), .bool false, .int .i64 (i.1 : Int), .tuple #[.int .i64 0, .bool false], .pointer (some ⟨c, 0, none⟩), .pointer (some ⟨c, 0, none⟩), .pointer (some ⟨c, 17, none⟩), .map (some mb), .int .u16 (x : Int), .tuple #[.int .i64 0, .bool false], .int .i64 0, .bool false, .bool false, undef, .pointer (some ⟨c, 0, none⟩), .int .u16 (x : Int), .func (.func 82) #[] #[.pointer (some ⟨w2.heap.size, 0, none⟩), .pointer (some ⟨w2.heap.size + 1, 0, none⟩)], .int .i64 (i.1 : Int), undef, undef, undef, undef, undef, undef, undef, undef, undef, undef, undef, undef, undef, undef], defers := [] })
      (fun _ _ _ _ _ _ hs _ _ => hs)
      ?assign ?body ?done ?stop
    case assign =>
      rintro l pre i W hW
      gi_wp2
      rename_i hK
      exact hK _ _ ⟨KeepsFrom.refl _ _, ⟨Nat.le_refl _, rfl, rfl, rfl⟩, hW, rfl⟩
    case body =>
      rintro l pre i a' W ⟨hW, hz4⟩ rfl hlt
      have HW := Lib.hid hW
      have hi := i.2
      have hin := HR.out x i.1 hi
      have hlt2 : miss n (x ||| 1 <<< i.1) < miss n x := miss_or hin.1 hin.2
      have hx2 : x ||| 1 <<< i.1 < 2 ^ 16 := or_lt hx (by omega)
      have CW := Lib.hid (fun V => with16_any x i.1 hx (by omega) V)
      have CO := Lib.hid (fun V h1 h2 => IH.out (miss n (x ||| 1 <<< i.1)) (by omega) (x ||| 1 <<< i.1) V (Nat.le_refl _) hx2 h1 h2)
      have hsl := sumR_le HR.out hn x (ids pre)
      have hol := ordN_le HR.out hn (x ||| 1 <<< i.1)
      have hsn := sumR_snoc n (rdyM n F) x (ids pre) i.1
      rw [ids_len] at hsl
      have hbig : sumR n (rdyM n F) x (ids pre) ≤ 16 * 20922789888000 := Nat.le_trans hsl (Nat.mul_le_mul_right _ (by omega))
      have HSN := Lib.hid (show sumR n (rdyM n F) x (ids (pre ++ [i])) = _ from (congrArg _ (ids_snoc pre i)).trans hsn)
      have HZZ := HZ.out
      clear hW hi hin hlt2 hsl hsn
      generalize sumR n (rdyM n F) x (ids pre) = s at *
      generalize hv : ordN n (rdyM n F) (x ||| 1 <<< i.1) = v at *
      clear hv
      have hsum : IntKind.i64.wrap ((s : Int) + (v : Int)) = (s : Int) + (v : Int) := IntWalk.i64_in _ (by omega)
      have hadd : ((s + v : Nat) : Int) = (s : Int) + (v : Int) := by omega
      have HAD := Lib.hid hadd
      clear hadd
      have HSM := Lib.hid hsum
      clear hsum
      gi_wp2_with fail
      refine round_class (fun V => OIn w n F c mb x b5 s V ∧ KeepsFrom w3.heap.size W V ∧ Kc c w2.heap.size (w2.heap.size + 1) W V) 7 (by kernel_rfl) ?_ (by kernel_rfl) ⟨⟨HW.out.sum, HW.out.b0, HW.out.b1, HW.out.box, HW.out.map, ⟨HW.out.grown.os, HW.out.grown.tape, HW.out.grown.output, HW.out.grown.size, HW.out.grown.block⟩⟩, ⟨Nat.le_refl _, fun k o _ h _ => h⟩, ⟨Nat.le_refl _, rfl, rfl, rfl⟩⟩ ?_
      · intro k o ho d hd
        match k, ho with
        | 0, ho => simp at ho; subst ho; cases hd
        | 1, ho => simp at ho; subst ho; cases hd
        | 2, ho => simp at ho; subst ho; cases hd
        | 3, ho => simp at ho; subst ho; cases hd
        | 4, ho => simp at ho; subst ho; cases hd
        | 5, ho => simp at ho; subst ho; cases hd
        | 6, ho => simp at ho; subst ho; cases hd
        | 7, ho => simp at ho; subst ho; cases hd
        | k + 8, ho => simp at ho
      simp only [List.take_succ_cons, List.take_zero, List.drop_succ_cons, List.drop_zero]
      refine quiet_load1 rfl _ _ rfl ⟨b5, 0, none⟩ rfl (.int .i64 (s : Int)) (load_i64 _ _) (fun V h => cell_of_row V _ 0 _ _ _ h.1.sum) ?_
      simp only [Act.put, List.setIfInBounds_toArray, List.set_cons_zero, List.set_cons_succ]
      refine quiet_load1 rfl _ _ rfl ⟨w.heap.size, 0, none⟩ rfl (.pointer (some ⟨c, 0, none⟩)) (load_cptr _ _) (fun V h => cell_of_row V _ 0 _ _ _ h.1.b0) ?_
      simp only [Act.put, List.setIfInBounds_toArray, List.set_cons_zero, List.set_cons_succ]
      refine quiet_load1 rfl _ _ rfl ⟨w.heap.size + 1, 0, none⟩ rfl (.int .u16 (x : Int)) (load_set _ _) (fun V h => cell_of_row V _ 0 _ _ _ h.1.b1) ?_
      simp only [Act.put, List.setIfInBounds_toArray, List.set_cons_zero, List.set_cons_succ]
      refine quiet_moveV rfl _ rfl (.int .i64 (i.1 : Int)) rfl ?_
      simp only [Act.put, List.setIfInBounds_toArray, List.set_cons_zero, List.set_cons_succ]
      refine quiet_call rfl 70 _ _ rfl (enter_of Try.func70 (by decide) (by intro h; cases h)) _ (fun V h => (CW.out V).mono fun e V' ⟨he, hw⟩ => ⟨he, hw ▸ h⟩) ?_
      simp only [Act.put, List.setIfInBounds_toArray, List.set_cons_zero, List.set_cons_succ]
      refine quiet_call rfl 52 _ _ rfl (enter_of Try.func52 (by decide) (by intro h; cases h)) _ (fun V h => (CO.out V h.1.box h.1.map).mono fun e V' ⟨he, hm, hg⟩ => ⟨he, h.1.call hm hg (by omega) zm hcm, ⟨Nat.le_trans h.2.1.size hg.size, fun k o hk ho hc => by
          have h1 := h.2.1.same k o hk ho hc
          exact (hg.block k (Array.getElem?_eq_some_iff.1 h1).1 (fun e => by cases e; omega)).trans h1⟩, ⟨Nat.le_trans h.2.2.size hg.size, (hg.block _ h.1.box.lt (fun e => hcm (by cases e; rfl))).trans h.2.2.k0, (hg.block _ (by have := h.2.2.size; omega) (fun e => by cases e; omega)).trans h.2.2.k1, (hg.block _ (by have := h.2.2.size; omega) (fun e => by cases e; omega)).trans h.2.2.k2⟩⟩) ?_
      simp only [Act.put, List.setIfInBounds_toArray, List.set_cons_zero, List.set_cons_succ]
      refine quiet_still rfl (.int .i64 ((s : Int) + (v : Int))) (fun V _ => by
        have := HSM.out
        go_simp) ?_
      simp only [Act.put, List.setIfInBounds_toArray, List.set_cons_zero, List.set_cons_succ]
      unfold wpQuiet
      intro V hV
      have HV := Lib.hid hV.1
      have c5 : V.cell? ⟨b5, 0, none⟩ = some (.int .i64 (s : Int)) := cell_of_row V _ 0 _ _ _ hV.1.sum
      have f5 := frozen_of_heap hV.1.sum 0
      have hS0 := hV.1.set (t := s + v) (by omega) zc zm
      rw [HAD.out] at hS0
      have HS := Lib.hid hS0
      clear hS0
      have HKF := Lib.hid (show KeepsFrom w3.heap.size W (V.setCell ⟨b5, 0, none⟩ (.int .i64 ((s : Int) + (v : Int)))) from ⟨by simpa using hV.2.1.size, fun k o hk ho hc => (heap_setCell_other _ _ _ _ (by simp only []; omega)).trans (hV.2.1.same k o hk ho hc)⟩)
      have HKC := Lib.hid (show Kc c w2.heap.size (w2.heap.size + 1) W (V.setCell ⟨b5, 0, none⟩ (.int .i64 ((s : Int) + (v : Int)))) from ⟨by simpa using hV.2.2.size, (heap_setCell_other _ _ _ _ (by simp only []; omega)).trans hV.2.2.k0, (heap_setCell_other _ _ _ _ (by simp only []; omega)).trans hV.2.2.k1, (heap_setCell_other _ _ _ _ (by simp only []; omega)).trans hV.2.2.k2⟩)
      clear hV
      gi_wp2_with fail
      rw [← hz3]
      exact ⟨HKF.out, HKC.out, by rw [HSN.out]; exact HS.out, by have := HKF.out.size; simp at this; omega⟩
    case done =>
      rintro D xs W hD hS ⟨hW, hz4⟩ hK
      have hfin : sumR n (rdyM n F) x (ids xs) = ordN n (rdyM n F) x := by
        rw [show ids xs = (List.range n).filter (rdyM n F x) from hS, sumR_all]
        refine (ordN_sum HR.out fun e => ?_).symm
        exact HNE.out e
      rw [hfin] at hW
      have HW := Lib.hid hW
      have HK := Lib.hid hK
      have hb62 := ordN_le HR.out hn x
      have HZZ := HZ.out
      clear hW hK hS hfin
      generalize hv : ordN n (rdyM n F) x = v at *
      have HV := Lib.hid hv
      go_wp2_with fail
      refine wp_region_class (fun V => Below W.heap.size W V) 6 (by kernel_rfl) (by kernel_rfl) (Below.refl _ W).drew ?_
      simp only [List.take_succ_cons, List.take_zero, List.drop_succ_cons, List.drop_zero]
      refine quiet_load1 rfl _ _ rfl ⟨w.heap.size, 0, none⟩ rfl (.pointer (some ⟨c, 0, none⟩)) (load_cptr _ _) (fun V h => cell_of_row V _ 0 _ _ _ (hb_below h HW.out.b0 (by omega))) ?_
      simp only [Act.put, List.setIfInBounds_toArray, List.set_cons_zero, List.set_cons_succ]
      refine quiet_still rfl (.pointer (some ⟨c, 0, none⟩)) (fun w _ => by go_simp) ?_
      simp only [Act.put, List.setIfInBounds_toArray, List.set_cons_zero, List.set_cons_succ]
      refine quiet_still rfl (.pointer (some ⟨c, 17, none⟩)) (fun w _ => by go_simp) ?_
      simp only [Act.put, List.setIfInBounds_toArray, List.set_cons_zero, List.set_cons_succ]
      refine quiet_load1 rfl _ _ rfl ⟨c, 17, none⟩ rfl (.map (some mb)) (load_map _ _) (fun V h => CB.cell (HW.out.box.below h (by omega)) (cnC_m n F mb)) ?_
      simp only [Act.put, List.setIfInBounds_toArray, List.set_cons_zero, List.set_cons_succ]
      refine quiet_load1 rfl _ _ rfl ⟨w.heap.size + 1, 0, none⟩ rfl (.int .u16 (x : Int)) (load_set _ _) (fun V h => cell_of_row V _ 0 _ _ _ (hb_below h HW.out.b1 (by omega))) ?_
      simp only [Act.put, List.setIfInBounds_toArray, List.set_cons_zero, List.set_cons_succ]
      refine quiet_load1 rfl _ _ rfl ⟨b5, 0, none⟩ rfl (.int .i64 (v : Int)) (load_i64 _ _) (fun V h => cell_of_row V _ 0 _ _ _ (hb_below h HW.out.sum (by omega))) ?_
      simp only [Act.put, List.setIfInBounds_toArray, List.set_cons_zero, List.set_cons_succ]
      unfold wpQuiet
      intro V hV
      obtain ⟨V', hrun, hV', hturn⟩ := OI.store (n := n) (R := rdyM n F) (x := x) (w := V) (mb := mb) (HW.out.map.kept (grown_below none hV) (by simp)) hx (by rw [HV.out]; omega)
      rw [HV.out] at hrun
      have hgr := hturn.grown
      have c5 : V'.cell? ⟨b5, 0, none⟩ = some (.int .i64 (v : Int)) := cell_of_row V' _ 0 _ _ _ ((hgr.block _ (by have := hV.size; omega) (fun e => by cases e; omega)).trans (hb_below hV HW.out.sum (by omega)))
      have hKf : V'.heap[D]? = some (.deferred (some [])) := (hgr.block _ (by have := hV.size; have := (Array.getElem?_eq_some_iff.1 HK.out).1; omega) (fun e => by cases e; omega)).trans (hb_below hV HK.out (Array.getElem?_eq_some_iff.1 HK.out).1)
      have HG := Lib.hid (show w.grownBy V' (some mb) from grown_trans HW.out.grown (grown_trans (grown_below _ hV) hgr))
      have HM4 := Lib.hid hV'
      have HKF := Lib.hid hKf
      clear hV hV' hturn hgr hKf
      go_wp2_with fail
      refine ⟨by simp, .inl ⟨_, _, rfl, run_takeDeferred HKF.out, ?_⟩⟩
      exact ⟨_, results_tmp rfl _ _ _, by rw [HV.out]; rfl, HM4.out.kept (grownBy_putObj' _ D _) (fun e => by cases e; omega), ⟨HG.out.os, HG.out.tape, HG.out.output, by simpa using HG.out.size, fun i hi hne => (World.putObj_heap_other (by omega)).trans (HG.out.block i hi hne)⟩⟩
    case stop =>
      rintro D pre W _ h _
      exact h.elim
end Go.Proofs.Ytcjbjlepgdggpaa
