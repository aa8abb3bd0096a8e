/- passes. -/
import Derived.Test.YtgbdccoimmkmeaaXQ
import Derived.OwnWalk
namespace Go.Proofs.Ytgbdccoimmkmeaa
open Go.RowKit
set_option linter.unusedSimpArgs false
attribute [local irreducible] wpQuiet
theorem load_is9 (ad : Addr) (v : Value) (w : World) (h : w.cell? ad = some v) : (Instr.loadAt 33 (.pointer (some ad))).run Try.prog w = .ok v w := by
  simp [Instr.loadAt, Instr.sureAddr, loadVar, go_sem, Try.isAgg33, h]
theorem load_ws9 (ad : Addr) (v : Value) (w : World) (h : w.cell? ad = some v) : (Instr.loadAt 22 (.pointer (some ad))).run Try.prog w = .ok v w := by
  simp [Instr.loadAt, Instr.sureAddr, loadVar, go_sem, Try.isAgg22, h]
/-- The line and the table while the works are gone through. -/
structure P2 (B : Nat) (w : World) (pr lb mb : Nat) (gs : List Nat) (l : List Nat) (lg : List (Nat × Nat)) : Prop where
  len : l.length = pr
  rng : ∀ z ∈ l, z < pr
  lin : ∀ (j : Nat) z, l[j]? = some z → w.cell? ⟨lb, j, none⟩ = some (.int .i64 (z : Int)) ∧ w.frozen? ⟨lb, j, none⟩ = false
  tab : ∀ (i : Nat) g, gs[i]? = some g → w.cell? ⟨mb, i, none⟩ = some (slv pr g)
  row : ∀ (i : Nat) g, gs[i]? = some g → ∀ j, j < pr → w.cell? ⟨g, j, none⟩ = some (.int .i64 (metN lg i j : Int)) ∧ w.frozen? ⟨g, j, none⟩ = false
  gl : gs.length = pr
  nd : gs.Nodup
  ln : lb ∉ gs
  mn : mb ∉ gs
  lm : mb ≠ lb
  big : B ≤ lb ∧ B ≤ mb ∧ ∀ g ∈ gs, B ≤ g
  sm : lb < w.heap.size ∧ mb < w.heap.size ∧ ∀ g ∈ gs, g < w.heap.size
theorem nodup_inj {L : List Nat} (h : L.Nodup) {i k g : Nat} (h1 : L[i]? = some g) (h2 : L[k]? = some g) : i = k := by
  obtain ⟨a1, a2⟩ := List.getElem?_eq_some_iff.1 h1
  obtain ⟨b1, b2⟩ := List.getElem?_eq_some_iff.1 h2
  rcases Nat.lt_trichotomy i k with c | c | c
  · exact absurd (a2.trans b2.symm) (List.pairwise_iff_getElem.1 h _ _ a1 b1 c)
  · exact c
  · exact absurd (b2.trans a2.symm) (List.pairwise_iff_getElem.1 h _ _ b1 a1 c)
section
variable {P : Program} {md : Region.Mode} {ops : Array Oper} {Q : Exit → Act → World → Prop} {S : World → Prop} {fuel : Nat} {d : Array Bool} {a : Act} {w : World}
theorem held_takeX {i : Nat} {o : Oper} (hi : ops[i]? = some o) (hs : Region.noSelect ops = true) (hf : Region.free md ops d i = true) (hr : (Region.ready md ops d).contains i = true) (v : Value)
    (hQ : ∀ c a w, Q (.panic c) (a.put o.dst v) w → Q (.panic c) a w) (hS : S w) (hg : o.guard = none) (hy : ∀ w, S w → (execOp a.eval o).run P w = .ok (.value v) w)
    (h : wpAnyH P md ops Q S fuel (d.setIfInBounds i true) (a.put o.dst v) w) : wpAnyH P md ops Q S (fuel + 1) d a w :=
  wpAnyH_take hi hs hf hr hQ (.inl ⟨by simp [Region.wanted, hg], hy⟩) hS h
theorem held_loadX {i : Nat} {o : Oper} (hi : ops[i]? = some o) (hs : Region.noSelect ops = true) (hf : Region.free md ops d i = true) (hr : (Region.ready md ops d).contains i = true) (v : Value)
    (hQ : ∀ c a w, Q (.panic c) (a.put o.dst v) w → Q (.panic c) a w) (hS : S w) (hg : o.guard = none) (ty : TypeId) (x : Operand) (ho : o.op = .load ty x) (ad : Addr) (hx : a.eval x = .pointer (some ad))
    (hl : ∀ w, w.cell? ad = some v → (Instr.loadAt ty (.pointer (some ad))).run P w = .ok v w) (hR : ∀ w, S w → w.cell? ad = some v)
    (h : wpAnyH P md ops Q S fuel (d.setIfInBounds i true) (a.put o.dst v) w) : wpAnyH P md ops Q S (fuel + 1) d a w :=
  held_takeX hi hs hf hr _ hQ hS hg (fun w' hw' => by
    unfold execOp
    simp only [ho, hx, Sem.run_bind, hl w' (hR w' hw'), Result.andThen_ok, Sem.run_pure]) h
theorem held_storeX {i : Nat} {o : Oper} (hr : Region.ready md ops d = [i]) (hi : ops[i]? = some o) (hg : o.guard = none) (ty : TypeId) (x y : Operand) (ho : o.op = .store ty x y) (ad : Addr) (u : Value) (hx : a.eval x = .pointer (some ad)) (hy : a.eval y = u)
    (hs : (storeVar ty ad u).run P w = .ok () (w.setCell ad u)) (hS : S (w.setCell ad u))
    (h : wpAnyH P md ops Q S fuel (d.setIfInBounds i true) (a.put o.dst undef) (w.setCell ad u)) : wpAnyH P md ops Q S (fuel + 1) d a w := by
  refine wpAnyH_all hr (by simp) fun j hj => ?_
  obtain rfl : j = i := by simpa using hj
  have hw : Region.wanted o (yielded ops a.tmps) = true := by simp [Region.wanted, hg]
  unfold wpOp
  simp only [hi]
  rw [if_pos hw]
  refine .inl ?_
  unfold Oper.wp execOp
  simp only [ho, hx, hy, Instr.storeAt, Instr.sureAddr, Sem.run_bind, Sem.run_pure, Result.andThen_ok, hs]
  exact ⟨hS, h⟩
end
theorem store_i9 (ad : Addr) (u : Value) (z : Int) (w : World) (h : w.cell? ad = some u) (hf : w.frozen? ad = false) : (storeVar 3 ad (.int .i64 z)).run Try.prog w = .ok () (w.setCell ad (.int .i64 z)) := by
  simp [storeVar, go_sem, Try.isAgg3, h, hf]
theorem metN_le (lg : List (Nat × Nat)) (i j : Nat) : metN lg i j ≤ lg.length := List.count_le_length
theorem frozen_blk {w w' : World} {a : Addr} (h : w'.heap[a.block]? = w.heap[a.block]?) : w'.frozen? a = w.frozen? a := by unfold World.frozen?; rw [h]
theorem P2.below {B pr lb mb : Nat} {w w' : World} {gs l : List Nat} {lg : List (Nat × Nat)} (h : P2 B w pr lb mb gs l lg) (hb : Below w.heap.size w w') : P2 B w' pr lb mb gs l lg := by
  obtain ⟨h1, h2, h3, h4, h5, h6, h7, h8, h9, h10, h11, h12, h13, h14⟩ := h
  have hz := hb.size
  refine ⟨h1, h2, fun j z hz => ?_, fun i g hg => ?_, fun i g hg j hj => ?_, h6, h7, h8, h9, h10, h11, by omega, by omega, fun g hg => by have := h14 g hg; omega⟩
  · obtain ⟨a, b⟩ := h3 j z hz
    exact ⟨(hb.cell (p := ⟨lb, j, none⟩) h12).trans a, (frozen_blk (a := ⟨lb, j, none⟩) (hb.block _ h12)).trans b⟩
  · exact (hb.cell (p := ⟨mb, i, none⟩) h13).trans (h4 i g hg)
  · obtain ⟨a, b⟩ := h5 i g hg j hj
    have hgz := h14 g (List.mem_of_getElem? hg)
    exact ⟨(hb.cell (p := ⟨g, j, none⟩) hgz).trans a, (frozen_blk (a := ⟨g, j, none⟩) (hb.block _ hgz)).trans b⟩
theorem P2.set {B pr lb mb p z : Nat} {w : World} {gs l : List Nat} {lg : List (Nat × Nat)} (h : P2 B w pr lb mb gs l lg) (hz : z < pr) : P2 B (w.setCell ⟨lb, p, none⟩ (.int .i64 (z : Int))) pr lb mb gs (l.set p z) lg := by
  obtain ⟨h1, h2, h3, h4, h5, h6, h7, h8, h9, h10, h11, h12, h13, h14⟩ := h
  refine ⟨by rw [List.length_set]; exact h1, fun y hy => ?_, fun j y hy => ?_, fun i g hg => ?_, fun i g hg j hj => ?_, h6, h7, h8, h9, h10, h11, by simpa using h12, by simpa using h13, fun g hg => by simpa using h14 g hg⟩
  · rcases List.mem_or_eq_of_mem_set hy with hy | hy
    · exact h2 y hy
    · omega
  · have hj := (List.getElem?_eq_some_iff.1 hy).1
    rw [List.length_set] at hj
    obtain ⟨y0, hy0⟩ : ∃ y0, l[j]? = some y0 := ⟨_, List.getElem?_eq_getElem hj⟩
    obtain ⟨a, b⟩ := h3 j y0 hy0
    refine ⟨?_, by rw [World.frozen?_setCell]; exact b⟩
    by_cases e : p = j
    · subst e
      rw [List.getElem?_set, if_pos rfl, if_pos hj] at hy
      cases hy
      exact World.cell?_setCell_same _ _ _ a
    · rw [List.getElem?_set, if_neg e] at hy
      rw [World.cell?_setCell_other _ _ _ _ (by intro e2; injection e2 with _ e3; exact e e3)]
      exact (h3 j y hy).1
  · rw [World.cell?_setCell_other _ _ _ _ (by intro e2; injection e2 with e3; exact h10 e3.symm)]
    exact h4 i g hg
  · obtain ⟨a, b⟩ := h5 i g hg j hj
    exact ⟨by rw [World.cell?_setCell_other _ _ _ _ (by intro e2; injection e2 with e3; exact h8 (e3 ▸ List.mem_of_getElem? hg))]; exact a, by rw [World.frozen?_setCell]; exact b⟩
theorem metN_cons (i j : Nat) (lg : List (Nat × Nat)) (i' j' : Nat) : metN ((i, j) :: lg) i' j' = metN lg i' j' + if i = i' ∧ j = j' then 1 else 0 := by
  unfold metN
  rw [List.count_cons]
  congr 1
  by_cases e : i = i' ∧ j = j'
  · rw [if_pos e, if_pos (by rw [e.1, e.2]; exact beq_self_eq_true _)]
  · rw [if_neg e, if_neg]
    rw [beq_iff_eq]
    intro e2
    injection e2 with e3 e4
    exact e ⟨e3, e4⟩
theorem P2.inc {B pr lb mb i j g : Nat} {w : World} {gs l : List Nat} {lg : List (Nat × Nat)} (h : P2 B w pr lb mb gs l lg) (hg : gs[i]? = some g) (_ : j < pr) : P2 B (w.setCell ⟨g, j, none⟩ (.int .i64 ((metN lg i j : Int) + 1))) pr lb mb gs l ((i, j) :: lg) := by
  obtain ⟨h1, h2, h3, h4, h5, h6, h7, h8, h9, h10, h11, h12, h13, h14⟩ := h
  have hgm := List.mem_of_getElem? hg
  refine ⟨h1, h2, fun k z hz => ?_, fun k g' hg' => ?_, fun k g' hg' m hm => ?_, h6, h7, h8, h9, h10, h11, by simpa using h12, by simpa using h13, fun g hg => by simpa using h14 g hg⟩
  · obtain ⟨a, b⟩ := h3 k z hz
    exact ⟨by rw [World.cell?_setCell_other _ _ _ _ (by intro e2; injection e2 with e3; exact h8 (e3 ▸ hgm))]; exact a, by rw [World.frozen?_setCell]; exact b⟩
  · rw [World.cell?_setCell_other _ _ _ _ (by intro e2; injection e2 with e3; exact h9 (e3 ▸ hgm))]
    exact h4 k g' hg'
  · obtain ⟨a, b⟩ := h5 k g' hg' m hm
    refine ⟨?_, by rw [World.frozen?_setCell]; exact b⟩
    rw [metN_cons]
    by_cases e : i = k ∧ j = m
    · obtain ⟨rfl, rfl⟩ := e
      rw [hg] at hg'
      cases hg'
      rw [if_pos ⟨rfl, rfl⟩, World.cell?_setCell_same _ _ _ a]
      congr 2
    · rw [if_neg e, Nat.add_zero, World.cell?_setCell_other _ _ _ _ (by
        intro e2
        injection e2 with e3 e4
        subst e3
        exact e ⟨nodup_inj h7 hg hg', e4⟩)]
      exact a
/-- What passes returns. -/
def PO (B : Nat) (w : World) (pr : Nat) (vl vm : Value) (l : List Nat) (lg : List (Nat × Nat)) : Prop := ∃ lb cl mb cm gs, vl = .slice (some ⟨lb, 0, none⟩) pr cl ∧ vm = .slice (some ⟨mb, 0, none⟩) pr cm ∧ P2 B w pr lb mb gs l lg
theorem p2_of {B pr lb cl mb cm : Nat} {w : World} {gs : List Nat} (h : P1 B w pr pr (.slice (some ⟨lb, 0, none⟩) pr cl) (.slice (some ⟨mb, 0, none⟩) pr cm) gs) : P2 B w pr lb mb gs (idL pr) [] := by
  obtain ⟨h1, h2, h3, h4, h5, h6⟩ := h
  have hll := World.ownsRow.lt h1 _ rfl
  have hmm := World.ownsRow.lt h2 _ rfl
  have hlc : ∀ (j z : Nat), (idL pr)[j]? = some z → w.cell? ⟨lb, j, none⟩ = some (.int .i64 (z : Int)) := fun j z hz => by
    have hj := (List.getElem?_eq_some_iff.1 hz).1
    unfold idL at hz hj
    rw [List.length_range] at hj
    have := World.ownsRow.cellAt h1 j (by omega)
    rw [this, List.getElem?_map, List.getElem?_map, hz]
    rfl
  refine ⟨by simp [idL], fun z hz => by simpa [idL] using hz, fun j z hz => ⟨hlc j z hz, World.ownsRow.frozenAt h1 j⟩, fun i g hg => ?_, fun i g hg j hj => ?_, h3, h4, fun hm => h6 lb hm rfl, fun hm => own_type h2 (h5 mb hm).2 (by decide) rfl, fun e => ?_, ⟨hll.1, hmm.1, fun g hg => (h5 g hg).1⟩, hll.2, hmm.2, fun g hg => heap_lt (h5 g hg).2⟩
  · have hi := (List.getElem?_eq_some_iff.1 hg).1
    have := World.ownsRow.cellAt h2 i (by omega)
    rw [this, List.getElem?_map, hg]
    rfl
  · obtain ⟨_, hh⟩ := h5 g (List.mem_of_getElem? hg)
    refine ⟨?_, by simp [World.frozen?, hh]⟩
    unfold World.cell?
    simp only [hh]
    show (zrow pr)[j]? = _
    unfold zrow
    rw [made_one _ _ _ hj]
    rfl
  · subst e
    rcases own_apart h2 h1 (by decide) with h | h
    · cases h
    · exact h rfl
set_option maxRecDepth 100000 in
set_option maxHeartbeats 16000000 in
theorem passes_any (pr : Nat) (W : List Wk) (v : Value) (w : World) (hv : WS w v W) (h2 : 2 ≤ pr) (h24 : pr ≤ 24) (hl : W.length ≤ 400) (hok : ∀ x ∈ W, okP pr x) :
    Calls Try.prog 28 #[.agg #[.int .i64 (pr : Int), v]] w fun e w' => ∃ vl vm, e = .returned (.tuple #[vl, vm, .bool true]) ∧ PO w.heap.size w' pr vl vm (runP (idL pr, []) W).1 (runP (idL pr, []) W).2 ∧ Below w.heap.size w w' := by
  obtain ⟨wa, wc, rfl, k1, k2, k3, hW⟩ := hv
  have HW := Lib.hid hW
  have HOK := Lib.hid hok
  clear hW hok
  go_enter Try.func28, Try.ntmps28
  have h0 := heap_alloc_new w (.cells #[.int .i64 (pr : Int), .slice wa W.length wc] 24)
  have b0 := below_alloc w (.cells #[.int .i64 (pr : Int), .slice wa W.length wc] 24)
  have z0 : (w.alloc (.cells #[.int .i64 (pr : Int), .slice wa W.length wc] 24)).heap.size = w.heap.size + 1 := by simp
  go_upto_region 1 with fail
  obtain ⟨B, hB⟩ : ∃ B, B = w.heap.size + 1 := ⟨_, rfl⟩
  rw [← hB] at z0
  have hwB : w.heap.size < B := by omega
  generalize w.alloc (.cells #[.int .i64 (pr : Int), .slice wa W.length wc] 24) = w0 at *
  have H0 := Lib.hid h0
  have HB0 := Lib.hid b0
  have hz0 : B ≤ w0.heap.size := by omega
  have HP0 := Lib.hid (p1_zero B pr w0)
  have n1 : ¬ (pr : Int) < 0 := by omega
  have n2 : ¬ (24 : Int) < (pr : Int) := by omega
  have n3 : ¬ (400 : Int) < (W.length : Int) := by omega
  have g0 : w0.cell? ⟨w.heap.size, 0, none⟩ = some (.int .i64 (pr : Int)) := cell_of_row w0 _ 0 _ _ _ h0
  have g1 : w0.cell? ⟨w.heap.size, 1, none⟩ = some (.slice wa W.length wc) := cell_of_row w0 _ 1 _ _ _ h0
  clear h0 b0 z0 hB
  go_wp2_with fail
  clear g0 g1 n1 n2 n3
  go_loopw [5, 6, 7] (fun vl vm i wr => ∃ (k : Nat) (gs : List Nat), k ≤ pr ∧ i = .int .i64 (k : Int) ∧ P1 B wr pr k vl vm gs ∧ Below B w0 wr) (fun _ _ i _ => pr - (intOf i).toNat)
  case atStart => exact ⟨0, [], Nat.zero_le _, rfl, HP0.out, Below.refl _ _⟩
  case round =>
    clear HP0
    obtain ⟨k, gs, hk, rfl, hp, hb⟩ := hrel
    rename World => wr
    obtain ⟨al, cl, el⟩ := own_form hp.lin
    obtain ⟨am, cm, em⟩ := own_form hp.tab
    subst el em
    have HP := Lib.hid hp
    have HB := Lib.hid hb
    have hr0 := (hb.block _ hwB).trans H0.out
    have HR0 := Lib.hid hr0
    have hzr : B ≤ wr.heap.size := Nat.le_trans hz0 hb.size
    have g0 : wr.cell? ⟨w.heap.size, 0, none⟩ = some (.int .i64 (pr : Int)) := cell_of_row wr _ 0 _ _ _ hr0
    clear hp hb hr0
    by_cases hkn : k < pr
    · have kk1 : (k : Int) < (pr : Int) := by omega
      have hmk := fun W => mk_full pr (by omega) W
      obtain ⟨L, hL⟩ : ∃ L : List Int, L = (List.range k).map fun (i : Nat) => (i : Int) := ⟨_, rfl⟩
      have hLl : L.length = k := by rw [hL]; simp
      have HL1 := Lib.hid (show wr.ownsRow B 3 1 (.slice al k cl) L.length (L.map (Value.int .i64)) by rw [hLl, hL]; exact HP.out.lin)
      have hL5 : L.length < 100000 := by omega
      have HLL := Lib.hid hL
      have HL2 := Lib.hid hLl
      clear hL hLl
      go_upto_region 9 with (at_builtin; refine app_l B _ L (k : Int) rfl _ _ rfl rfl HL1.out rfl hL5 hzr ?_; intro vl2 w2 hown2 hg2 hloc2)
      rw [HL2.out, HLL.out] at hown2
      obtain ⟨q1, q2, q3, q4, q5⟩ := p1_line HP.out hown2 hg2 hloc2
      obtain ⟨al2, cl2, el2⟩ := own_form q1
      subst el2
      have hb2 : Below B w0 w2 := Below.grown (HB.out.alloc hzr _) hg2 (by simp; omega) fun k e => (HP.out.lin.lt k e).1
      have hzr2 : B ≤ w2.heap.size := Nat.le_trans hz0 hb2.size
      have hr2 := (hb2.block _ hwB).trans H0.out
      have g2 : w2.cell? ⟨w.heap.size, 0, none⟩ = some (.int .i64 (pr : Int)) := cell_of_row w2 _ 0 _ _ _ hr2
      have HGL := Lib.hid HP.out.len
      have HT3 := Lib.hid (show (w2.alloc (.cells (zrow pr) 3)).ownsRow B 33 1 (.slice am k cm) (gs.map (slv pr)).length (gs.map (slv pr)) by
        rw [List.length_map, HGL.out]
        exact q2.alloc _)
      have hfl : (gs.map (slv pr)).length < 100000 := by rw [List.length_map, HGL.out]; omega
      have hz3 : B ≤ (w2.alloc (.cells (zrow pr) 3)).heap.size := by simp; omega
      have HQ1 := Lib.hid q1
      have HQ2 := Lib.hid q2
      have HQ3 := Lib.hid q3
      have HQ4 := Lib.hid q4
      have HB2 := Lib.hid hb2
      have HND := Lib.hid HP.out.nd
      have HGR := Lib.hid (show (gs.map (slv pr)).length = k by rw [List.length_map, HGL.out])
      clear q1 q2 q3 q4 q5 hb2 hr2 hown2 hg2 hloc2 g0 HR0
      go_upto_region 7 with (at_builtin; refine app_m B _ (gs.map (slv pr)) (slv pr w2.heap.size) rfl _ _ rfl rfl HT3.out rfl (w2.heap.size + 1) (by simp) rfl hfl hz3 ?_; intro vm2 w5 hown5 hg5)
      rw [HGR.out] at hown5
      obtain ⟨hp5, hz5⟩ := p1_row hzr2 HQ1.out HQ2.out HGL.out HND.out HQ3.out HQ4.out hown5 hg5
      have HP5 := Lib.hid hp5
      have HB5 := Lib.hid (show Below B w0 w5 from Below.grown ((HB2.out.alloc hzr2 (.cells (zrow pr) 3)).alloc hz3 (.cells #[slv pr w2.heap.size] 33)) hg5 (by simp; omega) fun k e => (HQ2.out.lt k e).1)
      clear hown5 hg5 hp5 hmk g2
      go_wp2_with fail
      go_roundw
      case rel => exact ⟨k + 1, _, hkn, by go_num, HP5.out, HB5.out⟩
      case measure => (simp [intOf] <;> omega)
    · have kk1 : ¬ (k : Int) < (pr : Int) := by omega
      have e : k = pr := by omega
      subst e
      obtain ⟨lb, hlb⟩ : ∃ lb, al = some ⟨lb, 0, none⟩ := by
        rcases HP.out.lin.2 with ⟨e, h0⟩ | ⟨g, cap, cur, e, _⟩
        · omega
        · cases e; exact ⟨g, rfl⟩
      obtain ⟨mb, hmb⟩ : ∃ mb, am = some ⟨mb, 0, none⟩ := by
        rcases HP.out.tab.2 with ⟨e, h0⟩ | ⟨g, cap, cur, e, _⟩
        · omega
        · cases e; exact ⟨g, rfl⟩
      subst hlb hmb
      have HP2 := Lib.hid (p2_of HP.out)
      have HWB := Lib.hid (HB0.out.trans (HB.out.mono (Nat.le_of_lt hwB)))
      have hzw : w.heap.size < wr.heap.size := by omega
      have HRR := Lib.hid (show runP (idL k, []) (W.take 0) = (idL k, []) by rw [List.take_zero]; rfl)
      clear HP hkn hk
      go_wp2_with fail
      clear g0
      go_loopw [8] (fun i wx => ∃ m : Nat, m ≤ W.length ∧ i = .int .i64 (m : Int) ∧ P2 B wx k lb mb gs (runP (idL k, []) (W.take m)).1 (runP (idL k, []) (W.take m)).2 ∧ (runP (idL k, []) (W.take m)).2.length ≤ 2 * m ∧ Below B w0 wx) (fun i _ => W.length - (intOf i).toNat)
      case atStart => exact ⟨0, Nat.zero_le _, rfl, by rw [HRR.out]; exact HP2.out, by rw [HRR.out]; simp, HB.out⟩
      case round =>
        clear HP2 HRR HB HR0
        obtain ⟨m, hm, rfl, hp, hlg, hb⟩ := hrel
        rename World => wx
        have HP := Lib.hid hp
        have HB := Lib.hid hb
        have hx0 := (hb.block _ hwB).trans H0.out
        have HX0 := Lib.hid hx0
        have hwx : Below w.heap.size w wx := HB0.out.trans (hb.mono (Nat.le_of_lt hwB))
        have HWX := Lib.hid hwx
        have g0 : wx.cell? ⟨w.heap.size, 0, none⟩ = some (.int .i64 (k : Int)) := cell_of_row wx _ 0 _ _ _ hx0
        have g1 : wx.cell? ⟨w.heap.size, 1, none⟩ = some (.slice wa W.length wc) := cell_of_row wx _ 1 _ _ _ hx0
        clear hp hb hx0
        by_cases hml : m < W.length
        · have m1 : (m : Int) < (W.length : Int) := by omega
          have m0 : (0 : Int) ≤ (m : Int) := by omega
          obtain ⟨x, hx⟩ : ∃ x, W[m]? = some x := ⟨_, List.getElem?_eq_getElem hml⟩
          obtain ⟨⟨hx1, hx2⟩, hx3, hx4⟩ := HOK.out x (List.mem_of_getElem? hx)
          obtain ⟨wb', wo, rfl, hwb, hrg⟩ := HW.out m x hx
          have hrg2 : wx.rangeAt wb' (wo + m * 3) [.int .i64 1, .int .i64 x.pl, .string x.wd] := fun j v hj => (hwx.cell (p := ⟨wb', wo + m * 3 + j, none⟩) hwb).trans (hrg j v hj)
          have HNX := Lib.hid (show runP (idL k, []) (W.take (m + 1)) = stepP (runP (idL k, []) (W.take m)) x by rw [List.take_add_one, hx, runP_app]; rfl)
          generalize runP (idL k, []) (W.take m) = st at *
          obtain ⟨l, lg⟩ := st
          simp only at HP hlg
          have HX4 := Lib.hid hx4
          clear hwx hrg hx
          go_upto_region 14 with (refine wpList_load_mid rfl 51 (.tmp 54) rfl wb' (wo + m * 3) rfl [.int .i64 1, .int .i64 x.pl, .string x.wd] _ hrg2 Try.underlying51 rfl (by kernel_rfl) ?_)
          have hbx := heap_alloc_new wx (.cells #[.int .i64 1, .int .i64 x.pl, .string x.wd] 51)
          have hbb := below_alloc wx (.cells #[.int .i64 1, .int .i64 x.pl, .string x.wd] 51)
          obtain ⟨p9, hp9⟩ : ∃ p, p = wx.heap.size := ⟨_, rfl⟩
          have hzz : p9 < (wx.alloc (.cells #[.int .i64 1, .int .i64 x.pl, .string x.wd] 51)).heap.size := by simp; omega
          rw [← hp9] at hbx ⊢
          generalize wx.alloc (.cells #[.int .i64 1, .int .i64 x.pl, .string x.wd] 51) = wy at *
          have HPY := Lib.hid (HP.out.below hbb)
          have HBY := Lib.hid (HB.out.trans (hbb.mono (Nat.le_trans hz0 HB.out.size)))
          have hBx : B ≤ p9 := by rw [hp9]; exact Nat.le_trans hz0 HB.out.size
          have hy0 := (HBY.out.block _ hwB).trans H0.out
          have HSM := Lib.hid (show lb < p9 ∧ mb < p9 ∧ ∀ g ∈ gs, g < p9 by rw [hp9]; exact HP.out.sm)
          have c0 := cell_of_row wy p9 0 _ _ _ hbx
          have c1 := cell_of_row wy p9 1 _ _ _ hbx
          have c2 := cell_of_row wy p9 2 _ _ _ hbx
          simp only [List.getElem?_toArray, List.getElem?_cons_succ, List.getElem?_cons_zero] at c0 c1 c2
          have e0 : wy.cell? ⟨w.heap.size, 0, none⟩ = some (.int .i64 (k : Int)) := cell_of_row wy _ 0 _ _ _ hy0
          have HY9 := Lib.hid hbx
          clear g0 g1 hbb hbx hp9 hy0 hrg2
          obtain ⟨p, hp⟩ : ∃ p : Nat, x.pl = (p : Int) := ⟨x.pl.toNat, by omega⟩
          have HPL := Lib.hid hp
          rw [hp] at c1 hx2
          have n1 : ¬ (p : Int) < 0 := by omega
          have n2 : IntKind.i64.wrap ((k : Int) - 2) = (k : Int) - 2 := IntWalk.i64_in _ (by omega)
          have n3 : ¬ (k : Int) - 2 < (p : Int) := by omega
          have n4 : ¬ (16 : Int) < (x.wd.size : Int) := by omega
          clear hp hx1 hx4
          go_upto_region 16 with fail
          clear n1 n2 n3 n4
          have hkl : l.length = k := HPY.out.len
          by_cases hC : isC x.wd = true
          · have hCe := (isC_iff x.wd).1 hC
            rw [hCe] at c2
            have HST := Lib.hid (show stepP (l, lg) x = (((l.set p (l.getD (p + 1) 0)).set (p + 1) (l.getD p 0)), (l.getD (p + 1) 0, l.getD p 0) :: (l.getD p 0, l.getD (p + 1) 0) :: lg) by unfold stepP; rw [if_pos hC, HPL.out]; rfl)
            obtain ⟨A, hA⟩ : ∃ A, l[p]? = some A := ⟨_, List.getElem?_eq_getElem (by omega)⟩
            obtain ⟨Q, hQ⟩ : ∃ Q, l[p + 1]? = some Q := ⟨_, List.getElem?_eq_getElem (by omega)⟩
            rw [List.getD_eq_getElem?_getD, List.getD_eq_getElem?_getD, hA, hQ, Option.getD_some, Option.getD_some] at HST
            have hAk := HPY.out.rng A (List.mem_of_getElem? hA)
            have hQk := HPY.out.rng Q (List.mem_of_getElem? hQ)
            obtain ⟨dA, _⟩ := HPY.out.lin p A hA
            obtain ⟨dQ, _⟩ := HPY.out.lin (p + 1) Q hQ
            have hlz : lb < wy.heap.size := HPY.out.sm.1
            have hp1 : IntKind.i64.wrap ((p : Int) + 1) = ((p + 1 : Nat) : Int) := (IntWalk.i64_in _ (by omega)).trans (by omega)
            have p0 : (0 : Int) ≤ (p : Int) := by omega
            have pk : (p : Int) < (k : Int) := by omega
            have p10 : (0 : Int) ≤ ((p + 1 : Nat) : Int) := by omega
            have p1k : ((p + 1 : Nat) : Int) < (k : Int) := by omega
            have hct : (sCTC.toList == [67, 84, 67]) = true := by rw [Lib.toList_data]; rfl
            clear hC
            go_upto_region 17 with fail
            clear hCe hct
            refine wp_region_class (fun w' => Below wy.heap.size wy w') 12 (by kernel_rfl) (by kernel_rfl) (Below.refl _ wy).drew ?_
            simp only [List.take_succ_cons, List.take_zero, List.drop_succ_cons, List.drop_zero]
            refine quiet_moveV rfl _ rfl (.slice (some ⟨lb, 0, none⟩) k cl) rfl ?_
            simp only [Act.put, List.setIfInBounds_toArray, List.set_cons_zero, List.set_cons_succ]
            refine quiet_still rfl (.pointer (some ⟨p9, 1, none⟩)) (fun w _ => by go_simp) ?_
            simp only [Act.put, List.setIfInBounds_toArray, List.set_cons_zero, List.set_cons_succ]
            refine quiet_load1 rfl _ _ rfl ⟨p9, 1, none⟩ rfl (.int .i64 (p : Int)) (load_int _ _) (fun _ h => (h.cell (p := ⟨p9, 1, none⟩) hzz).trans c1) ?_
            simp only [Act.put, List.setIfInBounds_toArray, List.set_cons_zero, List.set_cons_succ]
            refine quiet_still rfl (.pointer (some ⟨lb, p, none⟩)) (fun w _ => by go_simp) ?_
            simp only [Act.put, List.setIfInBounds_toArray, List.set_cons_zero, List.set_cons_succ]
            refine quiet_load1 rfl _ _ rfl ⟨lb, p, none⟩ rfl (.int .i64 (A : Int)) (load_int _ _) (fun _ h => (h.cell (p := ⟨lb, p, none⟩) hlz).trans dA) ?_
            simp only [Act.put, List.setIfInBounds_toArray, List.set_cons_zero, List.set_cons_succ]
            refine quiet_moveV rfl _ rfl (.slice (some ⟨lb, 0, none⟩) k cl) rfl ?_
            simp only [Act.put, List.setIfInBounds_toArray, List.set_cons_zero, List.set_cons_succ]
            refine quiet_still rfl (.pointer (some ⟨p9, 1, none⟩)) (fun w _ => by go_simp) ?_
            simp only [Act.put, List.setIfInBounds_toArray, List.set_cons_zero, List.set_cons_succ]
            refine quiet_load1 rfl _ _ rfl ⟨p9, 1, none⟩ rfl (.int .i64 (p : Int)) (load_int _ _) (fun _ h => (h.cell (p := ⟨p9, 1, none⟩) hzz).trans c1) ?_
            simp only [Act.put, List.setIfInBounds_toArray, List.set_cons_zero, List.set_cons_succ]
            refine quiet_still rfl (.int .i64 ((p + 1 : Nat) : Int)) (fun w _ => by go_simp; first | done | exact hp1 | rw [hp1]) ?_
            simp only [Act.put, List.setIfInBounds_toArray, List.set_cons_zero, List.set_cons_succ]
            refine quiet_still rfl (.pointer (some ⟨lb, p + 1, none⟩)) (fun w _ => by go_simp; first | done | exact fun h => absurd (h (by omega)) (by omega)) ?_
            simp only [Act.put, List.setIfInBounds_toArray, List.set_cons_zero, List.set_cons_succ]
            refine quiet_load1 rfl _ _ rfl ⟨lb, p + 1, none⟩ rfl (.int .i64 (Q : Int)) (load_int _ _) (fun _ h => (h.cell (p := ⟨lb, p + 1, none⟩) hlz).trans dQ) ?_
            simp only [Act.put, List.setIfInBounds_toArray, List.set_cons_zero, List.set_cons_succ]
            refine quiet_still rfl (.int .i64 (A : Int)) (fun w _ => by go_simp) ?_
            simp only [Act.put, List.setIfInBounds_toArray, List.set_cons_zero, List.set_cons_succ]
            unfold wpQuiet
            intro wq hb
            have HPQ := Lib.hid (HPY.out.below hb)
            have HBQ := Lib.hid (HBY.out.trans (hb.mono (by have := HBY.out.size; omega)))
            have f1 := (hb.cell (p := ⟨p9, 1, none⟩) hzz).trans c1
            have HZZ := Lib.hid (show p9 < wq.heap.size by have := hb.size; omega)
            clear hb dA dQ c0 c1 c2 e0 hlz HPY HBY HY9
            go_upto_region 18 with fail
            have hPd := HPQ.out.below (Below.refl wq.heap.size wq).drew
            obtain ⟨s1, s2⟩ := hPd.lin p A hA
            have hP1 := hPd.set (p := p) (z := Q) hQk
            have hQ1 : (l.set p Q)[p + 1]? = some Q := by rw [List.getElem?_set, if_neg (by omega)]; exact hQ
            obtain ⟨s4, s5⟩ := hP1.lin (p + 1) Q hQ1
            have hP2 := hP1.set (p := p + 1) (z := A) hAk
            have hlp : lb ≠ p9 := Nat.ne_of_lt HSM.out.1
            have s3 : (wq.drew.setCell ⟨lb, p, none⟩ (.int .i64 (Q : Int))).cell? ⟨p9, 1, none⟩ = some (.int .i64 (p : Int)) := (World.cell?_setCell_other _ _ _ _ (by intro e; injection e with e1; exact hlp e1)).trans (by rw [World.cell?_drew]; exact f1)
            have s6 : ((wq.drew.setCell ⟨lb, p, none⟩ (.int .i64 (Q : Int))).setCell ⟨lb, p + 1, none⟩ (.int .i64 (A : Int))).cell? ⟨p9, 1, none⟩ = some (.int .i64 (p : Int)) := (World.cell?_setCell_other _ _ _ _ (by intro e; injection e with e1; exact hlp e1)).trans s3
            have HPS := Lib.hid hP2
            have HBS := Lib.hid (show Below B w0 ((wq.drew.setCell ⟨lb, p, none⟩ (.int .i64 (Q : Int))).setCell ⟨lb, p + 1, none⟩ (.int .i64 (A : Int))) from (HBQ.out.drew.setCell (p := ⟨lb, p, none⟩) HPQ.out.big.1 _).setCell (p := ⟨lb, p + 1, none⟩) HPQ.out.big.1 _)
            clear hP1 hP2 hPd hQ1
            refine wp_region_held (S := fun w' => w'.cell? ⟨p9, 1, none⟩ = some (.int .i64 (p : Int))) (by kernel_rfl) ?_
            have hS1 : wq.drew.cell? ⟨p9, 1, none⟩ = some (.int .i64 (p : Int)) := by rw [World.cell?_drew]; exact f1
            refine held_takeX (i := 0) rfl (by kernel_rfl) (by kernel_rfl) (by kernel_rfl) (.slice (some ⟨lb, 0, none⟩) k cl) (fun _ _ _ h => h) hS1 rfl (fun w _ => by go_simp) ?_
            simp only [Act.put, List.getElem_toArray, List.getElem_cons_succ, List.getElem_cons_zero, List.setIfInBounds_toArray, List.set_cons_zero, List.set_cons_succ]
            refine held_takeX (i := 1) rfl (by kernel_rfl) (by kernel_rfl) (by kernel_rfl) (.pointer (some ⟨p9, 1, none⟩)) (fun _ _ _ h => h) hS1 rfl (fun w _ => by go_simp) ?_
            simp only [Act.put, List.getElem_toArray, List.getElem_cons_succ, List.getElem_cons_zero, List.setIfInBounds_toArray, List.set_cons_zero, List.set_cons_succ]
            refine held_loadX (i := 2) rfl (by kernel_rfl) (by kernel_rfl) (by kernel_rfl) (.int .i64 (p : Int)) (fun _ _ _ h => h) hS1 rfl _ _ rfl ⟨p9, 1, none⟩ rfl (load_int _ _) (fun _ h => h) ?_
            simp only [Act.put, List.getElem_toArray, List.getElem_cons_succ, List.getElem_cons_zero, List.setIfInBounds_toArray, List.set_cons_zero, List.set_cons_succ]
            refine held_takeX (i := 3) rfl (by kernel_rfl) (by kernel_rfl) (by kernel_rfl) (.slice (some ⟨lb, 0, none⟩) k cl) (fun _ _ _ h => h) hS1 rfl (fun w _ => by go_simp) ?_
            simp only [Act.put, List.getElem_toArray, List.getElem_cons_succ, List.getElem_cons_zero, List.setIfInBounds_toArray, List.set_cons_zero, List.set_cons_succ]
            refine held_takeX (i := 4) rfl (by kernel_rfl) (by kernel_rfl) (by kernel_rfl) (.pointer (some ⟨p9, 1, none⟩)) (fun _ _ _ h => h) hS1 rfl (fun w _ => by go_simp) ?_
            simp only [Act.put, List.getElem_toArray, List.getElem_cons_succ, List.getElem_cons_zero, List.setIfInBounds_toArray, List.set_cons_zero, List.set_cons_succ]
            refine held_loadX (i := 5) rfl (by kernel_rfl) (by kernel_rfl) (by kernel_rfl) (.int .i64 (p : Int)) (fun _ _ _ h => h) hS1 rfl _ _ rfl ⟨p9, 1, none⟩ rfl (load_int _ _) (fun _ h => h) ?_
            simp only [Act.put, List.getElem_toArray, List.getElem_cons_succ, List.getElem_cons_zero, List.setIfInBounds_toArray, List.set_cons_zero, List.set_cons_succ]
            refine held_takeX (i := 6) rfl (by kernel_rfl) (by kernel_rfl) (by kernel_rfl) (.int .i64 ((p + 1 : Nat) : Int)) (fun _ _ _ h => h) hS1 rfl (fun w _ => by go_simp; first | done | exact hp1 | rw [hp1]) ?_
            simp only [Act.put, List.getElem_toArray, List.getElem_cons_succ, List.getElem_cons_zero, List.setIfInBounds_toArray, List.set_cons_zero, List.set_cons_succ]
            refine held_takeX (i := 7) rfl (by kernel_rfl) (by kernel_rfl) (by kernel_rfl) (.int .i64 (Q : Int)) (fun _ _ _ h => h) hS1 rfl (fun w _ => by go_simp) ?_
            simp only [Act.put, List.getElem_toArray, List.getElem_cons_succ, List.getElem_cons_zero, List.setIfInBounds_toArray, List.set_cons_zero, List.set_cons_succ]
            refine held_takeX (i := 8) rfl (by kernel_rfl) (by kernel_rfl) (by kernel_rfl) (.int .i64 (A : Int)) (fun _ _ _ h => h) hS1 rfl (fun w _ => by go_simp) ?_
            simp only [Act.put, List.getElem_toArray, List.getElem_cons_succ, List.getElem_cons_zero, List.setIfInBounds_toArray, List.set_cons_zero, List.set_cons_succ]
            refine held_takeX (i := 9) rfl (by kernel_rfl) (by kernel_rfl) (by kernel_rfl) (.pointer (some ⟨lb, p, none⟩)) (fun _ _ _ h => h) hS1 rfl (fun w _ => by go_simp) ?_
            simp only [Act.put, List.getElem_toArray, List.getElem_cons_succ, List.getElem_cons_zero, List.setIfInBounds_toArray, List.set_cons_zero, List.set_cons_succ]
            refine held_storeX (i := 10) (by kernel_rfl) rfl rfl _ _ _ rfl ⟨lb, p, none⟩ (.int .i64 (Q : Int)) rfl rfl (store_i9 _ _ _ _ s1 s2) s3 ?_
            simp only [Act.put, List.getElem_toArray, List.getElem_cons_succ, List.getElem_cons_zero, List.setIfInBounds_toArray, List.set_cons_zero, List.set_cons_succ]
            refine held_takeX (i := 11) rfl (by kernel_rfl) (by kernel_rfl) (by kernel_rfl) (.pointer (some ⟨lb, p + 1, none⟩)) (fun _ _ _ h => h) s3 rfl (fun w _ => by go_simp; first | done | exact fun h => absurd (h (by omega)) (by omega)) ?_
            simp only [Act.put, List.getElem_toArray, List.getElem_cons_succ, List.getElem_cons_zero, List.setIfInBounds_toArray, List.set_cons_zero, List.set_cons_succ]
            refine held_storeX (i := 12) (by kernel_rfl) rfl rfl _ _ _ rfl ⟨lb, p + 1, none⟩ (.int .i64 (A : Int)) rfl rfl (store_i9 _ _ _ _ s4 s5) s6 ?_
            simp only [Act.put, List.getElem_toArray, List.getElem_cons_succ, List.getElem_cons_zero, List.setIfInBounds_toArray, List.set_cons_zero, List.set_cons_succ]
            refine wpAnyH_done (by kernel_rfl) ?_ _
            clear s1 s2 s3 s4 s5 s6 hS1 f1
            have e8 : ({ heap := wq.heap, tape := wq.tape, drawn := wq.drawn + 1, os := wq.os, output := wq.output } : World) = wq.drew := rfl
            rw [e8]
            clear e8
            generalize (wq.drew.setCell ⟨lb, p, none⟩ (.int .i64 (Q : Int))).setCell ⟨lb, p + 1, none⟩ (.int .i64 (A : Int)) = ws at *
            obtain ⟨gA, hgA⟩ : ∃ g, gs[A]? = some g := ⟨_, List.getElem?_eq_getElem (by rw [HPS.out.gl]; exact hAk)⟩
            obtain ⟨gQ, hgQ⟩ : ∃ g, gs[Q]? = some g := ⟨_, List.getElem?_eq_getElem (by rw [HPS.out.gl]; exact hQk)⟩
            have t1 := HPS.out.tab A gA hgA
            obtain ⟨t2, t3⟩ := HPS.out.row A gA hgA Q hQk
            have HI1 := HPS.out.inc hgA hQk
            have hm1 := metN_le lg A Q
            have a1 : IntKind.i64.wrap ((metN lg A Q : Int) + 1) = (metN lg A Q : Int) + 1 := IntWalk.i64_in _ (by omega)
            have A0 : (0 : Int) ≤ (A : Int) := by omega
            have Q0 : (0 : Int) ≤ (Q : Int) := by omega
            have Ak : (A : Int) < (k : Int) := by omega
            have Qk : (Q : Int) < (k : Int) := by omega
            have HPI := Lib.hid HI1
            have HBI := Lib.hid (HBS.out.setCell (p := ⟨gA, Q, none⟩) (HPS.out.big.2.2 gA (List.mem_of_getElem? hgA)) (.int .i64 ((metN lg A Q : Int) + 1)))
            have HGA := Lib.hid hgA
            have HGQ := Lib.hid hgQ
            clear HI1 hm1 hgA hgQ hA hQ
            generalize metN lg A Q = mv at *
            go_upto_region 20 with fail
            clear t1 t2 t3 a1
            generalize ws.setCell ⟨gA, Q, none⟩ (.int .i64 ((mv : Int) + 1)) = wt at *
            have t1 := HPI.out.tab Q gQ HGQ.out
            obtain ⟨t2, t3⟩ := HPI.out.row Q gQ HGQ.out A hAk
            have hm1 := metN_le ((A, Q) :: lg) Q A
            have a1 : IntKind.i64.wrap ((metN ((A, Q) :: lg) Q A : Int) + 1) = (metN ((A, Q) :: lg) Q A : Int) + 1 := IntWalk.i64_in _ (by simp only [List.length_cons] at hm1; omega)
            have HPJ := Lib.hid (HPI.out.inc HGQ.out hAk)
            have HBJ := Lib.hid (HBI.out.setCell (p := ⟨gQ, A, none⟩) (HPI.out.big.2.2 gQ (List.mem_of_getElem? HGQ.out)) (.int .i64 ((metN ((A, Q) :: lg) Q A : Int) + 1)))
            have HLG := Lib.hid (show ((Q, A) :: (A, Q) :: lg).length ≤ 2 * (m + 1) by simp only [List.length_cons]; omega)
            clear hm1
            generalize metN ((A, Q) :: lg) Q A = mv2 at *
            go_wp2_with fail
            go_roundw
            case rel => exact ⟨m + 1, hml, by go_num, by rw [HNX.out, HST.out]; exact HPJ.out, by rw [HNX.out, HST.out]; exact HLG.out, HBJ.out⟩
            case measure => (simp [intOf] <;> omega)
          · have hC' : isC x.wd = false := by simpa using hC
            have HST := Lib.hid (show stepP (l, lg) x = (l, lg) by unfold stepP; rw [if_neg hC])
            have HLT := Lib.hid (show ∀ c ∈ wb x.wd, c = 84 ∨ c = 76 ∨ c = 82 ∨ c = 80 from HX4.out.resolve_left hC)
            have hne : (x.wd.toList == [67, 84, 67]) = false := by rw [Lib.toList_data]; exact hC'
            clear hC hC'
            go_wp2_with fail
            go_loopw [12, 13] (fun j _ wz => ∃ q : Nat, q ≤ x.wd.size ∧ j = .int .i64 (q : Int) ∧ wz = wy) (fun j _ _ => x.wd.size - (intOf j).toNat)
            case atStart => exact ⟨0, Nat.zero_le _, rfl, rfl⟩
            case round =>
              obtain ⟨q, hq, rfl, hwz⟩ := hrel
              rename World => wz
              subst hwz
              by_cases hqs : q < x.wd.size
              · have q0 : (0 : Int) ≤ (q : Int) := by omega
                have q1 : (q : Int) < (x.wd.size : Int) := by omega
                have hbv : x.wd[q] = 84 ∨ x.wd[q] = 76 ∨ x.wd[q] = 82 ∨ x.wd[q] = 80 := HLT.out _ (by unfold wb; exact List.mem_iff_getElem.2 ⟨q, by simpa using hqs, rfl⟩)
                rcases hbv with h | h | h | h
                all_goals
                  have hv : (x.wd[q].toNat : Int) = _ := congrArg (fun c : UInt8 => (c.toNat : Int)) h
                  simp only [UInt8.toNat_ofNat] at hv
                  clear h
                  go_wp2_with fail
                  go_roundw
                  case rel => exact ⟨q + 1, hqs, by go_num, trivial⟩
                  case measure => (simp [intOf] <;> omega)
              · have q1 : ¬ (q : Int) < (x.wd.size : Int) := by omega
                have HLG := Lib.hid (show lg.length ≤ 2 * (m + 1) by omega)
                go_wp2_with fail
                go_roundw
                case rel => exact ⟨m + 1, hml, by go_num, by rw [HNX.out, HST.out]; exact HPY.out, by rw [HNX.out, HST.out]; exact HLG.out, HBY.out⟩
                case measure => (simp [intOf] <;> omega)
        · have m1 : ¬ (m : Int) < (W.length : Int) := by omega
          have e : m = W.length := by omega
          subst e
          rw [List.take_length] at HP
          have HFIN := Lib.hid (show P2 w.heap.size wx k lb mb gs (runP (idL k, []) W).1 (runP (idL k, []) W).2 from ⟨HP.out.len, HP.out.rng, HP.out.lin, HP.out.tab, HP.out.row, HP.out.gl, HP.out.nd, HP.out.ln, HP.out.mn, HP.out.lm, ⟨by have := HP.out.big.1; omega, by have := HP.out.big.2.1; omega, fun g hg => by have := HP.out.big.2.2 g hg; omega⟩, HP.out.sm⟩)
          go_wp2_with fail
          go_ret3
          exact ⟨_, _, rfl, ⟨lb, cl, mb, cm, gs, rfl, rfl, HFIN.out⟩, HWX.out⟩
end Go.Proofs.Ytgbdccoimmkmeaa
