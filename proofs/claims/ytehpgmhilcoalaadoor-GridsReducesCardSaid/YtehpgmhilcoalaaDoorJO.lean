/- Reduce of the reference. -/
import Derived.Test.YtehpgmhilcoalaaDoorJL
import Derived.Test.YtehpgmhilcoalaaDoorIB
namespace Go.Proofs.YtehpgmhilcoalaaDoor
open Go.RowKit Go.Lib
set_option linter.unusedSimpArgs false
set_option linter.unusedVariables false
section
variable {P : Program} {ops : Array Oper} {Q : Exit → Act → World → Prop} {a : Act} {w : World} {K : Act → World → Prop}
theorem op_row {i : Nat} {o : Oper} (hi : ops[i]? = some o) (hgd : o.guard = none) (ty : TypeId) (x y : Operand) (ho : o.op = .store ty x y)
    (g : Nat) (cells : Array Value) (hx : a.eval x = .pointer (some ⟨g, 0, none⟩)) (hy : a.eval y = .agg cells)
    (t : TypeId) (old : Array Value) (hg : w.heap[g]? = some (.cells old t (0, 0))) (hsz : (P.info? ty).map (·.size) = some cells.size)
    (hold : old.size = cells.size) (h1 : cells.all (·.oneCell') = true)
    (h : ∀ w', w'.heap[g]? = some (.cells cells t (0, 0)) → (∀ (k : Nat) (ob : Option Obj), w.heap[k]? = ob → k ≠ g → w'.heap[k]? = ob) → w'.heap.size = w.heap.size → (∀ B w0, Below B w0 w → B ≤ g → Below B w0 w') → K (a.put o.dst undef) w') :
    wpOp P ops Q i K a w := by
  have hw : Region.wanted o (yielded ops a.tmps) = true := by simp [Region.wanted, hgd]
  unfold wpOp
  simp only [hi]
  rw [if_pos hw]
  refine .inl ?_
  unfold Oper.wp execOp
  simp only [ho, hx, hy, Instr.storeAt, Instr.sureAddr, Sem.run_bind, Sem.run_pure, Result.andThen_ok, run_storeVar_row w g t ty old cells hg hsz hold h1]
  simp only [Oper.upon]
  refine h _ ?_ ?_ ?_ ?_
  · unfold World.setRow
    simp only [Array.getElem?_modify, if_pos, hg, Option.map_some]
  · intro k ob hk hne
    rw [← hk]
    unfold World.setRow
    simp only [Array.getElem?_modify, if_neg (Ne.symm hne)]
  · simp [World.setRow]
  · exact fun B w0 hb hB => below_setRow hb hB _
theorem op_load {i : Nat} {o : Oper} (hi : ops[i]? = some o) (hgd : o.guard = none) (ty : TypeId) (x : Operand) (ho : o.op = .load ty x) (b off : Nat) (hx : a.eval x = .pointer (some ⟨b, off, none⟩)) (cs : List Value) (dd : TypeDesc)
    (hR : w.rangeAt b off cs) (hu : P.underlying ty = some dd) (hd : dd.isRow = true) (hsz : (P.info? ty).map (·.size) = some cs.length) (h : K (a.put o.dst (.agg cs.toArray)) w) : wpOp P ops Q i K a w := by
  have hw : Region.wanted o (yielded ops a.tmps) = true := by simp [Region.wanted, hgd]
  unfold wpOp
  simp only [hi]
  rw [if_pos hw]
  refine .inl ?_
  unfold Oper.wp execOp
  simp only [ho, hx, Sem.run_bind, run_loadAt_mid w b off ty cs dd hR hu hd hsz, Result.andThen_ok, Sem.run_pure]
  simp only [Oper.upon]
  exact h
end
set_option maxHeartbeats 2000000 in
set_option maxRecDepth 100000 in
theorem rReduce_bad (l : Lat) (hl : okL l = false) (w : World) : Calls Tryd.prog 38 #[l.val] w fun e w' => e = .returned (.tuple #[Lat.val ⟨0, 0, 0⟩, Mat.val ⟨0, 0, 0, 0⟩, .int .i64 2]) ∧ Below w.heap.size w w' := by
  have C1 := fun W => rCheck_any l W
  rw [show errIf (okL l) = 2 by rw [hl]; rfl] at C1
  unfold Lat.val Mat.val at *
  have H1 := Lib.hid C1
  clear C1 hl
  go_enter Tryd.func38, Tryd.ntmps38
  go_wp2_with fail
  refine (H1.out _).mono ?_
  rintro e w1 ⟨rfl, hb⟩
  have h0 : w1.heap[w.heap.size]? = some (.cells #[.int .i64 l.a, .int .i64 l.b, .int .i64 l.c] 23 (0, 0)) := hb_below hb (by repeat (first | (refine hb_new ?_; (first | omega | (simp; omega) | (simp; done))) | (refine hb_old ?_ ?_; rotate_left; focus (first | omega | (simp; omega) | (simp; done))) | refine hb_drew ?_)) (by first | omega | (simp; omega) | (simp; done))
  have h1 : w1.heap[w.heap.size + 1]? = some (.cells #[.int .i64 0, .int .i64 0, .int .i64 0] 23 (0, 0)) := hb_below hb (by repeat (first | (refine hb_new ?_; (first | omega | (simp; omega) | (simp; done))) | (refine hb_old ?_ ?_; rotate_left; focus (first | omega | (simp; omega) | (simp; done))) | refine hb_drew ?_)) (by first | omega | (simp; omega) | (simp; done))
  have h2 : w1.heap[w.heap.size + 1 + 1]? = some (.cells #[.int .i64 0, .int .i64 0, .int .i64 0, .int .i64 0] 40 (0, 0)) := hb_below hb (by repeat (first | (refine hb_new ?_; (first | omega | (simp; omega) | (simp; done))) | (refine hb_old ?_ ?_; rotate_left; focus (first | omega | (simp; omega) | (simp; done))) | refine hb_drew ?_)) (by first | omega | (simp; omega) | (simp; done))
  have y1 := Below.size hb
  try simp only [World.size_alloc, World.size_drew] at y1
  have D1 := Lib.hid (show Below w.heap.size w w1 from Below.trans (by repeat (first | exact Below.refl _ _ | refine Below.alloc ?_ (by first | omega | (simp; omega) | (simp; done)) _)) (Below.mono hb (by first | omega | (simp; omega) | (simp; done))))
  have z1 := D1.out.size
  clear hb
  try clear c0_0 f0_0 c0_1 f0_1 c0_2 f0_2
  obtain ⟨c0_0, f0_0, c0_1, f0_1, c0_2, f0_2⟩ := cells3 h0
  try clear c1_0 f1_0 c1_1 f1_1 c1_2 f1_2
  obtain ⟨c1_0, f1_0, c1_1, f1_1, c1_2, f1_2⟩ := cells3 h1
  try clear c2_0 f2_0 c2_1 f2_1 c2_2 f2_2 c2_3 f2_3
  obtain ⟨c2_0, f2_0, c2_1, f2_1, c2_2, f2_2, c2_3, f2_3⟩ := cells4 h2
  go_wp2_with fail
  have q1 := (Below.heap_setCell w1 ⟨w.heap.size + 1, 0, none⟩ (.int .i64 0) (w.heap.size) (by first | omega | assumption | (apply Ne.symm; assumption) | (simp; done) | (simp; omega))).trans h0
  have q2 := heap_setCell_same w1 (w.heap.size + 1) 0 _ _ (.int .i64 0) h1
  have q3 := (Below.heap_setCell w1 ⟨w.heap.size + 1, 0, none⟩ (.int .i64 0) (w.heap.size + 1 + 1) (by first | omega | assumption | (apply Ne.symm; assumption) | (simp; done) | (simp; omega))).trans h2
  have q4 := (Below.heap_setCell (w1.setCell ⟨w.heap.size + 1, 0, none⟩ (.int .i64 0)) ⟨w.heap.size + 1, 1, none⟩ (.int .i64 0) (w.heap.size) (by first | omega | assumption | (apply Ne.symm; assumption) | (simp; done) | (simp; omega))).trans q1
  have q5 := heap_setCell_same (w1.setCell ⟨w.heap.size + 1, 0, none⟩ (.int .i64 0)) (w.heap.size + 1) 1 _ _ (.int .i64 0) q2
  have q6 := (Below.heap_setCell (w1.setCell ⟨w.heap.size + 1, 0, none⟩ (.int .i64 0)) ⟨w.heap.size + 1, 1, none⟩ (.int .i64 0) (w.heap.size + 1 + 1) (by first | omega | assumption | (apply Ne.symm; assumption) | (simp; done) | (simp; omega))).trans q3
  have q7 := (Below.heap_setCell ((w1.setCell ⟨w.heap.size + 1, 0, none⟩ (.int .i64 0)).setCell ⟨w.heap.size + 1, 1, none⟩ (.int .i64 0)) ⟨w.heap.size + 1, 2, none⟩ (.int .i64 0) (w.heap.size) (by first | omega | assumption | (apply Ne.symm; assumption) | (simp; done) | (simp; omega))).trans q4
  have q8 := heap_setCell_same ((w1.setCell ⟨w.heap.size + 1, 0, none⟩ (.int .i64 0)).setCell ⟨w.heap.size + 1, 1, none⟩ (.int .i64 0)) (w.heap.size + 1) 2 _ _ (.int .i64 0) q5
  have q9 := (Below.heap_setCell ((w1.setCell ⟨w.heap.size + 1, 0, none⟩ (.int .i64 0)).setCell ⟨w.heap.size + 1, 1, none⟩ (.int .i64 0)) ⟨w.heap.size + 1, 2, none⟩ (.int .i64 0) (w.heap.size + 1 + 1) (by first | omega | assumption | (apply Ne.symm; assumption) | (simp; done) | (simp; omega))).trans q6
  have q10 := (Below.heap_setCell (((w1.setCell ⟨w.heap.size + 1, 0, none⟩ (.int .i64 0)).setCell ⟨w.heap.size + 1, 1, none⟩ (.int .i64 0)).setCell ⟨w.heap.size + 1, 2, none⟩ (.int .i64 0)) ⟨w.heap.size + 1 + 1, 0, none⟩ (.int .i64 0) (w.heap.size) (by first | omega | assumption | (apply Ne.symm; assumption) | (simp; done) | (simp; omega))).trans q7
  have q11 := (Below.heap_setCell (((w1.setCell ⟨w.heap.size + 1, 0, none⟩ (.int .i64 0)).setCell ⟨w.heap.size + 1, 1, none⟩ (.int .i64 0)).setCell ⟨w.heap.size + 1, 2, none⟩ (.int .i64 0)) ⟨w.heap.size + 1 + 1, 0, none⟩ (.int .i64 0) (w.heap.size + 1) (by first | omega | assumption | (apply Ne.symm; assumption) | (simp; done) | (simp; omega))).trans q8
  have q12 := heap_setCell_same (((w1.setCell ⟨w.heap.size + 1, 0, none⟩ (.int .i64 0)).setCell ⟨w.heap.size + 1, 1, none⟩ (.int .i64 0)).setCell ⟨w.heap.size + 1, 2, none⟩ (.int .i64 0)) (w.heap.size + 1 + 1) 0 _ _ (.int .i64 0) q9
  have q13 := (Below.heap_setCell ((((w1.setCell ⟨w.heap.size + 1, 0, none⟩ (.int .i64 0)).setCell ⟨w.heap.size + 1, 1, none⟩ (.int .i64 0)).setCell ⟨w.heap.size + 1, 2, none⟩ (.int .i64 0)).setCell ⟨w.heap.size + 1 + 1, 0, none⟩ (.int .i64 0)) ⟨w.heap.size + 1 + 1, 1, none⟩ (.int .i64 0) (w.heap.size) (by first | omega | assumption | (apply Ne.symm; assumption) | (simp; done) | (simp; omega))).trans q10
  have q14 := (Below.heap_setCell ((((w1.setCell ⟨w.heap.size + 1, 0, none⟩ (.int .i64 0)).setCell ⟨w.heap.size + 1, 1, none⟩ (.int .i64 0)).setCell ⟨w.heap.size + 1, 2, none⟩ (.int .i64 0)).setCell ⟨w.heap.size + 1 + 1, 0, none⟩ (.int .i64 0)) ⟨w.heap.size + 1 + 1, 1, none⟩ (.int .i64 0) (w.heap.size + 1) (by first | omega | assumption | (apply Ne.symm; assumption) | (simp; done) | (simp; omega))).trans q11
  have q15 := heap_setCell_same ((((w1.setCell ⟨w.heap.size + 1, 0, none⟩ (.int .i64 0)).setCell ⟨w.heap.size + 1, 1, none⟩ (.int .i64 0)).setCell ⟨w.heap.size + 1, 2, none⟩ (.int .i64 0)).setCell ⟨w.heap.size + 1 + 1, 0, none⟩ (.int .i64 0)) (w.heap.size + 1 + 1) 1 _ _ (.int .i64 0) q12
  have q16 := (Below.heap_setCell (((((w1.setCell ⟨w.heap.size + 1, 0, none⟩ (.int .i64 0)).setCell ⟨w.heap.size + 1, 1, none⟩ (.int .i64 0)).setCell ⟨w.heap.size + 1, 2, none⟩ (.int .i64 0)).setCell ⟨w.heap.size + 1 + 1, 0, none⟩ (.int .i64 0)).setCell ⟨w.heap.size + 1 + 1, 1, none⟩ (.int .i64 0)) ⟨w.heap.size + 1 + 1, 2, none⟩ (.int .i64 0) (w.heap.size) (by first | omega | assumption | (apply Ne.symm; assumption) | (simp; done) | (simp; omega))).trans q13
  have q17 := (Below.heap_setCell (((((w1.setCell ⟨w.heap.size + 1, 0, none⟩ (.int .i64 0)).setCell ⟨w.heap.size + 1, 1, none⟩ (.int .i64 0)).setCell ⟨w.heap.size + 1, 2, none⟩ (.int .i64 0)).setCell ⟨w.heap.size + 1 + 1, 0, none⟩ (.int .i64 0)).setCell ⟨w.heap.size + 1 + 1, 1, none⟩ (.int .i64 0)) ⟨w.heap.size + 1 + 1, 2, none⟩ (.int .i64 0) (w.heap.size + 1) (by first | omega | assumption | (apply Ne.symm; assumption) | (simp; done) | (simp; omega))).trans q14
  have q18 := heap_setCell_same (((((w1.setCell ⟨w.heap.size + 1, 0, none⟩ (.int .i64 0)).setCell ⟨w.heap.size + 1, 1, none⟩ (.int .i64 0)).setCell ⟨w.heap.size + 1, 2, none⟩ (.int .i64 0)).setCell ⟨w.heap.size + 1 + 1, 0, none⟩ (.int .i64 0)).setCell ⟨w.heap.size + 1 + 1, 1, none⟩ (.int .i64 0)) (w.heap.size + 1 + 1) 2 _ _ (.int .i64 0) q15
  have q19 := (Below.heap_setCell ((((((w1.setCell ⟨w.heap.size + 1, 0, none⟩ (.int .i64 0)).setCell ⟨w.heap.size + 1, 1, none⟩ (.int .i64 0)).setCell ⟨w.heap.size + 1, 2, none⟩ (.int .i64 0)).setCell ⟨w.heap.size + 1 + 1, 0, none⟩ (.int .i64 0)).setCell ⟨w.heap.size + 1 + 1, 1, none⟩ (.int .i64 0)).setCell ⟨w.heap.size + 1 + 1, 2, none⟩ (.int .i64 0)) ⟨w.heap.size + 1 + 1, 3, none⟩ (.int .i64 0) (w.heap.size) (by first | omega | assumption | (apply Ne.symm; assumption) | (simp; done) | (simp; omega))).trans q16
  have q20 := (Below.heap_setCell ((((((w1.setCell ⟨w.heap.size + 1, 0, none⟩ (.int .i64 0)).setCell ⟨w.heap.size + 1, 1, none⟩ (.int .i64 0)).setCell ⟨w.heap.size + 1, 2, none⟩ (.int .i64 0)).setCell ⟨w.heap.size + 1 + 1, 0, none⟩ (.int .i64 0)).setCell ⟨w.heap.size + 1 + 1, 1, none⟩ (.int .i64 0)).setCell ⟨w.heap.size + 1 + 1, 2, none⟩ (.int .i64 0)) ⟨w.heap.size + 1 + 1, 3, none⟩ (.int .i64 0) (w.heap.size + 1) (by first | omega | assumption | (apply Ne.symm; assumption) | (simp; done) | (simp; omega))).trans q17
  have q21 := heap_setCell_same ((((((w1.setCell ⟨w.heap.size + 1, 0, none⟩ (.int .i64 0)).setCell ⟨w.heap.size + 1, 1, none⟩ (.int .i64 0)).setCell ⟨w.heap.size + 1, 2, none⟩ (.int .i64 0)).setCell ⟨w.heap.size + 1 + 1, 0, none⟩ (.int .i64 0)).setCell ⟨w.heap.size + 1 + 1, 1, none⟩ (.int .i64 0)).setCell ⟨w.heap.size + 1 + 1, 2, none⟩ (.int .i64 0)) (w.heap.size + 1 + 1) 3 _ _ (.int .i64 0) q18
  obtain ⟨w2, hw2⟩ : ∃ W, W = (((((((w1.setCell ⟨w.heap.size + 1, 0, none⟩ (.int .i64 0)).setCell ⟨w.heap.size + 1, 1, none⟩ (.int .i64 0)).setCell ⟨w.heap.size + 1, 2, none⟩ (.int .i64 0)).setCell ⟨w.heap.size + 1 + 1, 0, none⟩ (.int .i64 0)).setCell ⟨w.heap.size + 1 + 1, 1, none⟩ (.int .i64 0)).setCell ⟨w.heap.size + 1 + 1, 2, none⟩ (.int .i64 0)).setCell ⟨w.heap.size + 1 + 1, 3, none⟩ (.int .i64 0)) := ⟨_, rfl⟩
  rw [← hw2]
  replace h0 : w2.heap[w.heap.size]? = some (.cells #[.int .i64 l.a, .int .i64 l.b, .int .i64 l.c] 23 (0, 0)) := by rw [hw2]; exact q19
  replace h1 : w2.heap[w.heap.size + 1]? = some (.cells #[.int .i64 0, .int .i64 0, .int .i64 0] 23 (0, 0)) := by rw [hw2]; exact q20
  replace h2 : w2.heap[w.heap.size + 1 + 1]? = some (.cells #[.int .i64 0, .int .i64 0, .int .i64 0, .int .i64 0] 40 (0, 0)) := by rw [hw2]; exact q21
  have D2 := Lib.hid (show Below w.heap.size w w2 by rw [hw2]; exact (Below.setCell (Below.setCell (Below.setCell (Below.setCell (Below.setCell (Below.setCell (Below.setCell D1.out (p := ⟨w.heap.size + 1, 0, none⟩) (by first | omega | (simp; done) | (simp; omega)) (.int .i64 0)) (p := ⟨w.heap.size + 1, 1, none⟩) (by first | omega | (simp; done) | (simp; omega)) (.int .i64 0)) (p := ⟨w.heap.size + 1, 2, none⟩) (by first | omega | (simp; done) | (simp; omega)) (.int .i64 0)) (p := ⟨w.heap.size + 1 + 1, 0, none⟩) (by first | omega | (simp; done) | (simp; omega)) (.int .i64 0)) (p := ⟨w.heap.size + 1 + 1, 1, none⟩) (by first | omega | (simp; done) | (simp; omega)) (.int .i64 0)) (p := ⟨w.heap.size + 1 + 1, 2, none⟩) (by first | omega | (simp; done) | (simp; omega)) (.int .i64 0)) (p := ⟨w.heap.size + 1 + 1, 3, none⟩) (by first | omega | (simp; done) | (simp; omega)) (.int .i64 0)))
  have z2 := D2.out.size
  have y2 : w2.heap.size = w1.heap.size := by rw [hw2]; simp
  clear q21 q20 q19 q18 q17 q16 q15 q14 q13 q12 q11 q10 q9 q8 q7 q6 q5 q4 q3 q2 q1 hw2
  try clear c0_0 f0_0 c0_1 f0_1 c0_2 f0_2
  obtain ⟨c0_0, f0_0, c0_1, f0_1, c0_2, f0_2⟩ := cells3 h0
  try clear c1_0 f1_0 c1_1 f1_1 c1_2 f1_2
  obtain ⟨c1_0, f1_0, c1_1, f1_1, c1_2, f1_2⟩ := cells3 h1
  try clear c2_0 f2_0 c2_1 f2_1 c2_2 f2_2 c2_3 f2_3
  obtain ⟨c2_0, f2_0, c2_1, f2_1, c2_2, f2_2, c2_3, f2_3⟩ := cells4 h2
  refine bodyPost_ret (results_bbt rfl _ _ (w.heap.size + 1) (w.heap.size + 1 + 1) rfl rfl rfl h1 h2 Tryd.underlying23 rfl (by kernel_rfl) Tryd.underlying40 rfl (by kernel_rfl)) rfl ⟨rfl, D2.out⟩
theorem FR.base {B b off : Nat} {w : World} {cap : Nat} {L : List Mat} (h : FR B w (some ⟨b, off, none⟩) cap L) (h0 : 0 < L.length) : B ≤ b := (FR.holds h h0).2.2
theorem range_same {w w' : World} {b off : Nat} {cs : List Value} (h : w.rangeAt b off cs) (hk : w'.heap[b]? = w.heap[b]?) : w'.rangeAt b off cs := by
  intro j v hv
  rw [← h j v hv]
  unfold World.cell?
  simp only [hk]
set_option maxHeartbeats 4000000 in
set_option maxRecDepth 100000 in
theorem rReduce_ok (l L : Lat) (m : Mat) (hl : Ok l) (hR : IsRed l L m) (w : World) : Calls Tryd.prog 38 #[l.val] w fun e w' => e = .returned (.tuple #[L.val, m.val, .int .i64 0]) ∧ Below w.heap.size w w' := by
  have C1 := fun W => rCheck_any l W
  rw [show errIf (okL l) = 0 by rw [(okL_iff l).2 hl]; rfl] at C1
  have C2 : ∀ W, Calls Tryd.prog 80 #[l.val] W fun e w' => e = .returned L.val ∧ Below W.heap.size W w' := fun W => (rReduced_any l hl W).mono fun e w' ⟨x, he, hx, hb⟩ => ⟨by rw [he, ri_end hl hx.1 hx.2 hR], hb⟩
  have C3 := fun W => rLeading_any l L hl hR.2.1 W
  obtain ⟨T, hT⟩ := red_lead hl hR
  rw [hT] at C3
  have hn : (m :: T).length = T.length + 1 := rfl
  rw [hn] at C3
  clear hn hT hR hl
  unfold Lat.val Mat.val at *
  have H1 := Lib.hid C1
  have H2 := Lib.hid C2
  have H3 := Lib.hid C3
  clear C1 C2 C3
  go_enter Tryd.func38, Tryd.ntmps38
  go_wp2_with fail
  refine (H1.out _).mono ?_
  rintro e w1 ⟨rfl, hb⟩
  have h0 : w1.heap[w.heap.size]? = some (.cells #[.int .i64 l.a, .int .i64 l.b, .int .i64 l.c] 23 (0, 0)) := hb_below hb (by repeat (first | (refine hb_new ?_; (first | omega | (simp; omega) | (simp; done))) | (refine hb_old ?_ ?_; rotate_left; focus (first | omega | (simp; omega) | (simp; done))) | refine hb_drew ?_)) (by first | omega | (simp; omega) | (simp; done))
  have h1 : w1.heap[w.heap.size + 1]? = some (.cells #[.int .i64 0, .int .i64 0, .int .i64 0] 23 (0, 0)) := hb_below hb (by repeat (first | (refine hb_new ?_; (first | omega | (simp; omega) | (simp; done))) | (refine hb_old ?_ ?_; rotate_left; focus (first | omega | (simp; omega) | (simp; done))) | refine hb_drew ?_)) (by first | omega | (simp; omega) | (simp; done))
  have h2 : w1.heap[w.heap.size + 1 + 1]? = some (.cells #[.int .i64 0, .int .i64 0, .int .i64 0, .int .i64 0] 40 (0, 0)) := hb_below hb (by repeat (first | (refine hb_new ?_; (first | omega | (simp; omega) | (simp; done))) | (refine hb_old ?_ ?_; rotate_left; focus (first | omega | (simp; omega) | (simp; done))) | refine hb_drew ?_)) (by first | omega | (simp; omega) | (simp; done))
  have y1 := Below.size hb
  try simp only [World.size_alloc, World.size_drew] at y1
  have D1 := Lib.hid (show Below w.heap.size w w1 from Below.trans (by repeat (first | exact Below.refl _ _ | refine Below.alloc ?_ (by first | omega | (simp; omega) | (simp; done)) _)) (Below.mono hb (by first | omega | (simp; omega) | (simp; done))))
  have z1 := D1.out.size
  clear hb
  try clear c0_0 f0_0 c0_1 f0_1 c0_2 f0_2
  obtain ⟨c0_0, f0_0, c0_1, f0_1, c0_2, f0_2⟩ := cells3 h0
  try clear c1_0 f1_0 c1_1 f1_1 c1_2 f1_2
  obtain ⟨c1_0, f1_0, c1_1, f1_1, c1_2, f1_2⟩ := cells3 h1
  try clear c2_0 f2_0 c2_1 f2_1 c2_2 f2_2 c2_3 f2_3
  obtain ⟨c2_0, f2_0, c2_1, f2_1, c2_2, f2_2, c2_3, f2_3⟩ := cells4 h2
  go_wp2_with fail
  refine (H2.out _).mono ?_
  rintro e w2 ⟨rfl, hb⟩
  replace h0 : w2.heap[w.heap.size]? = some (.cells #[.int .i64 l.a, .int .i64 l.b, .int .i64 l.c] 23 (0, 0)) := hb_below hb (by repeat (first | exact h0 | (refine hb_new ?_; (first | omega | (simp; omega) | (simp; done))) | (refine hb_old ?_ ?_; rotate_left; focus (first | omega | (simp; omega) | (simp; done))) | refine hb_drew ?_)) (by first | omega | (simp; omega) | (simp; done))
  replace h1 : w2.heap[w.heap.size + 1]? = some (.cells #[.int .i64 0, .int .i64 0, .int .i64 0] 23 (0, 0)) := hb_below hb (by repeat (first | exact h1 | (refine hb_new ?_; (first | omega | (simp; omega) | (simp; done))) | (refine hb_old ?_ ?_; rotate_left; focus (first | omega | (simp; omega) | (simp; done))) | refine hb_drew ?_)) (by first | omega | (simp; omega) | (simp; done))
  replace h2 : w2.heap[w.heap.size + 1 + 1]? = some (.cells #[.int .i64 0, .int .i64 0, .int .i64 0, .int .i64 0] 40 (0, 0)) := hb_below hb (by repeat (first | exact h2 | (refine hb_new ?_; (first | omega | (simp; omega) | (simp; done))) | (refine hb_old ?_ ?_; rotate_left; focus (first | omega | (simp; omega) | (simp; done))) | refine hb_drew ?_)) (by first | omega | (simp; omega) | (simp; done))
  have y2 := Below.size hb
  try simp only [World.size_alloc, World.size_drew] at y2
  have D2 := Lib.hid (show Below w.heap.size w w2 from Below.trans (by repeat (first | exact D1.out | exact Below.refl _ _ | refine Below.alloc ?_ (by first | omega | (simp; omega) | (simp; done)) _)) (Below.mono hb (by first | omega | (simp; omega) | (simp; done))))
  have z2 := D2.out.size
  clear hb
  try clear c0_0 f0_0 c0_1 f0_1 c0_2 f0_2
  obtain ⟨c0_0, f0_0, c0_1, f0_1, c0_2, f0_2⟩ := cells3 h0
  try clear c1_0 f1_0 c1_1 f1_1 c1_2 f1_2
  obtain ⟨c1_0, f1_0, c1_1, f1_1, c1_2, f1_2⟩ := cells3 h1
  try clear c2_0 f2_0 c2_1 f2_1 c2_2 f2_2 c2_3 f2_3
  obtain ⟨c2_0, f2_0, c2_1, f2_1, c2_2, f2_2, c2_3, f2_3⟩ := cells4 h2
  have ha0 : (w2.alloc (.cells #[.int .i64 L.a, .int .i64 L.b, .int .i64 L.c] 23)).heap[w.heap.size]? = some (.cells #[.int .i64 l.a, .int .i64 l.b, .int .i64 l.c] 23 (0, 0)) := (by repeat (first | exact h0 | (refine hb_new ?_; (first | omega | (simp; omega) | (simp; done))) | (refine hb_old ?_ ?_; rotate_left; focus (first | omega | (simp; omega) | (simp; done))) | refine hb_drew ?_))
  obtain ⟨ca0_0, fa0_0, ca0_1, fa0_1, ca0_2, fa0_2⟩ := cells3 ha0
  go_wp2_with fail
  obtain ⟨w3, hw3⟩ : ∃ W, W = (w2.alloc (.cells #[.int .i64 L.a, .int .i64 L.b, .int .i64 L.c] 23)) := ⟨_, rfl⟩
  rw [← hw3]
  replace h0 : w3.heap[w.heap.size]? = some (.cells #[.int .i64 l.a, .int .i64 l.b, .int .i64 l.c] 23 (0, 0)) := by rw [hw3]; exact (by repeat (first | exact h0 | (refine hb_new ?_; (first | omega | (simp; omega) | (simp; done))) | (refine hb_old ?_ ?_; rotate_left; focus (first | omega | (simp; omega) | (simp; done))) | refine hb_drew ?_))
  replace h1 : w3.heap[w.heap.size + 1]? = some (.cells #[.int .i64 0, .int .i64 0, .int .i64 0] 23 (0, 0)) := by rw [hw3]; exact (by repeat (first | exact h1 | (refine hb_new ?_; (first | omega | (simp; omega) | (simp; done))) | (refine hb_old ?_ ?_; rotate_left; focus (first | omega | (simp; omega) | (simp; done))) | refine hb_drew ?_))
  replace h2 : w3.heap[w.heap.size + 1 + 1]? = some (.cells #[.int .i64 0, .int .i64 0, .int .i64 0, .int .i64 0] 40 (0, 0)) := by rw [hw3]; exact (by repeat (first | exact h2 | (refine hb_new ?_; (first | omega | (simp; omega) | (simp; done))) | (refine hb_old ?_ ?_; rotate_left; focus (first | omega | (simp; omega) | (simp; done))) | refine hb_drew ?_))
  have h3 : w3.heap[w2.heap.size]? = some (.cells #[.int .i64 L.a, .int .i64 L.b, .int .i64 L.c] 23 (0, 0)) := by rw [hw3]; exact (by repeat (first | (refine hb_new ?_; (first | omega | (simp; omega) | (simp; done))) | (refine hb_old ?_ ?_; rotate_left; focus (first | omega | (simp; omega) | (simp; done))) | refine hb_drew ?_))
  have hb : Below w2.heap.size w2 w3 := by rw [hw3]; exact (by repeat (first | exact Below.refl _ _ | refine Below.alloc ?_ (by first | omega | (simp; omega) | (simp; done)) _ | refine Below.drew ?_))
  have s3 : w2.heap.size + 1 ≤ w3.heap.size := by rw [hw3]; simp
  have y3 := Below.size hb
  try simp only [World.size_alloc, World.size_drew] at y3
  have D3 := Lib.hid (show Below w.heap.size w w3 from Below.trans (by repeat (first | exact D2.out | exact Below.refl _ _ | refine Below.alloc ?_ (by first | omega | (simp; omega) | (simp; done)) _)) (Below.mono hb (by first | omega | (simp; omega) | (simp; done))))
  have z3 := D3.out.size
  clear hb hw3
  try clear c0_0 f0_0 c0_1 f0_1 c0_2 f0_2
  obtain ⟨c0_0, f0_0, c0_1, f0_1, c0_2, f0_2⟩ := cells3 h0
  try clear c1_0 f1_0 c1_1 f1_1 c1_2 f1_2
  obtain ⟨c1_0, f1_0, c1_1, f1_1, c1_2, f1_2⟩ := cells3 h1
  try clear c2_0 f2_0 c2_1 f2_1 c2_2 f2_2 c2_3 f2_3
  obtain ⟨c2_0, f2_0, c2_1, f2_1, c2_2, f2_2, c2_3, f2_3⟩ := cells4 h2
  try clear c3_0 f3_0 c3_1 f3_1 c3_2 f3_2
  obtain ⟨c3_0, f3_0, c3_1, f3_1, c3_2, f3_2⟩ := cells3 h3
  clear ha0 ca0_0 fa0_0 ca0_1 fa0_1 ca0_2 fa0_2
  try clear c0_0 f0_0 c0_1 f0_1 c0_2 f0_2
  try clear c1_0 f1_0 c1_1 f1_1 c1_2 f1_2
  try clear c2_0 f2_0 c2_1 f2_1 c2_2 f2_2 c2_3 f2_3
  try clear c3_0 f3_0 c3_1 f3_1 c3_2 f3_2
  refine wp_region_held (S := fun w' => w'.heap[w.heap.size]? = some (.cells #[.int .i64 l.a, .int .i64 l.b, .int .i64 l.c] 23 (0, 0)) ∧ w'.heap[w2.heap.size]? = some (.cells #[.int .i64 L.a, .int .i64 L.b, .int .i64 L.c] 23 (0, 0))) (by kernel_rfl) ?_
  have hS1 := And.intro (hb_drew h0) (hb_drew h3)
  have hD : Below w3.heap.size w3 w3.drew := (Below.refl _ w3).drew
  refine held_load (i := 0) rfl (by kernel_rfl) (by kernel_rfl) (by kernel_rfl) [.int .i64 L.a, .int .i64 L.b, .int .i64 L.c] (fun _ _ _ h => h) hS1 rfl _ _ rfl _ _ rfl _ (fun w' h => range_of_heap h.2) Tryd.underlying23 rfl (by kernel_rfl) ?_
  simp only [Act.put, List.getElem_toArray, List.getElem_cons_succ, List.getElem_cons_zero, List.setIfInBounds_toArray, List.set_cons_zero, List.set_cons_succ]
  refine held_load (i := 1) rfl (by kernel_rfl) (by kernel_rfl) (by kernel_rfl) [.int .i64 l.a, .int .i64 l.b, .int .i64 l.c] (fun _ _ _ h => h) hS1 rfl _ _ rfl _ _ rfl _ (fun w' h => range_of_heap h.1) Tryd.underlying23 rfl (by kernel_rfl) ?_
  simp only [Act.put, List.getElem_toArray, List.getElem_cons_succ, List.getElem_cons_zero, List.setIfInBounds_toArray, List.set_cons_zero, List.set_cons_succ]
  refine held_load (i := 2) rfl (by kernel_rfl) (by kernel_rfl) (by kernel_rfl) [.int .i64 L.a, .int .i64 L.b, .int .i64 L.c] (fun _ _ _ h => h) hS1 rfl _ _ rfl _ _ rfl _ (fun w' h => range_of_heap h.2) Tryd.underlying23 rfl (by kernel_rfl) ?_
  simp only [Act.put, List.getElem_toArray, List.getElem_cons_succ, List.getElem_cons_zero, List.setIfInBounds_toArray, List.set_cons_zero, List.set_cons_succ]
  refine held_call (i := 3) (by kernel_rfl) rfl rfl 67 _ _ rfl (enter_of Tryd.func67 (by decide) (by intro h; cases h)) #[.agg #[.int .i64 l.a, .int .i64 l.b, .int .i64 l.c], .agg #[.int .i64 L.a, .int .i64 L.b, .int .i64 L.c]] (by kernel_rfl) ?_
  refine (H3.out _).mono ?_
  rintro e w4 ⟨ao, cap, rfl, hf, hb0⟩
  have hb : Below w3.heap.size w3 w4 := hD.trans (hb0.mono (Nat.le_refl _))
  clear hb0 hS1 hD
  replace h0 : w4.heap[w.heap.size]? = some (.cells #[.int .i64 l.a, .int .i64 l.b, .int .i64 l.c] 23 (0, 0)) := hb_below hb (by repeat (first | exact h0 | (refine hb_new ?_; (first | omega | (simp; omega) | (simp; done))) | (refine hb_old ?_ ?_; rotate_left; focus (first | omega | (simp; omega) | (simp; done))) | refine hb_drew ?_)) (by first | omega | (simp; omega) | (simp; done))
  replace h1 : w4.heap[w.heap.size + 1]? = some (.cells #[.int .i64 0, .int .i64 0, .int .i64 0] 23 (0, 0)) := hb_below hb (by repeat (first | exact h1 | (refine hb_new ?_; (first | omega | (simp; omega) | (simp; done))) | (refine hb_old ?_ ?_; rotate_left; focus (first | omega | (simp; omega) | (simp; done))) | refine hb_drew ?_)) (by first | omega | (simp; omega) | (simp; done))
  replace h2 : w4.heap[w.heap.size + 1 + 1]? = some (.cells #[.int .i64 0, .int .i64 0, .int .i64 0, .int .i64 0] 40 (0, 0)) := hb_below hb (by repeat (first | exact h2 | (refine hb_new ?_; (first | omega | (simp; omega) | (simp; done))) | (refine hb_old ?_ ?_; rotate_left; focus (first | omega | (simp; omega) | (simp; done))) | refine hb_drew ?_)) (by first | omega | (simp; omega) | (simp; done))
  replace h3 : w4.heap[w2.heap.size]? = some (.cells #[.int .i64 L.a, .int .i64 L.b, .int .i64 L.c] 23 (0, 0)) := hb_below hb (by repeat (first | exact h3 | (refine hb_new ?_; (first | omega | (simp; omega) | (simp; done))) | (refine hb_old ?_ ?_; rotate_left; focus (first | omega | (simp; omega) | (simp; done))) | refine hb_drew ?_)) (by first | omega | (simp; omega) | (simp; done))
  have y4 := Below.size hb
  try simp only [World.size_alloc, World.size_drew] at y4
  have D4 := Lib.hid (show Below w.heap.size w w4 from Below.trans (by repeat (first | exact D3.out | exact Below.refl _ _ | refine Below.alloc ?_ (by first | omega | (simp; omega) | (simp; done)) _)) (Below.mono hb (by first | omega | (simp; omega) | (simp; done))))
  have z4 := D4.out.size
  clear hb
  have hS1 := And.intro h0 h3
  refine ⟨_, rfl, hS1, ?_⟩
  simp only [Act.put, List.getElem_toArray, List.getElem_cons_succ, List.getElem_cons_zero, List.setIfInBounds_toArray, List.set_cons_zero, List.set_cons_succ]
  obtain ⟨b, off, rfl, hlt, hrg⟩ := FR.ms hf 0 m rfl
  rw [Nat.zero_mul, Nat.add_zero] at hrg
  have hbn : w3.heap.size ≤ b := FR.base hf (Nat.succ_pos _)
  clear hf
  refine held_take (i := 4) rfl (by kernel_rfl) (by kernel_rfl) (by kernel_rfl) (.pointer (some ⟨b, off, none⟩)) (fun _ _ _ h => h) hS1 rfl (fun w _ => by go_simp) ?_
  simp only [Act.put, List.getElem_toArray, List.getElem_cons_succ, List.getElem_cons_zero, List.setIfInBounds_toArray, List.set_cons_zero, List.set_cons_succ]
  refine wpAnyH_all (rs := [5, 6]) (by kernel_rfl) (by simp) fun j hj => ?_
  have hj2 : j = 5 ∨ j = 6 := by simpa using hj
  clear hj
  rcases hj2 with rfl | rfl
  · refine op_load (i := 5) rfl rfl _ _ rfl b off rfl _ _ hrg Tryd.underlying40 rfl (by kernel_rfl) ?_
    refine ⟨⟨h0, h3⟩, ?_⟩
    simp only [Act.put, List.getElem_toArray, List.getElem_cons_succ, List.getElem_cons_zero, List.setIfInBounds_toArray, List.set_cons_zero, List.set_cons_succ]
    refine wpAnyH_all (rs := [6]) (by kernel_rfl) (by simp) fun j hj => ?_
    obtain rfl : j = 6 := by simpa using hj
    clear hj
    refine op_row (i := 6) rfl rfl _ _ _ rfl (w.heap.size + 1) _ rfl rfl _ _ h1 (by kernel_rfl) rfl (by kernel_rfl) ?_
    intro w5 hn hk hz hB
    replace h0 := hk _ _ h0 (by first | omega | (simp; omega))
    replace h1 : w5.heap[w.heap.size + 1]? = some (.cells #[.int .i64 L.a, .int .i64 L.b, .int .i64 L.c] 23 (0, 0)) := hn
    replace h2 := hk _ _ h2 (by first | omega | (simp; omega))
    replace h3 := hk _ _ h3 (by first | omega | (simp; omega))
    have D5 := Lib.hid (hB _ _ D4.out (by first | omega | (simp; omega)))
    have z5 := D5.out.size
    have y5 : w5.heap.size = w4.heap.size := hz
    clear hn hk hz hB
    refine ⟨⟨h0, h3⟩, ?_⟩
    simp only [Act.put, List.getElem_toArray, List.getElem_cons_succ, List.getElem_cons_zero, List.setIfInBounds_toArray, List.set_cons_zero, List.set_cons_succ]
    refine wpAnyH_all (rs := [7]) (by kernel_rfl) (by simp) fun j hj => ?_
    obtain rfl : j = 7 := by simpa using hj
    clear hj
    refine op_row (i := 7) rfl rfl _ _ _ rfl (w.heap.size + 1 + 1) _ rfl rfl _ _ h2 (by kernel_rfl) rfl (by kernel_rfl) ?_
    intro w6 hn hk hz hB
    replace h0 := hk _ _ h0 (by first | omega | (simp; omega))
    replace h1 := hk _ _ h1 (by first | omega | (simp; omega))
    replace h2 : w6.heap[w.heap.size + 1 + 1]? = some (.cells #[.int .i64 m.a, .int .i64 m.b, .int .i64 m.c, .int .i64 m.d] 40 (0, 0)) := hn
    replace h3 := hk _ _ h3 (by first | omega | (simp; omega))
    have D6 := Lib.hid (hB _ _ D5.out (by first | omega | (simp; omega)))
    have z6 := D6.out.size
    have y6 : w6.heap.size = w5.heap.size := hz
    clear hn hk hz hB
    refine ⟨⟨h0, h3⟩, ?_⟩
    simp only [Act.put, List.getElem_toArray, List.getElem_cons_succ, List.getElem_cons_zero, List.setIfInBounds_toArray, List.set_cons_zero, List.set_cons_succ]
    refine held_still (i := 8) (by kernel_rfl) rfl rfl (.int .i64 0) (by go_simp) ⟨h0, h3⟩ ?_
    simp only [Act.put, List.getElem_toArray, List.getElem_cons_succ, List.getElem_cons_zero, List.setIfInBounds_toArray, List.set_cons_zero, List.set_cons_succ]
    refine wpAnyH_done (by kernel_rfl) ?_ _
    go_wp2_with fail
    refine bodyPost_ret (results_bbt rfl _ _ (w.heap.size + 1) (w.heap.size + 1 + 1) rfl rfl rfl h1 h2 Tryd.underlying23 rfl (by kernel_rfl) Tryd.underlying40 rfl (by kernel_rfl)) rfl ⟨rfl, D6.out⟩
  · refine op_row (i := 6) rfl rfl _ _ _ rfl (w.heap.size + 1) _ rfl rfl _ _ h1 (by kernel_rfl) rfl (by kernel_rfl) ?_
    intro w5 hn hk hz hB
    replace h0 := hk _ _ h0 (by first | omega | (simp; omega))
    replace h1 : w5.heap[w.heap.size + 1]? = some (.cells #[.int .i64 L.a, .int .i64 L.b, .int .i64 L.c] 23 (0, 0)) := hn
    replace h2 := hk _ _ h2 (by first | omega | (simp; omega))
    replace h3 := hk _ _ h3 (by first | omega | (simp; omega))
    replace hrg : w5.rangeAt b off (ml m) := range_same hrg (hk _ _ rfl (by omega))
    have D5 := Lib.hid (hB _ _ D4.out (by first | omega | (simp; omega)))
    have z5 := D5.out.size
    have y5 : w5.heap.size = w4.heap.size := hz
    clear hn hk hz hB
    refine ⟨⟨h0, h3⟩, ?_⟩
    simp only [Act.put, List.getElem_toArray, List.getElem_cons_succ, List.getElem_cons_zero, List.setIfInBounds_toArray, List.set_cons_zero, List.set_cons_succ]
    refine wpAnyH_all (rs := [5]) (by kernel_rfl) (by simp) fun j hj => ?_
    obtain rfl : j = 5 := by simpa using hj
    clear hj
    refine op_load (i := 5) rfl rfl _ _ rfl b off rfl _ _ hrg Tryd.underlying40 rfl (by kernel_rfl) ?_
    refine ⟨⟨h0, h3⟩, ?_⟩
    simp only [Act.put, List.getElem_toArray, List.getElem_cons_succ, List.getElem_cons_zero, List.setIfInBounds_toArray, List.set_cons_zero, List.set_cons_succ]
    refine wpAnyH_all (rs := [7]) (by kernel_rfl) (by simp) fun j hj => ?_
    obtain rfl : j = 7 := by simpa using hj
    clear hj
    refine op_row (i := 7) rfl rfl _ _ _ rfl (w.heap.size + 1 + 1) _ rfl rfl _ _ h2 (by kernel_rfl) rfl (by kernel_rfl) ?_
    intro w6 hn hk hz hB
    replace h0 := hk _ _ h0 (by first | omega | (simp; omega))
    replace h1 := hk _ _ h1 (by first | omega | (simp; omega))
    replace h2 : w6.heap[w.heap.size + 1 + 1]? = some (.cells #[.int .i64 m.a, .int .i64 m.b, .int .i64 m.c, .int .i64 m.d] 40 (0, 0)) := hn
    replace h3 := hk _ _ h3 (by first | omega | (simp; omega))
    have D6 := Lib.hid (hB _ _ D5.out (by first | omega | (simp; omega)))
    have z6 := D6.out.size
    have y6 : w6.heap.size = w5.heap.size := hz
    clear hn hk hz hB
    refine ⟨⟨h0, h3⟩, ?_⟩
    simp only [Act.put, List.getElem_toArray, List.getElem_cons_succ, List.getElem_cons_zero, List.setIfInBounds_toArray, List.set_cons_zero, List.set_cons_succ]
    refine held_still (i := 8) (by kernel_rfl) rfl rfl (.int .i64 0) (by go_simp) ⟨h0, h3⟩ ?_
    simp only [Act.put, List.getElem_toArray, List.getElem_cons_succ, List.getElem_cons_zero, List.setIfInBounds_toArray, List.set_cons_zero, List.set_cons_succ]
    refine wpAnyH_done (by kernel_rfl) ?_ _
    go_wp2_with fail
    refine bodyPost_ret (results_bbt rfl _ _ (w.heap.size + 1) (w.heap.size + 1 + 1) rfl rfl rfl h1 h2 Tryd.underlying23 rfl (by kernel_rfl) Tryd.underlying40 rfl (by kernel_rfl)) rfl ⟨rfl, D6.out⟩
end Go.Proofs.YtehpgmhilcoalaaDoor
