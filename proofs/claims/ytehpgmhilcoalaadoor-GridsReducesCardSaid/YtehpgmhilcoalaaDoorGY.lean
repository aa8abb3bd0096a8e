/- The least of a row of matrices, by the library. -/
import Derived.Test.YtehpgmhilcoalaaDoorGX
namespace Go.Proofs.YtehpgmhilcoalaaDoor
open Go.RowKit Go.Lib
set_option linter.unusedSimpArgs false
set_option linter.unusedVariables false
def pick (m x : Mat) : Mat := if mlt x m then x else m
def cur (a : Mat) (R : List Mat) (i : Nat) : Mat := (R.take i).tail.foldl pick a
theorem cur_one (a : Mat) (R : List Mat) : cur a R 1 = a := by
  unfold cur
  cases R with
  | nil => rfl
  | cons b R => simp
theorem cur_next {a x : Mat} {R : List Mat} {i : Nat} (hi : 1 ≤ i) (h : R[i]? = some x) : cur a R (i + 1) = pick (cur a R i) x := by
  unfold cur
  have hlt := (List.getElem?_eq_some_iff.1 h).1
  have hne : R.take i ≠ [] := fun e => by
    have : (R.take i).length = 0 := by rw [e]; rfl
    rw [List.length_take] at this
    omega
  rw [take_snoc h, List.tail_append_of_ne_nil hne, List.foldl_append]
  rfl
theorem fold_min (xs : List Mat) : ∀ a, (xs.foldl pick a = a ∨ xs.foldl pick a ∈ xs) ∧ (¬ mlt a (xs.foldl pick a) = true) ∧ ∀ y ∈ xs, ¬ mlt y (xs.foldl pick a) = true := by
  induction xs with
  | nil => exact fun a => ⟨.inl rfl, mlt_irrefl a, fun y h => by cases h⟩
  | cons x xs ih =>
    intro a
    obtain ⟨h1, h2, h3⟩ := ih (pick a x)
    rw [List.foldl_cons]
    generalize List.foldl pick (pick a x) xs = r at *
    unfold pick at h1 h2
    by_cases hx : mlt x a = true
    · rw [if_pos hx] at h1 h2
      refine ⟨.inr ?_, fun h => h2 (mlt_trans hx h), fun y hy => ?_⟩
      · rcases h1 with rfl | h1
        · exact List.mem_cons_self
        · exact List.mem_cons_of_mem _ h1
      · rcases List.mem_cons.1 hy with rfl | hy
        · exact h2
        · exact h3 y hy
    · rw [if_neg hx] at h1 h2
      refine ⟨?_, h2, fun y hy => ?_⟩
      · rcases h1 with rfl | h1
        · exact .inl rfl
        · exact .inr (List.mem_cons_of_mem _ h1)
      · rcases List.mem_cons.1 hy with rfl | hy
        · intro h
          rcases mlt_total y a with q | rfl | q
          · exact hx q
          · exact h2 h
          · exact h2 (mlt_trans q h)
        · exact h3 y hy
theorem cur_min {a : Mat} {R : List Mat} (h : R[0]? = some a) : cur a R R.length ∈ R ∧ ∀ y ∈ R, ¬ mlt y (cur a R R.length) = true := by
  unfold cur
  rw [List.take_length]
  cases R with
  | nil => cases h
  | cons b R =>
    obtain rfl : b = a := by simpa using h
    obtain ⟨h1, h2, h3⟩ := fold_min R b
    rw [List.tail_cons]
    refine ⟨?_, fun y hy => ?_⟩
    · rcases h1 with h1 | h1
      · rw [h1]; exact List.mem_cons_self
      · exact List.mem_cons_of_mem _ h1
    · rcases List.mem_cons.1 hy with rfl | hy
      · exact h2
      · exact h3 y hy
theorem compare_b (m n : Mat) (w : World) : Calls Tryd.prog 66 #[m.val, n.val] w fun e w' => e = .returned (.int .i64 (cmpM m n)) ∧ Below w.heap.size w w' :=
  (compare_any m n w).mono fun e w' ⟨he, hw⟩ => ⟨he, by
    rw [hw]
    refine Below.alloc (Below.drew (Below.alloc (Below.alloc (Below.refl _ _) (Nat.le_refl _) _) (by simp) _)) ?_ _
    show w.heap.size ≤ ((w.alloc _).alloc _).heap.size
    simp; omega⟩
theorem MsAt.below {w w' : World} {sa : Option Addr} {ms : List Mat} (h : MsAt w sa ms) (hb : Below w.heap.size w w') : MsAt w' sa ms := fun k m hm => by
  obtain ⟨b, off, e, h1, h2⟩ := h k m hm
  exact ⟨b, off, e, Nat.lt_of_lt_of_le h1 hb.size, range_belowM h2 hb h1⟩
theorem cmp_neg (x y : Mat) : decide (cmpM x y < 0) = mlt x y := cmpM_lt x y
theorem quiet_callV {P : Program} {ops : Array Oper} {C : World → Prop} {Q : Act → Prop} {a : Act} {o : Oper} {rest : List Oper} (hg : o.guard = none) (t : Tmp) (f : FuncId) (args : List Operand) (ts : Array TypeId) (ho : o.op = .call { callee := .value (.tmp t), args := args.toArray, argTypes := ts }) (hx : a.tmps[t]?.getD undef = .func (.func f) #[] #[]) (hent : ∀ args w, (callFunc f args).run P w = .ok (.enter f args) w) (v : Value)
    (hS : ∀ w, C w → Calls P f (args.map a.eval).toArray w fun e w' => e = .returned v ∧ C w')
    (h : wpQuiet P ops C Q rest (a.put o.dst v)) : wpQuiet P ops C Q (o :: rest) a := by
  have hw : Region.wanted o (yielded ops a.tmps) = true := by simp [Region.wanted, hg]
  refine wpQuiet_step fun K hK => ?_
  rw [if_pos hw]
  refine ⟨v, fun w hw' => ?_, hK _ h⟩
  have hc := hS w hw'
  unfold Oper.quietAt execOp
  simp [ho, resolve, invoke, Act.eval, hx, go_sem, hent, Oper.quietUpon]
  exact hc
set_option maxHeartbeats 2000000 in
set_option maxRecDepth 100000 in
theorem MinFunc_any {w : World} {ao : Option Addr} {cap : Nat} {R : List Mat} {a : Mat} (hM : MsAt w ao R) (ha : R[0]? = some a) (hn : R.length ≤ 100) (hcap : R.length ≤ cap) :
    Calls Tryd.prog 79 #[.slice ao R.length cap, .func (.func 66) #[] #[]] w fun e w' => e = .returned (cur a R R.length).val ∧ Below w.heap.size w w' := by
  have HM := Lib.hid hM
  have hpos : 0 < R.length := (List.getElem?_eq_some_iff.1 ha).1
  obtain ⟨b, off, rfl, hbs, hr⟩ := hM 0 a ha
  rw [Nat.zero_mul, Nat.add_zero] at hr
  have hr2 : (w.alloc (.cells #[.int .i64 0, .int .i64 0, .int .i64 0, .int .i64 0] 40)).rangeAt b off (ml a) := range_belowM hr (below_alloc w _) hbs
  have e0 : (w.alloc (.cells #[.int .i64 0, .int .i64 0, .int .i64 0, .int .i64 0] 40)).cell? ⟨b, off, none⟩ = some (.int .i64 a.a) := hr2 0 _ rfl
  have e1 : (w.alloc (.cells #[.int .i64 0, .int .i64 0, .int .i64 0, .int .i64 0] 40)).cell? ⟨b, off + 1, none⟩ = some (.int .i64 a.b) := hr2 1 _ rfl
  have e2 : (w.alloc (.cells #[.int .i64 0, .int .i64 0, .int .i64 0, .int .i64 0] 40)).cell? ⟨b, off + 2, none⟩ = some (.int .i64 a.c) := hr2 2 _ rfl
  have e3 : (w.alloc (.cells #[.int .i64 0, .int .i64 0, .int .i64 0, .int .i64 0] 40)).cell? ⟨b, off + 3, none⟩ = some (.int .i64 a.d) := hr2 3 _ rfl
  have q0 : ¬ ((R.length : Nat) : Int) < 1 := by omega
  have q1 : (0 : Int) < ((R.length : Nat) : Int) := by omega
  have HA := Lib.hid ha
  clear hM hr hr2 ha
  unfold Mat.val
  go_enter Tryd.func79, Tryd.ntmps79
  go_wp2_with fail
  go_wp2_with fail
  clear e0 e1 e2 e3
  obtain ⟨w1, hw1⟩ : ∃ W, W = ((w.alloc (.cells #[.int .i64 0, .int .i64 0, .int .i64 0, .int .i64 0] 40)).alloc (.cells #[.int .i64 a.a, .int .i64 a.b, .int .i64 a.c, .int .i64 a.d] 40)) := ⟨_, rfl⟩
  rw [← hw1]
  have h0 : w1.heap[w.heap.size]? = some (.cells #[.int .i64 0, .int .i64 0, .int .i64 0, .int .i64 0] 40 (0, 0)) := by rw [hw1]; exact (by repeat (first | (refine hb_new ?_; (first | omega | (simp; omega) | (simp; done))) | (refine hb_old ?_ ?_; rotate_left; focus (first | omega | (simp; omega) | (simp; done))) | refine hb_drew ?_))
  have h1 : w1.heap[w.heap.size + 1]? = some (.cells #[.int .i64 a.a, .int .i64 a.b, .int .i64 a.c, .int .i64 a.d] 40 (0, 0)) := by rw [hw1]; exact (by repeat (first | (refine hb_new ?_; (first | omega | (simp; omega) | (simp; done))) | (refine hb_old ?_ ?_; rotate_left; focus (first | omega | (simp; omega) | (simp; done))) | refine hb_drew ?_))
  have hb : Below w.heap.size w w1 := by rw [hw1]; exact (by repeat (first | exact Below.refl _ _ | refine Below.alloc ?_ (by first | omega | (simp; omega) | (simp; done)) _ | refine Below.drew ?_))
  have s1 : w.heap.size + 1 + 1 ≤ w1.heap.size := by rw [hw1]; simp
  have y1 := Below.size hb
  try simp only [World.size_alloc, World.size_drew] at y1
  have D1 := Lib.hid (show Below w.heap.size w w1 from Below.trans (by repeat (first | exact Below.refl _ _ | refine Below.alloc ?_ (by first | omega | (simp; omega) | (simp; done)) _)) (Below.mono hb (by first | omega | (simp; omega) | (simp; done))))
  have z1 := D1.out.size
  clear hb hw1
  try clear c0_0
  have c0_0 := cell_of_heap h0 (j := 0) rfl
  try clear f0_0
  have f0_0 := frozen_of_heap h0 0
  try clear c0_1
  have c0_1 := cell_of_heap h0 (j := 1) rfl
  try clear f0_1
  have f0_1 := frozen_of_heap h0 1
  try clear c0_2
  have c0_2 := cell_of_heap h0 (j := 2) rfl
  try clear f0_2
  have f0_2 := frozen_of_heap h0 2
  try clear c0_3
  have c0_3 := cell_of_heap h0 (j := 3) rfl
  try clear f0_3
  have f0_3 := frozen_of_heap h0 3
  try clear c1_0
  have c1_0 := cell_of_heap h1 (j := 0) rfl
  try clear f1_0
  have f1_0 := frozen_of_heap h1 0
  try clear c1_1
  have c1_1 := cell_of_heap h1 (j := 1) rfl
  try clear f1_1
  have f1_1 := frozen_of_heap h1 1
  try clear c1_2
  have c1_2 := cell_of_heap h1 (j := 2) rfl
  try clear f1_2
  have f1_2 := frozen_of_heap h1 2
  try clear c1_3
  have c1_3 := cell_of_heap h1 (j := 3) rfl
  try clear f1_3
  have f1_3 := frozen_of_heap h1 3
  go_loopg [6] R.length (fun kk s wr => ∃ (i : Nat) (c : Mat), 1 ≤ i ∧ i ≤ R.length ∧ R.length - i ≤ kk ∧ s = .int .i64 i ∧ c = cur a R i ∧ wr.heap[w.heap.size]? = some (.cells #[.int .i64 0, .int .i64 0, .int .i64 0, .int .i64 0] 40 (0, 0)) ∧ wr.heap[w.heap.size + 1]? = some (.cells #[.int .i64 c.a, .int .i64 c.b, .int .i64 c.c, .int .i64 c.d] 40 (0, 0)) ∧ w1.heap.size ≤ wr.heap.size ∧ Below w.heap.size w wr)
  case atStart => exact ⟨1, a, Nat.le_refl _, hpos, by omega, rfl, (cur_one a R).symm, h0, h1, Nat.le_refl _, D1.out⟩
  case round =>
    rename World => w50
    obtain ⟨i, c, hi1, hin, hkk, rfl, hc, g0, g1, y50, hb⟩ := hrel
    try clear c0_0
    try clear f0_0
    try clear c0_1
    try clear f0_1
    try clear c0_2
    try clear f0_2
    try clear c0_3
    try clear f0_3
    try clear c1_0
    try clear f1_0
    try clear c1_1
    try clear f1_1
    try clear c1_2
    try clear f1_2
    try clear c1_3
    try clear f1_3
    clear h0 h1
    have h0 := g0
    have h1 := g1
    clear g0 g1
    have D50 := Lib.hid hb
    have z50 := D50.out.size
    have HC := Lib.hid hc
    clear hb hc
    try clear c0_0
    have c0_0 := cell_of_heap h0 (j := 0) rfl
    try clear f0_0
    have f0_0 := frozen_of_heap h0 0
    try clear c0_1
    have c0_1 := cell_of_heap h0 (j := 1) rfl
    try clear f0_1
    have f0_1 := frozen_of_heap h0 1
    try clear c0_2
    have c0_2 := cell_of_heap h0 (j := 2) rfl
    try clear f0_2
    have f0_2 := frozen_of_heap h0 2
    try clear c0_3
    have c0_3 := cell_of_heap h0 (j := 3) rfl
    try clear f0_3
    have f0_3 := frozen_of_heap h0 3
    try clear c1_0
    have c1_0 := cell_of_heap h1 (j := 0) rfl
    try clear f1_0
    have f1_0 := frozen_of_heap h1 0
    try clear c1_1
    have c1_1 := cell_of_heap h1 (j := 1) rfl
    try clear f1_1
    have f1_1 := frozen_of_heap h1 1
    try clear c1_2
    have c1_2 := cell_of_heap h1 (j := 2) rfl
    try clear f1_2
    have f1_2 := frozen_of_heap h1 2
    try clear c1_3
    have c1_3 := cell_of_heap h1 (j := 3) rfl
    try clear f1_3
    have f1_3 := frozen_of_heap h1 3
    by_cases hlt : i < R.length
    · obtain ⟨x, hx⟩ : ∃ x, R[i]? = some x := ⟨_, List.getElem?_eq_getElem hlt⟩
      obtain ⟨b', off', hao, _, hr⟩ := HM.out i x hx
      cases hao
      have hr2 := range_belowM hr D50.out hbs
      have i0 : (0 : Int) ≤ (i : Int) := by omega
      have i1 : (i : Int) < ((R.length : Nat) : Int) := by omega
      have HX := Lib.hid hx
      have HR := Lib.hid hr
      clear hx hr
      have CC := fun W => compare_b x c W
      have hcm := cmp_neg x c
      generalize cmpM x c = z at *
      unfold Mat.val at CC
      have HCC := Lib.hid CC
      clear CC
      go_wp2_with fail
      try clear c0_0
      try clear f0_0
      try clear c0_1
      try clear f0_1
      try clear c0_2
      try clear f0_2
      try clear c0_3
      try clear f0_3
      try clear c1_0
      try clear f1_0
      try clear c1_1
      try clear f1_1
      try clear c1_2
      try clear f1_2
      try clear c1_3
      try clear f1_3
      refine wp_region_class (fun w' => Below w50.heap.size w50 w') 7 (by kernel_rfl) (by kernel_rfl) (Below.refl _ w50).drew ?_
      simp only [List.take_succ_cons, List.take_zero, List.drop_succ_cons, List.drop_zero]
      refine quiet_move rfl _ rfl ?_
      simp only [Act.put, List.setIfInBounds_toArray, List.set_cons_zero, List.set_cons_succ]
      refine quiet_move rfl _ rfl ?_
      simp only [Act.put, List.setIfInBounds_toArray, List.set_cons_zero, List.set_cons_succ]
      refine quiet_move rfl _ rfl ?_
      simp only [Act.put, List.setIfInBounds_toArray, List.set_cons_zero, List.set_cons_succ]
      refine quiet_still rfl (.pointer (some ⟨b, off + i * 4, none⟩)) (fun w _ => by go_simp) ?_
      simp only [Act.put, List.setIfInBounds_toArray, List.set_cons_zero, List.set_cons_succ]
      refine quiet_load_mid rfl _ _ rfl b (off + i * 4) rfl (ml x) _ (fun w' h => range_belowM hr2 h (by omega)) Tryd.underlying40 rfl (by kernel_rfl) ?_
      simp only [Act.put, List.setIfInBounds_toArray, List.set_cons_zero, List.set_cons_succ]
      refine quiet_load_mid rfl _ _ rfl _ _ rfl _ _ (fun w' h => range_of_heap (hb_below h h1 (by omega))) Tryd.underlying40 rfl (by kernel_rfl) ?_
      simp only [Act.put, List.setIfInBounds_toArray, List.set_cons_zero, List.set_cons_succ]
      refine quiet_callV rfl _ 66 _ _ rfl rfl (enter_of Tryd.func66 (by decide) (by intro h; cases h)) _ (in_class_b HCC.out) ?_
      simp only [Act.put, List.setIfInBounds_toArray, List.set_cons_zero, List.set_cons_succ]
      intro w51 hb
      replace h0 : w51.heap[w.heap.size]? = some (.cells #[.int .i64 0, .int .i64 0, .int .i64 0, .int .i64 0] 40 (0, 0)) := hb_below hb (by repeat (first | exact h0 | (refine hb_new ?_; (first | omega | (simp; omega) | (simp; done))) | (refine hb_old ?_ ?_; rotate_left; focus (first | omega | (simp; omega) | (simp; done))) | refine hb_drew ?_)) (by first | omega | (simp; omega) | (simp; done))
      replace h1 : w51.heap[w.heap.size + 1]? = some (.cells #[.int .i64 c.a, .int .i64 c.b, .int .i64 c.c, .int .i64 c.d] 40 (0, 0)) := hb_below hb (by repeat (first | exact h1 | (refine hb_new ?_; (first | omega | (simp; omega) | (simp; done))) | (refine hb_old ?_ ?_; rotate_left; focus (first | omega | (simp; omega) | (simp; done))) | refine hb_drew ?_)) (by first | omega | (simp; omega) | (simp; done))
      have y51 := Below.size hb
      try simp only [World.size_alloc, World.size_drew] at y51
      have D51 := Lib.hid (show Below w.heap.size w w51 from Below.trans (by repeat (first | exact D50.out | exact Below.refl _ _ | refine Below.alloc ?_ (by first | omega | (simp; omega) | (simp; done)) _)) (Below.mono hb (by first | omega | (simp; omega) | (simp; done))))
      have z51 := D51.out.size
      have hr3 := range_belowM hr2 hb (by omega)
      clear hb
      try clear c0_0
      have c0_0 := cell_of_heap h0 (j := 0) rfl
      try clear f0_0
      have f0_0 := frozen_of_heap h0 0
      try clear c0_1
      have c0_1 := cell_of_heap h0 (j := 1) rfl
      try clear f0_1
      have f0_1 := frozen_of_heap h0 1
      try clear c0_2
      have c0_2 := cell_of_heap h0 (j := 2) rfl
      try clear f0_2
      have f0_2 := frozen_of_heap h0 2
      try clear c0_3
      have c0_3 := cell_of_heap h0 (j := 3) rfl
      try clear f0_3
      have f0_3 := frozen_of_heap h0 3
      try clear c1_0
      have c1_0 := cell_of_heap h1 (j := 0) rfl
      try clear f1_0
      have f1_0 := frozen_of_heap h1 0
      try clear c1_1
      have c1_1 := cell_of_heap h1 (j := 1) rfl
      try clear f1_1
      have f1_1 := frozen_of_heap h1 1
      try clear c1_2
      have c1_2 := cell_of_heap h1 (j := 2) rfl
      try clear f1_2
      have f1_2 := frozen_of_heap h1 2
      try clear c1_3
      have c1_3 := cell_of_heap h1 (j := 3) rfl
      try clear f1_3
      have f1_3 := frozen_of_heap h1 3
      by_cases hz : z < 0
      · have e0 : w51.cell? ⟨b, off + i * 4, none⟩ = some (.int .i64 x.a) := hr3 0 _ rfl
        have e1 : w51.cell? ⟨b, off + i * 4 + 1, none⟩ = some (.int .i64 x.b) := hr3 1 _ rfl
        have e2 : w51.cell? ⟨b, off + i * 4 + 2, none⟩ = some (.int .i64 x.c) := hr3 2 _ rfl
        have e3 : w51.cell? ⟨b, off + i * 4 + 3, none⟩ = some (.int .i64 x.d) := hr3 3 _ rfl
        have hp : pick c x = x := by unfold pick; rw [← hcm, decide_eq_true hz]; rfl
        have HP := Lib.hid hp
        clear hp hcm hr3 hr2
        go_wp2_with fail
        have q1 := (Below.heap_setCell w51 ⟨w.heap.size + 1, 0, none⟩ (.int .i64 x.a) (w.heap.size) (by first | omega | assumption | (apply Ne.symm; assumption) | (simp; done) | (simp; omega))).trans h0
        have q2 := heap_setCell_same w51 (w.heap.size + 1) 0 _ _ (.int .i64 x.a) h1
        have q3 := (Below.heap_setCell (w51.setCell ⟨w.heap.size + 1, 0, none⟩ (.int .i64 x.a)) ⟨w.heap.size + 1, 1, none⟩ (.int .i64 x.b) (w.heap.size) (by first | omega | assumption | (apply Ne.symm; assumption) | (simp; done) | (simp; omega))).trans q1
        have q4 := heap_setCell_same (w51.setCell ⟨w.heap.size + 1, 0, none⟩ (.int .i64 x.a)) (w.heap.size + 1) 1 _ _ (.int .i64 x.b) q2
        have q5 := (Below.heap_setCell ((w51.setCell ⟨w.heap.size + 1, 0, none⟩ (.int .i64 x.a)).setCell ⟨w.heap.size + 1, 1, none⟩ (.int .i64 x.b)) ⟨w.heap.size + 1, 2, none⟩ (.int .i64 x.c) (w.heap.size) (by first | omega | assumption | (apply Ne.symm; assumption) | (simp; done) | (simp; omega))).trans q3
        have q6 := heap_setCell_same ((w51.setCell ⟨w.heap.size + 1, 0, none⟩ (.int .i64 x.a)).setCell ⟨w.heap.size + 1, 1, none⟩ (.int .i64 x.b)) (w.heap.size + 1) 2 _ _ (.int .i64 x.c) q4
        have q7 := (Below.heap_setCell (((w51.setCell ⟨w.heap.size + 1, 0, none⟩ (.int .i64 x.a)).setCell ⟨w.heap.size + 1, 1, none⟩ (.int .i64 x.b)).setCell ⟨w.heap.size + 1, 2, none⟩ (.int .i64 x.c)) ⟨w.heap.size + 1, 3, none⟩ (.int .i64 x.d) (w.heap.size) (by first | omega | assumption | (apply Ne.symm; assumption) | (simp; done) | (simp; omega))).trans q5
        have q8 := heap_setCell_same (((w51.setCell ⟨w.heap.size + 1, 0, none⟩ (.int .i64 x.a)).setCell ⟨w.heap.size + 1, 1, none⟩ (.int .i64 x.b)).setCell ⟨w.heap.size + 1, 2, none⟩ (.int .i64 x.c)) (w.heap.size + 1) 3 _ _ (.int .i64 x.d) q6
        obtain ⟨w52, hw52⟩ : ∃ W, W = ((((w51.setCell ⟨w.heap.size + 1, 0, none⟩ (.int .i64 x.a)).setCell ⟨w.heap.size + 1, 1, none⟩ (.int .i64 x.b)).setCell ⟨w.heap.size + 1, 2, none⟩ (.int .i64 x.c)).setCell ⟨w.heap.size + 1, 3, none⟩ (.int .i64 x.d)) := ⟨_, rfl⟩
        rw [← hw52]
        replace h0 : w52.heap[w.heap.size]? = some (.cells #[.int .i64 0, .int .i64 0, .int .i64 0, .int .i64 0] 40 (0, 0)) := by rw [hw52]; exact q7
        replace h1 : w52.heap[w.heap.size + 1]? = some (.cells #[.int .i64 x.a, .int .i64 x.b, .int .i64 x.c, .int .i64 x.d] 40 (0, 0)) := by rw [hw52]; exact q8
        have D52 := Lib.hid (show Below w.heap.size w w52 by rw [hw52]; exact (Below.setCell (Below.setCell (Below.setCell (Below.setCell D51.out (p := ⟨w.heap.size + 1, 0, none⟩) (by first | omega | (simp; done) | (simp; omega)) (.int .i64 x.a)) (p := ⟨w.heap.size + 1, 1, none⟩) (by first | omega | (simp; done) | (simp; omega)) (.int .i64 x.b)) (p := ⟨w.heap.size + 1, 2, none⟩) (by first | omega | (simp; done) | (simp; omega)) (.int .i64 x.c)) (p := ⟨w.heap.size + 1, 3, none⟩) (by first | omega | (simp; done) | (simp; omega)) (.int .i64 x.d)))
        have z52 := D52.out.size
        have y52 : w52.heap.size = w51.heap.size := by rw [hw52]; simp
        clear q8 q7 q6 q5 q4 q3 q2 q1 hw52
        try clear c0_0
        have c0_0 := cell_of_heap h0 (j := 0) rfl
        try clear f0_0
        have f0_0 := frozen_of_heap h0 0
        try clear c0_1
        have c0_1 := cell_of_heap h0 (j := 1) rfl
        try clear f0_1
        have f0_1 := frozen_of_heap h0 1
        try clear c0_2
        have c0_2 := cell_of_heap h0 (j := 2) rfl
        try clear f0_2
        have f0_2 := frozen_of_heap h0 2
        try clear c0_3
        have c0_3 := cell_of_heap h0 (j := 3) rfl
        try clear f0_3
        have f0_3 := frozen_of_heap h0 3
        try clear c1_0
        have c1_0 := cell_of_heap h1 (j := 0) rfl
        try clear f1_0
        have f1_0 := frozen_of_heap h1 0
        try clear c1_1
        have c1_1 := cell_of_heap h1 (j := 1) rfl
        try clear f1_1
        have f1_1 := frozen_of_heap h1 1
        try clear c1_2
        have c1_2 := cell_of_heap h1 (j := 2) rfl
        try clear f1_2
        have f1_2 := frozen_of_heap h1 2
        try clear c1_3
        have c1_3 := cell_of_heap h1 (j := 3) rfl
        try clear f1_3
        have f1_3 := frozen_of_heap h1 3
        go_roundg (R.length - (i + 1))
        case measure => omega
        case rel => exact ⟨i + 1, x, by omega, hlt, Nat.le_refl _, by go_num, by rw [cur_next hi1 HX.out, ← HC.out, HP.out], h0, h1, by omega, D52.out⟩
      · have hp : pick c x = c := by unfold pick; rw [← hcm, decide_eq_false hz]; rfl
        have HP := Lib.hid hp
        clear hp hcm hr3 hr2
        go_wp2_with fail
        go_roundg (R.length - (i + 1))
        case measure => omega
        case rel => exact ⟨i + 1, c, by omega, hlt, Nat.le_refl _, by go_num, by rw [cur_next hi1 HX.out, ← HC.out, HP.out], h0, h1, by omega, D51.out⟩
    · obtain rfl : i = R.length := by omega
      have i2 : ¬ ((R.length : Nat) : Int) < ((R.length : Nat) : Int) := by omega
      go_wp2_with fail
      have q1 := heap_setCell_same w50 (w.heap.size) 0 _ _ (.int .i64 c.a) h0
      have q2 := (Below.heap_setCell w50 ⟨w.heap.size, 0, none⟩ (.int .i64 c.a) (w.heap.size + 1) (by first | omega | assumption | (apply Ne.symm; assumption) | (simp; done) | (simp; omega))).trans h1
      have q3 := heap_setCell_same (w50.setCell ⟨w.heap.size, 0, none⟩ (.int .i64 c.a)) (w.heap.size) 1 _ _ (.int .i64 c.b) q1
      have q4 := (Below.heap_setCell (w50.setCell ⟨w.heap.size, 0, none⟩ (.int .i64 c.a)) ⟨w.heap.size, 1, none⟩ (.int .i64 c.b) (w.heap.size + 1) (by first | omega | assumption | (apply Ne.symm; assumption) | (simp; done) | (simp; omega))).trans q2
      have q5 := heap_setCell_same ((w50.setCell ⟨w.heap.size, 0, none⟩ (.int .i64 c.a)).setCell ⟨w.heap.size, 1, none⟩ (.int .i64 c.b)) (w.heap.size) 2 _ _ (.int .i64 c.c) q3
      have q6 := (Below.heap_setCell ((w50.setCell ⟨w.heap.size, 0, none⟩ (.int .i64 c.a)).setCell ⟨w.heap.size, 1, none⟩ (.int .i64 c.b)) ⟨w.heap.size, 2, none⟩ (.int .i64 c.c) (w.heap.size + 1) (by first | omega | assumption | (apply Ne.symm; assumption) | (simp; done) | (simp; omega))).trans q4
      have q7 := heap_setCell_same (((w50.setCell ⟨w.heap.size, 0, none⟩ (.int .i64 c.a)).setCell ⟨w.heap.size, 1, none⟩ (.int .i64 c.b)).setCell ⟨w.heap.size, 2, none⟩ (.int .i64 c.c)) (w.heap.size) 3 _ _ (.int .i64 c.d) q5
      have q8 := (Below.heap_setCell (((w50.setCell ⟨w.heap.size, 0, none⟩ (.int .i64 c.a)).setCell ⟨w.heap.size, 1, none⟩ (.int .i64 c.b)).setCell ⟨w.heap.size, 2, none⟩ (.int .i64 c.c)) ⟨w.heap.size, 3, none⟩ (.int .i64 c.d) (w.heap.size + 1) (by first | omega | assumption | (apply Ne.symm; assumption) | (simp; done) | (simp; omega))).trans q6
      obtain ⟨w51, hw51⟩ : ∃ W, W = ((((w50.setCell ⟨w.heap.size, 0, none⟩ (.int .i64 c.a)).setCell ⟨w.heap.size, 1, none⟩ (.int .i64 c.b)).setCell ⟨w.heap.size, 2, none⟩ (.int .i64 c.c)).setCell ⟨w.heap.size, 3, none⟩ (.int .i64 c.d)) := ⟨_, rfl⟩
      rw [← hw51]
      replace h0 : w51.heap[w.heap.size]? = some (.cells #[.int .i64 c.a, .int .i64 c.b, .int .i64 c.c, .int .i64 c.d] 40 (0, 0)) := by rw [hw51]; exact q7
      replace h1 : w51.heap[w.heap.size + 1]? = some (.cells #[.int .i64 c.a, .int .i64 c.b, .int .i64 c.c, .int .i64 c.d] 40 (0, 0)) := by rw [hw51]; exact q8
      have D51 := Lib.hid (show Below w.heap.size w w51 by rw [hw51]; exact (Below.setCell (Below.setCell (Below.setCell (Below.setCell D50.out (p := ⟨w.heap.size, 0, none⟩) (by first | omega | (simp; done) | (simp; omega)) (.int .i64 c.a)) (p := ⟨w.heap.size, 1, none⟩) (by first | omega | (simp; done) | (simp; omega)) (.int .i64 c.b)) (p := ⟨w.heap.size, 2, none⟩) (by first | omega | (simp; done) | (simp; omega)) (.int .i64 c.c)) (p := ⟨w.heap.size, 3, none⟩) (by first | omega | (simp; done) | (simp; omega)) (.int .i64 c.d)))
      have z51 := D51.out.size
      have y51 : w51.heap.size = w50.heap.size := by rw [hw51]; simp
      clear q8 q7 q6 q5 q4 q3 q2 q1 hw51
      try clear c0_0
      have c0_0 := cell_of_heap h0 (j := 0) rfl
      try clear f0_0
      have f0_0 := frozen_of_heap h0 0
      try clear c0_1
      have c0_1 := cell_of_heap h0 (j := 1) rfl
      try clear f0_1
      have f0_1 := frozen_of_heap h0 1
      try clear c0_2
      have c0_2 := cell_of_heap h0 (j := 2) rfl
      try clear f0_2
      have f0_2 := frozen_of_heap h0 2
      try clear c0_3
      have c0_3 := cell_of_heap h0 (j := 3) rfl
      try clear f0_3
      have f0_3 := frozen_of_heap h0 3
      try clear c1_0
      have c1_0 := cell_of_heap h1 (j := 0) rfl
      try clear f1_0
      have f1_0 := frozen_of_heap h1 0
      try clear c1_1
      have c1_1 := cell_of_heap h1 (j := 1) rfl
      try clear f1_1
      have f1_1 := frozen_of_heap h1 1
      try clear c1_2
      have c1_2 := cell_of_heap h1 (j := 2) rfl
      try clear f1_2
      have f1_2 := frozen_of_heap h1 2
      try clear c1_3
      have c1_3 := cell_of_heap h1 (j := 3) rfl
      try clear f1_3
      have f1_3 := frozen_of_heap h1 3
      refine bodyPost_ret (results_cell_row rfl _ _ w.heap.size _ _ (0, 0) _ rfl h0 Tryd.underlying40 rfl (by kernel_rfl)) rfl ⟨by rw [← HC.out], D51.out⟩
end Go.Proofs.YtehpgmhilcoalaaDoor
