/- Compose, Invert and Keeps of the program; images of points in the reference. -/
import Derived.Test.YtehpgmhilcoalaaDoorIA
namespace Go.Proofs.YtehpgmhilcoalaaDoor
open Go.RowKit Go.Lib
set_option linter.unusedSimpArgs false
set_option linter.unusedVariables false
theorem range_part {W : World} {b : Nat} {vs : List Value} (h : W.rangeAt b 0 vs) (o n : Nat) : W.rangeAt b o ((vs.drop o).take n) := fun j v hv => by
  have h2 : vs[o + j]? = some v := by
    rw [List.getElem?_take] at hv
    split at hv
    · rwa [List.getElem?_drop] at hv
    · cases hv
  have := h (o + j) v h2
  rwa [Nat.zero_add] at this
def m0 : Mov := ⟨⟨0, 0, 0, 0⟩, ⟨0, 0⟩⟩
def comV (m n : Mov) : Mov := if okV m && okV n && okV (comp m n).w then (comp m n).w else m0
def comE (m n : Mov) : Int := if okV m && okV n then (if okV (comp m n).w then 0 else 7) else 2
set_option maxHeartbeats 4000000 in
set_option maxRecDepth 100000 in
theorem Compose_any (m n : Mov) (w : World) : Calls Tryd.prog 31 #[m.val, n.val] w fun e w' => e = .returned (.tuple #[(comV m n).val, .int .i64 (comE m n)]) ∧ Below w.heap.size w w' := by
  have C1 := fun W => validMove_any m W
  have C2 := fun W => validMove_any n W
  have C3 := fun W => times_any m.m n.m W
  have C4 := fun W => applied_any m n.t W
  have C5 := fun W => validMove_any (comp m n).w W
  unfold comV comE
  have e1 : (comp m n).w = ⟨(m.m.times n.m).w, (appl m n.t).w⟩ := rfl
  generalize (m.m.times n.m).w = u1 at *
  generalize (appl m n.t).w = u2 at *
  rw [e1] at C5
  rw [e1]
  clear e1
  generalize okV m = k1 at *
  generalize okV n = k2 at *
  generalize okV ⟨u1, u2⟩ = k3 at *
  unfold Mov.val Pt.val Mat.val at *
  have H1 := Lib.hid C1
  have H2 := Lib.hid C2
  have H3 := Lib.hid C3
  have H4 := Lib.hid C4
  have H5 := Lib.hid C5
  clear C1 C2 C3 C4 C5
  cases k1
  · simp only [Bool.false_and, Bool.true_and, Bool.and_self, Bool.and_false, Bool.and_true, Bool.false_eq_true, if_true, if_false]
    go_enter Tryd.func31, Tryd.ntmps31
    go_wp2_with fail
    refine (H1.out _).mono ?_
    rintro e w1 ⟨rfl, hb⟩
    have h0 : w1.heap[w.heap.size]? = some (.cells #[.int .i64 m.m.a, .int .i64 m.m.b, .int .i64 m.m.c, .int .i64 m.m.d, .int .i64 m.t.x, .int .i64 m.t.y] 49 (0, 0)) := hb_below hb (by repeat (first | (refine hb_new ?_; (first | omega | (simp; omega) | (simp; done))) | (refine hb_old ?_ ?_; rotate_left; focus (first | omega | (simp; omega) | (simp; done))) | refine hb_drew ?_)) (by first | omega | (simp; omega) | (simp; done))
    have h1 : w1.heap[w.heap.size + 1]? = some (.cells #[.int .i64 n.m.a, .int .i64 n.m.b, .int .i64 n.m.c, .int .i64 n.m.d, .int .i64 n.t.x, .int .i64 n.t.y] 49 (0, 0)) := hb_below hb (by repeat (first | (refine hb_new ?_; (first | omega | (simp; omega) | (simp; done))) | (refine hb_old ?_ ?_; rotate_left; focus (first | omega | (simp; omega) | (simp; done))) | refine hb_drew ?_)) (by first | omega | (simp; omega) | (simp; done))
    have h2 : w1.heap[w.heap.size + 1 + 1]? = some (.cells #[.int .i64 0, .int .i64 0, .int .i64 0, .int .i64 0, .int .i64 0, .int .i64 0] 49 (0, 0)) := hb_below hb (by repeat (first | (refine hb_new ?_; (first | omega | (simp; omega) | (simp; done))) | (refine hb_old ?_ ?_; rotate_left; focus (first | omega | (simp; omega) | (simp; done))) | refine hb_drew ?_)) (by first | omega | (simp; omega) | (simp; done))
    have y1 := Below.size hb
    try simp only [World.size_alloc, World.size_drew] at y1
    have D1 := Lib.hid (show Below w.heap.size w w1 from Below.trans (by repeat (first | exact Below.refl _ _ | refine Below.alloc ?_ (by first | omega | (simp; omega) | (simp; done)) _)) (Below.mono hb (by first | omega | (simp; omega) | (simp; done))))
    have z1 := D1.out.size
    clear hb
    try clear c0_0
    have c0_0 := cell_of_heap h0 (j := 0) rfl
    try clear f0_0
    have f0_0 := frozen_of_heap h0 0
    try clear c0_1
    have c0_1 := cell_of_heap h0 (j := 1) rfl
    try clear f0_1
    have f0_1 := frozen_of_heap h0 1
    try clear c0_2
    have c0_2 := cell_of_heap h0 (j := 2) rfl
    try clear f0_2
    have f0_2 := frozen_of_heap h0 2
    try clear c0_3
    have c0_3 := cell_of_heap h0 (j := 3) rfl
    try clear f0_3
    have f0_3 := frozen_of_heap h0 3
    try clear c0_4
    have c0_4 := cell_of_heap h0 (j := 4) rfl
    try clear f0_4
    have f0_4 := frozen_of_heap h0 4
    try clear c0_5
    have c0_5 := cell_of_heap h0 (j := 5) rfl
    try clear f0_5
    have f0_5 := frozen_of_heap h0 5
    try clear c1_0
    have c1_0 := cell_of_heap h1 (j := 0) rfl
    try clear f1_0
    have f1_0 := frozen_of_heap h1 0
    try clear c1_1
    have c1_1 := cell_of_heap h1 (j := 1) rfl
    try clear f1_1
    have f1_1 := frozen_of_heap h1 1
    try clear c1_2
    have c1_2 := cell_of_heap h1 (j := 2) rfl
    try clear f1_2
    have f1_2 := frozen_of_heap h1 2
    try clear c1_3
    have c1_3 := cell_of_heap h1 (j := 3) rfl
    try clear f1_3
    have f1_3 := frozen_of_heap h1 3
    try clear c1_4
    have c1_4 := cell_of_heap h1 (j := 4) rfl
    try clear f1_4
    have f1_4 := frozen_of_heap h1 4
    try clear c1_5
    have c1_5 := cell_of_heap h1 (j := 5) rfl
    try clear f1_5
    have f1_5 := frozen_of_heap h1 5
    try clear c2_0
    have c2_0 := cell_of_heap h2 (j := 0) rfl
    try clear f2_0
    have f2_0 := frozen_of_heap h2 0
    try clear c2_1
    have c2_1 := cell_of_heap h2 (j := 1) rfl
    try clear f2_1
    have f2_1 := frozen_of_heap h2 1
    try clear c2_2
    have c2_2 := cell_of_heap h2 (j := 2) rfl
    try clear f2_2
    have f2_2 := frozen_of_heap h2 2
    try clear c2_3
    have c2_3 := cell_of_heap h2 (j := 3) rfl
    try clear f2_3
    have f2_3 := frozen_of_heap h2 3
    try clear c2_4
    have c2_4 := cell_of_heap h2 (j := 4) rfl
    try clear f2_4
    have f2_4 := frozen_of_heap h2 4
    try clear c2_5
    have c2_5 := cell_of_heap h2 (j := 5) rfl
    try clear f2_5
    have f2_5 := frozen_of_heap h2 5
    go_wp2_with fail
    have q1 := (Below.heap_setCell w1 ⟨w.heap.size + 1 + 1, 0, none⟩ (.int .i64 0) (w.heap.size) (by first | omega | assumption | (apply Ne.symm; assumption) | (simp; done) | (simp; omega))).trans h0
    have q2 := (Below.heap_setCell w1 ⟨w.heap.size + 1 + 1, 0, none⟩ (.int .i64 0) (w.heap.size + 1) (by first | omega | assumption | (apply Ne.symm; assumption) | (simp; done) | (simp; omega))).trans h1
    have q3 := heap_setCell_same w1 (w.heap.size + 1 + 1) 0 _ _ (.int .i64 0) h2
    have q4 := (Below.heap_setCell (w1.setCell ⟨w.heap.size + 1 + 1, 0, none⟩ (.int .i64 0)) ⟨w.heap.size + 1 + 1, 1, none⟩ (.int .i64 0) (w.heap.size) (by first | omega | assumption | (apply Ne.symm; assumption) | (simp; done) | (simp; omega))).trans q1
    have q5 := (Below.heap_setCell (w1.setCell ⟨w.heap.size + 1 + 1, 0, none⟩ (.int .i64 0)) ⟨w.heap.size + 1 + 1, 1, none⟩ (.int .i64 0) (w.heap.size + 1) (by first | omega | assumption | (apply Ne.symm; assumption) | (simp; done) | (simp; omega))).trans q2
    have q6 := heap_setCell_same (w1.setCell ⟨w.heap.size + 1 + 1, 0, none⟩ (.int .i64 0)) (w.heap.size + 1 + 1) 1 _ _ (.int .i64 0) q3
    have q7 := (Below.heap_setCell ((w1.setCell ⟨w.heap.size + 1 + 1, 0, none⟩ (.int .i64 0)).setCell ⟨w.heap.size + 1 + 1, 1, none⟩ (.int .i64 0)) ⟨w.heap.size + 1 + 1, 2, none⟩ (.int .i64 0) (w.heap.size) (by first | omega | assumption | (apply Ne.symm; assumption) | (simp; done) | (simp; omega))).trans q4
    have q8 := (Below.heap_setCell ((w1.setCell ⟨w.heap.size + 1 + 1, 0, none⟩ (.int .i64 0)).setCell ⟨w.heap.size + 1 + 1, 1, none⟩ (.int .i64 0)) ⟨w.heap.size + 1 + 1, 2, none⟩ (.int .i64 0) (w.heap.size + 1) (by first | omega | assumption | (apply Ne.symm; assumption) | (simp; done) | (simp; omega))).trans q5
    have q9 := heap_setCell_same ((w1.setCell ⟨w.heap.size + 1 + 1, 0, none⟩ (.int .i64 0)).setCell ⟨w.heap.size + 1 + 1, 1, none⟩ (.int .i64 0)) (w.heap.size + 1 + 1) 2 _ _ (.int .i64 0) q6
    have q10 := (Below.heap_setCell (((w1.setCell ⟨w.heap.size + 1 + 1, 0, none⟩ (.int .i64 0)).setCell ⟨w.heap.size + 1 + 1, 1, none⟩ (.int .i64 0)).setCell ⟨w.heap.size + 1 + 1, 2, none⟩ (.int .i64 0)) ⟨w.heap.size + 1 + 1, 3, none⟩ (.int .i64 0) (w.heap.size) (by first | omega | assumption | (apply Ne.symm; assumption) | (simp; done) | (simp; omega))).trans q7
    have q11 := (Below.heap_setCell (((w1.setCell ⟨w.heap.size + 1 + 1, 0, none⟩ (.int .i64 0)).setCell ⟨w.heap.size + 1 + 1, 1, none⟩ (.int .i64 0)).setCell ⟨w.heap.size + 1 + 1, 2, none⟩ (.int .i64 0)) ⟨w.heap.size + 1 + 1, 3, none⟩ (.int .i64 0) (w.heap.size + 1) (by first | omega | assumption | (apply Ne.symm; assumption) | (simp; done) | (simp; omega))).trans q8
    have q12 := heap_setCell_same (((w1.setCell ⟨w.heap.size + 1 + 1, 0, none⟩ (.int .i64 0)).setCell ⟨w.heap.size + 1 + 1, 1, none⟩ (.int .i64 0)).setCell ⟨w.heap.size + 1 + 1, 2, none⟩ (.int .i64 0)) (w.heap.size + 1 + 1) 3 _ _ (.int .i64 0) q9
    have q13 := (Below.heap_setCell ((((w1.setCell ⟨w.heap.size + 1 + 1, 0, none⟩ (.int .i64 0)).setCell ⟨w.heap.size + 1 + 1, 1, none⟩ (.int .i64 0)).setCell ⟨w.heap.size + 1 + 1, 2, none⟩ (.int .i64 0)).setCell ⟨w.heap.size + 1 + 1, 3, none⟩ (.int .i64 0)) ⟨w.heap.size + 1 + 1, 4, none⟩ (.int .i64 0) (w.heap.size) (by first | omega | assumption | (apply Ne.symm; assumption) | (simp; done) | (simp; omega))).trans q10
    have q14 := (Below.heap_setCell ((((w1.setCell ⟨w.heap.size + 1 + 1, 0, none⟩ (.int .i64 0)).setCell ⟨w.heap.size + 1 + 1, 1, none⟩ (.int .i64 0)).setCell ⟨w.heap.size + 1 + 1, 2, none⟩ (.int .i64 0)).setCell ⟨w.heap.size + 1 + 1, 3, none⟩ (.int .i64 0)) ⟨w.heap.size + 1 + 1, 4, none⟩ (.int .i64 0) (w.heap.size + 1) (by first | omega | assumption | (apply Ne.symm; assumption) | (simp; done) | (simp; omega))).trans q11
    have q15 := heap_setCell_same ((((w1.setCell ⟨w.heap.size + 1 + 1, 0, none⟩ (.int .i64 0)).setCell ⟨w.heap.size + 1 + 1, 1, none⟩ (.int .i64 0)).setCell ⟨w.heap.size + 1 + 1, 2, none⟩ (.int .i64 0)).setCell ⟨w.heap.size + 1 + 1, 3, none⟩ (.int .i64 0)) (w.heap.size + 1 + 1) 4 _ _ (.int .i64 0) q12
    have q16 := (Below.heap_setCell (((((w1.setCell ⟨w.heap.size + 1 + 1, 0, none⟩ (.int .i64 0)).setCell ⟨w.heap.size + 1 + 1, 1, none⟩ (.int .i64 0)).setCell ⟨w.heap.size + 1 + 1, 2, none⟩ (.int .i64 0)).setCell ⟨w.heap.size + 1 + 1, 3, none⟩ (.int .i64 0)).setCell ⟨w.heap.size + 1 + 1, 4, none⟩ (.int .i64 0)) ⟨w.heap.size + 1 + 1, 5, none⟩ (.int .i64 0) (w.heap.size) (by first | omega | assumption | (apply Ne.symm; assumption) | (simp; done) | (simp; omega))).trans q13
    have q17 := (Below.heap_setCell (((((w1.setCell ⟨w.heap.size + 1 + 1, 0, none⟩ (.int .i64 0)).setCell ⟨w.heap.size + 1 + 1, 1, none⟩ (.int .i64 0)).setCell ⟨w.heap.size + 1 + 1, 2, none⟩ (.int .i64 0)).setCell ⟨w.heap.size + 1 + 1, 3, none⟩ (.int .i64 0)).setCell ⟨w.heap.size + 1 + 1, 4, none⟩ (.int .i64 0)) ⟨w.heap.size + 1 + 1, 5, none⟩ (.int .i64 0) (w.heap.size + 1) (by first | omega | assumption | (apply Ne.symm; assumption) | (simp; done) | (simp; omega))).trans q14
    have q18 := heap_setCell_same (((((w1.setCell ⟨w.heap.size + 1 + 1, 0, none⟩ (.int .i64 0)).setCell ⟨w.heap.size + 1 + 1, 1, none⟩ (.int .i64 0)).setCell ⟨w.heap.size + 1 + 1, 2, none⟩ (.int .i64 0)).setCell ⟨w.heap.size + 1 + 1, 3, none⟩ (.int .i64 0)).setCell ⟨w.heap.size + 1 + 1, 4, none⟩ (.int .i64 0)) (w.heap.size + 1 + 1) 5 _ _ (.int .i64 0) q15
    obtain ⟨w2, hw2⟩ : ∃ W, W = ((((((w1.setCell ⟨w.heap.size + 1 + 1, 0, none⟩ (.int .i64 0)).setCell ⟨w.heap.size + 1 + 1, 1, none⟩ (.int .i64 0)).setCell ⟨w.heap.size + 1 + 1, 2, none⟩ (.int .i64 0)).setCell ⟨w.heap.size + 1 + 1, 3, none⟩ (.int .i64 0)).setCell ⟨w.heap.size + 1 + 1, 4, none⟩ (.int .i64 0)).setCell ⟨w.heap.size + 1 + 1, 5, none⟩ (.int .i64 0)) := ⟨_, rfl⟩
    rw [← hw2]
    replace h0 : w2.heap[w.heap.size]? = some (.cells #[.int .i64 m.m.a, .int .i64 m.m.b, .int .i64 m.m.c, .int .i64 m.m.d, .int .i64 m.t.x, .int .i64 m.t.y] 49 (0, 0)) := by rw [hw2]; exact q16
    replace h1 : w2.heap[w.heap.size + 1]? = some (.cells #[.int .i64 n.m.a, .int .i64 n.m.b, .int .i64 n.m.c, .int .i64 n.m.d, .int .i64 n.t.x, .int .i64 n.t.y] 49 (0, 0)) := by rw [hw2]; exact q17
    replace h2 : w2.heap[w.heap.size + 1 + 1]? = some (.cells #[.int .i64 0, .int .i64 0, .int .i64 0, .int .i64 0, .int .i64 0, .int .i64 0] 49 (0, 0)) := by rw [hw2]; exact q18
    have D2 := Lib.hid (show Below w.heap.size w w2 by rw [hw2]; exact (Below.setCell (Below.setCell (Below.setCell (Below.setCell (Below.setCell (Below.setCell D1.out (p := ⟨w.heap.size + 1 + 1, 0, none⟩) (by first | omega | (simp; done) | (simp; omega)) (.int .i64 0)) (p := ⟨w.heap.size + 1 + 1, 1, none⟩) (by first | omega | (simp; done) | (simp; omega)) (.int .i64 0)) (p := ⟨w.heap.size + 1 + 1, 2, none⟩) (by first | omega | (simp; done) | (simp; omega)) (.int .i64 0)) (p := ⟨w.heap.size + 1 + 1, 3, none⟩) (by first | omega | (simp; done) | (simp; omega)) (.int .i64 0)) (p := ⟨w.heap.size + 1 + 1, 4, none⟩) (by first | omega | (simp; done) | (simp; omega)) (.int .i64 0)) (p := ⟨w.heap.size + 1 + 1, 5, none⟩) (by first | omega | (simp; done) | (simp; omega)) (.int .i64 0)))
    have z2 := D2.out.size
    have y2 : w2.heap.size = w1.heap.size := by rw [hw2]; simp
    clear q18 q17 q16 q15 q14 q13 q12 q11 q10 q9 q8 q7 q6 q5 q4 q3 q2 q1 hw2
    try clear c0_0
    have c0_0 := cell_of_heap h0 (j := 0) rfl
    try clear f0_0
    have f0_0 := frozen_of_heap h0 0
    try clear c0_1
    have c0_1 := cell_of_heap h0 (j := 1) rfl
    try clear f0_1
    have f0_1 := frozen_of_heap h0 1
    try clear c0_2
    have c0_2 := cell_of_heap h0 (j := 2) rfl
    try clear f0_2
    have f0_2 := frozen_of_heap h0 2
    try clear c0_3
    have c0_3 := cell_of_heap h0 (j := 3) rfl
    try clear f0_3
    have f0_3 := frozen_of_heap h0 3
    try clear c0_4
    have c0_4 := cell_of_heap h0 (j := 4) rfl
    try clear f0_4
    have f0_4 := frozen_of_heap h0 4
    try clear c0_5
    have c0_5 := cell_of_heap h0 (j := 5) rfl
    try clear f0_5
    have f0_5 := frozen_of_heap h0 5
    try clear c1_0
    have c1_0 := cell_of_heap h1 (j := 0) rfl
    try clear f1_0
    have f1_0 := frozen_of_heap h1 0
    try clear c1_1
    have c1_1 := cell_of_heap h1 (j := 1) rfl
    try clear f1_1
    have f1_1 := frozen_of_heap h1 1
    try clear c1_2
    have c1_2 := cell_of_heap h1 (j := 2) rfl
    try clear f1_2
    have f1_2 := frozen_of_heap h1 2
    try clear c1_3
    have c1_3 := cell_of_heap h1 (j := 3) rfl
    try clear f1_3
    have f1_3 := frozen_of_heap h1 3
    try clear c1_4
    have c1_4 := cell_of_heap h1 (j := 4) rfl
    try clear f1_4
    have f1_4 := frozen_of_heap h1 4
    try clear c1_5
    have c1_5 := cell_of_heap h1 (j := 5) rfl
    try clear f1_5
    have f1_5 := frozen_of_heap h1 5
    try clear c2_0
    have c2_0 := cell_of_heap h2 (j := 0) rfl
    try clear f2_0
    have f2_0 := frozen_of_heap h2 0
    try clear c2_1
    have c2_1 := cell_of_heap h2 (j := 1) rfl
    try clear f2_1
    have f2_1 := frozen_of_heap h2 1
    try clear c2_2
    have c2_2 := cell_of_heap h2 (j := 2) rfl
    try clear f2_2
    have f2_2 := frozen_of_heap h2 2
    try clear c2_3
    have c2_3 := cell_of_heap h2 (j := 3) rfl
    try clear f2_3
    have f2_3 := frozen_of_heap h2 3
    try clear c2_4
    have c2_4 := cell_of_heap h2 (j := 4) rfl
    try clear f2_4
    have f2_4 := frozen_of_heap h2 4
    try clear c2_5
    have c2_5 := cell_of_heap h2 (j := 5) rfl
    try clear f2_5
    have f2_5 := frozen_of_heap h2 5
    refine bodyPost_ret (results_bt rfl _ _ (w.heap.size + 1 + 1) rfl rfl h2 Tryd.underlying49 rfl (by kernel_rfl)) rfl ⟨rfl, D2.out⟩
  · cases k2
    · simp only [Bool.false_and, Bool.true_and, Bool.and_self, Bool.and_false, Bool.and_true, Bool.false_eq_true, if_true, if_false]
      go_enter Tryd.func31, Tryd.ntmps31
      go_wp2_with fail
      refine (H1.out _).mono ?_
      rintro e w1 ⟨rfl, hb⟩
      have h0 : w1.heap[w.heap.size]? = some (.cells #[.int .i64 m.m.a, .int .i64 m.m.b, .int .i64 m.m.c, .int .i64 m.m.d, .int .i64 m.t.x, .int .i64 m.t.y] 49 (0, 0)) := hb_below hb (by repeat (first | (refine hb_new ?_; (first | omega | (simp; omega) | (simp; done))) | (refine hb_old ?_ ?_; rotate_left; focus (first | omega | (simp; omega) | (simp; done))) | refine hb_drew ?_)) (by first | omega | (simp; omega) | (simp; done))
      have h1 : w1.heap[w.heap.size + 1]? = some (.cells #[.int .i64 n.m.a, .int .i64 n.m.b, .int .i64 n.m.c, .int .i64 n.m.d, .int .i64 n.t.x, .int .i64 n.t.y] 49 (0, 0)) := hb_below hb (by repeat (first | (refine hb_new ?_; (first | omega | (simp; omega) | (simp; done))) | (refine hb_old ?_ ?_; rotate_left; focus (first | omega | (simp; omega) | (simp; done))) | refine hb_drew ?_)) (by first | omega | (simp; omega) | (simp; done))
      have h2 : w1.heap[w.heap.size + 1 + 1]? = some (.cells #[.int .i64 0, .int .i64 0, .int .i64 0, .int .i64 0, .int .i64 0, .int .i64 0] 49 (0, 0)) := hb_below hb (by repeat (first | (refine hb_new ?_; (first | omega | (simp; omega) | (simp; done))) | (refine hb_old ?_ ?_; rotate_left; focus (first | omega | (simp; omega) | (simp; done))) | refine hb_drew ?_)) (by first | omega | (simp; omega) | (simp; done))
      have y1 := Below.size hb
      try simp only [World.size_alloc, World.size_drew] at y1
      have D1 := Lib.hid (show Below w.heap.size w w1 from Below.trans (by repeat (first | exact Below.refl _ _ | refine Below.alloc ?_ (by first | omega | (simp; omega) | (simp; done)) _)) (Below.mono hb (by first | omega | (simp; omega) | (simp; done))))
      have z1 := D1.out.size
      clear hb
      try clear c0_0
      have c0_0 := cell_of_heap h0 (j := 0) rfl
      try clear f0_0
      have f0_0 := frozen_of_heap h0 0
      try clear c0_1
      have c0_1 := cell_of_heap h0 (j := 1) rfl
      try clear f0_1
      have f0_1 := frozen_of_heap h0 1
      try clear c0_2
      have c0_2 := cell_of_heap h0 (j := 2) rfl
      try clear f0_2
      have f0_2 := frozen_of_heap h0 2
      try clear c0_3
      have c0_3 := cell_of_heap h0 (j := 3) rfl
      try clear f0_3
      have f0_3 := frozen_of_heap h0 3
      try clear c0_4
      have c0_4 := cell_of_heap h0 (j := 4) rfl
      try clear f0_4
      have f0_4 := frozen_of_heap h0 4
      try clear c0_5
      have c0_5 := cell_of_heap h0 (j := 5) rfl
      try clear f0_5
      have f0_5 := frozen_of_heap h0 5
      try clear c1_0
      have c1_0 := cell_of_heap h1 (j := 0) rfl
      try clear f1_0
      have f1_0 := frozen_of_heap h1 0
      try clear c1_1
      have c1_1 := cell_of_heap h1 (j := 1) rfl
      try clear f1_1
      have f1_1 := frozen_of_heap h1 1
      try clear c1_2
      have c1_2 := cell_of_heap h1 (j := 2) rfl
      try clear f1_2
      have f1_2 := frozen_of_heap h1 2
      try clear c1_3
      have c1_3 := cell_of_heap h1 (j := 3) rfl
      try clear f1_3
      have f1_3 := frozen_of_heap h1 3
      try clear c1_4
      have c1_4 := cell_of_heap h1 (j := 4) rfl
      try clear f1_4
      have f1_4 := frozen_of_heap h1 4
      try clear c1_5
      have c1_5 := cell_of_heap h1 (j := 5) rfl
      try clear f1_5
      have f1_5 := frozen_of_heap h1 5
      try clear c2_0
      have c2_0 := cell_of_heap h2 (j := 0) rfl
      try clear f2_0
      have f2_0 := frozen_of_heap h2 0
      try clear c2_1
      have c2_1 := cell_of_heap h2 (j := 1) rfl
      try clear f2_1
      have f2_1 := frozen_of_heap h2 1
      try clear c2_2
      have c2_2 := cell_of_heap h2 (j := 2) rfl
      try clear f2_2
      have f2_2 := frozen_of_heap h2 2
      try clear c2_3
      have c2_3 := cell_of_heap h2 (j := 3) rfl
      try clear f2_3
      have f2_3 := frozen_of_heap h2 3
      try clear c2_4
      have c2_4 := cell_of_heap h2 (j := 4) rfl
      try clear f2_4
      have f2_4 := frozen_of_heap h2 4
      try clear c2_5
      have c2_5 := cell_of_heap h2 (j := 5) rfl
      try clear f2_5
      have f2_5 := frozen_of_heap h2 5
      go_wp2_with fail
      refine (H2.out _).mono ?_
      rintro e w2 ⟨rfl, hb⟩
      replace h0 : w2.heap[w.heap.size]? = some (.cells #[.int .i64 m.m.a, .int .i64 m.m.b, .int .i64 m.m.c, .int .i64 m.m.d, .int .i64 m.t.x, .int .i64 m.t.y] 49 (0, 0)) := hb_below hb (by repeat (first | exact h0 | (refine hb_new ?_; (first | omega | (simp; omega) | (simp; done))) | (refine hb_old ?_ ?_; rotate_left; focus (first | omega | (simp; omega) | (simp; done))) | refine hb_drew ?_)) (by first | omega | (simp; omega) | (simp; done))
      replace h1 : w2.heap[w.heap.size + 1]? = some (.cells #[.int .i64 n.m.a, .int .i64 n.m.b, .int .i64 n.m.c, .int .i64 n.m.d, .int .i64 n.t.x, .int .i64 n.t.y] 49 (0, 0)) := hb_below hb (by repeat (first | exact h1 | (refine hb_new ?_; (first | omega | (simp; omega) | (simp; done))) | (refine hb_old ?_ ?_; rotate_left; focus (first | omega | (simp; omega) | (simp; done))) | refine hb_drew ?_)) (by first | omega | (simp; omega) | (simp; done))
      replace h2 : w2.heap[w.heap.size + 1 + 1]? = some (.cells #[.int .i64 0, .int .i64 0, .int .i64 0, .int .i64 0, .int .i64 0, .int .i64 0] 49 (0, 0)) := hb_below hb (by repeat (first | exact h2 | (refine hb_new ?_; (first | omega | (simp; omega) | (simp; done))) | (refine hb_old ?_ ?_; rotate_left; focus (first | omega | (simp; omega) | (simp; done))) | refine hb_drew ?_)) (by first | omega | (simp; omega) | (simp; done))
      have y2 := Below.size hb
      try simp only [World.size_alloc, World.size_drew] at y2
      have D2 := Lib.hid (show Below w.heap.size w w2 from Below.trans (by repeat (first | exact D1.out | exact Below.refl _ _ | refine Below.alloc ?_ (by first | omega | (simp; omega) | (simp; done)) _)) (Below.mono hb (by first | omega | (simp; omega) | (simp; done))))
      have z2 := D2.out.size
      clear hb
      try clear c0_0
      have c0_0 := cell_of_heap h0 (j := 0) rfl
      try clear f0_0
      have f0_0 := frozen_of_heap h0 0
      try clear c0_1
      have c0_1 := cell_of_heap h0 (j := 1) rfl
      try clear f0_1
      have f0_1 := frozen_of_heap h0 1
      try clear c0_2
      have c0_2 := cell_of_heap h0 (j := 2) rfl
      try clear f0_2
      have f0_2 := frozen_of_heap h0 2
      try clear c0_3
      have c0_3 := cell_of_heap h0 (j := 3) rfl
      try clear f0_3
      have f0_3 := frozen_of_heap h0 3
      try clear c0_4
      have c0_4 := cell_of_heap h0 (j := 4) rfl
      try clear f0_4
      have f0_4 := frozen_of_heap h0 4
      try clear c0_5
      have c0_5 := cell_of_heap h0 (j := 5) rfl
      try clear f0_5
      have f0_5 := frozen_of_heap h0 5
      try clear c1_0
      have c1_0 := cell_of_heap h1 (j := 0) rfl
      try clear f1_0
      have f1_0 := frozen_of_heap h1 0
      try clear c1_1
      have c1_1 := cell_of_heap h1 (j := 1) rfl
      try clear f1_1
      have f1_1 := frozen_of_heap h1 1
      try clear c1_2
      have c1_2 := cell_of_heap h1 (j := 2) rfl
      try clear f1_2
      have f1_2 := frozen_of_heap h1 2
      try clear c1_3
      have c1_3 := cell_of_heap h1 (j := 3) rfl
      try clear f1_3
      have f1_3 := frozen_of_heap h1 3
      try clear c1_4
      have c1_4 := cell_of_heap h1 (j := 4) rfl
      try clear f1_4
      have f1_4 := frozen_of_heap h1 4
      try clear c1_5
      have c1_5 := cell_of_heap h1 (j := 5) rfl
      try clear f1_5
      have f1_5 := frozen_of_heap h1 5
      try clear c2_0
      have c2_0 := cell_of_heap h2 (j := 0) rfl
      try clear f2_0
      have f2_0 := frozen_of_heap h2 0
      try clear c2_1
      have c2_1 := cell_of_heap h2 (j := 1) rfl
      try clear f2_1
      have f2_1 := frozen_of_heap h2 1
      try clear c2_2
      have c2_2 := cell_of_heap h2 (j := 2) rfl
      try clear f2_2
      have f2_2 := frozen_of_heap h2 2
      try clear c2_3
      have c2_3 := cell_of_heap h2 (j := 3) rfl
      try clear f2_3
      have f2_3 := frozen_of_heap h2 3
      try clear c2_4
      have c2_4 := cell_of_heap h2 (j := 4) rfl
      try clear f2_4
      have f2_4 := frozen_of_heap h2 4
      try clear c2_5
      have c2_5 := cell_of_heap h2 (j := 5) rfl
      try clear f2_5
      have f2_5 := frozen_of_heap h2 5
      go_wp2_with fail
      have q1 := (Below.heap_setCell w2 ⟨w.heap.size + 1 + 1, 0, none⟩ (.int .i64 0) (w.heap.size) (by first | omega | assumption | (apply Ne.symm; assumption) | (simp; done) | (simp; omega))).trans h0
      have q2 := (Below.heap_setCell w2 ⟨w.heap.size + 1 + 1, 0, none⟩ (.int .i64 0) (w.heap.size + 1) (by first | omega | assumption | (apply Ne.symm; assumption) | (simp; done) | (simp; omega))).trans h1
      have q3 := heap_setCell_same w2 (w.heap.size + 1 + 1) 0 _ _ (.int .i64 0) h2
      have q4 := (Below.heap_setCell (w2.setCell ⟨w.heap.size + 1 + 1, 0, none⟩ (.int .i64 0)) ⟨w.heap.size + 1 + 1, 1, none⟩ (.int .i64 0) (w.heap.size) (by first | omega | assumption | (apply Ne.symm; assumption) | (simp; done) | (simp; omega))).trans q1
      have q5 := (Below.heap_setCell (w2.setCell ⟨w.heap.size + 1 + 1, 0, none⟩ (.int .i64 0)) ⟨w.heap.size + 1 + 1, 1, none⟩ (.int .i64 0) (w.heap.size + 1) (by first | omega | assumption | (apply Ne.symm; assumption) | (simp; done) | (simp; omega))).trans q2
      have q6 := heap_setCell_same (w2.setCell ⟨w.heap.size + 1 + 1, 0, none⟩ (.int .i64 0)) (w.heap.size + 1 + 1) 1 _ _ (.int .i64 0) q3
      have q7 := (Below.heap_setCell ((w2.setCell ⟨w.heap.size + 1 + 1, 0, none⟩ (.int .i64 0)).setCell ⟨w.heap.size + 1 + 1, 1, none⟩ (.int .i64 0)) ⟨w.heap.size + 1 + 1, 2, none⟩ (.int .i64 0) (w.heap.size) (by first | omega | assumption | (apply Ne.symm; assumption) | (simp; done) | (simp; omega))).trans q4
      have q8 := (Below.heap_setCell ((w2.setCell ⟨w.heap.size + 1 + 1, 0, none⟩ (.int .i64 0)).setCell ⟨w.heap.size + 1 + 1, 1, none⟩ (.int .i64 0)) ⟨w.heap.size + 1 + 1, 2, none⟩ (.int .i64 0) (w.heap.size + 1) (by first | omega | assumption | (apply Ne.symm; assumption) | (simp; done) | (simp; omega))).trans q5
      have q9 := heap_setCell_same ((w2.setCell ⟨w.heap.size + 1 + 1, 0, none⟩ (.int .i64 0)).setCell ⟨w.heap.size + 1 + 1, 1, none⟩ (.int .i64 0)) (w.heap.size + 1 + 1) 2 _ _ (.int .i64 0) q6
      have q10 := (Below.heap_setCell (((w2.setCell ⟨w.heap.size + 1 + 1, 0, none⟩ (.int .i64 0)).setCell ⟨w.heap.size + 1 + 1, 1, none⟩ (.int .i64 0)).setCell ⟨w.heap.size + 1 + 1, 2, none⟩ (.int .i64 0)) ⟨w.heap.size + 1 + 1, 3, none⟩ (.int .i64 0) (w.heap.size) (by first | omega | assumption | (apply Ne.symm; assumption) | (simp; done) | (simp; omega))).trans q7
      have q11 := (Below.heap_setCell (((w2.setCell ⟨w.heap.size + 1 + 1, 0, none⟩ (.int .i64 0)).setCell ⟨w.heap.size + 1 + 1, 1, none⟩ (.int .i64 0)).setCell ⟨w.heap.size + 1 + 1, 2, none⟩ (.int .i64 0)) ⟨w.heap.size + 1 + 1, 3, none⟩ (.int .i64 0) (w.heap.size + 1) (by first | omega | assumption | (apply Ne.symm; assumption) | (simp; done) | (simp; omega))).trans q8
      have q12 := heap_setCell_same (((w2.setCell ⟨w.heap.size + 1 + 1, 0, none⟩ (.int .i64 0)).setCell ⟨w.heap.size + 1 + 1, 1, none⟩ (.int .i64 0)).setCell ⟨w.heap.size + 1 + 1, 2, none⟩ (.int .i64 0)) (w.heap.size + 1 + 1) 3 _ _ (.int .i64 0) q9
      have q13 := (Below.heap_setCell ((((w2.setCell ⟨w.heap.size + 1 + 1, 0, none⟩ (.int .i64 0)).setCell ⟨w.heap.size + 1 + 1, 1, none⟩ (.int .i64 0)).setCell ⟨w.heap.size + 1 + 1, 2, none⟩ (.int .i64 0)).setCell ⟨w.heap.size + 1 + 1, 3, none⟩ (.int .i64 0)) ⟨w.heap.size + 1 + 1, 4, none⟩ (.int .i64 0) (w.heap.size) (by first | omega | assumption | (apply Ne.symm; assumption) | (simp; done) | (simp; omega))).trans q10
      have q14 := (Below.heap_setCell ((((w2.setCell ⟨w.heap.size + 1 + 1, 0, none⟩ (.int .i64 0)).setCell ⟨w.heap.size + 1 + 1, 1, none⟩ (.int .i64 0)).setCell ⟨w.heap.size + 1 + 1, 2, none⟩ (.int .i64 0)).setCell ⟨w.heap.size + 1 + 1, 3, none⟩ (.int .i64 0)) ⟨w.heap.size + 1 + 1, 4, none⟩ (.int .i64 0) (w.heap.size + 1) (by first | omega | assumption | (apply Ne.symm; assumption) | (simp; done) | (simp; omega))).trans q11
      have q15 := heap_setCell_same ((((w2.setCell ⟨w.heap.size + 1 + 1, 0, none⟩ (.int .i64 0)).setCell ⟨w.heap.size + 1 + 1, 1, none⟩ (.int .i64 0)).setCell ⟨w.heap.size + 1 + 1, 2, none⟩ (.int .i64 0)).setCell ⟨w.heap.size + 1 + 1, 3, none⟩ (.int .i64 0)) (w.heap.size + 1 + 1) 4 _ _ (.int .i64 0) q12
      have q16 := (Below.heap_setCell (((((w2.setCell ⟨w.heap.size + 1 + 1, 0, none⟩ (.int .i64 0)).setCell ⟨w.heap.size + 1 + 1, 1, none⟩ (.int .i64 0)).setCell ⟨w.heap.size + 1 + 1, 2, none⟩ (.int .i64 0)).setCell ⟨w.heap.size + 1 + 1, 3, none⟩ (.int .i64 0)).setCell ⟨w.heap.size + 1 + 1, 4, none⟩ (.int .i64 0)) ⟨w.heap.size + 1 + 1, 5, none⟩ (.int .i64 0) (w.heap.size) (by first | omega | assumption | (apply Ne.symm; assumption) | (simp; done) | (simp; omega))).trans q13
      have q17 := (Below.heap_setCell (((((w2.setCell ⟨w.heap.size + 1 + 1, 0, none⟩ (.int .i64 0)).setCell ⟨w.heap.size + 1 + 1, 1, none⟩ (.int .i64 0)).setCell ⟨w.heap.size + 1 + 1, 2, none⟩ (.int .i64 0)).setCell ⟨w.heap.size + 1 + 1, 3, none⟩ (.int .i64 0)).setCell ⟨w.heap.size + 1 + 1, 4, none⟩ (.int .i64 0)) ⟨w.heap.size + 1 + 1, 5, none⟩ (.int .i64 0) (w.heap.size + 1) (by first | omega | assumption | (apply Ne.symm; assumption) | (simp; done) | (simp; omega))).trans q14
      have q18 := heap_setCell_same (((((w2.setCell ⟨w.heap.size + 1 + 1, 0, none⟩ (.int .i64 0)).setCell ⟨w.heap.size + 1 + 1, 1, none⟩ (.int .i64 0)).setCell ⟨w.heap.size + 1 + 1, 2, none⟩ (.int .i64 0)).setCell ⟨w.heap.size + 1 + 1, 3, none⟩ (.int .i64 0)).setCell ⟨w.heap.size + 1 + 1, 4, none⟩ (.int .i64 0)) (w.heap.size + 1 + 1) 5 _ _ (.int .i64 0) q15
      obtain ⟨w3, hw3⟩ : ∃ W, W = ((((((w2.setCell ⟨w.heap.size + 1 + 1, 0, none⟩ (.int .i64 0)).setCell ⟨w.heap.size + 1 + 1, 1, none⟩ (.int .i64 0)).setCell ⟨w.heap.size + 1 + 1, 2, none⟩ (.int .i64 0)).setCell ⟨w.heap.size + 1 + 1, 3, none⟩ (.int .i64 0)).setCell ⟨w.heap.size + 1 + 1, 4, none⟩ (.int .i64 0)).setCell ⟨w.heap.size + 1 + 1, 5, none⟩ (.int .i64 0)) := ⟨_, rfl⟩
      rw [← hw3]
      replace h0 : w3.heap[w.heap.size]? = some (.cells #[.int .i64 m.m.a, .int .i64 m.m.b, .int .i64 m.m.c, .int .i64 m.m.d, .int .i64 m.t.x, .int .i64 m.t.y] 49 (0, 0)) := by rw [hw3]; exact q16
      replace h1 : w3.heap[w.heap.size + 1]? = some (.cells #[.int .i64 n.m.a, .int .i64 n.m.b, .int .i64 n.m.c, .int .i64 n.m.d, .int .i64 n.t.x, .int .i64 n.t.y] 49 (0, 0)) := by rw [hw3]; exact q17
      replace h2 : w3.heap[w.heap.size + 1 + 1]? = some (.cells #[.int .i64 0, .int .i64 0, .int .i64 0, .int .i64 0, .int .i64 0, .int .i64 0] 49 (0, 0)) := by rw [hw3]; exact q18
      have D3 := Lib.hid (show Below w.heap.size w w3 by rw [hw3]; exact (Below.setCell (Below.setCell (Below.setCell (Below.setCell (Below.setCell (Below.setCell D2.out (p := ⟨w.heap.size + 1 + 1, 0, none⟩) (by first | omega | (simp; done) | (simp; omega)) (.int .i64 0)) (p := ⟨w.heap.size + 1 + 1, 1, none⟩) (by first | omega | (simp; done) | (simp; omega)) (.int .i64 0)) (p := ⟨w.heap.size + 1 + 1, 2, none⟩) (by first | omega | (simp; done) | (simp; omega)) (.int .i64 0)) (p := ⟨w.heap.size + 1 + 1, 3, none⟩) (by first | omega | (simp; done) | (simp; omega)) (.int .i64 0)) (p := ⟨w.heap.size + 1 + 1, 4, none⟩) (by first | omega | (simp; done) | (simp; omega)) (.int .i64 0)) (p := ⟨w.heap.size + 1 + 1, 5, none⟩) (by first | omega | (simp; done) | (simp; omega)) (.int .i64 0)))
      have z3 := D3.out.size
      have y3 : w3.heap.size = w2.heap.size := by rw [hw3]; simp
      clear q18 q17 q16 q15 q14 q13 q12 q11 q10 q9 q8 q7 q6 q5 q4 q3 q2 q1 hw3
      try clear c0_0
      have c0_0 := cell_of_heap h0 (j := 0) rfl
      try clear f0_0
      have f0_0 := frozen_of_heap h0 0
      try clear c0_1
      have c0_1 := cell_of_heap h0 (j := 1) rfl
      try clear f0_1
      have f0_1 := frozen_of_heap h0 1
      try clear c0_2
      have c0_2 := cell_of_heap h0 (j := 2) rfl
      try clear f0_2
      have f0_2 := frozen_of_heap h0 2
      try clear c0_3
      have c0_3 := cell_of_heap h0 (j := 3) rfl
      try clear f0_3
      have f0_3 := frozen_of_heap h0 3
      try clear c0_4
      have c0_4 := cell_of_heap h0 (j := 4) rfl
      try clear f0_4
      have f0_4 := frozen_of_heap h0 4
      try clear c0_5
      have c0_5 := cell_of_heap h0 (j := 5) rfl
      try clear f0_5
      have f0_5 := frozen_of_heap h0 5
      try clear c1_0
      have c1_0 := cell_of_heap h1 (j := 0) rfl
      try clear f1_0
      have f1_0 := frozen_of_heap h1 0
      try clear c1_1
      have c1_1 := cell_of_heap h1 (j := 1) rfl
      try clear f1_1
      have f1_1 := frozen_of_heap h1 1
      try clear c1_2
      have c1_2 := cell_of_heap h1 (j := 2) rfl
      try clear f1_2
      have f1_2 := frozen_of_heap h1 2
      try clear c1_3
      have c1_3 := cell_of_heap h1 (j := 3) rfl
      try clear f1_3
      have f1_3 := frozen_of_heap h1 3
      try clear c1_4
      have c1_4 := cell_of_heap h1 (j := 4) rfl
      try clear f1_4
      have f1_4 := frozen_of_heap h1 4
      try clear c1_5
      have c1_5 := cell_of_heap h1 (j := 5) rfl
      try clear f1_5
      have f1_5 := frozen_of_heap h1 5
      try clear c2_0
      have c2_0 := cell_of_heap h2 (j := 0) rfl
      try clear f2_0
      have f2_0 := frozen_of_heap h2 0
      try clear c2_1
      have c2_1 := cell_of_heap h2 (j := 1) rfl
      try clear f2_1
      have f2_1 := frozen_of_heap h2 1
      try clear c2_2
      have c2_2 := cell_of_heap h2 (j := 2) rfl
      try clear f2_2
      have f2_2 := frozen_of_heap h2 2
      try clear c2_3
      have c2_3 := cell_of_heap h2 (j := 3) rfl
      try clear f2_3
      have f2_3 := frozen_of_heap h2 3
      try clear c2_4
      have c2_4 := cell_of_heap h2 (j := 4) rfl
      try clear f2_4
      have f2_4 := frozen_of_heap h2 4
      try clear c2_5
      have c2_5 := cell_of_heap h2 (j := 5) rfl
      try clear f2_5
      have f2_5 := frozen_of_heap h2 5
      refine bodyPost_ret (results_bt rfl _ _ (w.heap.size + 1 + 1) rfl rfl h2 Tryd.underlying49 rfl (by kernel_rfl)) rfl ⟨rfl, D3.out⟩
    · simp only [Bool.false_and, Bool.true_and, Bool.and_self, Bool.and_false, Bool.and_true, Bool.false_eq_true, if_true, if_false]
      go_enter Tryd.func31, Tryd.ntmps31
      go_wp2_with fail
      refine (H1.out _).mono ?_
      rintro e w1 ⟨rfl, hb⟩
      have h0 : w1.heap[w.heap.size]? = some (.cells #[.int .i64 m.m.a, .int .i64 m.m.b, .int .i64 m.m.c, .int .i64 m.m.d, .int .i64 m.t.x, .int .i64 m.t.y] 49 (0, 0)) := hb_below hb (by repeat (first | (refine hb_new ?_; (first | omega | (simp; omega) | (simp; done))) | (refine hb_old ?_ ?_; rotate_left; focus (first | omega | (simp; omega) | (simp; done))) | refine hb_drew ?_)) (by first | omega | (simp; omega) | (simp; done))
      have h1 : w1.heap[w.heap.size + 1]? = some (.cells #[.int .i64 n.m.a, .int .i64 n.m.b, .int .i64 n.m.c, .int .i64 n.m.d, .int .i64 n.t.x, .int .i64 n.t.y] 49 (0, 0)) := hb_below hb (by repeat (first | (refine hb_new ?_; (first | omega | (simp; omega) | (simp; done))) | (refine hb_old ?_ ?_; rotate_left; focus (first | omega | (simp; omega) | (simp; done))) | refine hb_drew ?_)) (by first | omega | (simp; omega) | (simp; done))
      have h2 : w1.heap[w.heap.size + 1 + 1]? = some (.cells #[.int .i64 0, .int .i64 0, .int .i64 0, .int .i64 0, .int .i64 0, .int .i64 0] 49 (0, 0)) := hb_below hb (by repeat (first | (refine hb_new ?_; (first | omega | (simp; omega) | (simp; done))) | (refine hb_old ?_ ?_; rotate_left; focus (first | omega | (simp; omega) | (simp; done))) | refine hb_drew ?_)) (by first | omega | (simp; omega) | (simp; done))
      have y1 := Below.size hb
      try simp only [World.size_alloc, World.size_drew] at y1
      have D1 := Lib.hid (show Below w.heap.size w w1 from Below.trans (by repeat (first | exact Below.refl _ _ | refine Below.alloc ?_ (by first | omega | (simp; omega) | (simp; done)) _)) (Below.mono hb (by first | omega | (simp; omega) | (simp; done))))
      have z1 := D1.out.size
      clear hb
      try clear c0_0
      have c0_0 := cell_of_heap h0 (j := 0) rfl
      try clear f0_0
      have f0_0 := frozen_of_heap h0 0
      try clear c0_1
      have c0_1 := cell_of_heap h0 (j := 1) rfl
      try clear f0_1
      have f0_1 := frozen_of_heap h0 1
      try clear c0_2
      have c0_2 := cell_of_heap h0 (j := 2) rfl
      try clear f0_2
      have f0_2 := frozen_of_heap h0 2
      try clear c0_3
      have c0_3 := cell_of_heap h0 (j := 3) rfl
      try clear f0_3
      have f0_3 := frozen_of_heap h0 3
      try clear c0_4
      have c0_4 := cell_of_heap h0 (j := 4) rfl
      try clear f0_4
      have f0_4 := frozen_of_heap h0 4
      try clear c0_5
      have c0_5 := cell_of_heap h0 (j := 5) rfl
      try clear f0_5
      have f0_5 := frozen_of_heap h0 5
      try clear c1_0
      have c1_0 := cell_of_heap h1 (j := 0) rfl
      try clear f1_0
      have f1_0 := frozen_of_heap h1 0
      try clear c1_1
      have c1_1 := cell_of_heap h1 (j := 1) rfl
      try clear f1_1
      have f1_1 := frozen_of_heap h1 1
      try clear c1_2
      have c1_2 := cell_of_heap h1 (j := 2) rfl
      try clear f1_2
      have f1_2 := frozen_of_heap h1 2
      try clear c1_3
      have c1_3 := cell_of_heap h1 (j := 3) rfl
      try clear f1_3
      have f1_3 := frozen_of_heap h1 3
      try clear c1_4
      have c1_4 := cell_of_heap h1 (j := 4) rfl
      try clear f1_4
      have f1_4 := frozen_of_heap h1 4
      try clear c1_5
      have c1_5 := cell_of_heap h1 (j := 5) rfl
      try clear f1_5
      have f1_5 := frozen_of_heap h1 5
      try clear c2_0
      have c2_0 := cell_of_heap h2 (j := 0) rfl
      try clear f2_0
      have f2_0 := frozen_of_heap h2 0
      try clear c2_1
      have c2_1 := cell_of_heap h2 (j := 1) rfl
      try clear f2_1
      have f2_1 := frozen_of_heap h2 1
      try clear c2_2
      have c2_2 := cell_of_heap h2 (j := 2) rfl
      try clear f2_2
      have f2_2 := frozen_of_heap h2 2
      try clear c2_3
      have c2_3 := cell_of_heap h2 (j := 3) rfl
      try clear f2_3
      have f2_3 := frozen_of_heap h2 3
      try clear c2_4
      have c2_4 := cell_of_heap h2 (j := 4) rfl
      try clear f2_4
      have f2_4 := frozen_of_heap h2 4
      try clear c2_5
      have c2_5 := cell_of_heap h2 (j := 5) rfl
      try clear f2_5
      have f2_5 := frozen_of_heap h2 5
      go_wp2_with fail
      refine (H2.out _).mono ?_
      rintro e w2 ⟨rfl, hb⟩
      replace h0 : w2.heap[w.heap.size]? = some (.cells #[.int .i64 m.m.a, .int .i64 m.m.b, .int .i64 m.m.c, .int .i64 m.m.d, .int .i64 m.t.x, .int .i64 m.t.y] 49 (0, 0)) := hb_below hb (by repeat (first | exact h0 | (refine hb_new ?_; (first | omega | (simp; omega) | (simp; done))) | (refine hb_old ?_ ?_; rotate_left; focus (first | omega | (simp; omega) | (simp; done))) | refine hb_drew ?_)) (by first | omega | (simp; omega) | (simp; done))
      replace h1 : w2.heap[w.heap.size + 1]? = some (.cells #[.int .i64 n.m.a, .int .i64 n.m.b, .int .i64 n.m.c, .int .i64 n.m.d, .int .i64 n.t.x, .int .i64 n.t.y] 49 (0, 0)) := hb_below hb (by repeat (first | exact h1 | (refine hb_new ?_; (first | omega | (simp; omega) | (simp; done))) | (refine hb_old ?_ ?_; rotate_left; focus (first | omega | (simp; omega) | (simp; done))) | refine hb_drew ?_)) (by first | omega | (simp; omega) | (simp; done))
      replace h2 : w2.heap[w.heap.size + 1 + 1]? = some (.cells #[.int .i64 0, .int .i64 0, .int .i64 0, .int .i64 0, .int .i64 0, .int .i64 0] 49 (0, 0)) := hb_below hb (by repeat (first | exact h2 | (refine hb_new ?_; (first | omega | (simp; omega) | (simp; done))) | (refine hb_old ?_ ?_; rotate_left; focus (first | omega | (simp; omega) | (simp; done))) | refine hb_drew ?_)) (by first | omega | (simp; omega) | (simp; done))
      have y2 := Below.size hb
      try simp only [World.size_alloc, World.size_drew] at y2
      have D2 := Lib.hid (show Below w.heap.size w w2 from Below.trans (by repeat (first | exact D1.out | exact Below.refl _ _ | refine Below.alloc ?_ (by first | omega | (simp; omega) | (simp; done)) _)) (Below.mono hb (by first | omega | (simp; omega) | (simp; done))))
      have z2 := D2.out.size
      clear hb
      try clear c0_0
      have c0_0 := cell_of_heap h0 (j := 0) rfl
      try clear f0_0
      have f0_0 := frozen_of_heap h0 0
      try clear c0_1
      have c0_1 := cell_of_heap h0 (j := 1) rfl
      try clear f0_1
      have f0_1 := frozen_of_heap h0 1
      try clear c0_2
      have c0_2 := cell_of_heap h0 (j := 2) rfl
      try clear f0_2
      have f0_2 := frozen_of_heap h0 2
      try clear c0_3
      have c0_3 := cell_of_heap h0 (j := 3) rfl
      try clear f0_3
      have f0_3 := frozen_of_heap h0 3
      try clear c0_4
      have c0_4 := cell_of_heap h0 (j := 4) rfl
      try clear f0_4
      have f0_4 := frozen_of_heap h0 4
      try clear c0_5
      have c0_5 := cell_of_heap h0 (j := 5) rfl
      try clear f0_5
      have f0_5 := frozen_of_heap h0 5
      try clear c1_0
      have c1_0 := cell_of_heap h1 (j := 0) rfl
      try clear f1_0
      have f1_0 := frozen_of_heap h1 0
      try clear c1_1
      have c1_1 := cell_of_heap h1 (j := 1) rfl
      try clear f1_1
      have f1_1 := frozen_of_heap h1 1
      try clear c1_2
      have c1_2 := cell_of_heap h1 (j := 2) rfl
      try clear f1_2
      have f1_2 := frozen_of_heap h1 2
      try clear c1_3
      have c1_3 := cell_of_heap h1 (j := 3) rfl
      try clear f1_3
      have f1_3 := frozen_of_heap h1 3
      try clear c1_4
      have c1_4 := cell_of_heap h1 (j := 4) rfl
      try clear f1_4
      have f1_4 := frozen_of_heap h1 4
      try clear c1_5
      have c1_5 := cell_of_heap h1 (j := 5) rfl
      try clear f1_5
      have f1_5 := frozen_of_heap h1 5
      try clear c2_0
      have c2_0 := cell_of_heap h2 (j := 0) rfl
      try clear f2_0
      have f2_0 := frozen_of_heap h2 0
      try clear c2_1
      have c2_1 := cell_of_heap h2 (j := 1) rfl
      try clear f2_1
      have f2_1 := frozen_of_heap h2 1
      try clear c2_2
      have c2_2 := cell_of_heap h2 (j := 2) rfl
      try clear f2_2
      have f2_2 := frozen_of_heap h2 2
      try clear c2_3
      have c2_3 := cell_of_heap h2 (j := 3) rfl
      try clear f2_3
      have f2_3 := frozen_of_heap h2 3
      try clear c2_4
      have c2_4 := cell_of_heap h2 (j := 4) rfl
      try clear f2_4
      have f2_4 := frozen_of_heap h2 4
      try clear c2_5
      have c2_5 := cell_of_heap h2 (j := 5) rfl
      try clear f2_5
      have f2_5 := frozen_of_heap h2 5
      go_wp2_with fail
      try clear c0_0
      try clear f0_0
      try clear c0_1
      try clear f0_1
      try clear c0_2
      try clear f0_2
      try clear c0_3
      try clear f0_3
      try clear c0_4
      try clear f0_4
      try clear c0_5
      try clear f0_5
      try clear c1_0
      try clear f1_0
      try clear c1_1
      try clear f1_1
      try clear c1_2
      try clear f1_2
      try clear c1_3
      try clear f1_3
      try clear c1_4
      try clear f1_4
      try clear c1_5
      try clear f1_5
      try clear c2_0
      try clear f2_0
      try clear c2_1
      try clear f2_1
      try clear c2_2
      try clear f2_2
      try clear c2_3
      try clear f2_3
      try clear c2_4
      try clear f2_4
      try clear c2_5
      try clear f2_5
      refine wp_region_alloc 10 11 [10] (fun _ => .cells #[.int .i64 0, .int .i64 0, .int .i64 0, .int .i64 0, .int .i64 0, .int .i64 0] 49 (0, 0)) (by kernel_rfl) (by kernel_rfl) ?_ ?_
      · intro i o h1 h2 ho
        have hi : i = 10 := by omega
        subst hi; (simp only [List.getElem?_toArray, List.getElem?_cons_succ, List.getElem?_cons_zero, Option.some.injEq] at ho; subst ho; exact ⟨rfl, fun a w => by go_simp; try rfl⟩)
      simp only [List.take_succ_cons, List.take_zero, List.drop_succ_cons, List.drop_zero]
      refine lex_still rfl _ (fun w => by go_simp; rfl) ?_
      simp only [Act.put, List.setIfInBounds_toArray, List.set_cons_zero, List.set_cons_succ]
      refine lex_load rfl _ _ rfl _ _ rfl [.int .i64 m.m.a, .int .i64 m.m.b, .int .i64 m.m.c, .int .i64 m.m.d] _ (fun w' h => range_part (range_of_heap (hb_below h h0 (by first | omega | (simp; omega) | (simp; done)))) 0 4) Tryd.underlying40 rfl (by kernel_rfl) ?_
      simp only [Act.put, List.setIfInBounds_toArray, List.set_cons_zero, List.set_cons_succ]
      refine lex_still rfl _ (fun w => by go_simp; rfl) ?_
      simp only [Act.put, List.setIfInBounds_toArray, List.set_cons_zero, List.set_cons_succ]
      refine lex_load rfl _ _ rfl _ _ rfl [.int .i64 n.m.a, .int .i64 n.m.b, .int .i64 n.m.c, .int .i64 n.m.d] _ (fun w' h => range_part (range_of_heap (hb_below h h1 (by first | omega | (simp; omega) | (simp; done)))) 0 4) Tryd.underlying40 rfl (by kernel_rfl) ?_
      simp only [Act.put, List.setIfInBounds_toArray, List.set_cons_zero, List.set_cons_succ]
      refine lex_call rfl 64 _ _ rfl (enter_of Tryd.func64 (by decide) (by intro h; cases h)) _ (H3.out) ?_
      simp only [Act.put, List.setIfInBounds_toArray, List.set_cons_zero, List.set_cons_succ]
      refine lex_load rfl _ _ rfl _ _ rfl [.int .i64 m.m.a, .int .i64 m.m.b, .int .i64 m.m.c, .int .i64 m.m.d, .int .i64 m.t.x, .int .i64 m.t.y] _ (fun w' h => range_of_heap (hb_below h h0 (by first | omega | (simp; omega) | (simp; done)))) Tryd.underlying49 rfl (by kernel_rfl) ?_
      simp only [Act.put, List.setIfInBounds_toArray, List.set_cons_zero, List.set_cons_succ]
      refine lex_still rfl _ (fun w => by go_simp; rfl) ?_
      simp only [Act.put, List.setIfInBounds_toArray, List.set_cons_zero, List.set_cons_succ]
      refine lex_load rfl _ _ rfl _ _ rfl [.int .i64 n.t.x, .int .i64 n.t.y] _ (fun w' h => range_part (range_of_heap (hb_below h h1 (by first | omega | (simp; omega) | (simp; done)))) 4 2) Tryd.underlying25 rfl (by kernel_rfl) ?_
      simp only [Act.put, List.setIfInBounds_toArray, List.set_cons_zero, List.set_cons_succ]
      refine lex_call rfl 72 _ _ rfl (enter_of Tryd.func72 (by decide) (by intro h; cases h)) _ (H4.out) ?_
      simp only [Act.put, List.setIfInBounds_toArray, List.set_cons_zero, List.set_cons_succ]
      refine lex_still rfl _ (fun w => by go_simp; rfl) ?_
      simp only [Act.put, List.setIfInBounds_toArray, List.set_cons_zero, List.set_cons_succ]
      refine aph1' 10 6 rfl ?_
      intro b3 w3 hb hF hD
      simp only [List.drop_succ_cons, List.drop_zero]
      simp only [Act.put, List.setIfInBounds_toArray, List.set_cons_zero, List.set_cons_succ]
      replace h0 : w3.heap[w.heap.size]? = some (.cells #[.int .i64 m.m.a, .int .i64 m.m.b, .int .i64 m.m.c, .int .i64 m.m.d, .int .i64 m.t.x, .int .i64 m.t.y] 49 (0, 0)) := hb_below hb (by repeat (first | exact h0 | (refine hb_new ?_; (first | omega | (simp; omega) | (simp; done))) | (refine hb_old ?_ ?_; rotate_left; focus (first | omega | (simp; omega) | (simp; done))) | refine hb_drew ?_)) (by first | omega | (simp; omega) | (simp; done))
      replace h1 : w3.heap[w.heap.size + 1]? = some (.cells #[.int .i64 n.m.a, .int .i64 n.m.b, .int .i64 n.m.c, .int .i64 n.m.d, .int .i64 n.t.x, .int .i64 n.t.y] 49 (0, 0)) := hb_below hb (by repeat (first | exact h1 | (refine hb_new ?_; (first | omega | (simp; omega) | (simp; done))) | (refine hb_old ?_ ?_; rotate_left; focus (first | omega | (simp; omega) | (simp; done))) | refine hb_drew ?_)) (by first | omega | (simp; omega) | (simp; done))
      replace h2 : w3.heap[w.heap.size + 1 + 1]? = some (.cells #[.int .i64 0, .int .i64 0, .int .i64 0, .int .i64 0, .int .i64 0, .int .i64 0] 49 (0, 0)) := hb_below hb (by repeat (first | exact h2 | (refine hb_new ?_; (first | omega | (simp; omega) | (simp; done))) | (refine hb_old ?_ ?_; rotate_left; focus (first | omega | (simp; omega) | (simp; done))) | refine hb_drew ?_)) (by first | omega | (simp; omega) | (simp; done))
      have g3 : w2.heap.size ≤ b3 := (hF 10 (by decide) (by decide)).1
      have l3 : b3 < w3.heap.size := (hF 10 (by decide) (by decide)).2.1
      have h3 : w3.heap[b3]? = some (.cells #[.int .i64 0, .int .i64 0, .int .i64 0, .int .i64 0, .int .i64 0, .int .i64 0] 49 (0, 0)) := (hF 10 (by decide) (by decide)).2.2
      clear hF hD
      have y3 := Below.size hb
      try simp only [World.size_alloc, World.size_drew] at y3
      have D3 := Lib.hid (show Below w.heap.size w w3 from Below.trans (by repeat (first | exact D2.out | exact Below.refl _ _ | refine Below.alloc ?_ (by first | omega | (simp; omega) | (simp; done)) _)) (Below.mono hb (by first | omega | (simp; omega) | (simp; done))))
      have z3 := D3.out.size
      clear hb
      refine store_row rfl _ _ _ rfl (b3) _ rfl rfl _ _ h3 (by kernel_rfl) rfl (by kernel_rfl) ?_
      intro w4 hn hk hz hB
      simp only [Act.put, List.setIfInBounds_toArray, List.set_cons_zero, List.set_cons_succ]
      replace h0 := hk _ _ h0 (by first | omega | assumption | (apply Ne.symm; assumption) | (simp; done) | (simp; omega))
      replace h1 := hk _ _ h1 (by first | omega | assumption | (apply Ne.symm; assumption) | (simp; done) | (simp; omega))
      replace h2 := hk _ _ h2 (by first | omega | assumption | (apply Ne.symm; assumption) | (simp; done) | (simp; omega))
      replace h3 : w4.heap[b3]? = some (.cells #[.int .i64 u1.a, .int .i64 u1.b, .int .i64 u1.c, .int .i64 u1.d, .int .i64 u2.x, .int .i64 u2.y] 49 (0, 0)) := hn
      have D4 := Lib.hid (hB _ _ D3.out (by first | omega | (simp; omega)))
      have z4 := D4.out.size
      have y4 : w4.heap.size = w3.heap.size := hz
      clear hn hk hz hB
      try clear c0_0
      have c0_0 := cell_of_heap h0 (j := 0) rfl
      try clear f0_0
      have f0_0 := frozen_of_heap h0 0
      try clear c0_1
      have c0_1 := cell_of_heap h0 (j := 1) rfl
      try clear f0_1
      have f0_1 := frozen_of_heap h0 1
      try clear c0_2
      have c0_2 := cell_of_heap h0 (j := 2) rfl
      try clear f0_2
      have f0_2 := frozen_of_heap h0 2
      try clear c0_3
      have c0_3 := cell_of_heap h0 (j := 3) rfl
      try clear f0_3
      have f0_3 := frozen_of_heap h0 3
      try clear c0_4
      have c0_4 := cell_of_heap h0 (j := 4) rfl
      try clear f0_4
      have f0_4 := frozen_of_heap h0 4
      try clear c0_5
      have c0_5 := cell_of_heap h0 (j := 5) rfl
      try clear f0_5
      have f0_5 := frozen_of_heap h0 5
      try clear c1_0
      have c1_0 := cell_of_heap h1 (j := 0) rfl
      try clear f1_0
      have f1_0 := frozen_of_heap h1 0
      try clear c1_1
      have c1_1 := cell_of_heap h1 (j := 1) rfl
      try clear f1_1
      have f1_1 := frozen_of_heap h1 1
      try clear c1_2
      have c1_2 := cell_of_heap h1 (j := 2) rfl
      try clear f1_2
      have f1_2 := frozen_of_heap h1 2
      try clear c1_3
      have c1_3 := cell_of_heap h1 (j := 3) rfl
      try clear f1_3
      have f1_3 := frozen_of_heap h1 3
      try clear c1_4
      have c1_4 := cell_of_heap h1 (j := 4) rfl
      try clear f1_4
      have f1_4 := frozen_of_heap h1 4
      try clear c1_5
      have c1_5 := cell_of_heap h1 (j := 5) rfl
      try clear f1_5
      have f1_5 := frozen_of_heap h1 5
      try clear c2_0
      have c2_0 := cell_of_heap h2 (j := 0) rfl
      try clear f2_0
      have f2_0 := frozen_of_heap h2 0
      try clear c2_1
      have c2_1 := cell_of_heap h2 (j := 1) rfl
      try clear f2_1
      have f2_1 := frozen_of_heap h2 1
      try clear c2_2
      have c2_2 := cell_of_heap h2 (j := 2) rfl
      try clear f2_2
      have f2_2 := frozen_of_heap h2 2
      try clear c2_3
      have c2_3 := cell_of_heap h2 (j := 3) rfl
      try clear f2_3
      have f2_3 := frozen_of_heap h2 3
      try clear c2_4
      have c2_4 := cell_of_heap h2 (j := 4) rfl
      try clear f2_4
      have f2_4 := frozen_of_heap h2 4
      try clear c2_5
      have c2_5 := cell_of_heap h2 (j := 5) rfl
      try clear f2_5
      have f2_5 := frozen_of_heap h2 5
      try clear c3_0
      have c3_0 := cell_of_heap h3 (j := 0) rfl
      try clear f3_0
      have f3_0 := frozen_of_heap h3 0
      try clear c3_1
      have c3_1 := cell_of_heap h3 (j := 1) rfl
      try clear f3_1
      have f3_1 := frozen_of_heap h3 1
      try clear c3_2
      have c3_2 := cell_of_heap h3 (j := 2) rfl
      try clear f3_2
      have f3_2 := frozen_of_heap h3 2
      try clear c3_3
      have c3_3 := cell_of_heap h3 (j := 3) rfl
      try clear f3_3
      have f3_3 := frozen_of_heap h3 3
      try clear c3_4
      have c3_4 := cell_of_heap h3 (j := 4) rfl
      try clear f3_4
      have f3_4 := frozen_of_heap h3 4
      try clear c3_5
      have c3_5 := cell_of_heap h3 (j := 5) rfl
      try clear f3_5
      have f3_5 := frozen_of_heap h3 5
      go_wp2_with fail
      refine (H5.out _).mono ?_
      rintro e w5 ⟨rfl, hb⟩
      replace h0 : w5.heap[w.heap.size]? = some (.cells #[.int .i64 m.m.a, .int .i64 m.m.b, .int .i64 m.m.c, .int .i64 m.m.d, .int .i64 m.t.x, .int .i64 m.t.y] 49 (0, 0)) := hb_below hb (by repeat (first | exact h0 | (refine hb_new ?_; (first | omega | (simp; omega) | (simp; done))) | (refine hb_old ?_ ?_; rotate_left; focus (first | omega | (simp; omega) | (simp; done))) | refine hb_drew ?_)) (by first | omega | (simp; omega) | (simp; done))
      replace h1 : w5.heap[w.heap.size + 1]? = some (.cells #[.int .i64 n.m.a, .int .i64 n.m.b, .int .i64 n.m.c, .int .i64 n.m.d, .int .i64 n.t.x, .int .i64 n.t.y] 49 (0, 0)) := hb_below hb (by repeat (first | exact h1 | (refine hb_new ?_; (first | omega | (simp; omega) | (simp; done))) | (refine hb_old ?_ ?_; rotate_left; focus (first | omega | (simp; omega) | (simp; done))) | refine hb_drew ?_)) (by first | omega | (simp; omega) | (simp; done))
      replace h2 : w5.heap[w.heap.size + 1 + 1]? = some (.cells #[.int .i64 0, .int .i64 0, .int .i64 0, .int .i64 0, .int .i64 0, .int .i64 0] 49 (0, 0)) := hb_below hb (by repeat (first | exact h2 | (refine hb_new ?_; (first | omega | (simp; omega) | (simp; done))) | (refine hb_old ?_ ?_; rotate_left; focus (first | omega | (simp; omega) | (simp; done))) | refine hb_drew ?_)) (by first | omega | (simp; omega) | (simp; done))
      replace h3 : w5.heap[b3]? = some (.cells #[.int .i64 u1.a, .int .i64 u1.b, .int .i64 u1.c, .int .i64 u1.d, .int .i64 u2.x, .int .i64 u2.y] 49 (0, 0)) := hb_below hb (by repeat (first | exact h3 | (refine hb_new ?_; (first | omega | (simp; omega) | (simp; done))) | (refine hb_old ?_ ?_; rotate_left; focus (first | omega | (simp; omega) | (simp; done))) | refine hb_drew ?_)) (by first | omega | (simp; omega) | (simp; done))
      have y5 := Below.size hb
      try simp only [World.size_alloc, World.size_drew] at y5
      have D5 := Lib.hid (show Below w.heap.size w w5 from Below.trans (by repeat (first | exact D4.out | exact Below.refl _ _ | refine Below.alloc ?_ (by first | omega | (simp; omega) | (simp; done)) _)) (Below.mono hb (by first | omega | (simp; omega) | (simp; done))))
      have z5 := D5.out.size
      clear hb
      try clear c0_0
      have c0_0 := cell_of_heap h0 (j := 0) rfl
      try clear f0_0
      have f0_0 := frozen_of_heap h0 0
      try clear c0_1
      have c0_1 := cell_of_heap h0 (j := 1) rfl
      try clear f0_1
      have f0_1 := frozen_of_heap h0 1
      try clear c0_2
      have c0_2 := cell_of_heap h0 (j := 2) rfl
      try clear f0_2
      have f0_2 := frozen_of_heap h0 2
      try clear c0_3
      have c0_3 := cell_of_heap h0 (j := 3) rfl
      try clear f0_3
      have f0_3 := frozen_of_heap h0 3
      try clear c0_4
      have c0_4 := cell_of_heap h0 (j := 4) rfl
      try clear f0_4
      have f0_4 := frozen_of_heap h0 4
      try clear c0_5
      have c0_5 := cell_of_heap h0 (j := 5) rfl
      try clear f0_5
      have f0_5 := frozen_of_heap h0 5
      try clear c1_0
      have c1_0 := cell_of_heap h1 (j := 0) rfl
      try clear f1_0
      have f1_0 := frozen_of_heap h1 0
      try clear c1_1
      have c1_1 := cell_of_heap h1 (j := 1) rfl
      try clear f1_1
      have f1_1 := frozen_of_heap h1 1
      try clear c1_2
      have c1_2 := cell_of_heap h1 (j := 2) rfl
      try clear f1_2
      have f1_2 := frozen_of_heap h1 2
      try clear c1_3
      have c1_3 := cell_of_heap h1 (j := 3) rfl
      try clear f1_3
      have f1_3 := frozen_of_heap h1 3
      try clear c1_4
      have c1_4 := cell_of_heap h1 (j := 4) rfl
      try clear f1_4
      have f1_4 := frozen_of_heap h1 4
      try clear c1_5
      have c1_5 := cell_of_heap h1 (j := 5) rfl
      try clear f1_5
      have f1_5 := frozen_of_heap h1 5
      try clear c2_0
      have c2_0 := cell_of_heap h2 (j := 0) rfl
      try clear f2_0
      have f2_0 := frozen_of_heap h2 0
      try clear c2_1
      have c2_1 := cell_of_heap h2 (j := 1) rfl
      try clear f2_1
      have f2_1 := frozen_of_heap h2 1
      try clear c2_2
      have c2_2 := cell_of_heap h2 (j := 2) rfl
      try clear f2_2
      have f2_2 := frozen_of_heap h2 2
      try clear c2_3
      have c2_3 := cell_of_heap h2 (j := 3) rfl
      try clear f2_3
      have f2_3 := frozen_of_heap h2 3
      try clear c2_4
      have c2_4 := cell_of_heap h2 (j := 4) rfl
      try clear f2_4
      have f2_4 := frozen_of_heap h2 4
      try clear c2_5
      have c2_5 := cell_of_heap h2 (j := 5) rfl
      try clear f2_5
      have f2_5 := frozen_of_heap h2 5
      try clear c3_0
      have c3_0 := cell_of_heap h3 (j := 0) rfl
      try clear f3_0
      have f3_0 := frozen_of_heap h3 0
      try clear c3_1
      have c3_1 := cell_of_heap h3 (j := 1) rfl
      try clear f3_1
      have f3_1 := frozen_of_heap h3 1
      try clear c3_2
      have c3_2 := cell_of_heap h3 (j := 2) rfl
      try clear f3_2
      have f3_2 := frozen_of_heap h3 2
      try clear c3_3
      have c3_3 := cell_of_heap h3 (j := 3) rfl
      try clear f3_3
      have f3_3 := frozen_of_heap h3 3
      try clear c3_4
      have c3_4 := cell_of_heap h3 (j := 4) rfl
      try clear f3_4
      have f3_4 := frozen_of_heap h3 4
      try clear c3_5
      have c3_5 := cell_of_heap h3 (j := 5) rfl
      try clear f3_5
      have f3_5 := frozen_of_heap h3 5
      cases k3
      · go_wp2_with fail
        have q1 := (Below.heap_setCell w5 ⟨w.heap.size + 1 + 1, 0, none⟩ (.int .i64 0) (w.heap.size) (by first | omega | assumption | (apply Ne.symm; assumption) | (simp; done) | (simp; omega))).trans h0
        have q2 := (Below.heap_setCell w5 ⟨w.heap.size + 1 + 1, 0, none⟩ (.int .i64 0) (w.heap.size + 1) (by first | omega | assumption | (apply Ne.symm; assumption) | (simp; done) | (simp; omega))).trans h1
        have q3 := heap_setCell_same w5 (w.heap.size + 1 + 1) 0 _ _ (.int .i64 0) h2
        have q4 := (Below.heap_setCell w5 ⟨w.heap.size + 1 + 1, 0, none⟩ (.int .i64 0) (b3) (by first | omega | assumption | (apply Ne.symm; assumption) | (simp; done) | (simp; omega))).trans h3
        have q5 := (Below.heap_setCell (w5.setCell ⟨w.heap.size + 1 + 1, 0, none⟩ (.int .i64 0)) ⟨w.heap.size + 1 + 1, 1, none⟩ (.int .i64 0) (w.heap.size) (by first | omega | assumption | (apply Ne.symm; assumption) | (simp; done) | (simp; omega))).trans q1
        have q6 := (Below.heap_setCell (w5.setCell ⟨w.heap.size + 1 + 1, 0, none⟩ (.int .i64 0)) ⟨w.heap.size + 1 + 1, 1, none⟩ (.int .i64 0) (w.heap.size + 1) (by first | omega | assumption | (apply Ne.symm; assumption) | (simp; done) | (simp; omega))).trans q2
        have q7 := heap_setCell_same (w5.setCell ⟨w.heap.size + 1 + 1, 0, none⟩ (.int .i64 0)) (w.heap.size + 1 + 1) 1 _ _ (.int .i64 0) q3
        have q8 := (Below.heap_setCell (w5.setCell ⟨w.heap.size + 1 + 1, 0, none⟩ (.int .i64 0)) ⟨w.heap.size + 1 + 1, 1, none⟩ (.int .i64 0) (b3) (by first | omega | assumption | (apply Ne.symm; assumption) | (simp; done) | (simp; omega))).trans q4
        have q9 := (Below.heap_setCell ((w5.setCell ⟨w.heap.size + 1 + 1, 0, none⟩ (.int .i64 0)).setCell ⟨w.heap.size + 1 + 1, 1, none⟩ (.int .i64 0)) ⟨w.heap.size + 1 + 1, 2, none⟩ (.int .i64 0) (w.heap.size) (by first | omega | assumption | (apply Ne.symm; assumption) | (simp; done) | (simp; omega))).trans q5
        have q10 := (Below.heap_setCell ((w5.setCell ⟨w.heap.size + 1 + 1, 0, none⟩ (.int .i64 0)).setCell ⟨w.heap.size + 1 + 1, 1, none⟩ (.int .i64 0)) ⟨w.heap.size + 1 + 1, 2, none⟩ (.int .i64 0) (w.heap.size + 1) (by first | omega | assumption | (apply Ne.symm; assumption) | (simp; done) | (simp; omega))).trans q6
        have q11 := heap_setCell_same ((w5.setCell ⟨w.heap.size + 1 + 1, 0, none⟩ (.int .i64 0)).setCell ⟨w.heap.size + 1 + 1, 1, none⟩ (.int .i64 0)) (w.heap.size + 1 + 1) 2 _ _ (.int .i64 0) q7
        have q12 := (Below.heap_setCell ((w5.setCell ⟨w.heap.size + 1 + 1, 0, none⟩ (.int .i64 0)).setCell ⟨w.heap.size + 1 + 1, 1, none⟩ (.int .i64 0)) ⟨w.heap.size + 1 + 1, 2, none⟩ (.int .i64 0) (b3) (by first | omega | assumption | (apply Ne.symm; assumption) | (simp; done) | (simp; omega))).trans q8
        have q13 := (Below.heap_setCell (((w5.setCell ⟨w.heap.size + 1 + 1, 0, none⟩ (.int .i64 0)).setCell ⟨w.heap.size + 1 + 1, 1, none⟩ (.int .i64 0)).setCell ⟨w.heap.size + 1 + 1, 2, none⟩ (.int .i64 0)) ⟨w.heap.size + 1 + 1, 3, none⟩ (.int .i64 0) (w.heap.size) (by first | omega | assumption | (apply Ne.symm; assumption) | (simp; done) | (simp; omega))).trans q9
        have q14 := (Below.heap_setCell (((w5.setCell ⟨w.heap.size + 1 + 1, 0, none⟩ (.int .i64 0)).setCell ⟨w.heap.size + 1 + 1, 1, none⟩ (.int .i64 0)).setCell ⟨w.heap.size + 1 + 1, 2, none⟩ (.int .i64 0)) ⟨w.heap.size + 1 + 1, 3, none⟩ (.int .i64 0) (w.heap.size + 1) (by first | omega | assumption | (apply Ne.symm; assumption) | (simp; done) | (simp; omega))).trans q10
        have q15 := heap_setCell_same (((w5.setCell ⟨w.heap.size + 1 + 1, 0, none⟩ (.int .i64 0)).setCell ⟨w.heap.size + 1 + 1, 1, none⟩ (.int .i64 0)).setCell ⟨w.heap.size + 1 + 1, 2, none⟩ (.int .i64 0)) (w.heap.size + 1 + 1) 3 _ _ (.int .i64 0) q11
        have q16 := (Below.heap_setCell (((w5.setCell ⟨w.heap.size + 1 + 1, 0, none⟩ (.int .i64 0)).setCell ⟨w.heap.size + 1 + 1, 1, none⟩ (.int .i64 0)).setCell ⟨w.heap.size + 1 + 1, 2, none⟩ (.int .i64 0)) ⟨w.heap.size + 1 + 1, 3, none⟩ (.int .i64 0) (b3) (by first | omega | assumption | (apply Ne.symm; assumption) | (simp; done) | (simp; omega))).trans q12
        have q17 := (Below.heap_setCell ((((w5.setCell ⟨w.heap.size + 1 + 1, 0, none⟩ (.int .i64 0)).setCell ⟨w.heap.size + 1 + 1, 1, none⟩ (.int .i64 0)).setCell ⟨w.heap.size + 1 + 1, 2, none⟩ (.int .i64 0)).setCell ⟨w.heap.size + 1 + 1, 3, none⟩ (.int .i64 0)) ⟨w.heap.size + 1 + 1, 4, none⟩ (.int .i64 0) (w.heap.size) (by first | omega | assumption | (apply Ne.symm; assumption) | (simp; done) | (simp; omega))).trans q13
        have q18 := (Below.heap_setCell ((((w5.setCell ⟨w.heap.size + 1 + 1, 0, none⟩ (.int .i64 0)).setCell ⟨w.heap.size + 1 + 1, 1, none⟩ (.int .i64 0)).setCell ⟨w.heap.size + 1 + 1, 2, none⟩ (.int .i64 0)).setCell ⟨w.heap.size + 1 + 1, 3, none⟩ (.int .i64 0)) ⟨w.heap.size + 1 + 1, 4, none⟩ (.int .i64 0) (w.heap.size + 1) (by first | omega | assumption | (apply Ne.symm; assumption) | (simp; done) | (simp; omega))).trans q14
        have q19 := heap_setCell_same ((((w5.setCell ⟨w.heap.size + 1 + 1, 0, none⟩ (.int .i64 0)).setCell ⟨w.heap.size + 1 + 1, 1, none⟩ (.int .i64 0)).setCell ⟨w.heap.size + 1 + 1, 2, none⟩ (.int .i64 0)).setCell ⟨w.heap.size + 1 + 1, 3, none⟩ (.int .i64 0)) (w.heap.size + 1 + 1) 4 _ _ (.int .i64 0) q15
        have q20 := (Below.heap_setCell ((((w5.setCell ⟨w.heap.size + 1 + 1, 0, none⟩ (.int .i64 0)).setCell ⟨w.heap.size + 1 + 1, 1, none⟩ (.int .i64 0)).setCell ⟨w.heap.size + 1 + 1, 2, none⟩ (.int .i64 0)).setCell ⟨w.heap.size + 1 + 1, 3, none⟩ (.int .i64 0)) ⟨w.heap.size + 1 + 1, 4, none⟩ (.int .i64 0) (b3) (by first | omega | assumption | (apply Ne.symm; assumption) | (simp; done) | (simp; omega))).trans q16
        have q21 := (Below.heap_setCell (((((w5.setCell ⟨w.heap.size + 1 + 1, 0, none⟩ (.int .i64 0)).setCell ⟨w.heap.size + 1 + 1, 1, none⟩ (.int .i64 0)).setCell ⟨w.heap.size + 1 + 1, 2, none⟩ (.int .i64 0)).setCell ⟨w.heap.size + 1 + 1, 3, none⟩ (.int .i64 0)).setCell ⟨w.heap.size + 1 + 1, 4, none⟩ (.int .i64 0)) ⟨w.heap.size + 1 + 1, 5, none⟩ (.int .i64 0) (w.heap.size) (by first | omega | assumption | (apply Ne.symm; assumption) | (simp; done) | (simp; omega))).trans q17
        have q22 := (Below.heap_setCell (((((w5.setCell ⟨w.heap.size + 1 + 1, 0, none⟩ (.int .i64 0)).setCell ⟨w.heap.size + 1 + 1, 1, none⟩ (.int .i64 0)).setCell ⟨w.heap.size + 1 + 1, 2, none⟩ (.int .i64 0)).setCell ⟨w.heap.size + 1 + 1, 3, none⟩ (.int .i64 0)).setCell ⟨w.heap.size + 1 + 1, 4, none⟩ (.int .i64 0)) ⟨w.heap.size + 1 + 1, 5, none⟩ (.int .i64 0) (w.heap.size + 1) (by first | omega | assumption | (apply Ne.symm; assumption) | (simp; done) | (simp; omega))).trans q18
        have q23 := heap_setCell_same (((((w5.setCell ⟨w.heap.size + 1 + 1, 0, none⟩ (.int .i64 0)).setCell ⟨w.heap.size + 1 + 1, 1, none⟩ (.int .i64 0)).setCell ⟨w.heap.size + 1 + 1, 2, none⟩ (.int .i64 0)).setCell ⟨w.heap.size + 1 + 1, 3, none⟩ (.int .i64 0)).setCell ⟨w.heap.size + 1 + 1, 4, none⟩ (.int .i64 0)) (w.heap.size + 1 + 1) 5 _ _ (.int .i64 0) q19
        have q24 := (Below.heap_setCell (((((w5.setCell ⟨w.heap.size + 1 + 1, 0, none⟩ (.int .i64 0)).setCell ⟨w.heap.size + 1 + 1, 1, none⟩ (.int .i64 0)).setCell ⟨w.heap.size + 1 + 1, 2, none⟩ (.int .i64 0)).setCell ⟨w.heap.size + 1 + 1, 3, none⟩ (.int .i64 0)).setCell ⟨w.heap.size + 1 + 1, 4, none⟩ (.int .i64 0)) ⟨w.heap.size + 1 + 1, 5, none⟩ (.int .i64 0) (b3) (by first | omega | assumption | (apply Ne.symm; assumption) | (simp; done) | (simp; omega))).trans q20
        obtain ⟨w6, hw6⟩ : ∃ W, W = ((((((w5.setCell ⟨w.heap.size + 1 + 1, 0, none⟩ (.int .i64 0)).setCell ⟨w.heap.size + 1 + 1, 1, none⟩ (.int .i64 0)).setCell ⟨w.heap.size + 1 + 1, 2, none⟩ (.int .i64 0)).setCell ⟨w.heap.size + 1 + 1, 3, none⟩ (.int .i64 0)).setCell ⟨w.heap.size + 1 + 1, 4, none⟩ (.int .i64 0)).setCell ⟨w.heap.size + 1 + 1, 5, none⟩ (.int .i64 0)) := ⟨_, rfl⟩
        rw [← hw6]
        replace h0 : w6.heap[w.heap.size]? = some (.cells #[.int .i64 m.m.a, .int .i64 m.m.b, .int .i64 m.m.c, .int .i64 m.m.d, .int .i64 m.t.x, .int .i64 m.t.y] 49 (0, 0)) := by rw [hw6]; exact q21
        replace h1 : w6.heap[w.heap.size + 1]? = some (.cells #[.int .i64 n.m.a, .int .i64 n.m.b, .int .i64 n.m.c, .int .i64 n.m.d, .int .i64 n.t.x, .int .i64 n.t.y] 49 (0, 0)) := by rw [hw6]; exact q22
        replace h2 : w6.heap[w.heap.size + 1 + 1]? = some (.cells #[.int .i64 0, .int .i64 0, .int .i64 0, .int .i64 0, .int .i64 0, .int .i64 0] 49 (0, 0)) := by rw [hw6]; exact q23
        replace h3 : w6.heap[b3]? = some (.cells #[.int .i64 u1.a, .int .i64 u1.b, .int .i64 u1.c, .int .i64 u1.d, .int .i64 u2.x, .int .i64 u2.y] 49 (0, 0)) := by rw [hw6]; exact q24
        have D6 := Lib.hid (show Below w.heap.size w w6 by rw [hw6]; exact (Below.setCell (Below.setCell (Below.setCell (Below.setCell (Below.setCell (Below.setCell D5.out (p := ⟨w.heap.size + 1 + 1, 0, none⟩) (by first | omega | (simp; done) | (simp; omega)) (.int .i64 0)) (p := ⟨w.heap.size + 1 + 1, 1, none⟩) (by first | omega | (simp; done) | (simp; omega)) (.int .i64 0)) (p := ⟨w.heap.size + 1 + 1, 2, none⟩) (by first | omega | (simp; done) | (simp; omega)) (.int .i64 0)) (p := ⟨w.heap.size + 1 + 1, 3, none⟩) (by first | omega | (simp; done) | (simp; omega)) (.int .i64 0)) (p := ⟨w.heap.size + 1 + 1, 4, none⟩) (by first | omega | (simp; done) | (simp; omega)) (.int .i64 0)) (p := ⟨w.heap.size + 1 + 1, 5, none⟩) (by first | omega | (simp; done) | (simp; omega)) (.int .i64 0)))
        have z6 := D6.out.size
        have y6 : w6.heap.size = w5.heap.size := by rw [hw6]; simp
        clear q24 q23 q22 q21 q20 q19 q18 q17 q16 q15 q14 q13 q12 q11 q10 q9 q8 q7 q6 q5 q4 q3 q2 q1 hw6
        try clear c0_0
        have c0_0 := cell_of_heap h0 (j := 0) rfl
        try clear f0_0
        have f0_0 := frozen_of_heap h0 0
        try clear c0_1
        have c0_1 := cell_of_heap h0 (j := 1) rfl
        try clear f0_1
        have f0_1 := frozen_of_heap h0 1
        try clear c0_2
        have c0_2 := cell_of_heap h0 (j := 2) rfl
        try clear f0_2
        have f0_2 := frozen_of_heap h0 2
        try clear c0_3
        have c0_3 := cell_of_heap h0 (j := 3) rfl
        try clear f0_3
        have f0_3 := frozen_of_heap h0 3
        try clear c0_4
        have c0_4 := cell_of_heap h0 (j := 4) rfl
        try clear f0_4
        have f0_4 := frozen_of_heap h0 4
        try clear c0_5
        have c0_5 := cell_of_heap h0 (j := 5) rfl
        try clear f0_5
        have f0_5 := frozen_of_heap h0 5
        try clear c1_0
        have c1_0 := cell_of_heap h1 (j := 0) rfl
        try clear f1_0
        have f1_0 := frozen_of_heap h1 0
        try clear c1_1
        have c1_1 := cell_of_heap h1 (j := 1) rfl
        try clear f1_1
        have f1_1 := frozen_of_heap h1 1
        try clear c1_2
        have c1_2 := cell_of_heap h1 (j := 2) rfl
        try clear f1_2
        have f1_2 := frozen_of_heap h1 2
        try clear c1_3
        have c1_3 := cell_of_heap h1 (j := 3) rfl
        try clear f1_3
        have f1_3 := frozen_of_heap h1 3
        try clear c1_4
        have c1_4 := cell_of_heap h1 (j := 4) rfl
        try clear f1_4
        have f1_4 := frozen_of_heap h1 4
        try clear c1_5
        have c1_5 := cell_of_heap h1 (j := 5) rfl
        try clear f1_5
        have f1_5 := frozen_of_heap h1 5
        try clear c2_0
        have c2_0 := cell_of_heap h2 (j := 0) rfl
        try clear f2_0
        have f2_0 := frozen_of_heap h2 0
        try clear c2_1
        have c2_1 := cell_of_heap h2 (j := 1) rfl
        try clear f2_1
        have f2_1 := frozen_of_heap h2 1
        try clear c2_2
        have c2_2 := cell_of_heap h2 (j := 2) rfl
        try clear f2_2
        have f2_2 := frozen_of_heap h2 2
        try clear c2_3
        have c2_3 := cell_of_heap h2 (j := 3) rfl
        try clear f2_3
        have f2_3 := frozen_of_heap h2 3
        try clear c2_4
        have c2_4 := cell_of_heap h2 (j := 4) rfl
        try clear f2_4
        have f2_4 := frozen_of_heap h2 4
        try clear c2_5
        have c2_5 := cell_of_heap h2 (j := 5) rfl
        try clear f2_5
        have f2_5 := frozen_of_heap h2 5
        try clear c3_0
        have c3_0 := cell_of_heap h3 (j := 0) rfl
        try clear f3_0
        have f3_0 := frozen_of_heap h3 0
        try clear c3_1
        have c3_1 := cell_of_heap h3 (j := 1) rfl
        try clear f3_1
        have f3_1 := frozen_of_heap h3 1
        try clear c3_2
        have c3_2 := cell_of_heap h3 (j := 2) rfl
        try clear f3_2
        have f3_2 := frozen_of_heap h3 2
        try clear c3_3
        have c3_3 := cell_of_heap h3 (j := 3) rfl
        try clear f3_3
        have f3_3 := frozen_of_heap h3 3
        try clear c3_4
        have c3_4 := cell_of_heap h3 (j := 4) rfl
        try clear f3_4
        have f3_4 := frozen_of_heap h3 4
        try clear c3_5
        have c3_5 := cell_of_heap h3 (j := 5) rfl
        try clear f3_5
        have f3_5 := frozen_of_heap h3 5
        refine bodyPost_ret (results_bt rfl _ _ (w.heap.size + 1 + 1) rfl rfl h2 Tryd.underlying49 rfl (by kernel_rfl)) rfl ⟨rfl, D6.out⟩
      · go_wp2_with fail
        have q1 := (Below.heap_setCell w5 ⟨w.heap.size + 1 + 1, 0, none⟩ (.int .i64 u1.a) (w.heap.size) (by first | omega | assumption | (apply Ne.symm; assumption) | (simp; done) | (simp; omega))).trans h0
        have q2 := (Below.heap_setCell w5 ⟨w.heap.size + 1 + 1, 0, none⟩ (.int .i64 u1.a) (w.heap.size + 1) (by first | omega | assumption | (apply Ne.symm; assumption) | (simp; done) | (simp; omega))).trans h1
        have q3 := heap_setCell_same w5 (w.heap.size + 1 + 1) 0 _ _ (.int .i64 u1.a) h2
        have q4 := (Below.heap_setCell w5 ⟨w.heap.size + 1 + 1, 0, none⟩ (.int .i64 u1.a) (b3) (by first | omega | assumption | (apply Ne.symm; assumption) | (simp; done) | (simp; omega))).trans h3
        have q5 := (Below.heap_setCell (w5.setCell ⟨w.heap.size + 1 + 1, 0, none⟩ (.int .i64 u1.a)) ⟨w.heap.size + 1 + 1, 1, none⟩ (.int .i64 u1.b) (w.heap.size) (by first | omega | assumption | (apply Ne.symm; assumption) | (simp; done) | (simp; omega))).trans q1
        have q6 := (Below.heap_setCell (w5.setCell ⟨w.heap.size + 1 + 1, 0, none⟩ (.int .i64 u1.a)) ⟨w.heap.size + 1 + 1, 1, none⟩ (.int .i64 u1.b) (w.heap.size + 1) (by first | omega | assumption | (apply Ne.symm; assumption) | (simp; done) | (simp; omega))).trans q2
        have q7 := heap_setCell_same (w5.setCell ⟨w.heap.size + 1 + 1, 0, none⟩ (.int .i64 u1.a)) (w.heap.size + 1 + 1) 1 _ _ (.int .i64 u1.b) q3
        have q8 := (Below.heap_setCell (w5.setCell ⟨w.heap.size + 1 + 1, 0, none⟩ (.int .i64 u1.a)) ⟨w.heap.size + 1 + 1, 1, none⟩ (.int .i64 u1.b) (b3) (by first | omega | assumption | (apply Ne.symm; assumption) | (simp; done) | (simp; omega))).trans q4
        have q9 := (Below.heap_setCell ((w5.setCell ⟨w.heap.size + 1 + 1, 0, none⟩ (.int .i64 u1.a)).setCell ⟨w.heap.size + 1 + 1, 1, none⟩ (.int .i64 u1.b)) ⟨w.heap.size + 1 + 1, 2, none⟩ (.int .i64 u1.c) (w.heap.size) (by first | omega | assumption | (apply Ne.symm; assumption) | (simp; done) | (simp; omega))).trans q5
        have q10 := (Below.heap_setCell ((w5.setCell ⟨w.heap.size + 1 + 1, 0, none⟩ (.int .i64 u1.a)).setCell ⟨w.heap.size + 1 + 1, 1, none⟩ (.int .i64 u1.b)) ⟨w.heap.size + 1 + 1, 2, none⟩ (.int .i64 u1.c) (w.heap.size + 1) (by first | omega | assumption | (apply Ne.symm; assumption) | (simp; done) | (simp; omega))).trans q6
        have q11 := heap_setCell_same ((w5.setCell ⟨w.heap.size + 1 + 1, 0, none⟩ (.int .i64 u1.a)).setCell ⟨w.heap.size + 1 + 1, 1, none⟩ (.int .i64 u1.b)) (w.heap.size + 1 + 1) 2 _ _ (.int .i64 u1.c) q7
        have q12 := (Below.heap_setCell ((w5.setCell ⟨w.heap.size + 1 + 1, 0, none⟩ (.int .i64 u1.a)).setCell ⟨w.heap.size + 1 + 1, 1, none⟩ (.int .i64 u1.b)) ⟨w.heap.size + 1 + 1, 2, none⟩ (.int .i64 u1.c) (b3) (by first | omega | assumption | (apply Ne.symm; assumption) | (simp; done) | (simp; omega))).trans q8
        have q13 := (Below.heap_setCell (((w5.setCell ⟨w.heap.size + 1 + 1, 0, none⟩ (.int .i64 u1.a)).setCell ⟨w.heap.size + 1 + 1, 1, none⟩ (.int .i64 u1.b)).setCell ⟨w.heap.size + 1 + 1, 2, none⟩ (.int .i64 u1.c)) ⟨w.heap.size + 1 + 1, 3, none⟩ (.int .i64 u1.d) (w.heap.size) (by first | omega | assumption | (apply Ne.symm; assumption) | (simp; done) | (simp; omega))).trans q9
        have q14 := (Below.heap_setCell (((w5.setCell ⟨w.heap.size + 1 + 1, 0, none⟩ (.int .i64 u1.a)).setCell ⟨w.heap.size + 1 + 1, 1, none⟩ (.int .i64 u1.b)).setCell ⟨w.heap.size + 1 + 1, 2, none⟩ (.int .i64 u1.c)) ⟨w.heap.size + 1 + 1, 3, none⟩ (.int .i64 u1.d) (w.heap.size + 1) (by first | omega | assumption | (apply Ne.symm; assumption) | (simp; done) | (simp; omega))).trans q10
        have q15 := heap_setCell_same (((w5.setCell ⟨w.heap.size + 1 + 1, 0, none⟩ (.int .i64 u1.a)).setCell ⟨w.heap.size + 1 + 1, 1, none⟩ (.int .i64 u1.b)).setCell ⟨w.heap.size + 1 + 1, 2, none⟩ (.int .i64 u1.c)) (w.heap.size + 1 + 1) 3 _ _ (.int .i64 u1.d) q11
        have q16 := (Below.heap_setCell (((w5.setCell ⟨w.heap.size + 1 + 1, 0, none⟩ (.int .i64 u1.a)).setCell ⟨w.heap.size + 1 + 1, 1, none⟩ (.int .i64 u1.b)).setCell ⟨w.heap.size + 1 + 1, 2, none⟩ (.int .i64 u1.c)) ⟨w.heap.size + 1 + 1, 3, none⟩ (.int .i64 u1.d) (b3) (by first | omega | assumption | (apply Ne.symm; assumption) | (simp; done) | (simp; omega))).trans q12
        have q17 := (Below.heap_setCell ((((w5.setCell ⟨w.heap.size + 1 + 1, 0, none⟩ (.int .i64 u1.a)).setCell ⟨w.heap.size + 1 + 1, 1, none⟩ (.int .i64 u1.b)).setCell ⟨w.heap.size + 1 + 1, 2, none⟩ (.int .i64 u1.c)).setCell ⟨w.heap.size + 1 + 1, 3, none⟩ (.int .i64 u1.d)) ⟨w.heap.size + 1 + 1, 4, none⟩ (.int .i64 u2.x) (w.heap.size) (by first | omega | assumption | (apply Ne.symm; assumption) | (simp; done) | (simp; omega))).trans q13
        have q18 := (Below.heap_setCell ((((w5.setCell ⟨w.heap.size + 1 + 1, 0, none⟩ (.int .i64 u1.a)).setCell ⟨w.heap.size + 1 + 1, 1, none⟩ (.int .i64 u1.b)).setCell ⟨w.heap.size + 1 + 1, 2, none⟩ (.int .i64 u1.c)).setCell ⟨w.heap.size + 1 + 1, 3, none⟩ (.int .i64 u1.d)) ⟨w.heap.size + 1 + 1, 4, none⟩ (.int .i64 u2.x) (w.heap.size + 1) (by first | omega | assumption | (apply Ne.symm; assumption) | (simp; done) | (simp; omega))).trans q14
        have q19 := heap_setCell_same ((((w5.setCell ⟨w.heap.size + 1 + 1, 0, none⟩ (.int .i64 u1.a)).setCell ⟨w.heap.size + 1 + 1, 1, none⟩ (.int .i64 u1.b)).setCell ⟨w.heap.size + 1 + 1, 2, none⟩ (.int .i64 u1.c)).setCell ⟨w.heap.size + 1 + 1, 3, none⟩ (.int .i64 u1.d)) (w.heap.size + 1 + 1) 4 _ _ (.int .i64 u2.x) q15
        have q20 := (Below.heap_setCell ((((w5.setCell ⟨w.heap.size + 1 + 1, 0, none⟩ (.int .i64 u1.a)).setCell ⟨w.heap.size + 1 + 1, 1, none⟩ (.int .i64 u1.b)).setCell ⟨w.heap.size + 1 + 1, 2, none⟩ (.int .i64 u1.c)).setCell ⟨w.heap.size + 1 + 1, 3, none⟩ (.int .i64 u1.d)) ⟨w.heap.size + 1 + 1, 4, none⟩ (.int .i64 u2.x) (b3) (by first | omega | assumption | (apply Ne.symm; assumption) | (simp; done) | (simp; omega))).trans q16
        have q21 := (Below.heap_setCell (((((w5.setCell ⟨w.heap.size + 1 + 1, 0, none⟩ (.int .i64 u1.a)).setCell ⟨w.heap.size + 1 + 1, 1, none⟩ (.int .i64 u1.b)).setCell ⟨w.heap.size + 1 + 1, 2, none⟩ (.int .i64 u1.c)).setCell ⟨w.heap.size + 1 + 1, 3, none⟩ (.int .i64 u1.d)).setCell ⟨w.heap.size + 1 + 1, 4, none⟩ (.int .i64 u2.x)) ⟨w.heap.size + 1 + 1, 5, none⟩ (.int .i64 u2.y) (w.heap.size) (by first | omega | assumption | (apply Ne.symm; assumption) | (simp; done) | (simp; omega))).trans q17
        have q22 := (Below.heap_setCell (((((w5.setCell ⟨w.heap.size + 1 + 1, 0, none⟩ (.int .i64 u1.a)).setCell ⟨w.heap.size + 1 + 1, 1, none⟩ (.int .i64 u1.b)).setCell ⟨w.heap.size + 1 + 1, 2, none⟩ (.int .i64 u1.c)).setCell ⟨w.heap.size + 1 + 1, 3, none⟩ (.int .i64 u1.d)).setCell ⟨w.heap.size + 1 + 1, 4, none⟩ (.int .i64 u2.x)) ⟨w.heap.size + 1 + 1, 5, none⟩ (.int .i64 u2.y) (w.heap.size + 1) (by first | omega | assumption | (apply Ne.symm; assumption) | (simp; done) | (simp; omega))).trans q18
        have q23 := heap_setCell_same (((((w5.setCell ⟨w.heap.size + 1 + 1, 0, none⟩ (.int .i64 u1.a)).setCell ⟨w.heap.size + 1 + 1, 1, none⟩ (.int .i64 u1.b)).setCell ⟨w.heap.size + 1 + 1, 2, none⟩ (.int .i64 u1.c)).setCell ⟨w.heap.size + 1 + 1, 3, none⟩ (.int .i64 u1.d)).setCell ⟨w.heap.size + 1 + 1, 4, none⟩ (.int .i64 u2.x)) (w.heap.size + 1 + 1) 5 _ _ (.int .i64 u2.y) q19
        have q24 := (Below.heap_setCell (((((w5.setCell ⟨w.heap.size + 1 + 1, 0, none⟩ (.int .i64 u1.a)).setCell ⟨w.heap.size + 1 + 1, 1, none⟩ (.int .i64 u1.b)).setCell ⟨w.heap.size + 1 + 1, 2, none⟩ (.int .i64 u1.c)).setCell ⟨w.heap.size + 1 + 1, 3, none⟩ (.int .i64 u1.d)).setCell ⟨w.heap.size + 1 + 1, 4, none⟩ (.int .i64 u2.x)) ⟨w.heap.size + 1 + 1, 5, none⟩ (.int .i64 u2.y) (b3) (by first | omega | assumption | (apply Ne.symm; assumption) | (simp; done) | (simp; omega))).trans q20
        obtain ⟨w6, hw6⟩ : ∃ W, W = ((((((w5.setCell ⟨w.heap.size + 1 + 1, 0, none⟩ (.int .i64 u1.a)).setCell ⟨w.heap.size + 1 + 1, 1, none⟩ (.int .i64 u1.b)).setCell ⟨w.heap.size + 1 + 1, 2, none⟩ (.int .i64 u1.c)).setCell ⟨w.heap.size + 1 + 1, 3, none⟩ (.int .i64 u1.d)).setCell ⟨w.heap.size + 1 + 1, 4, none⟩ (.int .i64 u2.x)).setCell ⟨w.heap.size + 1 + 1, 5, none⟩ (.int .i64 u2.y)) := ⟨_, rfl⟩
        rw [← hw6]
        replace h0 : w6.heap[w.heap.size]? = some (.cells #[.int .i64 m.m.a, .int .i64 m.m.b, .int .i64 m.m.c, .int .i64 m.m.d, .int .i64 m.t.x, .int .i64 m.t.y] 49 (0, 0)) := by rw [hw6]; exact q21
        replace h1 : w6.heap[w.heap.size + 1]? = some (.cells #[.int .i64 n.m.a, .int .i64 n.m.b, .int .i64 n.m.c, .int .i64 n.m.d, .int .i64 n.t.x, .int .i64 n.t.y] 49 (0, 0)) := by rw [hw6]; exact q22
        replace h2 : w6.heap[w.heap.size + 1 + 1]? = some (.cells #[.int .i64 u1.a, .int .i64 u1.b, .int .i64 u1.c, .int .i64 u1.d, .int .i64 u2.x, .int .i64 u2.y] 49 (0, 0)) := by rw [hw6]; exact q23
        replace h3 : w6.heap[b3]? = some (.cells #[.int .i64 u1.a, .int .i64 u1.b, .int .i64 u1.c, .int .i64 u1.d, .int .i64 u2.x, .int .i64 u2.y] 49 (0, 0)) := by rw [hw6]; exact q24
        have D6 := Lib.hid (show Below w.heap.size w w6 by rw [hw6]; exact (Below.setCell (Below.setCell (Below.setCell (Below.setCell (Below.setCell (Below.setCell D5.out (p := ⟨w.heap.size + 1 + 1, 0, none⟩) (by first | omega | (simp; done) | (simp; omega)) (.int .i64 u1.a)) (p := ⟨w.heap.size + 1 + 1, 1, none⟩) (by first | omega | (simp; done) | (simp; omega)) (.int .i64 u1.b)) (p := ⟨w.heap.size + 1 + 1, 2, none⟩) (by first | omega | (simp; done) | (simp; omega)) (.int .i64 u1.c)) (p := ⟨w.heap.size + 1 + 1, 3, none⟩) (by first | omega | (simp; done) | (simp; omega)) (.int .i64 u1.d)) (p := ⟨w.heap.size + 1 + 1, 4, none⟩) (by first | omega | (simp; done) | (simp; omega)) (.int .i64 u2.x)) (p := ⟨w.heap.size + 1 + 1, 5, none⟩) (by first | omega | (simp; done) | (simp; omega)) (.int .i64 u2.y)))
        have z6 := D6.out.size
        have y6 : w6.heap.size = w5.heap.size := by rw [hw6]; simp
        clear q24 q23 q22 q21 q20 q19 q18 q17 q16 q15 q14 q13 q12 q11 q10 q9 q8 q7 q6 q5 q4 q3 q2 q1 hw6
        try clear c0_0
        have c0_0 := cell_of_heap h0 (j := 0) rfl
        try clear f0_0
        have f0_0 := frozen_of_heap h0 0
        try clear c0_1
        have c0_1 := cell_of_heap h0 (j := 1) rfl
        try clear f0_1
        have f0_1 := frozen_of_heap h0 1
        try clear c0_2
        have c0_2 := cell_of_heap h0 (j := 2) rfl
        try clear f0_2
        have f0_2 := frozen_of_heap h0 2
        try clear c0_3
        have c0_3 := cell_of_heap h0 (j := 3) rfl
        try clear f0_3
        have f0_3 := frozen_of_heap h0 3
        try clear c0_4
        have c0_4 := cell_of_heap h0 (j := 4) rfl
        try clear f0_4
        have f0_4 := frozen_of_heap h0 4
        try clear c0_5
        have c0_5 := cell_of_heap h0 (j := 5) rfl
        try clear f0_5
        have f0_5 := frozen_of_heap h0 5
        try clear c1_0
        have c1_0 := cell_of_heap h1 (j := 0) rfl
        try clear f1_0
        have f1_0 := frozen_of_heap h1 0
        try clear c1_1
        have c1_1 := cell_of_heap h1 (j := 1) rfl
        try clear f1_1
        have f1_1 := frozen_of_heap h1 1
        try clear c1_2
        have c1_2 := cell_of_heap h1 (j := 2) rfl
        try clear f1_2
        have f1_2 := frozen_of_heap h1 2
        try clear c1_3
        have c1_3 := cell_of_heap h1 (j := 3) rfl
        try clear f1_3
        have f1_3 := frozen_of_heap h1 3
        try clear c1_4
        have c1_4 := cell_of_heap h1 (j := 4) rfl
        try clear f1_4
        have f1_4 := frozen_of_heap h1 4
        try clear c1_5
        have c1_5 := cell_of_heap h1 (j := 5) rfl
        try clear f1_5
        have f1_5 := frozen_of_heap h1 5
        try clear c2_0
        have c2_0 := cell_of_heap h2 (j := 0) rfl
        try clear f2_0
        have f2_0 := frozen_of_heap h2 0
        try clear c2_1
        have c2_1 := cell_of_heap h2 (j := 1) rfl
        try clear f2_1
        have f2_1 := frozen_of_heap h2 1
        try clear c2_2
        have c2_2 := cell_of_heap h2 (j := 2) rfl
        try clear f2_2
        have f2_2 := frozen_of_heap h2 2
        try clear c2_3
        have c2_3 := cell_of_heap h2 (j := 3) rfl
        try clear f2_3
        have f2_3 := frozen_of_heap h2 3
        try clear c2_4
        have c2_4 := cell_of_heap h2 (j := 4) rfl
        try clear f2_4
        have f2_4 := frozen_of_heap h2 4
        try clear c2_5
        have c2_5 := cell_of_heap h2 (j := 5) rfl
        try clear f2_5
        have f2_5 := frozen_of_heap h2 5
        try clear c3_0
        have c3_0 := cell_of_heap h3 (j := 0) rfl
        try clear f3_0
        have f3_0 := frozen_of_heap h3 0
        try clear c3_1
        have c3_1 := cell_of_heap h3 (j := 1) rfl
        try clear f3_1
        have f3_1 := frozen_of_heap h3 1
        try clear c3_2
        have c3_2 := cell_of_heap h3 (j := 2) rfl
        try clear f3_2
        have f3_2 := frozen_of_heap h3 2
        try clear c3_3
        have c3_3 := cell_of_heap h3 (j := 3) rfl
        try clear f3_3
        have f3_3 := frozen_of_heap h3 3
        try clear c3_4
        have c3_4 := cell_of_heap h3 (j := 4) rfl
        try clear f3_4
        have f3_4 := frozen_of_heap h3 4
        try clear c3_5
        have c3_5 := cell_of_heap h3 (j := 5) rfl
        try clear f3_5
        have f3_5 := frozen_of_heap h3 5
        refine bodyPost_ret (results_bt rfl _ _ (w.heap.size + 1 + 1) rfl rfl h2 Tryd.underlying49 rfl (by kernel_rfl)) rfl ⟨rfl, D6.out⟩
def unitB (m : Mat) : Bool := decide (m.det = 1) || decide (m.det = -1)
theorem unitB_iff (m : Mat) : unitB m = true ↔ Unit1 m := by unfold unitB Unit1; simp
def invV (m : Mov) : Mov := if okV m && unitB m.m && okV (back m) then back m else m0
def invE (m : Mov) : Int := if okV m then (if unitB m.m then (if okV (back m) then 0 else 7) else 6) else 2
theorem back_parts {m : Mov} (hm : okV m = true) (u : Unit1 m.m) : m.m.inv.w = m.m.inv ∧ (appl ⟨m.m.inv, ⟨0, 0⟩⟩ m.t).w = image m.m.inv m.t ∧ (stepP (image m.m.inv m.t) ⟨0, 0⟩).w = (back m).t ∧ (image m.m.inv m.t).w = image m.m.inv m.t ∧ -9000000000000000000 ≤ (image m.m.inv m.t).x ∧ (image m.m.inv m.t).x ≤ 9000000000000000000 ∧ -9000000000000000000 ≤ (image m.m.inv m.t).y ∧ (image m.m.inv m.t).y ≤ 9000000000000000000 := by
  have h1 := inv_ok ((okV_iff m).1 hm).1 u
  have h2 := image_rng h1 ((okV_iff m).1 hm).2
  have h3 : appl ⟨m.m.inv, ⟨0, 0⟩⟩ m.t = image m.m.inv m.t := by
    unfold appl image; simp
  have e2 : wrap64 (image m.m.inv m.t).x = (image m.m.inv m.t).x := wrap64_id (by omega)
  have e3 : wrap64 (image m.m.inv m.t).y = (image m.m.inv m.t).y := wrap64_id (by omega)
  refine ⟨mok_w h1, ?_, ?_, ?_, by omega, by omega, by omega, by omega⟩
  · rw [h3]; unfold Pt.w; rw [e2, e3]
  · unfold stepP back Pt.w
    simp only [Pt.mk.injEq]
    exact ⟨by rw [wrap64_id (by omega)]; omega, by rw [wrap64_id (by omega)]; omega⟩
  · unfold Pt.w; rw [e2, e3]
set_option maxHeartbeats 4000000 in
set_option maxRecDepth 100000 in
theorem Invert_any (m : Mov) (w : World) : Calls Tryd.prog 33 #[m.val] w fun e w' => e = .returned (.tuple #[(invV m).val, .int .i64 (invE m)]) ∧ Below w.heap.size w w' := by
  have C1 := fun W => validMove_any m W
  unfold invV invE
  cases hk1 : okV m
  · rw [hk1] at C1
    simp only [Bool.false_and, Bool.false_eq_true, if_false]
    unfold m0 Mov.val at *
    have H1 := Lib.hid C1
    clear C1 hk1
    go_enter Tryd.func33, Tryd.ntmps33
    go_wp2_with fail
    refine (H1.out _).mono ?_
    rintro e w1 ⟨rfl, hb⟩
    have h0 : w1.heap[w.heap.size]? = some (.cells #[.int .i64 m.m.a, .int .i64 m.m.b, .int .i64 m.m.c, .int .i64 m.m.d, .int .i64 m.t.x, .int .i64 m.t.y] 49 (0, 0)) := hb_below hb (by repeat (first | (refine hb_new ?_; (first | omega | (simp; omega) | (simp; done))) | (refine hb_old ?_ ?_; rotate_left; focus (first | omega | (simp; omega) | (simp; done))) | refine hb_drew ?_)) (by first | omega | (simp; omega) | (simp; done))
    have h1 : w1.heap[w.heap.size + 1]? = some (.cells #[.int .i64 0, .int .i64 0, .int .i64 0, .int .i64 0, .int .i64 0, .int .i64 0] 49 (0, 0)) := hb_below hb (by repeat (first | (refine hb_new ?_; (first | omega | (simp; omega) | (simp; done))) | (refine hb_old ?_ ?_; rotate_left; focus (first | omega | (simp; omega) | (simp; done))) | refine hb_drew ?_)) (by first | omega | (simp; omega) | (simp; done))
    have y1 := Below.size hb
    try simp only [World.size_alloc, World.size_drew] at y1
    have D1 := Lib.hid (show Below w.heap.size w w1 from Below.trans (by repeat (first | exact Below.refl _ _ | refine Below.alloc ?_ (by first | omega | (simp; omega) | (simp; done)) _)) (Below.mono hb (by first | omega | (simp; omega) | (simp; done))))
    have z1 := D1.out.size
    clear hb
    try clear c0_0
    have c0_0 := cell_of_heap h0 (j := 0) rfl
    try clear f0_0
    have f0_0 := frozen_of_heap h0 0
    try clear c0_1
    have c0_1 := cell_of_heap h0 (j := 1) rfl
    try clear f0_1
    have f0_1 := frozen_of_heap h0 1
    try clear c0_2
    have c0_2 := cell_of_heap h0 (j := 2) rfl
    try clear f0_2
    have f0_2 := frozen_of_heap h0 2
    try clear c0_3
    have c0_3 := cell_of_heap h0 (j := 3) rfl
    try clear f0_3
    have f0_3 := frozen_of_heap h0 3
    try clear c0_4
    have c0_4 := cell_of_heap h0 (j := 4) rfl
    try clear f0_4
    have f0_4 := frozen_of_heap h0 4
    try clear c0_5
    have c0_5 := cell_of_heap h0 (j := 5) rfl
    try clear f0_5
    have f0_5 := frozen_of_heap h0 5
    try clear c1_0
    have c1_0 := cell_of_heap h1 (j := 0) rfl
    try clear f1_0
    have f1_0 := frozen_of_heap h1 0
    try clear c1_1
    have c1_1 := cell_of_heap h1 (j := 1) rfl
    try clear f1_1
    have f1_1 := frozen_of_heap h1 1
    try clear c1_2
    have c1_2 := cell_of_heap h1 (j := 2) rfl
    try clear f1_2
    have f1_2 := frozen_of_heap h1 2
    try clear c1_3
    have c1_3 := cell_of_heap h1 (j := 3) rfl
    try clear f1_3
    have f1_3 := frozen_of_heap h1 3
    try clear c1_4
    have c1_4 := cell_of_heap h1 (j := 4) rfl
    try clear f1_4
    have f1_4 := frozen_of_heap h1 4
    try clear c1_5
    have c1_5 := cell_of_heap h1 (j := 5) rfl
    try clear f1_5
    have f1_5 := frozen_of_heap h1 5
    go_wp2_with fail
    have q1 := (Below.heap_setCell w1 ⟨w.heap.size + 1, 0, none⟩ (.int .i64 0) (w.heap.size) (by first | omega | assumption | (apply Ne.symm; assumption) | (simp; done) | (simp; omega))).trans h0
    have q2 := heap_setCell_same w1 (w.heap.size + 1) 0 _ _ (.int .i64 0) h1
    have q3 := (Below.heap_setCell (w1.setCell ⟨w.heap.size + 1, 0, none⟩ (.int .i64 0)) ⟨w.heap.size + 1, 1, none⟩ (.int .i64 0) (w.heap.size) (by first | omega | assumption | (apply Ne.symm; assumption) | (simp; done) | (simp; omega))).trans q1
    have q4 := heap_setCell_same (w1.setCell ⟨w.heap.size + 1, 0, none⟩ (.int .i64 0)) (w.heap.size + 1) 1 _ _ (.int .i64 0) q2
    have q5 := (Below.heap_setCell ((w1.setCell ⟨w.heap.size + 1, 0, none⟩ (.int .i64 0)).setCell ⟨w.heap.size + 1, 1, none⟩ (.int .i64 0)) ⟨w.heap.size + 1, 2, none⟩ (.int .i64 0) (w.heap.size) (by first | omega | assumption | (apply Ne.symm; assumption) | (simp; done) | (simp; omega))).trans q3
    have q6 := heap_setCell_same ((w1.setCell ⟨w.heap.size + 1, 0, none⟩ (.int .i64 0)).setCell ⟨w.heap.size + 1, 1, none⟩ (.int .i64 0)) (w.heap.size + 1) 2 _ _ (.int .i64 0) q4
    have q7 := (Below.heap_setCell (((w1.setCell ⟨w.heap.size + 1, 0, none⟩ (.int .i64 0)).setCell ⟨w.heap.size + 1, 1, none⟩ (.int .i64 0)).setCell ⟨w.heap.size + 1, 2, none⟩ (.int .i64 0)) ⟨w.heap.size + 1, 3, none⟩ (.int .i64 0) (w.heap.size) (by first | omega | assumption | (apply Ne.symm; assumption) | (simp; done) | (simp; omega))).trans q5
    have q8 := heap_setCell_same (((w1.setCell ⟨w.heap.size + 1, 0, none⟩ (.int .i64 0)).setCell ⟨w.heap.size + 1, 1, none⟩ (.int .i64 0)).setCell ⟨w.heap.size + 1, 2, none⟩ (.int .i64 0)) (w.heap.size + 1) 3 _ _ (.int .i64 0) q6
    have q9 := (Below.heap_setCell ((((w1.setCell ⟨w.heap.size + 1, 0, none⟩ (.int .i64 0)).setCell ⟨w.heap.size + 1, 1, none⟩ (.int .i64 0)).setCell ⟨w.heap.size + 1, 2, none⟩ (.int .i64 0)).setCell ⟨w.heap.size + 1, 3, none⟩ (.int .i64 0)) ⟨w.heap.size + 1, 4, none⟩ (.int .i64 0) (w.heap.size) (by first | omega | assumption | (apply Ne.symm; assumption) | (simp; done) | (simp; omega))).trans q7
    have q10 := heap_setCell_same ((((w1.setCell ⟨w.heap.size + 1, 0, none⟩ (.int .i64 0)).setCell ⟨w.heap.size + 1, 1, none⟩ (.int .i64 0)).setCell ⟨w.heap.size + 1, 2, none⟩ (.int .i64 0)).setCell ⟨w.heap.size + 1, 3, none⟩ (.int .i64 0)) (w.heap.size + 1) 4 _ _ (.int .i64 0) q8
    have q11 := (Below.heap_setCell (((((w1.setCell ⟨w.heap.size + 1, 0, none⟩ (.int .i64 0)).setCell ⟨w.heap.size + 1, 1, none⟩ (.int .i64 0)).setCell ⟨w.heap.size + 1, 2, none⟩ (.int .i64 0)).setCell ⟨w.heap.size + 1, 3, none⟩ (.int .i64 0)).setCell ⟨w.heap.size + 1, 4, none⟩ (.int .i64 0)) ⟨w.heap.size + 1, 5, none⟩ (.int .i64 0) (w.heap.size) (by first | omega | assumption | (apply Ne.symm; assumption) | (simp; done) | (simp; omega))).trans q9
    have q12 := heap_setCell_same (((((w1.setCell ⟨w.heap.size + 1, 0, none⟩ (.int .i64 0)).setCell ⟨w.heap.size + 1, 1, none⟩ (.int .i64 0)).setCell ⟨w.heap.size + 1, 2, none⟩ (.int .i64 0)).setCell ⟨w.heap.size + 1, 3, none⟩ (.int .i64 0)).setCell ⟨w.heap.size + 1, 4, none⟩ (.int .i64 0)) (w.heap.size + 1) 5 _ _ (.int .i64 0) q10
    obtain ⟨w2, hw2⟩ : ∃ W, W = ((((((w1.setCell ⟨w.heap.size + 1, 0, none⟩ (.int .i64 0)).setCell ⟨w.heap.size + 1, 1, none⟩ (.int .i64 0)).setCell ⟨w.heap.size + 1, 2, none⟩ (.int .i64 0)).setCell ⟨w.heap.size + 1, 3, none⟩ (.int .i64 0)).setCell ⟨w.heap.size + 1, 4, none⟩ (.int .i64 0)).setCell ⟨w.heap.size + 1, 5, none⟩ (.int .i64 0)) := ⟨_, rfl⟩
    rw [← hw2]
    replace h0 : w2.heap[w.heap.size]? = some (.cells #[.int .i64 m.m.a, .int .i64 m.m.b, .int .i64 m.m.c, .int .i64 m.m.d, .int .i64 m.t.x, .int .i64 m.t.y] 49 (0, 0)) := by rw [hw2]; exact q11
    replace h1 : w2.heap[w.heap.size + 1]? = some (.cells #[.int .i64 0, .int .i64 0, .int .i64 0, .int .i64 0, .int .i64 0, .int .i64 0] 49 (0, 0)) := by rw [hw2]; exact q12
    have D2 := Lib.hid (show Below w.heap.size w w2 by rw [hw2]; exact (Below.setCell (Below.setCell (Below.setCell (Below.setCell (Below.setCell (Below.setCell D1.out (p := ⟨w.heap.size + 1, 0, none⟩) (by first | omega | (simp; done) | (simp; omega)) (.int .i64 0)) (p := ⟨w.heap.size + 1, 1, none⟩) (by first | omega | (simp; done) | (simp; omega)) (.int .i64 0)) (p := ⟨w.heap.size + 1, 2, none⟩) (by first | omega | (simp; done) | (simp; omega)) (.int .i64 0)) (p := ⟨w.heap.size + 1, 3, none⟩) (by first | omega | (simp; done) | (simp; omega)) (.int .i64 0)) (p := ⟨w.heap.size + 1, 4, none⟩) (by first | omega | (simp; done) | (simp; omega)) (.int .i64 0)) (p := ⟨w.heap.size + 1, 5, none⟩) (by first | omega | (simp; done) | (simp; omega)) (.int .i64 0)))
    have z2 := D2.out.size
    have y2 : w2.heap.size = w1.heap.size := by rw [hw2]; simp
    clear q12 q11 q10 q9 q8 q7 q6 q5 q4 q3 q2 q1 hw2
    try clear c0_0
    have c0_0 := cell_of_heap h0 (j := 0) rfl
    try clear f0_0
    have f0_0 := frozen_of_heap h0 0
    try clear c0_1
    have c0_1 := cell_of_heap h0 (j := 1) rfl
    try clear f0_1
    have f0_1 := frozen_of_heap h0 1
    try clear c0_2
    have c0_2 := cell_of_heap h0 (j := 2) rfl
    try clear f0_2
    have f0_2 := frozen_of_heap h0 2
    try clear c0_3
    have c0_3 := cell_of_heap h0 (j := 3) rfl
    try clear f0_3
    have f0_3 := frozen_of_heap h0 3
    try clear c0_4
    have c0_4 := cell_of_heap h0 (j := 4) rfl
    try clear f0_4
    have f0_4 := frozen_of_heap h0 4
    try clear c0_5
    have c0_5 := cell_of_heap h0 (j := 5) rfl
    try clear f0_5
    have f0_5 := frozen_of_heap h0 5
    try clear c1_0
    have c1_0 := cell_of_heap h1 (j := 0) rfl
    try clear f1_0
    have f1_0 := frozen_of_heap h1 0
    try clear c1_1
    have c1_1 := cell_of_heap h1 (j := 1) rfl
    try clear f1_1
    have f1_1 := frozen_of_heap h1 1
    try clear c1_2
    have c1_2 := cell_of_heap h1 (j := 2) rfl
    try clear f1_2
    have f1_2 := frozen_of_heap h1 2
    try clear c1_3
    have c1_3 := cell_of_heap h1 (j := 3) rfl
    try clear f1_3
    have f1_3 := frozen_of_heap h1 3
    try clear c1_4
    have c1_4 := cell_of_heap h1 (j := 4) rfl
    try clear f1_4
    have f1_4 := frozen_of_heap h1 4
    try clear c1_5
    have c1_5 := cell_of_heap h1 (j := 5) rfl
    try clear f1_5
    have f1_5 := frozen_of_heap h1 5
    refine bodyPost_ret (results_bt rfl _ _ (w.heap.size + 1) rfl rfl h1 Tryd.underlying49 rfl (by kernel_rfl)) rfl ⟨rfl, D2.out⟩
  · rw [hk1] at C1
    simp only [Bool.true_and, if_true]
    have C2 := fun W => determinant_any m.m W
    rw [det_mok ((okV_iff m).1 hk1).1] at C2
    cases hu : unitB m.m
    · simp only [Bool.false_and, Bool.false_eq_true, if_false]
      have hn1 : ¬ m.m.det = 1 := fun h => by unfold unitB at hu; simp [h] at hu
      have hn2 : ¬ m.m.det = -1 := fun h => by unfold unitB at hu; simp [h] at hu
      generalize m.m.det = d at *
      have hn3 : (d != 1) = true := by simpa using hn1
      have hn4 : (d != -1) = true := by simpa using hn2
      unfold m0 Mov.val Mat.val at *
      have H1 := Lib.hid C1
      have H2 := Lib.hid C2
      clear C1 C2 hk1 hu
      go_enter Tryd.func33, Tryd.ntmps33
      go_wp2_with fail
      refine (H1.out _).mono ?_
      rintro e w1 ⟨rfl, hb⟩
      have h0 : w1.heap[w.heap.size]? = some (.cells #[.int .i64 m.m.a, .int .i64 m.m.b, .int .i64 m.m.c, .int .i64 m.m.d, .int .i64 m.t.x, .int .i64 m.t.y] 49 (0, 0)) := hb_below hb (by repeat (first | (refine hb_new ?_; (first | omega | (simp; omega) | (simp; done))) | (refine hb_old ?_ ?_; rotate_left; focus (first | omega | (simp; omega) | (simp; done))) | refine hb_drew ?_)) (by first | omega | (simp; omega) | (simp; done))
      have h1 : w1.heap[w.heap.size + 1]? = some (.cells #[.int .i64 0, .int .i64 0, .int .i64 0, .int .i64 0, .int .i64 0, .int .i64 0] 49 (0, 0)) := hb_below hb (by repeat (first | (refine hb_new ?_; (first | omega | (simp; omega) | (simp; done))) | (refine hb_old ?_ ?_; rotate_left; focus (first | omega | (simp; omega) | (simp; done))) | refine hb_drew ?_)) (by first | omega | (simp; omega) | (simp; done))
      have y1 := Below.size hb
      try simp only [World.size_alloc, World.size_drew] at y1
      have D1 := Lib.hid (show Below w.heap.size w w1 from Below.trans (by repeat (first | exact Below.refl _ _ | refine Below.alloc ?_ (by first | omega | (simp; omega) | (simp; done)) _)) (Below.mono hb (by first | omega | (simp; omega) | (simp; done))))
      have z1 := D1.out.size
      clear hb
      try clear c0_0
      have c0_0 := cell_of_heap h0 (j := 0) rfl
      try clear f0_0
      have f0_0 := frozen_of_heap h0 0
      try clear c0_1
      have c0_1 := cell_of_heap h0 (j := 1) rfl
      try clear f0_1
      have f0_1 := frozen_of_heap h0 1
      try clear c0_2
      have c0_2 := cell_of_heap h0 (j := 2) rfl
      try clear f0_2
      have f0_2 := frozen_of_heap h0 2
      try clear c0_3
      have c0_3 := cell_of_heap h0 (j := 3) rfl
      try clear f0_3
      have f0_3 := frozen_of_heap h0 3
      try clear c0_4
      have c0_4 := cell_of_heap h0 (j := 4) rfl
      try clear f0_4
      have f0_4 := frozen_of_heap h0 4
      try clear c0_5
      have c0_5 := cell_of_heap h0 (j := 5) rfl
      try clear f0_5
      have f0_5 := frozen_of_heap h0 5
      try clear c1_0
      have c1_0 := cell_of_heap h1 (j := 0) rfl
      try clear f1_0
      have f1_0 := frozen_of_heap h1 0
      try clear c1_1
      have c1_1 := cell_of_heap h1 (j := 1) rfl
      try clear f1_1
      have f1_1 := frozen_of_heap h1 1
      try clear c1_2
      have c1_2 := cell_of_heap h1 (j := 2) rfl
      try clear f1_2
      have f1_2 := frozen_of_heap h1 2
      try clear c1_3
      have c1_3 := cell_of_heap h1 (j := 3) rfl
      try clear f1_3
      have f1_3 := frozen_of_heap h1 3
      try clear c1_4
      have c1_4 := cell_of_heap h1 (j := 4) rfl
      try clear f1_4
      have f1_4 := frozen_of_heap h1 4
      try clear c1_5
      have c1_5 := cell_of_heap h1 (j := 5) rfl
      try clear f1_5
      have f1_5 := frozen_of_heap h1 5
      go_wp2_with fail
      refine (H2.out _).mono ?_
      rintro e w2 ⟨rfl, hb⟩
      replace h0 : w2.heap[w.heap.size]? = some (.cells #[.int .i64 m.m.a, .int .i64 m.m.b, .int .i64 m.m.c, .int .i64 m.m.d, .int .i64 m.t.x, .int .i64 m.t.y] 49 (0, 0)) := hb_below hb (by repeat (first | exact h0 | (refine hb_new ?_; (first | omega | (simp; omega) | (simp; done))) | (refine hb_old ?_ ?_; rotate_left; focus (first | omega | (simp; omega) | (simp; done))) | refine hb_drew ?_)) (by first | omega | (simp; omega) | (simp; done))
      replace h1 : w2.heap[w.heap.size + 1]? = some (.cells #[.int .i64 0, .int .i64 0, .int .i64 0, .int .i64 0, .int .i64 0, .int .i64 0] 49 (0, 0)) := hb_below hb (by repeat (first | exact h1 | (refine hb_new ?_; (first | omega | (simp; omega) | (simp; done))) | (refine hb_old ?_ ?_; rotate_left; focus (first | omega | (simp; omega) | (simp; done))) | refine hb_drew ?_)) (by first | omega | (simp; omega) | (simp; done))
      have y2 := Below.size hb
      try simp only [World.size_alloc, World.size_drew] at y2
      have D2 := Lib.hid (show Below w.heap.size w w2 from Below.trans (by repeat (first | exact D1.out | exact Below.refl _ _ | refine Below.alloc ?_ (by first | omega | (simp; omega) | (simp; done)) _)) (Below.mono hb (by first | omega | (simp; omega) | (simp; done))))
      have z2 := D2.out.size
      clear hb
      try clear c0_0
      have c0_0 := cell_of_heap h0 (j := 0) rfl
      try clear f0_0
      have f0_0 := frozen_of_heap h0 0
      try clear c0_1
      have c0_1 := cell_of_heap h0 (j := 1) rfl
      try clear f0_1
      have f0_1 := frozen_of_heap h0 1
      try clear c0_2
      have c0_2 := cell_of_heap h0 (j := 2) rfl
      try clear f0_2
      have f0_2 := frozen_of_heap h0 2
      try clear c0_3
      have c0_3 := cell_of_heap h0 (j := 3) rfl
      try clear f0_3
      have f0_3 := frozen_of_heap h0 3
      try clear c0_4
      have c0_4 := cell_of_heap h0 (j := 4) rfl
      try clear f0_4
      have f0_4 := frozen_of_heap h0 4
      try clear c0_5
      have c0_5 := cell_of_heap h0 (j := 5) rfl
      try clear f0_5
      have f0_5 := frozen_of_heap h0 5
      try clear c1_0
      have c1_0 := cell_of_heap h1 (j := 0) rfl
      try clear f1_0
      have f1_0 := frozen_of_heap h1 0
      try clear c1_1
      have c1_1 := cell_of_heap h1 (j := 1) rfl
      try clear f1_1
      have f1_1 := frozen_of_heap h1 1
      try clear c1_2
      have c1_2 := cell_of_heap h1 (j := 2) rfl
      try clear f1_2
      have f1_2 := frozen_of_heap h1 2
      try clear c1_3
      have c1_3 := cell_of_heap h1 (j := 3) rfl
      try clear f1_3
      have f1_3 := frozen_of_heap h1 3
      try clear c1_4
      have c1_4 := cell_of_heap h1 (j := 4) rfl
      try clear f1_4
      have f1_4 := frozen_of_heap h1 4
      try clear c1_5
      have c1_5 := cell_of_heap h1 (j := 5) rfl
      try clear f1_5
      have f1_5 := frozen_of_heap h1 5
      go_wp2_with fail
      have q1 := (Below.heap_setCell w2 ⟨w.heap.size + 1, 0, none⟩ (.int .i64 0) (w.heap.size) (by first | omega | assumption | (apply Ne.symm; assumption) | (simp; done) | (simp; omega))).trans h0
      have q2 := heap_setCell_same w2 (w.heap.size + 1) 0 _ _ (.int .i64 0) h1
      have q3 := (Below.heap_setCell (w2.setCell ⟨w.heap.size + 1, 0, none⟩ (.int .i64 0)) ⟨w.heap.size + 1, 1, none⟩ (.int .i64 0) (w.heap.size) (by first | omega | assumption | (apply Ne.symm; assumption) | (simp; done) | (simp; omega))).trans q1
      have q4 := heap_setCell_same (w2.setCell ⟨w.heap.size + 1, 0, none⟩ (.int .i64 0)) (w.heap.size + 1) 1 _ _ (.int .i64 0) q2
      have q5 := (Below.heap_setCell ((w2.setCell ⟨w.heap.size + 1, 0, none⟩ (.int .i64 0)).setCell ⟨w.heap.size + 1, 1, none⟩ (.int .i64 0)) ⟨w.heap.size + 1, 2, none⟩ (.int .i64 0) (w.heap.size) (by first | omega | assumption | (apply Ne.symm; assumption) | (simp; done) | (simp; omega))).trans q3
      have q6 := heap_setCell_same ((w2.setCell ⟨w.heap.size + 1, 0, none⟩ (.int .i64 0)).setCell ⟨w.heap.size + 1, 1, none⟩ (.int .i64 0)) (w.heap.size + 1) 2 _ _ (.int .i64 0) q4
      have q7 := (Below.heap_setCell (((w2.setCell ⟨w.heap.size + 1, 0, none⟩ (.int .i64 0)).setCell ⟨w.heap.size + 1, 1, none⟩ (.int .i64 0)).setCell ⟨w.heap.size + 1, 2, none⟩ (.int .i64 0)) ⟨w.heap.size + 1, 3, none⟩ (.int .i64 0) (w.heap.size) (by first | omega | assumption | (apply Ne.symm; assumption) | (simp; done) | (simp; omega))).trans q5
      have q8 := heap_setCell_same (((w2.setCell ⟨w.heap.size + 1, 0, none⟩ (.int .i64 0)).setCell ⟨w.heap.size + 1, 1, none⟩ (.int .i64 0)).setCell ⟨w.heap.size + 1, 2, none⟩ (.int .i64 0)) (w.heap.size + 1) 3 _ _ (.int .i64 0) q6
      have q9 := (Below.heap_setCell ((((w2.setCell ⟨w.heap.size + 1, 0, none⟩ (.int .i64 0)).setCell ⟨w.heap.size + 1, 1, none⟩ (.int .i64 0)).setCell ⟨w.heap.size + 1, 2, none⟩ (.int .i64 0)).setCell ⟨w.heap.size + 1, 3, none⟩ (.int .i64 0)) ⟨w.heap.size + 1, 4, none⟩ (.int .i64 0) (w.heap.size) (by first | omega | assumption | (apply Ne.symm; assumption) | (simp; done) | (simp; omega))).trans q7
      have q10 := heap_setCell_same ((((w2.setCell ⟨w.heap.size + 1, 0, none⟩ (.int .i64 0)).setCell ⟨w.heap.size + 1, 1, none⟩ (.int .i64 0)).setCell ⟨w.heap.size + 1, 2, none⟩ (.int .i64 0)).setCell ⟨w.heap.size + 1, 3, none⟩ (.int .i64 0)) (w.heap.size + 1) 4 _ _ (.int .i64 0) q8
      have q11 := (Below.heap_setCell (((((w2.setCell ⟨w.heap.size + 1, 0, none⟩ (.int .i64 0)).setCell ⟨w.heap.size + 1, 1, none⟩ (.int .i64 0)).setCell ⟨w.heap.size + 1, 2, none⟩ (.int .i64 0)).setCell ⟨w.heap.size + 1, 3, none⟩ (.int .i64 0)).setCell ⟨w.heap.size + 1, 4, none⟩ (.int .i64 0)) ⟨w.heap.size + 1, 5, none⟩ (.int .i64 0) (w.heap.size) (by first | omega | assumption | (apply Ne.symm; assumption) | (simp; done) | (simp; omega))).trans q9
      have q12 := heap_setCell_same (((((w2.setCell ⟨w.heap.size + 1, 0, none⟩ (.int .i64 0)).setCell ⟨w.heap.size + 1, 1, none⟩ (.int .i64 0)).setCell ⟨w.heap.size + 1, 2, none⟩ (.int .i64 0)).setCell ⟨w.heap.size + 1, 3, none⟩ (.int .i64 0)).setCell ⟨w.heap.size + 1, 4, none⟩ (.int .i64 0)) (w.heap.size + 1) 5 _ _ (.int .i64 0) q10
      obtain ⟨w3, hw3⟩ : ∃ W, W = ((((((w2.setCell ⟨w.heap.size + 1, 0, none⟩ (.int .i64 0)).setCell ⟨w.heap.size + 1, 1, none⟩ (.int .i64 0)).setCell ⟨w.heap.size + 1, 2, none⟩ (.int .i64 0)).setCell ⟨w.heap.size + 1, 3, none⟩ (.int .i64 0)).setCell ⟨w.heap.size + 1, 4, none⟩ (.int .i64 0)).setCell ⟨w.heap.size + 1, 5, none⟩ (.int .i64 0)) := ⟨_, rfl⟩
      rw [← hw3]
      replace h0 : w3.heap[w.heap.size]? = some (.cells #[.int .i64 m.m.a, .int .i64 m.m.b, .int .i64 m.m.c, .int .i64 m.m.d, .int .i64 m.t.x, .int .i64 m.t.y] 49 (0, 0)) := by rw [hw3]; exact q11
      replace h1 : w3.heap[w.heap.size + 1]? = some (.cells #[.int .i64 0, .int .i64 0, .int .i64 0, .int .i64 0, .int .i64 0, .int .i64 0] 49 (0, 0)) := by rw [hw3]; exact q12
      have D3 := Lib.hid (show Below w.heap.size w w3 by rw [hw3]; exact (Below.setCell (Below.setCell (Below.setCell (Below.setCell (Below.setCell (Below.setCell D2.out (p := ⟨w.heap.size + 1, 0, none⟩) (by first | omega | (simp; done) | (simp; omega)) (.int .i64 0)) (p := ⟨w.heap.size + 1, 1, none⟩) (by first | omega | (simp; done) | (simp; omega)) (.int .i64 0)) (p := ⟨w.heap.size + 1, 2, none⟩) (by first | omega | (simp; done) | (simp; omega)) (.int .i64 0)) (p := ⟨w.heap.size + 1, 3, none⟩) (by first | omega | (simp; done) | (simp; omega)) (.int .i64 0)) (p := ⟨w.heap.size + 1, 4, none⟩) (by first | omega | (simp; done) | (simp; omega)) (.int .i64 0)) (p := ⟨w.heap.size + 1, 5, none⟩) (by first | omega | (simp; done) | (simp; omega)) (.int .i64 0)))
      have z3 := D3.out.size
      have y3 : w3.heap.size = w2.heap.size := by rw [hw3]; simp
      clear q12 q11 q10 q9 q8 q7 q6 q5 q4 q3 q2 q1 hw3
      try clear c0_0
      have c0_0 := cell_of_heap h0 (j := 0) rfl
      try clear f0_0
      have f0_0 := frozen_of_heap h0 0
      try clear c0_1
      have c0_1 := cell_of_heap h0 (j := 1) rfl
      try clear f0_1
      have f0_1 := frozen_of_heap h0 1
      try clear c0_2
      have c0_2 := cell_of_heap h0 (j := 2) rfl
      try clear f0_2
      have f0_2 := frozen_of_heap h0 2
      try clear c0_3
      have c0_3 := cell_of_heap h0 (j := 3) rfl
      try clear f0_3
      have f0_3 := frozen_of_heap h0 3
      try clear c0_4
      have c0_4 := cell_of_heap h0 (j := 4) rfl
      try clear f0_4
      have f0_4 := frozen_of_heap h0 4
      try clear c0_5
      have c0_5 := cell_of_heap h0 (j := 5) rfl
      try clear f0_5
      have f0_5 := frozen_of_heap h0 5
      try clear c1_0
      have c1_0 := cell_of_heap h1 (j := 0) rfl
      try clear f1_0
      have f1_0 := frozen_of_heap h1 0
      try clear c1_1
      have c1_1 := cell_of_heap h1 (j := 1) rfl
      try clear f1_1
      have f1_1 := frozen_of_heap h1 1
      try clear c1_2
      have c1_2 := cell_of_heap h1 (j := 2) rfl
      try clear f1_2
      have f1_2 := frozen_of_heap h1 2
      try clear c1_3
      have c1_3 := cell_of_heap h1 (j := 3) rfl
      try clear f1_3
      have f1_3 := frozen_of_heap h1 3
      try clear c1_4
      have c1_4 := cell_of_heap h1 (j := 4) rfl
      try clear f1_4
      have f1_4 := frozen_of_heap h1 4
      try clear c1_5
      have c1_5 := cell_of_heap h1 (j := 5) rfl
      try clear f1_5
      have f1_5 := frozen_of_heap h1 5
      refine bodyPost_ret (results_bt rfl _ _ (w.heap.size + 1) rfl rfl h1 Tryd.underlying49 rfl (by kernel_rfl)) rfl ⟨rfl, D3.out⟩
    · have U := (unitB_iff _).1 hu
      obtain ⟨b1, b2, b3, b4, _, _, _, _⟩ := back_parts hk1 U
      simp only [Bool.true_and, if_true]
      have C3 := fun W => inverse_any m.m W
      have C4 := fun W => applied_any ⟨m.m.inv, ⟨0, 0⟩⟩ m.t W
      have C5 := fun W => step_any (image m.m.inv m.t) ⟨0, 0⟩ W
      have C6 := fun W => validMove_any (back m) W
      rw [b1] at C3
      rw [b2] at C4
      rw [b3] at C5
      have e1 : back m = ⟨m.m.inv, (back m).t⟩ := rfl
      rw [e1] at C6 ⊢
      unfold Unit1 at U
      clear b1 b2 b3 b4 e1
      generalize image m.m.inv m.t = y at *
      generalize (back m).t = t at *
      generalize m.m.inv = v at *
      generalize m.m.det = d at *
      generalize okV ⟨v, t⟩ = k1 at *
      unfold Mov.val Pt.val Mat.val at *
      have H1 := Lib.hid C1
      have H2 := Lib.hid C2
      have H3 := Lib.hid C3
      have H4 := Lib.hid C4
      have H5 := Lib.hid C5
      have H6 := Lib.hid C6
      clear C1 C2 C3 C4 C5 C6 hk1 hu
      unfold m0
      rcases U with U | U <;> subst U
      all_goals (
        go_enter Tryd.func33, Tryd.ntmps33
        go_wp2_with fail
        refine (H1.out _).mono ?_
        rintro e w1 ⟨rfl, hb⟩
        have h0 : w1.heap[w.heap.size]? = some (.cells #[.int .i64 m.m.a, .int .i64 m.m.b, .int .i64 m.m.c, .int .i64 m.m.d, .int .i64 m.t.x, .int .i64 m.t.y] 49 (0, 0)) := hb_below hb (by repeat (first | (refine hb_new ?_; (first | omega | (simp; omega) | (simp; done))) | (refine hb_old ?_ ?_; rotate_left; focus (first | omega | (simp; omega) | (simp; done))) | refine hb_drew ?_)) (by first | omega | (simp; omega) | (simp; done))
        have h1 : w1.heap[w.heap.size + 1]? = some (.cells #[.int .i64 0, .int .i64 0, .int .i64 0, .int .i64 0, .int .i64 0, .int .i64 0] 49 (0, 0)) := hb_below hb (by repeat (first | (refine hb_new ?_; (first | omega | (simp; omega) | (simp; done))) | (refine hb_old ?_ ?_; rotate_left; focus (first | omega | (simp; omega) | (simp; done))) | refine hb_drew ?_)) (by first | omega | (simp; omega) | (simp; done))
        have y1 := Below.size hb
        try simp only [World.size_alloc, World.size_drew] at y1
        have D1 := Lib.hid (show Below w.heap.size w w1 from Below.trans (by repeat (first | exact Below.refl _ _ | refine Below.alloc ?_ (by first | omega | (simp; omega) | (simp; done)) _)) (Below.mono hb (by first | omega | (simp; omega) | (simp; done))))
        have z1 := D1.out.size
        clear hb
        try clear c0_0
        have c0_0 := cell_of_heap h0 (j := 0) rfl
        try clear f0_0
        have f0_0 := frozen_of_heap h0 0
        try clear c0_1
        have c0_1 := cell_of_heap h0 (j := 1) rfl
        try clear f0_1
        have f0_1 := frozen_of_heap h0 1
        try clear c0_2
        have c0_2 := cell_of_heap h0 (j := 2) rfl
        try clear f0_2
        have f0_2 := frozen_of_heap h0 2
        try clear c0_3
        have c0_3 := cell_of_heap h0 (j := 3) rfl
        try clear f0_3
        have f0_3 := frozen_of_heap h0 3
        try clear c0_4
        have c0_4 := cell_of_heap h0 (j := 4) rfl
        try clear f0_4
        have f0_4 := frozen_of_heap h0 4
        try clear c0_5
        have c0_5 := cell_of_heap h0 (j := 5) rfl
        try clear f0_5
        have f0_5 := frozen_of_heap h0 5
        try clear c1_0
        have c1_0 := cell_of_heap h1 (j := 0) rfl
        try clear f1_0
        have f1_0 := frozen_of_heap h1 0
        try clear c1_1
        have c1_1 := cell_of_heap h1 (j := 1) rfl
        try clear f1_1
        have f1_1 := frozen_of_heap h1 1
        try clear c1_2
        have c1_2 := cell_of_heap h1 (j := 2) rfl
        try clear f1_2
        have f1_2 := frozen_of_heap h1 2
        try clear c1_3
        have c1_3 := cell_of_heap h1 (j := 3) rfl
        try clear f1_3
        have f1_3 := frozen_of_heap h1 3
        try clear c1_4
        have c1_4 := cell_of_heap h1 (j := 4) rfl
        try clear f1_4
        have f1_4 := frozen_of_heap h1 4
        try clear c1_5
        have c1_5 := cell_of_heap h1 (j := 5) rfl
        try clear f1_5
        have f1_5 := frozen_of_heap h1 5
        go_wp2_with fail
        refine (H2.out _).mono ?_
        rintro e w2 ⟨rfl, hb⟩
        replace h0 : w2.heap[w.heap.size]? = some (.cells #[.int .i64 m.m.a, .int .i64 m.m.b, .int .i64 m.m.c, .int .i64 m.m.d, .int .i64 m.t.x, .int .i64 m.t.y] 49 (0, 0)) := hb_below hb (by repeat (first | exact h0 | (refine hb_new ?_; (first | omega | (simp; omega) | (simp; done))) | (refine hb_old ?_ ?_; rotate_left; focus (first | omega | (simp; omega) | (simp; done))) | refine hb_drew ?_)) (by first | omega | (simp; omega) | (simp; done))
        replace h1 : w2.heap[w.heap.size + 1]? = some (.cells #[.int .i64 0, .int .i64 0, .int .i64 0, .int .i64 0, .int .i64 0, .int .i64 0] 49 (0, 0)) := hb_below hb (by repeat (first | exact h1 | (refine hb_new ?_; (first | omega | (simp; omega) | (simp; done))) | (refine hb_old ?_ ?_; rotate_left; focus (first | omega | (simp; omega) | (simp; done))) | refine hb_drew ?_)) (by first | omega | (simp; omega) | (simp; done))
        have y2 := Below.size hb
        try simp only [World.size_alloc, World.size_drew] at y2
        have D2 := Lib.hid (show Below w.heap.size w w2 from Below.trans (by repeat (first | exact D1.out | exact Below.refl _ _ | refine Below.alloc ?_ (by first | omega | (simp; omega) | (simp; done)) _)) (Below.mono hb (by first | omega | (simp; omega) | (simp; done))))
        have z2 := D2.out.size
        clear hb
        try clear c0_0
        have c0_0 := cell_of_heap h0 (j := 0) rfl
        try clear f0_0
        have f0_0 := frozen_of_heap h0 0
        try clear c0_1
        have c0_1 := cell_of_heap h0 (j := 1) rfl
        try clear f0_1
        have f0_1 := frozen_of_heap h0 1
        try clear c0_2
        have c0_2 := cell_of_heap h0 (j := 2) rfl
        try clear f0_2
        have f0_2 := frozen_of_heap h0 2
        try clear c0_3
        have c0_3 := cell_of_heap h0 (j := 3) rfl
        try clear f0_3
        have f0_3 := frozen_of_heap h0 3
        try clear c0_4
        have c0_4 := cell_of_heap h0 (j := 4) rfl
        try clear f0_4
        have f0_4 := frozen_of_heap h0 4
        try clear c0_5
        have c0_5 := cell_of_heap h0 (j := 5) rfl
        try clear f0_5
        have f0_5 := frozen_of_heap h0 5
        try clear c1_0
        have c1_0 := cell_of_heap h1 (j := 0) rfl
        try clear f1_0
        have f1_0 := frozen_of_heap h1 0
        try clear c1_1
        have c1_1 := cell_of_heap h1 (j := 1) rfl
        try clear f1_1
        have f1_1 := frozen_of_heap h1 1
        try clear c1_2
        have c1_2 := cell_of_heap h1 (j := 2) rfl
        try clear f1_2
        have f1_2 := frozen_of_heap h1 2
        try clear c1_3
        have c1_3 := cell_of_heap h1 (j := 3) rfl
        try clear f1_3
        have f1_3 := frozen_of_heap h1 3
        try clear c1_4
        have c1_4 := cell_of_heap h1 (j := 4) rfl
        try clear f1_4
        have f1_4 := frozen_of_heap h1 4
        try clear c1_5
        have c1_5 := cell_of_heap h1 (j := 5) rfl
        try clear f1_5
        have f1_5 := frozen_of_heap h1 5
        go_wp2_with fail
        refine (H3.out _).mono ?_
        rintro e w3 ⟨rfl, hb⟩
        replace h0 : w3.heap[w.heap.size]? = some (.cells #[.int .i64 m.m.a, .int .i64 m.m.b, .int .i64 m.m.c, .int .i64 m.m.d, .int .i64 m.t.x, .int .i64 m.t.y] 49 (0, 0)) := hb_below hb (by repeat (first | exact h0 | (refine hb_new ?_; (first | omega | (simp; omega) | (simp; done))) | (refine hb_old ?_ ?_; rotate_left; focus (first | omega | (simp; omega) | (simp; done))) | refine hb_drew ?_)) (by first | omega | (simp; omega) | (simp; done))
        replace h1 : w3.heap[w.heap.size + 1]? = some (.cells #[.int .i64 0, .int .i64 0, .int .i64 0, .int .i64 0, .int .i64 0, .int .i64 0] 49 (0, 0)) := hb_below hb (by repeat (first | exact h1 | (refine hb_new ?_; (first | omega | (simp; omega) | (simp; done))) | (refine hb_old ?_ ?_; rotate_left; focus (first | omega | (simp; omega) | (simp; done))) | refine hb_drew ?_)) (by first | omega | (simp; omega) | (simp; done))
        have y3 := Below.size hb
        try simp only [World.size_alloc, World.size_drew] at y3
        have D3 := Lib.hid (show Below w.heap.size w w3 from Below.trans (by repeat (first | exact D2.out | exact Below.refl _ _ | refine Below.alloc ?_ (by first | omega | (simp; omega) | (simp; done)) _)) (Below.mono hb (by first | omega | (simp; omega) | (simp; done))))
        have z3 := D3.out.size
        clear hb
        try clear c0_0
        have c0_0 := cell_of_heap h0 (j := 0) rfl
        try clear f0_0
        have f0_0 := frozen_of_heap h0 0
        try clear c0_1
        have c0_1 := cell_of_heap h0 (j := 1) rfl
        try clear f0_1
        have f0_1 := frozen_of_heap h0 1
        try clear c0_2
        have c0_2 := cell_of_heap h0 (j := 2) rfl
        try clear f0_2
        have f0_2 := frozen_of_heap h0 2
        try clear c0_3
        have c0_3 := cell_of_heap h0 (j := 3) rfl
        try clear f0_3
        have f0_3 := frozen_of_heap h0 3
        try clear c0_4
        have c0_4 := cell_of_heap h0 (j := 4) rfl
        try clear f0_4
        have f0_4 := frozen_of_heap h0 4
        try clear c0_5
        have c0_5 := cell_of_heap h0 (j := 5) rfl
        try clear f0_5
        have f0_5 := frozen_of_heap h0 5
        try clear c1_0
        have c1_0 := cell_of_heap h1 (j := 0) rfl
        try clear f1_0
        have f1_0 := frozen_of_heap h1 0
        try clear c1_1
        have c1_1 := cell_of_heap h1 (j := 1) rfl
        try clear f1_1
        have f1_1 := frozen_of_heap h1 1
        try clear c1_2
        have c1_2 := cell_of_heap h1 (j := 2) rfl
        try clear f1_2
        have f1_2 := frozen_of_heap h1 2
        try clear c1_3
        have c1_3 := cell_of_heap h1 (j := 3) rfl
        try clear f1_3
        have f1_3 := frozen_of_heap h1 3
        try clear c1_4
        have c1_4 := cell_of_heap h1 (j := 4) rfl
        try clear f1_4
        have f1_4 := frozen_of_heap h1 4
        try clear c1_5
        have c1_5 := cell_of_heap h1 (j := 5) rfl
        try clear f1_5
        have f1_5 := frozen_of_heap h1 5
        go_wp2_with fail
        obtain ⟨w4, hw4⟩ : ∃ W, W = (w3.alloc (.cells #[.int .i64 v.a, .int .i64 v.b, .int .i64 v.c, .int .i64 v.d, .int .i64 0, .int .i64 0] 49)) := ⟨_, rfl⟩
        rw [← hw4]
        replace h0 : w4.heap[w.heap.size]? = some (.cells #[.int .i64 m.m.a, .int .i64 m.m.b, .int .i64 m.m.c, .int .i64 m.m.d, .int .i64 m.t.x, .int .i64 m.t.y] 49 (0, 0)) := by rw [hw4]; exact (by repeat (first | exact h0 | (refine hb_new ?_; (first | omega | (simp; omega) | (simp; done))) | (refine hb_old ?_ ?_; rotate_left; focus (first | omega | (simp; omega) | (simp; done))) | refine hb_drew ?_))
        replace h1 : w4.heap[w.heap.size + 1]? = some (.cells #[.int .i64 0, .int .i64 0, .int .i64 0, .int .i64 0, .int .i64 0, .int .i64 0] 49 (0, 0)) := by rw [hw4]; exact (by repeat (first | exact h1 | (refine hb_new ?_; (first | omega | (simp; omega) | (simp; done))) | (refine hb_old ?_ ?_; rotate_left; focus (first | omega | (simp; omega) | (simp; done))) | refine hb_drew ?_))
        have h2 : w4.heap[w3.heap.size]? = some (.cells #[.int .i64 v.a, .int .i64 v.b, .int .i64 v.c, .int .i64 v.d, .int .i64 0, .int .i64 0] 49 (0, 0)) := by rw [hw4]; exact (by repeat (first | (refine hb_new ?_; (first | omega | (simp; omega) | (simp; done))) | (refine hb_old ?_ ?_; rotate_left; focus (first | omega | (simp; omega) | (simp; done))) | refine hb_drew ?_))
        have hb : Below w3.heap.size w3 w4 := by rw [hw4]; exact (by repeat (first | exact Below.refl _ _ | refine Below.alloc ?_ (by first | omega | (simp; omega) | (simp; done)) _ | refine Below.drew ?_))
        have s4 : w3.heap.size + 1 ≤ w4.heap.size := by rw [hw4]; simp
        have y4 := Below.size hb
        try simp only [World.size_alloc, World.size_drew] at y4
        have D4 := Lib.hid (show Below w.heap.size w w4 from Below.trans (by repeat (first | exact D3.out | exact Below.refl _ _ | refine Below.alloc ?_ (by first | omega | (simp; omega) | (simp; done)) _)) (Below.mono hb (by first | omega | (simp; omega) | (simp; done))))
        have z4 := D4.out.size
        clear hb hw4
        try clear c0_0
        have c0_0 := cell_of_heap h0 (j := 0) rfl
        try clear f0_0
        have f0_0 := frozen_of_heap h0 0
        try clear c0_1
        have c0_1 := cell_of_heap h0 (j := 1) rfl
        try clear f0_1
        have f0_1 := frozen_of_heap h0 1
        try clear c0_2
        have c0_2 := cell_of_heap h0 (j := 2) rfl
        try clear f0_2
        have f0_2 := frozen_of_heap h0 2
        try clear c0_3
        have c0_3 := cell_of_heap h0 (j := 3) rfl
        try clear f0_3
        have f0_3 := frozen_of_heap h0 3
        try clear c0_4
        have c0_4 := cell_of_heap h0 (j := 4) rfl
        try clear f0_4
        have f0_4 := frozen_of_heap h0 4
        try clear c0_5
        have c0_5 := cell_of_heap h0 (j := 5) rfl
        try clear f0_5
        have f0_5 := frozen_of_heap h0 5
        try clear c1_0
        have c1_0 := cell_of_heap h1 (j := 0) rfl
        try clear f1_0
        have f1_0 := frozen_of_heap h1 0
        try clear c1_1
        have c1_1 := cell_of_heap h1 (j := 1) rfl
        try clear f1_1
        have f1_1 := frozen_of_heap h1 1
        try clear c1_2
        have c1_2 := cell_of_heap h1 (j := 2) rfl
        try clear f1_2
        have f1_2 := frozen_of_heap h1 2
        try clear c1_3
        have c1_3 := cell_of_heap h1 (j := 3) rfl
        try clear f1_3
        have f1_3 := frozen_of_heap h1 3
        try clear c1_4
        have c1_4 := cell_of_heap h1 (j := 4) rfl
        try clear f1_4
        have f1_4 := frozen_of_heap h1 4
        try clear c1_5
        have c1_5 := cell_of_heap h1 (j := 5) rfl
        try clear f1_5
        have f1_5 := frozen_of_heap h1 5
        try clear c2_0
        have c2_0 := cell_of_heap h2 (j := 0) rfl
        try clear f2_0
        have f2_0 := frozen_of_heap h2 0
        try clear c2_1
        have c2_1 := cell_of_heap h2 (j := 1) rfl
        try clear f2_1
        have f2_1 := frozen_of_heap h2 1
        try clear c2_2
        have c2_2 := cell_of_heap h2 (j := 2) rfl
        try clear f2_2
        have f2_2 := frozen_of_heap h2 2
        try clear c2_3
        have c2_3 := cell_of_heap h2 (j := 3) rfl
        try clear f2_3
        have f2_3 := frozen_of_heap h2 3
        try clear c2_4
        have c2_4 := cell_of_heap h2 (j := 4) rfl
        try clear f2_4
        have f2_4 := frozen_of_heap h2 4
        try clear c2_5
        have c2_5 := cell_of_heap h2 (j := 5) rfl
        try clear f2_5
        have f2_5 := frozen_of_heap h2 5
        try clear c0_0
        try clear f0_0
        try clear c0_1
        try clear f0_1
        try clear c0_2
        try clear f0_2
        try clear c0_3
        try clear f0_3
        try clear c0_4
        try clear f0_4
        try clear c0_5
        try clear f0_5
        try clear c1_0
        try clear f1_0
        try clear c1_1
        try clear f1_1
        try clear c1_2
        try clear f1_2
        try clear c1_3
        try clear f1_3
        try clear c1_4
        try clear f1_4
        try clear c1_5
        try clear f1_5
        try clear c2_0
        try clear f2_0
        try clear c2_1
        try clear f2_1
        try clear c2_2
        try clear f2_2
        try clear c2_3
        try clear f2_3
        try clear c2_4
        try clear f2_4
        try clear c2_5
        try clear f2_5
        refine wp_region_class (fun w' => Below w4.heap.size w4 w') 8 (by kernel_rfl) (by kernel_rfl) (Below.refl _ w4).drew ?_
        simp only [List.take_succ_cons, List.take_zero, List.drop_succ_cons, List.drop_zero]
        refine quiet_load_mid rfl _ _ rfl _ _ rfl [.int .i64 v.a, .int .i64 v.b, .int .i64 v.c, .int .i64 v.d, .int .i64 0, .int .i64 0] _ (fun w' h => range_of_heap (hb_below h h2 (by first | omega | (simp; omega) | (simp; done)))) Tryd.underlying49 rfl (by kernel_rfl) ?_
        simp only [Act.put, List.setIfInBounds_toArray, List.set_cons_zero, List.set_cons_succ]
        refine quiet_still rfl _ (fun w _ => by go_simp; rfl) ?_
        simp only [Act.put, List.setIfInBounds_toArray, List.set_cons_zero, List.set_cons_succ]
        refine quiet_load_mid rfl _ _ rfl _ _ rfl [.int .i64 m.t.x, .int .i64 m.t.y] _ (fun w' h => range_part (range_of_heap (hb_below h h0 (by first | omega | (simp; omega) | (simp; done)))) 4 2) Tryd.underlying25 rfl (by kernel_rfl) ?_
        simp only [Act.put, List.setIfInBounds_toArray, List.set_cons_zero, List.set_cons_succ]
        refine quiet_call rfl 72 _ _ rfl (enter_of Tryd.func72 (by decide) (by intro h; cases h)) _ (in_class_b H4.out) ?_
        simp only [Act.put, List.setIfInBounds_toArray, List.set_cons_zero, List.set_cons_succ]
        refine quiet_still rfl _ (fun w _ => by go_simp; rfl) ?_
        simp only [Act.put, List.setIfInBounds_toArray, List.set_cons_zero, List.set_cons_succ]
        refine quiet_load_mid rfl _ _ rfl _ _ rfl [.int .i64 0, .int .i64 0] _ (fun w' h => range_part (range_of_heap (hb_below h h2 (by first | omega | (simp; omega) | (simp; done)))) 4 2) Tryd.underlying25 rfl (by kernel_rfl) ?_
        simp only [Act.put, List.setIfInBounds_toArray, List.set_cons_zero, List.set_cons_succ]
        refine quiet_call rfl 52 _ _ rfl (enter_of Tryd.func52 (by decide) (by intro h; cases h)) _ (in_class_b H5.out) ?_
        simp only [Act.put, List.setIfInBounds_toArray, List.set_cons_zero, List.set_cons_succ]
        refine quiet_still rfl _ (fun w _ => by go_simp; rfl) ?_
        simp only [Act.put, List.setIfInBounds_toArray, List.set_cons_zero, List.set_cons_succ]
        intro w5 hb
        replace h0 : w5.heap[w.heap.size]? = some (.cells #[.int .i64 m.m.a, .int .i64 m.m.b, .int .i64 m.m.c, .int .i64 m.m.d, .int .i64 m.t.x, .int .i64 m.t.y] 49 (0, 0)) := hb_below hb (by repeat (first | exact h0 | (refine hb_new ?_; (first | omega | (simp; omega) | (simp; done))) | (refine hb_old ?_ ?_; rotate_left; focus (first | omega | (simp; omega) | (simp; done))) | refine hb_drew ?_)) (by first | omega | (simp; omega) | (simp; done))
        replace h1 : w5.heap[w.heap.size + 1]? = some (.cells #[.int .i64 0, .int .i64 0, .int .i64 0, .int .i64 0, .int .i64 0, .int .i64 0] 49 (0, 0)) := hb_below hb (by repeat (first | exact h1 | (refine hb_new ?_; (first | omega | (simp; omega) | (simp; done))) | (refine hb_old ?_ ?_; rotate_left; focus (first | omega | (simp; omega) | (simp; done))) | refine hb_drew ?_)) (by first | omega | (simp; omega) | (simp; done))
        replace h2 : w5.heap[w3.heap.size]? = some (.cells #[.int .i64 v.a, .int .i64 v.b, .int .i64 v.c, .int .i64 v.d, .int .i64 0, .int .i64 0] 49 (0, 0)) := hb_below hb (by repeat (first | exact h2 | (refine hb_new ?_; (first | omega | (simp; omega) | (simp; done))) | (refine hb_old ?_ ?_; rotate_left; focus (first | omega | (simp; omega) | (simp; done))) | refine hb_drew ?_)) (by first | omega | (simp; omega) | (simp; done))
        have y5 := Below.size hb
        try simp only [World.size_alloc, World.size_drew] at y5
        have D5 := Lib.hid (show Below w.heap.size w w5 from Below.trans (by repeat (first | exact D4.out | exact Below.refl _ _ | refine Below.alloc ?_ (by first | omega | (simp; omega) | (simp; done)) _)) (Below.mono hb (by first | omega | (simp; omega) | (simp; done))))
        have z5 := D5.out.size
        clear hb
        try clear c0_0
        have c0_0 := cell_of_heap h0 (j := 0) rfl
        try clear f0_0
        have f0_0 := frozen_of_heap h0 0
        try clear c0_1
        have c0_1 := cell_of_heap h0 (j := 1) rfl
        try clear f0_1
        have f0_1 := frozen_of_heap h0 1
        try clear c0_2
        have c0_2 := cell_of_heap h0 (j := 2) rfl
        try clear f0_2
        have f0_2 := frozen_of_heap h0 2
        try clear c0_3
        have c0_3 := cell_of_heap h0 (j := 3) rfl
        try clear f0_3
        have f0_3 := frozen_of_heap h0 3
        try clear c0_4
        have c0_4 := cell_of_heap h0 (j := 4) rfl
        try clear f0_4
        have f0_4 := frozen_of_heap h0 4
        try clear c0_5
        have c0_5 := cell_of_heap h0 (j := 5) rfl
        try clear f0_5
        have f0_5 := frozen_of_heap h0 5
        try clear c1_0
        have c1_0 := cell_of_heap h1 (j := 0) rfl
        try clear f1_0
        have f1_0 := frozen_of_heap h1 0
        try clear c1_1
        have c1_1 := cell_of_heap h1 (j := 1) rfl
        try clear f1_1
        have f1_1 := frozen_of_heap h1 1
        try clear c1_2
        have c1_2 := cell_of_heap h1 (j := 2) rfl
        try clear f1_2
        have f1_2 := frozen_of_heap h1 2
        try clear c1_3
        have c1_3 := cell_of_heap h1 (j := 3) rfl
        try clear f1_3
        have f1_3 := frozen_of_heap h1 3
        try clear c1_4
        have c1_4 := cell_of_heap h1 (j := 4) rfl
        try clear f1_4
        have f1_4 := frozen_of_heap h1 4
        try clear c1_5
        have c1_5 := cell_of_heap h1 (j := 5) rfl
        try clear f1_5
        have f1_5 := frozen_of_heap h1 5
        try clear c2_0
        have c2_0 := cell_of_heap h2 (j := 0) rfl
        try clear f2_0
        have f2_0 := frozen_of_heap h2 0
        try clear c2_1
        have c2_1 := cell_of_heap h2 (j := 1) rfl
        try clear f2_1
        have f2_1 := frozen_of_heap h2 1
        try clear c2_2
        have c2_2 := cell_of_heap h2 (j := 2) rfl
        try clear f2_2
        have f2_2 := frozen_of_heap h2 2
        try clear c2_3
        have c2_3 := cell_of_heap h2 (j := 3) rfl
        try clear f2_3
        have f2_3 := frozen_of_heap h2 3
        try clear c2_4
        have c2_4 := cell_of_heap h2 (j := 4) rfl
        try clear f2_4
        have f2_4 := frozen_of_heap h2 4
        try clear c2_5
        have c2_5 := cell_of_heap h2 (j := 5) rfl
        try clear f2_5
        have f2_5 := frozen_of_heap h2 5
        go_wp2_with fail
        have q1 := (Below.heap_setCell w5 ⟨w3.heap.size, 4, none⟩ (.int .i64 t.x) (w.heap.size) (by first | omega | assumption | (apply Ne.symm; assumption) | (simp; done) | (simp; omega))).trans h0
        have q2 := (Below.heap_setCell w5 ⟨w3.heap.size, 4, none⟩ (.int .i64 t.x) (w.heap.size + 1) (by first | omega | assumption | (apply Ne.symm; assumption) | (simp; done) | (simp; omega))).trans h1
        have q3 := heap_setCell_same w5 (w3.heap.size) 4 _ _ (.int .i64 t.x) h2
        have q4 := (Below.heap_setCell (w5.setCell ⟨w3.heap.size, 4, none⟩ (.int .i64 t.x)) ⟨w3.heap.size, 5, none⟩ (.int .i64 t.y) (w.heap.size) (by first | omega | assumption | (apply Ne.symm; assumption) | (simp; done) | (simp; omega))).trans q1
        have q5 := (Below.heap_setCell (w5.setCell ⟨w3.heap.size, 4, none⟩ (.int .i64 t.x)) ⟨w3.heap.size, 5, none⟩ (.int .i64 t.y) (w.heap.size + 1) (by first | omega | assumption | (apply Ne.symm; assumption) | (simp; done) | (simp; omega))).trans q2
        have q6 := heap_setCell_same (w5.setCell ⟨w3.heap.size, 4, none⟩ (.int .i64 t.x)) (w3.heap.size) 5 _ _ (.int .i64 t.y) q3
        obtain ⟨w6, hw6⟩ : ∃ W, W = ((w5.setCell ⟨w3.heap.size, 4, none⟩ (.int .i64 t.x)).setCell ⟨w3.heap.size, 5, none⟩ (.int .i64 t.y)) := ⟨_, rfl⟩
        rw [← hw6]
        replace h0 : w6.heap[w.heap.size]? = some (.cells #[.int .i64 m.m.a, .int .i64 m.m.b, .int .i64 m.m.c, .int .i64 m.m.d, .int .i64 m.t.x, .int .i64 m.t.y] 49 (0, 0)) := by rw [hw6]; exact q4
        replace h1 : w6.heap[w.heap.size + 1]? = some (.cells #[.int .i64 0, .int .i64 0, .int .i64 0, .int .i64 0, .int .i64 0, .int .i64 0] 49 (0, 0)) := by rw [hw6]; exact q5
        replace h2 : w6.heap[w3.heap.size]? = some (.cells #[.int .i64 v.a, .int .i64 v.b, .int .i64 v.c, .int .i64 v.d, .int .i64 t.x, .int .i64 t.y] 49 (0, 0)) := by rw [hw6]; exact q6
        have D6 := Lib.hid (show Below w.heap.size w w6 by rw [hw6]; exact (Below.setCell (Below.setCell D5.out (p := ⟨w3.heap.size, 4, none⟩) (by first | omega | (simp; done) | (simp; omega)) (.int .i64 t.x)) (p := ⟨w3.heap.size, 5, none⟩) (by first | omega | (simp; done) | (simp; omega)) (.int .i64 t.y)))
        have z6 := D6.out.size
        have y6 : w6.heap.size = w5.heap.size := by rw [hw6]; simp
        clear q6 q5 q4 q3 q2 q1 hw6
        try clear c0_0
        have c0_0 := cell_of_heap h0 (j := 0) rfl
        try clear f0_0
        have f0_0 := frozen_of_heap h0 0
        try clear c0_1
        have c0_1 := cell_of_heap h0 (j := 1) rfl
        try clear f0_1
        have f0_1 := frozen_of_heap h0 1
        try clear c0_2
        have c0_2 := cell_of_heap h0 (j := 2) rfl
        try clear f0_2
        have f0_2 := frozen_of_heap h0 2
        try clear c0_3
        have c0_3 := cell_of_heap h0 (j := 3) rfl
        try clear f0_3
        have f0_3 := frozen_of_heap h0 3
        try clear c0_4
        have c0_4 := cell_of_heap h0 (j := 4) rfl
        try clear f0_4
        have f0_4 := frozen_of_heap h0 4
        try clear c0_5
        have c0_5 := cell_of_heap h0 (j := 5) rfl
        try clear f0_5
        have f0_5 := frozen_of_heap h0 5
        try clear c1_0
        have c1_0 := cell_of_heap h1 (j := 0) rfl
        try clear f1_0
        have f1_0 := frozen_of_heap h1 0
        try clear c1_1
        have c1_1 := cell_of_heap h1 (j := 1) rfl
        try clear f1_1
        have f1_1 := frozen_of_heap h1 1
        try clear c1_2
        have c1_2 := cell_of_heap h1 (j := 2) rfl
        try clear f1_2
        have f1_2 := frozen_of_heap h1 2
        try clear c1_3
        have c1_3 := cell_of_heap h1 (j := 3) rfl
        try clear f1_3
        have f1_3 := frozen_of_heap h1 3
        try clear c1_4
        have c1_4 := cell_of_heap h1 (j := 4) rfl
        try clear f1_4
        have f1_4 := frozen_of_heap h1 4
        try clear c1_5
        have c1_5 := cell_of_heap h1 (j := 5) rfl
        try clear f1_5
        have f1_5 := frozen_of_heap h1 5
        try clear c2_0
        have c2_0 := cell_of_heap h2 (j := 0) rfl
        try clear f2_0
        have f2_0 := frozen_of_heap h2 0
        try clear c2_1
        have c2_1 := cell_of_heap h2 (j := 1) rfl
        try clear f2_1
        have f2_1 := frozen_of_heap h2 1
        try clear c2_2
        have c2_2 := cell_of_heap h2 (j := 2) rfl
        try clear f2_2
        have f2_2 := frozen_of_heap h2 2
        try clear c2_3
        have c2_3 := cell_of_heap h2 (j := 3) rfl
        try clear f2_3
        have f2_3 := frozen_of_heap h2 3
        try clear c2_4
        have c2_4 := cell_of_heap h2 (j := 4) rfl
        try clear f2_4
        have f2_4 := frozen_of_heap h2 4
        try clear c2_5
        have c2_5 := cell_of_heap h2 (j := 5) rfl
        try clear f2_5
        have f2_5 := frozen_of_heap h2 5
        refine (H6.out _).mono ?_
        rintro e w7 ⟨rfl, hb⟩
        replace h0 : w7.heap[w.heap.size]? = some (.cells #[.int .i64 m.m.a, .int .i64 m.m.b, .int .i64 m.m.c, .int .i64 m.m.d, .int .i64 m.t.x, .int .i64 m.t.y] 49 (0, 0)) := hb_below hb (by repeat (first | exact h0 | (refine hb_new ?_; (first | omega | (simp; omega) | (simp; done))) | (refine hb_old ?_ ?_; rotate_left; focus (first | omega | (simp; omega) | (simp; done))) | refine hb_drew ?_)) (by first | omega | (simp; omega) | (simp; done))
        replace h1 : w7.heap[w.heap.size + 1]? = some (.cells #[.int .i64 0, .int .i64 0, .int .i64 0, .int .i64 0, .int .i64 0, .int .i64 0] 49 (0, 0)) := hb_below hb (by repeat (first | exact h1 | (refine hb_new ?_; (first | omega | (simp; omega) | (simp; done))) | (refine hb_old ?_ ?_; rotate_left; focus (first | omega | (simp; omega) | (simp; done))) | refine hb_drew ?_)) (by first | omega | (simp; omega) | (simp; done))
        replace h2 : w7.heap[w3.heap.size]? = some (.cells #[.int .i64 v.a, .int .i64 v.b, .int .i64 v.c, .int .i64 v.d, .int .i64 t.x, .int .i64 t.y] 49 (0, 0)) := hb_below hb (by repeat (first | exact h2 | (refine hb_new ?_; (first | omega | (simp; omega) | (simp; done))) | (refine hb_old ?_ ?_; rotate_left; focus (first | omega | (simp; omega) | (simp; done))) | refine hb_drew ?_)) (by first | omega | (simp; omega) | (simp; done))
        have y7 := Below.size hb
        try simp only [World.size_alloc, World.size_drew] at y7
        have D7 := Lib.hid (show Below w.heap.size w w7 from Below.trans (by repeat (first | exact D6.out | exact Below.refl _ _ | refine Below.alloc ?_ (by first | omega | (simp; omega) | (simp; done)) _)) (Below.mono hb (by first | omega | (simp; omega) | (simp; done))))
        have z7 := D7.out.size
        clear hb
        try clear c0_0
        have c0_0 := cell_of_heap h0 (j := 0) rfl
        try clear f0_0
        have f0_0 := frozen_of_heap h0 0
        try clear c0_1
        have c0_1 := cell_of_heap h0 (j := 1) rfl
        try clear f0_1
        have f0_1 := frozen_of_heap h0 1
        try clear c0_2
        have c0_2 := cell_of_heap h0 (j := 2) rfl
        try clear f0_2
        have f0_2 := frozen_of_heap h0 2
        try clear c0_3
        have c0_3 := cell_of_heap h0 (j := 3) rfl
        try clear f0_3
        have f0_3 := frozen_of_heap h0 3
        try clear c0_4
        have c0_4 := cell_of_heap h0 (j := 4) rfl
        try clear f0_4
        have f0_4 := frozen_of_heap h0 4
        try clear c0_5
        have c0_5 := cell_of_heap h0 (j := 5) rfl
        try clear f0_5
        have f0_5 := frozen_of_heap h0 5
        try clear c1_0
        have c1_0 := cell_of_heap h1 (j := 0) rfl
        try clear f1_0
        have f1_0 := frozen_of_heap h1 0
        try clear c1_1
        have c1_1 := cell_of_heap h1 (j := 1) rfl
        try clear f1_1
        have f1_1 := frozen_of_heap h1 1
        try clear c1_2
        have c1_2 := cell_of_heap h1 (j := 2) rfl
        try clear f1_2
        have f1_2 := frozen_of_heap h1 2
        try clear c1_3
        have c1_3 := cell_of_heap h1 (j := 3) rfl
        try clear f1_3
        have f1_3 := frozen_of_heap h1 3
        try clear c1_4
        have c1_4 := cell_of_heap h1 (j := 4) rfl
        try clear f1_4
        have f1_4 := frozen_of_heap h1 4
        try clear c1_5
        have c1_5 := cell_of_heap h1 (j := 5) rfl
        try clear f1_5
        have f1_5 := frozen_of_heap h1 5
        try clear c2_0
        have c2_0 := cell_of_heap h2 (j := 0) rfl
        try clear f2_0
        have f2_0 := frozen_of_heap h2 0
        try clear c2_1
        have c2_1 := cell_of_heap h2 (j := 1) rfl
        try clear f2_1
        have f2_1 := frozen_of_heap h2 1
        try clear c2_2
        have c2_2 := cell_of_heap h2 (j := 2) rfl
        try clear f2_2
        have f2_2 := frozen_of_heap h2 2
        try clear c2_3
        have c2_3 := cell_of_heap h2 (j := 3) rfl
        try clear f2_3
        have f2_3 := frozen_of_heap h2 3
        try clear c2_4
        have c2_4 := cell_of_heap h2 (j := 4) rfl
        try clear f2_4
        have f2_4 := frozen_of_heap h2 4
        try clear c2_5
        have c2_5 := cell_of_heap h2 (j := 5) rfl
        try clear f2_5
        have f2_5 := frozen_of_heap h2 5
        cases k1
        · go_wp2_with fail
          have q1 := (Below.heap_setCell w7 ⟨w.heap.size + 1, 0, none⟩ (.int .i64 0) (w.heap.size) (by first | omega | assumption | (apply Ne.symm; assumption) | (simp; done) | (simp; omega))).trans h0
          have q2 := heap_setCell_same w7 (w.heap.size + 1) 0 _ _ (.int .i64 0) h1
          have q3 := (Below.heap_setCell w7 ⟨w.heap.size + 1, 0, none⟩ (.int .i64 0) (w3.heap.size) (by first | omega | assumption | (apply Ne.symm; assumption) | (simp; done) | (simp; omega))).trans h2
          have q4 := (Below.heap_setCell (w7.setCell ⟨w.heap.size + 1, 0, none⟩ (.int .i64 0)) ⟨w.heap.size + 1, 1, none⟩ (.int .i64 0) (w.heap.size) (by first | omega | assumption | (apply Ne.symm; assumption) | (simp; done) | (simp; omega))).trans q1
          have q5 := heap_setCell_same (w7.setCell ⟨w.heap.size + 1, 0, none⟩ (.int .i64 0)) (w.heap.size + 1) 1 _ _ (.int .i64 0) q2
          have q6 := (Below.heap_setCell (w7.setCell ⟨w.heap.size + 1, 0, none⟩ (.int .i64 0)) ⟨w.heap.size + 1, 1, none⟩ (.int .i64 0) (w3.heap.size) (by first | omega | assumption | (apply Ne.symm; assumption) | (simp; done) | (simp; omega))).trans q3
          have q7 := (Below.heap_setCell ((w7.setCell ⟨w.heap.size + 1, 0, none⟩ (.int .i64 0)).setCell ⟨w.heap.size + 1, 1, none⟩ (.int .i64 0)) ⟨w.heap.size + 1, 2, none⟩ (.int .i64 0) (w.heap.size) (by first | omega | assumption | (apply Ne.symm; assumption) | (simp; done) | (simp; omega))).trans q4
          have q8 := heap_setCell_same ((w7.setCell ⟨w.heap.size + 1, 0, none⟩ (.int .i64 0)).setCell ⟨w.heap.size + 1, 1, none⟩ (.int .i64 0)) (w.heap.size + 1) 2 _ _ (.int .i64 0) q5
          have q9 := (Below.heap_setCell ((w7.setCell ⟨w.heap.size + 1, 0, none⟩ (.int .i64 0)).setCell ⟨w.heap.size + 1, 1, none⟩ (.int .i64 0)) ⟨w.heap.size + 1, 2, none⟩ (.int .i64 0) (w3.heap.size) (by first | omega | assumption | (apply Ne.symm; assumption) | (simp; done) | (simp; omega))).trans q6
          have q10 := (Below.heap_setCell (((w7.setCell ⟨w.heap.size + 1, 0, none⟩ (.int .i64 0)).setCell ⟨w.heap.size + 1, 1, none⟩ (.int .i64 0)).setCell ⟨w.heap.size + 1, 2, none⟩ (.int .i64 0)) ⟨w.heap.size + 1, 3, none⟩ (.int .i64 0) (w.heap.size) (by first | omega | assumption | (apply Ne.symm; assumption) | (simp; done) | (simp; omega))).trans q7
          have q11 := heap_setCell_same (((w7.setCell ⟨w.heap.size + 1, 0, none⟩ (.int .i64 0)).setCell ⟨w.heap.size + 1, 1, none⟩ (.int .i64 0)).setCell ⟨w.heap.size + 1, 2, none⟩ (.int .i64 0)) (w.heap.size + 1) 3 _ _ (.int .i64 0) q8
          have q12 := (Below.heap_setCell (((w7.setCell ⟨w.heap.size + 1, 0, none⟩ (.int .i64 0)).setCell ⟨w.heap.size + 1, 1, none⟩ (.int .i64 0)).setCell ⟨w.heap.size + 1, 2, none⟩ (.int .i64 0)) ⟨w.heap.size + 1, 3, none⟩ (.int .i64 0) (w3.heap.size) (by first | omega | assumption | (apply Ne.symm; assumption) | (simp; done) | (simp; omega))).trans q9
          have q13 := (Below.heap_setCell ((((w7.setCell ⟨w.heap.size + 1, 0, none⟩ (.int .i64 0)).setCell ⟨w.heap.size + 1, 1, none⟩ (.int .i64 0)).setCell ⟨w.heap.size + 1, 2, none⟩ (.int .i64 0)).setCell ⟨w.heap.size + 1, 3, none⟩ (.int .i64 0)) ⟨w.heap.size + 1, 4, none⟩ (.int .i64 0) (w.heap.size) (by first | omega | assumption | (apply Ne.symm; assumption) | (simp; done) | (simp; omega))).trans q10
          have q14 := heap_setCell_same ((((w7.setCell ⟨w.heap.size + 1, 0, none⟩ (.int .i64 0)).setCell ⟨w.heap.size + 1, 1, none⟩ (.int .i64 0)).setCell ⟨w.heap.size + 1, 2, none⟩ (.int .i64 0)).setCell ⟨w.heap.size + 1, 3, none⟩ (.int .i64 0)) (w.heap.size + 1) 4 _ _ (.int .i64 0) q11
          have q15 := (Below.heap_setCell ((((w7.setCell ⟨w.heap.size + 1, 0, none⟩ (.int .i64 0)).setCell ⟨w.heap.size + 1, 1, none⟩ (.int .i64 0)).setCell ⟨w.heap.size + 1, 2, none⟩ (.int .i64 0)).setCell ⟨w.heap.size + 1, 3, none⟩ (.int .i64 0)) ⟨w.heap.size + 1, 4, none⟩ (.int .i64 0) (w3.heap.size) (by first | omega | assumption | (apply Ne.symm; assumption) | (simp; done) | (simp; omega))).trans q12
          have q16 := (Below.heap_setCell (((((w7.setCell ⟨w.heap.size + 1, 0, none⟩ (.int .i64 0)).setCell ⟨w.heap.size + 1, 1, none⟩ (.int .i64 0)).setCell ⟨w.heap.size + 1, 2, none⟩ (.int .i64 0)).setCell ⟨w.heap.size + 1, 3, none⟩ (.int .i64 0)).setCell ⟨w.heap.size + 1, 4, none⟩ (.int .i64 0)) ⟨w.heap.size + 1, 5, none⟩ (.int .i64 0) (w.heap.size) (by first | omega | assumption | (apply Ne.symm; assumption) | (simp; done) | (simp; omega))).trans q13
          have q17 := heap_setCell_same (((((w7.setCell ⟨w.heap.size + 1, 0, none⟩ (.int .i64 0)).setCell ⟨w.heap.size + 1, 1, none⟩ (.int .i64 0)).setCell ⟨w.heap.size + 1, 2, none⟩ (.int .i64 0)).setCell ⟨w.heap.size + 1, 3, none⟩ (.int .i64 0)).setCell ⟨w.heap.size + 1, 4, none⟩ (.int .i64 0)) (w.heap.size + 1) 5 _ _ (.int .i64 0) q14
          have q18 := (Below.heap_setCell (((((w7.setCell ⟨w.heap.size + 1, 0, none⟩ (.int .i64 0)).setCell ⟨w.heap.size + 1, 1, none⟩ (.int .i64 0)).setCell ⟨w.heap.size + 1, 2, none⟩ (.int .i64 0)).setCell ⟨w.heap.size + 1, 3, none⟩ (.int .i64 0)).setCell ⟨w.heap.size + 1, 4, none⟩ (.int .i64 0)) ⟨w.heap.size + 1, 5, none⟩ (.int .i64 0) (w3.heap.size) (by first | omega | assumption | (apply Ne.symm; assumption) | (simp; done) | (simp; omega))).trans q15
          obtain ⟨w8, hw8⟩ : ∃ W, W = ((((((w7.setCell ⟨w.heap.size + 1, 0, none⟩ (.int .i64 0)).setCell ⟨w.heap.size + 1, 1, none⟩ (.int .i64 0)).setCell ⟨w.heap.size + 1, 2, none⟩ (.int .i64 0)).setCell ⟨w.heap.size + 1, 3, none⟩ (.int .i64 0)).setCell ⟨w.heap.size + 1, 4, none⟩ (.int .i64 0)).setCell ⟨w.heap.size + 1, 5, none⟩ (.int .i64 0)) := ⟨_, rfl⟩
          rw [← hw8]
          replace h0 : w8.heap[w.heap.size]? = some (.cells #[.int .i64 m.m.a, .int .i64 m.m.b, .int .i64 m.m.c, .int .i64 m.m.d, .int .i64 m.t.x, .int .i64 m.t.y] 49 (0, 0)) := by rw [hw8]; exact q16
          replace h1 : w8.heap[w.heap.size + 1]? = some (.cells #[.int .i64 0, .int .i64 0, .int .i64 0, .int .i64 0, .int .i64 0, .int .i64 0] 49 (0, 0)) := by rw [hw8]; exact q17
          replace h2 : w8.heap[w3.heap.size]? = some (.cells #[.int .i64 v.a, .int .i64 v.b, .int .i64 v.c, .int .i64 v.d, .int .i64 t.x, .int .i64 t.y] 49 (0, 0)) := by rw [hw8]; exact q18
          have D8 := Lib.hid (show Below w.heap.size w w8 by rw [hw8]; exact (Below.setCell (Below.setCell (Below.setCell (Below.setCell (Below.setCell (Below.setCell D7.out (p := ⟨w.heap.size + 1, 0, none⟩) (by first | omega | (simp; done) | (simp; omega)) (.int .i64 0)) (p := ⟨w.heap.size + 1, 1, none⟩) (by first | omega | (simp; done) | (simp; omega)) (.int .i64 0)) (p := ⟨w.heap.size + 1, 2, none⟩) (by first | omega | (simp; done) | (simp; omega)) (.int .i64 0)) (p := ⟨w.heap.size + 1, 3, none⟩) (by first | omega | (simp; done) | (simp; omega)) (.int .i64 0)) (p := ⟨w.heap.size + 1, 4, none⟩) (by first | omega | (simp; done) | (simp; omega)) (.int .i64 0)) (p := ⟨w.heap.size + 1, 5, none⟩) (by first | omega | (simp; done) | (simp; omega)) (.int .i64 0)))
          have z8 := D8.out.size
          have y8 : w8.heap.size = w7.heap.size := by rw [hw8]; simp
          clear q18 q17 q16 q15 q14 q13 q12 q11 q10 q9 q8 q7 q6 q5 q4 q3 q2 q1 hw8
          try clear c0_0
          have c0_0 := cell_of_heap h0 (j := 0) rfl
          try clear f0_0
          have f0_0 := frozen_of_heap h0 0
          try clear c0_1
          have c0_1 := cell_of_heap h0 (j := 1) rfl
          try clear f0_1
          have f0_1 := frozen_of_heap h0 1
          try clear c0_2
          have c0_2 := cell_of_heap h0 (j := 2) rfl
          try clear f0_2
          have f0_2 := frozen_of_heap h0 2
          try clear c0_3
          have c0_3 := cell_of_heap h0 (j := 3) rfl
          try clear f0_3
          have f0_3 := frozen_of_heap h0 3
          try clear c0_4
          have c0_4 := cell_of_heap h0 (j := 4) rfl
          try clear f0_4
          have f0_4 := frozen_of_heap h0 4
          try clear c0_5
          have c0_5 := cell_of_heap h0 (j := 5) rfl
          try clear f0_5
          have f0_5 := frozen_of_heap h0 5
          try clear c1_0
          have c1_0 := cell_of_heap h1 (j := 0) rfl
          try clear f1_0
          have f1_0 := frozen_of_heap h1 0
          try clear c1_1
          have c1_1 := cell_of_heap h1 (j := 1) rfl
          try clear f1_1
          have f1_1 := frozen_of_heap h1 1
          try clear c1_2
          have c1_2 := cell_of_heap h1 (j := 2) rfl
          try clear f1_2
          have f1_2 := frozen_of_heap h1 2
          try clear c1_3
          have c1_3 := cell_of_heap h1 (j := 3) rfl
          try clear f1_3
          have f1_3 := frozen_of_heap h1 3
          try clear c1_4
          have c1_4 := cell_of_heap h1 (j := 4) rfl
          try clear f1_4
          have f1_4 := frozen_of_heap h1 4
          try clear c1_5
          have c1_5 := cell_of_heap h1 (j := 5) rfl
          try clear f1_5
          have f1_5 := frozen_of_heap h1 5
          try clear c2_0
          have c2_0 := cell_of_heap h2 (j := 0) rfl
          try clear f2_0
          have f2_0 := frozen_of_heap h2 0
          try clear c2_1
          have c2_1 := cell_of_heap h2 (j := 1) rfl
          try clear f2_1
          have f2_1 := frozen_of_heap h2 1
          try clear c2_2
          have c2_2 := cell_of_heap h2 (j := 2) rfl
          try clear f2_2
          have f2_2 := frozen_of_heap h2 2
          try clear c2_3
          have c2_3 := cell_of_heap h2 (j := 3) rfl
          try clear f2_3
          have f2_3 := frozen_of_heap h2 3
          try clear c2_4
          have c2_4 := cell_of_heap h2 (j := 4) rfl
          try clear f2_4
          have f2_4 := frozen_of_heap h2 4
          try clear c2_5
          have c2_5 := cell_of_heap h2 (j := 5) rfl
          try clear f2_5
          have f2_5 := frozen_of_heap h2 5
          refine bodyPost_ret (results_bt rfl _ _ (w.heap.size + 1) rfl rfl h1 Tryd.underlying49 rfl (by kernel_rfl)) rfl ⟨rfl, D8.out⟩
        · go_wp2_with fail
          have q1 := (Below.heap_setCell w7 ⟨w.heap.size + 1, 0, none⟩ (.int .i64 v.a) (w.heap.size) (by first | omega | assumption | (apply Ne.symm; assumption) | (simp; done) | (simp; omega))).trans h0
          have q2 := heap_setCell_same w7 (w.heap.size + 1) 0 _ _ (.int .i64 v.a) h1
          have q3 := (Below.heap_setCell w7 ⟨w.heap.size + 1, 0, none⟩ (.int .i64 v.a) (w3.heap.size) (by first | omega | assumption | (apply Ne.symm; assumption) | (simp; done) | (simp; omega))).trans h2
          have q4 := (Below.heap_setCell (w7.setCell ⟨w.heap.size + 1, 0, none⟩ (.int .i64 v.a)) ⟨w.heap.size + 1, 1, none⟩ (.int .i64 v.b) (w.heap.size) (by first | omega | assumption | (apply Ne.symm; assumption) | (simp; done) | (simp; omega))).trans q1
          have q5 := heap_setCell_same (w7.setCell ⟨w.heap.size + 1, 0, none⟩ (.int .i64 v.a)) (w.heap.size + 1) 1 _ _ (.int .i64 v.b) q2
          have q6 := (Below.heap_setCell (w7.setCell ⟨w.heap.size + 1, 0, none⟩ (.int .i64 v.a)) ⟨w.heap.size + 1, 1, none⟩ (.int .i64 v.b) (w3.heap.size) (by first | omega | assumption | (apply Ne.symm; assumption) | (simp; done) | (simp; omega))).trans q3
          have q7 := (Below.heap_setCell ((w7.setCell ⟨w.heap.size + 1, 0, none⟩ (.int .i64 v.a)).setCell ⟨w.heap.size + 1, 1, none⟩ (.int .i64 v.b)) ⟨w.heap.size + 1, 2, none⟩ (.int .i64 v.c) (w.heap.size) (by first | omega | assumption | (apply Ne.symm; assumption) | (simp; done) | (simp; omega))).trans q4
          have q8 := heap_setCell_same ((w7.setCell ⟨w.heap.size + 1, 0, none⟩ (.int .i64 v.a)).setCell ⟨w.heap.size + 1, 1, none⟩ (.int .i64 v.b)) (w.heap.size + 1) 2 _ _ (.int .i64 v.c) q5
          have q9 := (Below.heap_setCell ((w7.setCell ⟨w.heap.size + 1, 0, none⟩ (.int .i64 v.a)).setCell ⟨w.heap.size + 1, 1, none⟩ (.int .i64 v.b)) ⟨w.heap.size + 1, 2, none⟩ (.int .i64 v.c) (w3.heap.size) (by first | omega | assumption | (apply Ne.symm; assumption) | (simp; done) | (simp; omega))).trans q6
          have q10 := (Below.heap_setCell (((w7.setCell ⟨w.heap.size + 1, 0, none⟩ (.int .i64 v.a)).setCell ⟨w.heap.size + 1, 1, none⟩ (.int .i64 v.b)).setCell ⟨w.heap.size + 1, 2, none⟩ (.int .i64 v.c)) ⟨w.heap.size + 1, 3, none⟩ (.int .i64 v.d) (w.heap.size) (by first | omega | assumption | (apply Ne.symm; assumption) | (simp; done) | (simp; omega))).trans q7
          have q11 := heap_setCell_same (((w7.setCell ⟨w.heap.size + 1, 0, none⟩ (.int .i64 v.a)).setCell ⟨w.heap.size + 1, 1, none⟩ (.int .i64 v.b)).setCell ⟨w.heap.size + 1, 2, none⟩ (.int .i64 v.c)) (w.heap.size + 1) 3 _ _ (.int .i64 v.d) q8
          have q12 := (Below.heap_setCell (((w7.setCell ⟨w.heap.size + 1, 0, none⟩ (.int .i64 v.a)).setCell ⟨w.heap.size + 1, 1, none⟩ (.int .i64 v.b)).setCell ⟨w.heap.size + 1, 2, none⟩ (.int .i64 v.c)) ⟨w.heap.size + 1, 3, none⟩ (.int .i64 v.d) (w3.heap.size) (by first | omega | assumption | (apply Ne.symm; assumption) | (simp; done) | (simp; omega))).trans q9
          have q13 := (Below.heap_setCell ((((w7.setCell ⟨w.heap.size + 1, 0, none⟩ (.int .i64 v.a)).setCell ⟨w.heap.size + 1, 1, none⟩ (.int .i64 v.b)).setCell ⟨w.heap.size + 1, 2, none⟩ (.int .i64 v.c)).setCell ⟨w.heap.size + 1, 3, none⟩ (.int .i64 v.d)) ⟨w.heap.size + 1, 4, none⟩ (.int .i64 t.x) (w.heap.size) (by first | omega | assumption | (apply Ne.symm; assumption) | (simp; done) | (simp; omega))).trans q10
          have q14 := heap_setCell_same ((((w7.setCell ⟨w.heap.size + 1, 0, none⟩ (.int .i64 v.a)).setCell ⟨w.heap.size + 1, 1, none⟩ (.int .i64 v.b)).setCell ⟨w.heap.size + 1, 2, none⟩ (.int .i64 v.c)).setCell ⟨w.heap.size + 1, 3, none⟩ (.int .i64 v.d)) (w.heap.size + 1) 4 _ _ (.int .i64 t.x) q11
          have q15 := (Below.heap_setCell ((((w7.setCell ⟨w.heap.size + 1, 0, none⟩ (.int .i64 v.a)).setCell ⟨w.heap.size + 1, 1, none⟩ (.int .i64 v.b)).setCell ⟨w.heap.size + 1, 2, none⟩ (.int .i64 v.c)).setCell ⟨w.heap.size + 1, 3, none⟩ (.int .i64 v.d)) ⟨w.heap.size + 1, 4, none⟩ (.int .i64 t.x) (w3.heap.size) (by first | omega | assumption | (apply Ne.symm; assumption) | (simp; done) | (simp; omega))).trans q12
          have q16 := (Below.heap_setCell (((((w7.setCell ⟨w.heap.size + 1, 0, none⟩ (.int .i64 v.a)).setCell ⟨w.heap.size + 1, 1, none⟩ (.int .i64 v.b)).setCell ⟨w.heap.size + 1, 2, none⟩ (.int .i64 v.c)).setCell ⟨w.heap.size + 1, 3, none⟩ (.int .i64 v.d)).setCell ⟨w.heap.size + 1, 4, none⟩ (.int .i64 t.x)) ⟨w.heap.size + 1, 5, none⟩ (.int .i64 t.y) (w.heap.size) (by first | omega | assumption | (apply Ne.symm; assumption) | (simp; done) | (simp; omega))).trans q13
          have q17 := heap_setCell_same (((((w7.setCell ⟨w.heap.size + 1, 0, none⟩ (.int .i64 v.a)).setCell ⟨w.heap.size + 1, 1, none⟩ (.int .i64 v.b)).setCell ⟨w.heap.size + 1, 2, none⟩ (.int .i64 v.c)).setCell ⟨w.heap.size + 1, 3, none⟩ (.int .i64 v.d)).setCell ⟨w.heap.size + 1, 4, none⟩ (.int .i64 t.x)) (w.heap.size + 1) 5 _ _ (.int .i64 t.y) q14
          have q18 := (Below.heap_setCell (((((w7.setCell ⟨w.heap.size + 1, 0, none⟩ (.int .i64 v.a)).setCell ⟨w.heap.size + 1, 1, none⟩ (.int .i64 v.b)).setCell ⟨w.heap.size + 1, 2, none⟩ (.int .i64 v.c)).setCell ⟨w.heap.size + 1, 3, none⟩ (.int .i64 v.d)).setCell ⟨w.heap.size + 1, 4, none⟩ (.int .i64 t.x)) ⟨w.heap.size + 1, 5, none⟩ (.int .i64 t.y) (w3.heap.size) (by first | omega | assumption | (apply Ne.symm; assumption) | (simp; done) | (simp; omega))).trans q15
          obtain ⟨w8, hw8⟩ : ∃ W, W = ((((((w7.setCell ⟨w.heap.size + 1, 0, none⟩ (.int .i64 v.a)).setCell ⟨w.heap.size + 1, 1, none⟩ (.int .i64 v.b)).setCell ⟨w.heap.size + 1, 2, none⟩ (.int .i64 v.c)).setCell ⟨w.heap.size + 1, 3, none⟩ (.int .i64 v.d)).setCell ⟨w.heap.size + 1, 4, none⟩ (.int .i64 t.x)).setCell ⟨w.heap.size + 1, 5, none⟩ (.int .i64 t.y)) := ⟨_, rfl⟩
          rw [← hw8]
          replace h0 : w8.heap[w.heap.size]? = some (.cells #[.int .i64 m.m.a, .int .i64 m.m.b, .int .i64 m.m.c, .int .i64 m.m.d, .int .i64 m.t.x, .int .i64 m.t.y] 49 (0, 0)) := by rw [hw8]; exact q16
          replace h1 : w8.heap[w.heap.size + 1]? = some (.cells #[.int .i64 v.a, .int .i64 v.b, .int .i64 v.c, .int .i64 v.d, .int .i64 t.x, .int .i64 t.y] 49 (0, 0)) := by rw [hw8]; exact q17
          replace h2 : w8.heap[w3.heap.size]? = some (.cells #[.int .i64 v.a, .int .i64 v.b, .int .i64 v.c, .int .i64 v.d, .int .i64 t.x, .int .i64 t.y] 49 (0, 0)) := by rw [hw8]; exact q18
          have D8 := Lib.hid (show Below w.heap.size w w8 by rw [hw8]; exact (Below.setCell (Below.setCell (Below.setCell (Below.setCell (Below.setCell (Below.setCell D7.out (p := ⟨w.heap.size + 1, 0, none⟩) (by first | omega | (simp; done) | (simp; omega)) (.int .i64 v.a)) (p := ⟨w.heap.size + 1, 1, none⟩) (by first | omega | (simp; done) | (simp; omega)) (.int .i64 v.b)) (p := ⟨w.heap.size + 1, 2, none⟩) (by first | omega | (simp; done) | (simp; omega)) (.int .i64 v.c)) (p := ⟨w.heap.size + 1, 3, none⟩) (by first | omega | (simp; done) | (simp; omega)) (.int .i64 v.d)) (p := ⟨w.heap.size + 1, 4, none⟩) (by first | omega | (simp; done) | (simp; omega)) (.int .i64 t.x)) (p := ⟨w.heap.size + 1, 5, none⟩) (by first | omega | (simp; done) | (simp; omega)) (.int .i64 t.y)))
          have z8 := D8.out.size
          have y8 : w8.heap.size = w7.heap.size := by rw [hw8]; simp
          clear q18 q17 q16 q15 q14 q13 q12 q11 q10 q9 q8 q7 q6 q5 q4 q3 q2 q1 hw8
          try clear c0_0
          have c0_0 := cell_of_heap h0 (j := 0) rfl
          try clear f0_0
          have f0_0 := frozen_of_heap h0 0
          try clear c0_1
          have c0_1 := cell_of_heap h0 (j := 1) rfl
          try clear f0_1
          have f0_1 := frozen_of_heap h0 1
          try clear c0_2
          have c0_2 := cell_of_heap h0 (j := 2) rfl
          try clear f0_2
          have f0_2 := frozen_of_heap h0 2
          try clear c0_3
          have c0_3 := cell_of_heap h0 (j := 3) rfl
          try clear f0_3
          have f0_3 := frozen_of_heap h0 3
          try clear c0_4
          have c0_4 := cell_of_heap h0 (j := 4) rfl
          try clear f0_4
          have f0_4 := frozen_of_heap h0 4
          try clear c0_5
          have c0_5 := cell_of_heap h0 (j := 5) rfl
          try clear f0_5
          have f0_5 := frozen_of_heap h0 5
          try clear c1_0
          have c1_0 := cell_of_heap h1 (j := 0) rfl
          try clear f1_0
          have f1_0 := frozen_of_heap h1 0
          try clear c1_1
          have c1_1 := cell_of_heap h1 (j := 1) rfl
          try clear f1_1
          have f1_1 := frozen_of_heap h1 1
          try clear c1_2
          have c1_2 := cell_of_heap h1 (j := 2) rfl
          try clear f1_2
          have f1_2 := frozen_of_heap h1 2
          try clear c1_3
          have c1_3 := cell_of_heap h1 (j := 3) rfl
          try clear f1_3
          have f1_3 := frozen_of_heap h1 3
          try clear c1_4
          have c1_4 := cell_of_heap h1 (j := 4) rfl
          try clear f1_4
          have f1_4 := frozen_of_heap h1 4
          try clear c1_5
          have c1_5 := cell_of_heap h1 (j := 5) rfl
          try clear f1_5
          have f1_5 := frozen_of_heap h1 5
          try clear c2_0
          have c2_0 := cell_of_heap h2 (j := 0) rfl
          try clear f2_0
          have f2_0 := frozen_of_heap h2 0
          try clear c2_1
          have c2_1 := cell_of_heap h2 (j := 1) rfl
          try clear f2_1
          have f2_1 := frozen_of_heap h2 1
          try clear c2_2
          have c2_2 := cell_of_heap h2 (j := 2) rfl
          try clear f2_2
          have f2_2 := frozen_of_heap h2 2
          try clear c2_3
          have c2_3 := cell_of_heap h2 (j := 3) rfl
          try clear f2_3
          have f2_3 := frozen_of_heap h2 3
          try clear c2_4
          have c2_4 := cell_of_heap h2 (j := 4) rfl
          try clear f2_4
          have f2_4 := frozen_of_heap h2 4
          try clear c2_5
          have c2_5 := cell_of_heap h2 (j := 5) rfl
          try clear f2_5
          have f2_5 := frozen_of_heap h2 5
          refine bodyPost_ret (results_bt rfl _ _ (w.heap.size + 1) rfl rfl h1 Tryd.underlying49 rfl (by kernel_rfl)) rfl ⟨rfl, D8.out⟩)
end Go.Proofs.YtehpgmhilcoalaaDoor
