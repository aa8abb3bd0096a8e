/- Invert of the reference. -/
import Derived.Test.YtjekfkmcgfnkaaaDoorIF
namespace Go.Proofs.YtjekfkmcgfnkaaaDoor
open Go.RowKit Go.Lib
set_option linter.unusedSimpArgs false
set_option linter.unusedVariables false
set_option maxHeartbeats 4000000 in
set_option maxRecDepth 100000 in
theorem rInvert_any (m : Mov) (w : World) : Calls Tryd.prog 34 #[m.val] w fun e w' => e = .returned (.tuple #[(invV m).val, .int .i64 (invE m)]) ∧ Below w.heap.size w w' := by
  have C1 := fun W => rMove_any m W
  unfold invV invE
  cases hk1 : okV m
  · rw [hk1] at C1
    simp only [Bool.false_and, Bool.false_eq_true, if_false]
    unfold m0 Mov.val at *
    have H1 := Lib.hid C1
    clear C1 hk1
    go_enter Tryd.func34, Tryd.ntmps34
    go_wp2_with fail
    refine (H1.out _).mono ?_
    rintro e w1 ⟨rfl, hb⟩
    have h0 : w1.heap[w.heap.size]? = some (.cells #[.int .i64 m.m.a, .int .i64 m.m.b, .int .i64 m.m.c, .int .i64 m.m.d, .int .i64 m.t.x, .int .i64 m.t.y] 49 (0, 0)) := hb_below hb (by repeat (first | (refine hb_new ?_; (first | omega | (simp; omega) | (simp; done))) | (refine hb_old ?_ ?_; rotate_left; focus (first | omega | (simp; omega) | (simp; done))) | refine hb_drew ?_)) (by first | omega | (simp; omega) | (simp; done))
    have h1 : w1.heap[w.heap.size + 1]? = some (.cells #[.int .i64 0, .int .i64 0, .int .i64 0, .int .i64 0, .int .i64 0, .int .i64 0] 49 (0, 0)) := hb_below hb (by repeat (first | (refine hb_new ?_; (first | omega | (simp; omega) | (simp; done))) | (refine hb_old ?_ ?_; rotate_left; focus (first | omega | (simp; omega) | (simp; done))) | refine hb_drew ?_)) (by first | omega | (simp; omega) | (simp; done))
    have y1 := Below.size hb
    try simp only [World.size_alloc, World.size_drew] at y1
    have D1 := Lib.hid (show Below w.heap.size w w1 from Below.trans (by repeat (first | exact Below.refl _ _ | refine Below.alloc ?_ (by first | omega | (simp; omega) | (simp; done)) _)) (Below.mono hb (by first | omega | (simp; omega) | (simp; done))))
    have z1 := D1.out.size
    clear hb
    try clear c0_0
    have c0_0 := cell_of_heap h0 (j := 0) rfl
    try clear f0_0
    have f0_0 := frozen_of_heap h0 0
    try clear c0_1
    have c0_1 := cell_of_heap h0 (j := 1) rfl
    try clear f0_1
    have f0_1 := frozen_of_heap h0 1
    try clear c0_2
    have c0_2 := cell_of_heap h0 (j := 2) rfl
    try clear f0_2
    have f0_2 := frozen_of_heap h0 2
    try clear c0_3
    have c0_3 := cell_of_heap h0 (j := 3) rfl
    try clear f0_3
    have f0_3 := frozen_of_heap h0 3
    try clear c0_4
    have c0_4 := cell_of_heap h0 (j := 4) rfl
    try clear f0_4
    have f0_4 := frozen_of_heap h0 4
    try clear c0_5
    have c0_5 := cell_of_heap h0 (j := 5) rfl
    try clear f0_5
    have f0_5 := frozen_of_heap h0 5
    try clear c1_0
    have c1_0 := cell_of_heap h1 (j := 0) rfl
    try clear f1_0
    have f1_0 := frozen_of_heap h1 0
    try clear c1_1
    have c1_1 := cell_of_heap h1 (j := 1) rfl
    try clear f1_1
    have f1_1 := frozen_of_heap h1 1
    try clear c1_2
    have c1_2 := cell_of_heap h1 (j := 2) rfl
    try clear f1_2
    have f1_2 := frozen_of_heap h1 2
    try clear c1_3
    have c1_3 := cell_of_heap h1 (j := 3) rfl
    try clear f1_3
    have f1_3 := frozen_of_heap h1 3
    try clear c1_4
    have c1_4 := cell_of_heap h1 (j := 4) rfl
    try clear f1_4
    have f1_4 := frozen_of_heap h1 4
    try clear c1_5
    have c1_5 := cell_of_heap h1 (j := 5) rfl
    try clear f1_5
    have f1_5 := frozen_of_heap h1 5
    go_wp2_with fail
    have q1 := (Below.heap_setCell w1 ⟨w.heap.size + 1, 0, none⟩ (.int .i64 0) (w.heap.size) (by first | omega | assumption | (apply Ne.symm; assumption) | (simp; done) | (simp; omega))).trans h0
    have q2 := heap_setCell_same w1 (w.heap.size + 1) 0 _ _ (.int .i64 0) h1
    have q3 := (Below.heap_setCell (w1.setCell ⟨w.heap.size + 1, 0, none⟩ (.int .i64 0)) ⟨w.heap.size + 1, 1, none⟩ (.int .i64 0) (w.heap.size) (by first | omega | assumption | (apply Ne.symm; assumption) | (simp; done) | (simp; omega))).trans q1
    have q4 := heap_setCell_same (w1.setCell ⟨w.heap.size + 1, 0, none⟩ (.int .i64 0)) (w.heap.size + 1) 1 _ _ (.int .i64 0) q2
    have q5 := (Below.heap_setCell ((w1.setCell ⟨w.heap.size + 1, 0, none⟩ (.int .i64 0)).setCell ⟨w.heap.size + 1, 1, none⟩ (.int .i64 0)) ⟨w.heap.size + 1, 2, none⟩ (.int .i64 0) (w.heap.size) (by first | omega | assumption | (apply Ne.symm; assumption) | (simp; done) | (simp; omega))).trans q3
    have q6 := heap_setCell_same ((w1.setCell ⟨w.heap.size + 1, 0, none⟩ (.int .i64 0)).setCell ⟨w.heap.size + 1, 1, none⟩ (.int .i64 0)) (w.heap.size + 1) 2 _ _ (.int .i64 0) q4
    have q7 := (Below.heap_setCell (((w1.setCell ⟨w.heap.size + 1, 0, none⟩ (.int .i64 0)).setCell ⟨w.heap.size + 1, 1, none⟩ (.int .i64 0)).setCell ⟨w.heap.size + 1, 2, none⟩ (.int .i64 0)) ⟨w.heap.size + 1, 3, none⟩ (.int .i64 0) (w.heap.size) (by first | omega | assumption | (apply Ne.symm; assumption) | (simp; done) | (simp; omega))).trans q5
    have q8 := heap_setCell_same (((w1.setCell ⟨w.heap.size + 1, 0, none⟩ (.int .i64 0)).setCell ⟨w.heap.size + 1, 1, none⟩ (.int .i64 0)).setCell ⟨w.heap.size + 1, 2, none⟩ (.int .i64 0)) (w.heap.size + 1) 3 _ _ (.int .i64 0) q6
    have q9 := (Below.heap_setCell ((((w1.setCell ⟨w.heap.size + 1, 0, none⟩ (.int .i64 0)).setCell ⟨w.heap.size + 1, 1, none⟩ (.int .i64 0)).setCell ⟨w.heap.size + 1, 2, none⟩ (.int .i64 0)).setCell ⟨w.heap.size + 1, 3, none⟩ (.int .i64 0)) ⟨w.heap.size + 1, 4, none⟩ (.int .i64 0) (w.heap.size) (by first | omega | assumption | (apply Ne.symm; assumption) | (simp; done) | (simp; omega))).trans q7
    have q10 := heap_setCell_same ((((w1.setCell ⟨w.heap.size + 1, 0, none⟩ (.int .i64 0)).setCell ⟨w.heap.size + 1, 1, none⟩ (.int .i64 0)).setCell ⟨w.heap.size + 1, 2, none⟩ (.int .i64 0)).setCell ⟨w.heap.size + 1, 3, none⟩ (.int .i64 0)) (w.heap.size + 1) 4 _ _ (.int .i64 0) q8
    have q11 := (Below.heap_setCell (((((w1.setCell ⟨w.heap.size + 1, 0, none⟩ (.int .i64 0)).setCell ⟨w.heap.size + 1, 1, none⟩ (.int .i64 0)).setCell ⟨w.heap.size + 1, 2, none⟩ (.int .i64 0)).setCell ⟨w.heap.size + 1, 3, none⟩ (.int .i64 0)).setCell ⟨w.heap.size + 1, 4, none⟩ (.int .i64 0)) ⟨w.heap.size + 1, 5, none⟩ (.int .i64 0) (w.heap.size) (by first | omega | assumption | (apply Ne.symm; assumption) | (simp; done) | (simp; omega))).trans q9
    have q12 := heap_setCell_same (((((w1.setCell ⟨w.heap.size + 1, 0, none⟩ (.int .i64 0)).setCell ⟨w.heap.size + 1, 1, none⟩ (.int .i64 0)).setCell ⟨w.heap.size + 1, 2, none⟩ (.int .i64 0)).setCell ⟨w.heap.size + 1, 3, none⟩ (.int .i64 0)).setCell ⟨w.heap.size + 1, 4, none⟩ (.int .i64 0)) (w.heap.size + 1) 5 _ _ (.int .i64 0) q10
    obtain ⟨w2, hw2⟩ : ∃ W, W = ((((((w1.setCell ⟨w.heap.size + 1, 0, none⟩ (.int .i64 0)).setCell ⟨w.heap.size + 1, 1, none⟩ (.int .i64 0)).setCell ⟨w.heap.size + 1, 2, none⟩ (.int .i64 0)).setCell ⟨w.heap.size + 1, 3, none⟩ (.int .i64 0)).setCell ⟨w.heap.size + 1, 4, none⟩ (.int .i64 0)).setCell ⟨w.heap.size + 1, 5, none⟩ (.int .i64 0)) := ⟨_, rfl⟩
    rw [← hw2]
    replace h0 : w2.heap[w.heap.size]? = some (.cells #[.int .i64 m.m.a, .int .i64 m.m.b, .int .i64 m.m.c, .int .i64 m.m.d, .int .i64 m.t.x, .int .i64 m.t.y] 49 (0, 0)) := by rw [hw2]; exact q11
    replace h1 : w2.heap[w.heap.size + 1]? = some (.cells #[.int .i64 0, .int .i64 0, .int .i64 0, .int .i64 0, .int .i64 0, .int .i64 0] 49 (0, 0)) := by rw [hw2]; exact q12
    have D2 := Lib.hid (show Below w.heap.size w w2 by rw [hw2]; exact (Below.setCell (Below.setCell (Below.setCell (Below.setCell (Below.setCell (Below.setCell D1.out (p := ⟨w.heap.size + 1, 0, none⟩) (by first | omega | (simp; done) | (simp; omega)) (.int .i64 0)) (p := ⟨w.heap.size + 1, 1, none⟩) (by first | omega | (simp; done) | (simp; omega)) (.int .i64 0)) (p := ⟨w.heap.size + 1, 2, none⟩) (by first | omega | (simp; done) | (simp; omega)) (.int .i64 0)) (p := ⟨w.heap.size + 1, 3, none⟩) (by first | omega | (simp; done) | (simp; omega)) (.int .i64 0)) (p := ⟨w.heap.size + 1, 4, none⟩) (by first | omega | (simp; done) | (simp; omega)) (.int .i64 0)) (p := ⟨w.heap.size + 1, 5, none⟩) (by first | omega | (simp; done) | (simp; omega)) (.int .i64 0)))
    have z2 := D2.out.size
    have y2 : w2.heap.size = w1.heap.size := by rw [hw2]; simp
    clear q12 q11 q10 q9 q8 q7 q6 q5 q4 q3 q2 q1 hw2
    try clear c0_0
    have c0_0 := cell_of_heap h0 (j := 0) rfl
    try clear f0_0
    have f0_0 := frozen_of_heap h0 0
    try clear c0_1
    have c0_1 := cell_of_heap h0 (j := 1) rfl
    try clear f0_1
    have f0_1 := frozen_of_heap h0 1
    try clear c0_2
    have c0_2 := cell_of_heap h0 (j := 2) rfl
    try clear f0_2
    have f0_2 := frozen_of_heap h0 2
    try clear c0_3
    have c0_3 := cell_of_heap h0 (j := 3) rfl
    try clear f0_3
    have f0_3 := frozen_of_heap h0 3
    try clear c0_4
    have c0_4 := cell_of_heap h0 (j := 4) rfl
    try clear f0_4
    have f0_4 := frozen_of_heap h0 4
    try clear c0_5
    have c0_5 := cell_of_heap h0 (j := 5) rfl
    try clear f0_5
    have f0_5 := frozen_of_heap h0 5
    try clear c1_0
    have c1_0 := cell_of_heap h1 (j := 0) rfl
    try clear f1_0
    have f1_0 := frozen_of_heap h1 0
    try clear c1_1
    have c1_1 := cell_of_heap h1 (j := 1) rfl
    try clear f1_1
    have f1_1 := frozen_of_heap h1 1
    try clear c1_2
    have c1_2 := cell_of_heap h1 (j := 2) rfl
    try clear f1_2
    have f1_2 := frozen_of_heap h1 2
    try clear c1_3
    have c1_3 := cell_of_heap h1 (j := 3) rfl
    try clear f1_3
    have f1_3 := frozen_of_heap h1 3
    try clear c1_4
    have c1_4 := cell_of_heap h1 (j := 4) rfl
    try clear f1_4
    have f1_4 := frozen_of_heap h1 4
    try clear c1_5
    have c1_5 := cell_of_heap h1 (j := 5) rfl
    try clear f1_5
    have f1_5 := frozen_of_heap h1 5
    refine bodyPost_ret (results_bt rfl _ _ (w.heap.size + 1) rfl rfl h1 Tryd.underlying49 rfl (by kernel_rfl)) rfl ⟨rfl, D2.out⟩
  · rw [hk1] at C1
    simp only [Bool.true_and, if_true]
    have hM := ((okV_iff m).1 hk1).1
    have e0 : wrap64 (wrap64 (m.m.a * m.m.d) - wrap64 (m.m.b * m.m.c)) = m.m.det := by
      have := det_mok hM
      rw [wrap64_sl, wrap64_sr]; exact this
    cases hu : unitB m.m
    · simp only [Bool.false_and, Bool.false_eq_true, if_false]
      have hn1 : ¬ m.m.det = 1 := fun h => by unfold unitB at hu; simp [h] at hu
      have hn2 : ¬ m.m.det = -1 := fun h => by unfold unitB at hu; simp [h] at hu
      rw [← e0] at hn1 hn2
      have hn3 : (wrap64 (wrap64 (m.m.a * m.m.d) - wrap64 (m.m.b * m.m.c)) != 1) = true := by simpa using hn1
      have hn4 : (wrap64 (wrap64 (m.m.a * m.m.d) - wrap64 (m.m.b * m.m.c)) != -1) = true := by simpa using hn2
      unfold m0 Mov.val at *
      have H1 := Lib.hid C1
      clear C1 hk1 hu hM e0
      go_enter Tryd.func34, Tryd.ntmps34
      go_wp2_with fail
      refine (H1.out _).mono ?_
      rintro e w1 ⟨rfl, hb⟩
      have h0 : w1.heap[w.heap.size]? = some (.cells #[.int .i64 m.m.a, .int .i64 m.m.b, .int .i64 m.m.c, .int .i64 m.m.d, .int .i64 m.t.x, .int .i64 m.t.y] 49 (0, 0)) := hb_below hb (by repeat (first | (refine hb_new ?_; (first | omega | (simp; omega) | (simp; done))) | (refine hb_old ?_ ?_; rotate_left; focus (first | omega | (simp; omega) | (simp; done))) | refine hb_drew ?_)) (by first | omega | (simp; omega) | (simp; done))
      have h1 : w1.heap[w.heap.size + 1]? = some (.cells #[.int .i64 0, .int .i64 0, .int .i64 0, .int .i64 0, .int .i64 0, .int .i64 0] 49 (0, 0)) := hb_below hb (by repeat (first | (refine hb_new ?_; (first | omega | (simp; omega) | (simp; done))) | (refine hb_old ?_ ?_; rotate_left; focus (first | omega | (simp; omega) | (simp; done))) | refine hb_drew ?_)) (by first | omega | (simp; omega) | (simp; done))
      have y1 := Below.size hb
      try simp only [World.size_alloc, World.size_drew] at y1
      have D1 := Lib.hid (show Below w.heap.size w w1 from Below.trans (by repeat (first | exact Below.refl _ _ | refine Below.alloc ?_ (by first | omega | (simp; omega) | (simp; done)) _)) (Below.mono hb (by first | omega | (simp; omega) | (simp; done))))
      have z1 := D1.out.size
      clear hb
      try clear c0_0
      have c0_0 := cell_of_heap h0 (j := 0) rfl
      try clear f0_0
      have f0_0 := frozen_of_heap h0 0
      try clear c0_1
      have c0_1 := cell_of_heap h0 (j := 1) rfl
      try clear f0_1
      have f0_1 := frozen_of_heap h0 1
      try clear c0_2
      have c0_2 := cell_of_heap h0 (j := 2) rfl
      try clear f0_2
      have f0_2 := frozen_of_heap h0 2
      try clear c0_3
      have c0_3 := cell_of_heap h0 (j := 3) rfl
      try clear f0_3
      have f0_3 := frozen_of_heap h0 3
      try clear c0_4
      have c0_4 := cell_of_heap h0 (j := 4) rfl
      try clear f0_4
      have f0_4 := frozen_of_heap h0 4
      try clear c0_5
      have c0_5 := cell_of_heap h0 (j := 5) rfl
      try clear f0_5
      have f0_5 := frozen_of_heap h0 5
      try clear c1_0
      have c1_0 := cell_of_heap h1 (j := 0) rfl
      try clear f1_0
      have f1_0 := frozen_of_heap h1 0
      try clear c1_1
      have c1_1 := cell_of_heap h1 (j := 1) rfl
      try clear f1_1
      have f1_1 := frozen_of_heap h1 1
      try clear c1_2
      have c1_2 := cell_of_heap h1 (j := 2) rfl
      try clear f1_2
      have f1_2 := frozen_of_heap h1 2
      try clear c1_3
      have c1_3 := cell_of_heap h1 (j := 3) rfl
      try clear f1_3
      have f1_3 := frozen_of_heap h1 3
      try clear c1_4
      have c1_4 := cell_of_heap h1 (j := 4) rfl
      try clear f1_4
      have f1_4 := frozen_of_heap h1 4
      try clear c1_5
      have c1_5 := cell_of_heap h1 (j := 5) rfl
      try clear f1_5
      have f1_5 := frozen_of_heap h1 5
      go_wp2_with fail
      have q1 := (Below.heap_setCell w1 ⟨w.heap.size + 1, 0, none⟩ (.int .i64 0) (w.heap.size) (by first | omega | assumption | (apply Ne.symm; assumption) | (simp; done) | (simp; omega))).trans h0
      have q2 := heap_setCell_same w1 (w.heap.size + 1) 0 _ _ (.int .i64 0) h1
      have q3 := (Below.heap_setCell (w1.setCell ⟨w.heap.size + 1, 0, none⟩ (.int .i64 0)) ⟨w.heap.size + 1, 1, none⟩ (.int .i64 0) (w.heap.size) (by first | omega | assumption | (apply Ne.symm; assumption) | (simp; done) | (simp; omega))).trans q1
      have q4 := heap_setCell_same (w1.setCell ⟨w.heap.size + 1, 0, none⟩ (.int .i64 0)) (w.heap.size + 1) 1 _ _ (.int .i64 0) q2
      have q5 := (Below.heap_setCell ((w1.setCell ⟨w.heap.size + 1, 0, none⟩ (.int .i64 0)).setCell ⟨w.heap.size + 1, 1, none⟩ (.int .i64 0)) ⟨w.heap.size + 1, 2, none⟩ (.int .i64 0) (w.heap.size) (by first | omega | assumption | (apply Ne.symm; assumption) | (simp; done) | (simp; omega))).trans q3
      have q6 := heap_setCell_same ((w1.setCell ⟨w.heap.size + 1, 0, none⟩ (.int .i64 0)).setCell ⟨w.heap.size + 1, 1, none⟩ (.int .i64 0)) (w.heap.size + 1) 2 _ _ (.int .i64 0) q4
      have q7 := (Below.heap_setCell (((w1.setCell ⟨w.heap.size + 1, 0, none⟩ (.int .i64 0)).setCell ⟨w.heap.size + 1, 1, none⟩ (.int .i64 0)).setCell ⟨w.heap.size + 1, 2, none⟩ (.int .i64 0)) ⟨w.heap.size + 1, 3, none⟩ (.int .i64 0) (w.heap.size) (by first | omega | assumption | (apply Ne.symm; assumption) | (simp; done) | (simp; omega))).trans q5
      have q8 := heap_setCell_same (((w1.setCell ⟨w.heap.size + 1, 0, none⟩ (.int .i64 0)).setCell ⟨w.heap.size + 1, 1, none⟩ (.int .i64 0)).setCell ⟨w.heap.size + 1, 2, none⟩ (.int .i64 0)) (w.heap.size + 1) 3 _ _ (.int .i64 0) q6
      have q9 := (Below.heap_setCell ((((w1.setCell ⟨w.heap.size + 1, 0, none⟩ (.int .i64 0)).setCell ⟨w.heap.size + 1, 1, none⟩ (.int .i64 0)).setCell ⟨w.heap.size + 1, 2, none⟩ (.int .i64 0)).setCell ⟨w.heap.size + 1, 3, none⟩ (.int .i64 0)) ⟨w.heap.size + 1, 4, none⟩ (.int .i64 0) (w.heap.size) (by first | omega | assumption | (apply Ne.symm; assumption) | (simp; done) | (simp; omega))).trans q7
      have q10 := heap_setCell_same ((((w1.setCell ⟨w.heap.size + 1, 0, none⟩ (.int .i64 0)).setCell ⟨w.heap.size + 1, 1, none⟩ (.int .i64 0)).setCell ⟨w.heap.size + 1, 2, none⟩ (.int .i64 0)).setCell ⟨w.heap.size + 1, 3, none⟩ (.int .i64 0)) (w.heap.size + 1) 4 _ _ (.int .i64 0) q8
      have q11 := (Below.heap_setCell (((((w1.setCell ⟨w.heap.size + 1, 0, none⟩ (.int .i64 0)).setCell ⟨w.heap.size + 1, 1, none⟩ (.int .i64 0)).setCell ⟨w.heap.size + 1, 2, none⟩ (.int .i64 0)).setCell ⟨w.heap.size + 1, 3, none⟩ (.int .i64 0)).setCell ⟨w.heap.size + 1, 4, none⟩ (.int .i64 0)) ⟨w.heap.size + 1, 5, none⟩ (.int .i64 0) (w.heap.size) (by first | omega | assumption | (apply Ne.symm; assumption) | (simp; done) | (simp; omega))).trans q9
      have q12 := heap_setCell_same (((((w1.setCell ⟨w.heap.size + 1, 0, none⟩ (.int .i64 0)).setCell ⟨w.heap.size + 1, 1, none⟩ (.int .i64 0)).setCell ⟨w.heap.size + 1, 2, none⟩ (.int .i64 0)).setCell ⟨w.heap.size + 1, 3, none⟩ (.int .i64 0)).setCell ⟨w.heap.size + 1, 4, none⟩ (.int .i64 0)) (w.heap.size + 1) 5 _ _ (.int .i64 0) q10
      obtain ⟨w2, hw2⟩ : ∃ W, W = ((((((w1.setCell ⟨w.heap.size + 1, 0, none⟩ (.int .i64 0)).setCell ⟨w.heap.size + 1, 1, none⟩ (.int .i64 0)).setCell ⟨w.heap.size + 1, 2, none⟩ (.int .i64 0)).setCell ⟨w.heap.size + 1, 3, none⟩ (.int .i64 0)).setCell ⟨w.heap.size + 1, 4, none⟩ (.int .i64 0)).setCell ⟨w.heap.size + 1, 5, none⟩ (.int .i64 0)) := ⟨_, rfl⟩
      rw [← hw2]
      replace h0 : w2.heap[w.heap.size]? = some (.cells #[.int .i64 m.m.a, .int .i64 m.m.b, .int .i64 m.m.c, .int .i64 m.m.d, .int .i64 m.t.x, .int .i64 m.t.y] 49 (0, 0)) := by rw [hw2]; exact q11
      replace h1 : w2.heap[w.heap.size + 1]? = some (.cells #[.int .i64 0, .int .i64 0, .int .i64 0, .int .i64 0, .int .i64 0, .int .i64 0] 49 (0, 0)) := by rw [hw2]; exact q12
      have D2 := Lib.hid (show Below w.heap.size w w2 by rw [hw2]; exact (Below.setCell (Below.setCell (Below.setCell (Below.setCell (Below.setCell (Below.setCell D1.out (p := ⟨w.heap.size + 1, 0, none⟩) (by first | omega | (simp; done) | (simp; omega)) (.int .i64 0)) (p := ⟨w.heap.size + 1, 1, none⟩) (by first | omega | (simp; done) | (simp; omega)) (.int .i64 0)) (p := ⟨w.heap.size + 1, 2, none⟩) (by first | omega | (simp; done) | (simp; omega)) (.int .i64 0)) (p := ⟨w.heap.size + 1, 3, none⟩) (by first | omega | (simp; done) | (simp; omega)) (.int .i64 0)) (p := ⟨w.heap.size + 1, 4, none⟩) (by first | omega | (simp; done) | (simp; omega)) (.int .i64 0)) (p := ⟨w.heap.size + 1, 5, none⟩) (by first | omega | (simp; done) | (simp; omega)) (.int .i64 0)))
      have z2 := D2.out.size
      have y2 : w2.heap.size = w1.heap.size := by rw [hw2]; simp
      clear q12 q11 q10 q9 q8 q7 q6 q5 q4 q3 q2 q1 hw2
      try clear c0_0
      have c0_0 := cell_of_heap h0 (j := 0) rfl
      try clear f0_0
      have f0_0 := frozen_of_heap h0 0
      try clear c0_1
      have c0_1 := cell_of_heap h0 (j := 1) rfl
      try clear f0_1
      have f0_1 := frozen_of_heap h0 1
      try clear c0_2
      have c0_2 := cell_of_heap h0 (j := 2) rfl
      try clear f0_2
      have f0_2 := frozen_of_heap h0 2
      try clear c0_3
      have c0_3 := cell_of_heap h0 (j := 3) rfl
      try clear f0_3
      have f0_3 := frozen_of_heap h0 3
      try clear c0_4
      have c0_4 := cell_of_heap h0 (j := 4) rfl
      try clear f0_4
      have f0_4 := frozen_of_heap h0 4
      try clear c0_5
      have c0_5 := cell_of_heap h0 (j := 5) rfl
      try clear f0_5
      have f0_5 := frozen_of_heap h0 5
      try clear c1_0
      have c1_0 := cell_of_heap h1 (j := 0) rfl
      try clear f1_0
      have f1_0 := frozen_of_heap h1 0
      try clear c1_1
      have c1_1 := cell_of_heap h1 (j := 1) rfl
      try clear f1_1
      have f1_1 := frozen_of_heap h1 1
      try clear c1_2
      have c1_2 := cell_of_heap h1 (j := 2) rfl
      try clear f1_2
      have f1_2 := frozen_of_heap h1 2
      try clear c1_3
      have c1_3 := cell_of_heap h1 (j := 3) rfl
      try clear f1_3
      have f1_3 := frozen_of_heap h1 3
      try clear c1_4
      have c1_4 := cell_of_heap h1 (j := 4) rfl
      try clear f1_4
      have f1_4 := frozen_of_heap h1 4
      try clear c1_5
      have c1_5 := cell_of_heap h1 (j := 5) rfl
      try clear f1_5
      have f1_5 := frozen_of_heap h1 5
      refine bodyPost_ret (results_bt rfl _ _ (w.heap.size + 1) rfl rfl h1 Tryd.underlying49 rfl (by kernel_rfl)) rfl ⟨rfl, D2.out⟩
    · have U := (unitB_iff _).1 hu
      obtain ⟨b1, b2, b3, b4, g1, g2, g3, g4⟩ := back_parts hk1 U
      simp only [Bool.true_and, if_true]
      unfold Unit1 at U
      obtain ⟨⟨⟨a1, a2⟩, ⟨a3, a4⟩, ⟨a5, a6⟩, a7, a8⟩, _⟩ := (okV_iff m).1 hk1
      have C2 := fun W => rImage_any m.m.inv m.t W
      rw [b4] at C2
      have C3 := fun W => rMove_any (back m) W
      have hb0 : back m = ⟨m.m.inv, ⟨wrap64 (-(image m.m.inv m.t).x), wrap64 (-(image m.m.inv m.t).y)⟩⟩ := by
        unfold back
        rw [wrap64_id (a := -(image m.m.inv m.t).x) (by omega), wrap64_id (a := -(image m.m.inv m.t).y) (by omega)]
      rw [hb0] at C3 ⊢
      generalize image m.m.inv m.t = y at *
      rcases U with U | U
      · have e1 : wrap64 (wrap64 (m.m.a * m.m.d) - wrap64 (m.m.b * m.m.c)) = 1 := e0.trans U
        have hv : m.m.inv = ⟨wrap64 m.m.d, wrap64 (-m.m.b), wrap64 (-m.m.c), wrap64 m.m.a⟩ := by
          unfold Mat.inv
          rw [U]
          simp only [Mat.mk.injEq]
          exact ⟨by rw [wrap64_id (by omega)]; omega, by rw [wrap64_id (by omega)]; omega, by rw [wrap64_id (by omega)]; omega, by rw [wrap64_id (by omega)]; omega⟩
        rw [hv] at C2 C3 ⊢
        generalize okV ⟨⟨wrap64 m.m.d, wrap64 (-m.m.b), wrap64 (-m.m.c), wrap64 m.m.a⟩, ⟨wrap64 (-y.x), wrap64 (-y.y)⟩⟩ = k1 at *
        unfold m0 Mov.val Pt.val Mat.val at *
        simp only at C2 C3 ⊢
        have H1 := Lib.hid C1
        have H2 := Lib.hid C2
        have H3 := Lib.hid C3
        clear C1 C2 C3 hv hb0 b1 b2 b3 b4 hk1 hu hM e0 U a1 a2 a3 a4 a5 a6 a7 a8 g1 g2 g3 g4
        go_enter Tryd.func34, Tryd.ntmps34
        go_wp2_with fail
        refine (H1.out _).mono ?_
        rintro e w1 ⟨rfl, hb⟩
        have h0 : w1.heap[w.heap.size]? = some (.cells #[.int .i64 m.m.a, .int .i64 m.m.b, .int .i64 m.m.c, .int .i64 m.m.d, .int .i64 m.t.x, .int .i64 m.t.y] 49 (0, 0)) := hb_below hb (by repeat (first | (refine hb_new ?_; (first | omega | (simp; omega) | (simp; done))) | (refine hb_old ?_ ?_; rotate_left; focus (first | omega | (simp; omega) | (simp; done))) | refine hb_drew ?_)) (by first | omega | (simp; omega) | (simp; done))
        have h1 : w1.heap[w.heap.size + 1]? = some (.cells #[.int .i64 0, .int .i64 0, .int .i64 0, .int .i64 0, .int .i64 0, .int .i64 0] 49 (0, 0)) := hb_below hb (by repeat (first | (refine hb_new ?_; (first | omega | (simp; omega) | (simp; done))) | (refine hb_old ?_ ?_; rotate_left; focus (first | omega | (simp; omega) | (simp; done))) | refine hb_drew ?_)) (by first | omega | (simp; omega) | (simp; done))
        have y1 := Below.size hb
        try simp only [World.size_alloc, World.size_drew] at y1
        have D1 := Lib.hid (show Below w.heap.size w w1 from Below.trans (by repeat (first | exact Below.refl _ _ | refine Below.alloc ?_ (by first | omega | (simp; omega) | (simp; done)) _)) (Below.mono hb (by first | omega | (simp; omega) | (simp; done))))
        have z1 := D1.out.size
        clear hb
        try clear c0_0
        have c0_0 := cell_of_heap h0 (j := 0) rfl
        try clear f0_0
        have f0_0 := frozen_of_heap h0 0
        try clear c0_1
        have c0_1 := cell_of_heap h0 (j := 1) rfl
        try clear f0_1
        have f0_1 := frozen_of_heap h0 1
        try clear c0_2
        have c0_2 := cell_of_heap h0 (j := 2) rfl
        try clear f0_2
        have f0_2 := frozen_of_heap h0 2
        try clear c0_3
        have c0_3 := cell_of_heap h0 (j := 3) rfl
        try clear f0_3
        have f0_3 := frozen_of_heap h0 3
        try clear c0_4
        have c0_4 := cell_of_heap h0 (j := 4) rfl
        try clear f0_4
        have f0_4 := frozen_of_heap h0 4
        try clear c0_5
        have c0_5 := cell_of_heap h0 (j := 5) rfl
        try clear f0_5
        have f0_5 := frozen_of_heap h0 5
        try clear c1_0
        have c1_0 := cell_of_heap h1 (j := 0) rfl
        try clear f1_0
        have f1_0 := frozen_of_heap h1 0
        try clear c1_1
        have c1_1 := cell_of_heap h1 (j := 1) rfl
        try clear f1_1
        have f1_1 := frozen_of_heap h1 1
        try clear c1_2
        have c1_2 := cell_of_heap h1 (j := 2) rfl
        try clear f1_2
        have f1_2 := frozen_of_heap h1 2
        try clear c1_3
        have c1_3 := cell_of_heap h1 (j := 3) rfl
        try clear f1_3
        have f1_3 := frozen_of_heap h1 3
        try clear c1_4
        have c1_4 := cell_of_heap h1 (j := 4) rfl
        try clear f1_4
        have f1_4 := frozen_of_heap h1 4
        try clear c1_5
        have c1_5 := cell_of_heap h1 (j := 5) rfl
        try clear f1_5
        have f1_5 := frozen_of_heap h1 5
        have ha0 : (w1.alloc (.cells #[.int .i64 (wrap64 m.m.d), .int .i64 (wrap64 (-m.m.b)), .int .i64 (wrap64 (-m.m.c)), .int .i64 (wrap64 m.m.a), .int .i64 0, .int .i64 0] 49)).heap[w.heap.size]? = some (.cells #[.int .i64 m.m.a, .int .i64 m.m.b, .int .i64 m.m.c, .int .i64 m.m.d, .int .i64 m.t.x, .int .i64 m.t.y] 49 (0, 0)) := (by repeat (first | exact h0 | (refine hb_new ?_; (first | omega | (simp; omega) | (simp; done))) | (refine hb_old ?_ ?_; rotate_left; focus (first | omega | (simp; omega) | (simp; done))) | refine hb_drew ?_))
        have ca0_0 := cell_of_heap ha0 (j := 0) rfl
        have fa0_0 := frozen_of_heap ha0 0
        have ca0_1 := cell_of_heap ha0 (j := 1) rfl
        have fa0_1 := frozen_of_heap ha0 1
        have ca0_2 := cell_of_heap ha0 (j := 2) rfl
        have fa0_2 := frozen_of_heap ha0 2
        have ca0_3 := cell_of_heap ha0 (j := 3) rfl
        have fa0_3 := frozen_of_heap ha0 3
        have ca0_4 := cell_of_heap ha0 (j := 4) rfl
        have fa0_4 := frozen_of_heap ha0 4
        have ca0_5 := cell_of_heap ha0 (j := 5) rfl
        have fa0_5 := frozen_of_heap ha0 5
        go_wp2_with fail
        obtain ⟨w2, hw2⟩ : ∃ W, W = (w1.alloc (.cells #[.int .i64 (wrap64 m.m.d), .int .i64 (wrap64 (-m.m.b)), .int .i64 (wrap64 (-m.m.c)), .int .i64 (wrap64 m.m.a), .int .i64 0, .int .i64 0] 49)) := ⟨_, rfl⟩
        rw [← hw2]
        replace h0 : w2.heap[w.heap.size]? = some (.cells #[.int .i64 m.m.a, .int .i64 m.m.b, .int .i64 m.m.c, .int .i64 m.m.d, .int .i64 m.t.x, .int .i64 m.t.y] 49 (0, 0)) := by rw [hw2]; exact (by repeat (first | exact h0 | (refine hb_new ?_; (first | omega | (simp; omega) | (simp; done))) | (refine hb_old ?_ ?_; rotate_left; focus (first | omega | (simp; omega) | (simp; done))) | refine hb_drew ?_))
        replace h1 : w2.heap[w.heap.size + 1]? = some (.cells #[.int .i64 0, .int .i64 0, .int .i64 0, .int .i64 0, .int .i64 0, .int .i64 0] 49 (0, 0)) := by rw [hw2]; exact (by repeat (first | exact h1 | (refine hb_new ?_; (first | omega | (simp; omega) | (simp; done))) | (refine hb_old ?_ ?_; rotate_left; focus (first | omega | (simp; omega) | (simp; done))) | refine hb_drew ?_))
        have h2 : w2.heap[w1.heap.size]? = some (.cells #[.int .i64 (wrap64 m.m.d), .int .i64 (wrap64 (-m.m.b)), .int .i64 (wrap64 (-m.m.c)), .int .i64 (wrap64 m.m.a), .int .i64 0, .int .i64 0] 49 (0, 0)) := by rw [hw2]; exact (by repeat (first | (refine hb_new ?_; (first | omega | (simp; omega) | (simp; done))) | (refine hb_old ?_ ?_; rotate_left; focus (first | omega | (simp; omega) | (simp; done))) | refine hb_drew ?_))
        have hb : Below w1.heap.size w1 w2 := by rw [hw2]; exact (by repeat (first | exact Below.refl _ _ | refine Below.alloc ?_ (by first | omega | (simp; omega) | (simp; done)) _ | refine Below.drew ?_))
        have s2 : w1.heap.size + 1 ≤ w2.heap.size := by rw [hw2]; simp
        have y2 := Below.size hb
        try simp only [World.size_alloc, World.size_drew] at y2
        have D2 := Lib.hid (show Below w.heap.size w w2 from Below.trans (by repeat (first | exact D1.out | exact Below.refl _ _ | refine Below.alloc ?_ (by first | omega | (simp; omega) | (simp; done)) _)) (Below.mono hb (by first | omega | (simp; omega) | (simp; done))))
        have z2 := D2.out.size
        clear hb hw2
        try clear c0_0
        have c0_0 := cell_of_heap h0 (j := 0) rfl
        try clear f0_0
        have f0_0 := frozen_of_heap h0 0
        try clear c0_1
        have c0_1 := cell_of_heap h0 (j := 1) rfl
        try clear f0_1
        have f0_1 := frozen_of_heap h0 1
        try clear c0_2
        have c0_2 := cell_of_heap h0 (j := 2) rfl
        try clear f0_2
        have f0_2 := frozen_of_heap h0 2
        try clear c0_3
        have c0_3 := cell_of_heap h0 (j := 3) rfl
        try clear f0_3
        have f0_3 := frozen_of_heap h0 3
        try clear c0_4
        have c0_4 := cell_of_heap h0 (j := 4) rfl
        try clear f0_4
        have f0_4 := frozen_of_heap h0 4
        try clear c0_5
        have c0_5 := cell_of_heap h0 (j := 5) rfl
        try clear f0_5
        have f0_5 := frozen_of_heap h0 5
        try clear c1_0
        have c1_0 := cell_of_heap h1 (j := 0) rfl
        try clear f1_0
        have f1_0 := frozen_of_heap h1 0
        try clear c1_1
        have c1_1 := cell_of_heap h1 (j := 1) rfl
        try clear f1_1
        have f1_1 := frozen_of_heap h1 1
        try clear c1_2
        have c1_2 := cell_of_heap h1 (j := 2) rfl
        try clear f1_2
        have f1_2 := frozen_of_heap h1 2
        try clear c1_3
        have c1_3 := cell_of_heap h1 (j := 3) rfl
        try clear f1_3
        have f1_3 := frozen_of_heap h1 3
        try clear c1_4
        have c1_4 := cell_of_heap h1 (j := 4) rfl
        try clear f1_4
        have f1_4 := frozen_of_heap h1 4
        try clear c1_5
        have c1_5 := cell_of_heap h1 (j := 5) rfl
        try clear f1_5
        have f1_5 := frozen_of_heap h1 5
        try clear c2_0
        have c2_0 := cell_of_heap h2 (j := 0) rfl
        try clear f2_0
        have f2_0 := frozen_of_heap h2 0
        try clear c2_1
        have c2_1 := cell_of_heap h2 (j := 1) rfl
        try clear f2_1
        have f2_1 := frozen_of_heap h2 1
        try clear c2_2
        have c2_2 := cell_of_heap h2 (j := 2) rfl
        try clear f2_2
        have f2_2 := frozen_of_heap h2 2
        try clear c2_3
        have c2_3 := cell_of_heap h2 (j := 3) rfl
        try clear f2_3
        have f2_3 := frozen_of_heap h2 3
        try clear c2_4
        have c2_4 := cell_of_heap h2 (j := 4) rfl
        try clear f2_4
        have f2_4 := frozen_of_heap h2 4
        try clear c2_5
        have c2_5 := cell_of_heap h2 (j := 5) rfl
        try clear f2_5
        have f2_5 := frozen_of_heap h2 5
        clear ha0 ca0_0 fa0_0 ca0_1 fa0_1 ca0_2 fa0_2 ca0_3 fa0_3 ca0_4 fa0_4 ca0_5 fa0_5
        refine (H2.out _).mono ?_
        rintro e w3 ⟨rfl, hb⟩
        replace h0 : w3.heap[w.heap.size]? = some (.cells #[.int .i64 m.m.a, .int .i64 m.m.b, .int .i64 m.m.c, .int .i64 m.m.d, .int .i64 m.t.x, .int .i64 m.t.y] 49 (0, 0)) := hb_below hb (by repeat (first | exact h0 | (refine hb_new ?_; (first | omega | (simp; omega) | (simp; done))) | (refine hb_old ?_ ?_; rotate_left; focus (first | omega | (simp; omega) | (simp; done))) | refine hb_drew ?_)) (by first | omega | (simp; omega) | (simp; done))
        replace h1 : w3.heap[w.heap.size + 1]? = some (.cells #[.int .i64 0, .int .i64 0, .int .i64 0, .int .i64 0, .int .i64 0, .int .i64 0] 49 (0, 0)) := hb_below hb (by repeat (first | exact h1 | (refine hb_new ?_; (first | omega | (simp; omega) | (simp; done))) | (refine hb_old ?_ ?_; rotate_left; focus (first | omega | (simp; omega) | (simp; done))) | refine hb_drew ?_)) (by first | omega | (simp; omega) | (simp; done))
        replace h2 : w3.heap[w1.heap.size]? = some (.cells #[.int .i64 (wrap64 m.m.d), .int .i64 (wrap64 (-m.m.b)), .int .i64 (wrap64 (-m.m.c)), .int .i64 (wrap64 m.m.a), .int .i64 0, .int .i64 0] 49 (0, 0)) := hb_below hb (by repeat (first | exact h2 | (refine hb_new ?_; (first | omega | (simp; omega) | (simp; done))) | (refine hb_old ?_ ?_; rotate_left; focus (first | omega | (simp; omega) | (simp; done))) | refine hb_drew ?_)) (by first | omega | (simp; omega) | (simp; done))
        have y3 := Below.size hb
        try simp only [World.size_alloc, World.size_drew] at y3
        have D3 := Lib.hid (show Below w.heap.size w w3 from Below.trans (by repeat (first | exact D2.out | exact Below.refl _ _ | refine Below.alloc ?_ (by first | omega | (simp; omega) | (simp; done)) _)) (Below.mono hb (by first | omega | (simp; omega) | (simp; done))))
        have z3 := D3.out.size
        clear hb
        try clear c0_0
        have c0_0 := cell_of_heap h0 (j := 0) rfl
        try clear f0_0
        have f0_0 := frozen_of_heap h0 0
        try clear c0_1
        have c0_1 := cell_of_heap h0 (j := 1) rfl
        try clear f0_1
        have f0_1 := frozen_of_heap h0 1
        try clear c0_2
        have c0_2 := cell_of_heap h0 (j := 2) rfl
        try clear f0_2
        have f0_2 := frozen_of_heap h0 2
        try clear c0_3
        have c0_3 := cell_of_heap h0 (j := 3) rfl
        try clear f0_3
        have f0_3 := frozen_of_heap h0 3
        try clear c0_4
        have c0_4 := cell_of_heap h0 (j := 4) rfl
        try clear f0_4
        have f0_4 := frozen_of_heap h0 4
        try clear c0_5
        have c0_5 := cell_of_heap h0 (j := 5) rfl
        try clear f0_5
        have f0_5 := frozen_of_heap h0 5
        try clear c1_0
        have c1_0 := cell_of_heap h1 (j := 0) rfl
        try clear f1_0
        have f1_0 := frozen_of_heap h1 0
        try clear c1_1
        have c1_1 := cell_of_heap h1 (j := 1) rfl
        try clear f1_1
        have f1_1 := frozen_of_heap h1 1
        try clear c1_2
        have c1_2 := cell_of_heap h1 (j := 2) rfl
        try clear f1_2
        have f1_2 := frozen_of_heap h1 2
        try clear c1_3
        have c1_3 := cell_of_heap h1 (j := 3) rfl
        try clear f1_3
        have f1_3 := frozen_of_heap h1 3
        try clear c1_4
        have c1_4 := cell_of_heap h1 (j := 4) rfl
        try clear f1_4
        have f1_4 := frozen_of_heap h1 4
        try clear c1_5
        have c1_5 := cell_of_heap h1 (j := 5) rfl
        try clear f1_5
        have f1_5 := frozen_of_heap h1 5
        try clear c2_0
        have c2_0 := cell_of_heap h2 (j := 0) rfl
        try clear f2_0
        have f2_0 := frozen_of_heap h2 0
        try clear c2_1
        have c2_1 := cell_of_heap h2 (j := 1) rfl
        try clear f2_1
        have f2_1 := frozen_of_heap h2 1
        try clear c2_2
        have c2_2 := cell_of_heap h2 (j := 2) rfl
        try clear f2_2
        have f2_2 := frozen_of_heap h2 2
        try clear c2_3
        have c2_3 := cell_of_heap h2 (j := 3) rfl
        try clear f2_3
        have f2_3 := frozen_of_heap h2 3
        try clear c2_4
        have c2_4 := cell_of_heap h2 (j := 4) rfl
        try clear f2_4
        have f2_4 := frozen_of_heap h2 4
        try clear c2_5
        have c2_5 := cell_of_heap h2 (j := 5) rfl
        try clear f2_5
        have f2_5 := frozen_of_heap h2 5
        have ha2 : (w3.alloc (.cells #[.int .i64 y.x, .int .i64 y.y] 25)).heap[w1.heap.size]? = some (.cells #[.int .i64 (wrap64 m.m.d), .int .i64 (wrap64 (-m.m.b)), .int .i64 (wrap64 (-m.m.c)), .int .i64 (wrap64 m.m.a), .int .i64 0, .int .i64 0] 49 (0, 0)) := (by repeat (first | exact h2 | (refine hb_new ?_; (first | omega | (simp; omega) | (simp; done))) | (refine hb_old ?_ ?_; rotate_left; focus (first | omega | (simp; omega) | (simp; done))) | refine hb_drew ?_))
        have ca2_0 := cell_of_heap ha2 (j := 0) rfl
        have fa2_0 := frozen_of_heap ha2 0
        have ca2_1 := cell_of_heap ha2 (j := 1) rfl
        have fa2_1 := frozen_of_heap ha2 1
        have ca2_2 := cell_of_heap ha2 (j := 2) rfl
        have fa2_2 := frozen_of_heap ha2 2
        have ca2_3 := cell_of_heap ha2 (j := 3) rfl
        have fa2_3 := frozen_of_heap ha2 3
        have ca2_4 := cell_of_heap ha2 (j := 4) rfl
        have fa2_4 := frozen_of_heap ha2 4
        have ca2_5 := cell_of_heap ha2 (j := 5) rfl
        have fa2_5 := frozen_of_heap ha2 5
        have ha0 : (w3.alloc (.cells #[.int .i64 y.x, .int .i64 y.y] 25)).heap[w.heap.size]? = some (.cells #[.int .i64 m.m.a, .int .i64 m.m.b, .int .i64 m.m.c, .int .i64 m.m.d, .int .i64 m.t.x, .int .i64 m.t.y] 49 (0, 0)) := (by repeat (first | exact h0 | (refine hb_new ?_; (first | omega | (simp; omega) | (simp; done))) | (refine hb_old ?_ ?_; rotate_left; focus (first | omega | (simp; omega) | (simp; done))) | refine hb_drew ?_))
        have ca0_0 := cell_of_heap ha0 (j := 0) rfl
        have fa0_0 := frozen_of_heap ha0 0
        have ca0_1 := cell_of_heap ha0 (j := 1) rfl
        have fa0_1 := frozen_of_heap ha0 1
        have ca0_2 := cell_of_heap ha0 (j := 2) rfl
        have fa0_2 := frozen_of_heap ha0 2
        have ca0_3 := cell_of_heap ha0 (j := 3) rfl
        have fa0_3 := frozen_of_heap ha0 3
        have ca0_4 := cell_of_heap ha0 (j := 4) rfl
        have fa0_4 := frozen_of_heap ha0 4
        have ca0_5 := cell_of_heap ha0 (j := 5) rfl
        have fa0_5 := frozen_of_heap ha0 5
        go_wp2_with fail
        obtain ⟨w4, hw4⟩ : ∃ W, W = (w3.alloc (.cells #[.int .i64 y.x, .int .i64 y.y] 25)) := ⟨_, rfl⟩
        rw [← hw4]
        replace h0 : w4.heap[w.heap.size]? = some (.cells #[.int .i64 m.m.a, .int .i64 m.m.b, .int .i64 m.m.c, .int .i64 m.m.d, .int .i64 m.t.x, .int .i64 m.t.y] 49 (0, 0)) := by rw [hw4]; exact (by repeat (first | exact h0 | (refine hb_new ?_; (first | omega | (simp; omega) | (simp; done))) | (refine hb_old ?_ ?_; rotate_left; focus (first | omega | (simp; omega) | (simp; done))) | refine hb_drew ?_))
        replace h1 : w4.heap[w.heap.size + 1]? = some (.cells #[.int .i64 0, .int .i64 0, .int .i64 0, .int .i64 0, .int .i64 0, .int .i64 0] 49 (0, 0)) := by rw [hw4]; exact (by repeat (first | exact h1 | (refine hb_new ?_; (first | omega | (simp; omega) | (simp; done))) | (refine hb_old ?_ ?_; rotate_left; focus (first | omega | (simp; omega) | (simp; done))) | refine hb_drew ?_))
        replace h2 : w4.heap[w1.heap.size]? = some (.cells #[.int .i64 (wrap64 m.m.d), .int .i64 (wrap64 (-m.m.b)), .int .i64 (wrap64 (-m.m.c)), .int .i64 (wrap64 m.m.a), .int .i64 0, .int .i64 0] 49 (0, 0)) := by rw [hw4]; exact (by repeat (first | exact h2 | (refine hb_new ?_; (first | omega | (simp; omega) | (simp; done))) | (refine hb_old ?_ ?_; rotate_left; focus (first | omega | (simp; omega) | (simp; done))) | refine hb_drew ?_))
        have h3 : w4.heap[w3.heap.size]? = some (.cells #[.int .i64 y.x, .int .i64 y.y] 25 (0, 0)) := by rw [hw4]; exact (by repeat (first | (refine hb_new ?_; (first | omega | (simp; omega) | (simp; done))) | (refine hb_old ?_ ?_; rotate_left; focus (first | omega | (simp; omega) | (simp; done))) | refine hb_drew ?_))
        have hb : Below w3.heap.size w3 w4 := by rw [hw4]; exact (by repeat (first | exact Below.refl _ _ | refine Below.alloc ?_ (by first | omega | (simp; omega) | (simp; done)) _ | refine Below.drew ?_))
        have s4 : w3.heap.size + 1 ≤ w4.heap.size := by rw [hw4]; simp
        have y4 := Below.size hb
        try simp only [World.size_alloc, World.size_drew] at y4
        have D4 := Lib.hid (show Below w.heap.size w w4 from Below.trans (by repeat (first | exact D3.out | exact Below.refl _ _ | refine Below.alloc ?_ (by first | omega | (simp; omega) | (simp; done)) _)) (Below.mono hb (by first | omega | (simp; omega) | (simp; done))))
        have z4 := D4.out.size
        clear hb hw4
        try clear c0_0
        have c0_0 := cell_of_heap h0 (j := 0) rfl
        try clear f0_0
        have f0_0 := frozen_of_heap h0 0
        try clear c0_1
        have c0_1 := cell_of_heap h0 (j := 1) rfl
        try clear f0_1
        have f0_1 := frozen_of_heap h0 1
        try clear c0_2
        have c0_2 := cell_of_heap h0 (j := 2) rfl
        try clear f0_2
        have f0_2 := frozen_of_heap h0 2
        try clear c0_3
        have c0_3 := cell_of_heap h0 (j := 3) rfl
        try clear f0_3
        have f0_3 := frozen_of_heap h0 3
        try clear c0_4
        have c0_4 := cell_of_heap h0 (j := 4) rfl
        try clear f0_4
        have f0_4 := frozen_of_heap h0 4
        try clear c0_5
        have c0_5 := cell_of_heap h0 (j := 5) rfl
        try clear f0_5
        have f0_5 := frozen_of_heap h0 5
        try clear c1_0
        have c1_0 := cell_of_heap h1 (j := 0) rfl
        try clear f1_0
        have f1_0 := frozen_of_heap h1 0
        try clear c1_1
        have c1_1 := cell_of_heap h1 (j := 1) rfl
        try clear f1_1
        have f1_1 := frozen_of_heap h1 1
        try clear c1_2
        have c1_2 := cell_of_heap h1 (j := 2) rfl
        try clear f1_2
        have f1_2 := frozen_of_heap h1 2
        try clear c1_3
        have c1_3 := cell_of_heap h1 (j := 3) rfl
        try clear f1_3
        have f1_3 := frozen_of_heap h1 3
        try clear c1_4
        have c1_4 := cell_of_heap h1 (j := 4) rfl
        try clear f1_4
        have f1_4 := frozen_of_heap h1 4
        try clear c1_5
        have c1_5 := cell_of_heap h1 (j := 5) rfl
        try clear f1_5
        have f1_5 := frozen_of_heap h1 5
        try clear c2_0
        have c2_0 := cell_of_heap h2 (j := 0) rfl
        try clear f2_0
        have f2_0 := frozen_of_heap h2 0
        try clear c2_1
        have c2_1 := cell_of_heap h2 (j := 1) rfl
        try clear f2_1
        have f2_1 := frozen_of_heap h2 1
        try clear c2_2
        have c2_2 := cell_of_heap h2 (j := 2) rfl
        try clear f2_2
        have f2_2 := frozen_of_heap h2 2
        try clear c2_3
        have c2_3 := cell_of_heap h2 (j := 3) rfl
        try clear f2_3
        have f2_3 := frozen_of_heap h2 3
        try clear c2_4
        have c2_4 := cell_of_heap h2 (j := 4) rfl
        try clear f2_4
        have f2_4 := frozen_of_heap h2 4
        try clear c2_5
        have c2_5 := cell_of_heap h2 (j := 5) rfl
        try clear f2_5
        have f2_5 := frozen_of_heap h2 5
        try clear c3_0
        have c3_0 := cell_of_heap h3 (j := 0) rfl
        try clear f3_0
        have f3_0 := frozen_of_heap h3 0
        try clear c3_1
        have c3_1 := cell_of_heap h3 (j := 1) rfl
        try clear f3_1
        have f3_1 := frozen_of_heap h3 1
        clear ha2 ca2_0 fa2_0 ca2_1 fa2_1 ca2_2 fa2_2 ca2_3 fa2_3 ca2_4 fa2_4 ca2_5 fa2_5
        clear ha0 ca0_0 fa0_0 ca0_1 fa0_1 ca0_2 fa0_2 ca0_3 fa0_3 ca0_4 fa0_4 ca0_5 fa0_5
        have q1 := (Below.heap_setCell w4 ⟨w1.heap.size, 4, none⟩ (.int .i64 (wrap64 (-y.x))) (w.heap.size) (by first | omega | assumption | (apply Ne.symm; assumption) | (simp; done) | (simp; omega))).trans h0
        have q2 := (Below.heap_setCell w4 ⟨w1.heap.size, 4, none⟩ (.int .i64 (wrap64 (-y.x))) (w.heap.size + 1) (by first | omega | assumption | (apply Ne.symm; assumption) | (simp; done) | (simp; omega))).trans h1
        have q3 := heap_setCell_same w4 (w1.heap.size) 4 _ _ (.int .i64 (wrap64 (-y.x))) h2
        have q4 := (Below.heap_setCell w4 ⟨w1.heap.size, 4, none⟩ (.int .i64 (wrap64 (-y.x))) (w3.heap.size) (by first | omega | assumption | (apply Ne.symm; assumption) | (simp; done) | (simp; omega))).trans h3
        have q5 := (Below.heap_setCell (w4.setCell ⟨w1.heap.size, 4, none⟩ (.int .i64 (wrap64 (-y.x)))) ⟨w1.heap.size, 5, none⟩ (.int .i64 (wrap64 (-y.y))) (w.heap.size) (by first | omega | assumption | (apply Ne.symm; assumption) | (simp; done) | (simp; omega))).trans q1
        have q6 := (Below.heap_setCell (w4.setCell ⟨w1.heap.size, 4, none⟩ (.int .i64 (wrap64 (-y.x)))) ⟨w1.heap.size, 5, none⟩ (.int .i64 (wrap64 (-y.y))) (w.heap.size + 1) (by first | omega | assumption | (apply Ne.symm; assumption) | (simp; done) | (simp; omega))).trans q2
        have q7 := heap_setCell_same (w4.setCell ⟨w1.heap.size, 4, none⟩ (.int .i64 (wrap64 (-y.x)))) (w1.heap.size) 5 _ _ (.int .i64 (wrap64 (-y.y))) q3
        have q8 := (Below.heap_setCell (w4.setCell ⟨w1.heap.size, 4, none⟩ (.int .i64 (wrap64 (-y.x)))) ⟨w1.heap.size, 5, none⟩ (.int .i64 (wrap64 (-y.y))) (w3.heap.size) (by first | omega | assumption | (apply Ne.symm; assumption) | (simp; done) | (simp; omega))).trans q4
        obtain ⟨w5, hw5⟩ : ∃ W, W = ((w4.setCell ⟨w1.heap.size, 4, none⟩ (.int .i64 (wrap64 (-y.x)))).setCell ⟨w1.heap.size, 5, none⟩ (.int .i64 (wrap64 (-y.y)))) := ⟨_, rfl⟩
        rw [← hw5]
        replace h0 : w5.heap[w.heap.size]? = some (.cells #[.int .i64 m.m.a, .int .i64 m.m.b, .int .i64 m.m.c, .int .i64 m.m.d, .int .i64 m.t.x, .int .i64 m.t.y] 49 (0, 0)) := by rw [hw5]; exact q5
        replace h1 : w5.heap[w.heap.size + 1]? = some (.cells #[.int .i64 0, .int .i64 0, .int .i64 0, .int .i64 0, .int .i64 0, .int .i64 0] 49 (0, 0)) := by rw [hw5]; exact q6
        replace h2 : w5.heap[w1.heap.size]? = some (.cells #[.int .i64 (wrap64 m.m.d), .int .i64 (wrap64 (-m.m.b)), .int .i64 (wrap64 (-m.m.c)), .int .i64 (wrap64 m.m.a), .int .i64 (wrap64 (-y.x)), .int .i64 (wrap64 (-y.y))] 49 (0, 0)) := by rw [hw5]; exact q7
        replace h3 : w5.heap[w3.heap.size]? = some (.cells #[.int .i64 y.x, .int .i64 y.y] 25 (0, 0)) := by rw [hw5]; exact q8
        have D5 := Lib.hid (show Below w.heap.size w w5 by rw [hw5]; exact (Below.setCell (Below.setCell D4.out (p := ⟨w1.heap.size, 4, none⟩) (by first | omega | (simp; done) | (simp; omega)) (.int .i64 (wrap64 (-y.x)))) (p := ⟨w1.heap.size, 5, none⟩) (by first | omega | (simp; done) | (simp; omega)) (.int .i64 (wrap64 (-y.y)))))
        have z5 := D5.out.size
        have y5 : w5.heap.size = w4.heap.size := by rw [hw5]; simp
        clear q8 q7 q6 q5 q4 q3 q2 q1 hw5
        try clear c0_0
        have c0_0 := cell_of_heap h0 (j := 0) rfl
        try clear f0_0
        have f0_0 := frozen_of_heap h0 0
        try clear c0_1
        have c0_1 := cell_of_heap h0 (j := 1) rfl
        try clear f0_1
        have f0_1 := frozen_of_heap h0 1
        try clear c0_2
        have c0_2 := cell_of_heap h0 (j := 2) rfl
        try clear f0_2
        have f0_2 := frozen_of_heap h0 2
        try clear c0_3
        have c0_3 := cell_of_heap h0 (j := 3) rfl
        try clear f0_3
        have f0_3 := frozen_of_heap h0 3
        try clear c0_4
        have c0_4 := cell_of_heap h0 (j := 4) rfl
        try clear f0_4
        have f0_4 := frozen_of_heap h0 4
        try clear c0_5
        have c0_5 := cell_of_heap h0 (j := 5) rfl
        try clear f0_5
        have f0_5 := frozen_of_heap h0 5
        try clear c1_0
        have c1_0 := cell_of_heap h1 (j := 0) rfl
        try clear f1_0
        have f1_0 := frozen_of_heap h1 0
        try clear c1_1
        have c1_1 := cell_of_heap h1 (j := 1) rfl
        try clear f1_1
        have f1_1 := frozen_of_heap h1 1
        try clear c1_2
        have c1_2 := cell_of_heap h1 (j := 2) rfl
        try clear f1_2
        have f1_2 := frozen_of_heap h1 2
        try clear c1_3
        have c1_3 := cell_of_heap h1 (j := 3) rfl
        try clear f1_3
        have f1_3 := frozen_of_heap h1 3
        try clear c1_4
        have c1_4 := cell_of_heap h1 (j := 4) rfl
        try clear f1_4
        have f1_4 := frozen_of_heap h1 4
        try clear c1_5
        have c1_5 := cell_of_heap h1 (j := 5) rfl
        try clear f1_5
        have f1_5 := frozen_of_heap h1 5
        try clear c2_0
        have c2_0 := cell_of_heap h2 (j := 0) rfl
        try clear f2_0
        have f2_0 := frozen_of_heap h2 0
        try clear c2_1
        have c2_1 := cell_of_heap h2 (j := 1) rfl
        try clear f2_1
        have f2_1 := frozen_of_heap h2 1
        try clear c2_2
        have c2_2 := cell_of_heap h2 (j := 2) rfl
        try clear f2_2
        have f2_2 := frozen_of_heap h2 2
        try clear c2_3
        have c2_3 := cell_of_heap h2 (j := 3) rfl
        try clear f2_3
        have f2_3 := frozen_of_heap h2 3
        try clear c2_4
        have c2_4 := cell_of_heap h2 (j := 4) rfl
        try clear f2_4
        have f2_4 := frozen_of_heap h2 4
        try clear c2_5
        have c2_5 := cell_of_heap h2 (j := 5) rfl
        try clear f2_5
        have f2_5 := frozen_of_heap h2 5
        try clear c3_0
        have c3_0 := cell_of_heap h3 (j := 0) rfl
        try clear f3_0
        have f3_0 := frozen_of_heap h3 0
        try clear c3_1
        have c3_1 := cell_of_heap h3 (j := 1) rfl
        try clear f3_1
        have f3_1 := frozen_of_heap h3 1
        refine (H3.out _).mono ?_
        rintro e w6 ⟨rfl, hb⟩
        replace h0 : w6.heap[w.heap.size]? = some (.cells #[.int .i64 m.m.a, .int .i64 m.m.b, .int .i64 m.m.c, .int .i64 m.m.d, .int .i64 m.t.x, .int .i64 m.t.y] 49 (0, 0)) := hb_below hb (by repeat (first | exact h0 | (refine hb_new ?_; (first | omega | (simp; omega) | (simp; done))) | (refine hb_old ?_ ?_; rotate_left; focus (first | omega | (simp; omega) | (simp; done))) | refine hb_drew ?_)) (by first | omega | (simp; omega) | (simp; done))
        replace h1 : w6.heap[w.heap.size + 1]? = some (.cells #[.int .i64 0, .int .i64 0, .int .i64 0, .int .i64 0, .int .i64 0, .int .i64 0] 49 (0, 0)) := hb_below hb (by repeat (first | exact h1 | (refine hb_new ?_; (first | omega | (simp; omega) | (simp; done))) | (refine hb_old ?_ ?_; rotate_left; focus (first | omega | (simp; omega) | (simp; done))) | refine hb_drew ?_)) (by first | omega | (simp; omega) | (simp; done))
        replace h2 : w6.heap[w1.heap.size]? = some (.cells #[.int .i64 (wrap64 m.m.d), .int .i64 (wrap64 (-m.m.b)), .int .i64 (wrap64 (-m.m.c)), .int .i64 (wrap64 m.m.a), .int .i64 (wrap64 (-y.x)), .int .i64 (wrap64 (-y.y))] 49 (0, 0)) := hb_below hb (by repeat (first | exact h2 | (refine hb_new ?_; (first | omega | (simp; omega) | (simp; done))) | (refine hb_old ?_ ?_; rotate_left; focus (first | omega | (simp; omega) | (simp; done))) | refine hb_drew ?_)) (by first | omega | (simp; omega) | (simp; done))
        replace h3 : w6.heap[w3.heap.size]? = some (.cells #[.int .i64 y.x, .int .i64 y.y] 25 (0, 0)) := hb_below hb (by repeat (first | exact h3 | (refine hb_new ?_; (first | omega | (simp; omega) | (simp; done))) | (refine hb_old ?_ ?_; rotate_left; focus (first | omega | (simp; omega) | (simp; done))) | refine hb_drew ?_)) (by first | omega | (simp; omega) | (simp; done))
        have y6 := Below.size hb
        try simp only [World.size_alloc, World.size_drew] at y6
        have D6 := Lib.hid (show Below w.heap.size w w6 from Below.trans (by repeat (first | exact D5.out | exact Below.refl _ _ | refine Below.alloc ?_ (by first | omega | (simp; omega) | (simp; done)) _)) (Below.mono hb (by first | omega | (simp; omega) | (simp; done))))
        have z6 := D6.out.size
        clear hb
        try clear c0_0
        have c0_0 := cell_of_heap h0 (j := 0) rfl
        try clear f0_0
        have f0_0 := frozen_of_heap h0 0
        try clear c0_1
        have c0_1 := cell_of_heap h0 (j := 1) rfl
        try clear f0_1
        have f0_1 := frozen_of_heap h0 1
        try clear c0_2
        have c0_2 := cell_of_heap h0 (j := 2) rfl
        try clear f0_2
        have f0_2 := frozen_of_heap h0 2
        try clear c0_3
        have c0_3 := cell_of_heap h0 (j := 3) rfl
        try clear f0_3
        have f0_3 := frozen_of_heap h0 3
        try clear c0_4
        have c0_4 := cell_of_heap h0 (j := 4) rfl
        try clear f0_4
        have f0_4 := frozen_of_heap h0 4
        try clear c0_5
        have c0_5 := cell_of_heap h0 (j := 5) rfl
        try clear f0_5
        have f0_5 := frozen_of_heap h0 5
        try clear c1_0
        have c1_0 := cell_of_heap h1 (j := 0) rfl
        try clear f1_0
        have f1_0 := frozen_of_heap h1 0
        try clear c1_1
        have c1_1 := cell_of_heap h1 (j := 1) rfl
        try clear f1_1
        have f1_1 := frozen_of_heap h1 1
        try clear c1_2
        have c1_2 := cell_of_heap h1 (j := 2) rfl
        try clear f1_2
        have f1_2 := frozen_of_heap h1 2
        try clear c1_3
        have c1_3 := cell_of_heap h1 (j := 3) rfl
        try clear f1_3
        have f1_3 := frozen_of_heap h1 3
        try clear c1_4
        have c1_4 := cell_of_heap h1 (j := 4) rfl
        try clear f1_4
        have f1_4 := frozen_of_heap h1 4
        try clear c1_5
        have c1_5 := cell_of_heap h1 (j := 5) rfl
        try clear f1_5
        have f1_5 := frozen_of_heap h1 5
        try clear c2_0
        have c2_0 := cell_of_heap h2 (j := 0) rfl
        try clear f2_0
        have f2_0 := frozen_of_heap h2 0
        try clear c2_1
        have c2_1 := cell_of_heap h2 (j := 1) rfl
        try clear f2_1
        have f2_1 := frozen_of_heap h2 1
        try clear c2_2
        have c2_2 := cell_of_heap h2 (j := 2) rfl
        try clear f2_2
        have f2_2 := frozen_of_heap h2 2
        try clear c2_3
        have c2_3 := cell_of_heap h2 (j := 3) rfl
        try clear f2_3
        have f2_3 := frozen_of_heap h2 3
        try clear c2_4
        have c2_4 := cell_of_heap h2 (j := 4) rfl
        try clear f2_4
        have f2_4 := frozen_of_heap h2 4
        try clear c2_5
        have c2_5 := cell_of_heap h2 (j := 5) rfl
        try clear f2_5
        have f2_5 := frozen_of_heap h2 5
        try clear c3_0
        have c3_0 := cell_of_heap h3 (j := 0) rfl
        try clear f3_0
        have f3_0 := frozen_of_heap h3 0
        try clear c3_1
        have c3_1 := cell_of_heap h3 (j := 1) rfl
        try clear f3_1
        have f3_1 := frozen_of_heap h3 1
        cases k1
        · go_wp2_with fail
          have q1 := (Below.heap_setCell w6 ⟨w.heap.size + 1, 0, none⟩ (.int .i64 0) (w.heap.size) (by first | omega | assumption | (apply Ne.symm; assumption) | (simp; done) | (simp; omega))).trans h0
          have q2 := heap_setCell_same w6 (w.heap.size + 1) 0 _ _ (.int .i64 0) h1
          have q3 := (Below.heap_setCell w6 ⟨w.heap.size + 1, 0, none⟩ (.int .i64 0) (w1.heap.size) (by first | omega | assumption | (apply Ne.symm; assumption) | (simp; done) | (simp; omega))).trans h2
          have q4 := (Below.heap_setCell w6 ⟨w.heap.size + 1, 0, none⟩ (.int .i64 0) (w3.heap.size) (by first | omega | assumption | (apply Ne.symm; assumption) | (simp; done) | (simp; omega))).trans h3
          have q5 := (Below.heap_setCell (w6.setCell ⟨w.heap.size + 1, 0, none⟩ (.int .i64 0)) ⟨w.heap.size + 1, 1, none⟩ (.int .i64 0) (w.heap.size) (by first | omega | assumption | (apply Ne.symm; assumption) | (simp; done) | (simp; omega))).trans q1
          have q6 := heap_setCell_same (w6.setCell ⟨w.heap.size + 1, 0, none⟩ (.int .i64 0)) (w.heap.size + 1) 1 _ _ (.int .i64 0) q2
          have q7 := (Below.heap_setCell (w6.setCell ⟨w.heap.size + 1, 0, none⟩ (.int .i64 0)) ⟨w.heap.size + 1, 1, none⟩ (.int .i64 0) (w1.heap.size) (by first | omega | assumption | (apply Ne.symm; assumption) | (simp; done) | (simp; omega))).trans q3
          have q8 := (Below.heap_setCell (w6.setCell ⟨w.heap.size + 1, 0, none⟩ (.int .i64 0)) ⟨w.heap.size + 1, 1, none⟩ (.int .i64 0) (w3.heap.size) (by first | omega | assumption | (apply Ne.symm; assumption) | (simp; done) | (simp; omega))).trans q4
          have q9 := (Below.heap_setCell ((w6.setCell ⟨w.heap.size + 1, 0, none⟩ (.int .i64 0)).setCell ⟨w.heap.size + 1, 1, none⟩ (.int .i64 0)) ⟨w.heap.size + 1, 2, none⟩ (.int .i64 0) (w.heap.size) (by first | omega | assumption | (apply Ne.symm; assumption) | (simp; done) | (simp; omega))).trans q5
          have q10 := heap_setCell_same ((w6.setCell ⟨w.heap.size + 1, 0, none⟩ (.int .i64 0)).setCell ⟨w.heap.size + 1, 1, none⟩ (.int .i64 0)) (w.heap.size + 1) 2 _ _ (.int .i64 0) q6
          have q11 := (Below.heap_setCell ((w6.setCell ⟨w.heap.size + 1, 0, none⟩ (.int .i64 0)).setCell ⟨w.heap.size + 1, 1, none⟩ (.int .i64 0)) ⟨w.heap.size + 1, 2, none⟩ (.int .i64 0) (w1.heap.size) (by first | omega | assumption | (apply Ne.symm; assumption) | (simp; done) | (simp; omega))).trans q7
          have q12 := (Below.heap_setCell ((w6.setCell ⟨w.heap.size + 1, 0, none⟩ (.int .i64 0)).setCell ⟨w.heap.size + 1, 1, none⟩ (.int .i64 0)) ⟨w.heap.size + 1, 2, none⟩ (.int .i64 0) (w3.heap.size) (by first | omega | assumption | (apply Ne.symm; assumption) | (simp; done) | (simp; omega))).trans q8
          have q13 := (Below.heap_setCell (((w6.setCell ⟨w.heap.size + 1, 0, none⟩ (.int .i64 0)).setCell ⟨w.heap.size + 1, 1, none⟩ (.int .i64 0)).setCell ⟨w.heap.size + 1, 2, none⟩ (.int .i64 0)) ⟨w.heap.size + 1, 3, none⟩ (.int .i64 0) (w.heap.size) (by first | omega | assumption | (apply Ne.symm; assumption) | (simp; done) | (simp; omega))).trans q9
          have q14 := heap_setCell_same (((w6.setCell ⟨w.heap.size + 1, 0, none⟩ (.int .i64 0)).setCell ⟨w.heap.size + 1, 1, none⟩ (.int .i64 0)).setCell ⟨w.heap.size + 1, 2, none⟩ (.int .i64 0)) (w.heap.size + 1) 3 _ _ (.int .i64 0) q10
          have q15 := (Below.heap_setCell (((w6.setCell ⟨w.heap.size + 1, 0, none⟩ (.int .i64 0)).setCell ⟨w.heap.size + 1, 1, none⟩ (.int .i64 0)).setCell ⟨w.heap.size + 1, 2, none⟩ (.int .i64 0)) ⟨w.heap.size + 1, 3, none⟩ (.int .i64 0) (w1.heap.size) (by first | omega | assumption | (apply Ne.symm; assumption) | (simp; done) | (simp; omega))).trans q11
          have q16 := (Below.heap_setCell (((w6.setCell ⟨w.heap.size + 1, 0, none⟩ (.int .i64 0)).setCell ⟨w.heap.size + 1, 1, none⟩ (.int .i64 0)).setCell ⟨w.heap.size + 1, 2, none⟩ (.int .i64 0)) ⟨w.heap.size + 1, 3, none⟩ (.int .i64 0) (w3.heap.size) (by first | omega | assumption | (apply Ne.symm; assumption) | (simp; done) | (simp; omega))).trans q12
          have q17 := (Below.heap_setCell ((((w6.setCell ⟨w.heap.size + 1, 0, none⟩ (.int .i64 0)).setCell ⟨w.heap.size + 1, 1, none⟩ (.int .i64 0)).setCell ⟨w.heap.size + 1, 2, none⟩ (.int .i64 0)).setCell ⟨w.heap.size + 1, 3, none⟩ (.int .i64 0)) ⟨w.heap.size + 1, 4, none⟩ (.int .i64 0) (w.heap.size) (by first | omega | assumption | (apply Ne.symm; assumption) | (simp; done) | (simp; omega))).trans q13
          have q18 := heap_setCell_same ((((w6.setCell ⟨w.heap.size + 1, 0, none⟩ (.int .i64 0)).setCell ⟨w.heap.size + 1, 1, none⟩ (.int .i64 0)).setCell ⟨w.heap.size + 1, 2, none⟩ (.int .i64 0)).setCell ⟨w.heap.size + 1, 3, none⟩ (.int .i64 0)) (w.heap.size + 1) 4 _ _ (.int .i64 0) q14
          have q19 := (Below.heap_setCell ((((w6.setCell ⟨w.heap.size + 1, 0, none⟩ (.int .i64 0)).setCell ⟨w.heap.size + 1, 1, none⟩ (.int .i64 0)).setCell ⟨w.heap.size + 1, 2, none⟩ (.int .i64 0)).setCell ⟨w.heap.size + 1, 3, none⟩ (.int .i64 0)) ⟨w.heap.size + 1, 4, none⟩ (.int .i64 0) (w1.heap.size) (by first | omega | assumption | (apply Ne.symm; assumption) | (simp; done) | (simp; omega))).trans q15
          have q20 := (Below.heap_setCell ((((w6.setCell ⟨w.heap.size + 1, 0, none⟩ (.int .i64 0)).setCell ⟨w.heap.size + 1, 1, none⟩ (.int .i64 0)).setCell ⟨w.heap.size + 1, 2, none⟩ (.int .i64 0)).setCell ⟨w.heap.size + 1, 3, none⟩ (.int .i64 0)) ⟨w.heap.size + 1, 4, none⟩ (.int .i64 0) (w3.heap.size) (by first | omega | assumption | (apply Ne.symm; assumption) | (simp; done) | (simp; omega))).trans q16
          have q21 := (Below.heap_setCell (((((w6.setCell ⟨w.heap.size + 1, 0, none⟩ (.int .i64 0)).setCell ⟨w.heap.size + 1, 1, none⟩ (.int .i64 0)).setCell ⟨w.heap.size + 1, 2, none⟩ (.int .i64 0)).setCell ⟨w.heap.size + 1, 3, none⟩ (.int .i64 0)).setCell ⟨w.heap.size + 1, 4, none⟩ (.int .i64 0)) ⟨w.heap.size + 1, 5, none⟩ (.int .i64 0) (w.heap.size) (by first | omega | assumption | (apply Ne.symm; assumption) | (simp; done) | (simp; omega))).trans q17
          have q22 := heap_setCell_same (((((w6.setCell ⟨w.heap.size + 1, 0, none⟩ (.int .i64 0)).setCell ⟨w.heap.size + 1, 1, none⟩ (.int .i64 0)).setCell ⟨w.heap.size + 1, 2, none⟩ (.int .i64 0)).setCell ⟨w.heap.size + 1, 3, none⟩ (.int .i64 0)).setCell ⟨w.heap.size + 1, 4, none⟩ (.int .i64 0)) (w.heap.size + 1) 5 _ _ (.int .i64 0) q18
          have q23 := (Below.heap_setCell (((((w6.setCell ⟨w.heap.size + 1, 0, none⟩ (.int .i64 0)).setCell ⟨w.heap.size + 1, 1, none⟩ (.int .i64 0)).setCell ⟨w.heap.size + 1, 2, none⟩ (.int .i64 0)).setCell ⟨w.heap.size + 1, 3, none⟩ (.int .i64 0)).setCell ⟨w.heap.size + 1, 4, none⟩ (.int .i64 0)) ⟨w.heap.size + 1, 5, none⟩ (.int .i64 0) (w1.heap.size) (by first | omega | assumption | (apply Ne.symm; assumption) | (simp; done) | (simp; omega))).trans q19
          have q24 := (Below.heap_setCell (((((w6.setCell ⟨w.heap.size + 1, 0, none⟩ (.int .i64 0)).setCell ⟨w.heap.size + 1, 1, none⟩ (.int .i64 0)).setCell ⟨w.heap.size + 1, 2, none⟩ (.int .i64 0)).setCell ⟨w.heap.size + 1, 3, none⟩ (.int .i64 0)).setCell ⟨w.heap.size + 1, 4, none⟩ (.int .i64 0)) ⟨w.heap.size + 1, 5, none⟩ (.int .i64 0) (w3.heap.size) (by first | omega | assumption | (apply Ne.symm; assumption) | (simp; done) | (simp; omega))).trans q20
          obtain ⟨w7, hw7⟩ : ∃ W, W = ((((((w6.setCell ⟨w.heap.size + 1, 0, none⟩ (.int .i64 0)).setCell ⟨w.heap.size + 1, 1, none⟩ (.int .i64 0)).setCell ⟨w.heap.size + 1, 2, none⟩ (.int .i64 0)).setCell ⟨w.heap.size + 1, 3, none⟩ (.int .i64 0)).setCell ⟨w.heap.size + 1, 4, none⟩ (.int .i64 0)).setCell ⟨w.heap.size + 1, 5, none⟩ (.int .i64 0)) := ⟨_, rfl⟩
          rw [← hw7]
          replace h0 : w7.heap[w.heap.size]? = some (.cells #[.int .i64 m.m.a, .int .i64 m.m.b, .int .i64 m.m.c, .int .i64 m.m.d, .int .i64 m.t.x, .int .i64 m.t.y] 49 (0, 0)) := by rw [hw7]; exact q21
          replace h1 : w7.heap[w.heap.size + 1]? = some (.cells #[.int .i64 0, .int .i64 0, .int .i64 0, .int .i64 0, .int .i64 0, .int .i64 0] 49 (0, 0)) := by rw [hw7]; exact q22
          replace h2 : w7.heap[w1.heap.size]? = some (.cells #[.int .i64 (wrap64 m.m.d), .int .i64 (wrap64 (-m.m.b)), .int .i64 (wrap64 (-m.m.c)), .int .i64 (wrap64 m.m.a), .int .i64 (wrap64 (-y.x)), .int .i64 (wrap64 (-y.y))] 49 (0, 0)) := by rw [hw7]; exact q23
          replace h3 : w7.heap[w3.heap.size]? = some (.cells #[.int .i64 y.x, .int .i64 y.y] 25 (0, 0)) := by rw [hw7]; exact q24
          have D7 := Lib.hid (show Below w.heap.size w w7 by rw [hw7]; exact (Below.setCell (Below.setCell (Below.setCell (Below.setCell (Below.setCell (Below.setCell D6.out (p := ⟨w.heap.size + 1, 0, none⟩) (by first | omega | (simp; done) | (simp; omega)) (.int .i64 0)) (p := ⟨w.heap.size + 1, 1, none⟩) (by first | omega | (simp; done) | (simp; omega)) (.int .i64 0)) (p := ⟨w.heap.size + 1, 2, none⟩) (by first | omega | (simp; done) | (simp; omega)) (.int .i64 0)) (p := ⟨w.heap.size + 1, 3, none⟩) (by first | omega | (simp; done) | (simp; omega)) (.int .i64 0)) (p := ⟨w.heap.size + 1, 4, none⟩) (by first | omega | (simp; done) | (simp; omega)) (.int .i64 0)) (p := ⟨w.heap.size + 1, 5, none⟩) (by first | omega | (simp; done) | (simp; omega)) (.int .i64 0)))
          have z7 := D7.out.size
          have y7 : w7.heap.size = w6.heap.size := by rw [hw7]; simp
          clear q24 q23 q22 q21 q20 q19 q18 q17 q16 q15 q14 q13 q12 q11 q10 q9 q8 q7 q6 q5 q4 q3 q2 q1 hw7
          try clear c0_0
          have c0_0 := cell_of_heap h0 (j := 0) rfl
          try clear f0_0
          have f0_0 := frozen_of_heap h0 0
          try clear c0_1
          have c0_1 := cell_of_heap h0 (j := 1) rfl
          try clear f0_1
          have f0_1 := frozen_of_heap h0 1
          try clear c0_2
          have c0_2 := cell_of_heap h0 (j := 2) rfl
          try clear f0_2
          have f0_2 := frozen_of_heap h0 2
          try clear c0_3
          have c0_3 := cell_of_heap h0 (j := 3) rfl
          try clear f0_3
          have f0_3 := frozen_of_heap h0 3
          try clear c0_4
          have c0_4 := cell_of_heap h0 (j := 4) rfl
          try clear f0_4
          have f0_4 := frozen_of_heap h0 4
          try clear c0_5
          have c0_5 := cell_of_heap h0 (j := 5) rfl
          try clear f0_5
          have f0_5 := frozen_of_heap h0 5
          try clear c1_0
          have c1_0 := cell_of_heap h1 (j := 0) rfl
          try clear f1_0
          have f1_0 := frozen_of_heap h1 0
          try clear c1_1
          have c1_1 := cell_of_heap h1 (j := 1) rfl
          try clear f1_1
          have f1_1 := frozen_of_heap h1 1
          try clear c1_2
          have c1_2 := cell_of_heap h1 (j := 2) rfl
          try clear f1_2
          have f1_2 := frozen_of_heap h1 2
          try clear c1_3
          have c1_3 := cell_of_heap h1 (j := 3) rfl
          try clear f1_3
          have f1_3 := frozen_of_heap h1 3
          try clear c1_4
          have c1_4 := cell_of_heap h1 (j := 4) rfl
          try clear f1_4
          have f1_4 := frozen_of_heap h1 4
          try clear c1_5
          have c1_5 := cell_of_heap h1 (j := 5) rfl
          try clear f1_5
          have f1_5 := frozen_of_heap h1 5
          try clear c2_0
          have c2_0 := cell_of_heap h2 (j := 0) rfl
          try clear f2_0
          have f2_0 := frozen_of_heap h2 0
          try clear c2_1
          have c2_1 := cell_of_heap h2 (j := 1) rfl
          try clear f2_1
          have f2_1 := frozen_of_heap h2 1
          try clear c2_2
          have c2_2 := cell_of_heap h2 (j := 2) rfl
          try clear f2_2
          have f2_2 := frozen_of_heap h2 2
          try clear c2_3
          have c2_3 := cell_of_heap h2 (j := 3) rfl
          try clear f2_3
          have f2_3 := frozen_of_heap h2 3
          try clear c2_4
          have c2_4 := cell_of_heap h2 (j := 4) rfl
          try clear f2_4
          have f2_4 := frozen_of_heap h2 4
          try clear c2_5
          have c2_5 := cell_of_heap h2 (j := 5) rfl
          try clear f2_5
          have f2_5 := frozen_of_heap h2 5
          try clear c3_0
          have c3_0 := cell_of_heap h3 (j := 0) rfl
          try clear f3_0
          have f3_0 := frozen_of_heap h3 0
          try clear c3_1
          have c3_1 := cell_of_heap h3 (j := 1) rfl
          try clear f3_1
          have f3_1 := frozen_of_heap h3 1
          refine bodyPost_ret (results_bt rfl _ _ (w.heap.size + 1) rfl rfl h1 Tryd.underlying49 rfl (by kernel_rfl)) rfl ⟨rfl, D7.out⟩
        · go_wp2_with fail
          have q1 := (Below.heap_setCell w6 ⟨w.heap.size + 1, 0, none⟩ (.int .i64 (wrap64 m.m.d)) (w.heap.size) (by first | omega | assumption | (apply Ne.symm; assumption) | (simp; done) | (simp; omega))).trans h0
          have q2 := heap_setCell_same w6 (w.heap.size + 1) 0 _ _ (.int .i64 (wrap64 m.m.d)) h1
          have q3 := (Below.heap_setCell w6 ⟨w.heap.size + 1, 0, none⟩ (.int .i64 (wrap64 m.m.d)) (w1.heap.size) (by first | omega | assumption | (apply Ne.symm; assumption) | (simp; done) | (simp; omega))).trans h2
          have q4 := (Below.heap_setCell w6 ⟨w.heap.size + 1, 0, none⟩ (.int .i64 (wrap64 m.m.d)) (w3.heap.size) (by first | omega | assumption | (apply Ne.symm; assumption) | (simp; done) | (simp; omega))).trans h3
          have q5 := (Below.heap_setCell (w6.setCell ⟨w.heap.size + 1, 0, none⟩ (.int .i64 (wrap64 m.m.d))) ⟨w.heap.size + 1, 1, none⟩ (.int .i64 (wrap64 (-m.m.b))) (w.heap.size) (by first | omega | assumption | (apply Ne.symm; assumption) | (simp; done) | (simp; omega))).trans q1
          have q6 := heap_setCell_same (w6.setCell ⟨w.heap.size + 1, 0, none⟩ (.int .i64 (wrap64 m.m.d))) (w.heap.size + 1) 1 _ _ (.int .i64 (wrap64 (-m.m.b))) q2
          have q7 := (Below.heap_setCell (w6.setCell ⟨w.heap.size + 1, 0, none⟩ (.int .i64 (wrap64 m.m.d))) ⟨w.heap.size + 1, 1, none⟩ (.int .i64 (wrap64 (-m.m.b))) (w1.heap.size) (by first | omega | assumption | (apply Ne.symm; assumption) | (simp; done) | (simp; omega))).trans q3
          have q8 := (Below.heap_setCell (w6.setCell ⟨w.heap.size + 1, 0, none⟩ (.int .i64 (wrap64 m.m.d))) ⟨w.heap.size + 1, 1, none⟩ (.int .i64 (wrap64 (-m.m.b))) (w3.heap.size) (by first | omega | assumption | (apply Ne.symm; assumption) | (simp; done) | (simp; omega))).trans q4
          have q9 := (Below.heap_setCell ((w6.setCell ⟨w.heap.size + 1, 0, none⟩ (.int .i64 (wrap64 m.m.d))).setCell ⟨w.heap.size + 1, 1, none⟩ (.int .i64 (wrap64 (-m.m.b)))) ⟨w.heap.size + 1, 2, none⟩ (.int .i64 (wrap64 (-m.m.c))) (w.heap.size) (by first | omega | assumption | (apply Ne.symm; assumption) | (simp; done) | (simp; omega))).trans q5
          have q10 := heap_setCell_same ((w6.setCell ⟨w.heap.size + 1, 0, none⟩ (.int .i64 (wrap64 m.m.d))).setCell ⟨w.heap.size + 1, 1, none⟩ (.int .i64 (wrap64 (-m.m.b)))) (w.heap.size + 1) 2 _ _ (.int .i64 (wrap64 (-m.m.c))) q6
          have q11 := (Below.heap_setCell ((w6.setCell ⟨w.heap.size + 1, 0, none⟩ (.int .i64 (wrap64 m.m.d))).setCell ⟨w.heap.size + 1, 1, none⟩ (.int .i64 (wrap64 (-m.m.b)))) ⟨w.heap.size + 1, 2, none⟩ (.int .i64 (wrap64 (-m.m.c))) (w1.heap.size) (by first | omega | assumption | (apply Ne.symm; assumption) | (simp; done) | (simp; omega))).trans q7
          have q12 := (Below.heap_setCell ((w6.setCell ⟨w.heap.size + 1, 0, none⟩ (.int .i64 (wrap64 m.m.d))).setCell ⟨w.heap.size + 1, 1, none⟩ (.int .i64 (wrap64 (-m.m.b)))) ⟨w.heap.size + 1, 2, none⟩ (.int .i64 (wrap64 (-m.m.c))) (w3.heap.size) (by first | omega | assumption | (apply Ne.symm; assumption) | (simp; done) | (simp; omega))).trans q8
          have q13 := (Below.heap_setCell (((w6.setCell ⟨w.heap.size + 1, 0, none⟩ (.int .i64 (wrap64 m.m.d))).setCell ⟨w.heap.size + 1, 1, none⟩ (.int .i64 (wrap64 (-m.m.b)))).setCell ⟨w.heap.size + 1, 2, none⟩ (.int .i64 (wrap64 (-m.m.c)))) ⟨w.heap.size + 1, 3, none⟩ (.int .i64 (wrap64 m.m.a)) (w.heap.size) (by first | omega | assumption | (apply Ne.symm; assumption) | (simp; done) | (simp; omega))).trans q9
          have q14 := heap_setCell_same (((w6.setCell ⟨w.heap.size + 1, 0, none⟩ (.int .i64 (wrap64 m.m.d))).setCell ⟨w.heap.size + 1, 1, none⟩ (.int .i64 (wrap64 (-m.m.b)))).setCell ⟨w.heap.size + 1, 2, none⟩ (.int .i64 (wrap64 (-m.m.c)))) (w.heap.size + 1) 3 _ _ (.int .i64 (wrap64 m.m.a)) q10
          have q15 := (Below.heap_setCell (((w6.setCell ⟨w.heap.size + 1, 0, none⟩ (.int .i64 (wrap64 m.m.d))).setCell ⟨w.heap.size + 1, 1, none⟩ (.int .i64 (wrap64 (-m.m.b)))).setCell ⟨w.heap.size + 1, 2, none⟩ (.int .i64 (wrap64 (-m.m.c)))) ⟨w.heap.size + 1, 3, none⟩ (.int .i64 (wrap64 m.m.a)) (w1.heap.size) (by first | omega | assumption | (apply Ne.symm; assumption) | (simp; done) | (simp; omega))).trans q11
          have q16 := (Below.heap_setCell (((w6.setCell ⟨w.heap.size + 1, 0, none⟩ (.int .i64 (wrap64 m.m.d))).setCell ⟨w.heap.size + 1, 1, none⟩ (.int .i64 (wrap64 (-m.m.b)))).setCell ⟨w.heap.size + 1, 2, none⟩ (.int .i64 (wrap64 (-m.m.c)))) ⟨w.heap.size + 1, 3, none⟩ (.int .i64 (wrap64 m.m.a)) (w3.heap.size) (by first | omega | assumption | (apply Ne.symm; assumption) | (simp; done) | (simp; omega))).trans q12
          have q17 := (Below.heap_setCell ((((w6.setCell ⟨w.heap.size + 1, 0, none⟩ (.int .i64 (wrap64 m.m.d))).setCell ⟨w.heap.size + 1, 1, none⟩ (.int .i64 (wrap64 (-m.m.b)))).setCell ⟨w.heap.size + 1, 2, none⟩ (.int .i64 (wrap64 (-m.m.c)))).setCell ⟨w.heap.size + 1, 3, none⟩ (.int .i64 (wrap64 m.m.a))) ⟨w.heap.size + 1, 4, none⟩ (.int .i64 (wrap64 (-y.x))) (w.heap.size) (by first | omega | assumption | (apply Ne.symm; assumption) | (simp; done) | (simp; omega))).trans q13
          have q18 := heap_setCell_same ((((w6.setCell ⟨w.heap.size + 1, 0, none⟩ (.int .i64 (wrap64 m.m.d))).setCell ⟨w.heap.size + 1, 1, none⟩ (.int .i64 (wrap64 (-m.m.b)))).setCell ⟨w.heap.size + 1, 2, none⟩ (.int .i64 (wrap64 (-m.m.c)))).setCell ⟨w.heap.size + 1, 3, none⟩ (.int .i64 (wrap64 m.m.a))) (w.heap.size + 1) 4 _ _ (.int .i64 (wrap64 (-y.x))) q14
          have q19 := (Below.heap_setCell ((((w6.setCell ⟨w.heap.size + 1, 0, none⟩ (.int .i64 (wrap64 m.m.d))).setCell ⟨w.heap.size + 1, 1, none⟩ (.int .i64 (wrap64 (-m.m.b)))).setCell ⟨w.heap.size + 1, 2, none⟩ (.int .i64 (wrap64 (-m.m.c)))).setCell ⟨w.heap.size + 1, 3, none⟩ (.int .i64 (wrap64 m.m.a))) ⟨w.heap.size + 1, 4, none⟩ (.int .i64 (wrap64 (-y.x))) (w1.heap.size) (by first | omega | assumption | (apply Ne.symm; assumption) | (simp; done) | (simp; omega))).trans q15
          have q20 := (Below.heap_setCell ((((w6.setCell ⟨w.heap.size + 1, 0, none⟩ (.int .i64 (wrap64 m.m.d))).setCell ⟨w.heap.size + 1, 1, none⟩ (.int .i64 (wrap64 (-m.m.b)))).setCell ⟨w.heap.size + 1, 2, none⟩ (.int .i64 (wrap64 (-m.m.c)))).setCell ⟨w.heap.size + 1, 3, none⟩ (.int .i64 (wrap64 m.m.a))) ⟨w.heap.size + 1, 4, none⟩ (.int .i64 (wrap64 (-y.x))) (w3.heap.size) (by first | omega | assumption | (apply Ne.symm; assumption) | (simp; done) | (simp; omega))).trans q16
          have q21 := (Below.heap_setCell (((((w6.setCell ⟨w.heap.size + 1, 0, none⟩ (.int .i64 (wrap64 m.m.d))).setCell ⟨w.heap.size + 1, 1, none⟩ (.int .i64 (wrap64 (-m.m.b)))).setCell ⟨w.heap.size + 1, 2, none⟩ (.int .i64 (wrap64 (-m.m.c)))).setCell ⟨w.heap.size + 1, 3, none⟩ (.int .i64 (wrap64 m.m.a))).setCell ⟨w.heap.size + 1, 4, none⟩ (.int .i64 (wrap64 (-y.x)))) ⟨w.heap.size + 1, 5, none⟩ (.int .i64 (wrap64 (-y.y))) (w.heap.size) (by first | omega | assumption | (apply Ne.symm; assumption) | (simp; done) | (simp; omega))).trans q17
          have q22 := heap_setCell_same (((((w6.setCell ⟨w.heap.size + 1, 0, none⟩ (.int .i64 (wrap64 m.m.d))).setCell ⟨w.heap.size + 1, 1, none⟩ (.int .i64 (wrap64 (-m.m.b)))).setCell ⟨w.heap.size + 1, 2, none⟩ (.int .i64 (wrap64 (-m.m.c)))).setCell ⟨w.heap.size + 1, 3, none⟩ (.int .i64 (wrap64 m.m.a))).setCell ⟨w.heap.size + 1, 4, none⟩ (.int .i64 (wrap64 (-y.x)))) (w.heap.size + 1) 5 _ _ (.int .i64 (wrap64 (-y.y))) q18
          have q23 := (Below.heap_setCell (((((w6.setCell ⟨w.heap.size + 1, 0, none⟩ (.int .i64 (wrap64 m.m.d))).setCell ⟨w.heap.size + 1, 1, none⟩ (.int .i64 (wrap64 (-m.m.b)))).setCell ⟨w.heap.size + 1, 2, none⟩ (.int .i64 (wrap64 (-m.m.c)))).setCell ⟨w.heap.size + 1, 3, none⟩ (.int .i64 (wrap64 m.m.a))).setCell ⟨w.heap.size + 1, 4, none⟩ (.int .i64 (wrap64 (-y.x)))) ⟨w.heap.size + 1, 5, none⟩ (.int .i64 (wrap64 (-y.y))) (w1.heap.size) (by first | omega | assumption | (apply Ne.symm; assumption) | (simp; done) | (simp; omega))).trans q19
          have q24 := (Below.heap_setCell (((((w6.setCell ⟨w.heap.size + 1, 0, none⟩ (.int .i64 (wrap64 m.m.d))).setCell ⟨w.heap.size + 1, 1, none⟩ (.int .i64 (wrap64 (-m.m.b)))).setCell ⟨w.heap.size + 1, 2, none⟩ (.int .i64 (wrap64 (-m.m.c)))).setCell ⟨w.heap.size + 1, 3, none⟩ (.int .i64 (wrap64 m.m.a))).setCell ⟨w.heap.size + 1, 4, none⟩ (.int .i64 (wrap64 (-y.x)))) ⟨w.heap.size + 1, 5, none⟩ (.int .i64 (wrap64 (-y.y))) (w3.heap.size) (by first | omega | assumption | (apply Ne.symm; assumption) | (simp; done) | (simp; omega))).trans q20
          obtain ⟨w7, hw7⟩ : ∃ W, W = ((((((w6.setCell ⟨w.heap.size + 1, 0, none⟩ (.int .i64 (wrap64 m.m.d))).setCell ⟨w.heap.size + 1, 1, none⟩ (.int .i64 (wrap64 (-m.m.b)))).setCell ⟨w.heap.size + 1, 2, none⟩ (.int .i64 (wrap64 (-m.m.c)))).setCell ⟨w.heap.size + 1, 3, none⟩ (.int .i64 (wrap64 m.m.a))).setCell ⟨w.heap.size + 1, 4, none⟩ (.int .i64 (wrap64 (-y.x)))).setCell ⟨w.heap.size + 1, 5, none⟩ (.int .i64 (wrap64 (-y.y)))) := ⟨_, rfl⟩
          rw [← hw7]
          replace h0 : w7.heap[w.heap.size]? = some (.cells #[.int .i64 m.m.a, .int .i64 m.m.b, .int .i64 m.m.c, .int .i64 m.m.d, .int .i64 m.t.x, .int .i64 m.t.y] 49 (0, 0)) := by rw [hw7]; exact q21
          replace h1 : w7.heap[w.heap.size + 1]? = some (.cells #[.int .i64 (wrap64 m.m.d), .int .i64 (wrap64 (-m.m.b)), .int .i64 (wrap64 (-m.m.c)), .int .i64 (wrap64 m.m.a), .int .i64 (wrap64 (-y.x)), .int .i64 (wrap64 (-y.y))] 49 (0, 0)) := by rw [hw7]; exact q22
          replace h2 : w7.heap[w1.heap.size]? = some (.cells #[.int .i64 (wrap64 m.m.d), .int .i64 (wrap64 (-m.m.b)), .int .i64 (wrap64 (-m.m.c)), .int .i64 (wrap64 m.m.a), .int .i64 (wrap64 (-y.x)), .int .i64 (wrap64 (-y.y))] 49 (0, 0)) := by rw [hw7]; exact q23
          replace h3 : w7.heap[w3.heap.size]? = some (.cells #[.int .i64 y.x, .int .i64 y.y] 25 (0, 0)) := by rw [hw7]; exact q24
          have D7 := Lib.hid (show Below w.heap.size w w7 by rw [hw7]; exact (Below.setCell (Below.setCell (Below.setCell (Below.setCell (Below.setCell (Below.setCell D6.out (p := ⟨w.heap.size + 1, 0, none⟩) (by first | omega | (simp; done) | (simp; omega)) (.int .i64 (wrap64 m.m.d))) (p := ⟨w.heap.size + 1, 1, none⟩) (by first | omega | (simp; done) | (simp; omega)) (.int .i64 (wrap64 (-m.m.b)))) (p := ⟨w.heap.size + 1, 2, none⟩) (by first | omega | (simp; done) | (simp; omega)) (.int .i64 (wrap64 (-m.m.c)))) (p := ⟨w.heap.size + 1, 3, none⟩) (by first | omega | (simp; done) | (simp; omega)) (.int .i64 (wrap64 m.m.a))) (p := ⟨w.heap.size + 1, 4, none⟩) (by first | omega | (simp; done) | (simp; omega)) (.int .i64 (wrap64 (-y.x)))) (p := ⟨w.heap.size + 1, 5, none⟩) (by first | omega | (simp; done) | (simp; omega)) (.int .i64 (wrap64 (-y.y)))))
          have z7 := D7.out.size
          have y7 : w7.heap.size = w6.heap.size := by rw [hw7]; simp
          clear q24 q23 q22 q21 q20 q19 q18 q17 q16 q15 q14 q13 q12 q11 q10 q9 q8 q7 q6 q5 q4 q3 q2 q1 hw7
          try clear c0_0
          have c0_0 := cell_of_heap h0 (j := 0) rfl
          try clear f0_0
          have f0_0 := frozen_of_heap h0 0
          try clear c0_1
          have c0_1 := cell_of_heap h0 (j := 1) rfl
          try clear f0_1
          have f0_1 := frozen_of_heap h0 1
          try clear c0_2
          have c0_2 := cell_of_heap h0 (j := 2) rfl
          try clear f0_2
          have f0_2 := frozen_of_heap h0 2
          try clear c0_3
          have c0_3 := cell_of_heap h0 (j := 3) rfl
          try clear f0_3
          have f0_3 := frozen_of_heap h0 3
          try clear c0_4
          have c0_4 := cell_of_heap h0 (j := 4) rfl
          try clear f0_4
          have f0_4 := frozen_of_heap h0 4
          try clear c0_5
          have c0_5 := cell_of_heap h0 (j := 5) rfl
          try clear f0_5
          have f0_5 := frozen_of_heap h0 5
          try clear c1_0
          have c1_0 := cell_of_heap h1 (j := 0) rfl
          try clear f1_0
          have f1_0 := frozen_of_heap h1 0
          try clear c1_1
          have c1_1 := cell_of_heap h1 (j := 1) rfl
          try clear f1_1
          have f1_1 := frozen_of_heap h1 1
          try clear c1_2
          have c1_2 := cell_of_heap h1 (j := 2) rfl
          try clear f1_2
          have f1_2 := frozen_of_heap h1 2
          try clear c1_3
          have c1_3 := cell_of_heap h1 (j := 3) rfl
          try clear f1_3
          have f1_3 := frozen_of_heap h1 3
          try clear c1_4
          have c1_4 := cell_of_heap h1 (j := 4) rfl
          try clear f1_4
          have f1_4 := frozen_of_heap h1 4
          try clear c1_5
          have c1_5 := cell_of_heap h1 (j := 5) rfl
          try clear f1_5
          have f1_5 := frozen_of_heap h1 5
          try clear c2_0
          have c2_0 := cell_of_heap h2 (j := 0) rfl
          try clear f2_0
          have f2_0 := frozen_of_heap h2 0
          try clear c2_1
          have c2_1 := cell_of_heap h2 (j := 1) rfl
          try clear f2_1
          have f2_1 := frozen_of_heap h2 1
          try clear c2_2
          have c2_2 := cell_of_heap h2 (j := 2) rfl
          try clear f2_2
          have f2_2 := frozen_of_heap h2 2
          try clear c2_3
          have c2_3 := cell_of_heap h2 (j := 3) rfl
          try clear f2_3
          have f2_3 := frozen_of_heap h2 3
          try clear c2_4
          have c2_4 := cell_of_heap h2 (j := 4) rfl
          try clear f2_4
          have f2_4 := frozen_of_heap h2 4
          try clear c2_5
          have c2_5 := cell_of_heap h2 (j := 5) rfl
          try clear f2_5
          have f2_5 := frozen_of_heap h2 5
          try clear c3_0
          have c3_0 := cell_of_heap h3 (j := 0) rfl
          try clear f3_0
          have f3_0 := frozen_of_heap h3 0
          try clear c3_1
          have c3_1 := cell_of_heap h3 (j := 1) rfl
          try clear f3_1
          have f3_1 := frozen_of_heap h3 1
          refine bodyPost_ret (results_bt rfl _ _ (w.heap.size + 1) rfl rfl h1 Tryd.underlying49 rfl (by kernel_rfl)) rfl ⟨rfl, D7.out⟩
      · have e1 : wrap64 (wrap64 (m.m.a * m.m.d) - wrap64 (m.m.b * m.m.c)) = -1 := e0.trans U
        have hv : m.m.inv = ⟨wrap64 (-m.m.d), wrap64 m.m.b, wrap64 m.m.c, wrap64 (-m.m.a)⟩ := by
          unfold Mat.inv
          rw [U]
          simp only [Mat.mk.injEq]
          exact ⟨by rw [wrap64_id (by omega)]; omega, by rw [wrap64_id (by omega)]; omega, by rw [wrap64_id (by omega)]; omega, by rw [wrap64_id (by omega)]; omega⟩
        rw [hv] at C2 C3 ⊢
        generalize okV ⟨⟨wrap64 (-m.m.d), wrap64 m.m.b, wrap64 m.m.c, wrap64 (-m.m.a)⟩, ⟨wrap64 (-y.x), wrap64 (-y.y)⟩⟩ = k1 at *
        unfold m0 Mov.val Pt.val Mat.val at *
        simp only at C2 C3 ⊢
        have H1 := Lib.hid C1
        have H2 := Lib.hid C2
        have H3 := Lib.hid C3
        clear C1 C2 C3 hv hb0 b1 b2 b3 b4 hk1 hu hM e0 U a1 a2 a3 a4 a5 a6 a7 a8 g1 g2 g3 g4
        go_enter Tryd.func34, Tryd.ntmps34
        go_wp2_with fail
        refine (H1.out _).mono ?_
        rintro e w1 ⟨rfl, hb⟩
        have h0 : w1.heap[w.heap.size]? = some (.cells #[.int .i64 m.m.a, .int .i64 m.m.b, .int .i64 m.m.c, .int .i64 m.m.d, .int .i64 m.t.x, .int .i64 m.t.y] 49 (0, 0)) := hb_below hb (by repeat (first | (refine hb_new ?_; (first | omega | (simp; omega) | (simp; done))) | (refine hb_old ?_ ?_; rotate_left; focus (first | omega | (simp; omega) | (simp; done))) | refine hb_drew ?_)) (by first | omega | (simp; omega) | (simp; done))
        have h1 : w1.heap[w.heap.size + 1]? = some (.cells #[.int .i64 0, .int .i64 0, .int .i64 0, .int .i64 0, .int .i64 0, .int .i64 0] 49 (0, 0)) := hb_below hb (by repeat (first | (refine hb_new ?_; (first | omega | (simp; omega) | (simp; done))) | (refine hb_old ?_ ?_; rotate_left; focus (first | omega | (simp; omega) | (simp; done))) | refine hb_drew ?_)) (by first | omega | (simp; omega) | (simp; done))
        have y1 := Below.size hb
        try simp only [World.size_alloc, World.size_drew] at y1
        have D1 := Lib.hid (show Below w.heap.size w w1 from Below.trans (by repeat (first | exact Below.refl _ _ | refine Below.alloc ?_ (by first | omega | (simp; omega) | (simp; done)) _)) (Below.mono hb (by first | omega | (simp; omega) | (simp; done))))
        have z1 := D1.out.size
        clear hb
        try clear c0_0
        have c0_0 := cell_of_heap h0 (j := 0) rfl
        try clear f0_0
        have f0_0 := frozen_of_heap h0 0
        try clear c0_1
        have c0_1 := cell_of_heap h0 (j := 1) rfl
        try clear f0_1
        have f0_1 := frozen_of_heap h0 1
        try clear c0_2
        have c0_2 := cell_of_heap h0 (j := 2) rfl
        try clear f0_2
        have f0_2 := frozen_of_heap h0 2
        try clear c0_3
        have c0_3 := cell_of_heap h0 (j := 3) rfl
        try clear f0_3
        have f0_3 := frozen_of_heap h0 3
        try clear c0_4
        have c0_4 := cell_of_heap h0 (j := 4) rfl
        try clear f0_4
        have f0_4 := frozen_of_heap h0 4
        try clear c0_5
        have c0_5 := cell_of_heap h0 (j := 5) rfl
        try clear f0_5
        have f0_5 := frozen_of_heap h0 5
        try clear c1_0
        have c1_0 := cell_of_heap h1 (j := 0) rfl
        try clear f1_0
        have f1_0 := frozen_of_heap h1 0
        try clear c1_1
        have c1_1 := cell_of_heap h1 (j := 1) rfl
        try clear f1_1
        have f1_1 := frozen_of_heap h1 1
        try clear c1_2
        have c1_2 := cell_of_heap h1 (j := 2) rfl
        try clear f1_2
        have f1_2 := frozen_of_heap h1 2
        try clear c1_3
        have c1_3 := cell_of_heap h1 (j := 3) rfl
        try clear f1_3
        have f1_3 := frozen_of_heap h1 3
        try clear c1_4
        have c1_4 := cell_of_heap h1 (j := 4) rfl
        try clear f1_4
        have f1_4 := frozen_of_heap h1 4
        try clear c1_5
        have c1_5 := cell_of_heap h1 (j := 5) rfl
        try clear f1_5
        have f1_5 := frozen_of_heap h1 5
        have ha0 : (w1.alloc (.cells #[.int .i64 (wrap64 (-m.m.d)), .int .i64 (wrap64 m.m.b), .int .i64 (wrap64 m.m.c), .int .i64 (wrap64 (-m.m.a)), .int .i64 0, .int .i64 0] 49)).heap[w.heap.size]? = some (.cells #[.int .i64 m.m.a, .int .i64 m.m.b, .int .i64 m.m.c, .int .i64 m.m.d, .int .i64 m.t.x, .int .i64 m.t.y] 49 (0, 0)) := (by repeat (first | exact h0 | (refine hb_new ?_; (first | omega | (simp; omega) | (simp; done))) | (refine hb_old ?_ ?_; rotate_left; focus (first | omega | (simp; omega) | (simp; done))) | refine hb_drew ?_))
        have ca0_0 := cell_of_heap ha0 (j := 0) rfl
        have fa0_0 := frozen_of_heap ha0 0
        have ca0_1 := cell_of_heap ha0 (j := 1) rfl
        have fa0_1 := frozen_of_heap ha0 1
        have ca0_2 := cell_of_heap ha0 (j := 2) rfl
        have fa0_2 := frozen_of_heap ha0 2
        have ca0_3 := cell_of_heap ha0 (j := 3) rfl
        have fa0_3 := frozen_of_heap ha0 3
        have ca0_4 := cell_of_heap ha0 (j := 4) rfl
        have fa0_4 := frozen_of_heap ha0 4
        have ca0_5 := cell_of_heap ha0 (j := 5) rfl
        have fa0_5 := frozen_of_heap ha0 5
        go_wp2_with fail
        obtain ⟨w2, hw2⟩ : ∃ W, W = (w1.alloc (.cells #[.int .i64 (wrap64 (-m.m.d)), .int .i64 (wrap64 m.m.b), .int .i64 (wrap64 m.m.c), .int .i64 (wrap64 (-m.m.a)), .int .i64 0, .int .i64 0] 49)) := ⟨_, rfl⟩
        rw [← hw2]
        replace h0 : w2.heap[w.heap.size]? = some (.cells #[.int .i64 m.m.a, .int .i64 m.m.b, .int .i64 m.m.c, .int .i64 m.m.d, .int .i64 m.t.x, .int .i64 m.t.y] 49 (0, 0)) := by rw [hw2]; exact (by repeat (first | exact h0 | (refine hb_new ?_; (first | omega | (simp; omega) | (simp; done))) | (refine hb_old ?_ ?_; rotate_left; focus (first | omega | (simp; omega) | (simp; done))) | refine hb_drew ?_))
        replace h1 : w2.heap[w.heap.size + 1]? = some (.cells #[.int .i64 0, .int .i64 0, .int .i64 0, .int .i64 0, .int .i64 0, .int .i64 0] 49 (0, 0)) := by rw [hw2]; exact (by repeat (first | exact h1 | (refine hb_new ?_; (first | omega | (simp; omega) | (simp; done))) | (refine hb_old ?_ ?_; rotate_left; focus (first | omega | (simp; omega) | (simp; done))) | refine hb_drew ?_))
        have h2 : w2.heap[w1.heap.size]? = some (.cells #[.int .i64 (wrap64 (-m.m.d)), .int .i64 (wrap64 m.m.b), .int .i64 (wrap64 m.m.c), .int .i64 (wrap64 (-m.m.a)), .int .i64 0, .int .i64 0] 49 (0, 0)) := by rw [hw2]; exact (by repeat (first | (refine hb_new ?_; (first | omega | (simp; omega) | (simp; done))) | (refine hb_old ?_ ?_; rotate_left; focus (first | omega | (simp; omega) | (simp; done))) | refine hb_drew ?_))
        have hb : Below w1.heap.size w1 w2 := by rw [hw2]; exact (by repeat (first | exact Below.refl _ _ | refine Below.alloc ?_ (by first | omega | (simp; omega) | (simp; done)) _ | refine Below.drew ?_))
        have s2 : w1.heap.size + 1 ≤ w2.heap.size := by rw [hw2]; simp
        have y2 := Below.size hb
        try simp only [World.size_alloc, World.size_drew] at y2
        have D2 := Lib.hid (show Below w.heap.size w w2 from Below.trans (by repeat (first | exact D1.out | exact Below.refl _ _ | refine Below.alloc ?_ (by first | omega | (simp; omega) | (simp; done)) _)) (Below.mono hb (by first | omega | (simp; omega) | (simp; done))))
        have z2 := D2.out.size
        clear hb hw2
        try clear c0_0
        have c0_0 := cell_of_heap h0 (j := 0) rfl
        try clear f0_0
        have f0_0 := frozen_of_heap h0 0
        try clear c0_1
        have c0_1 := cell_of_heap h0 (j := 1) rfl
        try clear f0_1
        have f0_1 := frozen_of_heap h0 1
        try clear c0_2
        have c0_2 := cell_of_heap h0 (j := 2) rfl
        try clear f0_2
        have f0_2 := frozen_of_heap h0 2
        try clear c0_3
        have c0_3 := cell_of_heap h0 (j := 3) rfl
        try clear f0_3
        have f0_3 := frozen_of_heap h0 3
        try clear c0_4
        have c0_4 := cell_of_heap h0 (j := 4) rfl
        try clear f0_4
        have f0_4 := frozen_of_heap h0 4
        try clear c0_5
        have c0_5 := cell_of_heap h0 (j := 5) rfl
        try clear f0_5
        have f0_5 := frozen_of_heap h0 5
        try clear c1_0
        have c1_0 := cell_of_heap h1 (j := 0) rfl
        try clear f1_0
        have f1_0 := frozen_of_heap h1 0
        try clear c1_1
        have c1_1 := cell_of_heap h1 (j := 1) rfl
        try clear f1_1
        have f1_1 := frozen_of_heap h1 1
        try clear c1_2
        have c1_2 := cell_of_heap h1 (j := 2) rfl
        try clear f1_2
        have f1_2 := frozen_of_heap h1 2
        try clear c1_3
        have c1_3 := cell_of_heap h1 (j := 3) rfl
        try clear f1_3
        have f1_3 := frozen_of_heap h1 3
        try clear c1_4
        have c1_4 := cell_of_heap h1 (j := 4) rfl
        try clear f1_4
        have f1_4 := frozen_of_heap h1 4
        try clear c1_5
        have c1_5 := cell_of_heap h1 (j := 5) rfl
        try clear f1_5
        have f1_5 := frozen_of_heap h1 5
        try clear c2_0
        have c2_0 := cell_of_heap h2 (j := 0) rfl
        try clear f2_0
        have f2_0 := frozen_of_heap h2 0
        try clear c2_1
        have c2_1 := cell_of_heap h2 (j := 1) rfl
        try clear f2_1
        have f2_1 := frozen_of_heap h2 1
        try clear c2_2
        have c2_2 := cell_of_heap h2 (j := 2) rfl
        try clear f2_2
        have f2_2 := frozen_of_heap h2 2
        try clear c2_3
        have c2_3 := cell_of_heap h2 (j := 3) rfl
        try clear f2_3
        have f2_3 := frozen_of_heap h2 3
        try clear c2_4
        have c2_4 := cell_of_heap h2 (j := 4) rfl
        try clear f2_4
        have f2_4 := frozen_of_heap h2 4
        try clear c2_5
        have c2_5 := cell_of_heap h2 (j := 5) rfl
        try clear f2_5
        have f2_5 := frozen_of_heap h2 5
        clear ha0 ca0_0 fa0_0 ca0_1 fa0_1 ca0_2 fa0_2 ca0_3 fa0_3 ca0_4 fa0_4 ca0_5 fa0_5
        refine (H2.out _).mono ?_
        rintro e w3 ⟨rfl, hb⟩
        replace h0 : w3.heap[w.heap.size]? = some (.cells #[.int .i64 m.m.a, .int .i64 m.m.b, .int .i64 m.m.c, .int .i64 m.m.d, .int .i64 m.t.x, .int .i64 m.t.y] 49 (0, 0)) := hb_below hb (by repeat (first | exact h0 | (refine hb_new ?_; (first | omega | (simp; omega) | (simp; done))) | (refine hb_old ?_ ?_; rotate_left; focus (first | omega | (simp; omega) | (simp; done))) | refine hb_drew ?_)) (by first | omega | (simp; omega) | (simp; done))
        replace h1 : w3.heap[w.heap.size + 1]? = some (.cells #[.int .i64 0, .int .i64 0, .int .i64 0, .int .i64 0, .int .i64 0, .int .i64 0] 49 (0, 0)) := hb_below hb (by repeat (first | exact h1 | (refine hb_new ?_; (first | omega | (simp; omega) | (simp; done))) | (refine hb_old ?_ ?_; rotate_left; focus (first | omega | (simp; omega) | (simp; done))) | refine hb_drew ?_)) (by first | omega | (simp; omega) | (simp; done))
        replace h2 : w3.heap[w1.heap.size]? = some (.cells #[.int .i64 (wrap64 (-m.m.d)), .int .i64 (wrap64 m.m.b), .int .i64 (wrap64 m.m.c), .int .i64 (wrap64 (-m.m.a)), .int .i64 0, .int .i64 0] 49 (0, 0)) := hb_below hb (by repeat (first | exact h2 | (refine hb_new ?_; (first | omega | (simp; omega) | (simp; done))) | (refine hb_old ?_ ?_; rotate_left; focus (first | omega | (simp; omega) | (simp; done))) | refine hb_drew ?_)) (by first | omega | (simp; omega) | (simp; done))
        have y3 := Below.size hb
        try simp only [World.size_alloc, World.size_drew] at y3
        have D3 := Lib.hid (show Below w.heap.size w w3 from Below.trans (by repeat (first | exact D2.out | exact Below.refl _ _ | refine Below.alloc ?_ (by first | omega | (simp; omega) | (simp; done)) _)) (Below.mono hb (by first | omega | (simp; omega) | (simp; done))))
        have z3 := D3.out.size
        clear hb
        try clear c0_0
        have c0_0 := cell_of_heap h0 (j := 0) rfl
        try clear f0_0
        have f0_0 := frozen_of_heap h0 0
        try clear c0_1
        have c0_1 := cell_of_heap h0 (j := 1) rfl
        try clear f0_1
        have f0_1 := frozen_of_heap h0 1
        try clear c0_2
        have c0_2 := cell_of_heap h0 (j := 2) rfl
        try clear f0_2
        have f0_2 := frozen_of_heap h0 2
        try clear c0_3
        have c0_3 := cell_of_heap h0 (j := 3) rfl
        try clear f0_3
        have f0_3 := frozen_of_heap h0 3
        try clear c0_4
        have c0_4 := cell_of_heap h0 (j := 4) rfl
        try clear f0_4
        have f0_4 := frozen_of_heap h0 4
        try clear c0_5
        have c0_5 := cell_of_heap h0 (j := 5) rfl
        try clear f0_5
        have f0_5 := frozen_of_heap h0 5
        try clear c1_0
        have c1_0 := cell_of_heap h1 (j := 0) rfl
        try clear f1_0
        have f1_0 := frozen_of_heap h1 0
        try clear c1_1
        have c1_1 := cell_of_heap h1 (j := 1) rfl
        try clear f1_1
        have f1_1 := frozen_of_heap h1 1
        try clear c1_2
        have c1_2 := cell_of_heap h1 (j := 2) rfl
        try clear f1_2
        have f1_2 := frozen_of_heap h1 2
        try clear c1_3
        have c1_3 := cell_of_heap h1 (j := 3) rfl
        try clear f1_3
        have f1_3 := frozen_of_heap h1 3
        try clear c1_4
        have c1_4 := cell_of_heap h1 (j := 4) rfl
        try clear f1_4
        have f1_4 := frozen_of_heap h1 4
        try clear c1_5
        have c1_5 := cell_of_heap h1 (j := 5) rfl
        try clear f1_5
        have f1_5 := frozen_of_heap h1 5
        try clear c2_0
        have c2_0 := cell_of_heap h2 (j := 0) rfl
        try clear f2_0
        have f2_0 := frozen_of_heap h2 0
        try clear c2_1
        have c2_1 := cell_of_heap h2 (j := 1) rfl
        try clear f2_1
        have f2_1 := frozen_of_heap h2 1
        try clear c2_2
        have c2_2 := cell_of_heap h2 (j := 2) rfl
        try clear f2_2
        have f2_2 := frozen_of_heap h2 2
        try clear c2_3
        have c2_3 := cell_of_heap h2 (j := 3) rfl
        try clear f2_3
        have f2_3 := frozen_of_heap h2 3
        try clear c2_4
        have c2_4 := cell_of_heap h2 (j := 4) rfl
        try clear f2_4
        have f2_4 := frozen_of_heap h2 4
        try clear c2_5
        have c2_5 := cell_of_heap h2 (j := 5) rfl
        try clear f2_5
        have f2_5 := frozen_of_heap h2 5
        have ha2 : (w3.alloc (.cells #[.int .i64 y.x, .int .i64 y.y] 25)).heap[w1.heap.size]? = some (.cells #[.int .i64 (wrap64 (-m.m.d)), .int .i64 (wrap64 m.m.b), .int .i64 (wrap64 m.m.c), .int .i64 (wrap64 (-m.m.a)), .int .i64 0, .int .i64 0] 49 (0, 0)) := (by repeat (first | exact h2 | (refine hb_new ?_; (first | omega | (simp; omega) | (simp; done))) | (refine hb_old ?_ ?_; rotate_left; focus (first | omega | (simp; omega) | (simp; done))) | refine hb_drew ?_))
        have ca2_0 := cell_of_heap ha2 (j := 0) rfl
        have fa2_0 := frozen_of_heap ha2 0
        have ca2_1 := cell_of_heap ha2 (j := 1) rfl
        have fa2_1 := frozen_of_heap ha2 1
        have ca2_2 := cell_of_heap ha2 (j := 2) rfl
        have fa2_2 := frozen_of_heap ha2 2
        have ca2_3 := cell_of_heap ha2 (j := 3) rfl
        have fa2_3 := frozen_of_heap ha2 3
        have ca2_4 := cell_of_heap ha2 (j := 4) rfl
        have fa2_4 := frozen_of_heap ha2 4
        have ca2_5 := cell_of_heap ha2 (j := 5) rfl
        have fa2_5 := frozen_of_heap ha2 5
        have ha0 : (w3.alloc (.cells #[.int .i64 y.x, .int .i64 y.y] 25)).heap[w.heap.size]? = some (.cells #[.int .i64 m.m.a, .int .i64 m.m.b, .int .i64 m.m.c, .int .i64 m.m.d, .int .i64 m.t.x, .int .i64 m.t.y] 49 (0, 0)) := (by repeat (first | exact h0 | (refine hb_new ?_; (first | omega | (simp; omega) | (simp; done))) | (refine hb_old ?_ ?_; rotate_left; focus (first | omega | (simp; omega) | (simp; done))) | refine hb_drew ?_))
        have ca0_0 := cell_of_heap ha0 (j := 0) rfl
        have fa0_0 := frozen_of_heap ha0 0
        have ca0_1 := cell_of_heap ha0 (j := 1) rfl
        have fa0_1 := frozen_of_heap ha0 1
        have ca0_2 := cell_of_heap ha0 (j := 2) rfl
        have fa0_2 := frozen_of_heap ha0 2
        have ca0_3 := cell_of_heap ha0 (j := 3) rfl
        have fa0_3 := frozen_of_heap ha0 3
        have ca0_4 := cell_of_heap ha0 (j := 4) rfl
        have fa0_4 := frozen_of_heap ha0 4
        have ca0_5 := cell_of_heap ha0 (j := 5) rfl
        have fa0_5 := frozen_of_heap ha0 5
        go_wp2_with fail
        obtain ⟨w4, hw4⟩ : ∃ W, W = (w3.alloc (.cells #[.int .i64 y.x, .int .i64 y.y] 25)) := ⟨_, rfl⟩
        rw [← hw4]
        replace h0 : w4.heap[w.heap.size]? = some (.cells #[.int .i64 m.m.a, .int .i64 m.m.b, .int .i64 m.m.c, .int .i64 m.m.d, .int .i64 m.t.x, .int .i64 m.t.y] 49 (0, 0)) := by rw [hw4]; exact (by repeat (first | exact h0 | (refine hb_new ?_; (first | omega | (simp; omega) | (simp; done))) | (refine hb_old ?_ ?_; rotate_left; focus (first | omega | (simp; omega) | (simp; done))) | refine hb_drew ?_))
        replace h1 : w4.heap[w.heap.size + 1]? = some (.cells #[.int .i64 0, .int .i64 0, .int .i64 0, .int .i64 0, .int .i64 0, .int .i64 0] 49 (0, 0)) := by rw [hw4]; exact (by repeat (first | exact h1 | (refine hb_new ?_; (first | omega | (simp; omega) | (simp; done))) | (refine hb_old ?_ ?_; rotate_left; focus (first | omega | (simp; omega) | (simp; done))) | refine hb_drew ?_))
        replace h2 : w4.heap[w1.heap.size]? = some (.cells #[.int .i64 (wrap64 (-m.m.d)), .int .i64 (wrap64 m.m.b), .int .i64 (wrap64 m.m.c), .int .i64 (wrap64 (-m.m.a)), .int .i64 0, .int .i64 0] 49 (0, 0)) := by rw [hw4]; exact (by repeat (first | exact h2 | (refine hb_new ?_; (first | omega | (simp; omega) | (simp; done))) | (refine hb_old ?_ ?_; rotate_left; focus (first | omega | (simp; omega) | (simp; done))) | refine hb_drew ?_))
        have h3 : w4.heap[w3.heap.size]? = some (.cells #[.int .i64 y.x, .int .i64 y.y] 25 (0, 0)) := by rw [hw4]; exact (by repeat (first | (refine hb_new ?_; (first | omega | (simp; omega) | (simp; done))) | (refine hb_old ?_ ?_; rotate_left; focus (first | omega | (simp; omega) | (simp; done))) | refine hb_drew ?_))
        have hb : Below w3.heap.size w3 w4 := by rw [hw4]; exact (by repeat (first | exact Below.refl _ _ | refine Below.alloc ?_ (by first | omega | (simp; omega) | (simp; done)) _ | refine Below.drew ?_))
        have s4 : w3.heap.size + 1 ≤ w4.heap.size := by rw [hw4]; simp
        have y4 := Below.size hb
        try simp only [World.size_alloc, World.size_drew] at y4
        have D4 := Lib.hid (show Below w.heap.size w w4 from Below.trans (by repeat (first | exact D3.out | exact Below.refl _ _ | refine Below.alloc ?_ (by first | omega | (simp; omega) | (simp; done)) _)) (Below.mono hb (by first | omega | (simp; omega) | (simp; done))))
        have z4 := D4.out.size
        clear hb hw4
        try clear c0_0
        have c0_0 := cell_of_heap h0 (j := 0) rfl
        try clear f0_0
        have f0_0 := frozen_of_heap h0 0
        try clear c0_1
        have c0_1 := cell_of_heap h0 (j := 1) rfl
        try clear f0_1
        have f0_1 := frozen_of_heap h0 1
        try clear c0_2
        have c0_2 := cell_of_heap h0 (j := 2) rfl
        try clear f0_2
        have f0_2 := frozen_of_heap h0 2
        try clear c0_3
        have c0_3 := cell_of_heap h0 (j := 3) rfl
        try clear f0_3
        have f0_3 := frozen_of_heap h0 3
        try clear c0_4
        have c0_4 := cell_of_heap h0 (j := 4) rfl
        try clear f0_4
        have f0_4 := frozen_of_heap h0 4
        try clear c0_5
        have c0_5 := cell_of_heap h0 (j := 5) rfl
        try clear f0_5
        have f0_5 := frozen_of_heap h0 5
        try clear c1_0
        have c1_0 := cell_of_heap h1 (j := 0) rfl
        try clear f1_0
        have f1_0 := frozen_of_heap h1 0
        try clear c1_1
        have c1_1 := cell_of_heap h1 (j := 1) rfl
        try clear f1_1
        have f1_1 := frozen_of_heap h1 1
        try clear c1_2
        have c1_2 := cell_of_heap h1 (j := 2) rfl
        try clear f1_2
        have f1_2 := frozen_of_heap h1 2
        try clear c1_3
        have c1_3 := cell_of_heap h1 (j := 3) rfl
        try clear f1_3
        have f1_3 := frozen_of_heap h1 3
        try clear c1_4
        have c1_4 := cell_of_heap h1 (j := 4) rfl
        try clear f1_4
        have f1_4 := frozen_of_heap h1 4
        try clear c1_5
        have c1_5 := cell_of_heap h1 (j := 5) rfl
        try clear f1_5
        have f1_5 := frozen_of_heap h1 5
        try clear c2_0
        have c2_0 := cell_of_heap h2 (j := 0) rfl
        try clear f2_0
        have f2_0 := frozen_of_heap h2 0
        try clear c2_1
        have c2_1 := cell_of_heap h2 (j := 1) rfl
        try clear f2_1
        have f2_1 := frozen_of_heap h2 1
        try clear c2_2
        have c2_2 := cell_of_heap h2 (j := 2) rfl
        try clear f2_2
        have f2_2 := frozen_of_heap h2 2
        try clear c2_3
        have c2_3 := cell_of_heap h2 (j := 3) rfl
        try clear f2_3
        have f2_3 := frozen_of_heap h2 3
        try clear c2_4
        have c2_4 := cell_of_heap h2 (j := 4) rfl
        try clear f2_4
        have f2_4 := frozen_of_heap h2 4
        try clear c2_5
        have c2_5 := cell_of_heap h2 (j := 5) rfl
        try clear f2_5
        have f2_5 := frozen_of_heap h2 5
        try clear c3_0
        have c3_0 := cell_of_heap h3 (j := 0) rfl
        try clear f3_0
        have f3_0 := frozen_of_heap h3 0
        try clear c3_1
        have c3_1 := cell_of_heap h3 (j := 1) rfl
        try clear f3_1
        have f3_1 := frozen_of_heap h3 1
        clear ha2 ca2_0 fa2_0 ca2_1 fa2_1 ca2_2 fa2_2 ca2_3 fa2_3 ca2_4 fa2_4 ca2_5 fa2_5
        clear ha0 ca0_0 fa0_0 ca0_1 fa0_1 ca0_2 fa0_2 ca0_3 fa0_3 ca0_4 fa0_4 ca0_5 fa0_5
        have q1 := (Below.heap_setCell w4 ⟨w1.heap.size, 4, none⟩ (.int .i64 (wrap64 (-y.x))) (w.heap.size) (by first | omega | assumption | (apply Ne.symm; assumption) | (simp; done) | (simp; omega))).trans h0
        have q2 := (Below.heap_setCell w4 ⟨w1.heap.size, 4, none⟩ (.int .i64 (wrap64 (-y.x))) (w.heap.size + 1) (by first | omega | assumption | (apply Ne.symm; assumption) | (simp; done) | (simp; omega))).trans h1
        have q3 := heap_setCell_same w4 (w1.heap.size) 4 _ _ (.int .i64 (wrap64 (-y.x))) h2
        have q4 := (Below.heap_setCell w4 ⟨w1.heap.size, 4, none⟩ (.int .i64 (wrap64 (-y.x))) (w3.heap.size) (by first | omega | assumption | (apply Ne.symm; assumption) | (simp; done) | (simp; omega))).trans h3
        have q5 := (Below.heap_setCell (w4.setCell ⟨w1.heap.size, 4, none⟩ (.int .i64 (wrap64 (-y.x)))) ⟨w1.heap.size, 5, none⟩ (.int .i64 (wrap64 (-y.y))) (w.heap.size) (by first | omega | assumption | (apply Ne.symm; assumption) | (simp; done) | (simp; omega))).trans q1
        have q6 := (Below.heap_setCell (w4.setCell ⟨w1.heap.size, 4, none⟩ (.int .i64 (wrap64 (-y.x)))) ⟨w1.heap.size, 5, none⟩ (.int .i64 (wrap64 (-y.y))) (w.heap.size + 1) (by first | omega | assumption | (apply Ne.symm; assumption) | (simp; done) | (simp; omega))).trans q2
        have q7 := heap_setCell_same (w4.setCell ⟨w1.heap.size, 4, none⟩ (.int .i64 (wrap64 (-y.x)))) (w1.heap.size) 5 _ _ (.int .i64 (wrap64 (-y.y))) q3
        have q8 := (Below.heap_setCell (w4.setCell ⟨w1.heap.size, 4, none⟩ (.int .i64 (wrap64 (-y.x)))) ⟨w1.heap.size, 5, none⟩ (.int .i64 (wrap64 (-y.y))) (w3.heap.size) (by first | omega | assumption | (apply Ne.symm; assumption) | (simp; done) | (simp; omega))).trans q4
        obtain ⟨w5, hw5⟩ : ∃ W, W = ((w4.setCell ⟨w1.heap.size, 4, none⟩ (.int .i64 (wrap64 (-y.x)))).setCell ⟨w1.heap.size, 5, none⟩ (.int .i64 (wrap64 (-y.y)))) := ⟨_, rfl⟩
        rw [← hw5]
        replace h0 : w5.heap[w.heap.size]? = some (.cells #[.int .i64 m.m.a, .int .i64 m.m.b, .int .i64 m.m.c, .int .i64 m.m.d, .int .i64 m.t.x, .int .i64 m.t.y] 49 (0, 0)) := by rw [hw5]; exact q5
        replace h1 : w5.heap[w.heap.size + 1]? = some (.cells #[.int .i64 0, .int .i64 0, .int .i64 0, .int .i64 0, .int .i64 0, .int .i64 0] 49 (0, 0)) := by rw [hw5]; exact q6
        replace h2 : w5.heap[w1.heap.size]? = some (.cells #[.int .i64 (wrap64 (-m.m.d)), .int .i64 (wrap64 m.m.b), .int .i64 (wrap64 m.m.c), .int .i64 (wrap64 (-m.m.a)), .int .i64 (wrap64 (-y.x)), .int .i64 (wrap64 (-y.y))] 49 (0, 0)) := by rw [hw5]; exact q7
        replace h3 : w5.heap[w3.heap.size]? = some (.cells #[.int .i64 y.x, .int .i64 y.y] 25 (0, 0)) := by rw [hw5]; exact q8
        have D5 := Lib.hid (show Below w.heap.size w w5 by rw [hw5]; exact (Below.setCell (Below.setCell D4.out (p := ⟨w1.heap.size, 4, none⟩) (by first | omega | (simp; done) | (simp; omega)) (.int .i64 (wrap64 (-y.x)))) (p := ⟨w1.heap.size, 5, none⟩) (by first | omega | (simp; done) | (simp; omega)) (.int .i64 (wrap64 (-y.y)))))
        have z5 := D5.out.size
        have y5 : w5.heap.size = w4.heap.size := by rw [hw5]; simp
        clear q8 q7 q6 q5 q4 q3 q2 q1 hw5
        try clear c0_0
        have c0_0 := cell_of_heap h0 (j := 0) rfl
        try clear f0_0
        have f0_0 := frozen_of_heap h0 0
        try clear c0_1
        have c0_1 := cell_of_heap h0 (j := 1) rfl
        try clear f0_1
        have f0_1 := frozen_of_heap h0 1
        try clear c0_2
        have c0_2 := cell_of_heap h0 (j := 2) rfl
        try clear f0_2
        have f0_2 := frozen_of_heap h0 2
        try clear c0_3
        have c0_3 := cell_of_heap h0 (j := 3) rfl
        try clear f0_3
        have f0_3 := frozen_of_heap h0 3
        try clear c0_4
        have c0_4 := cell_of_heap h0 (j := 4) rfl
        try clear f0_4
        have f0_4 := frozen_of_heap h0 4
        try clear c0_5
        have c0_5 := cell_of_heap h0 (j := 5) rfl
        try clear f0_5
        have f0_5 := frozen_of_heap h0 5
        try clear c1_0
        have c1_0 := cell_of_heap h1 (j := 0) rfl
        try clear f1_0
        have f1_0 := frozen_of_heap h1 0
        try clear c1_1
        have c1_1 := cell_of_heap h1 (j := 1) rfl
        try clear f1_1
        have f1_1 := frozen_of_heap h1 1
        try clear c1_2
        have c1_2 := cell_of_heap h1 (j := 2) rfl
        try clear f1_2
        have f1_2 := frozen_of_heap h1 2
        try clear c1_3
        have c1_3 := cell_of_heap h1 (j := 3) rfl
        try clear f1_3
        have f1_3 := frozen_of_heap h1 3
        try clear c1_4
        have c1_4 := cell_of_heap h1 (j := 4) rfl
        try clear f1_4
        have f1_4 := frozen_of_heap h1 4
        try clear c1_5
        have c1_5 := cell_of_heap h1 (j := 5) rfl
        try clear f1_5
        have f1_5 := frozen_of_heap h1 5
        try clear c2_0
        have c2_0 := cell_of_heap h2 (j := 0) rfl
        try clear f2_0
        have f2_0 := frozen_of_heap h2 0
        try clear c2_1
        have c2_1 := cell_of_heap h2 (j := 1) rfl
        try clear f2_1
        have f2_1 := frozen_of_heap h2 1
        try clear c2_2
        have c2_2 := cell_of_heap h2 (j := 2) rfl
        try clear f2_2
        have f2_2 := frozen_of_heap h2 2
        try clear c2_3
        have c2_3 := cell_of_heap h2 (j := 3) rfl
        try clear f2_3
        have f2_3 := frozen_of_heap h2 3
        try clear c2_4
        have c2_4 := cell_of_heap h2 (j := 4) rfl
        try clear f2_4
        have f2_4 := frozen_of_heap h2 4
        try clear c2_5
        have c2_5 := cell_of_heap h2 (j := 5) rfl
        try clear f2_5
        have f2_5 := frozen_of_heap h2 5
        try clear c3_0
        have c3_0 := cell_of_heap h3 (j := 0) rfl
        try clear f3_0
        have f3_0 := frozen_of_heap h3 0
        try clear c3_1
        have c3_1 := cell_of_heap h3 (j := 1) rfl
        try clear f3_1
        have f3_1 := frozen_of_heap h3 1
        refine (H3.out _).mono ?_
        rintro e w6 ⟨rfl, hb⟩
        replace h0 : w6.heap[w.heap.size]? = some (.cells #[.int .i64 m.m.a, .int .i64 m.m.b, .int .i64 m.m.c, .int .i64 m.m.d, .int .i64 m.t.x, .int .i64 m.t.y] 49 (0, 0)) := hb_below hb (by repeat (first | exact h0 | (refine hb_new ?_; (first | omega | (simp; omega) | (simp; done))) | (refine hb_old ?_ ?_; rotate_left; focus (first | omega | (simp; omega) | (simp; done))) | refine hb_drew ?_)) (by first | omega | (simp; omega) | (simp; done))
        replace h1 : w6.heap[w.heap.size + 1]? = some (.cells #[.int .i64 0, .int .i64 0, .int .i64 0, .int .i64 0, .int .i64 0, .int .i64 0] 49 (0, 0)) := hb_below hb (by repeat (first | exact h1 | (refine hb_new ?_; (first | omega | (simp; omega) | (simp; done))) | (refine hb_old ?_ ?_; rotate_left; focus (first | omega | (simp; omega) | (simp; done))) | refine hb_drew ?_)) (by first | omega | (simp; omega) | (simp; done))
        replace h2 : w6.heap[w1.heap.size]? = some (.cells #[.int .i64 (wrap64 (-m.m.d)), .int .i64 (wrap64 m.m.b), .int .i64 (wrap64 m.m.c), .int .i64 (wrap64 (-m.m.a)), .int .i64 (wrap64 (-y.x)), .int .i64 (wrap64 (-y.y))] 49 (0, 0)) := hb_below hb (by repeat (first | exact h2 | (refine hb_new ?_; (first | omega | (simp; omega) | (simp; done))) | (refine hb_old ?_ ?_; rotate_left; focus (first | omega | (simp; omega) | (simp; done))) | refine hb_drew ?_)) (by first | omega | (simp; omega) | (simp; done))
        replace h3 : w6.heap[w3.heap.size]? = some (.cells #[.int .i64 y.x, .int .i64 y.y] 25 (0, 0)) := hb_below hb (by repeat (first | exact h3 | (refine hb_new ?_; (first | omega | (simp; omega) | (simp; done))) | (refine hb_old ?_ ?_; rotate_left; focus (first | omega | (simp; omega) | (simp; done))) | refine hb_drew ?_)) (by first | omega | (simp; omega) | (simp; done))
        have y6 := Below.size hb
        try simp only [World.size_alloc, World.size_drew] at y6
        have D6 := Lib.hid (show Below w.heap.size w w6 from Below.trans (by repeat (first | exact D5.out | exact Below.refl _ _ | refine Below.alloc ?_ (by first | omega | (simp; omega) | (simp; done)) _)) (Below.mono hb (by first | omega | (simp; omega) | (simp; done))))
        have z6 := D6.out.size
        clear hb
        try clear c0_0
        have c0_0 := cell_of_heap h0 (j := 0) rfl
        try clear f0_0
        have f0_0 := frozen_of_heap h0 0
        try clear c0_1
        have c0_1 := cell_of_heap h0 (j := 1) rfl
        try clear f0_1
        have f0_1 := frozen_of_heap h0 1
        try clear c0_2
        have c0_2 := cell_of_heap h0 (j := 2) rfl
        try clear f0_2
        have f0_2 := frozen_of_heap h0 2
        try clear c0_3
        have c0_3 := cell_of_heap h0 (j := 3) rfl
        try clear f0_3
        have f0_3 := frozen_of_heap h0 3
        try clear c0_4
        have c0_4 := cell_of_heap h0 (j := 4) rfl
        try clear f0_4
        have f0_4 := frozen_of_heap h0 4
        try clear c0_5
        have c0_5 := cell_of_heap h0 (j := 5) rfl
        try clear f0_5
        have f0_5 := frozen_of_heap h0 5
        try clear c1_0
        have c1_0 := cell_of_heap h1 (j := 0) rfl
        try clear f1_0
        have f1_0 := frozen_of_heap h1 0
        try clear c1_1
        have c1_1 := cell_of_heap h1 (j := 1) rfl
        try clear f1_1
        have f1_1 := frozen_of_heap h1 1
        try clear c1_2
        have c1_2 := cell_of_heap h1 (j := 2) rfl
        try clear f1_2
        have f1_2 := frozen_of_heap h1 2
        try clear c1_3
        have c1_3 := cell_of_heap h1 (j := 3) rfl
        try clear f1_3
        have f1_3 := frozen_of_heap h1 3
        try clear c1_4
        have c1_4 := cell_of_heap h1 (j := 4) rfl
        try clear f1_4
        have f1_4 := frozen_of_heap h1 4
        try clear c1_5
        have c1_5 := cell_of_heap h1 (j := 5) rfl
        try clear f1_5
        have f1_5 := frozen_of_heap h1 5
        try clear c2_0
        have c2_0 := cell_of_heap h2 (j := 0) rfl
        try clear f2_0
        have f2_0 := frozen_of_heap h2 0
        try clear c2_1
        have c2_1 := cell_of_heap h2 (j := 1) rfl
        try clear f2_1
        have f2_1 := frozen_of_heap h2 1
        try clear c2_2
        have c2_2 := cell_of_heap h2 (j := 2) rfl
        try clear f2_2
        have f2_2 := frozen_of_heap h2 2
        try clear c2_3
        have c2_3 := cell_of_heap h2 (j := 3) rfl
        try clear f2_3
        have f2_3 := frozen_of_heap h2 3
        try clear c2_4
        have c2_4 := cell_of_heap h2 (j := 4) rfl
        try clear f2_4
        have f2_4 := frozen_of_heap h2 4
        try clear c2_5
        have c2_5 := cell_of_heap h2 (j := 5) rfl
        try clear f2_5
        have f2_5 := frozen_of_heap h2 5
        try clear c3_0
        have c3_0 := cell_of_heap h3 (j := 0) rfl
        try clear f3_0
        have f3_0 := frozen_of_heap h3 0
        try clear c3_1
        have c3_1 := cell_of_heap h3 (j := 1) rfl
        try clear f3_1
        have f3_1 := frozen_of_heap h3 1
        cases k1
        · go_wp2_with fail
          have q1 := (Below.heap_setCell w6 ⟨w.heap.size + 1, 0, none⟩ (.int .i64 0) (w.heap.size) (by first | omega | assumption | (apply Ne.symm; assumption) | (simp; done) | (simp; omega))).trans h0
          have q2 := heap_setCell_same w6 (w.heap.size + 1) 0 _ _ (.int .i64 0) h1
          have q3 := (Below.heap_setCell w6 ⟨w.heap.size + 1, 0, none⟩ (.int .i64 0) (w1.heap.size) (by first | omega | assumption | (apply Ne.symm; assumption) | (simp; done) | (simp; omega))).trans h2
          have q4 := (Below.heap_setCell w6 ⟨w.heap.size + 1, 0, none⟩ (.int .i64 0) (w3.heap.size) (by first | omega | assumption | (apply Ne.symm; assumption) | (simp; done) | (simp; omega))).trans h3
          have q5 := (Below.heap_setCell (w6.setCell ⟨w.heap.size + 1, 0, none⟩ (.int .i64 0)) ⟨w.heap.size + 1, 1, none⟩ (.int .i64 0) (w.heap.size) (by first | omega | assumption | (apply Ne.symm; assumption) | (simp; done) | (simp; omega))).trans q1
          have q6 := heap_setCell_same (w6.setCell ⟨w.heap.size + 1, 0, none⟩ (.int .i64 0)) (w.heap.size + 1) 1 _ _ (.int .i64 0) q2
          have q7 := (Below.heap_setCell (w6.setCell ⟨w.heap.size + 1, 0, none⟩ (.int .i64 0)) ⟨w.heap.size + 1, 1, none⟩ (.int .i64 0) (w1.heap.size) (by first | omega | assumption | (apply Ne.symm; assumption) | (simp; done) | (simp; omega))).trans q3
          have q8 := (Below.heap_setCell (w6.setCell ⟨w.heap.size + 1, 0, none⟩ (.int .i64 0)) ⟨w.heap.size + 1, 1, none⟩ (.int .i64 0) (w3.heap.size) (by first | omega | assumption | (apply Ne.symm; assumption) | (simp; done) | (simp; omega))).trans q4
          have q9 := (Below.heap_setCell ((w6.setCell ⟨w.heap.size + 1, 0, none⟩ (.int .i64 0)).setCell ⟨w.heap.size + 1, 1, none⟩ (.int .i64 0)) ⟨w.heap.size + 1, 2, none⟩ (.int .i64 0) (w.heap.size) (by first | omega | assumption | (apply Ne.symm; assumption) | (simp; done) | (simp; omega))).trans q5
          have q10 := heap_setCell_same ((w6.setCell ⟨w.heap.size + 1, 0, none⟩ (.int .i64 0)).setCell ⟨w.heap.size + 1, 1, none⟩ (.int .i64 0)) (w.heap.size + 1) 2 _ _ (.int .i64 0) q6
          have q11 := (Below.heap_setCell ((w6.setCell ⟨w.heap.size + 1, 0, none⟩ (.int .i64 0)).setCell ⟨w.heap.size + 1, 1, none⟩ (.int .i64 0)) ⟨w.heap.size + 1, 2, none⟩ (.int .i64 0) (w1.heap.size) (by first | omega | assumption | (apply Ne.symm; assumption) | (simp; done) | (simp; omega))).trans q7
          have q12 := (Below.heap_setCell ((w6.setCell ⟨w.heap.size + 1, 0, none⟩ (.int .i64 0)).setCell ⟨w.heap.size + 1, 1, none⟩ (.int .i64 0)) ⟨w.heap.size + 1, 2, none⟩ (.int .i64 0) (w3.heap.size) (by first | omega | assumption | (apply Ne.symm; assumption) | (simp; done) | (simp; omega))).trans q8
          have q13 := (Below.heap_setCell (((w6.setCell ⟨w.heap.size + 1, 0, none⟩ (.int .i64 0)).setCell ⟨w.heap.size + 1, 1, none⟩ (.int .i64 0)).setCell ⟨w.heap.size + 1, 2, none⟩ (.int .i64 0)) ⟨w.heap.size + 1, 3, none⟩ (.int .i64 0) (w.heap.size) (by first | omega | assumption | (apply Ne.symm; assumption) | (simp; done) | (simp; omega))).trans q9
          have q14 := heap_setCell_same (((w6.setCell ⟨w.heap.size + 1, 0, none⟩ (.int .i64 0)).setCell ⟨w.heap.size + 1, 1, none⟩ (.int .i64 0)).setCell ⟨w.heap.size + 1, 2, none⟩ (.int .i64 0)) (w.heap.size + 1) 3 _ _ (.int .i64 0) q10
          have q15 := (Below.heap_setCell (((w6.setCell ⟨w.heap.size + 1, 0, none⟩ (.int .i64 0)).setCell ⟨w.heap.size + 1, 1, none⟩ (.int .i64 0)).setCell ⟨w.heap.size + 1, 2, none⟩ (.int .i64 0)) ⟨w.heap.size + 1, 3, none⟩ (.int .i64 0) (w1.heap.size) (by first | omega | assumption | (apply Ne.symm; assumption) | (simp; done) | (simp; omega))).trans q11
          have q16 := (Below.heap_setCell (((w6.setCell ⟨w.heap.size + 1, 0, none⟩ (.int .i64 0)).setCell ⟨w.heap.size + 1, 1, none⟩ (.int .i64 0)).setCell ⟨w.heap.size + 1, 2, none⟩ (.int .i64 0)) ⟨w.heap.size + 1, 3, none⟩ (.int .i64 0) (w3.heap.size) (by first | omega | assumption | (apply Ne.symm; assumption) | (simp; done) | (simp; omega))).trans q12
          have q17 := (Below.heap_setCell ((((w6.setCell ⟨w.heap.size + 1, 0, none⟩ (.int .i64 0)).setCell ⟨w.heap.size + 1, 1, none⟩ (.int .i64 0)).setCell ⟨w.heap.size + 1, 2, none⟩ (.int .i64 0)).setCell ⟨w.heap.size + 1, 3, none⟩ (.int .i64 0)) ⟨w.heap.size + 1, 4, none⟩ (.int .i64 0) (w.heap.size) (by first | omega | assumption | (apply Ne.symm; assumption) | (simp; done) | (simp; omega))).trans q13
          have q18 := heap_setCell_same ((((w6.setCell ⟨w.heap.size + 1, 0, none⟩ (.int .i64 0)).setCell ⟨w.heap.size + 1, 1, none⟩ (.int .i64 0)).setCell ⟨w.heap.size + 1, 2, none⟩ (.int .i64 0)).setCell ⟨w.heap.size + 1, 3, none⟩ (.int .i64 0)) (w.heap.size + 1) 4 _ _ (.int .i64 0) q14
          have q19 := (Below.heap_setCell ((((w6.setCell ⟨w.heap.size + 1, 0, none⟩ (.int .i64 0)).setCell ⟨w.heap.size + 1, 1, none⟩ (.int .i64 0)).setCell ⟨w.heap.size + 1, 2, none⟩ (.int .i64 0)).setCell ⟨w.heap.size + 1, 3, none⟩ (.int .i64 0)) ⟨w.heap.size + 1, 4, none⟩ (.int .i64 0) (w1.heap.size) (by first | omega | assumption | (apply Ne.symm; assumption) | (simp; done) | (simp; omega))).trans q15
          have q20 := (Below.heap_setCell ((((w6.setCell ⟨w.heap.size + 1, 0, none⟩ (.int .i64 0)).setCell ⟨w.heap.size + 1, 1, none⟩ (.int .i64 0)).setCell ⟨w.heap.size + 1, 2, none⟩ (.int .i64 0)).setCell ⟨w.heap.size + 1, 3, none⟩ (.int .i64 0)) ⟨w.heap.size + 1, 4, none⟩ (.int .i64 0) (w3.heap.size) (by first | omega | assumption | (apply Ne.symm; assumption) | (simp; done) | (simp; omega))).trans q16
          have q21 := (Below.heap_setCell (((((w6.setCell ⟨w.heap.size + 1, 0, none⟩ (.int .i64 0)).setCell ⟨w.heap.size + 1, 1, none⟩ (.int .i64 0)).setCell ⟨w.heap.size + 1, 2, none⟩ (.int .i64 0)).setCell ⟨w.heap.size + 1, 3, none⟩ (.int .i64 0)).setCell ⟨w.heap.size + 1, 4, none⟩ (.int .i64 0)) ⟨w.heap.size + 1, 5, none⟩ (.int .i64 0) (w.heap.size) (by first | omega | assumption | (apply Ne.symm; assumption) | (simp; done) | (simp; omega))).trans q17
          have q22 := heap_setCell_same (((((w6.setCell ⟨w.heap.size + 1, 0, none⟩ (.int .i64 0)).setCell ⟨w.heap.size + 1, 1, none⟩ (.int .i64 0)).setCell ⟨w.heap.size + 1, 2, none⟩ (.int .i64 0)).setCell ⟨w.heap.size + 1, 3, none⟩ (.int .i64 0)).setCell ⟨w.heap.size + 1, 4, none⟩ (.int .i64 0)) (w.heap.size + 1) 5 _ _ (.int .i64 0) q18
          have q23 := (Below.heap_setCell (((((w6.setCell ⟨w.heap.size + 1, 0, none⟩ (.int .i64 0)).setCell ⟨w.heap.size + 1, 1, none⟩ (.int .i64 0)).setCell ⟨w.heap.size + 1, 2, none⟩ (.int .i64 0)).setCell ⟨w.heap.size + 1, 3, none⟩ (.int .i64 0)).setCell ⟨w.heap.size + 1, 4, none⟩ (.int .i64 0)) ⟨w.heap.size + 1, 5, none⟩ (.int .i64 0) (w1.heap.size) (by first | omega | assumption | (apply Ne.symm; assumption) | (simp; done) | (simp; omega))).trans q19
          have q24 := (Below.heap_setCell (((((w6.setCell ⟨w.heap.size + 1, 0, none⟩ (.int .i64 0)).setCell ⟨w.heap.size + 1, 1, none⟩ (.int .i64 0)).setCell ⟨w.heap.size + 1, 2, none⟩ (.int .i64 0)).setCell ⟨w.heap.size + 1, 3, none⟩ (.int .i64 0)).setCell ⟨w.heap.size + 1, 4, none⟩ (.int .i64 0)) ⟨w.heap.size + 1, 5, none⟩ (.int .i64 0) (w3.heap.size) (by first | omega | assumption | (apply Ne.symm; assumption) | (simp; done) | (simp; omega))).trans q20
          obtain ⟨w7, hw7⟩ : ∃ W, W = ((((((w6.setCell ⟨w.heap.size + 1, 0, none⟩ (.int .i64 0)).setCell ⟨w.heap.size + 1, 1, none⟩ (.int .i64 0)).setCell ⟨w.heap.size + 1, 2, none⟩ (.int .i64 0)).setCell ⟨w.heap.size + 1, 3, none⟩ (.int .i64 0)).setCell ⟨w.heap.size + 1, 4, none⟩ (.int .i64 0)).setCell ⟨w.heap.size + 1, 5, none⟩ (.int .i64 0)) := ⟨_, rfl⟩
          rw [← hw7]
          replace h0 : w7.heap[w.heap.size]? = some (.cells #[.int .i64 m.m.a, .int .i64 m.m.b, .int .i64 m.m.c, .int .i64 m.m.d, .int .i64 m.t.x, .int .i64 m.t.y] 49 (0, 0)) := by rw [hw7]; exact q21
          replace h1 : w7.heap[w.heap.size + 1]? = some (.cells #[.int .i64 0, .int .i64 0, .int .i64 0, .int .i64 0, .int .i64 0, .int .i64 0] 49 (0, 0)) := by rw [hw7]; exact q22
          replace h2 : w7.heap[w1.heap.size]? = some (.cells #[.int .i64 (wrap64 (-m.m.d)), .int .i64 (wrap64 m.m.b), .int .i64 (wrap64 m.m.c), .int .i64 (wrap64 (-m.m.a)), .int .i64 (wrap64 (-y.x)), .int .i64 (wrap64 (-y.y))] 49 (0, 0)) := by rw [hw7]; exact q23
          replace h3 : w7.heap[w3.heap.size]? = some (.cells #[.int .i64 y.x, .int .i64 y.y] 25 (0, 0)) := by rw [hw7]; exact q24
          have D7 := Lib.hid (show Below w.heap.size w w7 by rw [hw7]; exact (Below.setCell (Below.setCell (Below.setCell (Below.setCell (Below.setCell (Below.setCell D6.out (p := ⟨w.heap.size + 1, 0, none⟩) (by first | omega | (simp; done) | (simp; omega)) (.int .i64 0)) (p := ⟨w.heap.size + 1, 1, none⟩) (by first | omega | (simp; done) | (simp; omega)) (.int .i64 0)) (p := ⟨w.heap.size + 1, 2, none⟩) (by first | omega | (simp; done) | (simp; omega)) (.int .i64 0)) (p := ⟨w.heap.size + 1, 3, none⟩) (by first | omega | (simp; done) | (simp; omega)) (.int .i64 0)) (p := ⟨w.heap.size + 1, 4, none⟩) (by first | omega | (simp; done) | (simp; omega)) (.int .i64 0)) (p := ⟨w.heap.size + 1, 5, none⟩) (by first | omega | (simp; done) | (simp; omega)) (.int .i64 0)))
          have z7 := D7.out.size
          have y7 : w7.heap.size = w6.heap.size := by rw [hw7]; simp
          clear q24 q23 q22 q21 q20 q19 q18 q17 q16 q15 q14 q13 q12 q11 q10 q9 q8 q7 q6 q5 q4 q3 q2 q1 hw7
          try clear c0_0
          have c0_0 := cell_of_heap h0 (j := 0) rfl
          try clear f0_0
          have f0_0 := frozen_of_heap h0 0
          try clear c0_1
          have c0_1 := cell_of_heap h0 (j := 1) rfl
          try clear f0_1
          have f0_1 := frozen_of_heap h0 1
          try clear c0_2
          have c0_2 := cell_of_heap h0 (j := 2) rfl
          try clear f0_2
          have f0_2 := frozen_of_heap h0 2
          try clear c0_3
          have c0_3 := cell_of_heap h0 (j := 3) rfl
          try clear f0_3
          have f0_3 := frozen_of_heap h0 3
          try clear c0_4
          have c0_4 := cell_of_heap h0 (j := 4) rfl
          try clear f0_4
          have f0_4 := frozen_of_heap h0 4
          try clear c0_5
          have c0_5 := cell_of_heap h0 (j := 5) rfl
          try clear f0_5
          have f0_5 := frozen_of_heap h0 5
          try clear c1_0
          have c1_0 := cell_of_heap h1 (j := 0) rfl
          try clear f1_0
          have f1_0 := frozen_of_heap h1 0
          try clear c1_1
          have c1_1 := cell_of_heap h1 (j := 1) rfl
          try clear f1_1
          have f1_1 := frozen_of_heap h1 1
          try clear c1_2
          have c1_2 := cell_of_heap h1 (j := 2) rfl
          try clear f1_2
          have f1_2 := frozen_of_heap h1 2
          try clear c1_3
          have c1_3 := cell_of_heap h1 (j := 3) rfl
          try clear f1_3
          have f1_3 := frozen_of_heap h1 3
          try clear c1_4
          have c1_4 := cell_of_heap h1 (j := 4) rfl
          try clear f1_4
          have f1_4 := frozen_of_heap h1 4
          try clear c1_5
          have c1_5 := cell_of_heap h1 (j := 5) rfl
          try clear f1_5
          have f1_5 := frozen_of_heap h1 5
          try clear c2_0
          have c2_0 := cell_of_heap h2 (j := 0) rfl
          try clear f2_0
          have f2_0 := frozen_of_heap h2 0
          try clear c2_1
          have c2_1 := cell_of_heap h2 (j := 1) rfl
          try clear f2_1
          have f2_1 := frozen_of_heap h2 1
          try clear c2_2
          have c2_2 := cell_of_heap h2 (j := 2) rfl
          try clear f2_2
          have f2_2 := frozen_of_heap h2 2
          try clear c2_3
          have c2_3 := cell_of_heap h2 (j := 3) rfl
          try clear f2_3
          have f2_3 := frozen_of_heap h2 3
          try clear c2_4
          have c2_4 := cell_of_heap h2 (j := 4) rfl
          try clear f2_4
          have f2_4 := frozen_of_heap h2 4
          try clear c2_5
          have c2_5 := cell_of_heap h2 (j := 5) rfl
          try clear f2_5
          have f2_5 := frozen_of_heap h2 5
          try clear c3_0
          have c3_0 := cell_of_heap h3 (j := 0) rfl
          try clear f3_0
          have f3_0 := frozen_of_heap h3 0
          try clear c3_1
          have c3_1 := cell_of_heap h3 (j := 1) rfl
          try clear f3_1
          have f3_1 := frozen_of_heap h3 1
          refine bodyPost_ret (results_bt rfl _ _ (w.heap.size + 1) rfl rfl h1 Tryd.underlying49 rfl (by kernel_rfl)) rfl ⟨rfl, D7.out⟩
        · go_wp2_with fail
          have q1 := (Below.heap_setCell w6 ⟨w.heap.size + 1, 0, none⟩ (.int .i64 (wrap64 (-m.m.d))) (w.heap.size) (by first | omega | assumption | (apply Ne.symm; assumption) | (simp; done) | (simp; omega))).trans h0
          have q2 := heap_setCell_same w6 (w.heap.size + 1) 0 _ _ (.int .i64 (wrap64 (-m.m.d))) h1
          have q3 := (Below.heap_setCell w6 ⟨w.heap.size + 1, 0, none⟩ (.int .i64 (wrap64 (-m.m.d))) (w1.heap.size) (by first | omega | assumption | (apply Ne.symm; assumption) | (simp; done) | (simp; omega))).trans h2
          have q4 := (Below.heap_setCell w6 ⟨w.heap.size + 1, 0, none⟩ (.int .i64 (wrap64 (-m.m.d))) (w3.heap.size) (by first | omega | assumption | (apply Ne.symm; assumption) | (simp; done) | (simp; omega))).trans h3
          have q5 := (Below.heap_setCell (w6.setCell ⟨w.heap.size + 1, 0, none⟩ (.int .i64 (wrap64 (-m.m.d)))) ⟨w.heap.size + 1, 1, none⟩ (.int .i64 (wrap64 m.m.b)) (w.heap.size) (by first | omega | assumption | (apply Ne.symm; assumption) | (simp; done) | (simp; omega))).trans q1
          have q6 := heap_setCell_same (w6.setCell ⟨w.heap.size + 1, 0, none⟩ (.int .i64 (wrap64 (-m.m.d)))) (w.heap.size + 1) 1 _ _ (.int .i64 (wrap64 m.m.b)) q2
          have q7 := (Below.heap_setCell (w6.setCell ⟨w.heap.size + 1, 0, none⟩ (.int .i64 (wrap64 (-m.m.d)))) ⟨w.heap.size + 1, 1, none⟩ (.int .i64 (wrap64 m.m.b)) (w1.heap.size) (by first | omega | assumption | (apply Ne.symm; assumption) | (simp; done) | (simp; omega))).trans q3
          have q8 := (Below.heap_setCell (w6.setCell ⟨w.heap.size + 1, 0, none⟩ (.int .i64 (wrap64 (-m.m.d)))) ⟨w.heap.size + 1, 1, none⟩ (.int .i64 (wrap64 m.m.b)) (w3.heap.size) (by first | omega | assumption | (apply Ne.symm; assumption) | (simp; done) | (simp; omega))).trans q4
          have q9 := (Below.heap_setCell ((w6.setCell ⟨w.heap.size + 1, 0, none⟩ (.int .i64 (wrap64 (-m.m.d)))).setCell ⟨w.heap.size + 1, 1, none⟩ (.int .i64 (wrap64 m.m.b))) ⟨w.heap.size + 1, 2, none⟩ (.int .i64 (wrap64 m.m.c)) (w.heap.size) (by first | omega | assumption | (apply Ne.symm; assumption) | (simp; done) | (simp; omega))).trans q5
          have q10 := heap_setCell_same ((w6.setCell ⟨w.heap.size + 1, 0, none⟩ (.int .i64 (wrap64 (-m.m.d)))).setCell ⟨w.heap.size + 1, 1, none⟩ (.int .i64 (wrap64 m.m.b))) (w.heap.size + 1) 2 _ _ (.int .i64 (wrap64 m.m.c)) q6
          have q11 := (Below.heap_setCell ((w6.setCell ⟨w.heap.size + 1, 0, none⟩ (.int .i64 (wrap64 (-m.m.d)))).setCell ⟨w.heap.size + 1, 1, none⟩ (.int .i64 (wrap64 m.m.b))) ⟨w.heap.size + 1, 2, none⟩ (.int .i64 (wrap64 m.m.c)) (w1.heap.size) (by first | omega | assumption | (apply Ne.symm; assumption) | (simp; done) | (simp; omega))).trans q7
          have q12 := (Below.heap_setCell ((w6.setCell ⟨w.heap.size + 1, 0, none⟩ (.int .i64 (wrap64 (-m.m.d)))).setCell ⟨w.heap.size + 1, 1, none⟩ (.int .i64 (wrap64 m.m.b))) ⟨w.heap.size + 1, 2, none⟩ (.int .i64 (wrap64 m.m.c)) (w3.heap.size) (by first | omega | assumption | (apply Ne.symm; assumption) | (simp; done) | (simp; omega))).trans q8
          have q13 := (Below.heap_setCell (((w6.setCell ⟨w.heap.size + 1, 0, none⟩ (.int .i64 (wrap64 (-m.m.d)))).setCell ⟨w.heap.size + 1, 1, none⟩ (.int .i64 (wrap64 m.m.b))).setCell ⟨w.heap.size + 1, 2, none⟩ (.int .i64 (wrap64 m.m.c))) ⟨w.heap.size + 1, 3, none⟩ (.int .i64 (wrap64 (-m.m.a))) (w.heap.size) (by first | omega | assumption | (apply Ne.symm; assumption) | (simp; done) | (simp; omega))).trans q9
          have q14 := heap_setCell_same (((w6.setCell ⟨w.heap.size + 1, 0, none⟩ (.int .i64 (wrap64 (-m.m.d)))).setCell ⟨w.heap.size + 1, 1, none⟩ (.int .i64 (wrap64 m.m.b))).setCell ⟨w.heap.size + 1, 2, none⟩ (.int .i64 (wrap64 m.m.c))) (w.heap.size + 1) 3 _ _ (.int .i64 (wrap64 (-m.m.a))) q10
          have q15 := (Below.heap_setCell (((w6.setCell ⟨w.heap.size + 1, 0, none⟩ (.int .i64 (wrap64 (-m.m.d)))).setCell ⟨w.heap.size + 1, 1, none⟩ (.int .i64 (wrap64 m.m.b))).setCell ⟨w.heap.size + 1, 2, none⟩ (.int .i64 (wrap64 m.m.c))) ⟨w.heap.size + 1, 3, none⟩ (.int .i64 (wrap64 (-m.m.a))) (w1.heap.size) (by first | omega | assumption | (apply Ne.symm; assumption) | (simp; done) | (simp; omega))).trans q11
          have q16 := (Below.heap_setCell (((w6.setCell ⟨w.heap.size + 1, 0, none⟩ (.int .i64 (wrap64 (-m.m.d)))).setCell ⟨w.heap.size + 1, 1, none⟩ (.int .i64 (wrap64 m.m.b))).setCell ⟨w.heap.size + 1, 2, none⟩ (.int .i64 (wrap64 m.m.c))) ⟨w.heap.size + 1, 3, none⟩ (.int .i64 (wrap64 (-m.m.a))) (w3.heap.size) (by first | omega | assumption | (apply Ne.symm; assumption) | (simp; done) | (simp; omega))).trans q12
          have q17 := (Below.heap_setCell ((((w6.setCell ⟨w.heap.size + 1, 0, none⟩ (.int .i64 (wrap64 (-m.m.d)))).setCell ⟨w.heap.size + 1, 1, none⟩ (.int .i64 (wrap64 m.m.b))).setCell ⟨w.heap.size + 1, 2, none⟩ (.int .i64 (wrap64 m.m.c))).setCell ⟨w.heap.size + 1, 3, none⟩ (.int .i64 (wrap64 (-m.m.a)))) ⟨w.heap.size + 1, 4, none⟩ (.int .i64 (wrap64 (-y.x))) (w.heap.size) (by first | omega | assumption | (apply Ne.symm; assumption) | (simp; done) | (simp; omega))).trans q13
          have q18 := heap_setCell_same ((((w6.setCell ⟨w.heap.size + 1, 0, none⟩ (.int .i64 (wrap64 (-m.m.d)))).setCell ⟨w.heap.size + 1, 1, none⟩ (.int .i64 (wrap64 m.m.b))).setCell ⟨w.heap.size + 1, 2, none⟩ (.int .i64 (wrap64 m.m.c))).setCell ⟨w.heap.size + 1, 3, none⟩ (.int .i64 (wrap64 (-m.m.a)))) (w.heap.size + 1) 4 _ _ (.int .i64 (wrap64 (-y.x))) q14
          have q19 := (Below.heap_setCell ((((w6.setCell ⟨w.heap.size + 1, 0, none⟩ (.int .i64 (wrap64 (-m.m.d)))).setCell ⟨w.heap.size + 1, 1, none⟩ (.int .i64 (wrap64 m.m.b))).setCell ⟨w.heap.size + 1, 2, none⟩ (.int .i64 (wrap64 m.m.c))).setCell ⟨w.heap.size + 1, 3, none⟩ (.int .i64 (wrap64 (-m.m.a)))) ⟨w.heap.size + 1, 4, none⟩ (.int .i64 (wrap64 (-y.x))) (w1.heap.size) (by first | omega | assumption | (apply Ne.symm; assumption) | (simp; done) | (simp; omega))).trans q15
          have q20 := (Below.heap_setCell ((((w6.setCell ⟨w.heap.size + 1, 0, none⟩ (.int .i64 (wrap64 (-m.m.d)))).setCell ⟨w.heap.size + 1, 1, none⟩ (.int .i64 (wrap64 m.m.b))).setCell ⟨w.heap.size + 1, 2, none⟩ (.int .i64 (wrap64 m.m.c))).setCell ⟨w.heap.size + 1, 3, none⟩ (.int .i64 (wrap64 (-m.m.a)))) ⟨w.heap.size + 1, 4, none⟩ (.int .i64 (wrap64 (-y.x))) (w3.heap.size) (by first | omega | assumption | (apply Ne.symm; assumption) | (simp; done) | (simp; omega))).trans q16
          have q21 := (Below.heap_setCell (((((w6.setCell ⟨w.heap.size + 1, 0, none⟩ (.int .i64 (wrap64 (-m.m.d)))).setCell ⟨w.heap.size + 1, 1, none⟩ (.int .i64 (wrap64 m.m.b))).setCell ⟨w.heap.size + 1, 2, none⟩ (.int .i64 (wrap64 m.m.c))).setCell ⟨w.heap.size + 1, 3, none⟩ (.int .i64 (wrap64 (-m.m.a)))).setCell ⟨w.heap.size + 1, 4, none⟩ (.int .i64 (wrap64 (-y.x)))) ⟨w.heap.size + 1, 5, none⟩ (.int .i64 (wrap64 (-y.y))) (w.heap.size) (by first | omega | assumption | (apply Ne.symm; assumption) | (simp; done) | (simp; omega))).trans q17
          have q22 := heap_setCell_same (((((w6.setCell ⟨w.heap.size + 1, 0, none⟩ (.int .i64 (wrap64 (-m.m.d)))).setCell ⟨w.heap.size + 1, 1, none⟩ (.int .i64 (wrap64 m.m.b))).setCell ⟨w.heap.size + 1, 2, none⟩ (.int .i64 (wrap64 m.m.c))).setCell ⟨w.heap.size + 1, 3, none⟩ (.int .i64 (wrap64 (-m.m.a)))).setCell ⟨w.heap.size + 1, 4, none⟩ (.int .i64 (wrap64 (-y.x)))) (w.heap.size + 1) 5 _ _ (.int .i64 (wrap64 (-y.y))) q18
          have q23 := (Below.heap_setCell (((((w6.setCell ⟨w.heap.size + 1, 0, none⟩ (.int .i64 (wrap64 (-m.m.d)))).setCell ⟨w.heap.size + 1, 1, none⟩ (.int .i64 (wrap64 m.m.b))).setCell ⟨w.heap.size + 1, 2, none⟩ (.int .i64 (wrap64 m.m.c))).setCell ⟨w.heap.size + 1, 3, none⟩ (.int .i64 (wrap64 (-m.m.a)))).setCell ⟨w.heap.size + 1, 4, none⟩ (.int .i64 (wrap64 (-y.x)))) ⟨w.heap.size + 1, 5, none⟩ (.int .i64 (wrap64 (-y.y))) (w1.heap.size) (by first | omega | assumption | (apply Ne.symm; assumption) | (simp; done) | (simp; omega))).trans q19
          have q24 := (Below.heap_setCell (((((w6.setCell ⟨w.heap.size + 1, 0, none⟩ (.int .i64 (wrap64 (-m.m.d)))).setCell ⟨w.heap.size + 1, 1, none⟩ (.int .i64 (wrap64 m.m.b))).setCell ⟨w.heap.size + 1, 2, none⟩ (.int .i64 (wrap64 m.m.c))).setCell ⟨w.heap.size + 1, 3, none⟩ (.int .i64 (wrap64 (-m.m.a)))).setCell ⟨w.heap.size + 1, 4, none⟩ (.int .i64 (wrap64 (-y.x)))) ⟨w.heap.size + 1, 5, none⟩ (.int .i64 (wrap64 (-y.y))) (w3.heap.size) (by first | omega | assumption | (apply Ne.symm; assumption) | (simp; done) | (simp; omega))).trans q20
          obtain ⟨w7, hw7⟩ : ∃ W, W = ((((((w6.setCell ⟨w.heap.size + 1, 0, none⟩ (.int .i64 (wrap64 (-m.m.d)))).setCell ⟨w.heap.size + 1, 1, none⟩ (.int .i64 (wrap64 m.m.b))).setCell ⟨w.heap.size + 1, 2, none⟩ (.int .i64 (wrap64 m.m.c))).setCell ⟨w.heap.size + 1, 3, none⟩ (.int .i64 (wrap64 (-m.m.a)))).setCell ⟨w.heap.size + 1, 4, none⟩ (.int .i64 (wrap64 (-y.x)))).setCell ⟨w.heap.size + 1, 5, none⟩ (.int .i64 (wrap64 (-y.y)))) := ⟨_, rfl⟩
          rw [← hw7]
          replace h0 : w7.heap[w.heap.size]? = some (.cells #[.int .i64 m.m.a, .int .i64 m.m.b, .int .i64 m.m.c, .int .i64 m.m.d, .int .i64 m.t.x, .int .i64 m.t.y] 49 (0, 0)) := by rw [hw7]; exact q21
          replace h1 : w7.heap[w.heap.size + 1]? = some (.cells #[.int .i64 (wrap64 (-m.m.d)), .int .i64 (wrap64 m.m.b), .int .i64 (wrap64 m.m.c), .int .i64 (wrap64 (-m.m.a)), .int .i64 (wrap64 (-y.x)), .int .i64 (wrap64 (-y.y))] 49 (0, 0)) := by rw [hw7]; exact q22
          replace h2 : w7.heap[w1.heap.size]? = some (.cells #[.int .i64 (wrap64 (-m.m.d)), .int .i64 (wrap64 m.m.b), .int .i64 (wrap64 m.m.c), .int .i64 (wrap64 (-m.m.a)), .int .i64 (wrap64 (-y.x)), .int .i64 (wrap64 (-y.y))] 49 (0, 0)) := by rw [hw7]; exact q23
          replace h3 : w7.heap[w3.heap.size]? = some (.cells #[.int .i64 y.x, .int .i64 y.y] 25 (0, 0)) := by rw [hw7]; exact q24
          have D7 := Lib.hid (show Below w.heap.size w w7 by rw [hw7]; exact (Below.setCell (Below.setCell (Below.setCell (Below.setCell (Below.setCell (Below.setCell D6.out (p := ⟨w.heap.size + 1, 0, none⟩) (by first | omega | (simp; done) | (simp; omega)) (.int .i64 (wrap64 (-m.m.d)))) (p := ⟨w.heap.size + 1, 1, none⟩) (by first | omega | (simp; done) | (simp; omega)) (.int .i64 (wrap64 m.m.b))) (p := ⟨w.heap.size + 1, 2, none⟩) (by first | omega | (simp; done) | (simp; omega)) (.int .i64 (wrap64 m.m.c))) (p := ⟨w.heap.size + 1, 3, none⟩) (by first | omega | (simp; done) | (simp; omega)) (.int .i64 (wrap64 (-m.m.a)))) (p := ⟨w.heap.size + 1, 4, none⟩) (by first | omega | (simp; done) | (simp; omega)) (.int .i64 (wrap64 (-y.x)))) (p := ⟨w.heap.size + 1, 5, none⟩) (by first | omega | (simp; done) | (simp; omega)) (.int .i64 (wrap64 (-y.y)))))
          have z7 := D7.out.size
          have y7 : w7.heap.size = w6.heap.size := by rw [hw7]; simp
          clear q24 q23 q22 q21 q20 q19 q18 q17 q16 q15 q14 q13 q12 q11 q10 q9 q8 q7 q6 q5 q4 q3 q2 q1 hw7
          try clear c0_0
          have c0_0 := cell_of_heap h0 (j := 0) rfl
          try clear f0_0
          have f0_0 := frozen_of_heap h0 0
          try clear c0_1
          have c0_1 := cell_of_heap h0 (j := 1) rfl
          try clear f0_1
          have f0_1 := frozen_of_heap h0 1
          try clear c0_2
          have c0_2 := cell_of_heap h0 (j := 2) rfl
          try clear f0_2
          have f0_2 := frozen_of_heap h0 2
          try clear c0_3
          have c0_3 := cell_of_heap h0 (j := 3) rfl
          try clear f0_3
          have f0_3 := frozen_of_heap h0 3
          try clear c0_4
          have c0_4 := cell_of_heap h0 (j := 4) rfl
          try clear f0_4
          have f0_4 := frozen_of_heap h0 4
          try clear c0_5
          have c0_5 := cell_of_heap h0 (j := 5) rfl
          try clear f0_5
          have f0_5 := frozen_of_heap h0 5
          try clear c1_0
          have c1_0 := cell_of_heap h1 (j := 0) rfl
          try clear f1_0
          have f1_0 := frozen_of_heap h1 0
          try clear c1_1
          have c1_1 := cell_of_heap h1 (j := 1) rfl
          try clear f1_1
          have f1_1 := frozen_of_heap h1 1
          try clear c1_2
          have c1_2 := cell_of_heap h1 (j := 2) rfl
          try clear f1_2
          have f1_2 := frozen_of_heap h1 2
          try clear c1_3
          have c1_3 := cell_of_heap h1 (j := 3) rfl
          try clear f1_3
          have f1_3 := frozen_of_heap h1 3
          try clear c1_4
          have c1_4 := cell_of_heap h1 (j := 4) rfl
          try clear f1_4
          have f1_4 := frozen_of_heap h1 4
          try clear c1_5
          have c1_5 := cell_of_heap h1 (j := 5) rfl
          try clear f1_5
          have f1_5 := frozen_of_heap h1 5
          try clear c2_0
          have c2_0 := cell_of_heap h2 (j := 0) rfl
          try clear f2_0
          have f2_0 := frozen_of_heap h2 0
          try clear c2_1
          have c2_1 := cell_of_heap h2 (j := 1) rfl
          try clear f2_1
          have f2_1 := frozen_of_heap h2 1
          try clear c2_2
          have c2_2 := cell_of_heap h2 (j := 2) rfl
          try clear f2_2
          have f2_2 := frozen_of_heap h2 2
          try clear c2_3
          have c2_3 := cell_of_heap h2 (j := 3) rfl
          try clear f2_3
          have f2_3 := frozen_of_heap h2 3
          try clear c2_4
          have c2_4 := cell_of_heap h2 (j := 4) rfl
          try clear f2_4
          have f2_4 := frozen_of_heap h2 4
          try clear c2_5
          have c2_5 := cell_of_heap h2 (j := 5) rfl
          try clear f2_5
          have f2_5 := frozen_of_heap h2 5
          try clear c3_0
          have c3_0 := cell_of_heap h3 (j := 0) rfl
          try clear f3_0
          have f3_0 := frozen_of_heap h3 0
          try clear c3_1
          have c3_1 := cell_of_heap h3 (j := 1) rfl
          try clear f3_1
          have f3_1 := frozen_of_heap h3 1
          refine bodyPost_ret (results_bt rfl _ _ (w.heap.size + 1) rfl rfl h1 Tryd.underlying49 rfl (by kernel_rfl)) rfl ⟨rfl, D7.out⟩
end Go.Proofs.YtjekfkmcgfnkaaaDoor
