/- Moves in the reference: apply, Apply, Compose. -/
import Derived.Test.YtjekfkmcgfnkaaaDoorID
namespace Go.Proofs.YtjekfkmcgfnkaaaDoor
open Go.RowKit Go.Lib
set_option linter.unusedSimpArgs false
set_option linter.unusedVariables false
theorem appl_image (m : Mov) (p : Pt) : (appl m p).w = ⟨wrap64 ((image m.m p).w.x + m.t.x), wrap64 ((image m.m p).w.y + m.t.y)⟩ := by
  simp only [Pt.w, appl, image, wrap64_al]
set_option maxHeartbeats 4000000 in
set_option maxRecDepth 100000 in
theorem rapply_any (m : Mov) (p : Pt) (w : World) : Calls Tryd.prog 75 #[m.val, p.val] w fun e w' => e = .returned ((appl m p).w.val) ∧ Below w.heap.size w w' := by
  have C1 := fun W => rImage_any m.m p W
  rw [appl_image]
  generalize (image m.m p).w = q at *
  unfold Mov.val Pt.val Mat.val at *
  have H1 := Lib.hid C1
  clear C1
  go_enter Tryd.func75, Tryd.ntmps75
  go_wp2_with fail
  refine (H1.out _).mono ?_
  rintro e w1 ⟨rfl, hb⟩
  have h0 : w1.heap[w.heap.size]? = some (.cells #[.int .i64 m.m.a, .int .i64 m.m.b, .int .i64 m.m.c, .int .i64 m.m.d, .int .i64 m.t.x, .int .i64 m.t.y] 49 (0, 0)) := hb_below hb (by repeat (first | (refine hb_new ?_; (first | omega | (simp; omega) | (simp; done))) | (refine hb_old ?_ ?_; rotate_left; focus (first | omega | (simp; omega) | (simp; done))) | refine hb_drew ?_)) (by first | omega | (simp; omega) | (simp; done))
  have h1 : w1.heap[w.heap.size + 1]? = some (.cells #[.int .i64 p.x, .int .i64 p.y] 25 (0, 0)) := hb_below hb (by repeat (first | (refine hb_new ?_; (first | omega | (simp; omega) | (simp; done))) | (refine hb_old ?_ ?_; rotate_left; focus (first | omega | (simp; omega) | (simp; done))) | refine hb_drew ?_)) (by first | omega | (simp; omega) | (simp; done))
  have h2 : w1.heap[w.heap.size + 1 + 1]? = some (.cells #[.int .i64 0, .int .i64 0] 25 (0, 0)) := hb_below hb (by repeat (first | (refine hb_new ?_; (first | omega | (simp; omega) | (simp; done))) | (refine hb_old ?_ ?_; rotate_left; focus (first | omega | (simp; omega) | (simp; done))) | refine hb_drew ?_)) (by first | omega | (simp; omega) | (simp; done))
  have y1 := Below.size hb
  try simp only [World.size_alloc, World.size_drew] at y1
  have D1 := Lib.hid (show Below w.heap.size w w1 from Below.trans (by repeat (first | exact Below.refl _ _ | refine Below.alloc ?_ (by first | omega | (simp; omega) | (simp; done)) _)) (Below.mono hb (by first | omega | (simp; omega) | (simp; done))))
  have z1 := D1.out.size
  clear hb
  try clear c0_0
  have c0_0 := cell_of_heap h0 (j := 0) rfl
  try clear f0_0
  have f0_0 := frozen_of_heap h0 0
  try clear c0_1
  have c0_1 := cell_of_heap h0 (j := 1) rfl
  try clear f0_1
  have f0_1 := frozen_of_heap h0 1
  try clear c0_2
  have c0_2 := cell_of_heap h0 (j := 2) rfl
  try clear f0_2
  have f0_2 := frozen_of_heap h0 2
  try clear c0_3
  have c0_3 := cell_of_heap h0 (j := 3) rfl
  try clear f0_3
  have f0_3 := frozen_of_heap h0 3
  try clear c0_4
  have c0_4 := cell_of_heap h0 (j := 4) rfl
  try clear f0_4
  have f0_4 := frozen_of_heap h0 4
  try clear c0_5
  have c0_5 := cell_of_heap h0 (j := 5) rfl
  try clear f0_5
  have f0_5 := frozen_of_heap h0 5
  try clear c1_0
  have c1_0 := cell_of_heap h1 (j := 0) rfl
  try clear f1_0
  have f1_0 := frozen_of_heap h1 0
  try clear c1_1
  have c1_1 := cell_of_heap h1 (j := 1) rfl
  try clear f1_1
  have f1_1 := frozen_of_heap h1 1
  try clear c2_0
  have c2_0 := cell_of_heap h2 (j := 0) rfl
  try clear f2_0
  have f2_0 := frozen_of_heap h2 0
  try clear c2_1
  have c2_1 := cell_of_heap h2 (j := 1) rfl
  try clear f2_1
  have f2_1 := frozen_of_heap h2 1
  have ha0 : (w1.alloc (.cells #[.int .i64 q.x, .int .i64 q.y] 25)).heap[w.heap.size]? = some (.cells #[.int .i64 m.m.a, .int .i64 m.m.b, .int .i64 m.m.c, .int .i64 m.m.d, .int .i64 m.t.x, .int .i64 m.t.y] 49 (0, 0)) := (by repeat (first | exact h0 | (refine hb_new ?_; (first | omega | (simp; omega) | (simp; done))) | (refine hb_old ?_ ?_; rotate_left; focus (first | omega | (simp; omega) | (simp; done))) | refine hb_drew ?_))
  have ca0_0 := cell_of_heap ha0 (j := 0) rfl
  have fa0_0 := frozen_of_heap ha0 0
  have ca0_1 := cell_of_heap ha0 (j := 1) rfl
  have fa0_1 := frozen_of_heap ha0 1
  have ca0_2 := cell_of_heap ha0 (j := 2) rfl
  have fa0_2 := frozen_of_heap ha0 2
  have ca0_3 := cell_of_heap ha0 (j := 3) rfl
  have fa0_3 := frozen_of_heap ha0 3
  have ca0_4 := cell_of_heap ha0 (j := 4) rfl
  have fa0_4 := frozen_of_heap ha0 4
  have ca0_5 := cell_of_heap ha0 (j := 5) rfl
  have fa0_5 := frozen_of_heap ha0 5
  have ha2 : (w1.alloc (.cells #[.int .i64 q.x, .int .i64 q.y] 25)).heap[w.heap.size + 1 + 1]? = some (.cells #[.int .i64 0, .int .i64 0] 25 (0, 0)) := (by repeat (first | exact h2 | (refine hb_new ?_; (first | omega | (simp; omega) | (simp; done))) | (refine hb_old ?_ ?_; rotate_left; focus (first | omega | (simp; omega) | (simp; done))) | refine hb_drew ?_))
  have ca2_0 := cell_of_heap ha2 (j := 0) rfl
  have fa2_0 := frozen_of_heap ha2 0
  have ca2_1 := cell_of_heap ha2 (j := 1) rfl
  have fa2_1 := frozen_of_heap ha2 1
  go_wp2_with fail
  obtain ⟨w2, hw2⟩ : ∃ W, W = (w1.alloc (.cells #[.int .i64 q.x, .int .i64 q.y] 25)) := ⟨_, rfl⟩
  rw [← hw2]
  replace h0 : w2.heap[w.heap.size]? = some (.cells #[.int .i64 m.m.a, .int .i64 m.m.b, .int .i64 m.m.c, .int .i64 m.m.d, .int .i64 m.t.x, .int .i64 m.t.y] 49 (0, 0)) := by rw [hw2]; exact (by repeat (first | exact h0 | (refine hb_new ?_; (first | omega | (simp; omega) | (simp; done))) | (refine hb_old ?_ ?_; rotate_left; focus (first | omega | (simp; omega) | (simp; done))) | refine hb_drew ?_))
  replace h1 : w2.heap[w.heap.size + 1]? = some (.cells #[.int .i64 p.x, .int .i64 p.y] 25 (0, 0)) := by rw [hw2]; exact (by repeat (first | exact h1 | (refine hb_new ?_; (first | omega | (simp; omega) | (simp; done))) | (refine hb_old ?_ ?_; rotate_left; focus (first | omega | (simp; omega) | (simp; done))) | refine hb_drew ?_))
  replace h2 : w2.heap[w.heap.size + 1 + 1]? = some (.cells #[.int .i64 0, .int .i64 0] 25 (0, 0)) := by rw [hw2]; exact (by repeat (first | exact h2 | (refine hb_new ?_; (first | omega | (simp; omega) | (simp; done))) | (refine hb_old ?_ ?_; rotate_left; focus (first | omega | (simp; omega) | (simp; done))) | refine hb_drew ?_))
  have h3 : w2.heap[w1.heap.size]? = some (.cells #[.int .i64 q.x, .int .i64 q.y] 25 (0, 0)) := by rw [hw2]; exact (by repeat (first | (refine hb_new ?_; (first | omega | (simp; omega) | (simp; done))) | (refine hb_old ?_ ?_; rotate_left; focus (first | omega | (simp; omega) | (simp; done))) | refine hb_drew ?_))
  have hb : Below w1.heap.size w1 w2 := by rw [hw2]; exact (by repeat (first | exact Below.refl _ _ | refine Below.alloc ?_ (by first | omega | (simp; omega) | (simp; done)) _ | refine Below.drew ?_))
  have s2 : w1.heap.size + 1 ≤ w2.heap.size := by rw [hw2]; simp
  have y2 := Below.size hb
  try simp only [World.size_alloc, World.size_drew] at y2
  have D2 := Lib.hid (show Below w.heap.size w w2 from Below.trans (by repeat (first | exact D1.out | exact Below.refl _ _ | refine Below.alloc ?_ (by first | omega | (simp; omega) | (simp; done)) _)) (Below.mono hb (by first | omega | (simp; omega) | (simp; done))))
  have z2 := D2.out.size
  clear hb hw2
  try clear c0_0
  have c0_0 := cell_of_heap h0 (j := 0) rfl
  try clear f0_0
  have f0_0 := frozen_of_heap h0 0
  try clear c0_1
  have c0_1 := cell_of_heap h0 (j := 1) rfl
  try clear f0_1
  have f0_1 := frozen_of_heap h0 1
  try clear c0_2
  have c0_2 := cell_of_heap h0 (j := 2) rfl
  try clear f0_2
  have f0_2 := frozen_of_heap h0 2
  try clear c0_3
  have c0_3 := cell_of_heap h0 (j := 3) rfl
  try clear f0_3
  have f0_3 := frozen_of_heap h0 3
  try clear c0_4
  have c0_4 := cell_of_heap h0 (j := 4) rfl
  try clear f0_4
  have f0_4 := frozen_of_heap h0 4
  try clear c0_5
  have c0_5 := cell_of_heap h0 (j := 5) rfl
  try clear f0_5
  have f0_5 := frozen_of_heap h0 5
  try clear c1_0
  have c1_0 := cell_of_heap h1 (j := 0) rfl
  try clear f1_0
  have f1_0 := frozen_of_heap h1 0
  try clear c1_1
  have c1_1 := cell_of_heap h1 (j := 1) rfl
  try clear f1_1
  have f1_1 := frozen_of_heap h1 1
  try clear c2_0
  have c2_0 := cell_of_heap h2 (j := 0) rfl
  try clear f2_0
  have f2_0 := frozen_of_heap h2 0
  try clear c2_1
  have c2_1 := cell_of_heap h2 (j := 1) rfl
  try clear f2_1
  have f2_1 := frozen_of_heap h2 1
  try clear c3_0
  have c3_0 := cell_of_heap h3 (j := 0) rfl
  try clear f3_0
  have f3_0 := frozen_of_heap h3 0
  try clear c3_1
  have c3_1 := cell_of_heap h3 (j := 1) rfl
  try clear f3_1
  have f3_1 := frozen_of_heap h3 1
  have q1 := (Below.heap_setCell w2 ⟨w.heap.size + 1 + 1, 0, none⟩ (.int .i64 (wrap64 (q.x + m.t.x))) (w.heap.size) (by first | omega | assumption | (apply Ne.symm; assumption) | (simp; done) | (simp; omega))).trans h0
  have q2 := (Below.heap_setCell w2 ⟨w.heap.size + 1 + 1, 0, none⟩ (.int .i64 (wrap64 (q.x + m.t.x))) (w.heap.size + 1) (by first | omega | assumption | (apply Ne.symm; assumption) | (simp; done) | (simp; omega))).trans h1
  have q3 := heap_setCell_same w2 (w.heap.size + 1 + 1) 0 _ _ (.int .i64 (wrap64 (q.x + m.t.x))) h2
  have q4 := (Below.heap_setCell w2 ⟨w.heap.size + 1 + 1, 0, none⟩ (.int .i64 (wrap64 (q.x + m.t.x))) (w1.heap.size) (by first | omega | assumption | (apply Ne.symm; assumption) | (simp; done) | (simp; omega))).trans h3
  have q5 := (Below.heap_setCell (w2.setCell ⟨w.heap.size + 1 + 1, 0, none⟩ (.int .i64 (wrap64 (q.x + m.t.x)))) ⟨w.heap.size + 1 + 1, 1, none⟩ (.int .i64 (wrap64 (q.y + m.t.y))) (w.heap.size) (by first | omega | assumption | (apply Ne.symm; assumption) | (simp; done) | (simp; omega))).trans q1
  have q6 := (Below.heap_setCell (w2.setCell ⟨w.heap.size + 1 + 1, 0, none⟩ (.int .i64 (wrap64 (q.x + m.t.x)))) ⟨w.heap.size + 1 + 1, 1, none⟩ (.int .i64 (wrap64 (q.y + m.t.y))) (w.heap.size + 1) (by first | omega | assumption | (apply Ne.symm; assumption) | (simp; done) | (simp; omega))).trans q2
  have q7 := heap_setCell_same (w2.setCell ⟨w.heap.size + 1 + 1, 0, none⟩ (.int .i64 (wrap64 (q.x + m.t.x)))) (w.heap.size + 1 + 1) 1 _ _ (.int .i64 (wrap64 (q.y + m.t.y))) q3
  have q8 := (Below.heap_setCell (w2.setCell ⟨w.heap.size + 1 + 1, 0, none⟩ (.int .i64 (wrap64 (q.x + m.t.x)))) ⟨w.heap.size + 1 + 1, 1, none⟩ (.int .i64 (wrap64 (q.y + m.t.y))) (w1.heap.size) (by first | omega | assumption | (apply Ne.symm; assumption) | (simp; done) | (simp; omega))).trans q4
  obtain ⟨w3, hw3⟩ : ∃ W, W = ((w2.setCell ⟨w.heap.size + 1 + 1, 0, none⟩ (.int .i64 (wrap64 (q.x + m.t.x)))).setCell ⟨w.heap.size + 1 + 1, 1, none⟩ (.int .i64 (wrap64 (q.y + m.t.y)))) := ⟨_, rfl⟩
  rw [← hw3]
  replace h0 : w3.heap[w.heap.size]? = some (.cells #[.int .i64 m.m.a, .int .i64 m.m.b, .int .i64 m.m.c, .int .i64 m.m.d, .int .i64 m.t.x, .int .i64 m.t.y] 49 (0, 0)) := by rw [hw3]; exact q5
  replace h1 : w3.heap[w.heap.size + 1]? = some (.cells #[.int .i64 p.x, .int .i64 p.y] 25 (0, 0)) := by rw [hw3]; exact q6
  replace h2 : w3.heap[w.heap.size + 1 + 1]? = some (.cells #[.int .i64 (wrap64 (q.x + m.t.x)), .int .i64 (wrap64 (q.y + m.t.y))] 25 (0, 0)) := by rw [hw3]; exact q7
  replace h3 : w3.heap[w1.heap.size]? = some (.cells #[.int .i64 q.x, .int .i64 q.y] 25 (0, 0)) := by rw [hw3]; exact q8
  have D3 := Lib.hid (show Below w.heap.size w w3 by rw [hw3]; exact (Below.setCell (Below.setCell D2.out (p := ⟨w.heap.size + 1 + 1, 0, none⟩) (by first | omega | (simp; done) | (simp; omega)) (.int .i64 (wrap64 (q.x + m.t.x)))) (p := ⟨w.heap.size + 1 + 1, 1, none⟩) (by first | omega | (simp; done) | (simp; omega)) (.int .i64 (wrap64 (q.y + m.t.y)))))
  have z3 := D3.out.size
  have y3 : w3.heap.size = w2.heap.size := by rw [hw3]; simp
  clear q8 q7 q6 q5 q4 q3 q2 q1 hw3
  try clear c0_0
  have c0_0 := cell_of_heap h0 (j := 0) rfl
  try clear f0_0
  have f0_0 := frozen_of_heap h0 0
  try clear c0_1
  have c0_1 := cell_of_heap h0 (j := 1) rfl
  try clear f0_1
  have f0_1 := frozen_of_heap h0 1
  try clear c0_2
  have c0_2 := cell_of_heap h0 (j := 2) rfl
  try clear f0_2
  have f0_2 := frozen_of_heap h0 2
  try clear c0_3
  have c0_3 := cell_of_heap h0 (j := 3) rfl
  try clear f0_3
  have f0_3 := frozen_of_heap h0 3
  try clear c0_4
  have c0_4 := cell_of_heap h0 (j := 4) rfl
  try clear f0_4
  have f0_4 := frozen_of_heap h0 4
  try clear c0_5
  have c0_5 := cell_of_heap h0 (j := 5) rfl
  try clear f0_5
  have f0_5 := frozen_of_heap h0 5
  try clear c1_0
  have c1_0 := cell_of_heap h1 (j := 0) rfl
  try clear f1_0
  have f1_0 := frozen_of_heap h1 0
  try clear c1_1
  have c1_1 := cell_of_heap h1 (j := 1) rfl
  try clear f1_1
  have f1_1 := frozen_of_heap h1 1
  try clear c2_0
  have c2_0 := cell_of_heap h2 (j := 0) rfl
  try clear f2_0
  have f2_0 := frozen_of_heap h2 0
  try clear c2_1
  have c2_1 := cell_of_heap h2 (j := 1) rfl
  try clear f2_1
  have f2_1 := frozen_of_heap h2 1
  try clear c3_0
  have c3_0 := cell_of_heap h3 (j := 0) rfl
  try clear f3_0
  have f3_0 := frozen_of_heap h3 0
  try clear c3_1
  have c3_1 := cell_of_heap h3 (j := 1) rfl
  try clear f3_1
  have f3_1 := frozen_of_heap h3 1
  refine bodyPost_ret (results_cell_row rfl _ _ (w.heap.size + 1 + 1) _ _ (0, 0) _ rfl h2 Tryd.underlying25 rfl (by kernel_rfl)) rfl ⟨rfl, D3.out⟩
set_option maxHeartbeats 4000000 in
set_option maxRecDepth 100000 in
theorem rApply_any (m : Mov) (p : Pt) (w : World) : Calls Tryd.prog 30 #[m.val, p.val] w fun e w' => e = .returned (.tuple #[(appV m p).val, .int .i64 (appE m p)]) ∧ Below w.heap.size w w' := by
  have C1 := fun W => rMove_any m W
  have C2 := fun W => rPoint_any p W
  have C3 := fun W => rapply_any m p W
  have C4 := fun W => rPoint_any (appl m p).w W
  unfold appV appE
  generalize okV m = b1 at *
  generalize okP p = b2 at *
  generalize (appl m p).w = q at *
  generalize okP q = b3 at *
  unfold Mov.val Pt.val at *
  have H1 := Lib.hid C1
  have H2 := Lib.hid C2
  have H3 := Lib.hid C3
  have H4 := Lib.hid C4
  clear C1 C2 C3 C4
  cases b1
  · simp only [Bool.false_and, Bool.true_and, Bool.and_self, Bool.and_false, Bool.and_true, Bool.false_eq_true, if_true, if_false]
    go_enter Tryd.func30, Tryd.ntmps30
    go_wp2_with fail
    refine (H1.out _).mono ?_
    rintro e w1 ⟨rfl, hb⟩
    have h0 : w1.heap[w.heap.size]? = some (.cells #[.int .i64 m.m.a, .int .i64 m.m.b, .int .i64 m.m.c, .int .i64 m.m.d, .int .i64 m.t.x, .int .i64 m.t.y] 49 (0, 0)) := hb_below hb (by repeat (first | (refine hb_new ?_; (first | omega | (simp; omega) | (simp; done))) | (refine hb_old ?_ ?_; rotate_left; focus (first | omega | (simp; omega) | (simp; done))) | refine hb_drew ?_)) (by first | omega | (simp; omega) | (simp; done))
    have h1 : w1.heap[w.heap.size + 1]? = some (.cells #[.int .i64 p.x, .int .i64 p.y] 25 (0, 0)) := hb_below hb (by repeat (first | (refine hb_new ?_; (first | omega | (simp; omega) | (simp; done))) | (refine hb_old ?_ ?_; rotate_left; focus (first | omega | (simp; omega) | (simp; done))) | refine hb_drew ?_)) (by first | omega | (simp; omega) | (simp; done))
    have h2 : w1.heap[w.heap.size + 1 + 1]? = some (.cells #[.int .i64 0, .int .i64 0] 25 (0, 0)) := hb_below hb (by repeat (first | (refine hb_new ?_; (first | omega | (simp; omega) | (simp; done))) | (refine hb_old ?_ ?_; rotate_left; focus (first | omega | (simp; omega) | (simp; done))) | refine hb_drew ?_)) (by first | omega | (simp; omega) | (simp; done))
    have y1 := Below.size hb
    try simp only [World.size_alloc, World.size_drew] at y1
    have D1 := Lib.hid (show Below w.heap.size w w1 from Below.trans (by repeat (first | exact Below.refl _ _ | refine Below.alloc ?_ (by first | omega | (simp; omega) | (simp; done)) _)) (Below.mono hb (by first | omega | (simp; omega) | (simp; done))))
    have z1 := D1.out.size
    clear hb
    try clear c0_0
    have c0_0 := cell_of_heap h0 (j := 0) rfl
    try clear f0_0
    have f0_0 := frozen_of_heap h0 0
    try clear c0_1
    have c0_1 := cell_of_heap h0 (j := 1) rfl
    try clear f0_1
    have f0_1 := frozen_of_heap h0 1
    try clear c0_2
    have c0_2 := cell_of_heap h0 (j := 2) rfl
    try clear f0_2
    have f0_2 := frozen_of_heap h0 2
    try clear c0_3
    have c0_3 := cell_of_heap h0 (j := 3) rfl
    try clear f0_3
    have f0_3 := frozen_of_heap h0 3
    try clear c0_4
    have c0_4 := cell_of_heap h0 (j := 4) rfl
    try clear f0_4
    have f0_4 := frozen_of_heap h0 4
    try clear c0_5
    have c0_5 := cell_of_heap h0 (j := 5) rfl
    try clear f0_5
    have f0_5 := frozen_of_heap h0 5
    try clear c1_0
    have c1_0 := cell_of_heap h1 (j := 0) rfl
    try clear f1_0
    have f1_0 := frozen_of_heap h1 0
    try clear c1_1
    have c1_1 := cell_of_heap h1 (j := 1) rfl
    try clear f1_1
    have f1_1 := frozen_of_heap h1 1
    try clear c2_0
    have c2_0 := cell_of_heap h2 (j := 0) rfl
    try clear f2_0
    have f2_0 := frozen_of_heap h2 0
    try clear c2_1
    have c2_1 := cell_of_heap h2 (j := 1) rfl
    try clear f2_1
    have f2_1 := frozen_of_heap h2 1
    go_wp2_with fail
    have q1 := (Below.heap_setCell w1 ⟨w.heap.size + 1 + 1, 0, none⟩ (.int .i64 0) (w.heap.size) (by first | omega | assumption | (apply Ne.symm; assumption) | (simp; done) | (simp; omega))).trans h0
    have q2 := (Below.heap_setCell w1 ⟨w.heap.size + 1 + 1, 0, none⟩ (.int .i64 0) (w.heap.size + 1) (by first | omega | assumption | (apply Ne.symm; assumption) | (simp; done) | (simp; omega))).trans h1
    have q3 := heap_setCell_same w1 (w.heap.size + 1 + 1) 0 _ _ (.int .i64 0) h2
    have q4 := (Below.heap_setCell (w1.setCell ⟨w.heap.size + 1 + 1, 0, none⟩ (.int .i64 0)) ⟨w.heap.size + 1 + 1, 1, none⟩ (.int .i64 0) (w.heap.size) (by first | omega | assumption | (apply Ne.symm; assumption) | (simp; done) | (simp; omega))).trans q1
    have q5 := (Below.heap_setCell (w1.setCell ⟨w.heap.size + 1 + 1, 0, none⟩ (.int .i64 0)) ⟨w.heap.size + 1 + 1, 1, none⟩ (.int .i64 0) (w.heap.size + 1) (by first | omega | assumption | (apply Ne.symm; assumption) | (simp; done) | (simp; omega))).trans q2
    have q6 := heap_setCell_same (w1.setCell ⟨w.heap.size + 1 + 1, 0, none⟩ (.int .i64 0)) (w.heap.size + 1 + 1) 1 _ _ (.int .i64 0) q3
    obtain ⟨w2, hw2⟩ : ∃ W, W = ((w1.setCell ⟨w.heap.size + 1 + 1, 0, none⟩ (.int .i64 0)).setCell ⟨w.heap.size + 1 + 1, 1, none⟩ (.int .i64 0)) := ⟨_, rfl⟩
    rw [← hw2]
    replace h0 : w2.heap[w.heap.size]? = some (.cells #[.int .i64 m.m.a, .int .i64 m.m.b, .int .i64 m.m.c, .int .i64 m.m.d, .int .i64 m.t.x, .int .i64 m.t.y] 49 (0, 0)) := by rw [hw2]; exact q4
    replace h1 : w2.heap[w.heap.size + 1]? = some (.cells #[.int .i64 p.x, .int .i64 p.y] 25 (0, 0)) := by rw [hw2]; exact q5
    replace h2 : w2.heap[w.heap.size + 1 + 1]? = some (.cells #[.int .i64 0, .int .i64 0] 25 (0, 0)) := by rw [hw2]; exact q6
    have D2 := Lib.hid (show Below w.heap.size w w2 by rw [hw2]; exact (Below.setCell (Below.setCell D1.out (p := ⟨w.heap.size + 1 + 1, 0, none⟩) (by first | omega | (simp; done) | (simp; omega)) (.int .i64 0)) (p := ⟨w.heap.size + 1 + 1, 1, none⟩) (by first | omega | (simp; done) | (simp; omega)) (.int .i64 0)))
    have z2 := D2.out.size
    have y2 : w2.heap.size = w1.heap.size := by rw [hw2]; simp
    clear q6 q5 q4 q3 q2 q1 hw2
    try clear c0_0
    have c0_0 := cell_of_heap h0 (j := 0) rfl
    try clear f0_0
    have f0_0 := frozen_of_heap h0 0
    try clear c0_1
    have c0_1 := cell_of_heap h0 (j := 1) rfl
    try clear f0_1
    have f0_1 := frozen_of_heap h0 1
    try clear c0_2
    have c0_2 := cell_of_heap h0 (j := 2) rfl
    try clear f0_2
    have f0_2 := frozen_of_heap h0 2
    try clear c0_3
    have c0_3 := cell_of_heap h0 (j := 3) rfl
    try clear f0_3
    have f0_3 := frozen_of_heap h0 3
    try clear c0_4
    have c0_4 := cell_of_heap h0 (j := 4) rfl
    try clear f0_4
    have f0_4 := frozen_of_heap h0 4
    try clear c0_5
    have c0_5 := cell_of_heap h0 (j := 5) rfl
    try clear f0_5
    have f0_5 := frozen_of_heap h0 5
    try clear c1_0
    have c1_0 := cell_of_heap h1 (j := 0) rfl
    try clear f1_0
    have f1_0 := frozen_of_heap h1 0
    try clear c1_1
    have c1_1 := cell_of_heap h1 (j := 1) rfl
    try clear f1_1
    have f1_1 := frozen_of_heap h1 1
    try clear c2_0
    have c2_0 := cell_of_heap h2 (j := 0) rfl
    try clear f2_0
    have f2_0 := frozen_of_heap h2 0
    try clear c2_1
    have c2_1 := cell_of_heap h2 (j := 1) rfl
    try clear f2_1
    have f2_1 := frozen_of_heap h2 1
    refine bodyPost_ret (results_bt rfl _ _ (w.heap.size + 1 + 1) rfl rfl h2 Tryd.underlying25 rfl (by kernel_rfl)) rfl ⟨rfl, D2.out⟩
  · cases b2
    · simp only [Bool.false_and, Bool.true_and, Bool.and_self, Bool.and_false, Bool.and_true, Bool.false_eq_true, if_true, if_false]
      go_enter Tryd.func30, Tryd.ntmps30
      go_wp2_with fail
      refine (H1.out _).mono ?_
      rintro e w1 ⟨rfl, hb⟩
      have h0 : w1.heap[w.heap.size]? = some (.cells #[.int .i64 m.m.a, .int .i64 m.m.b, .int .i64 m.m.c, .int .i64 m.m.d, .int .i64 m.t.x, .int .i64 m.t.y] 49 (0, 0)) := hb_below hb (by repeat (first | (refine hb_new ?_; (first | omega | (simp; omega) | (simp; done))) | (refine hb_old ?_ ?_; rotate_left; focus (first | omega | (simp; omega) | (simp; done))) | refine hb_drew ?_)) (by first | omega | (simp; omega) | (simp; done))
      have h1 : w1.heap[w.heap.size + 1]? = some (.cells #[.int .i64 p.x, .int .i64 p.y] 25 (0, 0)) := hb_below hb (by repeat (first | (refine hb_new ?_; (first | omega | (simp; omega) | (simp; done))) | (refine hb_old ?_ ?_; rotate_left; focus (first | omega | (simp; omega) | (simp; done))) | refine hb_drew ?_)) (by first | omega | (simp; omega) | (simp; done))
      have h2 : w1.heap[w.heap.size + 1 + 1]? = some (.cells #[.int .i64 0, .int .i64 0] 25 (0, 0)) := hb_below hb (by repeat (first | (refine hb_new ?_; (first | omega | (simp; omega) | (simp; done))) | (refine hb_old ?_ ?_; rotate_left; focus (first | omega | (simp; omega) | (simp; done))) | refine hb_drew ?_)) (by first | omega | (simp; omega) | (simp; done))
      have y1 := Below.size hb
      try simp only [World.size_alloc, World.size_drew] at y1
      have D1 := Lib.hid (show Below w.heap.size w w1 from Below.trans (by repeat (first | exact Below.refl _ _ | refine Below.alloc ?_ (by first | omega | (simp; omega) | (simp; done)) _)) (Below.mono hb (by first | omega | (simp; omega) | (simp; done))))
      have z1 := D1.out.size
      clear hb
      try clear c0_0
      have c0_0 := cell_of_heap h0 (j := 0) rfl
      try clear f0_0
      have f0_0 := frozen_of_heap h0 0
      try clear c0_1
      have c0_1 := cell_of_heap h0 (j := 1) rfl
      try clear f0_1
      have f0_1 := frozen_of_heap h0 1
      try clear c0_2
      have c0_2 := cell_of_heap h0 (j := 2) rfl
      try clear f0_2
      have f0_2 := frozen_of_heap h0 2
      try clear c0_3
      have c0_3 := cell_of_heap h0 (j := 3) rfl
      try clear f0_3
      have f0_3 := frozen_of_heap h0 3
      try clear c0_4
      have c0_4 := cell_of_heap h0 (j := 4) rfl
      try clear f0_4
      have f0_4 := frozen_of_heap h0 4
      try clear c0_5
      have c0_5 := cell_of_heap h0 (j := 5) rfl
      try clear f0_5
      have f0_5 := frozen_of_heap h0 5
      try clear c1_0
      have c1_0 := cell_of_heap h1 (j := 0) rfl
      try clear f1_0
      have f1_0 := frozen_of_heap h1 0
      try clear c1_1
      have c1_1 := cell_of_heap h1 (j := 1) rfl
      try clear f1_1
      have f1_1 := frozen_of_heap h1 1
      try clear c2_0
      have c2_0 := cell_of_heap h2 (j := 0) rfl
      try clear f2_0
      have f2_0 := frozen_of_heap h2 0
      try clear c2_1
      have c2_1 := cell_of_heap h2 (j := 1) rfl
      try clear f2_1
      have f2_1 := frozen_of_heap h2 1
      go_wp2_with fail
      refine (H2.out _).mono ?_
      rintro e w2 ⟨rfl, hb⟩
      replace h0 : w2.heap[w.heap.size]? = some (.cells #[.int .i64 m.m.a, .int .i64 m.m.b, .int .i64 m.m.c, .int .i64 m.m.d, .int .i64 m.t.x, .int .i64 m.t.y] 49 (0, 0)) := hb_below hb (by repeat (first | exact h0 | (refine hb_new ?_; (first | omega | (simp; omega) | (simp; done))) | (refine hb_old ?_ ?_; rotate_left; focus (first | omega | (simp; omega) | (simp; done))) | refine hb_drew ?_)) (by first | omega | (simp; omega) | (simp; done))
      replace h1 : w2.heap[w.heap.size + 1]? = some (.cells #[.int .i64 p.x, .int .i64 p.y] 25 (0, 0)) := hb_below hb (by repeat (first | exact h1 | (refine hb_new ?_; (first | omega | (simp; omega) | (simp; done))) | (refine hb_old ?_ ?_; rotate_left; focus (first | omega | (simp; omega) | (simp; done))) | refine hb_drew ?_)) (by first | omega | (simp; omega) | (simp; done))
      replace h2 : w2.heap[w.heap.size + 1 + 1]? = some (.cells #[.int .i64 0, .int .i64 0] 25 (0, 0)) := hb_below hb (by repeat (first | exact h2 | (refine hb_new ?_; (first | omega | (simp; omega) | (simp; done))) | (refine hb_old ?_ ?_; rotate_left; focus (first | omega | (simp; omega) | (simp; done))) | refine hb_drew ?_)) (by first | omega | (simp; omega) | (simp; done))
      have y2 := Below.size hb
      try simp only [World.size_alloc, World.size_drew] at y2
      have D2 := Lib.hid (show Below w.heap.size w w2 from Below.trans (by repeat (first | exact D1.out | exact Below.refl _ _ | refine Below.alloc ?_ (by first | omega | (simp; omega) | (simp; done)) _)) (Below.mono hb (by first | omega | (simp; omega) | (simp; done))))
      have z2 := D2.out.size
      clear hb
      try clear c0_0
      have c0_0 := cell_of_heap h0 (j := 0) rfl
      try clear f0_0
      have f0_0 := frozen_of_heap h0 0
      try clear c0_1
      have c0_1 := cell_of_heap h0 (j := 1) rfl
      try clear f0_1
      have f0_1 := frozen_of_heap h0 1
      try clear c0_2
      have c0_2 := cell_of_heap h0 (j := 2) rfl
      try clear f0_2
      have f0_2 := frozen_of_heap h0 2
      try clear c0_3
      have c0_3 := cell_of_heap h0 (j := 3) rfl
      try clear f0_3
      have f0_3 := frozen_of_heap h0 3
      try clear c0_4
      have c0_4 := cell_of_heap h0 (j := 4) rfl
      try clear f0_4
      have f0_4 := frozen_of_heap h0 4
      try clear c0_5
      have c0_5 := cell_of_heap h0 (j := 5) rfl
      try clear f0_5
      have f0_5 := frozen_of_heap h0 5
      try clear c1_0
      have c1_0 := cell_of_heap h1 (j := 0) rfl
      try clear f1_0
      have f1_0 := frozen_of_heap h1 0
      try clear c1_1
      have c1_1 := cell_of_heap h1 (j := 1) rfl
      try clear f1_1
      have f1_1 := frozen_of_heap h1 1
      try clear c2_0
      have c2_0 := cell_of_heap h2 (j := 0) rfl
      try clear f2_0
      have f2_0 := frozen_of_heap h2 0
      try clear c2_1
      have c2_1 := cell_of_heap h2 (j := 1) rfl
      try clear f2_1
      have f2_1 := frozen_of_heap h2 1
      go_wp2_with fail
      have q1 := (Below.heap_setCell w2 ⟨w.heap.size + 1 + 1, 0, none⟩ (.int .i64 0) (w.heap.size) (by first | omega | assumption | (apply Ne.symm; assumption) | (simp; done) | (simp; omega))).trans h0
      have q2 := (Below.heap_setCell w2 ⟨w.heap.size + 1 + 1, 0, none⟩ (.int .i64 0) (w.heap.size + 1) (by first | omega | assumption | (apply Ne.symm; assumption) | (simp; done) | (simp; omega))).trans h1
      have q3 := heap_setCell_same w2 (w.heap.size + 1 + 1) 0 _ _ (.int .i64 0) h2
      have q4 := (Below.heap_setCell (w2.setCell ⟨w.heap.size + 1 + 1, 0, none⟩ (.int .i64 0)) ⟨w.heap.size + 1 + 1, 1, none⟩ (.int .i64 0) (w.heap.size) (by first | omega | assumption | (apply Ne.symm; assumption) | (simp; done) | (simp; omega))).trans q1
      have q5 := (Below.heap_setCell (w2.setCell ⟨w.heap.size + 1 + 1, 0, none⟩ (.int .i64 0)) ⟨w.heap.size + 1 + 1, 1, none⟩ (.int .i64 0) (w.heap.size + 1) (by first | omega | assumption | (apply Ne.symm; assumption) | (simp; done) | (simp; omega))).trans q2
      have q6 := heap_setCell_same (w2.setCell ⟨w.heap.size + 1 + 1, 0, none⟩ (.int .i64 0)) (w.heap.size + 1 + 1) 1 _ _ (.int .i64 0) q3
      obtain ⟨w3, hw3⟩ : ∃ W, W = ((w2.setCell ⟨w.heap.size + 1 + 1, 0, none⟩ (.int .i64 0)).setCell ⟨w.heap.size + 1 + 1, 1, none⟩ (.int .i64 0)) := ⟨_, rfl⟩
      rw [← hw3]
      replace h0 : w3.heap[w.heap.size]? = some (.cells #[.int .i64 m.m.a, .int .i64 m.m.b, .int .i64 m.m.c, .int .i64 m.m.d, .int .i64 m.t.x, .int .i64 m.t.y] 49 (0, 0)) := by rw [hw3]; exact q4
      replace h1 : w3.heap[w.heap.size + 1]? = some (.cells #[.int .i64 p.x, .int .i64 p.y] 25 (0, 0)) := by rw [hw3]; exact q5
      replace h2 : w3.heap[w.heap.size + 1 + 1]? = some (.cells #[.int .i64 0, .int .i64 0] 25 (0, 0)) := by rw [hw3]; exact q6
      have D3 := Lib.hid (show Below w.heap.size w w3 by rw [hw3]; exact (Below.setCell (Below.setCell D2.out (p := ⟨w.heap.size + 1 + 1, 0, none⟩) (by first | omega | (simp; done) | (simp; omega)) (.int .i64 0)) (p := ⟨w.heap.size + 1 + 1, 1, none⟩) (by first | omega | (simp; done) | (simp; omega)) (.int .i64 0)))
      have z3 := D3.out.size
      have y3 : w3.heap.size = w2.heap.size := by rw [hw3]; simp
      clear q6 q5 q4 q3 q2 q1 hw3
      try clear c0_0
      have c0_0 := cell_of_heap h0 (j := 0) rfl
      try clear f0_0
      have f0_0 := frozen_of_heap h0 0
      try clear c0_1
      have c0_1 := cell_of_heap h0 (j := 1) rfl
      try clear f0_1
      have f0_1 := frozen_of_heap h0 1
      try clear c0_2
      have c0_2 := cell_of_heap h0 (j := 2) rfl
      try clear f0_2
      have f0_2 := frozen_of_heap h0 2
      try clear c0_3
      have c0_3 := cell_of_heap h0 (j := 3) rfl
      try clear f0_3
      have f0_3 := frozen_of_heap h0 3
      try clear c0_4
      have c0_4 := cell_of_heap h0 (j := 4) rfl
      try clear f0_4
      have f0_4 := frozen_of_heap h0 4
      try clear c0_5
      have c0_5 := cell_of_heap h0 (j := 5) rfl
      try clear f0_5
      have f0_5 := frozen_of_heap h0 5
      try clear c1_0
      have c1_0 := cell_of_heap h1 (j := 0) rfl
      try clear f1_0
      have f1_0 := frozen_of_heap h1 0
      try clear c1_1
      have c1_1 := cell_of_heap h1 (j := 1) rfl
      try clear f1_1
      have f1_1 := frozen_of_heap h1 1
      try clear c2_0
      have c2_0 := cell_of_heap h2 (j := 0) rfl
      try clear f2_0
      have f2_0 := frozen_of_heap h2 0
      try clear c2_1
      have c2_1 := cell_of_heap h2 (j := 1) rfl
      try clear f2_1
      have f2_1 := frozen_of_heap h2 1
      refine bodyPost_ret (results_bt rfl _ _ (w.heap.size + 1 + 1) rfl rfl h2 Tryd.underlying25 rfl (by kernel_rfl)) rfl ⟨rfl, D3.out⟩
    · cases b3
      · simp only [Bool.false_and, Bool.true_and, Bool.and_self, Bool.and_false, Bool.and_true, Bool.false_eq_true, if_true, if_false]
        go_enter Tryd.func30, Tryd.ntmps30
        go_wp2_with fail
        refine (H1.out _).mono ?_
        rintro e w1 ⟨rfl, hb⟩
        have h0 : w1.heap[w.heap.size]? = some (.cells #[.int .i64 m.m.a, .int .i64 m.m.b, .int .i64 m.m.c, .int .i64 m.m.d, .int .i64 m.t.x, .int .i64 m.t.y] 49 (0, 0)) := hb_below hb (by repeat (first | (refine hb_new ?_; (first | omega | (simp; omega) | (simp; done))) | (refine hb_old ?_ ?_; rotate_left; focus (first | omega | (simp; omega) | (simp; done))) | refine hb_drew ?_)) (by first | omega | (simp; omega) | (simp; done))
        have h1 : w1.heap[w.heap.size + 1]? = some (.cells #[.int .i64 p.x, .int .i64 p.y] 25 (0, 0)) := hb_below hb (by repeat (first | (refine hb_new ?_; (first | omega | (simp; omega) | (simp; done))) | (refine hb_old ?_ ?_; rotate_left; focus (first | omega | (simp; omega) | (simp; done))) | refine hb_drew ?_)) (by first | omega | (simp; omega) | (simp; done))
        have h2 : w1.heap[w.heap.size + 1 + 1]? = some (.cells #[.int .i64 0, .int .i64 0] 25 (0, 0)) := hb_below hb (by repeat (first | (refine hb_new ?_; (first | omega | (simp; omega) | (simp; done))) | (refine hb_old ?_ ?_; rotate_left; focus (first | omega | (simp; omega) | (simp; done))) | refine hb_drew ?_)) (by first | omega | (simp; omega) | (simp; done))
        have y1 := Below.size hb
        try simp only [World.size_alloc, World.size_drew] at y1
        have D1 := Lib.hid (show Below w.heap.size w w1 from Below.trans (by repeat (first | exact Below.refl _ _ | refine Below.alloc ?_ (by first | omega | (simp; omega) | (simp; done)) _)) (Below.mono hb (by first | omega | (simp; omega) | (simp; done))))
        have z1 := D1.out.size
        clear hb
        try clear c0_0
        have c0_0 := cell_of_heap h0 (j := 0) rfl
        try clear f0_0
        have f0_0 := frozen_of_heap h0 0
        try clear c0_1
        have c0_1 := cell_of_heap h0 (j := 1) rfl
        try clear f0_1
        have f0_1 := frozen_of_heap h0 1
        try clear c0_2
        have c0_2 := cell_of_heap h0 (j := 2) rfl
        try clear f0_2
        have f0_2 := frozen_of_heap h0 2
        try clear c0_3
        have c0_3 := cell_of_heap h0 (j := 3) rfl
        try clear f0_3
        have f0_3 := frozen_of_heap h0 3
        try clear c0_4
        have c0_4 := cell_of_heap h0 (j := 4) rfl
        try clear f0_4
        have f0_4 := frozen_of_heap h0 4
        try clear c0_5
        have c0_5 := cell_of_heap h0 (j := 5) rfl
        try clear f0_5
        have f0_5 := frozen_of_heap h0 5
        try clear c1_0
        have c1_0 := cell_of_heap h1 (j := 0) rfl
        try clear f1_0
        have f1_0 := frozen_of_heap h1 0
        try clear c1_1
        have c1_1 := cell_of_heap h1 (j := 1) rfl
        try clear f1_1
        have f1_1 := frozen_of_heap h1 1
        try clear c2_0
        have c2_0 := cell_of_heap h2 (j := 0) rfl
        try clear f2_0
        have f2_0 := frozen_of_heap h2 0
        try clear c2_1
        have c2_1 := cell_of_heap h2 (j := 1) rfl
        try clear f2_1
        have f2_1 := frozen_of_heap h2 1
        go_wp2_with fail
        refine (H2.out _).mono ?_
        rintro e w2 ⟨rfl, hb⟩
        replace h0 : w2.heap[w.heap.size]? = some (.cells #[.int .i64 m.m.a, .int .i64 m.m.b, .int .i64 m.m.c, .int .i64 m.m.d, .int .i64 m.t.x, .int .i64 m.t.y] 49 (0, 0)) := hb_below hb (by repeat (first | exact h0 | (refine hb_new ?_; (first | omega | (simp; omega) | (simp; done))) | (refine hb_old ?_ ?_; rotate_left; focus (first | omega | (simp; omega) | (simp; done))) | refine hb_drew ?_)) (by first | omega | (simp; omega) | (simp; done))
        replace h1 : w2.heap[w.heap.size + 1]? = some (.cells #[.int .i64 p.x, .int .i64 p.y] 25 (0, 0)) := hb_below hb (by repeat (first | exact h1 | (refine hb_new ?_; (first | omega | (simp; omega) | (simp; done))) | (refine hb_old ?_ ?_; rotate_left; focus (first | omega | (simp; omega) | (simp; done))) | refine hb_drew ?_)) (by first | omega | (simp; omega) | (simp; done))
        replace h2 : w2.heap[w.heap.size + 1 + 1]? = some (.cells #[.int .i64 0, .int .i64 0] 25 (0, 0)) := hb_below hb (by repeat (first | exact h2 | (refine hb_new ?_; (first | omega | (simp; omega) | (simp; done))) | (refine hb_old ?_ ?_; rotate_left; focus (first | omega | (simp; omega) | (simp; done))) | refine hb_drew ?_)) (by first | omega | (simp; omega) | (simp; done))
        have y2 := Below.size hb
        try simp only [World.size_alloc, World.size_drew] at y2
        have D2 := Lib.hid (show Below w.heap.size w w2 from Below.trans (by repeat (first | exact D1.out | exact Below.refl _ _ | refine Below.alloc ?_ (by first | omega | (simp; omega) | (simp; done)) _)) (Below.mono hb (by first | omega | (simp; omega) | (simp; done))))
        have z2 := D2.out.size
        clear hb
        try clear c0_0
        have c0_0 := cell_of_heap h0 (j := 0) rfl
        try clear f0_0
        have f0_0 := frozen_of_heap h0 0
        try clear c0_1
        have c0_1 := cell_of_heap h0 (j := 1) rfl
        try clear f0_1
        have f0_1 := frozen_of_heap h0 1
        try clear c0_2
        have c0_2 := cell_of_heap h0 (j := 2) rfl
        try clear f0_2
        have f0_2 := frozen_of_heap h0 2
        try clear c0_3
        have c0_3 := cell_of_heap h0 (j := 3) rfl
        try clear f0_3
        have f0_3 := frozen_of_heap h0 3
        try clear c0_4
        have c0_4 := cell_of_heap h0 (j := 4) rfl
        try clear f0_4
        have f0_4 := frozen_of_heap h0 4
        try clear c0_5
        have c0_5 := cell_of_heap h0 (j := 5) rfl
        try clear f0_5
        have f0_5 := frozen_of_heap h0 5
        try clear c1_0
        have c1_0 := cell_of_heap h1 (j := 0) rfl
        try clear f1_0
        have f1_0 := frozen_of_heap h1 0
        try clear c1_1
        have c1_1 := cell_of_heap h1 (j := 1) rfl
        try clear f1_1
        have f1_1 := frozen_of_heap h1 1
        try clear c2_0
        have c2_0 := cell_of_heap h2 (j := 0) rfl
        try clear f2_0
        have f2_0 := frozen_of_heap h2 0
        try clear c2_1
        have c2_1 := cell_of_heap h2 (j := 1) rfl
        try clear f2_1
        have f2_1 := frozen_of_heap h2 1
        go_wp2_with fail
        refine (H3.out _).mono ?_
        rintro e w3 ⟨rfl, hb⟩
        replace h0 : w3.heap[w.heap.size]? = some (.cells #[.int .i64 m.m.a, .int .i64 m.m.b, .int .i64 m.m.c, .int .i64 m.m.d, .int .i64 m.t.x, .int .i64 m.t.y] 49 (0, 0)) := hb_below hb (by repeat (first | exact h0 | (refine hb_new ?_; (first | omega | (simp; omega) | (simp; done))) | (refine hb_old ?_ ?_; rotate_left; focus (first | omega | (simp; omega) | (simp; done))) | refine hb_drew ?_)) (by first | omega | (simp; omega) | (simp; done))
        replace h1 : w3.heap[w.heap.size + 1]? = some (.cells #[.int .i64 p.x, .int .i64 p.y] 25 (0, 0)) := hb_below hb (by repeat (first | exact h1 | (refine hb_new ?_; (first | omega | (simp; omega) | (simp; done))) | (refine hb_old ?_ ?_; rotate_left; focus (first | omega | (simp; omega) | (simp; done))) | refine hb_drew ?_)) (by first | omega | (simp; omega) | (simp; done))
        replace h2 : w3.heap[w.heap.size + 1 + 1]? = some (.cells #[.int .i64 0, .int .i64 0] 25 (0, 0)) := hb_below hb (by repeat (first | exact h2 | (refine hb_new ?_; (first | omega | (simp; omega) | (simp; done))) | (refine hb_old ?_ ?_; rotate_left; focus (first | omega | (simp; omega) | (simp; done))) | refine hb_drew ?_)) (by first | omega | (simp; omega) | (simp; done))
        have y3 := Below.size hb
        try simp only [World.size_alloc, World.size_drew] at y3
        have D3 := Lib.hid (show Below w.heap.size w w3 from Below.trans (by repeat (first | exact D2.out | exact Below.refl _ _ | refine Below.alloc ?_ (by first | omega | (simp; omega) | (simp; done)) _)) (Below.mono hb (by first | omega | (simp; omega) | (simp; done))))
        have z3 := D3.out.size
        clear hb
        try clear c0_0
        have c0_0 := cell_of_heap h0 (j := 0) rfl
        try clear f0_0
        have f0_0 := frozen_of_heap h0 0
        try clear c0_1
        have c0_1 := cell_of_heap h0 (j := 1) rfl
        try clear f0_1
        have f0_1 := frozen_of_heap h0 1
        try clear c0_2
        have c0_2 := cell_of_heap h0 (j := 2) rfl
        try clear f0_2
        have f0_2 := frozen_of_heap h0 2
        try clear c0_3
        have c0_3 := cell_of_heap h0 (j := 3) rfl
        try clear f0_3
        have f0_3 := frozen_of_heap h0 3
        try clear c0_4
        have c0_4 := cell_of_heap h0 (j := 4) rfl
        try clear f0_4
        have f0_4 := frozen_of_heap h0 4
        try clear c0_5
        have c0_5 := cell_of_heap h0 (j := 5) rfl
        try clear f0_5
        have f0_5 := frozen_of_heap h0 5
        try clear c1_0
        have c1_0 := cell_of_heap h1 (j := 0) rfl
        try clear f1_0
        have f1_0 := frozen_of_heap h1 0
        try clear c1_1
        have c1_1 := cell_of_heap h1 (j := 1) rfl
        try clear f1_1
        have f1_1 := frozen_of_heap h1 1
        try clear c2_0
        have c2_0 := cell_of_heap h2 (j := 0) rfl
        try clear f2_0
        have f2_0 := frozen_of_heap h2 0
        try clear c2_1
        have c2_1 := cell_of_heap h2 (j := 1) rfl
        try clear f2_1
        have f2_1 := frozen_of_heap h2 1
        go_wp2_with fail
        obtain ⟨w4, hw4⟩ : ∃ W, W = (w3.alloc (.cells #[.int .i64 q.x, .int .i64 q.y] 25)) := ⟨_, rfl⟩
        rw [← hw4]
        replace h0 : w4.heap[w.heap.size]? = some (.cells #[.int .i64 m.m.a, .int .i64 m.m.b, .int .i64 m.m.c, .int .i64 m.m.d, .int .i64 m.t.x, .int .i64 m.t.y] 49 (0, 0)) := by rw [hw4]; exact (by repeat (first | exact h0 | (refine hb_new ?_; (first | omega | (simp; omega) | (simp; done))) | (refine hb_old ?_ ?_; rotate_left; focus (first | omega | (simp; omega) | (simp; done))) | refine hb_drew ?_))
        replace h1 : w4.heap[w.heap.size + 1]? = some (.cells #[.int .i64 p.x, .int .i64 p.y] 25 (0, 0)) := by rw [hw4]; exact (by repeat (first | exact h1 | (refine hb_new ?_; (first | omega | (simp; omega) | (simp; done))) | (refine hb_old ?_ ?_; rotate_left; focus (first | omega | (simp; omega) | (simp; done))) | refine hb_drew ?_))
        replace h2 : w4.heap[w.heap.size + 1 + 1]? = some (.cells #[.int .i64 0, .int .i64 0] 25 (0, 0)) := by rw [hw4]; exact (by repeat (first | exact h2 | (refine hb_new ?_; (first | omega | (simp; omega) | (simp; done))) | (refine hb_old ?_ ?_; rotate_left; focus (first | omega | (simp; omega) | (simp; done))) | refine hb_drew ?_))
        have h3 : w4.heap[w3.heap.size]? = some (.cells #[.int .i64 q.x, .int .i64 q.y] 25 (0, 0)) := by rw [hw4]; exact (by repeat (first | (refine hb_new ?_; (first | omega | (simp; omega) | (simp; done))) | (refine hb_old ?_ ?_; rotate_left; focus (first | omega | (simp; omega) | (simp; done))) | refine hb_drew ?_))
        have hb : Below w3.heap.size w3 w4 := by rw [hw4]; exact (by repeat (first | exact Below.refl _ _ | refine Below.alloc ?_ (by first | omega | (simp; omega) | (simp; done)) _ | refine Below.drew ?_))
        have s4 : w3.heap.size + 1 ≤ w4.heap.size := by rw [hw4]; simp
        have S4 := Lib.hid (show w4.heap.size = w3.heap.size + 1 by rw [hw4]; simp)
        have y4 := Below.size hb
        try simp only [World.size_alloc, World.size_drew] at y4
        have D4 := Lib.hid (show Below w.heap.size w w4 from Below.trans (by repeat (first | exact D3.out | exact Below.refl _ _ | refine Below.alloc ?_ (by first | omega | (simp; omega) | (simp; done)) _)) (Below.mono hb (by first | omega | (simp; omega) | (simp; done))))
        have z4 := D4.out.size
        clear hb hw4
        try clear c0_0
        have c0_0 := cell_of_heap h0 (j := 0) rfl
        try clear f0_0
        have f0_0 := frozen_of_heap h0 0
        try clear c0_1
        have c0_1 := cell_of_heap h0 (j := 1) rfl
        try clear f0_1
        have f0_1 := frozen_of_heap h0 1
        try clear c0_2
        have c0_2 := cell_of_heap h0 (j := 2) rfl
        try clear f0_2
        have f0_2 := frozen_of_heap h0 2
        try clear c0_3
        have c0_3 := cell_of_heap h0 (j := 3) rfl
        try clear f0_3
        have f0_3 := frozen_of_heap h0 3
        try clear c0_4
        have c0_4 := cell_of_heap h0 (j := 4) rfl
        try clear f0_4
        have f0_4 := frozen_of_heap h0 4
        try clear c0_5
        have c0_5 := cell_of_heap h0 (j := 5) rfl
        try clear f0_5
        have f0_5 := frozen_of_heap h0 5
        try clear c1_0
        have c1_0 := cell_of_heap h1 (j := 0) rfl
        try clear f1_0
        have f1_0 := frozen_of_heap h1 0
        try clear c1_1
        have c1_1 := cell_of_heap h1 (j := 1) rfl
        try clear f1_1
        have f1_1 := frozen_of_heap h1 1
        try clear c2_0
        have c2_0 := cell_of_heap h2 (j := 0) rfl
        try clear f2_0
        have f2_0 := frozen_of_heap h2 0
        try clear c2_1
        have c2_1 := cell_of_heap h2 (j := 1) rfl
        try clear f2_1
        have f2_1 := frozen_of_heap h2 1
        try clear c3_0
        have c3_0 := cell_of_heap h3 (j := 0) rfl
        try clear f3_0
        have f3_0 := frozen_of_heap h3 0
        try clear c3_1
        have c3_1 := cell_of_heap h3 (j := 1) rfl
        try clear f3_1
        have f3_1 := frozen_of_heap h3 1
        refine (H4.out _).mono ?_
        rintro e w5 ⟨rfl, hb⟩
        replace h0 : w5.heap[w.heap.size]? = some (.cells #[.int .i64 m.m.a, .int .i64 m.m.b, .int .i64 m.m.c, .int .i64 m.m.d, .int .i64 m.t.x, .int .i64 m.t.y] 49 (0, 0)) := hb_below hb (by repeat (first | exact h0 | (refine hb_new ?_; (first | omega | (simp; omega) | (simp; done))) | (refine hb_old ?_ ?_; rotate_left; focus (first | omega | (simp; omega) | (simp; done))) | refine hb_drew ?_)) (by first | omega | (simp; omega) | (simp; done))
        replace h1 : w5.heap[w.heap.size + 1]? = some (.cells #[.int .i64 p.x, .int .i64 p.y] 25 (0, 0)) := hb_below hb (by repeat (first | exact h1 | (refine hb_new ?_; (first | omega | (simp; omega) | (simp; done))) | (refine hb_old ?_ ?_; rotate_left; focus (first | omega | (simp; omega) | (simp; done))) | refine hb_drew ?_)) (by first | omega | (simp; omega) | (simp; done))
        replace h2 : w5.heap[w.heap.size + 1 + 1]? = some (.cells #[.int .i64 0, .int .i64 0] 25 (0, 0)) := hb_below hb (by repeat (first | exact h2 | (refine hb_new ?_; (first | omega | (simp; omega) | (simp; done))) | (refine hb_old ?_ ?_; rotate_left; focus (first | omega | (simp; omega) | (simp; done))) | refine hb_drew ?_)) (by first | omega | (simp; omega) | (simp; done))
        replace h3 : w5.heap[w3.heap.size]? = some (.cells #[.int .i64 q.x, .int .i64 q.y] 25 (0, 0)) := hb_below hb (by repeat (first | exact h3 | (refine hb_new ?_; (first | omega | (simp; omega) | (simp; done))) | (refine hb_old ?_ ?_; rotate_left; focus (first | omega | (simp; omega) | (simp; done))) | refine hb_drew ?_)) (by first | omega | (simp; omega) | (simp; done))
        have y5 := Below.size hb
        try simp only [World.size_alloc, World.size_drew] at y5
        have D5 := Lib.hid (show Below w.heap.size w w5 from Below.trans (by repeat (first | exact D4.out | exact Below.refl _ _ | refine Below.alloc ?_ (by first | omega | (simp; omega) | (simp; done)) _)) (Below.mono hb (by first | omega | (simp; omega) | (simp; done))))
        have z5 := D5.out.size
        clear hb
        try clear c0_0
        have c0_0 := cell_of_heap h0 (j := 0) rfl
        try clear f0_0
        have f0_0 := frozen_of_heap h0 0
        try clear c0_1
        have c0_1 := cell_of_heap h0 (j := 1) rfl
        try clear f0_1
        have f0_1 := frozen_of_heap h0 1
        try clear c0_2
        have c0_2 := cell_of_heap h0 (j := 2) rfl
        try clear f0_2
        have f0_2 := frozen_of_heap h0 2
        try clear c0_3
        have c0_3 := cell_of_heap h0 (j := 3) rfl
        try clear f0_3
        have f0_3 := frozen_of_heap h0 3
        try clear c0_4
        have c0_4 := cell_of_heap h0 (j := 4) rfl
        try clear f0_4
        have f0_4 := frozen_of_heap h0 4
        try clear c0_5
        have c0_5 := cell_of_heap h0 (j := 5) rfl
        try clear f0_5
        have f0_5 := frozen_of_heap h0 5
        try clear c1_0
        have c1_0 := cell_of_heap h1 (j := 0) rfl
        try clear f1_0
        have f1_0 := frozen_of_heap h1 0
        try clear c1_1
        have c1_1 := cell_of_heap h1 (j := 1) rfl
        try clear f1_1
        have f1_1 := frozen_of_heap h1 1
        try clear c2_0
        have c2_0 := cell_of_heap h2 (j := 0) rfl
        try clear f2_0
        have f2_0 := frozen_of_heap h2 0
        try clear c2_1
        have c2_1 := cell_of_heap h2 (j := 1) rfl
        try clear f2_1
        have f2_1 := frozen_of_heap h2 1
        try clear c3_0
        have c3_0 := cell_of_heap h3 (j := 0) rfl
        try clear f3_0
        have f3_0 := frozen_of_heap h3 0
        try clear c3_1
        have c3_1 := cell_of_heap h3 (j := 1) rfl
        try clear f3_1
        have f3_1 := frozen_of_heap h3 1
        go_wp2_with fail
        have q1 := (Below.heap_setCell w5 ⟨w.heap.size + 1 + 1, 0, none⟩ (.int .i64 0) (w.heap.size) (by first | omega | assumption | (apply Ne.symm; assumption) | (simp; done) | (simp; omega))).trans h0
        have q2 := (Below.heap_setCell w5 ⟨w.heap.size + 1 + 1, 0, none⟩ (.int .i64 0) (w.heap.size + 1) (by first | omega | assumption | (apply Ne.symm; assumption) | (simp; done) | (simp; omega))).trans h1
        have q3 := heap_setCell_same w5 (w.heap.size + 1 + 1) 0 _ _ (.int .i64 0) h2
        have q4 := (Below.heap_setCell w5 ⟨w.heap.size + 1 + 1, 0, none⟩ (.int .i64 0) (w3.heap.size) (by first | omega | assumption | (apply Ne.symm; assumption) | (simp; done) | (simp; omega))).trans h3
        have q5 := (Below.heap_setCell (w5.setCell ⟨w.heap.size + 1 + 1, 0, none⟩ (.int .i64 0)) ⟨w.heap.size + 1 + 1, 1, none⟩ (.int .i64 0) (w.heap.size) (by first | omega | assumption | (apply Ne.symm; assumption) | (simp; done) | (simp; omega))).trans q1
        have q6 := (Below.heap_setCell (w5.setCell ⟨w.heap.size + 1 + 1, 0, none⟩ (.int .i64 0)) ⟨w.heap.size + 1 + 1, 1, none⟩ (.int .i64 0) (w.heap.size + 1) (by first | omega | assumption | (apply Ne.symm; assumption) | (simp; done) | (simp; omega))).trans q2
        have q7 := heap_setCell_same (w5.setCell ⟨w.heap.size + 1 + 1, 0, none⟩ (.int .i64 0)) (w.heap.size + 1 + 1) 1 _ _ (.int .i64 0) q3
        have q8 := (Below.heap_setCell (w5.setCell ⟨w.heap.size + 1 + 1, 0, none⟩ (.int .i64 0)) ⟨w.heap.size + 1 + 1, 1, none⟩ (.int .i64 0) (w3.heap.size) (by first | omega | assumption | (apply Ne.symm; assumption) | (simp; done) | (simp; omega))).trans q4
        obtain ⟨w6, hw6⟩ : ∃ W, W = ((w5.setCell ⟨w.heap.size + 1 + 1, 0, none⟩ (.int .i64 0)).setCell ⟨w.heap.size + 1 + 1, 1, none⟩ (.int .i64 0)) := ⟨_, rfl⟩
        rw [← hw6]
        replace h0 : w6.heap[w.heap.size]? = some (.cells #[.int .i64 m.m.a, .int .i64 m.m.b, .int .i64 m.m.c, .int .i64 m.m.d, .int .i64 m.t.x, .int .i64 m.t.y] 49 (0, 0)) := by rw [hw6]; exact q5
        replace h1 : w6.heap[w.heap.size + 1]? = some (.cells #[.int .i64 p.x, .int .i64 p.y] 25 (0, 0)) := by rw [hw6]; exact q6
        replace h2 : w6.heap[w.heap.size + 1 + 1]? = some (.cells #[.int .i64 0, .int .i64 0] 25 (0, 0)) := by rw [hw6]; exact q7
        replace h3 : w6.heap[w3.heap.size]? = some (.cells #[.int .i64 q.x, .int .i64 q.y] 25 (0, 0)) := by rw [hw6]; exact q8
        have D6 := Lib.hid (show Below w.heap.size w w6 by rw [hw6]; exact (Below.setCell (Below.setCell D5.out (p := ⟨w.heap.size + 1 + 1, 0, none⟩) (by first | omega | (simp; done) | (simp; omega)) (.int .i64 0)) (p := ⟨w.heap.size + 1 + 1, 1, none⟩) (by first | omega | (simp; done) | (simp; omega)) (.int .i64 0)))
        have z6 := D6.out.size
        have y6 : w6.heap.size = w5.heap.size := by rw [hw6]; simp
        clear q8 q7 q6 q5 q4 q3 q2 q1 hw6
        try clear c0_0
        have c0_0 := cell_of_heap h0 (j := 0) rfl
        try clear f0_0
        have f0_0 := frozen_of_heap h0 0
        try clear c0_1
        have c0_1 := cell_of_heap h0 (j := 1) rfl
        try clear f0_1
        have f0_1 := frozen_of_heap h0 1
        try clear c0_2
        have c0_2 := cell_of_heap h0 (j := 2) rfl
        try clear f0_2
        have f0_2 := frozen_of_heap h0 2
        try clear c0_3
        have c0_3 := cell_of_heap h0 (j := 3) rfl
        try clear f0_3
        have f0_3 := frozen_of_heap h0 3
        try clear c0_4
        have c0_4 := cell_of_heap h0 (j := 4) rfl
        try clear f0_4
        have f0_4 := frozen_of_heap h0 4
        try clear c0_5
        have c0_5 := cell_of_heap h0 (j := 5) rfl
        try clear f0_5
        have f0_5 := frozen_of_heap h0 5
        try clear c1_0
        have c1_0 := cell_of_heap h1 (j := 0) rfl
        try clear f1_0
        have f1_0 := frozen_of_heap h1 0
        try clear c1_1
        have c1_1 := cell_of_heap h1 (j := 1) rfl
        try clear f1_1
        have f1_1 := frozen_of_heap h1 1
        try clear c2_0
        have c2_0 := cell_of_heap h2 (j := 0) rfl
        try clear f2_0
        have f2_0 := frozen_of_heap h2 0
        try clear c2_1
        have c2_1 := cell_of_heap h2 (j := 1) rfl
        try clear f2_1
        have f2_1 := frozen_of_heap h2 1
        try clear c3_0
        have c3_0 := cell_of_heap h3 (j := 0) rfl
        try clear f3_0
        have f3_0 := frozen_of_heap h3 0
        try clear c3_1
        have c3_1 := cell_of_heap h3 (j := 1) rfl
        try clear f3_1
        have f3_1 := frozen_of_heap h3 1
        refine bodyPost_ret (results_bt rfl _ _ (w.heap.size + 1 + 1) rfl rfl h2 Tryd.underlying25 rfl (by kernel_rfl)) rfl ⟨rfl, D6.out⟩
      · simp only [Bool.false_and, Bool.true_and, Bool.and_self, Bool.and_false, Bool.and_true, Bool.false_eq_true, if_true, if_false]
        go_enter Tryd.func30, Tryd.ntmps30
        go_wp2_with fail
        refine (H1.out _).mono ?_
        rintro e w1 ⟨rfl, hb⟩
        have h0 : w1.heap[w.heap.size]? = some (.cells #[.int .i64 m.m.a, .int .i64 m.m.b, .int .i64 m.m.c, .int .i64 m.m.d, .int .i64 m.t.x, .int .i64 m.t.y] 49 (0, 0)) := hb_below hb (by repeat (first | (refine hb_new ?_; (first | omega | (simp; omega) | (simp; done))) | (refine hb_old ?_ ?_; rotate_left; focus (first | omega | (simp; omega) | (simp; done))) | refine hb_drew ?_)) (by first | omega | (simp; omega) | (simp; done))
        have h1 : w1.heap[w.heap.size + 1]? = some (.cells #[.int .i64 p.x, .int .i64 p.y] 25 (0, 0)) := hb_below hb (by repeat (first | (refine hb_new ?_; (first | omega | (simp; omega) | (simp; done))) | (refine hb_old ?_ ?_; rotate_left; focus (first | omega | (simp; omega) | (simp; done))) | refine hb_drew ?_)) (by first | omega | (simp; omega) | (simp; done))
        have h2 : w1.heap[w.heap.size + 1 + 1]? = some (.cells #[.int .i64 0, .int .i64 0] 25 (0, 0)) := hb_below hb (by repeat (first | (refine hb_new ?_; (first | omega | (simp; omega) | (simp; done))) | (refine hb_old ?_ ?_; rotate_left; focus (first | omega | (simp; omega) | (simp; done))) | refine hb_drew ?_)) (by first | omega | (simp; omega) | (simp; done))
        have y1 := Below.size hb
        try simp only [World.size_alloc, World.size_drew] at y1
        have D1 := Lib.hid (show Below w.heap.size w w1 from Below.trans (by repeat (first | exact Below.refl _ _ | refine Below.alloc ?_ (by first | omega | (simp; omega) | (simp; done)) _)) (Below.mono hb (by first | omega | (simp; omega) | (simp; done))))
        have z1 := D1.out.size
        clear hb
        try clear c0_0
        have c0_0 := cell_of_heap h0 (j := 0) rfl
        try clear f0_0
        have f0_0 := frozen_of_heap h0 0
        try clear c0_1
        have c0_1 := cell_of_heap h0 (j := 1) rfl
        try clear f0_1
        have f0_1 := frozen_of_heap h0 1
        try clear c0_2
        have c0_2 := cell_of_heap h0 (j := 2) rfl
        try clear f0_2
        have f0_2 := frozen_of_heap h0 2
        try clear c0_3
        have c0_3 := cell_of_heap h0 (j := 3) rfl
        try clear f0_3
        have f0_3 := frozen_of_heap h0 3
        try clear c0_4
        have c0_4 := cell_of_heap h0 (j := 4) rfl
        try clear f0_4
        have f0_4 := frozen_of_heap h0 4
        try clear c0_5
        have c0_5 := cell_of_heap h0 (j := 5) rfl
        try clear f0_5
        have f0_5 := frozen_of_heap h0 5
        try clear c1_0
        have c1_0 := cell_of_heap h1 (j := 0) rfl
        try clear f1_0
        have f1_0 := frozen_of_heap h1 0
        try clear c1_1
        have c1_1 := cell_of_heap h1 (j := 1) rfl
        try clear f1_1
        have f1_1 := frozen_of_heap h1 1
        try clear c2_0
        have c2_0 := cell_of_heap h2 (j := 0) rfl
        try clear f2_0
        have f2_0 := frozen_of_heap h2 0
        try clear c2_1
        have c2_1 := cell_of_heap h2 (j := 1) rfl
        try clear f2_1
        have f2_1 := frozen_of_heap h2 1
        go_wp2_with fail
        refine (H2.out _).mono ?_
        rintro e w2 ⟨rfl, hb⟩
        replace h0 : w2.heap[w.heap.size]? = some (.cells #[.int .i64 m.m.a, .int .i64 m.m.b, .int .i64 m.m.c, .int .i64 m.m.d, .int .i64 m.t.x, .int .i64 m.t.y] 49 (0, 0)) := hb_below hb (by repeat (first | exact h0 | (refine hb_new ?_; (first | omega | (simp; omega) | (simp; done))) | (refine hb_old ?_ ?_; rotate_left; focus (first | omega | (simp; omega) | (simp; done))) | refine hb_drew ?_)) (by first | omega | (simp; omega) | (simp; done))
        replace h1 : w2.heap[w.heap.size + 1]? = some (.cells #[.int .i64 p.x, .int .i64 p.y] 25 (0, 0)) := hb_below hb (by repeat (first | exact h1 | (refine hb_new ?_; (first | omega | (simp; omega) | (simp; done))) | (refine hb_old ?_ ?_; rotate_left; focus (first | omega | (simp; omega) | (simp; done))) | refine hb_drew ?_)) (by first | omega | (simp; omega) | (simp; done))
        replace h2 : w2.heap[w.heap.size + 1 + 1]? = some (.cells #[.int .i64 0, .int .i64 0] 25 (0, 0)) := hb_below hb (by repeat (first | exact h2 | (refine hb_new ?_; (first | omega | (simp; omega) | (simp; done))) | (refine hb_old ?_ ?_; rotate_left; focus (first | omega | (simp; omega) | (simp; done))) | refine hb_drew ?_)) (by first | omega | (simp; omega) | (simp; done))
        have y2 := Below.size hb
        try simp only [World.size_alloc, World.size_drew] at y2
        have D2 := Lib.hid (show Below w.heap.size w w2 from Below.trans (by repeat (first | exact D1.out | exact Below.refl _ _ | refine Below.alloc ?_ (by first | omega | (simp; omega) | (simp; done)) _)) (Below.mono hb (by first | omega | (simp; omega) | (simp; done))))
        have z2 := D2.out.size
        clear hb
        try clear c0_0
        have c0_0 := cell_of_heap h0 (j := 0) rfl
        try clear f0_0
        have f0_0 := frozen_of_heap h0 0
        try clear c0_1
        have c0_1 := cell_of_heap h0 (j := 1) rfl
        try clear f0_1
        have f0_1 := frozen_of_heap h0 1
        try clear c0_2
        have c0_2 := cell_of_heap h0 (j := 2) rfl
        try clear f0_2
        have f0_2 := frozen_of_heap h0 2
        try clear c0_3
        have c0_3 := cell_of_heap h0 (j := 3) rfl
        try clear f0_3
        have f0_3 := frozen_of_heap h0 3
        try clear c0_4
        have c0_4 := cell_of_heap h0 (j := 4) rfl
        try clear f0_4
        have f0_4 := frozen_of_heap h0 4
        try clear c0_5
        have c0_5 := cell_of_heap h0 (j := 5) rfl
        try clear f0_5
        have f0_5 := frozen_of_heap h0 5
        try clear c1_0
        have c1_0 := cell_of_heap h1 (j := 0) rfl
        try clear f1_0
        have f1_0 := frozen_of_heap h1 0
        try clear c1_1
        have c1_1 := cell_of_heap h1 (j := 1) rfl
        try clear f1_1
        have f1_1 := frozen_of_heap h1 1
        try clear c2_0
        have c2_0 := cell_of_heap h2 (j := 0) rfl
        try clear f2_0
        have f2_0 := frozen_of_heap h2 0
        try clear c2_1
        have c2_1 := cell_of_heap h2 (j := 1) rfl
        try clear f2_1
        have f2_1 := frozen_of_heap h2 1
        go_wp2_with fail
        refine (H3.out _).mono ?_
        rintro e w3 ⟨rfl, hb⟩
        replace h0 : w3.heap[w.heap.size]? = some (.cells #[.int .i64 m.m.a, .int .i64 m.m.b, .int .i64 m.m.c, .int .i64 m.m.d, .int .i64 m.t.x, .int .i64 m.t.y] 49 (0, 0)) := hb_below hb (by repeat (first | exact h0 | (refine hb_new ?_; (first | omega | (simp; omega) | (simp; done))) | (refine hb_old ?_ ?_; rotate_left; focus (first | omega | (simp; omega) | (simp; done))) | refine hb_drew ?_)) (by first | omega | (simp; omega) | (simp; done))
        replace h1 : w3.heap[w.heap.size + 1]? = some (.cells #[.int .i64 p.x, .int .i64 p.y] 25 (0, 0)) := hb_below hb (by repeat (first | exact h1 | (refine hb_new ?_; (first | omega | (simp; omega) | (simp; done))) | (refine hb_old ?_ ?_; rotate_left; focus (first | omega | (simp; omega) | (simp; done))) | refine hb_drew ?_)) (by first | omega | (simp; omega) | (simp; done))
        replace h2 : w3.heap[w.heap.size + 1 + 1]? = some (.cells #[.int .i64 0, .int .i64 0] 25 (0, 0)) := hb_below hb (by repeat (first | exact h2 | (refine hb_new ?_; (first | omega | (simp; omega) | (simp; done))) | (refine hb_old ?_ ?_; rotate_left; focus (first | omega | (simp; omega) | (simp; done))) | refine hb_drew ?_)) (by first | omega | (simp; omega) | (simp; done))
        have y3 := Below.size hb
        try simp only [World.size_alloc, World.size_drew] at y3
        have D3 := Lib.hid (show Below w.heap.size w w3 from Below.trans (by repeat (first | exact D2.out | exact Below.refl _ _ | refine Below.alloc ?_ (by first | omega | (simp; omega) | (simp; done)) _)) (Below.mono hb (by first | omega | (simp; omega) | (simp; done))))
        have z3 := D3.out.size
        clear hb
        try clear c0_0
        have c0_0 := cell_of_heap h0 (j := 0) rfl
        try clear f0_0
        have f0_0 := frozen_of_heap h0 0
        try clear c0_1
        have c0_1 := cell_of_heap h0 (j := 1) rfl
        try clear f0_1
        have f0_1 := frozen_of_heap h0 1
        try clear c0_2
        have c0_2 := cell_of_heap h0 (j := 2) rfl
        try clear f0_2
        have f0_2 := frozen_of_heap h0 2
        try clear c0_3
        have c0_3 := cell_of_heap h0 (j := 3) rfl
        try clear f0_3
        have f0_3 := frozen_of_heap h0 3
        try clear c0_4
        have c0_4 := cell_of_heap h0 (j := 4) rfl
        try clear f0_4
        have f0_4 := frozen_of_heap h0 4
        try clear c0_5
        have c0_5 := cell_of_heap h0 (j := 5) rfl
        try clear f0_5
        have f0_5 := frozen_of_heap h0 5
        try clear c1_0
        have c1_0 := cell_of_heap h1 (j := 0) rfl
        try clear f1_0
        have f1_0 := frozen_of_heap h1 0
        try clear c1_1
        have c1_1 := cell_of_heap h1 (j := 1) rfl
        try clear f1_1
        have f1_1 := frozen_of_heap h1 1
        try clear c2_0
        have c2_0 := cell_of_heap h2 (j := 0) rfl
        try clear f2_0
        have f2_0 := frozen_of_heap h2 0
        try clear c2_1
        have c2_1 := cell_of_heap h2 (j := 1) rfl
        try clear f2_1
        have f2_1 := frozen_of_heap h2 1
        go_wp2_with fail
        obtain ⟨w4, hw4⟩ : ∃ W, W = (w3.alloc (.cells #[.int .i64 q.x, .int .i64 q.y] 25)) := ⟨_, rfl⟩
        rw [← hw4]
        replace h0 : w4.heap[w.heap.size]? = some (.cells #[.int .i64 m.m.a, .int .i64 m.m.b, .int .i64 m.m.c, .int .i64 m.m.d, .int .i64 m.t.x, .int .i64 m.t.y] 49 (0, 0)) := by rw [hw4]; exact (by repeat (first | exact h0 | (refine hb_new ?_; (first | omega | (simp; omega) | (simp; done))) | (refine hb_old ?_ ?_; rotate_left; focus (first | omega | (simp; omega) | (simp; done))) | refine hb_drew ?_))
        replace h1 : w4.heap[w.heap.size + 1]? = some (.cells #[.int .i64 p.x, .int .i64 p.y] 25 (0, 0)) := by rw [hw4]; exact (by repeat (first | exact h1 | (refine hb_new ?_; (first | omega | (simp; omega) | (simp; done))) | (refine hb_old ?_ ?_; rotate_left; focus (first | omega | (simp; omega) | (simp; done))) | refine hb_drew ?_))
        replace h2 : w4.heap[w.heap.size + 1 + 1]? = some (.cells #[.int .i64 0, .int .i64 0] 25 (0, 0)) := by rw [hw4]; exact (by repeat (first | exact h2 | (refine hb_new ?_; (first | omega | (simp; omega) | (simp; done))) | (refine hb_old ?_ ?_; rotate_left; focus (first | omega | (simp; omega) | (simp; done))) | refine hb_drew ?_))
        have h3 : w4.heap[w3.heap.size]? = some (.cells #[.int .i64 q.x, .int .i64 q.y] 25 (0, 0)) := by rw [hw4]; exact (by repeat (first | (refine hb_new ?_; (first | omega | (simp; omega) | (simp; done))) | (refine hb_old ?_ ?_; rotate_left; focus (first | omega | (simp; omega) | (simp; done))) | refine hb_drew ?_))
        have hb : Below w3.heap.size w3 w4 := by rw [hw4]; exact (by repeat (first | exact Below.refl _ _ | refine Below.alloc ?_ (by first | omega | (simp; omega) | (simp; done)) _ | refine Below.drew ?_))
        have s4 : w3.heap.size + 1 ≤ w4.heap.size := by rw [hw4]; simp
        have S4 := Lib.hid (show w4.heap.size = w3.heap.size + 1 by rw [hw4]; simp)
        have y4 := Below.size hb
        try simp only [World.size_alloc, World.size_drew] at y4
        have D4 := Lib.hid (show Below w.heap.size w w4 from Below.trans (by repeat (first | exact D3.out | exact Below.refl _ _ | refine Below.alloc ?_ (by first | omega | (simp; omega) | (simp; done)) _)) (Below.mono hb (by first | omega | (simp; omega) | (simp; done))))
        have z4 := D4.out.size
        clear hb hw4
        try clear c0_0
        have c0_0 := cell_of_heap h0 (j := 0) rfl
        try clear f0_0
        have f0_0 := frozen_of_heap h0 0
        try clear c0_1
        have c0_1 := cell_of_heap h0 (j := 1) rfl
        try clear f0_1
        have f0_1 := frozen_of_heap h0 1
        try clear c0_2
        have c0_2 := cell_of_heap h0 (j := 2) rfl
        try clear f0_2
        have f0_2 := frozen_of_heap h0 2
        try clear c0_3
        have c0_3 := cell_of_heap h0 (j := 3) rfl
        try clear f0_3
        have f0_3 := frozen_of_heap h0 3
        try clear c0_4
        have c0_4 := cell_of_heap h0 (j := 4) rfl
        try clear f0_4
        have f0_4 := frozen_of_heap h0 4
        try clear c0_5
        have c0_5 := cell_of_heap h0 (j := 5) rfl
        try clear f0_5
        have f0_5 := frozen_of_heap h0 5
        try clear c1_0
        have c1_0 := cell_of_heap h1 (j := 0) rfl
        try clear f1_0
        have f1_0 := frozen_of_heap h1 0
        try clear c1_1
        have c1_1 := cell_of_heap h1 (j := 1) rfl
        try clear f1_1
        have f1_1 := frozen_of_heap h1 1
        try clear c2_0
        have c2_0 := cell_of_heap h2 (j := 0) rfl
        try clear f2_0
        have f2_0 := frozen_of_heap h2 0
        try clear c2_1
        have c2_1 := cell_of_heap h2 (j := 1) rfl
        try clear f2_1
        have f2_1 := frozen_of_heap h2 1
        try clear c3_0
        have c3_0 := cell_of_heap h3 (j := 0) rfl
        try clear f3_0
        have f3_0 := frozen_of_heap h3 0
        try clear c3_1
        have c3_1 := cell_of_heap h3 (j := 1) rfl
        try clear f3_1
        have f3_1 := frozen_of_heap h3 1
        refine (H4.out _).mono ?_
        rintro e w5 ⟨rfl, hb⟩
        replace h0 : w5.heap[w.heap.size]? = some (.cells #[.int .i64 m.m.a, .int .i64 m.m.b, .int .i64 m.m.c, .int .i64 m.m.d, .int .i64 m.t.x, .int .i64 m.t.y] 49 (0, 0)) := hb_below hb (by repeat (first | exact h0 | (refine hb_new ?_; (first | omega | (simp; omega) | (simp; done))) | (refine hb_old ?_ ?_; rotate_left; focus (first | omega | (simp; omega) | (simp; done))) | refine hb_drew ?_)) (by first | omega | (simp; omega) | (simp; done))
        replace h1 : w5.heap[w.heap.size + 1]? = some (.cells #[.int .i64 p.x, .int .i64 p.y] 25 (0, 0)) := hb_below hb (by repeat (first | exact h1 | (refine hb_new ?_; (first | omega | (simp; omega) | (simp; done))) | (refine hb_old ?_ ?_; rotate_left; focus (first | omega | (simp; omega) | (simp; done))) | refine hb_drew ?_)) (by first | omega | (simp; omega) | (simp; done))
        replace h2 : w5.heap[w.heap.size + 1 + 1]? = some (.cells #[.int .i64 0, .int .i64 0] 25 (0, 0)) := hb_below hb (by repeat (first | exact h2 | (refine hb_new ?_; (first | omega | (simp; omega) | (simp; done))) | (refine hb_old ?_ ?_; rotate_left; focus (first | omega | (simp; omega) | (simp; done))) | refine hb_drew ?_)) (by first | omega | (simp; omega) | (simp; done))
        replace h3 : w5.heap[w3.heap.size]? = some (.cells #[.int .i64 q.x, .int .i64 q.y] 25 (0, 0)) := hb_below hb (by repeat (first | exact h3 | (refine hb_new ?_; (first | omega | (simp; omega) | (simp; done))) | (refine hb_old ?_ ?_; rotate_left; focus (first | omega | (simp; omega) | (simp; done))) | refine hb_drew ?_)) (by first | omega | (simp; omega) | (simp; done))
        have y5 := Below.size hb
        try simp only [World.size_alloc, World.size_drew] at y5
        have D5 := Lib.hid (show Below w.heap.size w w5 from Below.trans (by repeat (first | exact D4.out | exact Below.refl _ _ | refine Below.alloc ?_ (by first | omega | (simp; omega) | (simp; done)) _)) (Below.mono hb (by first | omega | (simp; omega) | (simp; done))))
        have z5 := D5.out.size
        clear hb
        try clear c0_0
        have c0_0 := cell_of_heap h0 (j := 0) rfl
        try clear f0_0
        have f0_0 := frozen_of_heap h0 0
        try clear c0_1
        have c0_1 := cell_of_heap h0 (j := 1) rfl
        try clear f0_1
        have f0_1 := frozen_of_heap h0 1
        try clear c0_2
        have c0_2 := cell_of_heap h0 (j := 2) rfl
        try clear f0_2
        have f0_2 := frozen_of_heap h0 2
        try clear c0_3
        have c0_3 := cell_of_heap h0 (j := 3) rfl
        try clear f0_3
        have f0_3 := frozen_of_heap h0 3
        try clear c0_4
        have c0_4 := cell_of_heap h0 (j := 4) rfl
        try clear f0_4
        have f0_4 := frozen_of_heap h0 4
        try clear c0_5
        have c0_5 := cell_of_heap h0 (j := 5) rfl
        try clear f0_5
        have f0_5 := frozen_of_heap h0 5
        try clear c1_0
        have c1_0 := cell_of_heap h1 (j := 0) rfl
        try clear f1_0
        have f1_0 := frozen_of_heap h1 0
        try clear c1_1
        have c1_1 := cell_of_heap h1 (j := 1) rfl
        try clear f1_1
        have f1_1 := frozen_of_heap h1 1
        try clear c2_0
        have c2_0 := cell_of_heap h2 (j := 0) rfl
        try clear f2_0
        have f2_0 := frozen_of_heap h2 0
        try clear c2_1
        have c2_1 := cell_of_heap h2 (j := 1) rfl
        try clear f2_1
        have f2_1 := frozen_of_heap h2 1
        try clear c3_0
        have c3_0 := cell_of_heap h3 (j := 0) rfl
        try clear f3_0
        have f3_0 := frozen_of_heap h3 0
        try clear c3_1
        have c3_1 := cell_of_heap h3 (j := 1) rfl
        try clear f3_1
        have f3_1 := frozen_of_heap h3 1
        go_wp2_with fail
        have q1 := (Below.heap_setCell w5 ⟨w.heap.size + 1 + 1, 0, none⟩ (.int .i64 q.x) (w.heap.size) (by first | omega | assumption | (apply Ne.symm; assumption) | (simp; done) | (simp; omega))).trans h0
        have q2 := (Below.heap_setCell w5 ⟨w.heap.size + 1 + 1, 0, none⟩ (.int .i64 q.x) (w.heap.size + 1) (by first | omega | assumption | (apply Ne.symm; assumption) | (simp; done) | (simp; omega))).trans h1
        have q3 := heap_setCell_same w5 (w.heap.size + 1 + 1) 0 _ _ (.int .i64 q.x) h2
        have q4 := (Below.heap_setCell w5 ⟨w.heap.size + 1 + 1, 0, none⟩ (.int .i64 q.x) (w3.heap.size) (by first | omega | assumption | (apply Ne.symm; assumption) | (simp; done) | (simp; omega))).trans h3
        have q5 := (Below.heap_setCell (w5.setCell ⟨w.heap.size + 1 + 1, 0, none⟩ (.int .i64 q.x)) ⟨w.heap.size + 1 + 1, 1, none⟩ (.int .i64 q.y) (w.heap.size) (by first | omega | assumption | (apply Ne.symm; assumption) | (simp; done) | (simp; omega))).trans q1
        have q6 := (Below.heap_setCell (w5.setCell ⟨w.heap.size + 1 + 1, 0, none⟩ (.int .i64 q.x)) ⟨w.heap.size + 1 + 1, 1, none⟩ (.int .i64 q.y) (w.heap.size + 1) (by first | omega | assumption | (apply Ne.symm; assumption) | (simp; done) | (simp; omega))).trans q2
        have q7 := heap_setCell_same (w5.setCell ⟨w.heap.size + 1 + 1, 0, none⟩ (.int .i64 q.x)) (w.heap.size + 1 + 1) 1 _ _ (.int .i64 q.y) q3
        have q8 := (Below.heap_setCell (w5.setCell ⟨w.heap.size + 1 + 1, 0, none⟩ (.int .i64 q.x)) ⟨w.heap.size + 1 + 1, 1, none⟩ (.int .i64 q.y) (w3.heap.size) (by first | omega | assumption | (apply Ne.symm; assumption) | (simp; done) | (simp; omega))).trans q4
        obtain ⟨w6, hw6⟩ : ∃ W, W = ((w5.setCell ⟨w.heap.size + 1 + 1, 0, none⟩ (.int .i64 q.x)).setCell ⟨w.heap.size + 1 + 1, 1, none⟩ (.int .i64 q.y)) := ⟨_, rfl⟩
        rw [← hw6]
        replace h0 : w6.heap[w.heap.size]? = some (.cells #[.int .i64 m.m.a, .int .i64 m.m.b, .int .i64 m.m.c, .int .i64 m.m.d, .int .i64 m.t.x, .int .i64 m.t.y] 49 (0, 0)) := by rw [hw6]; exact q5
        replace h1 : w6.heap[w.heap.size + 1]? = some (.cells #[.int .i64 p.x, .int .i64 p.y] 25 (0, 0)) := by rw [hw6]; exact q6
        replace h2 : w6.heap[w.heap.size + 1 + 1]? = some (.cells #[.int .i64 q.x, .int .i64 q.y] 25 (0, 0)) := by rw [hw6]; exact q7
        replace h3 : w6.heap[w3.heap.size]? = some (.cells #[.int .i64 q.x, .int .i64 q.y] 25 (0, 0)) := by rw [hw6]; exact q8
        have D6 := Lib.hid (show Below w.heap.size w w6 by rw [hw6]; exact (Below.setCell (Below.setCell D5.out (p := ⟨w.heap.size + 1 + 1, 0, none⟩) (by first | omega | (simp; done) | (simp; omega)) (.int .i64 q.x)) (p := ⟨w.heap.size + 1 + 1, 1, none⟩) (by first | omega | (simp; done) | (simp; omega)) (.int .i64 q.y)))
        have z6 := D6.out.size
        have y6 : w6.heap.size = w5.heap.size := by rw [hw6]; simp
        clear q8 q7 q6 q5 q4 q3 q2 q1 hw6
        try clear c0_0
        have c0_0 := cell_of_heap h0 (j := 0) rfl
        try clear f0_0
        have f0_0 := frozen_of_heap h0 0
        try clear c0_1
        have c0_1 := cell_of_heap h0 (j := 1) rfl
        try clear f0_1
        have f0_1 := frozen_of_heap h0 1
        try clear c0_2
        have c0_2 := cell_of_heap h0 (j := 2) rfl
        try clear f0_2
        have f0_2 := frozen_of_heap h0 2
        try clear c0_3
        have c0_3 := cell_of_heap h0 (j := 3) rfl
        try clear f0_3
        have f0_3 := frozen_of_heap h0 3
        try clear c0_4
        have c0_4 := cell_of_heap h0 (j := 4) rfl
        try clear f0_4
        have f0_4 := frozen_of_heap h0 4
        try clear c0_5
        have c0_5 := cell_of_heap h0 (j := 5) rfl
        try clear f0_5
        have f0_5 := frozen_of_heap h0 5
        try clear c1_0
        have c1_0 := cell_of_heap h1 (j := 0) rfl
        try clear f1_0
        have f1_0 := frozen_of_heap h1 0
        try clear c1_1
        have c1_1 := cell_of_heap h1 (j := 1) rfl
        try clear f1_1
        have f1_1 := frozen_of_heap h1 1
        try clear c2_0
        have c2_0 := cell_of_heap h2 (j := 0) rfl
        try clear f2_0
        have f2_0 := frozen_of_heap h2 0
        try clear c2_1
        have c2_1 := cell_of_heap h2 (j := 1) rfl
        try clear f2_1
        have f2_1 := frozen_of_heap h2 1
        try clear c3_0
        have c3_0 := cell_of_heap h3 (j := 0) rfl
        try clear f3_0
        have f3_0 := frozen_of_heap h3 0
        try clear c3_1
        have c3_1 := cell_of_heap h3 (j := 1) rfl
        try clear f3_1
        have f3_1 := frozen_of_heap h3 1
        refine bodyPost_ret (results_bt rfl _ _ (w.heap.size + 1 + 1) rfl rfl h2 Tryd.underlying25 rfl (by kernel_rfl)) rfl ⟨rfl, D6.out⟩
set_option maxHeartbeats 4000000 in
set_option maxRecDepth 100000 in
theorem rCompose_any (m n : Mov) (w : World) : Calls Tryd.prog 32 #[m.val, n.val] w fun e w' => e = .returned (.tuple #[(comV m n).val, .int .i64 (comE m n)]) ∧ Below w.heap.size w w' := by
  have C1 := fun W => rMove_any m W
  have C2 := fun W => rMove_any n W
  have C3 := fun W => rTimes_any m.m n.m W
  have C4 := fun W => rapply_any m n.t W
  have C5 := fun W => rMove_any (comp m n).w W
  unfold comV comE
  have e1 : (comp m n).w = ⟨(m.m.times n.m).w, (appl m n.t).w⟩ := rfl
  generalize (m.m.times n.m).w = u1 at *
  generalize (appl m n.t).w = u2 at *
  rw [e1] at C5
  rw [e1]
  clear e1
  generalize okV m = k1 at *
  generalize okV n = k2 at *
  generalize okV ⟨u1, u2⟩ = k3 at *
  unfold Mov.val Pt.val Mat.val at *
  have H1 := Lib.hid C1
  have H2 := Lib.hid C2
  have H3 := Lib.hid C3
  have H4 := Lib.hid C4
  have H5 := Lib.hid C5
  clear C1 C2 C3 C4 C5
  cases k1
  · simp only [Bool.false_and, Bool.true_and, Bool.and_self, Bool.and_false, Bool.and_true, Bool.false_eq_true, if_true, if_false]
    go_enter Tryd.func32, Tryd.ntmps32
    go_wp2_with fail
    refine (H1.out _).mono ?_
    rintro e w1 ⟨rfl, hb⟩
    have h0 : w1.heap[w.heap.size]? = some (.cells #[.int .i64 m.m.a, .int .i64 m.m.b, .int .i64 m.m.c, .int .i64 m.m.d, .int .i64 m.t.x, .int .i64 m.t.y] 49 (0, 0)) := hb_below hb (by repeat (first | (refine hb_new ?_; (first | omega | (simp; omega) | (simp; done))) | (refine hb_old ?_ ?_; rotate_left; focus (first | omega | (simp; omega) | (simp; done))) | refine hb_drew ?_)) (by first | omega | (simp; omega) | (simp; done))
    have h1 : w1.heap[w.heap.size + 1]? = some (.cells #[.int .i64 n.m.a, .int .i64 n.m.b, .int .i64 n.m.c, .int .i64 n.m.d, .int .i64 n.t.x, .int .i64 n.t.y] 49 (0, 0)) := hb_below hb (by repeat (first | (refine hb_new ?_; (first | omega | (simp; omega) | (simp; done))) | (refine hb_old ?_ ?_; rotate_left; focus (first | omega | (simp; omega) | (simp; done))) | refine hb_drew ?_)) (by first | omega | (simp; omega) | (simp; done))
    have h2 : w1.heap[w.heap.size + 1 + 1]? = some (.cells #[.int .i64 0, .int .i64 0, .int .i64 0, .int .i64 0, .int .i64 0, .int .i64 0] 49 (0, 0)) := hb_below hb (by repeat (first | (refine hb_new ?_; (first | omega | (simp; omega) | (simp; done))) | (refine hb_old ?_ ?_; rotate_left; focus (first | omega | (simp; omega) | (simp; done))) | refine hb_drew ?_)) (by first | omega | (simp; omega) | (simp; done))
    have y1 := Below.size hb
    try simp only [World.size_alloc, World.size_drew] at y1
    have D1 := Lib.hid (show Below w.heap.size w w1 from Below.trans (by repeat (first | exact Below.refl _ _ | refine Below.alloc ?_ (by first | omega | (simp; omega) | (simp; done)) _)) (Below.mono hb (by first | omega | (simp; omega) | (simp; done))))
    have z1 := D1.out.size
    clear hb
    try clear c0_0
    have c0_0 := cell_of_heap h0 (j := 0) rfl
    try clear f0_0
    have f0_0 := frozen_of_heap h0 0
    try clear c0_1
    have c0_1 := cell_of_heap h0 (j := 1) rfl
    try clear f0_1
    have f0_1 := frozen_of_heap h0 1
    try clear c0_2
    have c0_2 := cell_of_heap h0 (j := 2) rfl
    try clear f0_2
    have f0_2 := frozen_of_heap h0 2
    try clear c0_3
    have c0_3 := cell_of_heap h0 (j := 3) rfl
    try clear f0_3
    have f0_3 := frozen_of_heap h0 3
    try clear c0_4
    have c0_4 := cell_of_heap h0 (j := 4) rfl
    try clear f0_4
    have f0_4 := frozen_of_heap h0 4
    try clear c0_5
    have c0_5 := cell_of_heap h0 (j := 5) rfl
    try clear f0_5
    have f0_5 := frozen_of_heap h0 5
    try clear c1_0
    have c1_0 := cell_of_heap h1 (j := 0) rfl
    try clear f1_0
    have f1_0 := frozen_of_heap h1 0
    try clear c1_1
    have c1_1 := cell_of_heap h1 (j := 1) rfl
    try clear f1_1
    have f1_1 := frozen_of_heap h1 1
    try clear c1_2
    have c1_2 := cell_of_heap h1 (j := 2) rfl
    try clear f1_2
    have f1_2 := frozen_of_heap h1 2
    try clear c1_3
    have c1_3 := cell_of_heap h1 (j := 3) rfl
    try clear f1_3
    have f1_3 := frozen_of_heap h1 3
    try clear c1_4
    have c1_4 := cell_of_heap h1 (j := 4) rfl
    try clear f1_4
    have f1_4 := frozen_of_heap h1 4
    try clear c1_5
    have c1_5 := cell_of_heap h1 (j := 5) rfl
    try clear f1_5
    have f1_5 := frozen_of_heap h1 5
    try clear c2_0
    have c2_0 := cell_of_heap h2 (j := 0) rfl
    try clear f2_0
    have f2_0 := frozen_of_heap h2 0
    try clear c2_1
    have c2_1 := cell_of_heap h2 (j := 1) rfl
    try clear f2_1
    have f2_1 := frozen_of_heap h2 1
    try clear c2_2
    have c2_2 := cell_of_heap h2 (j := 2) rfl
    try clear f2_2
    have f2_2 := frozen_of_heap h2 2
    try clear c2_3
    have c2_3 := cell_of_heap h2 (j := 3) rfl
    try clear f2_3
    have f2_3 := frozen_of_heap h2 3
    try clear c2_4
    have c2_4 := cell_of_heap h2 (j := 4) rfl
    try clear f2_4
    have f2_4 := frozen_of_heap h2 4
    try clear c2_5
    have c2_5 := cell_of_heap h2 (j := 5) rfl
    try clear f2_5
    have f2_5 := frozen_of_heap h2 5
    go_wp2_with fail
    have q1 := (Below.heap_setCell w1 ⟨w.heap.size + 1 + 1, 0, none⟩ (.int .i64 0) (w.heap.size) (by first | omega | assumption | (apply Ne.symm; assumption) | (simp; done) | (simp; omega))).trans h0
    have q2 := (Below.heap_setCell w1 ⟨w.heap.size + 1 + 1, 0, none⟩ (.int .i64 0) (w.heap.size + 1) (by first | omega | assumption | (apply Ne.symm; assumption) | (simp; done) | (simp; omega))).trans h1
    have q3 := heap_setCell_same w1 (w.heap.size + 1 + 1) 0 _ _ (.int .i64 0) h2
    have q4 := (Below.heap_setCell (w1.setCell ⟨w.heap.size + 1 + 1, 0, none⟩ (.int .i64 0)) ⟨w.heap.size + 1 + 1, 1, none⟩ (.int .i64 0) (w.heap.size) (by first | omega | assumption | (apply Ne.symm; assumption) | (simp; done) | (simp; omega))).trans q1
    have q5 := (Below.heap_setCell (w1.setCell ⟨w.heap.size + 1 + 1, 0, none⟩ (.int .i64 0)) ⟨w.heap.size + 1 + 1, 1, none⟩ (.int .i64 0) (w.heap.size + 1) (by first | omega | assumption | (apply Ne.symm; assumption) | (simp; done) | (simp; omega))).trans q2
    have q6 := heap_setCell_same (w1.setCell ⟨w.heap.size + 1 + 1, 0, none⟩ (.int .i64 0)) (w.heap.size + 1 + 1) 1 _ _ (.int .i64 0) q3
    have q7 := (Below.heap_setCell ((w1.setCell ⟨w.heap.size + 1 + 1, 0, none⟩ (.int .i64 0)).setCell ⟨w.heap.size + 1 + 1, 1, none⟩ (.int .i64 0)) ⟨w.heap.size + 1 + 1, 2, none⟩ (.int .i64 0) (w.heap.size) (by first | omega | assumption | (apply Ne.symm; assumption) | (simp; done) | (simp; omega))).trans q4
    have q8 := (Below.heap_setCell ((w1.setCell ⟨w.heap.size + 1 + 1, 0, none⟩ (.int .i64 0)).setCell ⟨w.heap.size + 1 + 1, 1, none⟩ (.int .i64 0)) ⟨w.heap.size + 1 + 1, 2, none⟩ (.int .i64 0) (w.heap.size + 1) (by first | omega | assumption | (apply Ne.symm; assumption) | (simp; done) | (simp; omega))).trans q5
    have q9 := heap_setCell_same ((w1.setCell ⟨w.heap.size + 1 + 1, 0, none⟩ (.int .i64 0)).setCell ⟨w.heap.size + 1 + 1, 1, none⟩ (.int .i64 0)) (w.heap.size + 1 + 1) 2 _ _ (.int .i64 0) q6
    have q10 := (Below.heap_setCell (((w1.setCell ⟨w.heap.size + 1 + 1, 0, none⟩ (.int .i64 0)).setCell ⟨w.heap.size + 1 + 1, 1, none⟩ (.int .i64 0)).setCell ⟨w.heap.size + 1 + 1, 2, none⟩ (.int .i64 0)) ⟨w.heap.size + 1 + 1, 3, none⟩ (.int .i64 0) (w.heap.size) (by first | omega | assumption | (apply Ne.symm; assumption) | (simp; done) | (simp; omega))).trans q7
    have q11 := (Below.heap_setCell (((w1.setCell ⟨w.heap.size + 1 + 1, 0, none⟩ (.int .i64 0)).setCell ⟨w.heap.size + 1 + 1, 1, none⟩ (.int .i64 0)).setCell ⟨w.heap.size + 1 + 1, 2, none⟩ (.int .i64 0)) ⟨w.heap.size + 1 + 1, 3, none⟩ (.int .i64 0) (w.heap.size + 1) (by first | omega | assumption | (apply Ne.symm; assumption) | (simp; done) | (simp; omega))).trans q8
    have q12 := heap_setCell_same (((w1.setCell ⟨w.heap.size + 1 + 1, 0, none⟩ (.int .i64 0)).setCell ⟨w.heap.size + 1 + 1, 1, none⟩ (.int .i64 0)).setCell ⟨w.heap.size + 1 + 1, 2, none⟩ (.int .i64 0)) (w.heap.size + 1 + 1) 3 _ _ (.int .i64 0) q9
    have q13 := (Below.heap_setCell ((((w1.setCell ⟨w.heap.size + 1 + 1, 0, none⟩ (.int .i64 0)).setCell ⟨w.heap.size + 1 + 1, 1, none⟩ (.int .i64 0)).setCell ⟨w.heap.size + 1 + 1, 2, none⟩ (.int .i64 0)).setCell ⟨w.heap.size + 1 + 1, 3, none⟩ (.int .i64 0)) ⟨w.heap.size + 1 + 1, 4, none⟩ (.int .i64 0) (w.heap.size) (by first | omega | assumption | (apply Ne.symm; assumption) | (simp; done) | (simp; omega))).trans q10
    have q14 := (Below.heap_setCell ((((w1.setCell ⟨w.heap.size + 1 + 1, 0, none⟩ (.int .i64 0)).setCell ⟨w.heap.size + 1 + 1, 1, none⟩ (.int .i64 0)).setCell ⟨w.heap.size + 1 + 1, 2, none⟩ (.int .i64 0)).setCell ⟨w.heap.size + 1 + 1, 3, none⟩ (.int .i64 0)) ⟨w.heap.size + 1 + 1, 4, none⟩ (.int .i64 0) (w.heap.size + 1) (by first | omega | assumption | (apply Ne.symm; assumption) | (simp; done) | (simp; omega))).trans q11
    have q15 := heap_setCell_same ((((w1.setCell ⟨w.heap.size + 1 + 1, 0, none⟩ (.int .i64 0)).setCell ⟨w.heap.size + 1 + 1, 1, none⟩ (.int .i64 0)).setCell ⟨w.heap.size + 1 + 1, 2, none⟩ (.int .i64 0)).setCell ⟨w.heap.size + 1 + 1, 3, none⟩ (.int .i64 0)) (w.heap.size + 1 + 1) 4 _ _ (.int .i64 0) q12
    have q16 := (Below.heap_setCell (((((w1.setCell ⟨w.heap.size + 1 + 1, 0, none⟩ (.int .i64 0)).setCell ⟨w.heap.size + 1 + 1, 1, none⟩ (.int .i64 0)).setCell ⟨w.heap.size + 1 + 1, 2, none⟩ (.int .i64 0)).setCell ⟨w.heap.size + 1 + 1, 3, none⟩ (.int .i64 0)).setCell ⟨w.heap.size + 1 + 1, 4, none⟩ (.int .i64 0)) ⟨w.heap.size + 1 + 1, 5, none⟩ (.int .i64 0) (w.heap.size) (by first | omega | assumption | (apply Ne.symm; assumption) | (simp; done) | (simp; omega))).trans q13
    have q17 := (Below.heap_setCell (((((w1.setCell ⟨w.heap.size + 1 + 1, 0, none⟩ (.int .i64 0)).setCell ⟨w.heap.size + 1 + 1, 1, none⟩ (.int .i64 0)).setCell ⟨w.heap.size + 1 + 1, 2, none⟩ (.int .i64 0)).setCell ⟨w.heap.size + 1 + 1, 3, none⟩ (.int .i64 0)).setCell ⟨w.heap.size + 1 + 1, 4, none⟩ (.int .i64 0)) ⟨w.heap.size + 1 + 1, 5, none⟩ (.int .i64 0) (w.heap.size + 1) (by first | omega | assumption | (apply Ne.symm; assumption) | (simp; done) | (simp; omega))).trans q14
    have q18 := heap_setCell_same (((((w1.setCell ⟨w.heap.size + 1 + 1, 0, none⟩ (.int .i64 0)).setCell ⟨w.heap.size + 1 + 1, 1, none⟩ (.int .i64 0)).setCell ⟨w.heap.size + 1 + 1, 2, none⟩ (.int .i64 0)).setCell ⟨w.heap.size + 1 + 1, 3, none⟩ (.int .i64 0)).setCell ⟨w.heap.size + 1 + 1, 4, none⟩ (.int .i64 0)) (w.heap.size + 1 + 1) 5 _ _ (.int .i64 0) q15
    obtain ⟨w2, hw2⟩ : ∃ W, W = ((((((w1.setCell ⟨w.heap.size + 1 + 1, 0, none⟩ (.int .i64 0)).setCell ⟨w.heap.size + 1 + 1, 1, none⟩ (.int .i64 0)).setCell ⟨w.heap.size + 1 + 1, 2, none⟩ (.int .i64 0)).setCell ⟨w.heap.size + 1 + 1, 3, none⟩ (.int .i64 0)).setCell ⟨w.heap.size + 1 + 1, 4, none⟩ (.int .i64 0)).setCell ⟨w.heap.size + 1 + 1, 5, none⟩ (.int .i64 0)) := ⟨_, rfl⟩
    rw [← hw2]
    replace h0 : w2.heap[w.heap.size]? = some (.cells #[.int .i64 m.m.a, .int .i64 m.m.b, .int .i64 m.m.c, .int .i64 m.m.d, .int .i64 m.t.x, .int .i64 m.t.y] 49 (0, 0)) := by rw [hw2]; exact q16
    replace h1 : w2.heap[w.heap.size + 1]? = some (.cells #[.int .i64 n.m.a, .int .i64 n.m.b, .int .i64 n.m.c, .int .i64 n.m.d, .int .i64 n.t.x, .int .i64 n.t.y] 49 (0, 0)) := by rw [hw2]; exact q17
    replace h2 : w2.heap[w.heap.size + 1 + 1]? = some (.cells #[.int .i64 0, .int .i64 0, .int .i64 0, .int .i64 0, .int .i64 0, .int .i64 0] 49 (0, 0)) := by rw [hw2]; exact q18
    have D2 := Lib.hid (show Below w.heap.size w w2 by rw [hw2]; exact (Below.setCell (Below.setCell (Below.setCell (Below.setCell (Below.setCell (Below.setCell D1.out (p := ⟨w.heap.size + 1 + 1, 0, none⟩) (by first | omega | (simp; done) | (simp; omega)) (.int .i64 0)) (p := ⟨w.heap.size + 1 + 1, 1, none⟩) (by first | omega | (simp; done) | (simp; omega)) (.int .i64 0)) (p := ⟨w.heap.size + 1 + 1, 2, none⟩) (by first | omega | (simp; done) | (simp; omega)) (.int .i64 0)) (p := ⟨w.heap.size + 1 + 1, 3, none⟩) (by first | omega | (simp; done) | (simp; omega)) (.int .i64 0)) (p := ⟨w.heap.size + 1 + 1, 4, none⟩) (by first | omega | (simp; done) | (simp; omega)) (.int .i64 0)) (p := ⟨w.heap.size + 1 + 1, 5, none⟩) (by first | omega | (simp; done) | (simp; omega)) (.int .i64 0)))
    have z2 := D2.out.size
    have y2 : w2.heap.size = w1.heap.size := by rw [hw2]; simp
    clear q18 q17 q16 q15 q14 q13 q12 q11 q10 q9 q8 q7 q6 q5 q4 q3 q2 q1 hw2
    try clear c0_0
    have c0_0 := cell_of_heap h0 (j := 0) rfl
    try clear f0_0
    have f0_0 := frozen_of_heap h0 0
    try clear c0_1
    have c0_1 := cell_of_heap h0 (j := 1) rfl
    try clear f0_1
    have f0_1 := frozen_of_heap h0 1
    try clear c0_2
    have c0_2 := cell_of_heap h0 (j := 2) rfl
    try clear f0_2
    have f0_2 := frozen_of_heap h0 2
    try clear c0_3
    have c0_3 := cell_of_heap h0 (j := 3) rfl
    try clear f0_3
    have f0_3 := frozen_of_heap h0 3
    try clear c0_4
    have c0_4 := cell_of_heap h0 (j := 4) rfl
    try clear f0_4
    have f0_4 := frozen_of_heap h0 4
    try clear c0_5
    have c0_5 := cell_of_heap h0 (j := 5) rfl
    try clear f0_5
    have f0_5 := frozen_of_heap h0 5
    try clear c1_0
    have c1_0 := cell_of_heap h1 (j := 0) rfl
    try clear f1_0
    have f1_0 := frozen_of_heap h1 0
    try clear c1_1
    have c1_1 := cell_of_heap h1 (j := 1) rfl
    try clear f1_1
    have f1_1 := frozen_of_heap h1 1
    try clear c1_2
    have c1_2 := cell_of_heap h1 (j := 2) rfl
    try clear f1_2
    have f1_2 := frozen_of_heap h1 2
    try clear c1_3
    have c1_3 := cell_of_heap h1 (j := 3) rfl
    try clear f1_3
    have f1_3 := frozen_of_heap h1 3
    try clear c1_4
    have c1_4 := cell_of_heap h1 (j := 4) rfl
    try clear f1_4
    have f1_4 := frozen_of_heap h1 4
    try clear c1_5
    have c1_5 := cell_of_heap h1 (j := 5) rfl
    try clear f1_5
    have f1_5 := frozen_of_heap h1 5
    try clear c2_0
    have c2_0 := cell_of_heap h2 (j := 0) rfl
    try clear f2_0
    have f2_0 := frozen_of_heap h2 0
    try clear c2_1
    have c2_1 := cell_of_heap h2 (j := 1) rfl
    try clear f2_1
    have f2_1 := frozen_of_heap h2 1
    try clear c2_2
    have c2_2 := cell_of_heap h2 (j := 2) rfl
    try clear f2_2
    have f2_2 := frozen_of_heap h2 2
    try clear c2_3
    have c2_3 := cell_of_heap h2 (j := 3) rfl
    try clear f2_3
    have f2_3 := frozen_of_heap h2 3
    try clear c2_4
    have c2_4 := cell_of_heap h2 (j := 4) rfl
    try clear f2_4
    have f2_4 := frozen_of_heap h2 4
    try clear c2_5
    have c2_5 := cell_of_heap h2 (j := 5) rfl
    try clear f2_5
    have f2_5 := frozen_of_heap h2 5
    refine bodyPost_ret (results_bt rfl _ _ (w.heap.size + 1 + 1) rfl rfl h2 Tryd.underlying49 rfl (by kernel_rfl)) rfl ⟨rfl, D2.out⟩
  · cases k2
    · simp only [Bool.false_and, Bool.true_and, Bool.and_self, Bool.and_false, Bool.and_true, Bool.false_eq_true, if_true, if_false]
      go_enter Tryd.func32, Tryd.ntmps32
      go_wp2_with fail
      refine (H1.out _).mono ?_
      rintro e w1 ⟨rfl, hb⟩
      have h0 : w1.heap[w.heap.size]? = some (.cells #[.int .i64 m.m.a, .int .i64 m.m.b, .int .i64 m.m.c, .int .i64 m.m.d, .int .i64 m.t.x, .int .i64 m.t.y] 49 (0, 0)) := hb_below hb (by repeat (first | (refine hb_new ?_; (first | omega | (simp; omega) | (simp; done))) | (refine hb_old ?_ ?_; rotate_left; focus (first | omega | (simp; omega) | (simp; done))) | refine hb_drew ?_)) (by first | omega | (simp; omega) | (simp; done))
      have h1 : w1.heap[w.heap.size + 1]? = some (.cells #[.int .i64 n.m.a, .int .i64 n.m.b, .int .i64 n.m.c, .int .i64 n.m.d, .int .i64 n.t.x, .int .i64 n.t.y] 49 (0, 0)) := hb_below hb (by repeat (first | (refine hb_new ?_; (first | omega | (simp; omega) | (simp; done))) | (refine hb_old ?_ ?_; rotate_left; focus (first | omega | (simp; omega) | (simp; done))) | refine hb_drew ?_)) (by first | omega | (simp; omega) | (simp; done))
      have h2 : w1.heap[w.heap.size + 1 + 1]? = some (.cells #[.int .i64 0, .int .i64 0, .int .i64 0, .int .i64 0, .int .i64 0, .int .i64 0] 49 (0, 0)) := hb_below hb (by repeat (first | (refine hb_new ?_; (first | omega | (simp; omega) | (simp; done))) | (refine hb_old ?_ ?_; rotate_left; focus (first | omega | (simp; omega) | (simp; done))) | refine hb_drew ?_)) (by first | omega | (simp; omega) | (simp; done))
      have y1 := Below.size hb
      try simp only [World.size_alloc, World.size_drew] at y1
      have D1 := Lib.hid (show Below w.heap.size w w1 from Below.trans (by repeat (first | exact Below.refl _ _ | refine Below.alloc ?_ (by first | omega | (simp; omega) | (simp; done)) _)) (Below.mono hb (by first | omega | (simp; omega) | (simp; done))))
      have z1 := D1.out.size
      clear hb
      try clear c0_0
      have c0_0 := cell_of_heap h0 (j := 0) rfl
      try clear f0_0
      have f0_0 := frozen_of_heap h0 0
      try clear c0_1
      have c0_1 := cell_of_heap h0 (j := 1) rfl
      try clear f0_1
      have f0_1 := frozen_of_heap h0 1
      try clear c0_2
      have c0_2 := cell_of_heap h0 (j := 2) rfl
      try clear f0_2
      have f0_2 := frozen_of_heap h0 2
      try clear c0_3
      have c0_3 := cell_of_heap h0 (j := 3) rfl
      try clear f0_3
      have f0_3 := frozen_of_heap h0 3
      try clear c0_4
      have c0_4 := cell_of_heap h0 (j := 4) rfl
      try clear f0_4
      have f0_4 := frozen_of_heap h0 4
      try clear c0_5
      have c0_5 := cell_of_heap h0 (j := 5) rfl
      try clear f0_5
      have f0_5 := frozen_of_heap h0 5
      try clear c1_0
      have c1_0 := cell_of_heap h1 (j := 0) rfl
      try clear f1_0
      have f1_0 := frozen_of_heap h1 0
      try clear c1_1
      have c1_1 := cell_of_heap h1 (j := 1) rfl
      try clear f1_1
      have f1_1 := frozen_of_heap h1 1
      try clear c1_2
      have c1_2 := cell_of_heap h1 (j := 2) rfl
      try clear f1_2
      have f1_2 := frozen_of_heap h1 2
      try clear c1_3
      have c1_3 := cell_of_heap h1 (j := 3) rfl
      try clear f1_3
      have f1_3 := frozen_of_heap h1 3
      try clear c1_4
      have c1_4 := cell_of_heap h1 (j := 4) rfl
      try clear f1_4
      have f1_4 := frozen_of_heap h1 4
      try clear c1_5
      have c1_5 := cell_of_heap h1 (j := 5) rfl
      try clear f1_5
      have f1_5 := frozen_of_heap h1 5
      try clear c2_0
      have c2_0 := cell_of_heap h2 (j := 0) rfl
      try clear f2_0
      have f2_0 := frozen_of_heap h2 0
      try clear c2_1
      have c2_1 := cell_of_heap h2 (j := 1) rfl
      try clear f2_1
      have f2_1 := frozen_of_heap h2 1
      try clear c2_2
      have c2_2 := cell_of_heap h2 (j := 2) rfl
      try clear f2_2
      have f2_2 := frozen_of_heap h2 2
      try clear c2_3
      have c2_3 := cell_of_heap h2 (j := 3) rfl
      try clear f2_3
      have f2_3 := frozen_of_heap h2 3
      try clear c2_4
      have c2_4 := cell_of_heap h2 (j := 4) rfl
      try clear f2_4
      have f2_4 := frozen_of_heap h2 4
      try clear c2_5
      have c2_5 := cell_of_heap h2 (j := 5) rfl
      try clear f2_5
      have f2_5 := frozen_of_heap h2 5
      go_wp2_with fail
      refine (H2.out _).mono ?_
      rintro e w2 ⟨rfl, hb⟩
      replace h0 : w2.heap[w.heap.size]? = some (.cells #[.int .i64 m.m.a, .int .i64 m.m.b, .int .i64 m.m.c, .int .i64 m.m.d, .int .i64 m.t.x, .int .i64 m.t.y] 49 (0, 0)) := hb_below hb (by repeat (first | exact h0 | (refine hb_new ?_; (first | omega | (simp; omega) | (simp; done))) | (refine hb_old ?_ ?_; rotate_left; focus (first | omega | (simp; omega) | (simp; done))) | refine hb_drew ?_)) (by first | omega | (simp; omega) | (simp; done))
      replace h1 : w2.heap[w.heap.size + 1]? = some (.cells #[.int .i64 n.m.a, .int .i64 n.m.b, .int .i64 n.m.c, .int .i64 n.m.d, .int .i64 n.t.x, .int .i64 n.t.y] 49 (0, 0)) := hb_below hb (by repeat (first | exact h1 | (refine hb_new ?_; (first | omega | (simp; omega) | (simp; done))) | (refine hb_old ?_ ?_; rotate_left; focus (first | omega | (simp; omega) | (simp; done))) | refine hb_drew ?_)) (by first | omega | (simp; omega) | (simp; done))
      replace h2 : w2.heap[w.heap.size + 1 + 1]? = some (.cells #[.int .i64 0, .int .i64 0, .int .i64 0, .int .i64 0, .int .i64 0, .int .i64 0] 49 (0, 0)) := hb_below hb (by repeat (first | exact h2 | (refine hb_new ?_; (first | omega | (simp; omega) | (simp; done))) | (refine hb_old ?_ ?_; rotate_left; focus (first | omega | (simp; omega) | (simp; done))) | refine hb_drew ?_)) (by first | omega | (simp; omega) | (simp; done))
      have y2 := Below.size hb
      try simp only [World.size_alloc, World.size_drew] at y2
      have D2 := Lib.hid (show Below w.heap.size w w2 from Below.trans (by repeat (first | exact D1.out | exact Below.refl _ _ | refine Below.alloc ?_ (by first | omega | (simp; omega) | (simp; done)) _)) (Below.mono hb (by first | omega | (simp; omega) | (simp; done))))
      have z2 := D2.out.size
      clear hb
      try clear c0_0
      have c0_0 := cell_of_heap h0 (j := 0) rfl
      try clear f0_0
      have f0_0 := frozen_of_heap h0 0
      try clear c0_1
      have c0_1 := cell_of_heap h0 (j := 1) rfl
      try clear f0_1
      have f0_1 := frozen_of_heap h0 1
      try clear c0_2
      have c0_2 := cell_of_heap h0 (j := 2) rfl
      try clear f0_2
      have f0_2 := frozen_of_heap h0 2
      try clear c0_3
      have c0_3 := cell_of_heap h0 (j := 3) rfl
      try clear f0_3
      have f0_3 := frozen_of_heap h0 3
      try clear c0_4
      have c0_4 := cell_of_heap h0 (j := 4) rfl
      try clear f0_4
      have f0_4 := frozen_of_heap h0 4
      try clear c0_5
      have c0_5 := cell_of_heap h0 (j := 5) rfl
      try clear f0_5
      have f0_5 := frozen_of_heap h0 5
      try clear c1_0
      have c1_0 := cell_of_heap h1 (j := 0) rfl
      try clear f1_0
      have f1_0 := frozen_of_heap h1 0
      try clear c1_1
      have c1_1 := cell_of_heap h1 (j := 1) rfl
      try clear f1_1
      have f1_1 := frozen_of_heap h1 1
      try clear c1_2
      have c1_2 := cell_of_heap h1 (j := 2) rfl
      try clear f1_2
      have f1_2 := frozen_of_heap h1 2
      try clear c1_3
      have c1_3 := cell_of_heap h1 (j := 3) rfl
      try clear f1_3
      have f1_3 := frozen_of_heap h1 3
      try clear c1_4
      have c1_4 := cell_of_heap h1 (j := 4) rfl
      try clear f1_4
      have f1_4 := frozen_of_heap h1 4
      try clear c1_5
      have c1_5 := cell_of_heap h1 (j := 5) rfl
      try clear f1_5
      have f1_5 := frozen_of_heap h1 5
      try clear c2_0
      have c2_0 := cell_of_heap h2 (j := 0) rfl
      try clear f2_0
      have f2_0 := frozen_of_heap h2 0
      try clear c2_1
      have c2_1 := cell_of_heap h2 (j := 1) rfl
      try clear f2_1
      have f2_1 := frozen_of_heap h2 1
      try clear c2_2
      have c2_2 := cell_of_heap h2 (j := 2) rfl
      try clear f2_2
      have f2_2 := frozen_of_heap h2 2
      try clear c2_3
      have c2_3 := cell_of_heap h2 (j := 3) rfl
      try clear f2_3
      have f2_3 := frozen_of_heap h2 3
      try clear c2_4
      have c2_4 := cell_of_heap h2 (j := 4) rfl
      try clear f2_4
      have f2_4 := frozen_of_heap h2 4
      try clear c2_5
      have c2_5 := cell_of_heap h2 (j := 5) rfl
      try clear f2_5
      have f2_5 := frozen_of_heap h2 5
      go_wp2_with fail
      have q1 := (Below.heap_setCell w2 ⟨w.heap.size + 1 + 1, 0, none⟩ (.int .i64 0) (w.heap.size) (by first | omega | assumption | (apply Ne.symm; assumption) | (simp; done) | (simp; omega))).trans h0
      have q2 := (Below.heap_setCell w2 ⟨w.heap.size + 1 + 1, 0, none⟩ (.int .i64 0) (w.heap.size + 1) (by first | omega | assumption | (apply Ne.symm; assumption) | (simp; done) | (simp; omega))).trans h1
      have q3 := heap_setCell_same w2 (w.heap.size + 1 + 1) 0 _ _ (.int .i64 0) h2
      have q4 := (Below.heap_setCell (w2.setCell ⟨w.heap.size + 1 + 1, 0, none⟩ (.int .i64 0)) ⟨w.heap.size + 1 + 1, 1, none⟩ (.int .i64 0) (w.heap.size) (by first | omega | assumption | (apply Ne.symm; assumption) | (simp; done) | (simp; omega))).trans q1
      have q5 := (Below.heap_setCell (w2.setCell ⟨w.heap.size + 1 + 1, 0, none⟩ (.int .i64 0)) ⟨w.heap.size + 1 + 1, 1, none⟩ (.int .i64 0) (w.heap.size + 1) (by first | omega | assumption | (apply Ne.symm; assumption) | (simp; done) | (simp; omega))).trans q2
      have q6 := heap_setCell_same (w2.setCell ⟨w.heap.size + 1 + 1, 0, none⟩ (.int .i64 0)) (w.heap.size + 1 + 1) 1 _ _ (.int .i64 0) q3
      have q7 := (Below.heap_setCell ((w2.setCell ⟨w.heap.size + 1 + 1, 0, none⟩ (.int .i64 0)).setCell ⟨w.heap.size + 1 + 1, 1, none⟩ (.int .i64 0)) ⟨w.heap.size + 1 + 1, 2, none⟩ (.int .i64 0) (w.heap.size) (by first | omega | assumption | (apply Ne.symm; assumption) | (simp; done) | (simp; omega))).trans q4
      have q8 := (Below.heap_setCell ((w2.setCell ⟨w.heap.size + 1 + 1, 0, none⟩ (.int .i64 0)).setCell ⟨w.heap.size + 1 + 1, 1, none⟩ (.int .i64 0)) ⟨w.heap.size + 1 + 1, 2, none⟩ (.int .i64 0) (w.heap.size + 1) (by first | omega | assumption | (apply Ne.symm; assumption) | (simp; done) | (simp; omega))).trans q5
      have q9 := heap_setCell_same ((w2.setCell ⟨w.heap.size + 1 + 1, 0, none⟩ (.int .i64 0)).setCell ⟨w.heap.size + 1 + 1, 1, none⟩ (.int .i64 0)) (w.heap.size + 1 + 1) 2 _ _ (.int .i64 0) q6
      have q10 := (Below.heap_setCell (((w2.setCell ⟨w.heap.size + 1 + 1, 0, none⟩ (.int .i64 0)).setCell ⟨w.heap.size + 1 + 1, 1, none⟩ (.int .i64 0)).setCell ⟨w.heap.size + 1 + 1, 2, none⟩ (.int .i64 0)) ⟨w.heap.size + 1 + 1, 3, none⟩ (.int .i64 0) (w.heap.size) (by first | omega | assumption | (apply Ne.symm; assumption) | (simp; done) | (simp; omega))).trans q7
      have q11 := (Below.heap_setCell (((w2.setCell ⟨w.heap.size + 1 + 1, 0, none⟩ (.int .i64 0)).setCell ⟨w.heap.size + 1 + 1, 1, none⟩ (.int .i64 0)).setCell ⟨w.heap.size + 1 + 1, 2, none⟩ (.int .i64 0)) ⟨w.heap.size + 1 + 1, 3, none⟩ (.int .i64 0) (w.heap.size + 1) (by first | omega | assumption | (apply Ne.symm; assumption) | (simp; done) | (simp; omega))).trans q8
      have q12 := heap_setCell_same (((w2.setCell ⟨w.heap.size + 1 + 1, 0, none⟩ (.int .i64 0)).setCell ⟨w.heap.size + 1 + 1, 1, none⟩ (.int .i64 0)).setCell ⟨w.heap.size + 1 + 1, 2, none⟩ (.int .i64 0)) (w.heap.size + 1 + 1) 3 _ _ (.int .i64 0) q9
      have q13 := (Below.heap_setCell ((((w2.setCell ⟨w.heap.size + 1 + 1, 0, none⟩ (.int .i64 0)).setCell ⟨w.heap.size + 1 + 1, 1, none⟩ (.int .i64 0)).setCell ⟨w.heap.size + 1 + 1, 2, none⟩ (.int .i64 0)).setCell ⟨w.heap.size + 1 + 1, 3, none⟩ (.int .i64 0)) ⟨w.heap.size + 1 + 1, 4, none⟩ (.int .i64 0) (w.heap.size) (by first | omega | assumption | (apply Ne.symm; assumption) | (simp; done) | (simp; omega))).trans q10
      have q14 := (Below.heap_setCell ((((w2.setCell ⟨w.heap.size + 1 + 1, 0, none⟩ (.int .i64 0)).setCell ⟨w.heap.size + 1 + 1, 1, none⟩ (.int .i64 0)).setCell ⟨w.heap.size + 1 + 1, 2, none⟩ (.int .i64 0)).setCell ⟨w.heap.size + 1 + 1, 3, none⟩ (.int .i64 0)) ⟨w.heap.size + 1 + 1, 4, none⟩ (.int .i64 0) (w.heap.size + 1) (by first | omega | assumption | (apply Ne.symm; assumption) | (simp; done) | (simp; omega))).trans q11
      have q15 := heap_setCell_same ((((w2.setCell ⟨w.heap.size + 1 + 1, 0, none⟩ (.int .i64 0)).setCell ⟨w.heap.size + 1 + 1, 1, none⟩ (.int .i64 0)).setCell ⟨w.heap.size + 1 + 1, 2, none⟩ (.int .i64 0)).setCell ⟨w.heap.size + 1 + 1, 3, none⟩ (.int .i64 0)) (w.heap.size + 1 + 1) 4 _ _ (.int .i64 0) q12
      have q16 := (Below.heap_setCell (((((w2.setCell ⟨w.heap.size + 1 + 1, 0, none⟩ (.int .i64 0)).setCell ⟨w.heap.size + 1 + 1, 1, none⟩ (.int .i64 0)).setCell ⟨w.heap.size + 1 + 1, 2, none⟩ (.int .i64 0)).setCell ⟨w.heap.size + 1 + 1, 3, none⟩ (.int .i64 0)).setCell ⟨w.heap.size + 1 + 1, 4, none⟩ (.int .i64 0)) ⟨w.heap.size + 1 + 1, 5, none⟩ (.int .i64 0) (w.heap.size) (by first | omega | assumption | (apply Ne.symm; assumption) | (simp; done) | (simp; omega))).trans q13
      have q17 := (Below.heap_setCell (((((w2.setCell ⟨w.heap.size + 1 + 1, 0, none⟩ (.int .i64 0)).setCell ⟨w.heap.size + 1 + 1, 1, none⟩ (.int .i64 0)).setCell ⟨w.heap.size + 1 + 1, 2, none⟩ (.int .i64 0)).setCell ⟨w.heap.size + 1 + 1, 3, none⟩ (.int .i64 0)).setCell ⟨w.heap.size + 1 + 1, 4, none⟩ (.int .i64 0)) ⟨w.heap.size + 1 + 1, 5, none⟩ (.int .i64 0) (w.heap.size + 1) (by first | omega | assumption | (apply Ne.symm; assumption) | (simp; done) | (simp; omega))).trans q14
      have q18 := heap_setCell_same (((((w2.setCell ⟨w.heap.size + 1 + 1, 0, none⟩ (.int .i64 0)).setCell ⟨w.heap.size + 1 + 1, 1, none⟩ (.int .i64 0)).setCell ⟨w.heap.size + 1 + 1, 2, none⟩ (.int .i64 0)).setCell ⟨w.heap.size + 1 + 1, 3, none⟩ (.int .i64 0)).setCell ⟨w.heap.size + 1 + 1, 4, none⟩ (.int .i64 0)) (w.heap.size + 1 + 1) 5 _ _ (.int .i64 0) q15
      obtain ⟨w3, hw3⟩ : ∃ W, W = ((((((w2.setCell ⟨w.heap.size + 1 + 1, 0, none⟩ (.int .i64 0)).setCell ⟨w.heap.size + 1 + 1, 1, none⟩ (.int .i64 0)).setCell ⟨w.heap.size + 1 + 1, 2, none⟩ (.int .i64 0)).setCell ⟨w.heap.size + 1 + 1, 3, none⟩ (.int .i64 0)).setCell ⟨w.heap.size + 1 + 1, 4, none⟩ (.int .i64 0)).setCell ⟨w.heap.size + 1 + 1, 5, none⟩ (.int .i64 0)) := ⟨_, rfl⟩
      rw [← hw3]
      replace h0 : w3.heap[w.heap.size]? = some (.cells #[.int .i64 m.m.a, .int .i64 m.m.b, .int .i64 m.m.c, .int .i64 m.m.d, .int .i64 m.t.x, .int .i64 m.t.y] 49 (0, 0)) := by rw [hw3]; exact q16
      replace h1 : w3.heap[w.heap.size + 1]? = some (.cells #[.int .i64 n.m.a, .int .i64 n.m.b, .int .i64 n.m.c, .int .i64 n.m.d, .int .i64 n.t.x, .int .i64 n.t.y] 49 (0, 0)) := by rw [hw3]; exact q17
      replace h2 : w3.heap[w.heap.size + 1 + 1]? = some (.cells #[.int .i64 0, .int .i64 0, .int .i64 0, .int .i64 0, .int .i64 0, .int .i64 0] 49 (0, 0)) := by rw [hw3]; exact q18
      have D3 := Lib.hid (show Below w.heap.size w w3 by rw [hw3]; exact (Below.setCell (Below.setCell (Below.setCell (Below.setCell (Below.setCell (Below.setCell D2.out (p := ⟨w.heap.size + 1 + 1, 0, none⟩) (by first | omega | (simp; done) | (simp; omega)) (.int .i64 0)) (p := ⟨w.heap.size + 1 + 1, 1, none⟩) (by first | omega | (simp; done) | (simp; omega)) (.int .i64 0)) (p := ⟨w.heap.size + 1 + 1, 2, none⟩) (by first | omega | (simp; done) | (simp; omega)) (.int .i64 0)) (p := ⟨w.heap.size + 1 + 1, 3, none⟩) (by first | omega | (simp; done) | (simp; omega)) (.int .i64 0)) (p := ⟨w.heap.size + 1 + 1, 4, none⟩) (by first | omega | (simp; done) | (simp; omega)) (.int .i64 0)) (p := ⟨w.heap.size + 1 + 1, 5, none⟩) (by first | omega | (simp; done) | (simp; omega)) (.int .i64 0)))
      have z3 := D3.out.size
      have y3 : w3.heap.size = w2.heap.size := by rw [hw3]; simp
      clear q18 q17 q16 q15 q14 q13 q12 q11 q10 q9 q8 q7 q6 q5 q4 q3 q2 q1 hw3
      try clear c0_0
      have c0_0 := cell_of_heap h0 (j := 0) rfl
      try clear f0_0
      have f0_0 := frozen_of_heap h0 0
      try clear c0_1
      have c0_1 := cell_of_heap h0 (j := 1) rfl
      try clear f0_1
      have f0_1 := frozen_of_heap h0 1
      try clear c0_2
      have c0_2 := cell_of_heap h0 (j := 2) rfl
      try clear f0_2
      have f0_2 := frozen_of_heap h0 2
      try clear c0_3
      have c0_3 := cell_of_heap h0 (j := 3) rfl
      try clear f0_3
      have f0_3 := frozen_of_heap h0 3
      try clear c0_4
      have c0_4 := cell_of_heap h0 (j := 4) rfl
      try clear f0_4
      have f0_4 := frozen_of_heap h0 4
      try clear c0_5
      have c0_5 := cell_of_heap h0 (j := 5) rfl
      try clear f0_5
      have f0_5 := frozen_of_heap h0 5
      try clear c1_0
      have c1_0 := cell_of_heap h1 (j := 0) rfl
      try clear f1_0
      have f1_0 := frozen_of_heap h1 0
      try clear c1_1
      have c1_1 := cell_of_heap h1 (j := 1) rfl
      try clear f1_1
      have f1_1 := frozen_of_heap h1 1
      try clear c1_2
      have c1_2 := cell_of_heap h1 (j := 2) rfl
      try clear f1_2
      have f1_2 := frozen_of_heap h1 2
      try clear c1_3
      have c1_3 := cell_of_heap h1 (j := 3) rfl
      try clear f1_3
      have f1_3 := frozen_of_heap h1 3
      try clear c1_4
      have c1_4 := cell_of_heap h1 (j := 4) rfl
      try clear f1_4
      have f1_4 := frozen_of_heap h1 4
      try clear c1_5
      have c1_5 := cell_of_heap h1 (j := 5) rfl
      try clear f1_5
      have f1_5 := frozen_of_heap h1 5
      try clear c2_0
      have c2_0 := cell_of_heap h2 (j := 0) rfl
      try clear f2_0
      have f2_0 := frozen_of_heap h2 0
      try clear c2_1
      have c2_1 := cell_of_heap h2 (j := 1) rfl
      try clear f2_1
      have f2_1 := frozen_of_heap h2 1
      try clear c2_2
      have c2_2 := cell_of_heap h2 (j := 2) rfl
      try clear f2_2
      have f2_2 := frozen_of_heap h2 2
      try clear c2_3
      have c2_3 := cell_of_heap h2 (j := 3) rfl
      try clear f2_3
      have f2_3 := frozen_of_heap h2 3
      try clear c2_4
      have c2_4 := cell_of_heap h2 (j := 4) rfl
      try clear f2_4
      have f2_4 := frozen_of_heap h2 4
      try clear c2_5
      have c2_5 := cell_of_heap h2 (j := 5) rfl
      try clear f2_5
      have f2_5 := frozen_of_heap h2 5
      refine bodyPost_ret (results_bt rfl _ _ (w.heap.size + 1 + 1) rfl rfl h2 Tryd.underlying49 rfl (by kernel_rfl)) rfl ⟨rfl, D3.out⟩
    · simp only [Bool.false_and, Bool.true_and, Bool.and_self, Bool.and_false, Bool.and_true, Bool.false_eq_true, if_true, if_false]
      go_enter Tryd.func32, Tryd.ntmps32
      go_wp2_with fail
      refine (H1.out _).mono ?_
      rintro e w1 ⟨rfl, hb⟩
      have h0 : w1.heap[w.heap.size]? = some (.cells #[.int .i64 m.m.a, .int .i64 m.m.b, .int .i64 m.m.c, .int .i64 m.m.d, .int .i64 m.t.x, .int .i64 m.t.y] 49 (0, 0)) := hb_below hb (by repeat (first | (refine hb_new ?_; (first | omega | (simp; omega) | (simp; done))) | (refine hb_old ?_ ?_; rotate_left; focus (first | omega | (simp; omega) | (simp; done))) | refine hb_drew ?_)) (by first | omega | (simp; omega) | (simp; done))
      have h1 : w1.heap[w.heap.size + 1]? = some (.cells #[.int .i64 n.m.a, .int .i64 n.m.b, .int .i64 n.m.c, .int .i64 n.m.d, .int .i64 n.t.x, .int .i64 n.t.y] 49 (0, 0)) := hb_below hb (by repeat (first | (refine hb_new ?_; (first | omega | (simp; omega) | (simp; done))) | (refine hb_old ?_ ?_; rotate_left; focus (first | omega | (simp; omega) | (simp; done))) | refine hb_drew ?_)) (by first | omega | (simp; omega) | (simp; done))
      have h2 : w1.heap[w.heap.size + 1 + 1]? = some (.cells #[.int .i64 0, .int .i64 0, .int .i64 0, .int .i64 0, .int .i64 0, .int .i64 0] 49 (0, 0)) := hb_below hb (by repeat (first | (refine hb_new ?_; (first | omega | (simp; omega) | (simp; done))) | (refine hb_old ?_ ?_; rotate_left; focus (first | omega | (simp; omega) | (simp; done))) | refine hb_drew ?_)) (by first | omega | (simp; omega) | (simp; done))
      have y1 := Below.size hb
      try simp only [World.size_alloc, World.size_drew] at y1
      have D1 := Lib.hid (show Below w.heap.size w w1 from Below.trans (by repeat (first | exact Below.refl _ _ | refine Below.alloc ?_ (by first | omega | (simp; omega) | (simp; done)) _)) (Below.mono hb (by first | omega | (simp; omega) | (simp; done))))
      have z1 := D1.out.size
      clear hb
      try clear c0_0
      have c0_0 := cell_of_heap h0 (j := 0) rfl
      try clear f0_0
      have f0_0 := frozen_of_heap h0 0
      try clear c0_1
      have c0_1 := cell_of_heap h0 (j := 1) rfl
      try clear f0_1
      have f0_1 := frozen_of_heap h0 1
      try clear c0_2
      have c0_2 := cell_of_heap h0 (j := 2) rfl
      try clear f0_2
      have f0_2 := frozen_of_heap h0 2
      try clear c0_3
      have c0_3 := cell_of_heap h0 (j := 3) rfl
      try clear f0_3
      have f0_3 := frozen_of_heap h0 3
      try clear c0_4
      have c0_4 := cell_of_heap h0 (j := 4) rfl
      try clear f0_4
      have f0_4 := frozen_of_heap h0 4
      try clear c0_5
      have c0_5 := cell_of_heap h0 (j := 5) rfl
      try clear f0_5
      have f0_5 := frozen_of_heap h0 5
      try clear c1_0
      have c1_0 := cell_of_heap h1 (j := 0) rfl
      try clear f1_0
      have f1_0 := frozen_of_heap h1 0
      try clear c1_1
      have c1_1 := cell_of_heap h1 (j := 1) rfl
      try clear f1_1
      have f1_1 := frozen_of_heap h1 1
      try clear c1_2
      have c1_2 := cell_of_heap h1 (j := 2) rfl
      try clear f1_2
      have f1_2 := frozen_of_heap h1 2
      try clear c1_3
      have c1_3 := cell_of_heap h1 (j := 3) rfl
      try clear f1_3
      have f1_3 := frozen_of_heap h1 3
      try clear c1_4
      have c1_4 := cell_of_heap h1 (j := 4) rfl
      try clear f1_4
      have f1_4 := frozen_of_heap h1 4
      try clear c1_5
      have c1_5 := cell_of_heap h1 (j := 5) rfl
      try clear f1_5
      have f1_5 := frozen_of_heap h1 5
      try clear c2_0
      have c2_0 := cell_of_heap h2 (j := 0) rfl
      try clear f2_0
      have f2_0 := frozen_of_heap h2 0
      try clear c2_1
      have c2_1 := cell_of_heap h2 (j := 1) rfl
      try clear f2_1
      have f2_1 := frozen_of_heap h2 1
      try clear c2_2
      have c2_2 := cell_of_heap h2 (j := 2) rfl
      try clear f2_2
      have f2_2 := frozen_of_heap h2 2
      try clear c2_3
      have c2_3 := cell_of_heap h2 (j := 3) rfl
      try clear f2_3
      have f2_3 := frozen_of_heap h2 3
      try clear c2_4
      have c2_4 := cell_of_heap h2 (j := 4) rfl
      try clear f2_4
      have f2_4 := frozen_of_heap h2 4
      try clear c2_5
      have c2_5 := cell_of_heap h2 (j := 5) rfl
      try clear f2_5
      have f2_5 := frozen_of_heap h2 5
      go_wp2_with fail
      refine (H2.out _).mono ?_
      rintro e w2 ⟨rfl, hb⟩
      replace h0 : w2.heap[w.heap.size]? = some (.cells #[.int .i64 m.m.a, .int .i64 m.m.b, .int .i64 m.m.c, .int .i64 m.m.d, .int .i64 m.t.x, .int .i64 m.t.y] 49 (0, 0)) := hb_below hb (by repeat (first | exact h0 | (refine hb_new ?_; (first | omega | (simp; omega) | (simp; done))) | (refine hb_old ?_ ?_; rotate_left; focus (first | omega | (simp; omega) | (simp; done))) | refine hb_drew ?_)) (by first | omega | (simp; omega) | (simp; done))
      replace h1 : w2.heap[w.heap.size + 1]? = some (.cells #[.int .i64 n.m.a, .int .i64 n.m.b, .int .i64 n.m.c, .int .i64 n.m.d, .int .i64 n.t.x, .int .i64 n.t.y] 49 (0, 0)) := hb_below hb (by repeat (first | exact h1 | (refine hb_new ?_; (first | omega | (simp; omega) | (simp; done))) | (refine hb_old ?_ ?_; rotate_left; focus (first | omega | (simp; omega) | (simp; done))) | refine hb_drew ?_)) (by first | omega | (simp; omega) | (simp; done))
      replace h2 : w2.heap[w.heap.size + 1 + 1]? = some (.cells #[.int .i64 0, .int .i64 0, .int .i64 0, .int .i64 0, .int .i64 0, .int .i64 0] 49 (0, 0)) := hb_below hb (by repeat (first | exact h2 | (refine hb_new ?_; (first | omega | (simp; omega) | (simp; done))) | (refine hb_old ?_ ?_; rotate_left; focus (first | omega | (simp; omega) | (simp; done))) | refine hb_drew ?_)) (by first | omega | (simp; omega) | (simp; done))
      have y2 := Below.size hb
      try simp only [World.size_alloc, World.size_drew] at y2
      have D2 := Lib.hid (show Below w.heap.size w w2 from Below.trans (by repeat (first | exact D1.out | exact Below.refl _ _ | refine Below.alloc ?_ (by first | omega | (simp; omega) | (simp; done)) _)) (Below.mono hb (by first | omega | (simp; omega) | (simp; done))))
      have z2 := D2.out.size
      clear hb
      try clear c0_0
      have c0_0 := cell_of_heap h0 (j := 0) rfl
      try clear f0_0
      have f0_0 := frozen_of_heap h0 0
      try clear c0_1
      have c0_1 := cell_of_heap h0 (j := 1) rfl
      try clear f0_1
      have f0_1 := frozen_of_heap h0 1
      try clear c0_2
      have c0_2 := cell_of_heap h0 (j := 2) rfl
      try clear f0_2
      have f0_2 := frozen_of_heap h0 2
      try clear c0_3
      have c0_3 := cell_of_heap h0 (j := 3) rfl
      try clear f0_3
      have f0_3 := frozen_of_heap h0 3
      try clear c0_4
      have c0_4 := cell_of_heap h0 (j := 4) rfl
      try clear f0_4
      have f0_4 := frozen_of_heap h0 4
      try clear c0_5
      have c0_5 := cell_of_heap h0 (j := 5) rfl
      try clear f0_5
      have f0_5 := frozen_of_heap h0 5
      try clear c1_0
      have c1_0 := cell_of_heap h1 (j := 0) rfl
      try clear f1_0
      have f1_0 := frozen_of_heap h1 0
      try clear c1_1
      have c1_1 := cell_of_heap h1 (j := 1) rfl
      try clear f1_1
      have f1_1 := frozen_of_heap h1 1
      try clear c1_2
      have c1_2 := cell_of_heap h1 (j := 2) rfl
      try clear f1_2
      have f1_2 := frozen_of_heap h1 2
      try clear c1_3
      have c1_3 := cell_of_heap h1 (j := 3) rfl
      try clear f1_3
      have f1_3 := frozen_of_heap h1 3
      try clear c1_4
      have c1_4 := cell_of_heap h1 (j := 4) rfl
      try clear f1_4
      have f1_4 := frozen_of_heap h1 4
      try clear c1_5
      have c1_5 := cell_of_heap h1 (j := 5) rfl
      try clear f1_5
      have f1_5 := frozen_of_heap h1 5
      try clear c2_0
      have c2_0 := cell_of_heap h2 (j := 0) rfl
      try clear f2_0
      have f2_0 := frozen_of_heap h2 0
      try clear c2_1
      have c2_1 := cell_of_heap h2 (j := 1) rfl
      try clear f2_1
      have f2_1 := frozen_of_heap h2 1
      try clear c2_2
      have c2_2 := cell_of_heap h2 (j := 2) rfl
      try clear f2_2
      have f2_2 := frozen_of_heap h2 2
      try clear c2_3
      have c2_3 := cell_of_heap h2 (j := 3) rfl
      try clear f2_3
      have f2_3 := frozen_of_heap h2 3
      try clear c2_4
      have c2_4 := cell_of_heap h2 (j := 4) rfl
      try clear f2_4
      have f2_4 := frozen_of_heap h2 4
      try clear c2_5
      have c2_5 := cell_of_heap h2 (j := 5) rfl
      try clear f2_5
      have f2_5 := frozen_of_heap h2 5
      go_wp2_with fail
      try clear c0_0
      try clear f0_0
      try clear c0_1
      try clear f0_1
      try clear c0_2
      try clear f0_2
      try clear c0_3
      try clear f0_3
      try clear c0_4
      try clear f0_4
      try clear c0_5
      try clear f0_5
      try clear c1_0
      try clear f1_0
      try clear c1_1
      try clear f1_1
      try clear c1_2
      try clear f1_2
      try clear c1_3
      try clear f1_3
      try clear c1_4
      try clear f1_4
      try clear c1_5
      try clear f1_5
      try clear c2_0
      try clear f2_0
      try clear c2_1
      try clear f2_1
      try clear c2_2
      try clear f2_2
      try clear c2_3
      try clear f2_3
      try clear c2_4
      try clear f2_4
      try clear c2_5
      try clear f2_5
      refine wp_region_alloc 10 11 [10] (fun _ => .cells #[.int .i64 0, .int .i64 0, .int .i64 0, .int .i64 0, .int .i64 0, .int .i64 0] 49 (0, 0)) (by kernel_rfl) (by kernel_rfl) ?_ ?_
      · intro i o h1 h2 ho
        have hi : i = 10 := by omega
        subst hi; (simp only [List.getElem?_toArray, List.getElem?_cons_succ, List.getElem?_cons_zero, Option.some.injEq] at ho; subst ho; exact ⟨rfl, fun a w => by go_simp; try rfl⟩)
      simp only [List.take_succ_cons, List.take_zero, List.drop_succ_cons, List.drop_zero]
      refine lex_still rfl _ (fun w => by go_simp; rfl) ?_
      simp only [Act.put, List.setIfInBounds_toArray, List.set_cons_zero, List.set_cons_succ]
      refine lex_load rfl _ _ rfl _ _ rfl [.int .i64 m.m.a, .int .i64 m.m.b, .int .i64 m.m.c, .int .i64 m.m.d] _ (fun w' h => range_part (range_of_heap (hb_below h h0 (by first | omega | (simp; omega) | (simp; done)))) 0 4) Tryd.underlying40 rfl (by kernel_rfl) ?_
      simp only [Act.put, List.setIfInBounds_toArray, List.set_cons_zero, List.set_cons_succ]
      refine lex_still rfl _ (fun w => by go_simp; rfl) ?_
      simp only [Act.put, List.setIfInBounds_toArray, List.set_cons_zero, List.set_cons_succ]
      refine lex_load rfl _ _ rfl _ _ rfl [.int .i64 n.m.a, .int .i64 n.m.b, .int .i64 n.m.c, .int .i64 n.m.d] _ (fun w' h => range_part (range_of_heap (hb_below h h1 (by first | omega | (simp; omega) | (simp; done)))) 0 4) Tryd.underlying40 rfl (by kernel_rfl) ?_
      simp only [Act.put, List.setIfInBounds_toArray, List.set_cons_zero, List.set_cons_succ]
      refine lex_call rfl 42 _ _ rfl (enter_of Tryd.func42 (by decide) (by intro h; cases h)) _ (H3.out) ?_
      simp only [Act.put, List.setIfInBounds_toArray, List.set_cons_zero, List.set_cons_succ]
      refine lex_load rfl _ _ rfl _ _ rfl [.int .i64 m.m.a, .int .i64 m.m.b, .int .i64 m.m.c, .int .i64 m.m.d, .int .i64 m.t.x, .int .i64 m.t.y] _ (fun w' h => range_of_heap (hb_below h h0 (by first | omega | (simp; omega) | (simp; done)))) Tryd.underlying49 rfl (by kernel_rfl) ?_
      simp only [Act.put, List.setIfInBounds_toArray, List.set_cons_zero, List.set_cons_succ]
      refine lex_still rfl _ (fun w => by go_simp; rfl) ?_
      simp only [Act.put, List.setIfInBounds_toArray, List.set_cons_zero, List.set_cons_succ]
      refine lex_load rfl _ _ rfl _ _ rfl [.int .i64 n.t.x, .int .i64 n.t.y] _ (fun w' h => range_part (range_of_heap (hb_below h h1 (by first | omega | (simp; omega) | (simp; done)))) 4 2) Tryd.underlying25 rfl (by kernel_rfl) ?_
      simp only [Act.put, List.setIfInBounds_toArray, List.set_cons_zero, List.set_cons_succ]
      refine lex_call rfl 75 _ _ rfl (enter_of Tryd.func75 (by decide) (by intro h; cases h)) _ (H4.out) ?_
      simp only [Act.put, List.setIfInBounds_toArray, List.set_cons_zero, List.set_cons_succ]
      refine lex_still rfl _ (fun w => by go_simp; rfl) ?_
      simp only [Act.put, List.setIfInBounds_toArray, List.set_cons_zero, List.set_cons_succ]
      refine aph1' 10 6 rfl ?_
      intro b3 w3 hb hF hD
      simp only [List.drop_succ_cons, List.drop_zero]
      simp only [Act.put, List.setIfInBounds_toArray, List.set_cons_zero, List.set_cons_succ]
      replace h0 : w3.heap[w.heap.size]? = some (.cells #[.int .i64 m.m.a, .int .i64 m.m.b, .int .i64 m.m.c, .int .i64 m.m.d, .int .i64 m.t.x, .int .i64 m.t.y] 49 (0, 0)) := hb_below hb (by repeat (first | exact h0 | (refine hb_new ?_; (first | omega | (simp; omega) | (simp; done))) | (refine hb_old ?_ ?_; rotate_left; focus (first | omega | (simp; omega) | (simp; done))) | refine hb_drew ?_)) (by first | omega | (simp; omega) | (simp; done))
      replace h1 : w3.heap[w.heap.size + 1]? = some (.cells #[.int .i64 n.m.a, .int .i64 n.m.b, .int .i64 n.m.c, .int .i64 n.m.d, .int .i64 n.t.x, .int .i64 n.t.y] 49 (0, 0)) := hb_below hb (by repeat (first | exact h1 | (refine hb_new ?_; (first | omega | (simp; omega) | (simp; done))) | (refine hb_old ?_ ?_; rotate_left; focus (first | omega | (simp; omega) | (simp; done))) | refine hb_drew ?_)) (by first | omega | (simp; omega) | (simp; done))
      replace h2 : w3.heap[w.heap.size + 1 + 1]? = some (.cells #[.int .i64 0, .int .i64 0, .int .i64 0, .int .i64 0, .int .i64 0, .int .i64 0] 49 (0, 0)) := hb_below hb (by repeat (first | exact h2 | (refine hb_new ?_; (first | omega | (simp; omega) | (simp; done))) | (refine hb_old ?_ ?_; rotate_left; focus (first | omega | (simp; omega) | (simp; done))) | refine hb_drew ?_)) (by first | omega | (simp; omega) | (simp; done))
      have g3 : w2.heap.size ≤ b3 := (hF 10 (by decide) (by decide)).1
      have l3 : b3 < w3.heap.size := (hF 10 (by decide) (by decide)).2.1
      have h3 : w3.heap[b3]? = some (.cells #[.int .i64 0, .int .i64 0, .int .i64 0, .int .i64 0, .int .i64 0, .int .i64 0] 49 (0, 0)) := (hF 10 (by decide) (by decide)).2.2
      clear hF hD
      have y3 := Below.size hb
      try simp only [World.size_alloc, World.size_drew] at y3
      have D3 := Lib.hid (show Below w.heap.size w w3 from Below.trans (by repeat (first | exact D2.out | exact Below.refl _ _ | refine Below.alloc ?_ (by first | omega | (simp; omega) | (simp; done)) _)) (Below.mono hb (by first | omega | (simp; omega) | (simp; done))))
      have z3 := D3.out.size
      clear hb
      refine store_row rfl _ _ _ rfl (b3) _ rfl rfl _ _ h3 (by kernel_rfl) rfl (by kernel_rfl) ?_
      intro w4 hn hk hz hB
      simp only [Act.put, List.setIfInBounds_toArray, List.set_cons_zero, List.set_cons_succ]
      replace h0 := hk _ _ h0 (by first | omega | assumption | (apply Ne.symm; assumption) | (simp; done) | (simp; omega))
      replace h1 := hk _ _ h1 (by first | omega | assumption | (apply Ne.symm; assumption) | (simp; done) | (simp; omega))
      replace h2 := hk _ _ h2 (by first | omega | assumption | (apply Ne.symm; assumption) | (simp; done) | (simp; omega))
      replace h3 : w4.heap[b3]? = some (.cells #[.int .i64 u1.a, .int .i64 u1.b, .int .i64 u1.c, .int .i64 u1.d, .int .i64 u2.x, .int .i64 u2.y] 49 (0, 0)) := hn
      have D4 := Lib.hid (hB _ _ D3.out (by first | omega | (simp; omega)))
      have z4 := D4.out.size
      have y4 : w4.heap.size = w3.heap.size := hz
      clear hn hk hz hB
      try clear c0_0
      have c0_0 := cell_of_heap h0 (j := 0) rfl
      try clear f0_0
      have f0_0 := frozen_of_heap h0 0
      try clear c0_1
      have c0_1 := cell_of_heap h0 (j := 1) rfl
      try clear f0_1
      have f0_1 := frozen_of_heap h0 1
      try clear c0_2
      have c0_2 := cell_of_heap h0 (j := 2) rfl
      try clear f0_2
      have f0_2 := frozen_of_heap h0 2
      try clear c0_3
      have c0_3 := cell_of_heap h0 (j := 3) rfl
      try clear f0_3
      have f0_3 := frozen_of_heap h0 3
      try clear c0_4
      have c0_4 := cell_of_heap h0 (j := 4) rfl
      try clear f0_4
      have f0_4 := frozen_of_heap h0 4
      try clear c0_5
      have c0_5 := cell_of_heap h0 (j := 5) rfl
      try clear f0_5
      have f0_5 := frozen_of_heap h0 5
      try clear c1_0
      have c1_0 := cell_of_heap h1 (j := 0) rfl
      try clear f1_0
      have f1_0 := frozen_of_heap h1 0
      try clear c1_1
      have c1_1 := cell_of_heap h1 (j := 1) rfl
      try clear f1_1
      have f1_1 := frozen_of_heap h1 1
      try clear c1_2
      have c1_2 := cell_of_heap h1 (j := 2) rfl
      try clear f1_2
      have f1_2 := frozen_of_heap h1 2
      try clear c1_3
      have c1_3 := cell_of_heap h1 (j := 3) rfl
      try clear f1_3
      have f1_3 := frozen_of_heap h1 3
      try clear c1_4
      have c1_4 := cell_of_heap h1 (j := 4) rfl
      try clear f1_4
      have f1_4 := frozen_of_heap h1 4
      try clear c1_5
      have c1_5 := cell_of_heap h1 (j := 5) rfl
      try clear f1_5
      have f1_5 := frozen_of_heap h1 5
      try clear c2_0
      have c2_0 := cell_of_heap h2 (j := 0) rfl
      try clear f2_0
      have f2_0 := frozen_of_heap h2 0
      try clear c2_1
      have c2_1 := cell_of_heap h2 (j := 1) rfl
      try clear f2_1
      have f2_1 := frozen_of_heap h2 1
      try clear c2_2
      have c2_2 := cell_of_heap h2 (j := 2) rfl
      try clear f2_2
      have f2_2 := frozen_of_heap h2 2
      try clear c2_3
      have c2_3 := cell_of_heap h2 (j := 3) rfl
      try clear f2_3
      have f2_3 := frozen_of_heap h2 3
      try clear c2_4
      have c2_4 := cell_of_heap h2 (j := 4) rfl
      try clear f2_4
      have f2_4 := frozen_of_heap h2 4
      try clear c2_5
      have c2_5 := cell_of_heap h2 (j := 5) rfl
      try clear f2_5
      have f2_5 := frozen_of_heap h2 5
      try clear c3_0
      have c3_0 := cell_of_heap h3 (j := 0) rfl
      try clear f3_0
      have f3_0 := frozen_of_heap h3 0
      try clear c3_1
      have c3_1 := cell_of_heap h3 (j := 1) rfl
      try clear f3_1
      have f3_1 := frozen_of_heap h3 1
      try clear c3_2
      have c3_2 := cell_of_heap h3 (j := 2) rfl
      try clear f3_2
      have f3_2 := frozen_of_heap h3 2
      try clear c3_3
      have c3_3 := cell_of_heap h3 (j := 3) rfl
      try clear f3_3
      have f3_3 := frozen_of_heap h3 3
      try clear c3_4
      have c3_4 := cell_of_heap h3 (j := 4) rfl
      try clear f3_4
      have f3_4 := frozen_of_heap h3 4
      try clear c3_5
      have c3_5 := cell_of_heap h3 (j := 5) rfl
      try clear f3_5
      have f3_5 := frozen_of_heap h3 5
      go_wp2_with fail
      refine (H5.out _).mono ?_
      rintro e w5 ⟨rfl, hb⟩
      replace h0 : w5.heap[w.heap.size]? = some (.cells #[.int .i64 m.m.a, .int .i64 m.m.b, .int .i64 m.m.c, .int .i64 m.m.d, .int .i64 m.t.x, .int .i64 m.t.y] 49 (0, 0)) := hb_below hb (by repeat (first | exact h0 | (refine hb_new ?_; (first | omega | (simp; omega) | (simp; done))) | (refine hb_old ?_ ?_; rotate_left; focus (first | omega | (simp; omega) | (simp; done))) | refine hb_drew ?_)) (by first | omega | (simp; omega) | (simp; done))
      replace h1 : w5.heap[w.heap.size + 1]? = some (.cells #[.int .i64 n.m.a, .int .i64 n.m.b, .int .i64 n.m.c, .int .i64 n.m.d, .int .i64 n.t.x, .int .i64 n.t.y] 49 (0, 0)) := hb_below hb (by repeat (first | exact h1 | (refine hb_new ?_; (first | omega | (simp; omega) | (simp; done))) | (refine hb_old ?_ ?_; rotate_left; focus (first | omega | (simp; omega) | (simp; done))) | refine hb_drew ?_)) (by first | omega | (simp; omega) | (simp; done))
      replace h2 : w5.heap[w.heap.size + 1 + 1]? = some (.cells #[.int .i64 0, .int .i64 0, .int .i64 0, .int .i64 0, .int .i64 0, .int .i64 0] 49 (0, 0)) := hb_below hb (by repeat (first | exact h2 | (refine hb_new ?_; (first | omega | (simp; omega) | (simp; done))) | (refine hb_old ?_ ?_; rotate_left; focus (first | omega | (simp; omega) | (simp; done))) | refine hb_drew ?_)) (by first | omega | (simp; omega) | (simp; done))
      replace h3 : w5.heap[b3]? = some (.cells #[.int .i64 u1.a, .int .i64 u1.b, .int .i64 u1.c, .int .i64 u1.d, .int .i64 u2.x, .int .i64 u2.y] 49 (0, 0)) := hb_below hb (by repeat (first | exact h3 | (refine hb_new ?_; (first | omega | (simp; omega) | (simp; done))) | (refine hb_old ?_ ?_; rotate_left; focus (first | omega | (simp; omega) | (simp; done))) | refine hb_drew ?_)) (by first | omega | (simp; omega) | (simp; done))
      have y5 := Below.size hb
      try simp only [World.size_alloc, World.size_drew] at y5
      have D5 := Lib.hid (show Below w.heap.size w w5 from Below.trans (by repeat (first | exact D4.out | exact Below.refl _ _ | refine Below.alloc ?_ (by first | omega | (simp; omega) | (simp; done)) _)) (Below.mono hb (by first | omega | (simp; omega) | (simp; done))))
      have z5 := D5.out.size
      clear hb
      try clear c0_0
      have c0_0 := cell_of_heap h0 (j := 0) rfl
      try clear f0_0
      have f0_0 := frozen_of_heap h0 0
      try clear c0_1
      have c0_1 := cell_of_heap h0 (j := 1) rfl
      try clear f0_1
      have f0_1 := frozen_of_heap h0 1
      try clear c0_2
      have c0_2 := cell_of_heap h0 (j := 2) rfl
      try clear f0_2
      have f0_2 := frozen_of_heap h0 2
      try clear c0_3
      have c0_3 := cell_of_heap h0 (j := 3) rfl
      try clear f0_3
      have f0_3 := frozen_of_heap h0 3
      try clear c0_4
      have c0_4 := cell_of_heap h0 (j := 4) rfl
      try clear f0_4
      have f0_4 := frozen_of_heap h0 4
      try clear c0_5
      have c0_5 := cell_of_heap h0 (j := 5) rfl
      try clear f0_5
      have f0_5 := frozen_of_heap h0 5
      try clear c1_0
      have c1_0 := cell_of_heap h1 (j := 0) rfl
      try clear f1_0
      have f1_0 := frozen_of_heap h1 0
      try clear c1_1
      have c1_1 := cell_of_heap h1 (j := 1) rfl
      try clear f1_1
      have f1_1 := frozen_of_heap h1 1
      try clear c1_2
      have c1_2 := cell_of_heap h1 (j := 2) rfl
      try clear f1_2
      have f1_2 := frozen_of_heap h1 2
      try clear c1_3
      have c1_3 := cell_of_heap h1 (j := 3) rfl
      try clear f1_3
      have f1_3 := frozen_of_heap h1 3
      try clear c1_4
      have c1_4 := cell_of_heap h1 (j := 4) rfl
      try clear f1_4
      have f1_4 := frozen_of_heap h1 4
      try clear c1_5
      have c1_5 := cell_of_heap h1 (j := 5) rfl
      try clear f1_5
      have f1_5 := frozen_of_heap h1 5
      try clear c2_0
      have c2_0 := cell_of_heap h2 (j := 0) rfl
      try clear f2_0
      have f2_0 := frozen_of_heap h2 0
      try clear c2_1
      have c2_1 := cell_of_heap h2 (j := 1) rfl
      try clear f2_1
      have f2_1 := frozen_of_heap h2 1
      try clear c2_2
      have c2_2 := cell_of_heap h2 (j := 2) rfl
      try clear f2_2
      have f2_2 := frozen_of_heap h2 2
      try clear c2_3
      have c2_3 := cell_of_heap h2 (j := 3) rfl
      try clear f2_3
      have f2_3 := frozen_of_heap h2 3
      try clear c2_4
      have c2_4 := cell_of_heap h2 (j := 4) rfl
      try clear f2_4
      have f2_4 := frozen_of_heap h2 4
      try clear c2_5
      have c2_5 := cell_of_heap h2 (j := 5) rfl
      try clear f2_5
      have f2_5 := frozen_of_heap h2 5
      try clear c3_0
      have c3_0 := cell_of_heap h3 (j := 0) rfl
      try clear f3_0
      have f3_0 := frozen_of_heap h3 0
      try clear c3_1
      have c3_1 := cell_of_heap h3 (j := 1) rfl
      try clear f3_1
      have f3_1 := frozen_of_heap h3 1
      try clear c3_2
      have c3_2 := cell_of_heap h3 (j := 2) rfl
      try clear f3_2
      have f3_2 := frozen_of_heap h3 2
      try clear c3_3
      have c3_3 := cell_of_heap h3 (j := 3) rfl
      try clear f3_3
      have f3_3 := frozen_of_heap h3 3
      try clear c3_4
      have c3_4 := cell_of_heap h3 (j := 4) rfl
      try clear f3_4
      have f3_4 := frozen_of_heap h3 4
      try clear c3_5
      have c3_5 := cell_of_heap h3 (j := 5) rfl
      try clear f3_5
      have f3_5 := frozen_of_heap h3 5
      cases k3
      · go_wp2_with fail
        have q1 := (Below.heap_setCell w5 ⟨w.heap.size + 1 + 1, 0, none⟩ (.int .i64 0) (w.heap.size) (by first | omega | assumption | (apply Ne.symm; assumption) | (simp; done) | (simp; omega))).trans h0
        have q2 := (Below.heap_setCell w5 ⟨w.heap.size + 1 + 1, 0, none⟩ (.int .i64 0) (w.heap.size + 1) (by first | omega | assumption | (apply Ne.symm; assumption) | (simp; done) | (simp; omega))).trans h1
        have q3 := heap_setCell_same w5 (w.heap.size + 1 + 1) 0 _ _ (.int .i64 0) h2
        have q4 := (Below.heap_setCell w5 ⟨w.heap.size + 1 + 1, 0, none⟩ (.int .i64 0) (b3) (by first | omega | assumption | (apply Ne.symm; assumption) | (simp; done) | (simp; omega))).trans h3
        have q5 := (Below.heap_setCell (w5.setCell ⟨w.heap.size + 1 + 1, 0, none⟩ (.int .i64 0)) ⟨w.heap.size + 1 + 1, 1, none⟩ (.int .i64 0) (w.heap.size) (by first | omega | assumption | (apply Ne.symm; assumption) | (simp; done) | (simp; omega))).trans q1
        have q6 := (Below.heap_setCell (w5.setCell ⟨w.heap.size + 1 + 1, 0, none⟩ (.int .i64 0)) ⟨w.heap.size + 1 + 1, 1, none⟩ (.int .i64 0) (w.heap.size + 1) (by first | omega | assumption | (apply Ne.symm; assumption) | (simp; done) | (simp; omega))).trans q2
        have q7 := heap_setCell_same (w5.setCell ⟨w.heap.size + 1 + 1, 0, none⟩ (.int .i64 0)) (w.heap.size + 1 + 1) 1 _ _ (.int .i64 0) q3
        have q8 := (Below.heap_setCell (w5.setCell ⟨w.heap.size + 1 + 1, 0, none⟩ (.int .i64 0)) ⟨w.heap.size + 1 + 1, 1, none⟩ (.int .i64 0) (b3) (by first | omega | assumption | (apply Ne.symm; assumption) | (simp; done) | (simp; omega))).trans q4
        have q9 := (Below.heap_setCell ((w5.setCell ⟨w.heap.size + 1 + 1, 0, none⟩ (.int .i64 0)).setCell ⟨w.heap.size + 1 + 1, 1, none⟩ (.int .i64 0)) ⟨w.heap.size + 1 + 1, 2, none⟩ (.int .i64 0) (w.heap.size) (by first | omega | assumption | (apply Ne.symm; assumption) | (simp; done) | (simp; omega))).trans q5
        have q10 := (Below.heap_setCell ((w5.setCell ⟨w.heap.size + 1 + 1, 0, none⟩ (.int .i64 0)).setCell ⟨w.heap.size + 1 + 1, 1, none⟩ (.int .i64 0)) ⟨w.heap.size + 1 + 1, 2, none⟩ (.int .i64 0) (w.heap.size + 1) (by first | omega | assumption | (apply Ne.symm; assumption) | (simp; done) | (simp; omega))).trans q6
        have q11 := heap_setCell_same ((w5.setCell ⟨w.heap.size + 1 + 1, 0, none⟩ (.int .i64 0)).setCell ⟨w.heap.size + 1 + 1, 1, none⟩ (.int .i64 0)) (w.heap.size + 1 + 1) 2 _ _ (.int .i64 0) q7
        have q12 := (Below.heap_setCell ((w5.setCell ⟨w.heap.size + 1 + 1, 0, none⟩ (.int .i64 0)).setCell ⟨w.heap.size + 1 + 1, 1, none⟩ (.int .i64 0)) ⟨w.heap.size + 1 + 1, 2, none⟩ (.int .i64 0) (b3) (by first | omega | assumption | (apply Ne.symm; assumption) | (simp; done) | (simp; omega))).trans q8
        have q13 := (Below.heap_setCell (((w5.setCell ⟨w.heap.size + 1 + 1, 0, none⟩ (.int .i64 0)).setCell ⟨w.heap.size + 1 + 1, 1, none⟩ (.int .i64 0)).setCell ⟨w.heap.size + 1 + 1, 2, none⟩ (.int .i64 0)) ⟨w.heap.size + 1 + 1, 3, none⟩ (.int .i64 0) (w.heap.size) (by first | omega | assumption | (apply Ne.symm; assumption) | (simp; done) | (simp; omega))).trans q9
        have q14 := (Below.heap_setCell (((w5.setCell ⟨w.heap.size + 1 + 1, 0, none⟩ (.int .i64 0)).setCell ⟨w.heap.size + 1 + 1, 1, none⟩ (.int .i64 0)).setCell ⟨w.heap.size + 1 + 1, 2, none⟩ (.int .i64 0)) ⟨w.heap.size + 1 + 1, 3, none⟩ (.int .i64 0) (w.heap.size + 1) (by first | omega | assumption | (apply Ne.symm; assumption) | (simp; done) | (simp; omega))).trans q10
        have q15 := heap_setCell_same (((w5.setCell ⟨w.heap.size + 1 + 1, 0, none⟩ (.int .i64 0)).setCell ⟨w.heap.size + 1 + 1, 1, none⟩ (.int .i64 0)).setCell ⟨w.heap.size + 1 + 1, 2, none⟩ (.int .i64 0)) (w.heap.size + 1 + 1) 3 _ _ (.int .i64 0) q11
        have q16 := (Below.heap_setCell (((w5.setCell ⟨w.heap.size + 1 + 1, 0, none⟩ (.int .i64 0)).setCell ⟨w.heap.size + 1 + 1, 1, none⟩ (.int .i64 0)).setCell ⟨w.heap.size + 1 + 1, 2, none⟩ (.int .i64 0)) ⟨w.heap.size + 1 + 1, 3, none⟩ (.int .i64 0) (b3) (by first | omega | assumption | (apply Ne.symm; assumption) | (simp; done) | (simp; omega))).trans q12
        have q17 := (Below.heap_setCell ((((w5.setCell ⟨w.heap.size + 1 + 1, 0, none⟩ (.int .i64 0)).setCell ⟨w.heap.size + 1 + 1, 1, none⟩ (.int .i64 0)).setCell ⟨w.heap.size + 1 + 1, 2, none⟩ (.int .i64 0)).setCell ⟨w.heap.size + 1 + 1, 3, none⟩ (.int .i64 0)) ⟨w.heap.size + 1 + 1, 4, none⟩ (.int .i64 0) (w.heap.size) (by first | omega | assumption | (apply Ne.symm; assumption) | (simp; done) | (simp; omega))).trans q13
        have q18 := (Below.heap_setCell ((((w5.setCell ⟨w.heap.size + 1 + 1, 0, none⟩ (.int .i64 0)).setCell ⟨w.heap.size + 1 + 1, 1, none⟩ (.int .i64 0)).setCell ⟨w.heap.size + 1 + 1, 2, none⟩ (.int .i64 0)).setCell ⟨w.heap.size + 1 + 1, 3, none⟩ (.int .i64 0)) ⟨w.heap.size + 1 + 1, 4, none⟩ (.int .i64 0) (w.heap.size + 1) (by first | omega | assumption | (apply Ne.symm; assumption) | (simp; done) | (simp; omega))).trans q14
        have q19 := heap_setCell_same ((((w5.setCell ⟨w.heap.size + 1 + 1, 0, none⟩ (.int .i64 0)).setCell ⟨w.heap.size + 1 + 1, 1, none⟩ (.int .i64 0)).setCell ⟨w.heap.size + 1 + 1, 2, none⟩ (.int .i64 0)).setCell ⟨w.heap.size + 1 + 1, 3, none⟩ (.int .i64 0)) (w.heap.size + 1 + 1) 4 _ _ (.int .i64 0) q15
        have q20 := (Below.heap_setCell ((((w5.setCell ⟨w.heap.size + 1 + 1, 0, none⟩ (.int .i64 0)).setCell ⟨w.heap.size + 1 + 1, 1, none⟩ (.int .i64 0)).setCell ⟨w.heap.size + 1 + 1, 2, none⟩ (.int .i64 0)).setCell ⟨w.heap.size + 1 + 1, 3, none⟩ (.int .i64 0)) ⟨w.heap.size + 1 + 1, 4, none⟩ (.int .i64 0) (b3) (by first | omega | assumption | (apply Ne.symm; assumption) | (simp; done) | (simp; omega))).trans q16
        have q21 := (Below.heap_setCell (((((w5.setCell ⟨w.heap.size + 1 + 1, 0, none⟩ (.int .i64 0)).setCell ⟨w.heap.size + 1 + 1, 1, none⟩ (.int .i64 0)).setCell ⟨w.heap.size + 1 + 1, 2, none⟩ (.int .i64 0)).setCell ⟨w.heap.size + 1 + 1, 3, none⟩ (.int .i64 0)).setCell ⟨w.heap.size + 1 + 1, 4, none⟩ (.int .i64 0)) ⟨w.heap.size + 1 + 1, 5, none⟩ (.int .i64 0) (w.heap.size) (by first | omega | assumption | (apply Ne.symm; assumption) | (simp; done) | (simp; omega))).trans q17
        have q22 := (Below.heap_setCell (((((w5.setCell ⟨w.heap.size + 1 + 1, 0, none⟩ (.int .i64 0)).setCell ⟨w.heap.size + 1 + 1, 1, none⟩ (.int .i64 0)).setCell ⟨w.heap.size + 1 + 1, 2, none⟩ (.int .i64 0)).setCell ⟨w.heap.size + 1 + 1, 3, none⟩ (.int .i64 0)).setCell ⟨w.heap.size + 1 + 1, 4, none⟩ (.int .i64 0)) ⟨w.heap.size + 1 + 1, 5, none⟩ (.int .i64 0) (w.heap.size + 1) (by first | omega | assumption | (apply Ne.symm; assumption) | (simp; done) | (simp; omega))).trans q18
        have q23 := heap_setCell_same (((((w5.setCell ⟨w.heap.size + 1 + 1, 0, none⟩ (.int .i64 0)).setCell ⟨w.heap.size + 1 + 1, 1, none⟩ (.int .i64 0)).setCell ⟨w.heap.size + 1 + 1, 2, none⟩ (.int .i64 0)).setCell ⟨w.heap.size + 1 + 1, 3, none⟩ (.int .i64 0)).setCell ⟨w.heap.size + 1 + 1, 4, none⟩ (.int .i64 0)) (w.heap.size + 1 + 1) 5 _ _ (.int .i64 0) q19
        have q24 := (Below.heap_setCell (((((w5.setCell ⟨w.heap.size + 1 + 1, 0, none⟩ (.int .i64 0)).setCell ⟨w.heap.size + 1 + 1, 1, none⟩ (.int .i64 0)).setCell ⟨w.heap.size + 1 + 1, 2, none⟩ (.int .i64 0)).setCell ⟨w.heap.size + 1 + 1, 3, none⟩ (.int .i64 0)).setCell ⟨w.heap.size + 1 + 1, 4, none⟩ (.int .i64 0)) ⟨w.heap.size + 1 + 1, 5, none⟩ (.int .i64 0) (b3) (by first | omega | assumption | (apply Ne.symm; assumption) | (simp; done) | (simp; omega))).trans q20
        obtain ⟨w6, hw6⟩ : ∃ W, W = ((((((w5.setCell ⟨w.heap.size + 1 + 1, 0, none⟩ (.int .i64 0)).setCell ⟨w.heap.size + 1 + 1, 1, none⟩ (.int .i64 0)).setCell ⟨w.heap.size + 1 + 1, 2, none⟩ (.int .i64 0)).setCell ⟨w.heap.size + 1 + 1, 3, none⟩ (.int .i64 0)).setCell ⟨w.heap.size + 1 + 1, 4, none⟩ (.int .i64 0)).setCell ⟨w.heap.size + 1 + 1, 5, none⟩ (.int .i64 0)) := ⟨_, rfl⟩
        rw [← hw6]
        replace h0 : w6.heap[w.heap.size]? = some (.cells #[.int .i64 m.m.a, .int .i64 m.m.b, .int .i64 m.m.c, .int .i64 m.m.d, .int .i64 m.t.x, .int .i64 m.t.y] 49 (0, 0)) := by rw [hw6]; exact q21
        replace h1 : w6.heap[w.heap.size + 1]? = some (.cells #[.int .i64 n.m.a, .int .i64 n.m.b, .int .i64 n.m.c, .int .i64 n.m.d, .int .i64 n.t.x, .int .i64 n.t.y] 49 (0, 0)) := by rw [hw6]; exact q22
        replace h2 : w6.heap[w.heap.size + 1 + 1]? = some (.cells #[.int .i64 0, .int .i64 0, .int .i64 0, .int .i64 0, .int .i64 0, .int .i64 0] 49 (0, 0)) := by rw [hw6]; exact q23
        replace h3 : w6.heap[b3]? = some (.cells #[.int .i64 u1.a, .int .i64 u1.b, .int .i64 u1.c, .int .i64 u1.d, .int .i64 u2.x, .int .i64 u2.y] 49 (0, 0)) := by rw [hw6]; exact q24
        have D6 := Lib.hid (show Below w.heap.size w w6 by rw [hw6]; exact (Below.setCell (Below.setCell (Below.setCell (Below.setCell (Below.setCell (Below.setCell D5.out (p := ⟨w.heap.size + 1 + 1, 0, none⟩) (by first | omega | (simp; done) | (simp; omega)) (.int .i64 0)) (p := ⟨w.heap.size + 1 + 1, 1, none⟩) (by first | omega | (simp; done) | (simp; omega)) (.int .i64 0)) (p := ⟨w.heap.size + 1 + 1, 2, none⟩) (by first | omega | (simp; done) | (simp; omega)) (.int .i64 0)) (p := ⟨w.heap.size + 1 + 1, 3, none⟩) (by first | omega | (simp; done) | (simp; omega)) (.int .i64 0)) (p := ⟨w.heap.size + 1 + 1, 4, none⟩) (by first | omega | (simp; done) | (simp; omega)) (.int .i64 0)) (p := ⟨w.heap.size + 1 + 1, 5, none⟩) (by first | omega | (simp; done) | (simp; omega)) (.int .i64 0)))
        have z6 := D6.out.size
        have y6 : w6.heap.size = w5.heap.size := by rw [hw6]; simp
        clear q24 q23 q22 q21 q20 q19 q18 q17 q16 q15 q14 q13 q12 q11 q10 q9 q8 q7 q6 q5 q4 q3 q2 q1 hw6
        try clear c0_0
        have c0_0 := cell_of_heap h0 (j := 0) rfl
        try clear f0_0
        have f0_0 := frozen_of_heap h0 0
        try clear c0_1
        have c0_1 := cell_of_heap h0 (j := 1) rfl
        try clear f0_1
        have f0_1 := frozen_of_heap h0 1
        try clear c0_2
        have c0_2 := cell_of_heap h0 (j := 2) rfl
        try clear f0_2
        have f0_2 := frozen_of_heap h0 2
        try clear c0_3
        have c0_3 := cell_of_heap h0 (j := 3) rfl
        try clear f0_3
        have f0_3 := frozen_of_heap h0 3
        try clear c0_4
        have c0_4 := cell_of_heap h0 (j := 4) rfl
        try clear f0_4
        have f0_4 := frozen_of_heap h0 4
        try clear c0_5
        have c0_5 := cell_of_heap h0 (j := 5) rfl
        try clear f0_5
        have f0_5 := frozen_of_heap h0 5
        try clear c1_0
        have c1_0 := cell_of_heap h1 (j := 0) rfl
        try clear f1_0
        have f1_0 := frozen_of_heap h1 0
        try clear c1_1
        have c1_1 := cell_of_heap h1 (j := 1) rfl
        try clear f1_1
        have f1_1 := frozen_of_heap h1 1
        try clear c1_2
        have c1_2 := cell_of_heap h1 (j := 2) rfl
        try clear f1_2
        have f1_2 := frozen_of_heap h1 2
        try clear c1_3
        have c1_3 := cell_of_heap h1 (j := 3) rfl
        try clear f1_3
        have f1_3 := frozen_of_heap h1 3
        try clear c1_4
        have c1_4 := cell_of_heap h1 (j := 4) rfl
        try clear f1_4
        have f1_4 := frozen_of_heap h1 4
        try clear c1_5
        have c1_5 := cell_of_heap h1 (j := 5) rfl
        try clear f1_5
        have f1_5 := frozen_of_heap h1 5
        try clear c2_0
        have c2_0 := cell_of_heap h2 (j := 0) rfl
        try clear f2_0
        have f2_0 := frozen_of_heap h2 0
        try clear c2_1
        have c2_1 := cell_of_heap h2 (j := 1) rfl
        try clear f2_1
        have f2_1 := frozen_of_heap h2 1
        try clear c2_2
        have c2_2 := cell_of_heap h2 (j := 2) rfl
        try clear f2_2
        have f2_2 := frozen_of_heap h2 2
        try clear c2_3
        have c2_3 := cell_of_heap h2 (j := 3) rfl
        try clear f2_3
        have f2_3 := frozen_of_heap h2 3
        try clear c2_4
        have c2_4 := cell_of_heap h2 (j := 4) rfl
        try clear f2_4
        have f2_4 := frozen_of_heap h2 4
        try clear c2_5
        have c2_5 := cell_of_heap h2 (j := 5) rfl
        try clear f2_5
        have f2_5 := frozen_of_heap h2 5
        try clear c3_0
        have c3_0 := cell_of_heap h3 (j := 0) rfl
        try clear f3_0
        have f3_0 := frozen_of_heap h3 0
        try clear c3_1
        have c3_1 := cell_of_heap h3 (j := 1) rfl
        try clear f3_1
        have f3_1 := frozen_of_heap h3 1
        try clear c3_2
        have c3_2 := cell_of_heap h3 (j := 2) rfl
        try clear f3_2
        have f3_2 := frozen_of_heap h3 2
        try clear c3_3
        have c3_3 := cell_of_heap h3 (j := 3) rfl
        try clear f3_3
        have f3_3 := frozen_of_heap h3 3
        try clear c3_4
        have c3_4 := cell_of_heap h3 (j := 4) rfl
        try clear f3_4
        have f3_4 := frozen_of_heap h3 4
        try clear c3_5
        have c3_5 := cell_of_heap h3 (j := 5) rfl
        try clear f3_5
        have f3_5 := frozen_of_heap h3 5
        refine bodyPost_ret (results_bt rfl _ _ (w.heap.size + 1 + 1) rfl rfl h2 Tryd.underlying49 rfl (by kernel_rfl)) rfl ⟨rfl, D6.out⟩
      · go_wp2_with fail
        have q1 := (Below.heap_setCell w5 ⟨w.heap.size + 1 + 1, 0, none⟩ (.int .i64 u1.a) (w.heap.size) (by first | omega | assumption | (apply Ne.symm; assumption) | (simp; done) | (simp; omega))).trans h0
        have q2 := (Below.heap_setCell w5 ⟨w.heap.size + 1 + 1, 0, none⟩ (.int .i64 u1.a) (w.heap.size + 1) (by first | omega | assumption | (apply Ne.symm; assumption) | (simp; done) | (simp; omega))).trans h1
        have q3 := heap_setCell_same w5 (w.heap.size + 1 + 1) 0 _ _ (.int .i64 u1.a) h2
        have q4 := (Below.heap_setCell w5 ⟨w.heap.size + 1 + 1, 0, none⟩ (.int .i64 u1.a) (b3) (by first | omega | assumption | (apply Ne.symm; assumption) | (simp; done) | (simp; omega))).trans h3
        have q5 := (Below.heap_setCell (w5.setCell ⟨w.heap.size + 1 + 1, 0, none⟩ (.int .i64 u1.a)) ⟨w.heap.size + 1 + 1, 1, none⟩ (.int .i64 u1.b) (w.heap.size) (by first | omega | assumption | (apply Ne.symm; assumption) | (simp; done) | (simp; omega))).trans q1
        have q6 := (Below.heap_setCell (w5.setCell ⟨w.heap.size + 1 + 1, 0, none⟩ (.int .i64 u1.a)) ⟨w.heap.size + 1 + 1, 1, none⟩ (.int .i64 u1.b) (w.heap.size + 1) (by first | omega | assumption | (apply Ne.symm; assumption) | (simp; done) | (simp; omega))).trans q2
        have q7 := heap_setCell_same (w5.setCell ⟨w.heap.size + 1 + 1, 0, none⟩ (.int .i64 u1.a)) (w.heap.size + 1 + 1) 1 _ _ (.int .i64 u1.b) q3
        have q8 := (Below.heap_setCell (w5.setCell ⟨w.heap.size + 1 + 1, 0, none⟩ (.int .i64 u1.a)) ⟨w.heap.size + 1 + 1, 1, none⟩ (.int .i64 u1.b) (b3) (by first | omega | assumption | (apply Ne.symm; assumption) | (simp; done) | (simp; omega))).trans q4
        have q9 := (Below.heap_setCell ((w5.setCell ⟨w.heap.size + 1 + 1, 0, none⟩ (.int .i64 u1.a)).setCell ⟨w.heap.size + 1 + 1, 1, none⟩ (.int .i64 u1.b)) ⟨w.heap.size + 1 + 1, 2, none⟩ (.int .i64 u1.c) (w.heap.size) (by first | omega | assumption | (apply Ne.symm; assumption) | (simp; done) | (simp; omega))).trans q5
        have q10 := (Below.heap_setCell ((w5.setCell ⟨w.heap.size + 1 + 1, 0, none⟩ (.int .i64 u1.a)).setCell ⟨w.heap.size + 1 + 1, 1, none⟩ (.int .i64 u1.b)) ⟨w.heap.size + 1 + 1, 2, none⟩ (.int .i64 u1.c) (w.heap.size + 1) (by first | omega | assumption | (apply Ne.symm; assumption) | (simp; done) | (simp; omega))).trans q6
        have q11 := heap_setCell_same ((w5.setCell ⟨w.heap.size + 1 + 1, 0, none⟩ (.int .i64 u1.a)).setCell ⟨w.heap.size + 1 + 1, 1, none⟩ (.int .i64 u1.b)) (w.heap.size + 1 + 1) 2 _ _ (.int .i64 u1.c) q7
        have q12 := (Below.heap_setCell ((w5.setCell ⟨w.heap.size + 1 + 1, 0, none⟩ (.int .i64 u1.a)).setCell ⟨w.heap.size + 1 + 1, 1, none⟩ (.int .i64 u1.b)) ⟨w.heap.size + 1 + 1, 2, none⟩ (.int .i64 u1.c) (b3) (by first | omega | assumption | (apply Ne.symm; assumption) | (simp; done) | (simp; omega))).trans q8
        have q13 := (Below.heap_setCell (((w5.setCell ⟨w.heap.size + 1 + 1, 0, none⟩ (.int .i64 u1.a)).setCell ⟨w.heap.size + 1 + 1, 1, none⟩ (.int .i64 u1.b)).setCell ⟨w.heap.size + 1 + 1, 2, none⟩ (.int .i64 u1.c)) ⟨w.heap.size + 1 + 1, 3, none⟩ (.int .i64 u1.d) (w.heap.size) (by first | omega | assumption | (apply Ne.symm; assumption) | (simp; done) | (simp; omega))).trans q9
        have q14 := (Below.heap_setCell (((w5.setCell ⟨w.heap.size + 1 + 1, 0, none⟩ (.int .i64 u1.a)).setCell ⟨w.heap.size + 1 + 1, 1, none⟩ (.int .i64 u1.b)).setCell ⟨w.heap.size + 1 + 1, 2, none⟩ (.int .i64 u1.c)) ⟨w.heap.size + 1 + 1, 3, none⟩ (.int .i64 u1.d) (w.heap.size + 1) (by first | omega | assumption | (apply Ne.symm; assumption) | (simp; done) | (simp; omega))).trans q10
        have q15 := heap_setCell_same (((w5.setCell ⟨w.heap.size + 1 + 1, 0, none⟩ (.int .i64 u1.a)).setCell ⟨w.heap.size + 1 + 1, 1, none⟩ (.int .i64 u1.b)).setCell ⟨w.heap.size + 1 + 1, 2, none⟩ (.int .i64 u1.c)) (w.heap.size + 1 + 1) 3 _ _ (.int .i64 u1.d) q11
        have q16 := (Below.heap_setCell (((w5.setCell ⟨w.heap.size + 1 + 1, 0, none⟩ (.int .i64 u1.a)).setCell ⟨w.heap.size + 1 + 1, 1, none⟩ (.int .i64 u1.b)).setCell ⟨w.heap.size + 1 + 1, 2, none⟩ (.int .i64 u1.c)) ⟨w.heap.size + 1 + 1, 3, none⟩ (.int .i64 u1.d) (b3) (by first | omega | assumption | (apply Ne.symm; assumption) | (simp; done) | (simp; omega))).trans q12
        have q17 := (Below.heap_setCell ((((w5.setCell ⟨w.heap.size + 1 + 1, 0, none⟩ (.int .i64 u1.a)).setCell ⟨w.heap.size + 1 + 1, 1, none⟩ (.int .i64 u1.b)).setCell ⟨w.heap.size + 1 + 1, 2, none⟩ (.int .i64 u1.c)).setCell ⟨w.heap.size + 1 + 1, 3, none⟩ (.int .i64 u1.d)) ⟨w.heap.size + 1 + 1, 4, none⟩ (.int .i64 u2.x) (w.heap.size) (by first | omega | assumption | (apply Ne.symm; assumption) | (simp; done) | (simp; omega))).trans q13
        have q18 := (Below.heap_setCell ((((w5.setCell ⟨w.heap.size + 1 + 1, 0, none⟩ (.int .i64 u1.a)).setCell ⟨w.heap.size + 1 + 1, 1, none⟩ (.int .i64 u1.b)).setCell ⟨w.heap.size + 1 + 1, 2, none⟩ (.int .i64 u1.c)).setCell ⟨w.heap.size + 1 + 1, 3, none⟩ (.int .i64 u1.d)) ⟨w.heap.size + 1 + 1, 4, none⟩ (.int .i64 u2.x) (w.heap.size + 1) (by first | omega | assumption | (apply Ne.symm; assumption) | (simp; done) | (simp; omega))).trans q14
        have q19 := heap_setCell_same ((((w5.setCell ⟨w.heap.size + 1 + 1, 0, none⟩ (.int .i64 u1.a)).setCell ⟨w.heap.size + 1 + 1, 1, none⟩ (.int .i64 u1.b)).setCell ⟨w.heap.size + 1 + 1, 2, none⟩ (.int .i64 u1.c)).setCell ⟨w.heap.size + 1 + 1, 3, none⟩ (.int .i64 u1.d)) (w.heap.size + 1 + 1) 4 _ _ (.int .i64 u2.x) q15
        have q20 := (Below.heap_setCell ((((w5.setCell ⟨w.heap.size + 1 + 1, 0, none⟩ (.int .i64 u1.a)).setCell ⟨w.heap.size + 1 + 1, 1, none⟩ (.int .i64 u1.b)).setCell ⟨w.heap.size + 1 + 1, 2, none⟩ (.int .i64 u1.c)).setCell ⟨w.heap.size + 1 + 1, 3, none⟩ (.int .i64 u1.d)) ⟨w.heap.size + 1 + 1, 4, none⟩ (.int .i64 u2.x) (b3) (by first | omega | assumption | (apply Ne.symm; assumption) | (simp; done) | (simp; omega))).trans q16
        have q21 := (Below.heap_setCell (((((w5.setCell ⟨w.heap.size + 1 + 1, 0, none⟩ (.int .i64 u1.a)).setCell ⟨w.heap.size + 1 + 1, 1, none⟩ (.int .i64 u1.b)).setCell ⟨w.heap.size + 1 + 1, 2, none⟩ (.int .i64 u1.c)).setCell ⟨w.heap.size + 1 + 1, 3, none⟩ (.int .i64 u1.d)).setCell ⟨w.heap.size + 1 + 1, 4, none⟩ (.int .i64 u2.x)) ⟨w.heap.size + 1 + 1, 5, none⟩ (.int .i64 u2.y) (w.heap.size) (by first | omega | assumption | (apply Ne.symm; assumption) | (simp; done) | (simp; omega))).trans q17
        have q22 := (Below.heap_setCell (((((w5.setCell ⟨w.heap.size + 1 + 1, 0, none⟩ (.int .i64 u1.a)).setCell ⟨w.heap.size + 1 + 1, 1, none⟩ (.int .i64 u1.b)).setCell ⟨w.heap.size + 1 + 1, 2, none⟩ (.int .i64 u1.c)).setCell ⟨w.heap.size + 1 + 1, 3, none⟩ (.int .i64 u1.d)).setCell ⟨w.heap.size + 1 + 1, 4, none⟩ (.int .i64 u2.x)) ⟨w.heap.size + 1 + 1, 5, none⟩ (.int .i64 u2.y) (w.heap.size + 1) (by first | omega | assumption | (apply Ne.symm; assumption) | (simp; done) | (simp; omega))).trans q18
        have q23 := heap_setCell_same (((((w5.setCell ⟨w.heap.size + 1 + 1, 0, none⟩ (.int .i64 u1.a)).setCell ⟨w.heap.size + 1 + 1, 1, none⟩ (.int .i64 u1.b)).setCell ⟨w.heap.size + 1 + 1, 2, none⟩ (.int .i64 u1.c)).setCell ⟨w.heap.size + 1 + 1, 3, none⟩ (.int .i64 u1.d)).setCell ⟨w.heap.size + 1 + 1, 4, none⟩ (.int .i64 u2.x)) (w.heap.size + 1 + 1) 5 _ _ (.int .i64 u2.y) q19
        have q24 := (Below.heap_setCell (((((w5.setCell ⟨w.heap.size + 1 + 1, 0, none⟩ (.int .i64 u1.a)).setCell ⟨w.heap.size + 1 + 1, 1, none⟩ (.int .i64 u1.b)).setCell ⟨w.heap.size + 1 + 1, 2, none⟩ (.int .i64 u1.c)).setCell ⟨w.heap.size + 1 + 1, 3, none⟩ (.int .i64 u1.d)).setCell ⟨w.heap.size + 1 + 1, 4, none⟩ (.int .i64 u2.x)) ⟨w.heap.size + 1 + 1, 5, none⟩ (.int .i64 u2.y) (b3) (by first | omega | assumption | (apply Ne.symm; assumption) | (simp; done) | (simp; omega))).trans q20
        obtain ⟨w6, hw6⟩ : ∃ W, W = ((((((w5.setCell ⟨w.heap.size + 1 + 1, 0, none⟩ (.int .i64 u1.a)).setCell ⟨w.heap.size + 1 + 1, 1, none⟩ (.int .i64 u1.b)).setCell ⟨w.heap.size + 1 + 1, 2, none⟩ (.int .i64 u1.c)).setCell ⟨w.heap.size + 1 + 1, 3, none⟩ (.int .i64 u1.d)).setCell ⟨w.heap.size + 1 + 1, 4, none⟩ (.int .i64 u2.x)).setCell ⟨w.heap.size + 1 + 1, 5, none⟩ (.int .i64 u2.y)) := ⟨_, rfl⟩
        rw [← hw6]
        replace h0 : w6.heap[w.heap.size]? = some (.cells #[.int .i64 m.m.a, .int .i64 m.m.b, .int .i64 m.m.c, .int .i64 m.m.d, .int .i64 m.t.x, .int .i64 m.t.y] 49 (0, 0)) := by rw [hw6]; exact q21
        replace h1 : w6.heap[w.heap.size + 1]? = some (.cells #[.int .i64 n.m.a, .int .i64 n.m.b, .int .i64 n.m.c, .int .i64 n.m.d, .int .i64 n.t.x, .int .i64 n.t.y] 49 (0, 0)) := by rw [hw6]; exact q22
        replace h2 : w6.heap[w.heap.size + 1 + 1]? = some (.cells #[.int .i64 u1.a, .int .i64 u1.b, .int .i64 u1.c, .int .i64 u1.d, .int .i64 u2.x, .int .i64 u2.y] 49 (0, 0)) := by rw [hw6]; exact q23
        replace h3 : w6.heap[b3]? = some (.cells #[.int .i64 u1.a, .int .i64 u1.b, .int .i64 u1.c, .int .i64 u1.d, .int .i64 u2.x, .int .i64 u2.y] 49 (0, 0)) := by rw [hw6]; exact q24
        have D6 := Lib.hid (show Below w.heap.size w w6 by rw [hw6]; exact (Below.setCell (Below.setCell (Below.setCell (Below.setCell (Below.setCell (Below.setCell D5.out (p := ⟨w.heap.size + 1 + 1, 0, none⟩) (by first | omega | (simp; done) | (simp; omega)) (.int .i64 u1.a)) (p := ⟨w.heap.size + 1 + 1, 1, none⟩) (by first | omega | (simp; done) | (simp; omega)) (.int .i64 u1.b)) (p := ⟨w.heap.size + 1 + 1, 2, none⟩) (by first | omega | (simp; done) | (simp; omega)) (.int .i64 u1.c)) (p := ⟨w.heap.size + 1 + 1, 3, none⟩) (by first | omega | (simp; done) | (simp; omega)) (.int .i64 u1.d)) (p := ⟨w.heap.size + 1 + 1, 4, none⟩) (by first | omega | (simp; done) | (simp; omega)) (.int .i64 u2.x)) (p := ⟨w.heap.size + 1 + 1, 5, none⟩) (by first | omega | (simp; done) | (simp; omega)) (.int .i64 u2.y)))
        have z6 := D6.out.size
        have y6 : w6.heap.size = w5.heap.size := by rw [hw6]; simp
        clear q24 q23 q22 q21 q20 q19 q18 q17 q16 q15 q14 q13 q12 q11 q10 q9 q8 q7 q6 q5 q4 q3 q2 q1 hw6
        try clear c0_0
        have c0_0 := cell_of_heap h0 (j := 0) rfl
        try clear f0_0
        have f0_0 := frozen_of_heap h0 0
        try clear c0_1
        have c0_1 := cell_of_heap h0 (j := 1) rfl
        try clear f0_1
        have f0_1 := frozen_of_heap h0 1
        try clear c0_2
        have c0_2 := cell_of_heap h0 (j := 2) rfl
        try clear f0_2
        have f0_2 := frozen_of_heap h0 2
        try clear c0_3
        have c0_3 := cell_of_heap h0 (j := 3) rfl
        try clear f0_3
        have f0_3 := frozen_of_heap h0 3
        try clear c0_4
        have c0_4 := cell_of_heap h0 (j := 4) rfl
        try clear f0_4
        have f0_4 := frozen_of_heap h0 4
        try clear c0_5
        have c0_5 := cell_of_heap h0 (j := 5) rfl
        try clear f0_5
        have f0_5 := frozen_of_heap h0 5
        try clear c1_0
        have c1_0 := cell_of_heap h1 (j := 0) rfl
        try clear f1_0
        have f1_0 := frozen_of_heap h1 0
        try clear c1_1
        have c1_1 := cell_of_heap h1 (j := 1) rfl
        try clear f1_1
        have f1_1 := frozen_of_heap h1 1
        try clear c1_2
        have c1_2 := cell_of_heap h1 (j := 2) rfl
        try clear f1_2
        have f1_2 := frozen_of_heap h1 2
        try clear c1_3
        have c1_3 := cell_of_heap h1 (j := 3) rfl
        try clear f1_3
        have f1_3 := frozen_of_heap h1 3
        try clear c1_4
        have c1_4 := cell_of_heap h1 (j := 4) rfl
        try clear f1_4
        have f1_4 := frozen_of_heap h1 4
        try clear c1_5
        have c1_5 := cell_of_heap h1 (j := 5) rfl
        try clear f1_5
        have f1_5 := frozen_of_heap h1 5
        try clear c2_0
        have c2_0 := cell_of_heap h2 (j := 0) rfl
        try clear f2_0
        have f2_0 := frozen_of_heap h2 0
        try clear c2_1
        have c2_1 := cell_of_heap h2 (j := 1) rfl
        try clear f2_1
        have f2_1 := frozen_of_heap h2 1
        try clear c2_2
        have c2_2 := cell_of_heap h2 (j := 2) rfl
        try clear f2_2
        have f2_2 := frozen_of_heap h2 2
        try clear c2_3
        have c2_3 := cell_of_heap h2 (j := 3) rfl
        try clear f2_3
        have f2_3 := frozen_of_heap h2 3
        try clear c2_4
        have c2_4 := cell_of_heap h2 (j := 4) rfl
        try clear f2_4
        have f2_4 := frozen_of_heap h2 4
        try clear c2_5
        have c2_5 := cell_of_heap h2 (j := 5) rfl
        try clear f2_5
        have f2_5 := frozen_of_heap h2 5
        try clear c3_0
        have c3_0 := cell_of_heap h3 (j := 0) rfl
        try clear f3_0
        have f3_0 := frozen_of_heap h3 0
        try clear c3_1
        have c3_1 := cell_of_heap h3 (j := 1) rfl
        try clear f3_1
        have f3_1 := frozen_of_heap h3 1
        try clear c3_2
        have c3_2 := cell_of_heap h3 (j := 2) rfl
        try clear f3_2
        have f3_2 := frozen_of_heap h3 2
        try clear c3_3
        have c3_3 := cell_of_heap h3 (j := 3) rfl
        try clear f3_3
        have f3_3 := frozen_of_heap h3 3
        try clear c3_4
        have c3_4 := cell_of_heap h3 (j := 4) rfl
        try clear f3_4
        have f3_4 := frozen_of_heap h3 4
        try clear c3_5
        have c3_5 := cell_of_heap h3 (j := 5) rfl
        try clear f3_5
        have f3_5 := frozen_of_heap h3 5
        refine bodyPost_ret (results_bt rfl _ _ (w.heap.size + 1 + 1) rfl rfl h2 Tryd.underlying49 rfl (by kernel_rfl)) rfl ⟨rfl, D6.out⟩
end Go.Proofs.YtjekfkmcgfnkaaaDoor
