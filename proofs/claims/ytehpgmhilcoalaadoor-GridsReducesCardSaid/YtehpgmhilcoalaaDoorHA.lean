/- Apply and Order. -/
import Derived.Test.YtehpgmhilcoalaaDoorGH
import Derived.Test.YtehpgmhilcoalaaDoorGS
namespace Go.Proofs.YtehpgmhilcoalaaDoor
open Go.RowKit Go.Lib
set_option linter.unusedSimpArgs false
set_option linter.unusedVariables false
def appV (m : Mov) (p : Pt) : Pt := if okV m && okP p && okP (appl m p).w then (appl m p).w else ⟨0, 0⟩
def appE (m : Mov) (p : Pt) : Int := if okV m && okP p then (if okP (appl m p).w then 0 else 7) else 2
set_option maxHeartbeats 1000000 in
set_option maxRecDepth 100000 in
theorem Apply_any (m : Mov) (p : Pt) (w : World) : Calls Tryd.prog 29 #[m.val, p.val] w fun e w' => e = .returned (.tuple #[(appV m p).val, .int .i64 (appE m p)]) ∧ Below w.heap.size w w' := by
  have C1 := fun W => validMove_any m W
  have C2 := fun W T B hB => vpts1 p W T B hB
  have C3 := fun W => applied_any m p W
  have C4 := fun W T B hB => vpts1 (appl m p).w W T B hB
  unfold appV appE
  generalize okV m = b1 at *
  generalize okP p = b2 at *
  generalize (appl m p).w = q at *
  generalize okP q = b3 at *
  unfold Mov.val Pt.val at *
  have H1 := Lib.hid C1
  have H2 := Lib.hid C2
  have H3 := Lib.hid C3
  have H4 := Lib.hid C4
  clear C1 C2 C3 C4
  cases b1
  · simp only [Bool.false_and, Bool.true_and, Bool.and_self, Bool.and_false, Bool.and_true, Bool.false_eq_true, if_true, if_false]
    go_enter Tryd.func29, Tryd.ntmps29
    go_wp2_with fail
    refine (H1.out _).mono ?_
    rintro e w1 ⟨rfl, hb⟩
    have h0 : w1.heap[w.heap.size]? = some (.cells #[.int .i64 m.m.a, .int .i64 m.m.b, .int .i64 m.m.c, .int .i64 m.m.d, .int .i64 m.t.x, .int .i64 m.t.y] 49 (0, 0)) := hb_below hb (by repeat (first | (refine hb_new ?_; (first | omega | (simp; omega) | (simp; done))) | (refine hb_old ?_ ?_; rotate_left; focus (first | omega | (simp; omega) | (simp; done))) | refine hb_drew ?_)) (by first | omega | (simp; omega) | (simp; done))
    have h1 : w1.heap[w.heap.size + 1]? = some (.cells #[.int .i64 p.x, .int .i64 p.y] 25 (0, 0)) := hb_below hb (by repeat (first | (refine hb_new ?_; (first | omega | (simp; omega) | (simp; done))) | (refine hb_old ?_ ?_; rotate_left; focus (first | omega | (simp; omega) | (simp; done))) | refine hb_drew ?_)) (by first | omega | (simp; omega) | (simp; done))
    have h2 : w1.heap[w.heap.size + 1 + 1]? = some (.cells #[.int .i64 0, .int .i64 0] 25 (0, 0)) := hb_below hb (by repeat (first | (refine hb_new ?_; (first | omega | (simp; omega) | (simp; done))) | (refine hb_old ?_ ?_; rotate_left; focus (first | omega | (simp; omega) | (simp; done))) | refine hb_drew ?_)) (by first | omega | (simp; omega) | (simp; done))
    have y1 := Below.size hb
    try simp only [World.size_alloc, World.size_drew] at y1
    have D1 := Lib.hid (show Below w.heap.size w w1 from Below.trans (by repeat (first | exact Below.refl _ _ | refine Below.alloc ?_ (by first | omega | (simp; omega) | (simp; done)) _)) (Below.mono hb (by first | omega | (simp; omega) | (simp; done))))
    have z1 := D1.out.size
    clear hb
    try clear c0_0
    have c0_0 := cell_of_heap h0 (j := 0) rfl
    try clear f0_0
    have f0_0 := frozen_of_heap h0 0
    try clear c0_1
    have c0_1 := cell_of_heap h0 (j := 1) rfl
    try clear f0_1
    have f0_1 := frozen_of_heap h0 1
    try clear c0_2
    have c0_2 := cell_of_heap h0 (j := 2) rfl
    try clear f0_2
    have f0_2 := frozen_of_heap h0 2
    try clear c0_3
    have c0_3 := cell_of_heap h0 (j := 3) rfl
    try clear f0_3
    have f0_3 := frozen_of_heap h0 3
    try clear c0_4
    have c0_4 := cell_of_heap h0 (j := 4) rfl
    try clear f0_4
    have f0_4 := frozen_of_heap h0 4
    try clear c0_5
    have c0_5 := cell_of_heap h0 (j := 5) rfl
    try clear f0_5
    have f0_5 := frozen_of_heap h0 5
    try clear c1_0
    have c1_0 := cell_of_heap h1 (j := 0) rfl
    try clear f1_0
    have f1_0 := frozen_of_heap h1 0
    try clear c1_1
    have c1_1 := cell_of_heap h1 (j := 1) rfl
    try clear f1_1
    have f1_1 := frozen_of_heap h1 1
    try clear c2_0
    have c2_0 := cell_of_heap h2 (j := 0) rfl
    try clear f2_0
    have f2_0 := frozen_of_heap h2 0
    try clear c2_1
    have c2_1 := cell_of_heap h2 (j := 1) rfl
    try clear f2_1
    have f2_1 := frozen_of_heap h2 1
    go_wp2_with fail
    have q1 := (Below.heap_setCell w1 ⟨w.heap.size + 1 + 1, 0, none⟩ (.int .i64 0) (w.heap.size) (by first | omega | assumption | (apply Ne.symm; assumption) | (simp; done) | (simp; omega))).trans h0
    have q2 := (Below.heap_setCell w1 ⟨w.heap.size + 1 + 1, 0, none⟩ (.int .i64 0) (w.heap.size + 1) (by first | omega | assumption | (apply Ne.symm; assumption) | (simp; done) | (simp; omega))).trans h1
    have q3 := heap_setCell_same w1 (w.heap.size + 1 + 1) 0 _ _ (.int .i64 0) h2
    have q4 := (Below.heap_setCell (w1.setCell ⟨w.heap.size + 1 + 1, 0, none⟩ (.int .i64 0)) ⟨w.heap.size + 1 + 1, 1, none⟩ (.int .i64 0) (w.heap.size) (by first | omega | assumption | (apply Ne.symm; assumption) | (simp; done) | (simp; omega))).trans q1
    have q5 := (Below.heap_setCell (w1.setCell ⟨w.heap.size + 1 + 1, 0, none⟩ (.int .i64 0)) ⟨w.heap.size + 1 + 1, 1, none⟩ (.int .i64 0) (w.heap.size + 1) (by first | omega | assumption | (apply Ne.symm; assumption) | (simp; done) | (simp; omega))).trans q2
    have q6 := heap_setCell_same (w1.setCell ⟨w.heap.size + 1 + 1, 0, none⟩ (.int .i64 0)) (w.heap.size + 1 + 1) 1 _ _ (.int .i64 0) q3
    obtain ⟨w2, hw2⟩ : ∃ W, W = ((w1.setCell ⟨w.heap.size + 1 + 1, 0, none⟩ (.int .i64 0)).setCell ⟨w.heap.size + 1 + 1, 1, none⟩ (.int .i64 0)) := ⟨_, rfl⟩
    rw [← hw2]
    replace h0 : w2.heap[w.heap.size]? = some (.cells #[.int .i64 m.m.a, .int .i64 m.m.b, .int .i64 m.m.c, .int .i64 m.m.d, .int .i64 m.t.x, .int .i64 m.t.y] 49 (0, 0)) := by rw [hw2]; exact q4
    replace h1 : w2.heap[w.heap.size + 1]? = some (.cells #[.int .i64 p.x, .int .i64 p.y] 25 (0, 0)) := by rw [hw2]; exact q5
    replace h2 : w2.heap[w.heap.size + 1 + 1]? = some (.cells #[.int .i64 0, .int .i64 0] 25 (0, 0)) := by rw [hw2]; exact q6
    have D2 := Lib.hid (show Below w.heap.size w w2 by rw [hw2]; exact (Below.setCell (Below.setCell D1.out (p := ⟨w.heap.size + 1 + 1, 0, none⟩) (by first | omega | (simp; done) | (simp; omega)) (.int .i64 0)) (p := ⟨w.heap.size + 1 + 1, 1, none⟩) (by first | omega | (simp; done) | (simp; omega)) (.int .i64 0)))
    have z2 := D2.out.size
    have y2 : w2.heap.size = w1.heap.size := by rw [hw2]; simp
    clear q6 q5 q4 q3 q2 q1 hw2
    try clear c0_0
    have c0_0 := cell_of_heap h0 (j := 0) rfl
    try clear f0_0
    have f0_0 := frozen_of_heap h0 0
    try clear c0_1
    have c0_1 := cell_of_heap h0 (j := 1) rfl
    try clear f0_1
    have f0_1 := frozen_of_heap h0 1
    try clear c0_2
    have c0_2 := cell_of_heap h0 (j := 2) rfl
    try clear f0_2
    have f0_2 := frozen_of_heap h0 2
    try clear c0_3
    have c0_3 := cell_of_heap h0 (j := 3) rfl
    try clear f0_3
    have f0_3 := frozen_of_heap h0 3
    try clear c0_4
    have c0_4 := cell_of_heap h0 (j := 4) rfl
    try clear f0_4
    have f0_4 := frozen_of_heap h0 4
    try clear c0_5
    have c0_5 := cell_of_heap h0 (j := 5) rfl
    try clear f0_5
    have f0_5 := frozen_of_heap h0 5
    try clear c1_0
    have c1_0 := cell_of_heap h1 (j := 0) rfl
    try clear f1_0
    have f1_0 := frozen_of_heap h1 0
    try clear c1_1
    have c1_1 := cell_of_heap h1 (j := 1) rfl
    try clear f1_1
    have f1_1 := frozen_of_heap h1 1
    try clear c2_0
    have c2_0 := cell_of_heap h2 (j := 0) rfl
    try clear f2_0
    have f2_0 := frozen_of_heap h2 0
    try clear c2_1
    have c2_1 := cell_of_heap h2 (j := 1) rfl
    try clear f2_1
    have f2_1 := frozen_of_heap h2 1
    refine bodyPost_ret (results_bt rfl _ _ (w.heap.size + 1 + 1) rfl rfl h2 Tryd.underlying25 rfl (by kernel_rfl)) rfl ⟨rfl, D2.out⟩
  · cases b2
    · simp only [Bool.false_and, Bool.true_and, Bool.and_self, Bool.and_false, Bool.and_true, Bool.false_eq_true, if_true, if_false]
      go_enter Tryd.func29, Tryd.ntmps29
      go_wp2_with fail
      refine (H1.out _).mono ?_
      rintro e w1 ⟨rfl, hb⟩
      have h0 : w1.heap[w.heap.size]? = some (.cells #[.int .i64 m.m.a, .int .i64 m.m.b, .int .i64 m.m.c, .int .i64 m.m.d, .int .i64 m.t.x, .int .i64 m.t.y] 49 (0, 0)) := hb_below hb (by repeat (first | (refine hb_new ?_; (first | omega | (simp; omega) | (simp; done))) | (refine hb_old ?_ ?_; rotate_left; focus (first | omega | (simp; omega) | (simp; done))) | refine hb_drew ?_)) (by first | omega | (simp; omega) | (simp; done))
      have h1 : w1.heap[w.heap.size + 1]? = some (.cells #[.int .i64 p.x, .int .i64 p.y] 25 (0, 0)) := hb_below hb (by repeat (first | (refine hb_new ?_; (first | omega | (simp; omega) | (simp; done))) | (refine hb_old ?_ ?_; rotate_left; focus (first | omega | (simp; omega) | (simp; done))) | refine hb_drew ?_)) (by first | omega | (simp; omega) | (simp; done))
      have h2 : w1.heap[w.heap.size + 1 + 1]? = some (.cells #[.int .i64 0, .int .i64 0] 25 (0, 0)) := hb_below hb (by repeat (first | (refine hb_new ?_; (first | omega | (simp; omega) | (simp; done))) | (refine hb_old ?_ ?_; rotate_left; focus (first | omega | (simp; omega) | (simp; done))) | refine hb_drew ?_)) (by first | omega | (simp; omega) | (simp; done))
      have y1 := Below.size hb
      try simp only [World.size_alloc, World.size_drew] at y1
      have D1 := Lib.hid (show Below w.heap.size w w1 from Below.trans (by repeat (first | exact Below.refl _ _ | refine Below.alloc ?_ (by first | omega | (simp; omega) | (simp; done)) _)) (Below.mono hb (by first | omega | (simp; omega) | (simp; done))))
      have z1 := D1.out.size
      clear hb
      try clear c0_0
      have c0_0 := cell_of_heap h0 (j := 0) rfl
      try clear f0_0
      have f0_0 := frozen_of_heap h0 0
      try clear c0_1
      have c0_1 := cell_of_heap h0 (j := 1) rfl
      try clear f0_1
      have f0_1 := frozen_of_heap h0 1
      try clear c0_2
      have c0_2 := cell_of_heap h0 (j := 2) rfl
      try clear f0_2
      have f0_2 := frozen_of_heap h0 2
      try clear c0_3
      have c0_3 := cell_of_heap h0 (j := 3) rfl
      try clear f0_3
      have f0_3 := frozen_of_heap h0 3
      try clear c0_4
      have c0_4 := cell_of_heap h0 (j := 4) rfl
      try clear f0_4
      have f0_4 := frozen_of_heap h0 4
      try clear c0_5
      have c0_5 := cell_of_heap h0 (j := 5) rfl
      try clear f0_5
      have f0_5 := frozen_of_heap h0 5
      try clear c1_0
      have c1_0 := cell_of_heap h1 (j := 0) rfl
      try clear f1_0
      have f1_0 := frozen_of_heap h1 0
      try clear c1_1
      have c1_1 := cell_of_heap h1 (j := 1) rfl
      try clear f1_1
      have f1_1 := frozen_of_heap h1 1
      try clear c2_0
      have c2_0 := cell_of_heap h2 (j := 0) rfl
      try clear f2_0
      have f2_0 := frozen_of_heap h2 0
      try clear c2_1
      have c2_1 := cell_of_heap h2 (j := 1) rfl
      try clear f2_1
      have f2_1 := frozen_of_heap h2 1
      go_wp2_with fail
      refine (H2.out _ _ _ rfl).mono ?_
      rintro e w2 ⟨rfl, hb⟩
      replace h0 : w2.heap[w.heap.size]? = some (.cells #[.int .i64 m.m.a, .int .i64 m.m.b, .int .i64 m.m.c, .int .i64 m.m.d, .int .i64 m.t.x, .int .i64 m.t.y] 49 (0, 0)) := hb_below hb (by repeat (first | exact h0 | (refine hb_new ?_; (first | omega | (simp; omega) | (simp; done))) | (refine hb_old ?_ ?_; rotate_left; focus (first | omega | (simp; omega) | (simp; done))) | refine hb_drew ?_)) (by first | omega | (simp; omega) | (simp; done))
      replace h1 : w2.heap[w.heap.size + 1]? = some (.cells #[.int .i64 p.x, .int .i64 p.y] 25 (0, 0)) := hb_below hb (by repeat (first | exact h1 | (refine hb_new ?_; (first | omega | (simp; omega) | (simp; done))) | (refine hb_old ?_ ?_; rotate_left; focus (first | omega | (simp; omega) | (simp; done))) | refine hb_drew ?_)) (by first | omega | (simp; omega) | (simp; done))
      replace h2 : w2.heap[w.heap.size + 1 + 1]? = some (.cells #[.int .i64 0, .int .i64 0] 25 (0, 0)) := hb_below hb (by repeat (first | exact h2 | (refine hb_new ?_; (first | omega | (simp; omega) | (simp; done))) | (refine hb_old ?_ ?_; rotate_left; focus (first | omega | (simp; omega) | (simp; done))) | refine hb_drew ?_)) (by first | omega | (simp; omega) | (simp; done))
      have y2 := Below.size hb
      try simp only [World.size_alloc, World.size_drew] at y2
      have D2 := Lib.hid (show Below w.heap.size w w2 from Below.trans (by repeat (first | exact D1.out | exact Below.refl _ _ | refine Below.alloc ?_ (by first | omega | (simp; omega) | (simp; done)) _)) (Below.mono hb (by first | omega | (simp; omega) | (simp; done))))
      have z2 := D2.out.size
      clear hb
      try clear c0_0
      have c0_0 := cell_of_heap h0 (j := 0) rfl
      try clear f0_0
      have f0_0 := frozen_of_heap h0 0
      try clear c0_1
      have c0_1 := cell_of_heap h0 (j := 1) rfl
      try clear f0_1
      have f0_1 := frozen_of_heap h0 1
      try clear c0_2
      have c0_2 := cell_of_heap h0 (j := 2) rfl
      try clear f0_2
      have f0_2 := frozen_of_heap h0 2
      try clear c0_3
      have c0_3 := cell_of_heap h0 (j := 3) rfl
      try clear f0_3
      have f0_3 := frozen_of_heap h0 3
      try clear c0_4
      have c0_4 := cell_of_heap h0 (j := 4) rfl
      try clear f0_4
      have f0_4 := frozen_of_heap h0 4
      try clear c0_5
      have c0_5 := cell_of_heap h0 (j := 5) rfl
      try clear f0_5
      have f0_5 := frozen_of_heap h0 5
      try clear c1_0
      have c1_0 := cell_of_heap h1 (j := 0) rfl
      try clear f1_0
      have f1_0 := frozen_of_heap h1 0
      try clear c1_1
      have c1_1 := cell_of_heap h1 (j := 1) rfl
      try clear f1_1
      have f1_1 := frozen_of_heap h1 1
      try clear c2_0
      have c2_0 := cell_of_heap h2 (j := 0) rfl
      try clear f2_0
      have f2_0 := frozen_of_heap h2 0
      try clear c2_1
      have c2_1 := cell_of_heap h2 (j := 1) rfl
      try clear f2_1
      have f2_1 := frozen_of_heap h2 1
      go_wp2_with fail
      have q1 := (Below.heap_setCell w2 ⟨w.heap.size + 1 + 1, 0, none⟩ (.int .i64 0) (w.heap.size) (by first | omega | assumption | (apply Ne.symm; assumption) | (simp; done) | (simp; omega))).trans h0
      have q2 := (Below.heap_setCell w2 ⟨w.heap.size + 1 + 1, 0, none⟩ (.int .i64 0) (w.heap.size + 1) (by first | omega | assumption | (apply Ne.symm; assumption) | (simp; done) | (simp; omega))).trans h1
      have q3 := heap_setCell_same w2 (w.heap.size + 1 + 1) 0 _ _ (.int .i64 0) h2
      have q4 := (Below.heap_setCell (w2.setCell ⟨w.heap.size + 1 + 1, 0, none⟩ (.int .i64 0)) ⟨w.heap.size + 1 + 1, 1, none⟩ (.int .i64 0) (w.heap.size) (by first | omega | assumption | (apply Ne.symm; assumption) | (simp; done) | (simp; omega))).trans q1
      have q5 := (Below.heap_setCell (w2.setCell ⟨w.heap.size + 1 + 1, 0, none⟩ (.int .i64 0)) ⟨w.heap.size + 1 + 1, 1, none⟩ (.int .i64 0) (w.heap.size + 1) (by first | omega | assumption | (apply Ne.symm; assumption) | (simp; done) | (simp; omega))).trans q2
      have q6 := heap_setCell_same (w2.setCell ⟨w.heap.size + 1 + 1, 0, none⟩ (.int .i64 0)) (w.heap.size + 1 + 1) 1 _ _ (.int .i64 0) q3
      obtain ⟨w3, hw3⟩ : ∃ W, W = ((w2.setCell ⟨w.heap.size + 1 + 1, 0, none⟩ (.int .i64 0)).setCell ⟨w.heap.size + 1 + 1, 1, none⟩ (.int .i64 0)) := ⟨_, rfl⟩
      rw [← hw3]
      replace h0 : w3.heap[w.heap.size]? = some (.cells #[.int .i64 m.m.a, .int .i64 m.m.b, .int .i64 m.m.c, .int .i64 m.m.d, .int .i64 m.t.x, .int .i64 m.t.y] 49 (0, 0)) := by rw [hw3]; exact q4
      replace h1 : w3.heap[w.heap.size + 1]? = some (.cells #[.int .i64 p.x, .int .i64 p.y] 25 (0, 0)) := by rw [hw3]; exact q5
      replace h2 : w3.heap[w.heap.size + 1 + 1]? = some (.cells #[.int .i64 0, .int .i64 0] 25 (0, 0)) := by rw [hw3]; exact q6
      have D3 := Lib.hid (show Below w.heap.size w w3 by rw [hw3]; exact (Below.setCell (Below.setCell D2.out (p := ⟨w.heap.size + 1 + 1, 0, none⟩) (by first | omega | (simp; done) | (simp; omega)) (.int .i64 0)) (p := ⟨w.heap.size + 1 + 1, 1, none⟩) (by first | omega | (simp; done) | (simp; omega)) (.int .i64 0)))
      have z3 := D3.out.size
      have y3 : w3.heap.size = w2.heap.size := by rw [hw3]; simp
      clear q6 q5 q4 q3 q2 q1 hw3
      try clear c0_0
      have c0_0 := cell_of_heap h0 (j := 0) rfl
      try clear f0_0
      have f0_0 := frozen_of_heap h0 0
      try clear c0_1
      have c0_1 := cell_of_heap h0 (j := 1) rfl
      try clear f0_1
      have f0_1 := frozen_of_heap h0 1
      try clear c0_2
      have c0_2 := cell_of_heap h0 (j := 2) rfl
      try clear f0_2
      have f0_2 := frozen_of_heap h0 2
      try clear c0_3
      have c0_3 := cell_of_heap h0 (j := 3) rfl
      try clear f0_3
      have f0_3 := frozen_of_heap h0 3
      try clear c0_4
      have c0_4 := cell_of_heap h0 (j := 4) rfl
      try clear f0_4
      have f0_4 := frozen_of_heap h0 4
      try clear c0_5
      have c0_5 := cell_of_heap h0 (j := 5) rfl
      try clear f0_5
      have f0_5 := frozen_of_heap h0 5
      try clear c1_0
      have c1_0 := cell_of_heap h1 (j := 0) rfl
      try clear f1_0
      have f1_0 := frozen_of_heap h1 0
      try clear c1_1
      have c1_1 := cell_of_heap h1 (j := 1) rfl
      try clear f1_1
      have f1_1 := frozen_of_heap h1 1
      try clear c2_0
      have c2_0 := cell_of_heap h2 (j := 0) rfl
      try clear f2_0
      have f2_0 := frozen_of_heap h2 0
      try clear c2_1
      have c2_1 := cell_of_heap h2 (j := 1) rfl
      try clear f2_1
      have f2_1 := frozen_of_heap h2 1
      refine bodyPost_ret (results_bt rfl _ _ (w.heap.size + 1 + 1) rfl rfl h2 Tryd.underlying25 rfl (by kernel_rfl)) rfl ⟨rfl, D3.out⟩
    · cases b3
      · simp only [Bool.false_and, Bool.true_and, Bool.and_self, Bool.and_false, Bool.and_true, Bool.false_eq_true, if_true, if_false]
        go_enter Tryd.func29, Tryd.ntmps29
        go_wp2_with fail
        refine (H1.out _).mono ?_
        rintro e w1 ⟨rfl, hb⟩
        have h0 : w1.heap[w.heap.size]? = some (.cells #[.int .i64 m.m.a, .int .i64 m.m.b, .int .i64 m.m.c, .int .i64 m.m.d, .int .i64 m.t.x, .int .i64 m.t.y] 49 (0, 0)) := hb_below hb (by repeat (first | (refine hb_new ?_; (first | omega | (simp; omega) | (simp; done))) | (refine hb_old ?_ ?_; rotate_left; focus (first | omega | (simp; omega) | (simp; done))) | refine hb_drew ?_)) (by first | omega | (simp; omega) | (simp; done))
        have h1 : w1.heap[w.heap.size + 1]? = some (.cells #[.int .i64 p.x, .int .i64 p.y] 25 (0, 0)) := hb_below hb (by repeat (first | (refine hb_new ?_; (first | omega | (simp; omega) | (simp; done))) | (refine hb_old ?_ ?_; rotate_left; focus (first | omega | (simp; omega) | (simp; done))) | refine hb_drew ?_)) (by first | omega | (simp; omega) | (simp; done))
        have h2 : w1.heap[w.heap.size + 1 + 1]? = some (.cells #[.int .i64 0, .int .i64 0] 25 (0, 0)) := hb_below hb (by repeat (first | (refine hb_new ?_; (first | omega | (simp; omega) | (simp; done))) | (refine hb_old ?_ ?_; rotate_left; focus (first | omega | (simp; omega) | (simp; done))) | refine hb_drew ?_)) (by first | omega | (simp; omega) | (simp; done))
        have y1 := Below.size hb
        try simp only [World.size_alloc, World.size_drew] at y1
        have D1 := Lib.hid (show Below w.heap.size w w1 from Below.trans (by repeat (first | exact Below.refl _ _ | refine Below.alloc ?_ (by first | omega | (simp; omega) | (simp; done)) _)) (Below.mono hb (by first | omega | (simp; omega) | (simp; done))))
        have z1 := D1.out.size
        clear hb
        try clear c0_0
        have c0_0 := cell_of_heap h0 (j := 0) rfl
        try clear f0_0
        have f0_0 := frozen_of_heap h0 0
        try clear c0_1
        have c0_1 := cell_of_heap h0 (j := 1) rfl
        try clear f0_1
        have f0_1 := frozen_of_heap h0 1
        try clear c0_2
        have c0_2 := cell_of_heap h0 (j := 2) rfl
        try clear f0_2
        have f0_2 := frozen_of_heap h0 2
        try clear c0_3
        have c0_3 := cell_of_heap h0 (j := 3) rfl
        try clear f0_3
        have f0_3 := frozen_of_heap h0 3
        try clear c0_4
        have c0_4 := cell_of_heap h0 (j := 4) rfl
        try clear f0_4
        have f0_4 := frozen_of_heap h0 4
        try clear c0_5
        have c0_5 := cell_of_heap h0 (j := 5) rfl
        try clear f0_5
        have f0_5 := frozen_of_heap h0 5
        try clear c1_0
        have c1_0 := cell_of_heap h1 (j := 0) rfl
        try clear f1_0
        have f1_0 := frozen_of_heap h1 0
        try clear c1_1
        have c1_1 := cell_of_heap h1 (j := 1) rfl
        try clear f1_1
        have f1_1 := frozen_of_heap h1 1
        try clear c2_0
        have c2_0 := cell_of_heap h2 (j := 0) rfl
        try clear f2_0
        have f2_0 := frozen_of_heap h2 0
        try clear c2_1
        have c2_1 := cell_of_heap h2 (j := 1) rfl
        try clear f2_1
        have f2_1 := frozen_of_heap h2 1
        go_wp2_with fail
        refine (H2.out _ _ _ rfl).mono ?_
        rintro e w2 ⟨rfl, hb⟩
        replace h0 : w2.heap[w.heap.size]? = some (.cells #[.int .i64 m.m.a, .int .i64 m.m.b, .int .i64 m.m.c, .int .i64 m.m.d, .int .i64 m.t.x, .int .i64 m.t.y] 49 (0, 0)) := hb_below hb (by repeat (first | exact h0 | (refine hb_new ?_; (first | omega | (simp; omega) | (simp; done))) | (refine hb_old ?_ ?_; rotate_left; focus (first | omega | (simp; omega) | (simp; done))) | refine hb_drew ?_)) (by first | omega | (simp; omega) | (simp; done))
        replace h1 : w2.heap[w.heap.size + 1]? = some (.cells #[.int .i64 p.x, .int .i64 p.y] 25 (0, 0)) := hb_below hb (by repeat (first | exact h1 | (refine hb_new ?_; (first | omega | (simp; omega) | (simp; done))) | (refine hb_old ?_ ?_; rotate_left; focus (first | omega | (simp; omega) | (simp; done))) | refine hb_drew ?_)) (by first | omega | (simp; omega) | (simp; done))
        replace h2 : w2.heap[w.heap.size + 1 + 1]? = some (.cells #[.int .i64 0, .int .i64 0] 25 (0, 0)) := hb_below hb (by repeat (first | exact h2 | (refine hb_new ?_; (first | omega | (simp; omega) | (simp; done))) | (refine hb_old ?_ ?_; rotate_left; focus (first | omega | (simp; omega) | (simp; done))) | refine hb_drew ?_)) (by first | omega | (simp; omega) | (simp; done))
        have y2 := Below.size hb
        try simp only [World.size_alloc, World.size_drew] at y2
        have D2 := Lib.hid (show Below w.heap.size w w2 from Below.trans (by repeat (first | exact D1.out | exact Below.refl _ _ | refine Below.alloc ?_ (by first | omega | (simp; omega) | (simp; done)) _)) (Below.mono hb (by first | omega | (simp; omega) | (simp; done))))
        have z2 := D2.out.size
        clear hb
        try clear c0_0
        have c0_0 := cell_of_heap h0 (j := 0) rfl
        try clear f0_0
        have f0_0 := frozen_of_heap h0 0
        try clear c0_1
        have c0_1 := cell_of_heap h0 (j := 1) rfl
        try clear f0_1
        have f0_1 := frozen_of_heap h0 1
        try clear c0_2
        have c0_2 := cell_of_heap h0 (j := 2) rfl
        try clear f0_2
        have f0_2 := frozen_of_heap h0 2
        try clear c0_3
        have c0_3 := cell_of_heap h0 (j := 3) rfl
        try clear f0_3
        have f0_3 := frozen_of_heap h0 3
        try clear c0_4
        have c0_4 := cell_of_heap h0 (j := 4) rfl
        try clear f0_4
        have f0_4 := frozen_of_heap h0 4
        try clear c0_5
        have c0_5 := cell_of_heap h0 (j := 5) rfl
        try clear f0_5
        have f0_5 := frozen_of_heap h0 5
        try clear c1_0
        have c1_0 := cell_of_heap h1 (j := 0) rfl
        try clear f1_0
        have f1_0 := frozen_of_heap h1 0
        try clear c1_1
        have c1_1 := cell_of_heap h1 (j := 1) rfl
        try clear f1_1
        have f1_1 := frozen_of_heap h1 1
        try clear c2_0
        have c2_0 := cell_of_heap h2 (j := 0) rfl
        try clear f2_0
        have f2_0 := frozen_of_heap h2 0
        try clear c2_1
        have c2_1 := cell_of_heap h2 (j := 1) rfl
        try clear f2_1
        have f2_1 := frozen_of_heap h2 1
        go_wp2_with fail
        refine (H3.out _).mono ?_
        rintro e w3 ⟨rfl, hb⟩
        replace h0 : w3.heap[w.heap.size]? = some (.cells #[.int .i64 m.m.a, .int .i64 m.m.b, .int .i64 m.m.c, .int .i64 m.m.d, .int .i64 m.t.x, .int .i64 m.t.y] 49 (0, 0)) := hb_below hb (by repeat (first | exact h0 | (refine hb_new ?_; (first | omega | (simp; omega) | (simp; done))) | (refine hb_old ?_ ?_; rotate_left; focus (first | omega | (simp; omega) | (simp; done))) | refine hb_drew ?_)) (by first | omega | (simp; omega) | (simp; done))
        replace h1 : w3.heap[w.heap.size + 1]? = some (.cells #[.int .i64 p.x, .int .i64 p.y] 25 (0, 0)) := hb_below hb (by repeat (first | exact h1 | (refine hb_new ?_; (first | omega | (simp; omega) | (simp; done))) | (refine hb_old ?_ ?_; rotate_left; focus (first | omega | (simp; omega) | (simp; done))) | refine hb_drew ?_)) (by first | omega | (simp; omega) | (simp; done))
        replace h2 : w3.heap[w.heap.size + 1 + 1]? = some (.cells #[.int .i64 0, .int .i64 0] 25 (0, 0)) := hb_below hb (by repeat (first | exact h2 | (refine hb_new ?_; (first | omega | (simp; omega) | (simp; done))) | (refine hb_old ?_ ?_; rotate_left; focus (first | omega | (simp; omega) | (simp; done))) | refine hb_drew ?_)) (by first | omega | (simp; omega) | (simp; done))
        have y3 := Below.size hb
        try simp only [World.size_alloc, World.size_drew] at y3
        have D3 := Lib.hid (show Below w.heap.size w w3 from Below.trans (by repeat (first | exact D2.out | exact Below.refl _ _ | refine Below.alloc ?_ (by first | omega | (simp; omega) | (simp; done)) _)) (Below.mono hb (by first | omega | (simp; omega) | (simp; done))))
        have z3 := D3.out.size
        clear hb
        try clear c0_0
        have c0_0 := cell_of_heap h0 (j := 0) rfl
        try clear f0_0
        have f0_0 := frozen_of_heap h0 0
        try clear c0_1
        have c0_1 := cell_of_heap h0 (j := 1) rfl
        try clear f0_1
        have f0_1 := frozen_of_heap h0 1
        try clear c0_2
        have c0_2 := cell_of_heap h0 (j := 2) rfl
        try clear f0_2
        have f0_2 := frozen_of_heap h0 2
        try clear c0_3
        have c0_3 := cell_of_heap h0 (j := 3) rfl
        try clear f0_3
        have f0_3 := frozen_of_heap h0 3
        try clear c0_4
        have c0_4 := cell_of_heap h0 (j := 4) rfl
        try clear f0_4
        have f0_4 := frozen_of_heap h0 4
        try clear c0_5
        have c0_5 := cell_of_heap h0 (j := 5) rfl
        try clear f0_5
        have f0_5 := frozen_of_heap h0 5
        try clear c1_0
        have c1_0 := cell_of_heap h1 (j := 0) rfl
        try clear f1_0
        have f1_0 := frozen_of_heap h1 0
        try clear c1_1
        have c1_1 := cell_of_heap h1 (j := 1) rfl
        try clear f1_1
        have f1_1 := frozen_of_heap h1 1
        try clear c2_0
        have c2_0 := cell_of_heap h2 (j := 0) rfl
        try clear f2_0
        have f2_0 := frozen_of_heap h2 0
        try clear c2_1
        have c2_1 := cell_of_heap h2 (j := 1) rfl
        try clear f2_1
        have f2_1 := frozen_of_heap h2 1
        go_wp2_with fail
        obtain ⟨w4, hw4⟩ : ∃ W, W = (w3.alloc (.cells #[.int .i64 q.x, .int .i64 q.y] 25)) := ⟨_, rfl⟩
        rw [← hw4]
        replace h0 : w4.heap[w.heap.size]? = some (.cells #[.int .i64 m.m.a, .int .i64 m.m.b, .int .i64 m.m.c, .int .i64 m.m.d, .int .i64 m.t.x, .int .i64 m.t.y] 49 (0, 0)) := by rw [hw4]; exact (by repeat (first | exact h0 | (refine hb_new ?_; (first | omega | (simp; omega) | (simp; done))) | (refine hb_old ?_ ?_; rotate_left; focus (first | omega | (simp; omega) | (simp; done))) | refine hb_drew ?_))
        replace h1 : w4.heap[w.heap.size + 1]? = some (.cells #[.int .i64 p.x, .int .i64 p.y] 25 (0, 0)) := by rw [hw4]; exact (by repeat (first | exact h1 | (refine hb_new ?_; (first | omega | (simp; omega) | (simp; done))) | (refine hb_old ?_ ?_; rotate_left; focus (first | omega | (simp; omega) | (simp; done))) | refine hb_drew ?_))
        replace h2 : w4.heap[w.heap.size + 1 + 1]? = some (.cells #[.int .i64 0, .int .i64 0] 25 (0, 0)) := by rw [hw4]; exact (by repeat (first | exact h2 | (refine hb_new ?_; (first | omega | (simp; omega) | (simp; done))) | (refine hb_old ?_ ?_; rotate_left; focus (first | omega | (simp; omega) | (simp; done))) | refine hb_drew ?_))
        have h3 : w4.heap[w3.heap.size]? = some (.cells #[.int .i64 q.x, .int .i64 q.y] 25 (0, 0)) := by rw [hw4]; exact (by repeat (first | (refine hb_new ?_; (first | omega | (simp; omega) | (simp; done))) | (refine hb_old ?_ ?_; rotate_left; focus (first | omega | (simp; omega) | (simp; done))) | refine hb_drew ?_))
        have hb : Below w3.heap.size w3 w4 := by rw [hw4]; exact (by repeat (first | exact Below.refl _ _ | refine Below.alloc ?_ (by first | omega | (simp; omega) | (simp; done)) _ | refine Below.drew ?_))
        have s4 : w3.heap.size + 1 ≤ w4.heap.size := by rw [hw4]; simp
        have S4 := Lib.hid (show w4.heap.size = w3.heap.size + 1 by rw [hw4]; simp)
        have y4 := Below.size hb
        try simp only [World.size_alloc, World.size_drew] at y4
        have D4 := Lib.hid (show Below w.heap.size w w4 from Below.trans (by repeat (first | exact D3.out | exact Below.refl _ _ | refine Below.alloc ?_ (by first | omega | (simp; omega) | (simp; done)) _)) (Below.mono hb (by first | omega | (simp; omega) | (simp; done))))
        have z4 := D4.out.size
        clear hb hw4
        try clear c0_0
        have c0_0 := cell_of_heap h0 (j := 0) rfl
        try clear f0_0
        have f0_0 := frozen_of_heap h0 0
        try clear c0_1
        have c0_1 := cell_of_heap h0 (j := 1) rfl
        try clear f0_1
        have f0_1 := frozen_of_heap h0 1
        try clear c0_2
        have c0_2 := cell_of_heap h0 (j := 2) rfl
        try clear f0_2
        have f0_2 := frozen_of_heap h0 2
        try clear c0_3
        have c0_3 := cell_of_heap h0 (j := 3) rfl
        try clear f0_3
        have f0_3 := frozen_of_heap h0 3
        try clear c0_4
        have c0_4 := cell_of_heap h0 (j := 4) rfl
        try clear f0_4
        have f0_4 := frozen_of_heap h0 4
        try clear c0_5
        have c0_5 := cell_of_heap h0 (j := 5) rfl
        try clear f0_5
        have f0_5 := frozen_of_heap h0 5
        try clear c1_0
        have c1_0 := cell_of_heap h1 (j := 0) rfl
        try clear f1_0
        have f1_0 := frozen_of_heap h1 0
        try clear c1_1
        have c1_1 := cell_of_heap h1 (j := 1) rfl
        try clear f1_1
        have f1_1 := frozen_of_heap h1 1
        try clear c2_0
        have c2_0 := cell_of_heap h2 (j := 0) rfl
        try clear f2_0
        have f2_0 := frozen_of_heap h2 0
        try clear c2_1
        have c2_1 := cell_of_heap h2 (j := 1) rfl
        try clear f2_1
        have f2_1 := frozen_of_heap h2 1
        try clear c3_0
        have c3_0 := cell_of_heap h3 (j := 0) rfl
        try clear f3_0
        have f3_0 := frozen_of_heap h3 0
        try clear c3_1
        have c3_1 := cell_of_heap h3 (j := 1) rfl
        try clear f3_1
        have f3_1 := frozen_of_heap h3 1
        refine (H4.out _ _ _ S4.out).mono ?_
        rintro e w5 ⟨rfl, hb⟩
        replace h0 : w5.heap[w.heap.size]? = some (.cells #[.int .i64 m.m.a, .int .i64 m.m.b, .int .i64 m.m.c, .int .i64 m.m.d, .int .i64 m.t.x, .int .i64 m.t.y] 49 (0, 0)) := hb_below hb (by repeat (first | exact h0 | (refine hb_new ?_; (first | omega | (simp; omega) | (simp; done))) | (refine hb_old ?_ ?_; rotate_left; focus (first | omega | (simp; omega) | (simp; done))) | refine hb_drew ?_)) (by first | omega | (simp; omega) | (simp; done))
        replace h1 : w5.heap[w.heap.size + 1]? = some (.cells #[.int .i64 p.x, .int .i64 p.y] 25 (0, 0)) := hb_below hb (by repeat (first | exact h1 | (refine hb_new ?_; (first | omega | (simp; omega) | (simp; done))) | (refine hb_old ?_ ?_; rotate_left; focus (first | omega | (simp; omega) | (simp; done))) | refine hb_drew ?_)) (by first | omega | (simp; omega) | (simp; done))
        replace h2 : w5.heap[w.heap.size + 1 + 1]? = some (.cells #[.int .i64 0, .int .i64 0] 25 (0, 0)) := hb_below hb (by repeat (first | exact h2 | (refine hb_new ?_; (first | omega | (simp; omega) | (simp; done))) | (refine hb_old ?_ ?_; rotate_left; focus (first | omega | (simp; omega) | (simp; done))) | refine hb_drew ?_)) (by first | omega | (simp; omega) | (simp; done))
        replace h3 : w5.heap[w3.heap.size]? = some (.cells #[.int .i64 q.x, .int .i64 q.y] 25 (0, 0)) := hb_below hb (by repeat (first | exact h3 | (refine hb_new ?_; (first | omega | (simp; omega) | (simp; done))) | (refine hb_old ?_ ?_; rotate_left; focus (first | omega | (simp; omega) | (simp; done))) | refine hb_drew ?_)) (by first | omega | (simp; omega) | (simp; done))
        have y5 := Below.size hb
        try simp only [World.size_alloc, World.size_drew] at y5
        have D5 := Lib.hid (show Below w.heap.size w w5 from Below.trans (by repeat (first | exact D4.out | exact Below.refl _ _ | refine Below.alloc ?_ (by first | omega | (simp; omega) | (simp; done)) _)) (Below.mono hb (by first | omega | (simp; omega) | (simp; done))))
        have z5 := D5.out.size
        clear hb
        try clear c0_0
        have c0_0 := cell_of_heap h0 (j := 0) rfl
        try clear f0_0
        have f0_0 := frozen_of_heap h0 0
        try clear c0_1
        have c0_1 := cell_of_heap h0 (j := 1) rfl
        try clear f0_1
        have f0_1 := frozen_of_heap h0 1
        try clear c0_2
        have c0_2 := cell_of_heap h0 (j := 2) rfl
        try clear f0_2
        have f0_2 := frozen_of_heap h0 2
        try clear c0_3
        have c0_3 := cell_of_heap h0 (j := 3) rfl
        try clear f0_3
        have f0_3 := frozen_of_heap h0 3
        try clear c0_4
        have c0_4 := cell_of_heap h0 (j := 4) rfl
        try clear f0_4
        have f0_4 := frozen_of_heap h0 4
        try clear c0_5
        have c0_5 := cell_of_heap h0 (j := 5) rfl
        try clear f0_5
        have f0_5 := frozen_of_heap h0 5
        try clear c1_0
        have c1_0 := cell_of_heap h1 (j := 0) rfl
        try clear f1_0
        have f1_0 := frozen_of_heap h1 0
        try clear c1_1
        have c1_1 := cell_of_heap h1 (j := 1) rfl
        try clear f1_1
        have f1_1 := frozen_of_heap h1 1
        try clear c2_0
        have c2_0 := cell_of_heap h2 (j := 0) rfl
        try clear f2_0
        have f2_0 := frozen_of_heap h2 0
        try clear c2_1
        have c2_1 := cell_of_heap h2 (j := 1) rfl
        try clear f2_1
        have f2_1 := frozen_of_heap h2 1
        try clear c3_0
        have c3_0 := cell_of_heap h3 (j := 0) rfl
        try clear f3_0
        have f3_0 := frozen_of_heap h3 0
        try clear c3_1
        have c3_1 := cell_of_heap h3 (j := 1) rfl
        try clear f3_1
        have f3_1 := frozen_of_heap h3 1
        go_wp2_with fail
        have q1 := (Below.heap_setCell w5 ⟨w.heap.size + 1 + 1, 0, none⟩ (.int .i64 0) (w.heap.size) (by first | omega | assumption | (apply Ne.symm; assumption) | (simp; done) | (simp; omega))).trans h0
        have q2 := (Below.heap_setCell w5 ⟨w.heap.size + 1 + 1, 0, none⟩ (.int .i64 0) (w.heap.size + 1) (by first | omega | assumption | (apply Ne.symm; assumption) | (simp; done) | (simp; omega))).trans h1
        have q3 := heap_setCell_same w5 (w.heap.size + 1 + 1) 0 _ _ (.int .i64 0) h2
        have q4 := (Below.heap_setCell w5 ⟨w.heap.size + 1 + 1, 0, none⟩ (.int .i64 0) (w3.heap.size) (by first | omega | assumption | (apply Ne.symm; assumption) | (simp; done) | (simp; omega))).trans h3
        have q5 := (Below.heap_setCell (w5.setCell ⟨w.heap.size + 1 + 1, 0, none⟩ (.int .i64 0)) ⟨w.heap.size + 1 + 1, 1, none⟩ (.int .i64 0) (w.heap.size) (by first | omega | assumption | (apply Ne.symm; assumption) | (simp; done) | (simp; omega))).trans q1
        have q6 := (Below.heap_setCell (w5.setCell ⟨w.heap.size + 1 + 1, 0, none⟩ (.int .i64 0)) ⟨w.heap.size + 1 + 1, 1, none⟩ (.int .i64 0) (w.heap.size + 1) (by first | omega | assumption | (apply Ne.symm; assumption) | (simp; done) | (simp; omega))).trans q2
        have q7 := heap_setCell_same (w5.setCell ⟨w.heap.size + 1 + 1, 0, none⟩ (.int .i64 0)) (w.heap.size + 1 + 1) 1 _ _ (.int .i64 0) q3
        have q8 := (Below.heap_setCell (w5.setCell ⟨w.heap.size + 1 + 1, 0, none⟩ (.int .i64 0)) ⟨w.heap.size + 1 + 1, 1, none⟩ (.int .i64 0) (w3.heap.size) (by first | omega | assumption | (apply Ne.symm; assumption) | (simp; done) | (simp; omega))).trans q4
        obtain ⟨w6, hw6⟩ : ∃ W, W = ((w5.setCell ⟨w.heap.size + 1 + 1, 0, none⟩ (.int .i64 0)).setCell ⟨w.heap.size + 1 + 1, 1, none⟩ (.int .i64 0)) := ⟨_, rfl⟩
        rw [← hw6]
        replace h0 : w6.heap[w.heap.size]? = some (.cells #[.int .i64 m.m.a, .int .i64 m.m.b, .int .i64 m.m.c, .int .i64 m.m.d, .int .i64 m.t.x, .int .i64 m.t.y] 49 (0, 0)) := by rw [hw6]; exact q5
        replace h1 : w6.heap[w.heap.size + 1]? = some (.cells #[.int .i64 p.x, .int .i64 p.y] 25 (0, 0)) := by rw [hw6]; exact q6
        replace h2 : w6.heap[w.heap.size + 1 + 1]? = some (.cells #[.int .i64 0, .int .i64 0] 25 (0, 0)) := by rw [hw6]; exact q7
        replace h3 : w6.heap[w3.heap.size]? = some (.cells #[.int .i64 q.x, .int .i64 q.y] 25 (0, 0)) := by rw [hw6]; exact q8
        have D6 := Lib.hid (show Below w.heap.size w w6 by rw [hw6]; exact (Below.setCell (Below.setCell D5.out (p := ⟨w.heap.size + 1 + 1, 0, none⟩) (by first | omega | (simp; done) | (simp; omega)) (.int .i64 0)) (p := ⟨w.heap.size + 1 + 1, 1, none⟩) (by first | omega | (simp; done) | (simp; omega)) (.int .i64 0)))
        have z6 := D6.out.size
        have y6 : w6.heap.size = w5.heap.size := by rw [hw6]; simp
        clear q8 q7 q6 q5 q4 q3 q2 q1 hw6
        try clear c0_0
        have c0_0 := cell_of_heap h0 (j := 0) rfl
        try clear f0_0
        have f0_0 := frozen_of_heap h0 0
        try clear c0_1
        have c0_1 := cell_of_heap h0 (j := 1) rfl
        try clear f0_1
        have f0_1 := frozen_of_heap h0 1
        try clear c0_2
        have c0_2 := cell_of_heap h0 (j := 2) rfl
        try clear f0_2
        have f0_2 := frozen_of_heap h0 2
        try clear c0_3
        have c0_3 := cell_of_heap h0 (j := 3) rfl
        try clear f0_3
        have f0_3 := frozen_of_heap h0 3
        try clear c0_4
        have c0_4 := cell_of_heap h0 (j := 4) rfl
        try clear f0_4
        have f0_4 := frozen_of_heap h0 4
        try clear c0_5
        have c0_5 := cell_of_heap h0 (j := 5) rfl
        try clear f0_5
        have f0_5 := frozen_of_heap h0 5
        try clear c1_0
        have c1_0 := cell_of_heap h1 (j := 0) rfl
        try clear f1_0
        have f1_0 := frozen_of_heap h1 0
        try clear c1_1
        have c1_1 := cell_of_heap h1 (j := 1) rfl
        try clear f1_1
        have f1_1 := frozen_of_heap h1 1
        try clear c2_0
        have c2_0 := cell_of_heap h2 (j := 0) rfl
        try clear f2_0
        have f2_0 := frozen_of_heap h2 0
        try clear c2_1
        have c2_1 := cell_of_heap h2 (j := 1) rfl
        try clear f2_1
        have f2_1 := frozen_of_heap h2 1
        try clear c3_0
        have c3_0 := cell_of_heap h3 (j := 0) rfl
        try clear f3_0
        have f3_0 := frozen_of_heap h3 0
        try clear c3_1
        have c3_1 := cell_of_heap h3 (j := 1) rfl
        try clear f3_1
        have f3_1 := frozen_of_heap h3 1
        refine bodyPost_ret (results_bt rfl _ _ (w.heap.size + 1 + 1) rfl rfl h2 Tryd.underlying25 rfl (by kernel_rfl)) rfl ⟨rfl, D6.out⟩
      · simp only [Bool.false_and, Bool.true_and, Bool.and_self, Bool.and_false, Bool.and_true, Bool.false_eq_true, if_true, if_false]
        go_enter Tryd.func29, Tryd.ntmps29
        go_wp2_with fail
        refine (H1.out _).mono ?_
        rintro e w1 ⟨rfl, hb⟩
        have h0 : w1.heap[w.heap.size]? = some (.cells #[.int .i64 m.m.a, .int .i64 m.m.b, .int .i64 m.m.c, .int .i64 m.m.d, .int .i64 m.t.x, .int .i64 m.t.y] 49 (0, 0)) := hb_below hb (by repeat (first | (refine hb_new ?_; (first | omega | (simp; omega) | (simp; done))) | (refine hb_old ?_ ?_; rotate_left; focus (first | omega | (simp; omega) | (simp; done))) | refine hb_drew ?_)) (by first | omega | (simp; omega) | (simp; done))
        have h1 : w1.heap[w.heap.size + 1]? = some (.cells #[.int .i64 p.x, .int .i64 p.y] 25 (0, 0)) := hb_below hb (by repeat (first | (refine hb_new ?_; (first | omega | (simp; omega) | (simp; done))) | (refine hb_old ?_ ?_; rotate_left; focus (first | omega | (simp; omega) | (simp; done))) | refine hb_drew ?_)) (by first | omega | (simp; omega) | (simp; done))
        have h2 : w1.heap[w.heap.size + 1 + 1]? = some (.cells #[.int .i64 0, .int .i64 0] 25 (0, 0)) := hb_below hb (by repeat (first | (refine hb_new ?_; (first | omega | (simp; omega) | (simp; done))) | (refine hb_old ?_ ?_; rotate_left; focus (first | omega | (simp; omega) | (simp; done))) | refine hb_drew ?_)) (by first | omega | (simp; omega) | (simp; done))
        have y1 := Below.size hb
        try simp only [World.size_alloc, World.size_drew] at y1
        have D1 := Lib.hid (show Below w.heap.size w w1 from Below.trans (by repeat (first | exact Below.refl _ _ | refine Below.alloc ?_ (by first | omega | (simp; omega) | (simp; done)) _)) (Below.mono hb (by first | omega | (simp; omega) | (simp; done))))
        have z1 := D1.out.size
        clear hb
        try clear c0_0
        have c0_0 := cell_of_heap h0 (j := 0) rfl
        try clear f0_0
        have f0_0 := frozen_of_heap h0 0
        try clear c0_1
        have c0_1 := cell_of_heap h0 (j := 1) rfl
        try clear f0_1
        have f0_1 := frozen_of_heap h0 1
        try clear c0_2
        have c0_2 := cell_of_heap h0 (j := 2) rfl
        try clear f0_2
        have f0_2 := frozen_of_heap h0 2
        try clear c0_3
        have c0_3 := cell_of_heap h0 (j := 3) rfl
        try clear f0_3
        have f0_3 := frozen_of_heap h0 3
        try clear c0_4
        have c0_4 := cell_of_heap h0 (j := 4) rfl
        try clear f0_4
        have f0_4 := frozen_of_heap h0 4
        try clear c0_5
        have c0_5 := cell_of_heap h0 (j := 5) rfl
        try clear f0_5
        have f0_5 := frozen_of_heap h0 5
        try clear c1_0
        have c1_0 := cell_of_heap h1 (j := 0) rfl
        try clear f1_0
        have f1_0 := frozen_of_heap h1 0
        try clear c1_1
        have c1_1 := cell_of_heap h1 (j := 1) rfl
        try clear f1_1
        have f1_1 := frozen_of_heap h1 1
        try clear c2_0
        have c2_0 := cell_of_heap h2 (j := 0) rfl
        try clear f2_0
        have f2_0 := frozen_of_heap h2 0
        try clear c2_1
        have c2_1 := cell_of_heap h2 (j := 1) rfl
        try clear f2_1
        have f2_1 := frozen_of_heap h2 1
        go_wp2_with fail
        refine (H2.out _ _ _ rfl).mono ?_
        rintro e w2 ⟨rfl, hb⟩
        replace h0 : w2.heap[w.heap.size]? = some (.cells #[.int .i64 m.m.a, .int .i64 m.m.b, .int .i64 m.m.c, .int .i64 m.m.d, .int .i64 m.t.x, .int .i64 m.t.y] 49 (0, 0)) := hb_below hb (by repeat (first | exact h0 | (refine hb_new ?_; (first | omega | (simp; omega) | (simp; done))) | (refine hb_old ?_ ?_; rotate_left; focus (first | omega | (simp; omega) | (simp; done))) | refine hb_drew ?_)) (by first | omega | (simp; omega) | (simp; done))
        replace h1 : w2.heap[w.heap.size + 1]? = some (.cells #[.int .i64 p.x, .int .i64 p.y] 25 (0, 0)) := hb_below hb (by repeat (first | exact h1 | (refine hb_new ?_; (first | omega | (simp; omega) | (simp; done))) | (refine hb_old ?_ ?_; rotate_left; focus (first | omega | (simp; omega) | (simp; done))) | refine hb_drew ?_)) (by first | omega | (simp; omega) | (simp; done))
        replace h2 : w2.heap[w.heap.size + 1 + 1]? = some (.cells #[.int .i64 0, .int .i64 0] 25 (0, 0)) := hb_below hb (by repeat (first | exact h2 | (refine hb_new ?_; (first | omega | (simp; omega) | (simp; done))) | (refine hb_old ?_ ?_; rotate_left; focus (first | omega | (simp; omega) | (simp; done))) | refine hb_drew ?_)) (by first | omega | (simp; omega) | (simp; done))
        have y2 := Below.size hb
        try simp only [World.size_alloc, World.size_drew] at y2
        have D2 := Lib.hid (show Below w.heap.size w w2 from Below.trans (by repeat (first | exact D1.out | exact Below.refl _ _ | refine Below.alloc ?_ (by first | omega | (simp; omega) | (simp; done)) _)) (Below.mono hb (by first | omega | (simp; omega) | (simp; done))))
        have z2 := D2.out.size
        clear hb
        try clear c0_0
        have c0_0 := cell_of_heap h0 (j := 0) rfl
        try clear f0_0
        have f0_0 := frozen_of_heap h0 0
        try clear c0_1
        have c0_1 := cell_of_heap h0 (j := 1) rfl
        try clear f0_1
        have f0_1 := frozen_of_heap h0 1
        try clear c0_2
        have c0_2 := cell_of_heap h0 (j := 2) rfl
        try clear f0_2
        have f0_2 := frozen_of_heap h0 2
        try clear c0_3
        have c0_3 := cell_of_heap h0 (j := 3) rfl
        try clear f0_3
        have f0_3 := frozen_of_heap h0 3
        try clear c0_4
        have c0_4 := cell_of_heap h0 (j := 4) rfl
        try clear f0_4
        have f0_4 := frozen_of_heap h0 4
        try clear c0_5
        have c0_5 := cell_of_heap h0 (j := 5) rfl
        try clear f0_5
        have f0_5 := frozen_of_heap h0 5
        try clear c1_0
        have c1_0 := cell_of_heap h1 (j := 0) rfl
        try clear f1_0
        have f1_0 := frozen_of_heap h1 0
        try clear c1_1
        have c1_1 := cell_of_heap h1 (j := 1) rfl
        try clear f1_1
        have f1_1 := frozen_of_heap h1 1
        try clear c2_0
        have c2_0 := cell_of_heap h2 (j := 0) rfl
        try clear f2_0
        have f2_0 := frozen_of_heap h2 0
        try clear c2_1
        have c2_1 := cell_of_heap h2 (j := 1) rfl
        try clear f2_1
        have f2_1 := frozen_of_heap h2 1
        go_wp2_with fail
        refine (H3.out _).mono ?_
        rintro e w3 ⟨rfl, hb⟩
        replace h0 : w3.heap[w.heap.size]? = some (.cells #[.int .i64 m.m.a, .int .i64 m.m.b, .int .i64 m.m.c, .int .i64 m.m.d, .int .i64 m.t.x, .int .i64 m.t.y] 49 (0, 0)) := hb_below hb (by repeat (first | exact h0 | (refine hb_new ?_; (first | omega | (simp; omega) | (simp; done))) | (refine hb_old ?_ ?_; rotate_left; focus (first | omega | (simp; omega) | (simp; done))) | refine hb_drew ?_)) (by first | omega | (simp; omega) | (simp; done))
        replace h1 : w3.heap[w.heap.size + 1]? = some (.cells #[.int .i64 p.x, .int .i64 p.y] 25 (0, 0)) := hb_below hb (by repeat (first | exact h1 | (refine hb_new ?_; (first | omega | (simp; omega) | (simp; done))) | (refine hb_old ?_ ?_; rotate_left; focus (first | omega | (simp; omega) | (simp; done))) | refine hb_drew ?_)) (by first | omega | (simp; omega) | (simp; done))
        replace h2 : w3.heap[w.heap.size + 1 + 1]? = some (.cells #[.int .i64 0, .int .i64 0] 25 (0, 0)) := hb_below hb (by repeat (first | exact h2 | (refine hb_new ?_; (first | omega | (simp; omega) | (simp; done))) | (refine hb_old ?_ ?_; rotate_left; focus (first | omega | (simp; omega) | (simp; done))) | refine hb_drew ?_)) (by first | omega | (simp; omega) | (simp; done))
        have y3 := Below.size hb
        try simp only [World.size_alloc, World.size_drew] at y3
        have D3 := Lib.hid (show Below w.heap.size w w3 from Below.trans (by repeat (first | exact D2.out | exact Below.refl _ _ | refine Below.alloc ?_ (by first | omega | (simp; omega) | (simp; done)) _)) (Below.mono hb (by first | omega | (simp; omega) | (simp; done))))
        have z3 := D3.out.size
        clear hb
        try clear c0_0
        have c0_0 := cell_of_heap h0 (j := 0) rfl
        try clear f0_0
        have f0_0 := frozen_of_heap h0 0
        try clear c0_1
        have c0_1 := cell_of_heap h0 (j := 1) rfl
        try clear f0_1
        have f0_1 := frozen_of_heap h0 1
        try clear c0_2
        have c0_2 := cell_of_heap h0 (j := 2) rfl
        try clear f0_2
        have f0_2 := frozen_of_heap h0 2
        try clear c0_3
        have c0_3 := cell_of_heap h0 (j := 3) rfl
        try clear f0_3
        have f0_3 := frozen_of_heap h0 3
        try clear c0_4
        have c0_4 := cell_of_heap h0 (j := 4) rfl
        try clear f0_4
        have f0_4 := frozen_of_heap h0 4
        try clear c0_5
        have c0_5 := cell_of_heap h0 (j := 5) rfl
        try clear f0_5
        have f0_5 := frozen_of_heap h0 5
        try clear c1_0
        have c1_0 := cell_of_heap h1 (j := 0) rfl
        try clear f1_0
        have f1_0 := frozen_of_heap h1 0
        try clear c1_1
        have c1_1 := cell_of_heap h1 (j := 1) rfl
        try clear f1_1
        have f1_1 := frozen_of_heap h1 1
        try clear c2_0
        have c2_0 := cell_of_heap h2 (j := 0) rfl
        try clear f2_0
        have f2_0 := frozen_of_heap h2 0
        try clear c2_1
        have c2_1 := cell_of_heap h2 (j := 1) rfl
        try clear f2_1
        have f2_1 := frozen_of_heap h2 1
        go_wp2_with fail
        obtain ⟨w4, hw4⟩ : ∃ W, W = (w3.alloc (.cells #[.int .i64 q.x, .int .i64 q.y] 25)) := ⟨_, rfl⟩
        rw [← hw4]
        replace h0 : w4.heap[w.heap.size]? = some (.cells #[.int .i64 m.m.a, .int .i64 m.m.b, .int .i64 m.m.c, .int .i64 m.m.d, .int .i64 m.t.x, .int .i64 m.t.y] 49 (0, 0)) := by rw [hw4]; exact (by repeat (first | exact h0 | (refine hb_new ?_; (first | omega | (simp; omega) | (simp; done))) | (refine hb_old ?_ ?_; rotate_left; focus (first | omega | (simp; omega) | (simp; done))) | refine hb_drew ?_))
        replace h1 : w4.heap[w.heap.size + 1]? = some (.cells #[.int .i64 p.x, .int .i64 p.y] 25 (0, 0)) := by rw [hw4]; exact (by repeat (first | exact h1 | (refine hb_new ?_; (first | omega | (simp; omega) | (simp; done))) | (refine hb_old ?_ ?_; rotate_left; focus (first | omega | (simp; omega) | (simp; done))) | refine hb_drew ?_))
        replace h2 : w4.heap[w.heap.size + 1 + 1]? = some (.cells #[.int .i64 0, .int .i64 0] 25 (0, 0)) := by rw [hw4]; exact (by repeat (first | exact h2 | (refine hb_new ?_; (first | omega | (simp; omega) | (simp; done))) | (refine hb_old ?_ ?_; rotate_left; focus (first | omega | (simp; omega) | (simp; done))) | refine hb_drew ?_))
        have h3 : w4.heap[w3.heap.size]? = some (.cells #[.int .i64 q.x, .int .i64 q.y] 25 (0, 0)) := by rw [hw4]; exact (by repeat (first | (refine hb_new ?_; (first | omega | (simp; omega) | (simp; done))) | (refine hb_old ?_ ?_; rotate_left; focus (first | omega | (simp; omega) | (simp; done))) | refine hb_drew ?_))
        have hb : Below w3.heap.size w3 w4 := by rw [hw4]; exact (by repeat (first | exact Below.refl _ _ | refine Below.alloc ?_ (by first | omega | (simp; omega) | (simp; done)) _ | refine Below.drew ?_))
        have s4 : w3.heap.size + 1 ≤ w4.heap.size := by rw [hw4]; simp
        have S4 := Lib.hid (show w4.heap.size = w3.heap.size + 1 by rw [hw4]; simp)
        have y4 := Below.size hb
        try simp only [World.size_alloc, World.size_drew] at y4
        have D4 := Lib.hid (show Below w.heap.size w w4 from Below.trans (by repeat (first | exact D3.out | exact Below.refl _ _ | refine Below.alloc ?_ (by first | omega | (simp; omega) | (simp; done)) _)) (Below.mono hb (by first | omega | (simp; omega) | (simp; done))))
        have z4 := D4.out.size
        clear hb hw4
        try clear c0_0
        have c0_0 := cell_of_heap h0 (j := 0) rfl
        try clear f0_0
        have f0_0 := frozen_of_heap h0 0
        try clear c0_1
        have c0_1 := cell_of_heap h0 (j := 1) rfl
        try clear f0_1
        have f0_1 := frozen_of_heap h0 1
        try clear c0_2
        have c0_2 := cell_of_heap h0 (j := 2) rfl
        try clear f0_2
        have f0_2 := frozen_of_heap h0 2
        try clear c0_3
        have c0_3 := cell_of_heap h0 (j := 3) rfl
        try clear f0_3
        have f0_3 := frozen_of_heap h0 3
        try clear c0_4
        have c0_4 := cell_of_heap h0 (j := 4) rfl
        try clear f0_4
        have f0_4 := frozen_of_heap h0 4
        try clear c0_5
        have c0_5 := cell_of_heap h0 (j := 5) rfl
        try clear f0_5
        have f0_5 := frozen_of_heap h0 5
        try clear c1_0
        have c1_0 := cell_of_heap h1 (j := 0) rfl
        try clear f1_0
        have f1_0 := frozen_of_heap h1 0
        try clear c1_1
        have c1_1 := cell_of_heap h1 (j := 1) rfl
        try clear f1_1
        have f1_1 := frozen_of_heap h1 1
        try clear c2_0
        have c2_0 := cell_of_heap h2 (j := 0) rfl
        try clear f2_0
        have f2_0 := frozen_of_heap h2 0
        try clear c2_1
        have c2_1 := cell_of_heap h2 (j := 1) rfl
        try clear f2_1
        have f2_1 := frozen_of_heap h2 1
        try clear c3_0
        have c3_0 := cell_of_heap h3 (j := 0) rfl
        try clear f3_0
        have f3_0 := frozen_of_heap h3 0
        try clear c3_1
        have c3_1 := cell_of_heap h3 (j := 1) rfl
        try clear f3_1
        have f3_1 := frozen_of_heap h3 1
        refine (H4.out _ _ _ S4.out).mono ?_
        rintro e w5 ⟨rfl, hb⟩
        replace h0 : w5.heap[w.heap.size]? = some (.cells #[.int .i64 m.m.a, .int .i64 m.m.b, .int .i64 m.m.c, .int .i64 m.m.d, .int .i64 m.t.x, .int .i64 m.t.y] 49 (0, 0)) := hb_below hb (by repeat (first | exact h0 | (refine hb_new ?_; (first | omega | (simp; omega) | (simp; done))) | (refine hb_old ?_ ?_; rotate_left; focus (first | omega | (simp; omega) | (simp; done))) | refine hb_drew ?_)) (by first | omega | (simp; omega) | (simp; done))
        replace h1 : w5.heap[w.heap.size + 1]? = some (.cells #[.int .i64 p.x, .int .i64 p.y] 25 (0, 0)) := hb_below hb (by repeat (first | exact h1 | (refine hb_new ?_; (first | omega | (simp; omega) | (simp; done))) | (refine hb_old ?_ ?_; rotate_left; focus (first | omega | (simp; omega) | (simp; done))) | refine hb_drew ?_)) (by first | omega | (simp; omega) | (simp; done))
        replace h2 : w5.heap[w.heap.size + 1 + 1]? = some (.cells #[.int .i64 0, .int .i64 0] 25 (0, 0)) := hb_below hb (by repeat (first | exact h2 | (refine hb_new ?_; (first | omega | (simp; omega) | (simp; done))) | (refine hb_old ?_ ?_; rotate_left; focus (first | omega | (simp; omega) | (simp; done))) | refine hb_drew ?_)) (by first | omega | (simp; omega) | (simp; done))
        replace h3 : w5.heap[w3.heap.size]? = some (.cells #[.int .i64 q.x, .int .i64 q.y] 25 (0, 0)) := hb_below hb (by repeat (first | exact h3 | (refine hb_new ?_; (first | omega | (simp; omega) | (simp; done))) | (refine hb_old ?_ ?_; rotate_left; focus (first | omega | (simp; omega) | (simp; done))) | refine hb_drew ?_)) (by first | omega | (simp; omega) | (simp; done))
        have y5 := Below.size hb
        try simp only [World.size_alloc, World.size_drew] at y5
        have D5 := Lib.hid (show Below w.heap.size w w5 from Below.trans (by repeat (first | exact D4.out | exact Below.refl _ _ | refine Below.alloc ?_ (by first | omega | (simp; omega) | (simp; done)) _)) (Below.mono hb (by first | omega | (simp; omega) | (simp; done))))
        have z5 := D5.out.size
        clear hb
        try clear c0_0
        have c0_0 := cell_of_heap h0 (j := 0) rfl
        try clear f0_0
        have f0_0 := frozen_of_heap h0 0
        try clear c0_1
        have c0_1 := cell_of_heap h0 (j := 1) rfl
        try clear f0_1
        have f0_1 := frozen_of_heap h0 1
        try clear c0_2
        have c0_2 := cell_of_heap h0 (j := 2) rfl
        try clear f0_2
        have f0_2 := frozen_of_heap h0 2
        try clear c0_3
        have c0_3 := cell_of_heap h0 (j := 3) rfl
        try clear f0_3
        have f0_3 := frozen_of_heap h0 3
        try clear c0_4
        have c0_4 := cell_of_heap h0 (j := 4) rfl
        try clear f0_4
        have f0_4 := frozen_of_heap h0 4
        try clear c0_5
        have c0_5 := cell_of_heap h0 (j := 5) rfl
        try clear f0_5
        have f0_5 := frozen_of_heap h0 5
        try clear c1_0
        have c1_0 := cell_of_heap h1 (j := 0) rfl
        try clear f1_0
        have f1_0 := frozen_of_heap h1 0
        try clear c1_1
        have c1_1 := cell_of_heap h1 (j := 1) rfl
        try clear f1_1
        have f1_1 := frozen_of_heap h1 1
        try clear c2_0
        have c2_0 := cell_of_heap h2 (j := 0) rfl
        try clear f2_0
        have f2_0 := frozen_of_heap h2 0
        try clear c2_1
        have c2_1 := cell_of_heap h2 (j := 1) rfl
        try clear f2_1
        have f2_1 := frozen_of_heap h2 1
        try clear c3_0
        have c3_0 := cell_of_heap h3 (j := 0) rfl
        try clear f3_0
        have f3_0 := frozen_of_heap h3 0
        try clear c3_1
        have c3_1 := cell_of_heap h3 (j := 1) rfl
        try clear f3_1
        have f3_1 := frozen_of_heap h3 1
        go_wp2_with fail
        have q1 := (Below.heap_setCell w5 ⟨w.heap.size + 1 + 1, 0, none⟩ (.int .i64 q.x) (w.heap.size) (by first | omega | assumption | (apply Ne.symm; assumption) | (simp; done) | (simp; omega))).trans h0
        have q2 := (Below.heap_setCell w5 ⟨w.heap.size + 1 + 1, 0, none⟩ (.int .i64 q.x) (w.heap.size + 1) (by first | omega | assumption | (apply Ne.symm; assumption) | (simp; done) | (simp; omega))).trans h1
        have q3 := heap_setCell_same w5 (w.heap.size + 1 + 1) 0 _ _ (.int .i64 q.x) h2
        have q4 := (Below.heap_setCell w5 ⟨w.heap.size + 1 + 1, 0, none⟩ (.int .i64 q.x) (w3.heap.size) (by first | omega | assumption | (apply Ne.symm; assumption) | (simp; done) | (simp; omega))).trans h3
        have q5 := (Below.heap_setCell (w5.setCell ⟨w.heap.size + 1 + 1, 0, none⟩ (.int .i64 q.x)) ⟨w.heap.size + 1 + 1, 1, none⟩ (.int .i64 q.y) (w.heap.size) (by first | omega | assumption | (apply Ne.symm; assumption) | (simp; done) | (simp; omega))).trans q1
        have q6 := (Below.heap_setCell (w5.setCell ⟨w.heap.size + 1 + 1, 0, none⟩ (.int .i64 q.x)) ⟨w.heap.size + 1 + 1, 1, none⟩ (.int .i64 q.y) (w.heap.size + 1) (by first | omega | assumption | (apply Ne.symm; assumption) | (simp; done) | (simp; omega))).trans q2
        have q7 := heap_setCell_same (w5.setCell ⟨w.heap.size + 1 + 1, 0, none⟩ (.int .i64 q.x)) (w.heap.size + 1 + 1) 1 _ _ (.int .i64 q.y) q3
        have q8 := (Below.heap_setCell (w5.setCell ⟨w.heap.size + 1 + 1, 0, none⟩ (.int .i64 q.x)) ⟨w.heap.size + 1 + 1, 1, none⟩ (.int .i64 q.y) (w3.heap.size) (by first | omega | assumption | (apply Ne.symm; assumption) | (simp; done) | (simp; omega))).trans q4
        obtain ⟨w6, hw6⟩ : ∃ W, W = ((w5.setCell ⟨w.heap.size + 1 + 1, 0, none⟩ (.int .i64 q.x)).setCell ⟨w.heap.size + 1 + 1, 1, none⟩ (.int .i64 q.y)) := ⟨_, rfl⟩
        rw [← hw6]
        replace h0 : w6.heap[w.heap.size]? = some (.cells #[.int .i64 m.m.a, .int .i64 m.m.b, .int .i64 m.m.c, .int .i64 m.m.d, .int .i64 m.t.x, .int .i64 m.t.y] 49 (0, 0)) := by rw [hw6]; exact q5
        replace h1 : w6.heap[w.heap.size + 1]? = some (.cells #[.int .i64 p.x, .int .i64 p.y] 25 (0, 0)) := by rw [hw6]; exact q6
        replace h2 : w6.heap[w.heap.size + 1 + 1]? = some (.cells #[.int .i64 q.x, .int .i64 q.y] 25 (0, 0)) := by rw [hw6]; exact q7
        replace h3 : w6.heap[w3.heap.size]? = some (.cells #[.int .i64 q.x, .int .i64 q.y] 25 (0, 0)) := by rw [hw6]; exact q8
        have D6 := Lib.hid (show Below w.heap.size w w6 by rw [hw6]; exact (Below.setCell (Below.setCell D5.out (p := ⟨w.heap.size + 1 + 1, 0, none⟩) (by first | omega | (simp; done) | (simp; omega)) (.int .i64 q.x)) (p := ⟨w.heap.size + 1 + 1, 1, none⟩) (by first | omega | (simp; done) | (simp; omega)) (.int .i64 q.y)))
        have z6 := D6.out.size
        have y6 : w6.heap.size = w5.heap.size := by rw [hw6]; simp
        clear q8 q7 q6 q5 q4 q3 q2 q1 hw6
        try clear c0_0
        have c0_0 := cell_of_heap h0 (j := 0) rfl
        try clear f0_0
        have f0_0 := frozen_of_heap h0 0
        try clear c0_1
        have c0_1 := cell_of_heap h0 (j := 1) rfl
        try clear f0_1
        have f0_1 := frozen_of_heap h0 1
        try clear c0_2
        have c0_2 := cell_of_heap h0 (j := 2) rfl
        try clear f0_2
        have f0_2 := frozen_of_heap h0 2
        try clear c0_3
        have c0_3 := cell_of_heap h0 (j := 3) rfl
        try clear f0_3
        have f0_3 := frozen_of_heap h0 3
        try clear c0_4
        have c0_4 := cell_of_heap h0 (j := 4) rfl
        try clear f0_4
        have f0_4 := frozen_of_heap h0 4
        try clear c0_5
        have c0_5 := cell_of_heap h0 (j := 5) rfl
        try clear f0_5
        have f0_5 := frozen_of_heap h0 5
        try clear c1_0
        have c1_0 := cell_of_heap h1 (j := 0) rfl
        try clear f1_0
        have f1_0 := frozen_of_heap h1 0
        try clear c1_1
        have c1_1 := cell_of_heap h1 (j := 1) rfl
        try clear f1_1
        have f1_1 := frozen_of_heap h1 1
        try clear c2_0
        have c2_0 := cell_of_heap h2 (j := 0) rfl
        try clear f2_0
        have f2_0 := frozen_of_heap h2 0
        try clear c2_1
        have c2_1 := cell_of_heap h2 (j := 1) rfl
        try clear f2_1
        have f2_1 := frozen_of_heap h2 1
        try clear c3_0
        have c3_0 := cell_of_heap h3 (j := 0) rfl
        try clear f3_0
        have f3_0 := frozen_of_heap h3 0
        try clear c3_1
        have c3_1 := cell_of_heap h3 (j := 1) rfl
        try clear f3_1
        have f3_1 := frozen_of_heap h3 1
        refine bodyPost_ret (results_bt rfl _ _ (w.heap.size + 1 + 1) rfl rfl h2 Tryd.underlying25 rfl (by kernel_rfl)) rfl ⟨rfl, D6.out⟩
end Go.Proofs.YtehpgmhilcoalaaDoor
