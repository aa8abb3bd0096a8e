/- Reduce. -/
import Derived.Test.YtehpgmhilcoalaaDoorGY
namespace Go.Proofs.YtehpgmhilcoalaaDoor
open Go.RowKit Go.Lib
set_option linter.unusedSimpArgs false
set_option linter.unusedVariables false
theorem FR.ms {B : Nat} {w : World} {ao : Option Addr} {cap : Nat} {R : List Mat} (h : FR B w ao cap R) : MsAt w ao R := fun k m hm => by
  obtain ⟨b, off, e, _, h2, h3, _⟩ := h.at hm
  exact ⟨b, off, e, h2, h3⟩
/-- What Reduce returns. -/
def IsRed (l L : Lat) (m : Mat) : Prop := Red L ∧ Ok L ∧ Unit1 m ∧ Mok m ∧ led l m = L ∧ ∀ m', led l m' = L → ¬ mlt m' m = true
set_option maxHeartbeats 1000000 in
set_option maxRecDepth 100000 in
theorem Reduce_bad (l : Lat) (hl : okL l = false) (w : World) : Calls Tryd.prog 37 #[l.val] w fun e w' => e = .returned (.tuple #[Lat.val ⟨0, 0, 0⟩, Mat.val ⟨0, 0, 0, 0⟩, .int .i64 2]) ∧ Below w.heap.size w w' := by
  have C1 := fun W => validLattice_any l W
  rw [hl] at C1
  unfold Lat.val Mat.val at *
  have H1 := Lib.hid C1
  clear C1
  go_enter Tryd.func37, Tryd.ntmps37
  go_wp2_with fail
  go_wp2_with fail
  refine (H1.out _).mono ?_
  rintro e w1 ⟨rfl, hb⟩
  have h0 : w1.heap[w.heap.size]? = some (.cells #[.int .i64 l.a, .int .i64 l.b, .int .i64 l.c] 23 (0, 0)) := hb_below hb (by repeat (first | (refine hb_new ?_; (first | omega | (simp; omega) | (simp; done))) | (refine hb_old ?_ ?_; rotate_left; focus (first | omega | (simp; omega) | (simp; done))) | refine hb_drew ?_)) (by first | omega | (simp; omega) | (simp; done))
  have h1 : w1.heap[w.heap.size + 1]? = some (.cells #[.int .i64 0, .int .i64 0, .int .i64 0] 23 (0, 0)) := hb_below hb (by repeat (first | (refine hb_new ?_; (first | omega | (simp; omega) | (simp; done))) | (refine hb_old ?_ ?_; rotate_left; focus (first | omega | (simp; omega) | (simp; done))) | refine hb_drew ?_)) (by first | omega | (simp; omega) | (simp; done))
  have h2 : w1.heap[w.heap.size + 1 + 1]? = some (.cells #[.int .i64 0, .int .i64 0, .int .i64 0, .int .i64 0] 40 (0, 0)) := hb_below hb (by repeat (first | (refine hb_new ?_; (first | omega | (simp; omega) | (simp; done))) | (refine hb_old ?_ ?_; rotate_left; focus (first | omega | (simp; omega) | (simp; done))) | refine hb_drew ?_)) (by first | omega | (simp; omega) | (simp; done))
  have y1 := Below.size hb
  try simp only [World.size_alloc, World.size_drew] at y1
  have D1 := Lib.hid (show Below w.heap.size w w1 from Below.trans (by repeat (first | exact Below.refl _ _ | refine Below.alloc ?_ (by first | omega | (simp; omega) | (simp; done)) _)) (Below.mono hb (by first | omega | (simp; omega) | (simp; done))))
  have z1 := D1.out.size
  clear hb
  try clear c0_0
  have c0_0 := cell_of_heap h0 (j := 0) rfl
  try clear f0_0
  have f0_0 := frozen_of_heap h0 0
  try clear c0_1
  have c0_1 := cell_of_heap h0 (j := 1) rfl
  try clear f0_1
  have f0_1 := frozen_of_heap h0 1
  try clear c0_2
  have c0_2 := cell_of_heap h0 (j := 2) rfl
  try clear f0_2
  have f0_2 := frozen_of_heap h0 2
  try clear c1_0
  have c1_0 := cell_of_heap h1 (j := 0) rfl
  try clear f1_0
  have f1_0 := frozen_of_heap h1 0
  try clear c1_1
  have c1_1 := cell_of_heap h1 (j := 1) rfl
  try clear f1_1
  have f1_1 := frozen_of_heap h1 1
  try clear c1_2
  have c1_2 := cell_of_heap h1 (j := 2) rfl
  try clear f1_2
  have f1_2 := frozen_of_heap h1 2
  try clear c2_0
  have c2_0 := cell_of_heap h2 (j := 0) rfl
  try clear f2_0
  have f2_0 := frozen_of_heap h2 0
  try clear c2_1
  have c2_1 := cell_of_heap h2 (j := 1) rfl
  try clear f2_1
  have f2_1 := frozen_of_heap h2 1
  try clear c2_2
  have c2_2 := cell_of_heap h2 (j := 2) rfl
  try clear f2_2
  have f2_2 := frozen_of_heap h2 2
  try clear c2_3
  have c2_3 := cell_of_heap h2 (j := 3) rfl
  try clear f2_3
  have f2_3 := frozen_of_heap h2 3
  go_wp2_with fail
  have q1 := (Below.heap_setCell w1 ⟨w.heap.size + 1, 0, none⟩ (.int .i64 0) (w.heap.size) (by first | omega | assumption | (apply Ne.symm; assumption) | (simp; done) | (simp; omega))).trans h0
  have q2 := heap_setCell_same w1 (w.heap.size + 1) 0 _ _ (.int .i64 0) h1
  have q3 := (Below.heap_setCell w1 ⟨w.heap.size + 1, 0, none⟩ (.int .i64 0) (w.heap.size + 1 + 1) (by first | omega | assumption | (apply Ne.symm; assumption) | (simp; done) | (simp; omega))).trans h2
  have q4 := (Below.heap_setCell (w1.setCell ⟨w.heap.size + 1, 0, none⟩ (.int .i64 0)) ⟨w.heap.size + 1, 1, none⟩ (.int .i64 0) (w.heap.size) (by first | omega | assumption | (apply Ne.symm; assumption) | (simp; done) | (simp; omega))).trans q1
  have q5 := heap_setCell_same (w1.setCell ⟨w.heap.size + 1, 0, none⟩ (.int .i64 0)) (w.heap.size + 1) 1 _ _ (.int .i64 0) q2
  have q6 := (Below.heap_setCell (w1.setCell ⟨w.heap.size + 1, 0, none⟩ (.int .i64 0)) ⟨w.heap.size + 1, 1, none⟩ (.int .i64 0) (w.heap.size + 1 + 1) (by first | omega | assumption | (apply Ne.symm; assumption) | (simp; done) | (simp; omega))).trans q3
  have q7 := (Below.heap_setCell ((w1.setCell ⟨w.heap.size + 1, 0, none⟩ (.int .i64 0)).setCell ⟨w.heap.size + 1, 1, none⟩ (.int .i64 0)) ⟨w.heap.size + 1, 2, none⟩ (.int .i64 0) (w.heap.size) (by first | omega | assumption | (apply Ne.symm; assumption) | (simp; done) | (simp; omega))).trans q4
  have q8 := heap_setCell_same ((w1.setCell ⟨w.heap.size + 1, 0, none⟩ (.int .i64 0)).setCell ⟨w.heap.size + 1, 1, none⟩ (.int .i64 0)) (w.heap.size + 1) 2 _ _ (.int .i64 0) q5
  have q9 := (Below.heap_setCell ((w1.setCell ⟨w.heap.size + 1, 0, none⟩ (.int .i64 0)).setCell ⟨w.heap.size + 1, 1, none⟩ (.int .i64 0)) ⟨w.heap.size + 1, 2, none⟩ (.int .i64 0) (w.heap.size + 1 + 1) (by first | omega | assumption | (apply Ne.symm; assumption) | (simp; done) | (simp; omega))).trans q6
  have q10 := (Below.heap_setCell (((w1.setCell ⟨w.heap.size + 1, 0, none⟩ (.int .i64 0)).setCell ⟨w.heap.size + 1, 1, none⟩ (.int .i64 0)).setCell ⟨w.heap.size + 1, 2, none⟩ (.int .i64 0)) ⟨w.heap.size + 1 + 1, 0, none⟩ (.int .i64 0) (w.heap.size) (by first | omega | assumption | (apply Ne.symm; assumption) | (simp; done) | (simp; omega))).trans q7
  have q11 := (Below.heap_setCell (((w1.setCell ⟨w.heap.size + 1, 0, none⟩ (.int .i64 0)).setCell ⟨w.heap.size + 1, 1, none⟩ (.int .i64 0)).setCell ⟨w.heap.size + 1, 2, none⟩ (.int .i64 0)) ⟨w.heap.size + 1 + 1, 0, none⟩ (.int .i64 0) (w.heap.size + 1) (by first | omega | assumption | (apply Ne.symm; assumption) | (simp; done) | (simp; omega))).trans q8
  have q12 := heap_setCell_same (((w1.setCell ⟨w.heap.size + 1, 0, none⟩ (.int .i64 0)).setCell ⟨w.heap.size + 1, 1, none⟩ (.int .i64 0)).setCell ⟨w.heap.size + 1, 2, none⟩ (.int .i64 0)) (w.heap.size + 1 + 1) 0 _ _ (.int .i64 0) q9
  have q13 := (Below.heap_setCell ((((w1.setCell ⟨w.heap.size + 1, 0, none⟩ (.int .i64 0)).setCell ⟨w.heap.size + 1, 1, none⟩ (.int .i64 0)).setCell ⟨w.heap.size + 1, 2, none⟩ (.int .i64 0)).setCell ⟨w.heap.size + 1 + 1, 0, none⟩ (.int .i64 0)) ⟨w.heap.size + 1 + 1, 1, none⟩ (.int .i64 0) (w.heap.size) (by first | omega | assumption | (apply Ne.symm; assumption) | (simp; done) | (simp; omega))).trans q10
  have q14 := (Below.heap_setCell ((((w1.setCell ⟨w.heap.size + 1, 0, none⟩ (.int .i64 0)).setCell ⟨w.heap.size + 1, 1, none⟩ (.int .i64 0)).setCell ⟨w.heap.size + 1, 2, none⟩ (.int .i64 0)).setCell ⟨w.heap.size + 1 + 1, 0, none⟩ (.int .i64 0)) ⟨w.heap.size + 1 + 1, 1, none⟩ (.int .i64 0) (w.heap.size + 1) (by first | omega | assumption | (apply Ne.symm; assumption) | (simp; done) | (simp; omega))).trans q11
  have q15 := heap_setCell_same ((((w1.setCell ⟨w.heap.size + 1, 0, none⟩ (.int .i64 0)).setCell ⟨w.heap.size + 1, 1, none⟩ (.int .i64 0)).setCell ⟨w.heap.size + 1, 2, none⟩ (.int .i64 0)).setCell ⟨w.heap.size + 1 + 1, 0, none⟩ (.int .i64 0)) (w.heap.size + 1 + 1) 1 _ _ (.int .i64 0) q12
  have q16 := (Below.heap_setCell (((((w1.setCell ⟨w.heap.size + 1, 0, none⟩ (.int .i64 0)).setCell ⟨w.heap.size + 1, 1, none⟩ (.int .i64 0)).setCell ⟨w.heap.size + 1, 2, none⟩ (.int .i64 0)).setCell ⟨w.heap.size + 1 + 1, 0, none⟩ (.int .i64 0)).setCell ⟨w.heap.size + 1 + 1, 1, none⟩ (.int .i64 0)) ⟨w.heap.size + 1 + 1, 2, none⟩ (.int .i64 0) (w.heap.size) (by first | omega | assumption | (apply Ne.symm; assumption) | (simp; done) | (simp; omega))).trans q13
  have q17 := (Below.heap_setCell (((((w1.setCell ⟨w.heap.size + 1, 0, none⟩ (.int .i64 0)).setCell ⟨w.heap.size + 1, 1, none⟩ (.int .i64 0)).setCell ⟨w.heap.size + 1, 2, none⟩ (.int .i64 0)).setCell ⟨w.heap.size + 1 + 1, 0, none⟩ (.int .i64 0)).setCell ⟨w.heap.size + 1 + 1, 1, none⟩ (.int .i64 0)) ⟨w.heap.size + 1 + 1, 2, none⟩ (.int .i64 0) (w.heap.size + 1) (by first | omega | assumption | (apply Ne.symm; assumption) | (simp; done) | (simp; omega))).trans q14
  have q18 := heap_setCell_same (((((w1.setCell ⟨w.heap.size + 1, 0, none⟩ (.int .i64 0)).setCell ⟨w.heap.size + 1, 1, none⟩ (.int .i64 0)).setCell ⟨w.heap.size + 1, 2, none⟩ (.int .i64 0)).setCell ⟨w.heap.size + 1 + 1, 0, none⟩ (.int .i64 0)).setCell ⟨w.heap.size + 1 + 1, 1, none⟩ (.int .i64 0)) (w.heap.size + 1 + 1) 2 _ _ (.int .i64 0) q15
  have q19 := (Below.heap_setCell ((((((w1.setCell ⟨w.heap.size + 1, 0, none⟩ (.int .i64 0)).setCell ⟨w.heap.size + 1, 1, none⟩ (.int .i64 0)).setCell ⟨w.heap.size + 1, 2, none⟩ (.int .i64 0)).setCell ⟨w.heap.size + 1 + 1, 0, none⟩ (.int .i64 0)).setCell ⟨w.heap.size + 1 + 1, 1, none⟩ (.int .i64 0)).setCell ⟨w.heap.size + 1 + 1, 2, none⟩ (.int .i64 0)) ⟨w.heap.size + 1 + 1, 3, none⟩ (.int .i64 0) (w.heap.size) (by first | omega | assumption | (apply Ne.symm; assumption) | (simp; done) | (simp; omega))).trans q16
  have q20 := (Below.heap_setCell ((((((w1.setCell ⟨w.heap.size + 1, 0, none⟩ (.int .i64 0)).setCell ⟨w.heap.size + 1, 1, none⟩ (.int .i64 0)).setCell ⟨w.heap.size + 1, 2, none⟩ (.int .i64 0)).setCell ⟨w.heap.size + 1 + 1, 0, none⟩ (.int .i64 0)).setCell ⟨w.heap.size + 1 + 1, 1, none⟩ (.int .i64 0)).setCell ⟨w.heap.size + 1 + 1, 2, none⟩ (.int .i64 0)) ⟨w.heap.size + 1 + 1, 3, none⟩ (.int .i64 0) (w.heap.size + 1) (by first | omega | assumption | (apply Ne.symm; assumption) | (simp; done) | (simp; omega))).trans q17
  have q21 := heap_setCell_same ((((((w1.setCell ⟨w.heap.size + 1, 0, none⟩ (.int .i64 0)).setCell ⟨w.heap.size + 1, 1, none⟩ (.int .i64 0)).setCell ⟨w.heap.size + 1, 2, none⟩ (.int .i64 0)).setCell ⟨w.heap.size + 1 + 1, 0, none⟩ (.int .i64 0)).setCell ⟨w.heap.size + 1 + 1, 1, none⟩ (.int .i64 0)).setCell ⟨w.heap.size + 1 + 1, 2, none⟩ (.int .i64 0)) (w.heap.size + 1 + 1) 3 _ _ (.int .i64 0) q18
  obtain ⟨w2, hw2⟩ : ∃ W, W = (((((((w1.setCell ⟨w.heap.size + 1, 0, none⟩ (.int .i64 0)).setCell ⟨w.heap.size + 1, 1, none⟩ (.int .i64 0)).setCell ⟨w.heap.size + 1, 2, none⟩ (.int .i64 0)).setCell ⟨w.heap.size + 1 + 1, 0, none⟩ (.int .i64 0)).setCell ⟨w.heap.size + 1 + 1, 1, none⟩ (.int .i64 0)).setCell ⟨w.heap.size + 1 + 1, 2, none⟩ (.int .i64 0)).setCell ⟨w.heap.size + 1 + 1, 3, none⟩ (.int .i64 0)) := ⟨_, rfl⟩
  rw [← hw2]
  replace h0 : w2.heap[w.heap.size]? = some (.cells #[.int .i64 l.a, .int .i64 l.b, .int .i64 l.c] 23 (0, 0)) := by rw [hw2]; exact q19
  replace h1 : w2.heap[w.heap.size + 1]? = some (.cells #[.int .i64 0, .int .i64 0, .int .i64 0] 23 (0, 0)) := by rw [hw2]; exact q20
  replace h2 : w2.heap[w.heap.size + 1 + 1]? = some (.cells #[.int .i64 0, .int .i64 0, .int .i64 0, .int .i64 0] 40 (0, 0)) := by rw [hw2]; exact q21
  have D2 := Lib.hid (show Below w.heap.size w w2 by rw [hw2]; exact (Below.setCell (Below.setCell (Below.setCell (Below.setCell (Below.setCell (Below.setCell (Below.setCell D1.out (p := ⟨w.heap.size + 1, 0, none⟩) (by first | omega | (simp; done) | (simp; omega)) (.int .i64 0)) (p := ⟨w.heap.size + 1, 1, none⟩) (by first | omega | (simp; done) | (simp; omega)) (.int .i64 0)) (p := ⟨w.heap.size + 1, 2, none⟩) (by first | omega | (simp; done) | (simp; omega)) (.int .i64 0)) (p := ⟨w.heap.size + 1 + 1, 0, none⟩) (by first | omega | (simp; done) | (simp; omega)) (.int .i64 0)) (p := ⟨w.heap.size + 1 + 1, 1, none⟩) (by first | omega | (simp; done) | (simp; omega)) (.int .i64 0)) (p := ⟨w.heap.size + 1 + 1, 2, none⟩) (by first | omega | (simp; done) | (simp; omega)) (.int .i64 0)) (p := ⟨w.heap.size + 1 + 1, 3, none⟩) (by first | omega | (simp; done) | (simp; omega)) (.int .i64 0)))
  have z2 := D2.out.size
  have y2 : w2.heap.size = w1.heap.size := by rw [hw2]; simp
  clear q21 q20 q19 q18 q17 q16 q15 q14 q13 q12 q11 q10 q9 q8 q7 q6 q5 q4 q3 q2 q1 hw2
  try clear c0_0
  have c0_0 := cell_of_heap h0 (j := 0) rfl
  try clear f0_0
  have f0_0 := frozen_of_heap h0 0
  try clear c0_1
  have c0_1 := cell_of_heap h0 (j := 1) rfl
  try clear f0_1
  have f0_1 := frozen_of_heap h0 1
  try clear c0_2
  have c0_2 := cell_of_heap h0 (j := 2) rfl
  try clear f0_2
  have f0_2 := frozen_of_heap h0 2
  try clear c1_0
  have c1_0 := cell_of_heap h1 (j := 0) rfl
  try clear f1_0
  have f1_0 := frozen_of_heap h1 0
  try clear c1_1
  have c1_1 := cell_of_heap h1 (j := 1) rfl
  try clear f1_1
  have f1_1 := frozen_of_heap h1 1
  try clear c1_2
  have c1_2 := cell_of_heap h1 (j := 2) rfl
  try clear f1_2
  have f1_2 := frozen_of_heap h1 2
  try clear c2_0
  have c2_0 := cell_of_heap h2 (j := 0) rfl
  try clear f2_0
  have f2_0 := frozen_of_heap h2 0
  try clear c2_1
  have c2_1 := cell_of_heap h2 (j := 1) rfl
  try clear f2_1
  have f2_1 := frozen_of_heap h2 1
  try clear c2_2
  have c2_2 := cell_of_heap h2 (j := 2) rfl
  try clear f2_2
  have f2_2 := frozen_of_heap h2 2
  try clear c2_3
  have c2_3 := cell_of_heap h2 (j := 3) rfl
  try clear f2_3
  have f2_3 := frozen_of_heap h2 3
  refine bodyPost_ret (results_bbt rfl _ _ (w.heap.size + 1) (w.heap.size + 1 + 1) rfl rfl rfl h1 h2 Tryd.underlying23 rfl (by kernel_rfl) Tryd.underlying40 rfl (by kernel_rfl)) rfl ⟨rfl, D2.out⟩
set_option maxHeartbeats 2000000 in
set_option maxRecDepth 100000 in
theorem Reduce_ok (l : Lat) (hl : Ok l) (w : World) (g : Glob w) : Calls Tryd.prog 37 #[l.val] w fun e w' => ∃ L m, e = .returned (.tuple #[L.val, m.val, .int .i64 0]) ∧ IsRed l L m ∧ Below w.heap.size w w' := by
  have C0 := fun W => validLattice_any l W
  rw [(okL_iff l).2 hl] at C0
  have C1 := fun W g => leaders_any l hl W g
  have Hl := Lib.hid hl
  have HG := Lib.hid g
  clear hl g
  unfold Lat.val at *
  have H0 := Lib.hid C0
  have H1 := Lib.hid C1
  clear C0 C1
  go_enter Tryd.func37, Tryd.ntmps37
  go_wp2_with fail
  go_wp2_with fail
  refine (H0.out _).mono ?_
  rintro e w1 ⟨rfl, hb⟩
  have h0 : w1.heap[w.heap.size]? = some (.cells #[.int .i64 l.a, .int .i64 l.b, .int .i64 l.c] 23 (0, 0)) := hb_below hb (by repeat (first | (refine hb_new ?_; (first | omega | (simp; omega) | (simp; done))) | (refine hb_old ?_ ?_; rotate_left; focus (first | omega | (simp; omega) | (simp; done))) | refine hb_drew ?_)) (by first | omega | (simp; omega) | (simp; done))
  have h1 : w1.heap[w.heap.size + 1]? = some (.cells #[.int .i64 0, .int .i64 0, .int .i64 0] 23 (0, 0)) := hb_below hb (by repeat (first | (refine hb_new ?_; (first | omega | (simp; omega) | (simp; done))) | (refine hb_old ?_ ?_; rotate_left; focus (first | omega | (simp; omega) | (simp; done))) | refine hb_drew ?_)) (by first | omega | (simp; omega) | (simp; done))
  have h2 : w1.heap[w.heap.size + 1 + 1]? = some (.cells #[.int .i64 0, .int .i64 0, .int .i64 0, .int .i64 0] 40 (0, 0)) := hb_below hb (by repeat (first | (refine hb_new ?_; (first | omega | (simp; omega) | (simp; done))) | (refine hb_old ?_ ?_; rotate_left; focus (first | omega | (simp; omega) | (simp; done))) | refine hb_drew ?_)) (by first | omega | (simp; omega) | (simp; done))
  have y1 := Below.size hb
  try simp only [World.size_alloc, World.size_drew] at y1
  have D1 := Lib.hid (show Below w.heap.size w w1 from Below.trans (by repeat (first | exact Below.refl _ _ | refine Below.alloc ?_ (by first | omega | (simp; omega) | (simp; done)) _)) (Below.mono hb (by first | omega | (simp; omega) | (simp; done))))
  have z1 := D1.out.size
  clear hb
  try clear c0_0
  have c0_0 := cell_of_heap h0 (j := 0) rfl
  try clear f0_0
  have f0_0 := frozen_of_heap h0 0
  try clear c0_1
  have c0_1 := cell_of_heap h0 (j := 1) rfl
  try clear f0_1
  have f0_1 := frozen_of_heap h0 1
  try clear c0_2
  have c0_2 := cell_of_heap h0 (j := 2) rfl
  try clear f0_2
  have f0_2 := frozen_of_heap h0 2
  try clear c1_0
  have c1_0 := cell_of_heap h1 (j := 0) rfl
  try clear f1_0
  have f1_0 := frozen_of_heap h1 0
  try clear c1_1
  have c1_1 := cell_of_heap h1 (j := 1) rfl
  try clear f1_1
  have f1_1 := frozen_of_heap h1 1
  try clear c1_2
  have c1_2 := cell_of_heap h1 (j := 2) rfl
  try clear f1_2
  have f1_2 := frozen_of_heap h1 2
  try clear c2_0
  have c2_0 := cell_of_heap h2 (j := 0) rfl
  try clear f2_0
  have f2_0 := frozen_of_heap h2 0
  try clear c2_1
  have c2_1 := cell_of_heap h2 (j := 1) rfl
  try clear f2_1
  have f2_1 := frozen_of_heap h2 1
  try clear c2_2
  have c2_2 := cell_of_heap h2 (j := 2) rfl
  try clear f2_2
  have f2_2 := frozen_of_heap h2 2
  try clear c2_3
  have c2_3 := cell_of_heap h2 (j := 3) rfl
  try clear f2_3
  have f2_3 := frozen_of_heap h2 3
  go_wp2_with fail
  refine (H1.out _ (HG.out.next D1.out)).mono ?_
  rintro e w2 ⟨L, M, ao, cap, rfl, hL, hfr, hb⟩
  replace h0 : w2.heap[w.heap.size]? = some (.cells #[.int .i64 l.a, .int .i64 l.b, .int .i64 l.c] 23 (0, 0)) := hb_below hb (by repeat (first | exact h0 | (refine hb_new ?_; (first | omega | (simp; omega) | (simp; done))) | (refine hb_old ?_ ?_; rotate_left; focus (first | omega | (simp; omega) | (simp; done))) | refine hb_drew ?_)) (by first | omega | (simp; omega) | (simp; done))
  replace h1 : w2.heap[w.heap.size + 1]? = some (.cells #[.int .i64 0, .int .i64 0, .int .i64 0] 23 (0, 0)) := hb_below hb (by repeat (first | exact h1 | (refine hb_new ?_; (first | omega | (simp; omega) | (simp; done))) | (refine hb_old ?_ ?_; rotate_left; focus (first | omega | (simp; omega) | (simp; done))) | refine hb_drew ?_)) (by first | omega | (simp; omega) | (simp; done))
  replace h2 : w2.heap[w.heap.size + 1 + 1]? = some (.cells #[.int .i64 0, .int .i64 0, .int .i64 0, .int .i64 0] 40 (0, 0)) := hb_below hb (by repeat (first | exact h2 | (refine hb_new ?_; (first | omega | (simp; omega) | (simp; done))) | (refine hb_old ?_ ?_; rotate_left; focus (first | omega | (simp; omega) | (simp; done))) | refine hb_drew ?_)) (by first | omega | (simp; omega) | (simp; done))
  have y2 := Below.size hb
  try simp only [World.size_alloc, World.size_drew] at y2
  have D2 := Lib.hid (show Below w.heap.size w w2 from Below.trans (by repeat (first | exact D1.out | exact Below.refl _ _ | refine Below.alloc ?_ (by first | omega | (simp; omega) | (simp; done)) _)) (Below.mono hb (by first | omega | (simp; omega) | (simp; done))))
  have z2 := D2.out.size
  clear hb
  try clear c0_0
  have c0_0 := cell_of_heap h0 (j := 0) rfl
  try clear f0_0
  have f0_0 := frozen_of_heap h0 0
  try clear c0_1
  have c0_1 := cell_of_heap h0 (j := 1) rfl
  try clear f0_1
  have f0_1 := frozen_of_heap h0 1
  try clear c0_2
  have c0_2 := cell_of_heap h0 (j := 2) rfl
  try clear f0_2
  have f0_2 := frozen_of_heap h0 2
  try clear c1_0
  have c1_0 := cell_of_heap h1 (j := 0) rfl
  try clear f1_0
  have f1_0 := frozen_of_heap h1 0
  try clear c1_1
  have c1_1 := cell_of_heap h1 (j := 1) rfl
  try clear f1_1
  have f1_1 := frozen_of_heap h1 1
  try clear c1_2
  have c1_2 := cell_of_heap h1 (j := 2) rfl
  try clear f1_2
  have f1_2 := frozen_of_heap h1 2
  try clear c2_0
  have c2_0 := cell_of_heap h2 (j := 0) rfl
  try clear f2_0
  have f2_0 := frozen_of_heap h2 0
  try clear c2_1
  have c2_1 := cell_of_heap h2 (j := 1) rfl
  try clear f2_1
  have f2_1 := frozen_of_heap h2 1
  try clear c2_2
  have c2_2 := cell_of_heap h2 (j := 2) rfl
  try clear f2_2
  have f2_2 := frozen_of_heap h2 2
  try clear c2_3
  have c2_3 := cell_of_heap h2 (j := 3) rfl
  try clear f2_3
  have f2_3 := frozen_of_heap h2 3
  obtain ⟨R, hR⟩ : ∃ R, R = (keepL L 81).map fun k => M.times k := ⟨_, rfl⟩
  rw [← hR] at hfr
  have hRl : (keepL L 81).length = R.length := by rw [hR, List.length_map]
  have hlen := keepL_len hL.1
  have hall : ∀ m, led l m = L ↔ m ∈ R := fun m => by
    rw [lead_iff hL.2.2.1 hL.2.2.2, hR, List.mem_map]
    exact ⟨fun ⟨k, h1, h2⟩ => ⟨k, (mem_keepL hL.1 k).2 h1, h2.symm⟩, fun ⟨k, h1, h2⟩ => ⟨k, (mem_keepL hL.1 k).1 h1, h2.symm⟩⟩
  have hunit : ∀ m ∈ R, Unit1 m := fun m hm => by
    rw [hR, List.mem_map] at hm
    obtain ⟨k, h1, rfl⟩ := hm
    exact unit_times hL.2.2.1 (unit_of_led hL.2.1.2.2.2.2.2.2 rfl ((mem_keepL hL.1 k).1 h1))
  rw [hRl] at hlen ⊢
  have hpos : 0 < R.length := by omega
  obtain ⟨a, ha⟩ : ∃ a, R[0]? = some a := ⟨_, List.getElem?_eq_getElem hpos⟩
  obtain ⟨hcm, hcl⟩ := cur_min ha
  have hIs : IsRed l L (cur a R R.length) := ⟨hL.1, hL.2.1, hunit _ hcm, lead_ok Hl.out (r := L) ⟨hL.2.1.2.1, hL.2.1.2.2.2.2.2.1⟩ ((hall _).2 hcm), (hall _).2 hcm, fun m' hm' => hcl m' ((hall m').1 hm')⟩
  have HI := Lib.hid hIs
  have hcap := hfr.le
  have hnl : R.length ≤ 100 := by omega
  clear hR hRl hlen hall hunit hpos hcm hcl hIs hL
  
  go_wp2_with fail
  have hfr2 : FR w1.heap.size (((w2.setCell ⟨w.heap.size, 0, none⟩ (.int .i64 L.a)).setCell ⟨w.heap.size, 1, none⟩ (.int .i64 L.b)).setCell ⟨w.heap.size, 2, none⟩ (.int .i64 L.c)) ao cap R := hfr.keep (by simp) (fun b hb => by rw [Below.heap_setCell _ _ _ _ (by show b ≠ w.heap.size; omega), Below.heap_setCell _ _ _ _ (by show b ≠ w.heap.size; omega), Below.heap_setCell _ _ _ _ (by show b ≠ w.heap.size; omega)])
  clear hfr
  have q1 := heap_setCell_same w2 (w.heap.size) 0 _ _ (.int .i64 L.a) h0
  have q2 := (Below.heap_setCell w2 ⟨w.heap.size, 0, none⟩ (.int .i64 L.a) (w.heap.size + 1) (by first | omega | assumption | (apply Ne.symm; assumption) | (simp; done) | (simp; omega))).trans h1
  have q3 := (Below.heap_setCell w2 ⟨w.heap.size, 0, none⟩ (.int .i64 L.a) (w.heap.size + 1 + 1) (by first | omega | assumption | (apply Ne.symm; assumption) | (simp; done) | (simp; omega))).trans h2
  have q4 := heap_setCell_same (w2.setCell ⟨w.heap.size, 0, none⟩ (.int .i64 L.a)) (w.heap.size) 1 _ _ (.int .i64 L.b) q1
  have q5 := (Below.heap_setCell (w2.setCell ⟨w.heap.size, 0, none⟩ (.int .i64 L.a)) ⟨w.heap.size, 1, none⟩ (.int .i64 L.b) (w.heap.size + 1) (by first | omega | assumption | (apply Ne.symm; assumption) | (simp; done) | (simp; omega))).trans q2
  have q6 := (Below.heap_setCell (w2.setCell ⟨w.heap.size, 0, none⟩ (.int .i64 L.a)) ⟨w.heap.size, 1, none⟩ (.int .i64 L.b) (w.heap.size + 1 + 1) (by first | omega | assumption | (apply Ne.symm; assumption) | (simp; done) | (simp; omega))).trans q3
  have q7 := heap_setCell_same ((w2.setCell ⟨w.heap.size, 0, none⟩ (.int .i64 L.a)).setCell ⟨w.heap.size, 1, none⟩ (.int .i64 L.b)) (w.heap.size) 2 _ _ (.int .i64 L.c) q4
  have q8 := (Below.heap_setCell ((w2.setCell ⟨w.heap.size, 0, none⟩ (.int .i64 L.a)).setCell ⟨w.heap.size, 1, none⟩ (.int .i64 L.b)) ⟨w.heap.size, 2, none⟩ (.int .i64 L.c) (w.heap.size + 1) (by first | omega | assumption | (apply Ne.symm; assumption) | (simp; done) | (simp; omega))).trans q5
  have q9 := (Below.heap_setCell ((w2.setCell ⟨w.heap.size, 0, none⟩ (.int .i64 L.a)).setCell ⟨w.heap.size, 1, none⟩ (.int .i64 L.b)) ⟨w.heap.size, 2, none⟩ (.int .i64 L.c) (w.heap.size + 1 + 1) (by first | omega | assumption | (apply Ne.symm; assumption) | (simp; done) | (simp; omega))).trans q6
  obtain ⟨w3, hw3⟩ : ∃ W, W = (((w2.setCell ⟨w.heap.size, 0, none⟩ (.int .i64 L.a)).setCell ⟨w.heap.size, 1, none⟩ (.int .i64 L.b)).setCell ⟨w.heap.size, 2, none⟩ (.int .i64 L.c)) := ⟨_, rfl⟩
  rw [← hw3] at hfr2 ⊢
  replace h0 : w3.heap[w.heap.size]? = some (.cells #[.int .i64 L.a, .int .i64 L.b, .int .i64 L.c] 23 (0, 0)) := by rw [hw3]; exact q7
  replace h1 : w3.heap[w.heap.size + 1]? = some (.cells #[.int .i64 0, .int .i64 0, .int .i64 0] 23 (0, 0)) := by rw [hw3]; exact q8
  replace h2 : w3.heap[w.heap.size + 1 + 1]? = some (.cells #[.int .i64 0, .int .i64 0, .int .i64 0, .int .i64 0] 40 (0, 0)) := by rw [hw3]; exact q9
  have D3 := Lib.hid (show Below w.heap.size w w3 by rw [hw3]; exact (Below.setCell (Below.setCell (Below.setCell D2.out (p := ⟨w.heap.size, 0, none⟩) (by first | omega | (simp; done) | (simp; omega)) (.int .i64 L.a)) (p := ⟨w.heap.size, 1, none⟩) (by first | omega | (simp; done) | (simp; omega)) (.int .i64 L.b)) (p := ⟨w.heap.size, 2, none⟩) (by first | omega | (simp; done) | (simp; omega)) (.int .i64 L.c)))
  have z3 := D3.out.size
  have y3 : w3.heap.size = w2.heap.size := by rw [hw3]; simp
  clear q9 q8 q7 q6 q5 q4 q3 q2 q1 hw3
  try clear c0_0
  have c0_0 := cell_of_heap h0 (j := 0) rfl
  try clear f0_0
  have f0_0 := frozen_of_heap h0 0
  try clear c0_1
  have c0_1 := cell_of_heap h0 (j := 1) rfl
  try clear f0_1
  have f0_1 := frozen_of_heap h0 1
  try clear c0_2
  have c0_2 := cell_of_heap h0 (j := 2) rfl
  try clear f0_2
  have f0_2 := frozen_of_heap h0 2
  try clear c1_0
  have c1_0 := cell_of_heap h1 (j := 0) rfl
  try clear f1_0
  have f1_0 := frozen_of_heap h1 0
  try clear c1_1
  have c1_1 := cell_of_heap h1 (j := 1) rfl
  try clear f1_1
  have f1_1 := frozen_of_heap h1 1
  try clear c1_2
  have c1_2 := cell_of_heap h1 (j := 2) rfl
  try clear f1_2
  have f1_2 := frozen_of_heap h1 2
  try clear c2_0
  have c2_0 := cell_of_heap h2 (j := 0) rfl
  try clear f2_0
  have f2_0 := frozen_of_heap h2 0
  try clear c2_1
  have c2_1 := cell_of_heap h2 (j := 1) rfl
  try clear f2_1
  have f2_1 := frozen_of_heap h2 1
  try clear c2_2
  have c2_2 := cell_of_heap h2 (j := 2) rfl
  try clear f2_2
  have f2_2 := frozen_of_heap h2 2
  try clear c2_3
  have c2_3 := cell_of_heap h2 (j := 3) rfl
  try clear f2_3
  have f2_3 := frozen_of_heap h2 3
  try clear c0_0
  try clear f0_0
  try clear c0_1
  try clear f0_1
  try clear c0_2
  try clear f0_2
  try clear c1_0
  try clear f1_0
  try clear c1_1
  try clear f1_1
  try clear c1_2
  try clear f1_2
  try clear c2_0
  try clear f2_0
  try clear c2_1
  try clear f2_1
  try clear c2_2
  try clear f2_2
  try clear c2_3
  try clear f2_3
  have hms := hfr2.ms
  have CM := fun W (hb : Below w3.heap.size w3 W) => MinFunc_any (hms.below hb) ha hnl hcap
  generalize cur a R R.length = m at *
  unfold Mat.val at CM
  have HM := Lib.hid CM
  clear CM hms ha hfr2
  refine wp_region_class (fun w' => Below w3.heap.size w3 w') 3 (by kernel_rfl) (by kernel_rfl) (Below.refl _ w3).drew ?_
  simp only [List.take_succ_cons, List.take_zero, List.drop_succ_cons, List.drop_zero]
  refine quiet_load_mid rfl _ _ rfl _ _ rfl _ _ (fun w' h => range_of_heap (hb_below h h0 (by omega))) Tryd.underlying23 rfl (by kernel_rfl) ?_
  simp only [Act.put, List.setIfInBounds_toArray, List.set_cons_zero, List.set_cons_succ]
  refine quiet_move rfl _ rfl ?_
  simp only [Act.put, List.setIfInBounds_toArray, List.set_cons_zero, List.set_cons_succ]
  refine quiet_call rfl 79 _ _ rfl (enter_of Tryd.func79 (by decide) (by intro h; cases h)) _ (fun w' h => (HM.out w' h).mono fun e w2 ⟨he, hb⟩ => ⟨he, h.trans (hb.mono h.size)⟩) ?_
  simp only [Act.put, List.setIfInBounds_toArray, List.set_cons_zero, List.set_cons_succ]
  intro w4 hb
  replace h0 : w4.heap[w.heap.size]? = some (.cells #[.int .i64 L.a, .int .i64 L.b, .int .i64 L.c] 23 (0, 0)) := hb_below hb (by repeat (first | exact h0 | (refine hb_new ?_; (first | omega | (simp; omega) | (simp; done))) | (refine hb_old ?_ ?_; rotate_left; focus (first | omega | (simp; omega) | (simp; done))) | refine hb_drew ?_)) (by first | omega | (simp; omega) | (simp; done))
  replace h1 : w4.heap[w.heap.size + 1]? = some (.cells #[.int .i64 0, .int .i64 0, .int .i64 0] 23 (0, 0)) := hb_below hb (by repeat (first | exact h1 | (refine hb_new ?_; (first | omega | (simp; omega) | (simp; done))) | (refine hb_old ?_ ?_; rotate_left; focus (first | omega | (simp; omega) | (simp; done))) | refine hb_drew ?_)) (by first | omega | (simp; omega) | (simp; done))
  replace h2 : w4.heap[w.heap.size + 1 + 1]? = some (.cells #[.int .i64 0, .int .i64 0, .int .i64 0, .int .i64 0] 40 (0, 0)) := hb_below hb (by repeat (first | exact h2 | (refine hb_new ?_; (first | omega | (simp; omega) | (simp; done))) | (refine hb_old ?_ ?_; rotate_left; focus (first | omega | (simp; omega) | (simp; done))) | refine hb_drew ?_)) (by first | omega | (simp; omega) | (simp; done))
  have y4 := Below.size hb
  try simp only [World.size_alloc, World.size_drew] at y4
  have D4 := Lib.hid (show Below w.heap.size w w4 from Below.trans (by repeat (first | exact D3.out | exact Below.refl _ _ | refine Below.alloc ?_ (by first | omega | (simp; omega) | (simp; done)) _)) (Below.mono hb (by first | omega | (simp; omega) | (simp; done))))
  have z4 := D4.out.size
  clear hb
  refine store_row rfl _ _ _ rfl (w.heap.size + 1) _ rfl rfl _ _ h1 (by kernel_rfl) rfl (by kernel_rfl) ?_
  intro w5 hn hk hz hB
  simp only [Act.put, List.setIfInBounds_toArray, List.set_cons_zero, List.set_cons_succ]
  replace h0 := hk _ _ h0 (by first | omega | assumption | (apply Ne.symm; assumption) | (simp; done) | (simp; omega))
  replace h1 : w5.heap[w.heap.size + 1]? = some (.cells #[.int .i64 L.a, .int .i64 L.b, .int .i64 L.c] 23 (0, 0)) := hn
  replace h2 := hk _ _ h2 (by first | omega | assumption | (apply Ne.symm; assumption) | (simp; done) | (simp; omega))
  have D5 := Lib.hid (hB _ _ D4.out (by first | omega | (simp; omega)))
  have z5 := D5.out.size
  have y5 : w5.heap.size = w4.heap.size := hz
  clear hn hk hz hB
  refine store_row rfl _ _ _ rfl (w.heap.size + 1 + 1) _ rfl rfl _ _ h2 (by kernel_rfl) rfl (by kernel_rfl) ?_
  intro w6 hn hk hz hB
  simp only [Act.put, List.setIfInBounds_toArray, List.set_cons_zero, List.set_cons_succ]
  replace h0 := hk _ _ h0 (by first | omega | assumption | (apply Ne.symm; assumption) | (simp; done) | (simp; omega))
  replace h1 := hk _ _ h1 (by first | omega | assumption | (apply Ne.symm; assumption) | (simp; done) | (simp; omega))
  replace h2 : w6.heap[w.heap.size + 1 + 1]? = some (.cells #[.int .i64 m.a, .int .i64 m.b, .int .i64 m.c, .int .i64 m.d] 40 (0, 0)) := hn
  have D6 := Lib.hid (hB _ _ D5.out (by first | omega | (simp; omega)))
  have z6 := D6.out.size
  have y6 : w6.heap.size = w5.heap.size := hz
  clear hn hk hz hB
  go_wp2_with fail
  refine bodyPost_ret (results_bbt rfl _ _ (w.heap.size + 1) (w.heap.size + 1 + 1) rfl rfl rfl h1 h2 Tryd.underlying23 rfl (by kernel_rfl) Tryd.underlying40 rfl (by kernel_rfl)) rfl ⟨L, m, rfl, HI.out, D6.out⟩
end Go.Proofs.YtehpgmhilcoalaaDoor
