/- inverse, better, compare. -/
import Derived.Test.YtehpgmhilcoalaaDoorGM
namespace Go.Proofs.YtehpgmhilcoalaaDoor
open Go.RowKit Go.Lib
set_option linter.unusedSimpArgs false
set_option linter.unusedVariables false
def BetV (l : Lat) : Option Mat :=
  if l.c < l.a then some ⟨0, 1, 1, 0⟩ else if l.b < 0 then some ⟨1, 0, 0, -1⟩ else if l.a < 2 * l.b then some ⟨1, -((2 * l.b + l.a).tdiv (2 * l.a)), 0, 1⟩ else none
set_option maxHeartbeats 1000000 in
set_option maxRecDepth 100000 in
theorem inverse_any (m : Mat) (w : World) : Calls Tryd.prog 63 #[m.val] w fun e w' => e = .returned (m.inv.w.val) ∧ Below w.heap.size w w' := by
  have C1 := fun W => determinant_any m W
  have e : m.inv.w = ⟨wrap64 (wrap64 m.det * m.d), wrap64 (wrap64 (-wrap64 m.det) * m.b), wrap64 (wrap64 (-wrap64 m.det) * m.c), wrap64 (wrap64 m.det * m.a)⟩ := by
    simp only [Mat.inv, Mat.w, wrap64_ml, wrap64_n]
  rw [e]
  clear e
  generalize wrap64 m.det = dd at *
  unfold Mat.val at *
  have H1 := Lib.hid C1
  clear C1
  go_enter Tryd.func63, Tryd.ntmps63
  go_wp2_with fail
  go_wp2_with fail
  refine (H1.out _).mono ?_
  rintro e w1 ⟨rfl, hb⟩
  have h0 : w1.heap[w.heap.size]? = some (.cells #[.int .i64 m.a, .int .i64 m.b, .int .i64 m.c, .int .i64 m.d] 40 (0, 0)) := hb_below hb (by repeat (first | (refine hb_new ?_; (first | omega | (simp; omega) | (simp; done))) | (refine hb_old ?_ ?_; rotate_left; focus (first | omega | (simp; omega) | (simp; done))) | refine hb_drew ?_)) (by first | omega | (simp; omega) | (simp; done))
  have h1 : w1.heap[w.heap.size + 1]? = some (.cells #[.int .i64 0, .int .i64 0, .int .i64 0, .int .i64 0] 40 (0, 0)) := hb_below hb (by repeat (first | (refine hb_new ?_; (first | omega | (simp; omega) | (simp; done))) | (refine hb_old ?_ ?_; rotate_left; focus (first | omega | (simp; omega) | (simp; done))) | refine hb_drew ?_)) (by first | omega | (simp; omega) | (simp; done))
  have y1 := Below.size hb
  try simp only [World.size_alloc, World.size_drew] at y1
  have D1 := Lib.hid (show Below w.heap.size w w1 from Below.trans (by repeat (first | exact Below.refl _ _ | refine Below.alloc ?_ (by first | omega | (simp; omega) | (simp; done)) _)) (Below.mono hb (by first | omega | (simp; omega) | (simp; done))))
  have z1 := D1.out.size
  clear hb
  try clear c0_0
  have c0_0 := cell_of_heap h0 (j := 0) rfl
  try clear f0_0
  have f0_0 := frozen_of_heap h0 0
  try clear c0_1
  have c0_1 := cell_of_heap h0 (j := 1) rfl
  try clear f0_1
  have f0_1 := frozen_of_heap h0 1
  try clear c0_2
  have c0_2 := cell_of_heap h0 (j := 2) rfl
  try clear f0_2
  have f0_2 := frozen_of_heap h0 2
  try clear c0_3
  have c0_3 := cell_of_heap h0 (j := 3) rfl
  try clear f0_3
  have f0_3 := frozen_of_heap h0 3
  try clear c1_0
  have c1_0 := cell_of_heap h1 (j := 0) rfl
  try clear f1_0
  have f1_0 := frozen_of_heap h1 0
  try clear c1_1
  have c1_1 := cell_of_heap h1 (j := 1) rfl
  try clear f1_1
  have f1_1 := frozen_of_heap h1 1
  try clear c1_2
  have c1_2 := cell_of_heap h1 (j := 2) rfl
  try clear f1_2
  have f1_2 := frozen_of_heap h1 2
  try clear c1_3
  have c1_3 := cell_of_heap h1 (j := 3) rfl
  try clear f1_3
  have f1_3 := frozen_of_heap h1 3
  go_wp2_with fail
  have q1 := (Below.heap_setCell w1 ⟨w.heap.size + 1, 0, none⟩ (.int .i64 (wrap64 (dd * m.d))) (w.heap.size) (by first | omega | assumption | (apply Ne.symm; assumption) | (simp; done) | (simp; omega))).trans h0
  have q2 := heap_setCell_same w1 (w.heap.size + 1) 0 _ _ (.int .i64 (wrap64 (dd * m.d))) h1
  have q3 := (Below.heap_setCell (w1.setCell ⟨w.heap.size + 1, 0, none⟩ (.int .i64 (wrap64 (dd * m.d)))) ⟨w.heap.size + 1, 1, none⟩ (.int .i64 (wrap64 (wrap64 (-dd) * m.b))) (w.heap.size) (by first | omega | assumption | (apply Ne.symm; assumption) | (simp; done) | (simp; omega))).trans q1
  have q4 := heap_setCell_same (w1.setCell ⟨w.heap.size + 1, 0, none⟩ (.int .i64 (wrap64 (dd * m.d)))) (w.heap.size + 1) 1 _ _ (.int .i64 (wrap64 (wrap64 (-dd) * m.b))) q2
  have q5 := (Below.heap_setCell ((w1.setCell ⟨w.heap.size + 1, 0, none⟩ (.int .i64 (wrap64 (dd * m.d)))).setCell ⟨w.heap.size + 1, 1, none⟩ (.int .i64 (wrap64 (wrap64 (-dd) * m.b)))) ⟨w.heap.size + 1, 2, none⟩ (.int .i64 (wrap64 (wrap64 (-dd) * m.c))) (w.heap.size) (by first | omega | assumption | (apply Ne.symm; assumption) | (simp; done) | (simp; omega))).trans q3
  have q6 := heap_setCell_same ((w1.setCell ⟨w.heap.size + 1, 0, none⟩ (.int .i64 (wrap64 (dd * m.d)))).setCell ⟨w.heap.size + 1, 1, none⟩ (.int .i64 (wrap64 (wrap64 (-dd) * m.b)))) (w.heap.size + 1) 2 _ _ (.int .i64 (wrap64 (wrap64 (-dd) * m.c))) q4
  have q7 := (Below.heap_setCell (((w1.setCell ⟨w.heap.size + 1, 0, none⟩ (.int .i64 (wrap64 (dd * m.d)))).setCell ⟨w.heap.size + 1, 1, none⟩ (.int .i64 (wrap64 (wrap64 (-dd) * m.b)))).setCell ⟨w.heap.size + 1, 2, none⟩ (.int .i64 (wrap64 (wrap64 (-dd) * m.c)))) ⟨w.heap.size + 1, 3, none⟩ (.int .i64 (wrap64 (dd * m.a))) (w.heap.size) (by first | omega | assumption | (apply Ne.symm; assumption) | (simp; done) | (simp; omega))).trans q5
  have q8 := heap_setCell_same (((w1.setCell ⟨w.heap.size + 1, 0, none⟩ (.int .i64 (wrap64 (dd * m.d)))).setCell ⟨w.heap.size + 1, 1, none⟩ (.int .i64 (wrap64 (wrap64 (-dd) * m.b)))).setCell ⟨w.heap.size + 1, 2, none⟩ (.int .i64 (wrap64 (wrap64 (-dd) * m.c)))) (w.heap.size + 1) 3 _ _ (.int .i64 (wrap64 (dd * m.a))) q6
  obtain ⟨w2, hw2⟩ : ∃ W, W = ((((w1.setCell ⟨w.heap.size + 1, 0, none⟩ (.int .i64 (wrap64 (dd * m.d)))).setCell ⟨w.heap.size + 1, 1, none⟩ (.int .i64 (wrap64 (wrap64 (-dd) * m.b)))).setCell ⟨w.heap.size + 1, 2, none⟩ (.int .i64 (wrap64 (wrap64 (-dd) * m.c)))).setCell ⟨w.heap.size + 1, 3, none⟩ (.int .i64 (wrap64 (dd * m.a)))) := ⟨_, rfl⟩
  rw [← hw2]
  replace h0 : w2.heap[w.heap.size]? = some (.cells #[.int .i64 m.a, .int .i64 m.b, .int .i64 m.c, .int .i64 m.d] 40 (0, 0)) := by rw [hw2]; exact q7
  replace h1 : w2.heap[w.heap.size + 1]? = some (.cells #[.int .i64 (wrap64 (dd * m.d)), .int .i64 (wrap64 (wrap64 (-dd) * m.b)), .int .i64 (wrap64 (wrap64 (-dd) * m.c)), .int .i64 (wrap64 (dd * m.a))] 40 (0, 0)) := by rw [hw2]; exact q8
  have D2 := Lib.hid (show Below w.heap.size w w2 by rw [hw2]; exact (by repeat (first | exact D1.out | refine Below.setCell ?_ (by first | omega | (simp; done) | (simp; omega)) _)))
  have z2 := D2.out.size
  have y2 : w2.heap.size = w1.heap.size := by rw [hw2]; simp
  clear q8 q7 q6 q5 q4 q3 q2 q1 hw2
  try clear c0_0
  have c0_0 := cell_of_heap h0 (j := 0) rfl
  try clear f0_0
  have f0_0 := frozen_of_heap h0 0
  try clear c0_1
  have c0_1 := cell_of_heap h0 (j := 1) rfl
  try clear f0_1
  have f0_1 := frozen_of_heap h0 1
  try clear c0_2
  have c0_2 := cell_of_heap h0 (j := 2) rfl
  try clear f0_2
  have f0_2 := frozen_of_heap h0 2
  try clear c0_3
  have c0_3 := cell_of_heap h0 (j := 3) rfl
  try clear f0_3
  have f0_3 := frozen_of_heap h0 3
  try clear c1_0
  have c1_0 := cell_of_heap h1 (j := 0) rfl
  try clear f1_0
  have f1_0 := frozen_of_heap h1 0
  try clear c1_1
  have c1_1 := cell_of_heap h1 (j := 1) rfl
  try clear f1_1
  have f1_1 := frozen_of_heap h1 1
  try clear c1_2
  have c1_2 := cell_of_heap h1 (j := 2) rfl
  try clear f1_2
  have f1_2 := frozen_of_heap h1 2
  try clear c1_3
  have c1_3 := cell_of_heap h1 (j := 3) rfl
  try clear f1_3
  have f1_3 := frozen_of_heap h1 3
  refine bodyPost_ret (results_cell_row rfl _ _ (w.heap.size + 1) _ _ (0, 0) _ rfl h1 Tryd.underlying40 rfl (by kernel_rfl)) rfl ⟨rfl, D2.out⟩
set_option maxHeartbeats 1000000 in
set_option maxRecDepth 100000 in
theorem better_any (l : Lat) (hl : Ok l) (w : World) : Calls Tryd.prog 91 #[l.val] w fun e w' => e = .returned (.tuple #[(match BetV l with | some m => m | none => ⟨0, 0, 0, 0⟩ : Mat).val, .bool (BetV l).isSome]) ∧ Below w.heap.size w w' := by
  obtain ⟨k1, k2, k3, k4, k5, k6, _⟩ := hl
  unfold Lat.val Mat.val
  obtain ⟨A, B, C⟩ := l
  simp only at *
  unfold BetV
  simp only
  by_cases q1 : C < A
  · rw [if_pos q1]
    simp only [Option.isSome]
    go_enter Tryd.func91, Tryd.ntmps91
    go_wp2_with fail
    go_wp2_with fail
    obtain ⟨w1, hw1⟩ : ∃ W, W = ((w.alloc (.cells #[.int .i64 A, .int .i64 B, .int .i64 C] 23)).alloc (.cells #[.int .i64 0, .int .i64 1, .int .i64 1, .int .i64 0] 40)) := ⟨_, rfl⟩
    rw [← hw1]
    have h0 : w1.heap[w.heap.size]? = some (.cells #[.int .i64 A, .int .i64 B, .int .i64 C] 23 (0, 0)) := by rw [hw1]; exact (by repeat (first | (refine hb_new ?_; (first | omega | (simp; omega) | (simp; done))) | (refine hb_old ?_ ?_; rotate_left; focus (first | omega | (simp; omega) | (simp; done))) | refine hb_drew ?_))
    have h1 : w1.heap[w.heap.size + 1]? = some (.cells #[.int .i64 0, .int .i64 1, .int .i64 1, .int .i64 0] 40 (0, 0)) := by rw [hw1]; exact (by repeat (first | (refine hb_new ?_; (first | omega | (simp; omega) | (simp; done))) | (refine hb_old ?_ ?_; rotate_left; focus (first | omega | (simp; omega) | (simp; done))) | refine hb_drew ?_))
    have hb : Below w.heap.size w w1 := by rw [hw1]; exact (by repeat (first | exact Below.refl _ _ | refine Below.alloc ?_ (by first | omega | (simp; omega) | (simp; done)) _ | refine Below.drew ?_))
    have s1 : w.heap.size + 1 + 1 ≤ w1.heap.size := by rw [hw1]; simp
    have y1 := Below.size hb
    try simp only [World.size_alloc, World.size_drew] at y1
    have D1 := Lib.hid (show Below w.heap.size w w1 from Below.trans (by repeat (first | exact Below.refl _ _ | refine Below.alloc ?_ (by first | omega | (simp; omega) | (simp; done)) _)) (Below.mono hb (by first | omega | (simp; omega) | (simp; done))))
    have z1 := D1.out.size
    clear hb hw1
    try clear c0_0
    have c0_0 := cell_of_heap h0 (j := 0) rfl
    try clear f0_0
    have f0_0 := frozen_of_heap h0 0
    try clear c0_1
    have c0_1 := cell_of_heap h0 (j := 1) rfl
    try clear f0_1
    have f0_1 := frozen_of_heap h0 1
    try clear c0_2
    have c0_2 := cell_of_heap h0 (j := 2) rfl
    try clear f0_2
    have f0_2 := frozen_of_heap h0 2
    try clear c1_0
    have c1_0 := cell_of_heap h1 (j := 0) rfl
    try clear f1_0
    have f1_0 := frozen_of_heap h1 0
    try clear c1_1
    have c1_1 := cell_of_heap h1 (j := 1) rfl
    try clear f1_1
    have f1_1 := frozen_of_heap h1 1
    try clear c1_2
    have c1_2 := cell_of_heap h1 (j := 2) rfl
    try clear f1_2
    have f1_2 := frozen_of_heap h1 2
    try clear c1_3
    have c1_3 := cell_of_heap h1 (j := 3) rfl
    try clear f1_3
    have f1_3 := frozen_of_heap h1 3
    refine bodyPost_ret (results_bt rfl _ _ (w.heap.size + 1) rfl rfl h1 Tryd.underlying40 rfl (by kernel_rfl)) rfl ⟨rfl, D1.out⟩
  · rw [if_neg q1]
    by_cases q2 : B < 0
    · rw [if_pos q2]
      simp only [Option.isSome]
      go_enter Tryd.func91, Tryd.ntmps91
      go_wp2_with fail
      go_wp2_with fail
      obtain ⟨w1, hw1⟩ : ∃ W, W = ((w.alloc (.cells #[.int .i64 A, .int .i64 B, .int .i64 C] 23)).alloc (.cells #[.int .i64 1, .int .i64 0, .int .i64 0, .int .i64 (-1)] 40)) := ⟨_, rfl⟩
      rw [← hw1]
      have h0 : w1.heap[w.heap.size]? = some (.cells #[.int .i64 A, .int .i64 B, .int .i64 C] 23 (0, 0)) := by rw [hw1]; exact (by repeat (first | (refine hb_new ?_; (first | omega | (simp; omega) | (simp; done))) | (refine hb_old ?_ ?_; rotate_left; focus (first | omega | (simp; omega) | (simp; done))) | refine hb_drew ?_))
      have h1 : w1.heap[w.heap.size + 1]? = some (.cells #[.int .i64 1, .int .i64 0, .int .i64 0, .int .i64 (-1)] 40 (0, 0)) := by rw [hw1]; exact (by repeat (first | (refine hb_new ?_; (first | omega | (simp; omega) | (simp; done))) | (refine hb_old ?_ ?_; rotate_left; focus (first | omega | (simp; omega) | (simp; done))) | refine hb_drew ?_))
      have hb : Below w.heap.size w w1 := by rw [hw1]; exact (by repeat (first | exact Below.refl _ _ | refine Below.alloc ?_ (by first | omega | (simp; omega) | (simp; done)) _ | refine Below.drew ?_))
      have s1 : w.heap.size + 1 + 1 ≤ w1.heap.size := by rw [hw1]; simp
      have y1 := Below.size hb
      try simp only [World.size_alloc, World.size_drew] at y1
      have D1 := Lib.hid (show Below w.heap.size w w1 from Below.trans (by repeat (first | exact Below.refl _ _ | refine Below.alloc ?_ (by first | omega | (simp; omega) | (simp; done)) _)) (Below.mono hb (by first | omega | (simp; omega) | (simp; done))))
      have z1 := D1.out.size
      clear hb hw1
      try clear c0_0
      have c0_0 := cell_of_heap h0 (j := 0) rfl
      try clear f0_0
      have f0_0 := frozen_of_heap h0 0
      try clear c0_1
      have c0_1 := cell_of_heap h0 (j := 1) rfl
      try clear f0_1
      have f0_1 := frozen_of_heap h0 1
      try clear c0_2
      have c0_2 := cell_of_heap h0 (j := 2) rfl
      try clear f0_2
      have f0_2 := frozen_of_heap h0 2
      try clear c1_0
      have c1_0 := cell_of_heap h1 (j := 0) rfl
      try clear f1_0
      have f1_0 := frozen_of_heap h1 0
      try clear c1_1
      have c1_1 := cell_of_heap h1 (j := 1) rfl
      try clear f1_1
      have f1_1 := frozen_of_heap h1 1
      try clear c1_2
      have c1_2 := cell_of_heap h1 (j := 2) rfl
      try clear f1_2
      have f1_2 := frozen_of_heap h1 2
      try clear c1_3
      have c1_3 := cell_of_heap h1 (j := 3) rfl
      try clear f1_3
      have f1_3 := frozen_of_heap h1 3
      refine bodyPost_ret (results_bt rfl _ _ (w.heap.size + 1) rfl rfl h1 Tryd.underlying40 rfl (by kernel_rfl)) rfl ⟨rfl, D1.out⟩
    · rw [if_neg q2]
      by_cases q3 : A < 2 * B
      · rw [if_pos q3]
        simp only [Option.isSome]
        have e1 : IntKind.i64.wrap (2 * B) = 2 * B := IntWalk.i64_in _ (by omega)
        have e2 : IntKind.i64.wrap (2 * B + A) = 2 * B + A := IntWalk.i64_in _ (by omega)
        have e3 : IntKind.i64.wrap (2 * A) = 2 * A := IntWalk.i64_in _ (by omega)
        have e4 : 0 ≤ (2 * B + A).tdiv (2 * A) := Int.tdiv_nonneg (by omega) (by omega)
        have e5 : (2 * B + A).tdiv (2 * A) ≤ 100000 := Int.le_trans (Int.tdiv_le_self _ (by omega)) (by omega)
        have e6 : IntKind.i64.wrap (-(2 * B + A).tdiv (2 * A)) = -(2 * B + A).tdiv (2 * A) := IntWalk.i64_in _ (by omega)
        have e7 : IntKind.i64.wrap ((2 * B + A).tdiv (2 * A)) = (2 * B + A).tdiv (2 * A) := IntWalk.i64_in _ (by omega)
        have e8 : ¬ 2 * A = 0 := by omega
        go_enter Tryd.func91, Tryd.ntmps91
        go_wp2_with fail
        go_wp2_with fail
        obtain ⟨w1, hw1⟩ : ∃ W, W = ((w.alloc (.cells #[.int .i64 A, .int .i64 B, .int .i64 C] 23)).alloc (.cells #[.int .i64 1, .int .i64 (-((2 * B + A).tdiv (2 * A))), .int .i64 0, .int .i64 1] 40)) := ⟨_, rfl⟩
        rw [← hw1]
        have h0 : w1.heap[w.heap.size]? = some (.cells #[.int .i64 A, .int .i64 B, .int .i64 C] 23 (0, 0)) := by rw [hw1]; exact (by repeat (first | (refine hb_new ?_; (first | omega | (simp; omega) | (simp; done))) | (refine hb_old ?_ ?_; rotate_left; focus (first | omega | (simp; omega) | (simp; done))) | refine hb_drew ?_))
        have h1 : w1.heap[w.heap.size + 1]? = some (.cells #[.int .i64 1, .int .i64 (-((2 * B + A).tdiv (2 * A))), .int .i64 0, .int .i64 1] 40 (0, 0)) := by rw [hw1]; exact (by repeat (first | (refine hb_new ?_; (first | omega | (simp; omega) | (simp; done))) | (refine hb_old ?_ ?_; rotate_left; focus (first | omega | (simp; omega) | (simp; done))) | refine hb_drew ?_))
        have hb : Below w.heap.size w w1 := by rw [hw1]; exact (by repeat (first | exact Below.refl _ _ | refine Below.alloc ?_ (by first | omega | (simp; omega) | (simp; done)) _ | refine Below.drew ?_))
        have s1 : w.heap.size + 1 + 1 ≤ w1.heap.size := by rw [hw1]; simp
        have y1 := Below.size hb
        try simp only [World.size_alloc, World.size_drew] at y1
        have D1 := Lib.hid (show Below w.heap.size w w1 from Below.trans (by repeat (first | exact Below.refl _ _ | refine Below.alloc ?_ (by first | omega | (simp; omega) | (simp; done)) _)) (Below.mono hb (by first | omega | (simp; omega) | (simp; done))))
        have z1 := D1.out.size
        clear hb hw1
        try clear c0_0
        have c0_0 := cell_of_heap h0 (j := 0) rfl
        try clear f0_0
        have f0_0 := frozen_of_heap h0 0
        try clear c0_1
        have c0_1 := cell_of_heap h0 (j := 1) rfl
        try clear f0_1
        have f0_1 := frozen_of_heap h0 1
        try clear c0_2
        have c0_2 := cell_of_heap h0 (j := 2) rfl
        try clear f0_2
        have f0_2 := frozen_of_heap h0 2
        try clear c1_0
        have c1_0 := cell_of_heap h1 (j := 0) rfl
        try clear f1_0
        have f1_0 := frozen_of_heap h1 0
        try clear c1_1
        have c1_1 := cell_of_heap h1 (j := 1) rfl
        try clear f1_1
        have f1_1 := frozen_of_heap h1 1
        try clear c1_2
        have c1_2 := cell_of_heap h1 (j := 2) rfl
        try clear f1_2
        have f1_2 := frozen_of_heap h1 2
        try clear c1_3
        have c1_3 := cell_of_heap h1 (j := 3) rfl
        try clear f1_3
        have f1_3 := frozen_of_heap h1 3
        refine bodyPost_ret (results_bt rfl _ _ (w.heap.size + 1) rfl rfl h1 Tryd.underlying40 rfl (by kernel_rfl)) rfl ⟨rfl, D1.out⟩
      · rw [if_neg q3]
        simp only [Option.isSome]
        have e1 : IntKind.i64.wrap (2 * B) = 2 * B := IntWalk.i64_in _ (by omega)
        go_enter Tryd.func91, Tryd.ntmps91
        go_wp2_with fail
        go_wp2_with fail
        obtain ⟨w1, hw1⟩ : ∃ W, W = ((w.alloc (.cells #[.int .i64 A, .int .i64 B, .int .i64 C] 23)).alloc (.cells #[.int .i64 0, .int .i64 0, .int .i64 0, .int .i64 0] 40)) := ⟨_, rfl⟩
        rw [← hw1]
        have h0 : w1.heap[w.heap.size]? = some (.cells #[.int .i64 A, .int .i64 B, .int .i64 C] 23 (0, 0)) := by rw [hw1]; exact (by repeat (first | (refine hb_new ?_; (first | omega | (simp; omega) | (simp; done))) | (refine hb_old ?_ ?_; rotate_left; focus (first | omega | (simp; omega) | (simp; done))) | refine hb_drew ?_))
        have h1 : w1.heap[w.heap.size + 1]? = some (.cells #[.int .i64 0, .int .i64 0, .int .i64 0, .int .i64 0] 40 (0, 0)) := by rw [hw1]; exact (by repeat (first | (refine hb_new ?_; (first | omega | (simp; omega) | (simp; done))) | (refine hb_old ?_ ?_; rotate_left; focus (first | omega | (simp; omega) | (simp; done))) | refine hb_drew ?_))
        have hb : Below w.heap.size w w1 := by rw [hw1]; exact (by repeat (first | exact Below.refl _ _ | refine Below.alloc ?_ (by first | omega | (simp; omega) | (simp; done)) _ | refine Below.drew ?_))
        have s1 : w.heap.size + 1 + 1 ≤ w1.heap.size := by rw [hw1]; simp
        have y1 := Below.size hb
        try simp only [World.size_alloc, World.size_drew] at y1
        have D1 := Lib.hid (show Below w.heap.size w w1 from Below.trans (by repeat (first | exact Below.refl _ _ | refine Below.alloc ?_ (by first | omega | (simp; omega) | (simp; done)) _)) (Below.mono hb (by first | omega | (simp; omega) | (simp; done))))
        have z1 := D1.out.size
        clear hb hw1
        try clear c0_0
        have c0_0 := cell_of_heap h0 (j := 0) rfl
        try clear f0_0
        have f0_0 := frozen_of_heap h0 0
        try clear c0_1
        have c0_1 := cell_of_heap h0 (j := 1) rfl
        try clear f0_1
        have f0_1 := frozen_of_heap h0 1
        try clear c0_2
        have c0_2 := cell_of_heap h0 (j := 2) rfl
        try clear f0_2
        have f0_2 := frozen_of_heap h0 2
        try clear c1_0
        have c1_0 := cell_of_heap h1 (j := 0) rfl
        try clear f1_0
        have f1_0 := frozen_of_heap h1 0
        try clear c1_1
        have c1_1 := cell_of_heap h1 (j := 1) rfl
        try clear f1_1
        have f1_1 := frozen_of_heap h1 1
        try clear c1_2
        have c1_2 := cell_of_heap h1 (j := 2) rfl
        try clear f1_2
        have f1_2 := frozen_of_heap h1 2
        try clear c1_3
        have c1_3 := cell_of_heap h1 (j := 3) rfl
        try clear f1_3
        have f1_3 := frozen_of_heap h1 3
        refine bodyPost_ret (results_bt rfl _ _ (w.heap.size + 1) rfl rfl h1 Tryd.underlying40 rfl (by kernel_rfl)) rfl ⟨rfl, D1.out⟩
end Go.Proofs.YtehpgmhilcoalaaDoor
