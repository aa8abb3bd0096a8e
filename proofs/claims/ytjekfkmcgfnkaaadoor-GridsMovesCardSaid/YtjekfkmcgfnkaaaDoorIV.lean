/- The law of moves. -/
import Derived.Test.YtjekfkmcgfnkaaaDoorIU
import Derived.Test.YtjekfkmcgfnkaaaDoorIG
import Derived.Test.YtjekfkmcgfnkaaaDoorIS
import Derived.Test.YtjekfkmcgfnkaaaDoorHC
namespace Go.Proofs.YtjekfkmcgfnkaaaDoor
open Go.RowKit Go.Lib
set_option linter.unusedSimpArgs false
set_option linter.unusedVariables false
theorem rOrder_any (m : Mat) : ∃ v e, (∀ w, Glob w → Calls Tryd.prog 35 #[m.val] w fun r w' => r = .returned (.tuple #[.int .i64 v, .int .i64 e]) ∧ Below w.heap.size w w') ∧ ∀ w, Calls Tryd.prog 36 #[m.val] w fun r w' => r = .returned (.tuple #[.int .i64 v, .int .i64 e]) ∧ Below w.heap.size w w' := by
  cases h : okM m
  · exact ⟨0, 2, fun w _ => Order_bad m h w, fun w => rOrder_bad m h w⟩
  · exact ⟨ordV m, 0, fun w g => Order_ok m ((okM_iff m).1 h) w g, fun w => rOrder_ok m ((okM_iff m).1 h) w⟩
set_option maxHeartbeats 8000000 in
set_option maxRecDepth 100000 in
theorem moves_any (m n : Mov) (p : Pt) (w : World) (g : Glob w) : Calls Tryd.prog 6 #[m.val, n.val, p.val] w fun e w' => e = .returned (.bool true) ∧ Below w.heap.size w w' := by
  have HG := Lib.hid g
  clear g
  have C7 := fun W g => awake_any W g
  have C1 := fun W => Apply_any m p W
  have C2 := fun W => rApply_any m p W
  have C3 := fun W => Compose_any m n W
  have C4 := fun W => rCompose_any m n W
  have C5 := fun W => Invert_any m W
  have C6 := fun W => rInvert_any m W
  obtain ⟨ov, oe, C8, C9⟩ := rOrder_any m.m
  generalize appV m p = q at *
  generalize appE m p = qe at *
  generalize comV m n = c at *
  generalize comE m n = ce at *
  generalize invV m = v at *
  generalize invE m = ve at *
  unfold Mov.val Pt.val Mat.val at *
  have H1 := Lib.hid C1
  have H2 := Lib.hid C2
  have H3 := Lib.hid C3
  have H4 := Lib.hid C4
  have H5 := Lib.hid C5
  have H6 := Lib.hid C6
  have H7 := Lib.hid C7
  have H8 := Lib.hid C8
  have H9 := Lib.hid C9
  clear C1 C2 C3 C4 C5 C6 C7 C8 C9
  go_enter Tryd.func6, Tryd.ntmps6
  go_wp2_with fail
  refine (H1.out _).mono ?_
  rintro e w1 ⟨rfl, hb⟩
  have h0 : w1.heap[w.heap.size]? = some (.cells #[.int .i64 m.m.a, .int .i64 m.m.b, .int .i64 m.m.c, .int .i64 m.m.d, .int .i64 m.t.x, .int .i64 m.t.y] 49 (0, 0)) := hb_below hb (by repeat (first | (refine hb_new ?_; (first | omega | (simp; omega) | (simp; done))) | (refine hb_old ?_ ?_; rotate_left; focus (first | omega | (simp; omega) | (simp; done))) | refine hb_drew ?_)) (by first | omega | (simp; omega) | (simp; done))
  have h1 : w1.heap[w.heap.size + 1]? = some (.cells #[.int .i64 n.m.a, .int .i64 n.m.b, .int .i64 n.m.c, .int .i64 n.m.d, .int .i64 n.t.x, .int .i64 n.t.y] 49 (0, 0)) := hb_below hb (by repeat (first | (refine hb_new ?_; (first | omega | (simp; omega) | (simp; done))) | (refine hb_old ?_ ?_; rotate_left; focus (first | omega | (simp; omega) | (simp; done))) | refine hb_drew ?_)) (by first | omega | (simp; omega) | (simp; done))
  have h2 : w1.heap[w.heap.size + 1 + 1]? = some (.cells #[.int .i64 p.x, .int .i64 p.y] 25 (0, 0)) := hb_below hb (by repeat (first | (refine hb_new ?_; (first | omega | (simp; omega) | (simp; done))) | (refine hb_old ?_ ?_; rotate_left; focus (first | omega | (simp; omega) | (simp; done))) | refine hb_drew ?_)) (by first | omega | (simp; omega) | (simp; done))
  have y1 := Below.size hb
  try simp only [World.size_alloc, World.size_drew] at y1
  have D1 := Lib.hid (show Below w.heap.size w w1 from Below.trans (by repeat (first | exact Below.refl _ _ | refine Below.alloc ?_ (by first | omega | (simp; omega) | (simp; done)) _)) (Below.mono hb (by first | omega | (simp; omega) | (simp; done))))
  have z1 := D1.out.size
  clear hb
  try clear c0_0 f0_0 c0_1 f0_1 c0_2 f0_2 c0_3 f0_3 c0_4 f0_4 c0_5 f0_5
  obtain ⟨c0_0, f0_0, c0_1, f0_1, c0_2, f0_2, c0_3, f0_3, c0_4, f0_4, c0_5, f0_5⟩ := cells6 h0
  try clear c1_0 f1_0 c1_1 f1_1 c1_2 f1_2 c1_3 f1_3 c1_4 f1_4 c1_5 f1_5
  obtain ⟨c1_0, f1_0, c1_1, f1_1, c1_2, f1_2, c1_3, f1_3, c1_4, f1_4, c1_5, f1_5⟩ := cells6 h1
  try clear c2_0 f2_0 c2_1 f2_1
  obtain ⟨c2_0, f2_0, c2_1, f2_1⟩ := cells2 h2
  have ha0 : (w1.alloc (.cells #[.int .i64 q.x, .int .i64 q.y] 25)).heap[w.heap.size]? = some (.cells #[.int .i64 m.m.a, .int .i64 m.m.b, .int .i64 m.m.c, .int .i64 m.m.d, .int .i64 m.t.x, .int .i64 m.t.y] 49 (0, 0)) := (by repeat (first | exact h0 | (refine hb_new ?_; (first | omega | (simp; omega) | (simp; done))) | (refine hb_old ?_ ?_; rotate_left; focus (first | omega | (simp; omega) | (simp; done))) | refine hb_drew ?_))
  obtain ⟨ca0_0, fa0_0, ca0_1, fa0_1, ca0_2, fa0_2, ca0_3, fa0_3, ca0_4, fa0_4, ca0_5, fa0_5⟩ := cells6 ha0
  have ha1 : (w1.alloc (.cells #[.int .i64 q.x, .int .i64 q.y] 25)).heap[w.heap.size + 1]? = some (.cells #[.int .i64 n.m.a, .int .i64 n.m.b, .int .i64 n.m.c, .int .i64 n.m.d, .int .i64 n.t.x, .int .i64 n.t.y] 49 (0, 0)) := (by repeat (first | exact h1 | (refine hb_new ?_; (first | omega | (simp; omega) | (simp; done))) | (refine hb_old ?_ ?_; rotate_left; focus (first | omega | (simp; omega) | (simp; done))) | refine hb_drew ?_))
  obtain ⟨ca1_0, fa1_0, ca1_1, fa1_1, ca1_2, fa1_2, ca1_3, fa1_3, ca1_4, fa1_4, ca1_5, fa1_5⟩ := cells6 ha1
  have ha2 : (w1.alloc (.cells #[.int .i64 q.x, .int .i64 q.y] 25)).heap[w.heap.size + 1 + 1]? = some (.cells #[.int .i64 p.x, .int .i64 p.y] 25 (0, 0)) := (by repeat (first | exact h2 | (refine hb_new ?_; (first | omega | (simp; omega) | (simp; done))) | (refine hb_old ?_ ?_; rotate_left; focus (first | omega | (simp; omega) | (simp; done))) | refine hb_drew ?_))
  obtain ⟨ca2_0, fa2_0, ca2_1, fa2_1⟩ := cells2 ha2
  go_wp2_with fail
  obtain ⟨w2, hw2⟩ : ∃ W, W = (w1.alloc (.cells #[.int .i64 q.x, .int .i64 q.y] 25)) := ⟨_, rfl⟩
  rw [← hw2]
  replace h0 : w2.heap[w.heap.size]? = some (.cells #[.int .i64 m.m.a, .int .i64 m.m.b, .int .i64 m.m.c, .int .i64 m.m.d, .int .i64 m.t.x, .int .i64 m.t.y] 49 (0, 0)) := by rw [hw2]; exact (by repeat (first | exact h0 | (refine hb_new ?_; (first | omega | (simp; omega) | (simp; done))) | (refine hb_old ?_ ?_; rotate_left; focus (first | omega | (simp; omega) | (simp; done))) | refine hb_drew ?_))
  replace h1 : w2.heap[w.heap.size + 1]? = some (.cells #[.int .i64 n.m.a, .int .i64 n.m.b, .int .i64 n.m.c, .int .i64 n.m.d, .int .i64 n.t.x, .int .i64 n.t.y] 49 (0, 0)) := by rw [hw2]; exact (by repeat (first | exact h1 | (refine hb_new ?_; (first | omega | (simp; omega) | (simp; done))) | (refine hb_old ?_ ?_; rotate_left; focus (first | omega | (simp; omega) | (simp; done))) | refine hb_drew ?_))
  replace h2 : w2.heap[w.heap.size + 1 + 1]? = some (.cells #[.int .i64 p.x, .int .i64 p.y] 25 (0, 0)) := by rw [hw2]; exact (by repeat (first | exact h2 | (refine hb_new ?_; (first | omega | (simp; omega) | (simp; done))) | (refine hb_old ?_ ?_; rotate_left; focus (first | omega | (simp; omega) | (simp; done))) | refine hb_drew ?_))
  have h3 : w2.heap[w1.heap.size]? = some (.cells #[.int .i64 q.x, .int .i64 q.y] 25 (0, 0)) := by rw [hw2]; exact (by repeat (first | (refine hb_new ?_; (first | omega | (simp; omega) | (simp; done))) | (refine hb_old ?_ ?_; rotate_left; focus (first | omega | (simp; omega) | (simp; done))) | refine hb_drew ?_))
  have hb : Below w1.heap.size w1 w2 := by rw [hw2]; exact (by repeat (first | exact Below.refl _ _ | refine Below.alloc ?_ (by first | omega | (simp; omega) | (simp; done)) _ | refine Below.drew ?_))
  have s2 : w1.heap.size + 1 ≤ w2.heap.size := by rw [hw2]; simp
  have y2 := Below.size hb
  try simp only [World.size_alloc, World.size_drew] at y2
  have D2 := Lib.hid (show Below w.heap.size w w2 from Below.trans (by repeat (first | exact D1.out | exact Below.refl _ _ | refine Below.alloc ?_ (by first | omega | (simp; omega) | (simp; done)) _)) (Below.mono hb (by first | omega | (simp; omega) | (simp; done))))
  have z2 := D2.out.size
  clear hb hw2
  try clear c0_0 f0_0 c0_1 f0_1 c0_2 f0_2 c0_3 f0_3 c0_4 f0_4 c0_5 f0_5
  obtain ⟨c0_0, f0_0, c0_1, f0_1, c0_2, f0_2, c0_3, f0_3, c0_4, f0_4, c0_5, f0_5⟩ := cells6 h0
  try clear c1_0 f1_0 c1_1 f1_1 c1_2 f1_2 c1_3 f1_3 c1_4 f1_4 c1_5 f1_5
  obtain ⟨c1_0, f1_0, c1_1, f1_1, c1_2, f1_2, c1_3, f1_3, c1_4, f1_4, c1_5, f1_5⟩ := cells6 h1
  try clear c2_0 f2_0 c2_1 f2_1
  obtain ⟨c2_0, f2_0, c2_1, f2_1⟩ := cells2 h2
  try clear c3_0 f3_0 c3_1 f3_1
  obtain ⟨c3_0, f3_0, c3_1, f3_1⟩ := cells2 h3
  clear ha0 ca0_0 fa0_0 ca0_1 fa0_1 ca0_2 fa0_2 ca0_3 fa0_3 ca0_4 fa0_4 ca0_5 fa0_5
  clear ha1 ca1_0 fa1_0 ca1_1 fa1_1 ca1_2 fa1_2 ca1_3 fa1_3 ca1_4 fa1_4 ca1_5 fa1_5
  clear ha2 ca2_0 fa2_0 ca2_1 fa2_1
  refine (H2.out _).mono ?_
  rintro e w3 ⟨rfl, hb⟩
  replace h0 : w3.heap[w.heap.size]? = some (.cells #[.int .i64 m.m.a, .int .i64 m.m.b, .int .i64 m.m.c, .int .i64 m.m.d, .int .i64 m.t.x, .int .i64 m.t.y] 49 (0, 0)) := hb_below hb (by repeat (first | exact h0 | (refine hb_new ?_; (first | omega | (simp; omega) | (simp; done))) | (refine hb_old ?_ ?_; rotate_left; focus (first | omega | (simp; omega) | (simp; done))) | refine hb_drew ?_)) (by first | omega | (simp; omega) | (simp; done))
  replace h1 : w3.heap[w.heap.size + 1]? = some (.cells #[.int .i64 n.m.a, .int .i64 n.m.b, .int .i64 n.m.c, .int .i64 n.m.d, .int .i64 n.t.x, .int .i64 n.t.y] 49 (0, 0)) := hb_below hb (by repeat (first | exact h1 | (refine hb_new ?_; (first | omega | (simp; omega) | (simp; done))) | (refine hb_old ?_ ?_; rotate_left; focus (first | omega | (simp; omega) | (simp; done))) | refine hb_drew ?_)) (by first | omega | (simp; omega) | (simp; done))
  replace h2 : w3.heap[w.heap.size + 1 + 1]? = some (.cells #[.int .i64 p.x, .int .i64 p.y] 25 (0, 0)) := hb_below hb (by repeat (first | exact h2 | (refine hb_new ?_; (first | omega | (simp; omega) | (simp; done))) | (refine hb_old ?_ ?_; rotate_left; focus (first | omega | (simp; omega) | (simp; done))) | refine hb_drew ?_)) (by first | omega | (simp; omega) | (simp; done))
  replace h3 : w3.heap[w1.heap.size]? = some (.cells #[.int .i64 q.x, .int .i64 q.y] 25 (0, 0)) := hb_below hb (by repeat (first | exact h3 | (refine hb_new ?_; (first | omega | (simp; omega) | (simp; done))) | (refine hb_old ?_ ?_; rotate_left; focus (first | omega | (simp; omega) | (simp; done))) | refine hb_drew ?_)) (by first | omega | (simp; omega) | (simp; done))
  have y3 := Below.size hb
  try simp only [World.size_alloc, World.size_drew] at y3
  have D3 := Lib.hid (show Below w.heap.size w w3 from Below.trans (by repeat (first | exact D2.out | exact Below.refl _ _ | refine Below.alloc ?_ (by first | omega | (simp; omega) | (simp; done)) _)) (Below.mono hb (by first | omega | (simp; omega) | (simp; done))))
  have z3 := D3.out.size
  clear hb
  try clear c0_0 f0_0 c0_1 f0_1 c0_2 f0_2 c0_3 f0_3 c0_4 f0_4 c0_5 f0_5
  obtain ⟨c0_0, f0_0, c0_1, f0_1, c0_2, f0_2, c0_3, f0_3, c0_4, f0_4, c0_5, f0_5⟩ := cells6 h0
  try clear c1_0 f1_0 c1_1 f1_1 c1_2 f1_2 c1_3 f1_3 c1_4 f1_4 c1_5 f1_5
  obtain ⟨c1_0, f1_0, c1_1, f1_1, c1_2, f1_2, c1_3, f1_3, c1_4, f1_4, c1_5, f1_5⟩ := cells6 h1
  try clear c2_0 f2_0 c2_1 f2_1
  obtain ⟨c2_0, f2_0, c2_1, f2_1⟩ := cells2 h2
  try clear c3_0 f3_0 c3_1 f3_1
  obtain ⟨c3_0, f3_0, c3_1, f3_1⟩ := cells2 h3
  have ha0 : (w3.alloc (.cells #[.int .i64 q.x, .int .i64 q.y] 25)).heap[w.heap.size]? = some (.cells #[.int .i64 m.m.a, .int .i64 m.m.b, .int .i64 m.m.c, .int .i64 m.m.d, .int .i64 m.t.x, .int .i64 m.t.y] 49 (0, 0)) := (by repeat (first | exact h0 | (refine hb_new ?_; (first | omega | (simp; omega) | (simp; done))) | (refine hb_old ?_ ?_; rotate_left; focus (first | omega | (simp; omega) | (simp; done))) | refine hb_drew ?_))
  obtain ⟨ca0_0, fa0_0, ca0_1, fa0_1, ca0_2, fa0_2, ca0_3, fa0_3, ca0_4, fa0_4, ca0_5, fa0_5⟩ := cells6 ha0
  have ha1 : (w3.alloc (.cells #[.int .i64 q.x, .int .i64 q.y] 25)).heap[w.heap.size + 1]? = some (.cells #[.int .i64 n.m.a, .int .i64 n.m.b, .int .i64 n.m.c, .int .i64 n.m.d, .int .i64 n.t.x, .int .i64 n.t.y] 49 (0, 0)) := (by repeat (first | exact h1 | (refine hb_new ?_; (first | omega | (simp; omega) | (simp; done))) | (refine hb_old ?_ ?_; rotate_left; focus (first | omega | (simp; omega) | (simp; done))) | refine hb_drew ?_))
  obtain ⟨ca1_0, fa1_0, ca1_1, fa1_1, ca1_2, fa1_2, ca1_3, fa1_3, ca1_4, fa1_4, ca1_5, fa1_5⟩ := cells6 ha1
  go_wp2_with fail
  obtain ⟨w4, hw4⟩ : ∃ W, W = (w3.alloc (.cells #[.int .i64 q.x, .int .i64 q.y] 25)) := ⟨_, rfl⟩
  rw [← hw4]
  replace h0 : w4.heap[w.heap.size]? = some (.cells #[.int .i64 m.m.a, .int .i64 m.m.b, .int .i64 m.m.c, .int .i64 m.m.d, .int .i64 m.t.x, .int .i64 m.t.y] 49 (0, 0)) := by rw [hw4]; exact (by repeat (first | exact h0 | (refine hb_new ?_; (first | omega | (simp; omega) | (simp; done))) | (refine hb_old ?_ ?_; rotate_left; focus (first | omega | (simp; omega) | (simp; done))) | refine hb_drew ?_))
  replace h1 : w4.heap[w.heap.size + 1]? = some (.cells #[.int .i64 n.m.a, .int .i64 n.m.b, .int .i64 n.m.c, .int .i64 n.m.d, .int .i64 n.t.x, .int .i64 n.t.y] 49 (0, 0)) := by rw [hw4]; exact (by repeat (first | exact h1 | (refine hb_new ?_; (first | omega | (simp; omega) | (simp; done))) | (refine hb_old ?_ ?_; rotate_left; focus (first | omega | (simp; omega) | (simp; done))) | refine hb_drew ?_))
  replace h2 : w4.heap[w.heap.size + 1 + 1]? = some (.cells #[.int .i64 p.x, .int .i64 p.y] 25 (0, 0)) := by rw [hw4]; exact (by repeat (first | exact h2 | (refine hb_new ?_; (first | omega | (simp; omega) | (simp; done))) | (refine hb_old ?_ ?_; rotate_left; focus (first | omega | (simp; omega) | (simp; done))) | refine hb_drew ?_))
  replace h3 : w4.heap[w1.heap.size]? = some (.cells #[.int .i64 q.x, .int .i64 q.y] 25 (0, 0)) := by rw [hw4]; exact (by repeat (first | exact h3 | (refine hb_new ?_; (first | omega | (simp; omega) | (simp; done))) | (refine hb_old ?_ ?_; rotate_left; focus (first | omega | (simp; omega) | (simp; done))) | refine hb_drew ?_))
  have h4 : w4.heap[w3.heap.size]? = some (.cells #[.int .i64 q.x, .int .i64 q.y] 25 (0, 0)) := by rw [hw4]; exact (by repeat (first | (refine hb_new ?_; (first | omega | (simp; omega) | (simp; done))) | (refine hb_old ?_ ?_; rotate_left; focus (first | omega | (simp; omega) | (simp; done))) | refine hb_drew ?_))
  have hb : Below w3.heap.size w3 w4 := by rw [hw4]; exact (by repeat (first | exact Below.refl _ _ | refine Below.alloc ?_ (by first | omega | (simp; omega) | (simp; done)) _ | refine Below.drew ?_))
  have s4 : w3.heap.size + 1 ≤ w4.heap.size := by rw [hw4]; simp
  have y4 := Below.size hb
  try simp only [World.size_alloc, World.size_drew] at y4
  have D4 := Lib.hid (show Below w.heap.size w w4 from Below.trans (by repeat (first | exact D3.out | exact Below.refl _ _ | refine Below.alloc ?_ (by first | omega | (simp; omega) | (simp; done)) _)) (Below.mono hb (by first | omega | (simp; omega) | (simp; done))))
  have z4 := D4.out.size
  clear hb hw4
  try clear c0_0 f0_0 c0_1 f0_1 c0_2 f0_2 c0_3 f0_3 c0_4 f0_4 c0_5 f0_5
  obtain ⟨c0_0, f0_0, c0_1, f0_1, c0_2, f0_2, c0_3, f0_3, c0_4, f0_4, c0_5, f0_5⟩ := cells6 h0
  try clear c1_0 f1_0 c1_1 f1_1 c1_2 f1_2 c1_3 f1_3 c1_4 f1_4 c1_5 f1_5
  obtain ⟨c1_0, f1_0, c1_1, f1_1, c1_2, f1_2, c1_3, f1_3, c1_4, f1_4, c1_5, f1_5⟩ := cells6 h1
  try clear c2_0 f2_0 c2_1 f2_1
  obtain ⟨c2_0, f2_0, c2_1, f2_1⟩ := cells2 h2
  try clear c3_0 f3_0 c3_1 f3_1
  obtain ⟨c3_0, f3_0, c3_1, f3_1⟩ := cells2 h3
  try clear c4_0 f4_0 c4_1 f4_1
  obtain ⟨c4_0, f4_0, c4_1, f4_1⟩ := cells2 h4
  clear ha0 ca0_0 fa0_0 ca0_1 fa0_1 ca0_2 fa0_2 ca0_3 fa0_3 ca0_4 fa0_4 ca0_5 fa0_5
  clear ha1 ca1_0 fa1_0 ca1_1 fa1_1 ca1_2 fa1_2 ca1_3 fa1_3 ca1_4 fa1_4 ca1_5 fa1_5
  refine (H3.out _).mono ?_
  rintro e w5 ⟨rfl, hb⟩
  replace h0 : w5.heap[w.heap.size]? = some (.cells #[.int .i64 m.m.a, .int .i64 m.m.b, .int .i64 m.m.c, .int .i64 m.m.d, .int .i64 m.t.x, .int .i64 m.t.y] 49 (0, 0)) := hb_below hb (by repeat (first | exact h0 | (refine hb_new ?_; (first | omega | (simp; omega) | (simp; done))) | (refine hb_old ?_ ?_; rotate_left; focus (first | omega | (simp; omega) | (simp; done))) | refine hb_drew ?_)) (by first | omega | (simp; omega) | (simp; done))
  replace h1 : w5.heap[w.heap.size + 1]? = some (.cells #[.int .i64 n.m.a, .int .i64 n.m.b, .int .i64 n.m.c, .int .i64 n.m.d, .int .i64 n.t.x, .int .i64 n.t.y] 49 (0, 0)) := hb_below hb (by repeat (first | exact h1 | (refine hb_new ?_; (first | omega | (simp; omega) | (simp; done))) | (refine hb_old ?_ ?_; rotate_left; focus (first | omega | (simp; omega) | (simp; done))) | refine hb_drew ?_)) (by first | omega | (simp; omega) | (simp; done))
  replace h2 : w5.heap[w.heap.size + 1 + 1]? = some (.cells #[.int .i64 p.x, .int .i64 p.y] 25 (0, 0)) := hb_below hb (by repeat (first | exact h2 | (refine hb_new ?_; (first | omega | (simp; omega) | (simp; done))) | (refine hb_old ?_ ?_; rotate_left; focus (first | omega | (simp; omega) | (simp; done))) | refine hb_drew ?_)) (by first | omega | (simp; omega) | (simp; done))
  replace h3 : w5.heap[w1.heap.size]? = some (.cells #[.int .i64 q.x, .int .i64 q.y] 25 (0, 0)) := hb_below hb (by repeat (first | exact h3 | (refine hb_new ?_; (first | omega | (simp; omega) | (simp; done))) | (refine hb_old ?_ ?_; rotate_left; focus (first | omega | (simp; omega) | (simp; done))) | refine hb_drew ?_)) (by first | omega | (simp; omega) | (simp; done))
  replace h4 : w5.heap[w3.heap.size]? = some (.cells #[.int .i64 q.x, .int .i64 q.y] 25 (0, 0)) := hb_below hb (by repeat (first | exact h4 | (refine hb_new ?_; (first | omega | (simp; omega) | (simp; done))) | (refine hb_old ?_ ?_; rotate_left; focus (first | omega | (simp; omega) | (simp; done))) | refine hb_drew ?_)) (by first | omega | (simp; omega) | (simp; done))
  have y5 := Below.size hb
  try simp only [World.size_alloc, World.size_drew] at y5
  have D5 := Lib.hid (show Below w.heap.size w w5 from Below.trans (by repeat (first | exact D4.out | exact Below.refl _ _ | refine Below.alloc ?_ (by first | omega | (simp; omega) | (simp; done)) _)) (Below.mono hb (by first | omega | (simp; omega) | (simp; done))))
  have z5 := D5.out.size
  clear hb
  try clear c0_0 f0_0 c0_1 f0_1 c0_2 f0_2 c0_3 f0_3 c0_4 f0_4 c0_5 f0_5
  obtain ⟨c0_0, f0_0, c0_1, f0_1, c0_2, f0_2, c0_3, f0_3, c0_4, f0_4, c0_5, f0_5⟩ := cells6 h0
  try clear c1_0 f1_0 c1_1 f1_1 c1_2 f1_2 c1_3 f1_3 c1_4 f1_4 c1_5 f1_5
  obtain ⟨c1_0, f1_0, c1_1, f1_1, c1_2, f1_2, c1_3, f1_3, c1_4, f1_4, c1_5, f1_5⟩ := cells6 h1
  try clear c2_0 f2_0 c2_1 f2_1
  obtain ⟨c2_0, f2_0, c2_1, f2_1⟩ := cells2 h2
  try clear c3_0 f3_0 c3_1 f3_1
  obtain ⟨c3_0, f3_0, c3_1, f3_1⟩ := cells2 h3
  try clear c4_0 f4_0 c4_1 f4_1
  obtain ⟨c4_0, f4_0, c4_1, f4_1⟩ := cells2 h4
  have ha0 : (w5.alloc (.cells #[.int .i64 c.m.a, .int .i64 c.m.b, .int .i64 c.m.c, .int .i64 c.m.d, .int .i64 c.t.x, .int .i64 c.t.y] 49)).heap[w.heap.size]? = some (.cells #[.int .i64 m.m.a, .int .i64 m.m.b, .int .i64 m.m.c, .int .i64 m.m.d, .int .i64 m.t.x, .int .i64 m.t.y] 49 (0, 0)) := (by repeat (first | exact h0 | (refine hb_new ?_; (first | omega | (simp; omega) | (simp; done))) | (refine hb_old ?_ ?_; rotate_left; focus (first | omega | (simp; omega) | (simp; done))) | refine hb_drew ?_))
  obtain ⟨ca0_0, fa0_0, ca0_1, fa0_1, ca0_2, fa0_2, ca0_3, fa0_3, ca0_4, fa0_4, ca0_5, fa0_5⟩ := cells6 ha0
  have ha1 : (w5.alloc (.cells #[.int .i64 c.m.a, .int .i64 c.m.b, .int .i64 c.m.c, .int .i64 c.m.d, .int .i64 c.t.x, .int .i64 c.t.y] 49)).heap[w.heap.size + 1]? = some (.cells #[.int .i64 n.m.a, .int .i64 n.m.b, .int .i64 n.m.c, .int .i64 n.m.d, .int .i64 n.t.x, .int .i64 n.t.y] 49 (0, 0)) := (by repeat (first | exact h1 | (refine hb_new ?_; (first | omega | (simp; omega) | (simp; done))) | (refine hb_old ?_ ?_; rotate_left; focus (first | omega | (simp; omega) | (simp; done))) | refine hb_drew ?_))
  obtain ⟨ca1_0, fa1_0, ca1_1, fa1_1, ca1_2, fa1_2, ca1_3, fa1_3, ca1_4, fa1_4, ca1_5, fa1_5⟩ := cells6 ha1
  go_wp2_with fail
  obtain ⟨w6, hw6⟩ : ∃ W, W = (w5.alloc (.cells #[.int .i64 c.m.a, .int .i64 c.m.b, .int .i64 c.m.c, .int .i64 c.m.d, .int .i64 c.t.x, .int .i64 c.t.y] 49)) := ⟨_, rfl⟩
  rw [← hw6]
  replace h0 : w6.heap[w.heap.size]? = some (.cells #[.int .i64 m.m.a, .int .i64 m.m.b, .int .i64 m.m.c, .int .i64 m.m.d, .int .i64 m.t.x, .int .i64 m.t.y] 49 (0, 0)) := by rw [hw6]; exact (by repeat (first | exact h0 | (refine hb_new ?_; (first | omega | (simp; omega) | (simp; done))) | (refine hb_old ?_ ?_; rotate_left; focus (first | omega | (simp; omega) | (simp; done))) | refine hb_drew ?_))
  replace h1 : w6.heap[w.heap.size + 1]? = some (.cells #[.int .i64 n.m.a, .int .i64 n.m.b, .int .i64 n.m.c, .int .i64 n.m.d, .int .i64 n.t.x, .int .i64 n.t.y] 49 (0, 0)) := by rw [hw6]; exact (by repeat (first | exact h1 | (refine hb_new ?_; (first | omega | (simp; omega) | (simp; done))) | (refine hb_old ?_ ?_; rotate_left; focus (first | omega | (simp; omega) | (simp; done))) | refine hb_drew ?_))
  replace h2 : w6.heap[w.heap.size + 1 + 1]? = some (.cells #[.int .i64 p.x, .int .i64 p.y] 25 (0, 0)) := by rw [hw6]; exact (by repeat (first | exact h2 | (refine hb_new ?_; (first | omega | (simp; omega) | (simp; done))) | (refine hb_old ?_ ?_; rotate_left; focus (first | omega | (simp; omega) | (simp; done))) | refine hb_drew ?_))
  replace h3 : w6.heap[w1.heap.size]? = some (.cells #[.int .i64 q.x, .int .i64 q.y] 25 (0, 0)) := by rw [hw6]; exact (by repeat (first | exact h3 | (refine hb_new ?_; (first | omega | (simp; omega) | (simp; done))) | (refine hb_old ?_ ?_; rotate_left; focus (first | omega | (simp; omega) | (simp; done))) | refine hb_drew ?_))
  replace h4 : w6.heap[w3.heap.size]? = some (.cells #[.int .i64 q.x, .int .i64 q.y] 25 (0, 0)) := by rw [hw6]; exact (by repeat (first | exact h4 | (refine hb_new ?_; (first | omega | (simp; omega) | (simp; done))) | (refine hb_old ?_ ?_; rotate_left; focus (first | omega | (simp; omega) | (simp; done))) | refine hb_drew ?_))
  have h5 : w6.heap[w5.heap.size]? = some (.cells #[.int .i64 c.m.a, .int .i64 c.m.b, .int .i64 c.m.c, .int .i64 c.m.d, .int .i64 c.t.x, .int .i64 c.t.y] 49 (0, 0)) := by rw [hw6]; exact (by repeat (first | (refine hb_new ?_; (first | omega | (simp; omega) | (simp; done))) | (refine hb_old ?_ ?_; rotate_left; focus (first | omega | (simp; omega) | (simp; done))) | refine hb_drew ?_))
  have hb : Below w5.heap.size w5 w6 := by rw [hw6]; exact (by repeat (first | exact Below.refl _ _ | refine Below.alloc ?_ (by first | omega | (simp; omega) | (simp; done)) _ | refine Below.drew ?_))
  have s6 : w5.heap.size + 1 ≤ w6.heap.size := by rw [hw6]; simp
  have y6 := Below.size hb
  try simp only [World.size_alloc, World.size_drew] at y6
  have D6 := Lib.hid (show Below w.heap.size w w6 from Below.trans (by repeat (first | exact D5.out | exact Below.refl _ _ | refine Below.alloc ?_ (by first | omega | (simp; omega) | (simp; done)) _)) (Below.mono hb (by first | omega | (simp; omega) | (simp; done))))
  have z6 := D6.out.size
  clear hb hw6
  try clear c0_0 f0_0 c0_1 f0_1 c0_2 f0_2 c0_3 f0_3 c0_4 f0_4 c0_5 f0_5
  obtain ⟨c0_0, f0_0, c0_1, f0_1, c0_2, f0_2, c0_3, f0_3, c0_4, f0_4, c0_5, f0_5⟩ := cells6 h0
  try clear c1_0 f1_0 c1_1 f1_1 c1_2 f1_2 c1_3 f1_3 c1_4 f1_4 c1_5 f1_5
  obtain ⟨c1_0, f1_0, c1_1, f1_1, c1_2, f1_2, c1_3, f1_3, c1_4, f1_4, c1_5, f1_5⟩ := cells6 h1
  try clear c2_0 f2_0 c2_1 f2_1
  obtain ⟨c2_0, f2_0, c2_1, f2_1⟩ := cells2 h2
  try clear c3_0 f3_0 c3_1 f3_1
  obtain ⟨c3_0, f3_0, c3_1, f3_1⟩ := cells2 h3
  try clear c4_0 f4_0 c4_1 f4_1
  obtain ⟨c4_0, f4_0, c4_1, f4_1⟩ := cells2 h4
  try clear c5_0 f5_0 c5_1 f5_1 c5_2 f5_2 c5_3 f5_3 c5_4 f5_4 c5_5 f5_5
  obtain ⟨c5_0, f5_0, c5_1, f5_1, c5_2, f5_2, c5_3, f5_3, c5_4, f5_4, c5_5, f5_5⟩ := cells6 h5
  clear ha0 ca0_0 fa0_0 ca0_1 fa0_1 ca0_2 fa0_2 ca0_3 fa0_3 ca0_4 fa0_4 ca0_5 fa0_5
  clear ha1 ca1_0 fa1_0 ca1_1 fa1_1 ca1_2 fa1_2 ca1_3 fa1_3 ca1_4 fa1_4 ca1_5 fa1_5
  refine (H4.out _).mono ?_
  rintro e w7 ⟨rfl, hb⟩
  replace h0 : w7.heap[w.heap.size]? = some (.cells #[.int .i64 m.m.a, .int .i64 m.m.b, .int .i64 m.m.c, .int .i64 m.m.d, .int .i64 m.t.x, .int .i64 m.t.y] 49 (0, 0)) := hb_below hb (by repeat (first | exact h0 | (refine hb_new ?_; (first | omega | (simp; omega) | (simp; done))) | (refine hb_old ?_ ?_; rotate_left; focus (first | omega | (simp; omega) | (simp; done))) | refine hb_drew ?_)) (by first | omega | (simp; omega) | (simp; done))
  replace h1 : w7.heap[w.heap.size + 1]? = some (.cells #[.int .i64 n.m.a, .int .i64 n.m.b, .int .i64 n.m.c, .int .i64 n.m.d, .int .i64 n.t.x, .int .i64 n.t.y] 49 (0, 0)) := hb_below hb (by repeat (first | exact h1 | (refine hb_new ?_; (first | omega | (simp; omega) | (simp; done))) | (refine hb_old ?_ ?_; rotate_left; focus (first | omega | (simp; omega) | (simp; done))) | refine hb_drew ?_)) (by first | omega | (simp; omega) | (simp; done))
  replace h2 : w7.heap[w.heap.size + 1 + 1]? = some (.cells #[.int .i64 p.x, .int .i64 p.y] 25 (0, 0)) := hb_below hb (by repeat (first | exact h2 | (refine hb_new ?_; (first | omega | (simp; omega) | (simp; done))) | (refine hb_old ?_ ?_; rotate_left; focus (first | omega | (simp; omega) | (simp; done))) | refine hb_drew ?_)) (by first | omega | (simp; omega) | (simp; done))
  replace h3 : w7.heap[w1.heap.size]? = some (.cells #[.int .i64 q.x, .int .i64 q.y] 25 (0, 0)) := hb_below hb (by repeat (first | exact h3 | (refine hb_new ?_; (first | omega | (simp; omega) | (simp; done))) | (refine hb_old ?_ ?_; rotate_left; focus (first | omega | (simp; omega) | (simp; done))) | refine hb_drew ?_)) (by first | omega | (simp; omega) | (simp; done))
  replace h4 : w7.heap[w3.heap.size]? = some (.cells #[.int .i64 q.x, .int .i64 q.y] 25 (0, 0)) := hb_below hb (by repeat (first | exact h4 | (refine hb_new ?_; (first | omega | (simp; omega) | (simp; done))) | (refine hb_old ?_ ?_; rotate_left; focus (first | omega | (simp; omega) | (simp; done))) | refine hb_drew ?_)) (by first | omega | (simp; omega) | (simp; done))
  replace h5 : w7.heap[w5.heap.size]? = some (.cells #[.int .i64 c.m.a, .int .i64 c.m.b, .int .i64 c.m.c, .int .i64 c.m.d, .int .i64 c.t.x, .int .i64 c.t.y] 49 (0, 0)) := hb_below hb (by repeat (first | exact h5 | (refine hb_new ?_; (first | omega | (simp; omega) | (simp; done))) | (refine hb_old ?_ ?_; rotate_left; focus (first | omega | (simp; omega) | (simp; done))) | refine hb_drew ?_)) (by first | omega | (simp; omega) | (simp; done))
  have y7 := Below.size hb
  try simp only [World.size_alloc, World.size_drew] at y7
  have D7 := Lib.hid (show Below w.heap.size w w7 from Below.trans (by repeat (first | exact D6.out | exact Below.refl _ _ | refine Below.alloc ?_ (by first | omega | (simp; omega) | (simp; done)) _)) (Below.mono hb (by first | omega | (simp; omega) | (simp; done))))
  have z7 := D7.out.size
  clear hb
  try clear c0_0 f0_0 c0_1 f0_1 c0_2 f0_2 c0_3 f0_3 c0_4 f0_4 c0_5 f0_5
  obtain ⟨c0_0, f0_0, c0_1, f0_1, c0_2, f0_2, c0_3, f0_3, c0_4, f0_4, c0_5, f0_5⟩ := cells6 h0
  try clear c1_0 f1_0 c1_1 f1_1 c1_2 f1_2 c1_3 f1_3 c1_4 f1_4 c1_5 f1_5
  obtain ⟨c1_0, f1_0, c1_1, f1_1, c1_2, f1_2, c1_3, f1_3, c1_4, f1_4, c1_5, f1_5⟩ := cells6 h1
  try clear c2_0 f2_0 c2_1 f2_1
  obtain ⟨c2_0, f2_0, c2_1, f2_1⟩ := cells2 h2
  try clear c3_0 f3_0 c3_1 f3_1
  obtain ⟨c3_0, f3_0, c3_1, f3_1⟩ := cells2 h3
  try clear c4_0 f4_0 c4_1 f4_1
  obtain ⟨c4_0, f4_0, c4_1, f4_1⟩ := cells2 h4
  try clear c5_0 f5_0 c5_1 f5_1 c5_2 f5_2 c5_3 f5_3 c5_4 f5_4 c5_5 f5_5
  obtain ⟨c5_0, f5_0, c5_1, f5_1, c5_2, f5_2, c5_3, f5_3, c5_4, f5_4, c5_5, f5_5⟩ := cells6 h5
  have ha0 : (w7.alloc (.cells #[.int .i64 c.m.a, .int .i64 c.m.b, .int .i64 c.m.c, .int .i64 c.m.d, .int .i64 c.t.x, .int .i64 c.t.y] 49)).heap[w.heap.size]? = some (.cells #[.int .i64 m.m.a, .int .i64 m.m.b, .int .i64 m.m.c, .int .i64 m.m.d, .int .i64 m.t.x, .int .i64 m.t.y] 49 (0, 0)) := (by repeat (first | exact h0 | (refine hb_new ?_; (first | omega | (simp; omega) | (simp; done))) | (refine hb_old ?_ ?_; rotate_left; focus (first | omega | (simp; omega) | (simp; done))) | refine hb_drew ?_))
  obtain ⟨ca0_0, fa0_0, ca0_1, fa0_1, ca0_2, fa0_2, ca0_3, fa0_3, ca0_4, fa0_4, ca0_5, fa0_5⟩ := cells6 ha0
  have ha1 : (w7.alloc (.cells #[.int .i64 c.m.a, .int .i64 c.m.b, .int .i64 c.m.c, .int .i64 c.m.d, .int .i64 c.t.x, .int .i64 c.t.y] 49)).heap[w.heap.size + 1]? = some (.cells #[.int .i64 n.m.a, .int .i64 n.m.b, .int .i64 n.m.c, .int .i64 n.m.d, .int .i64 n.t.x, .int .i64 n.t.y] 49 (0, 0)) := (by repeat (first | exact h1 | (refine hb_new ?_; (first | omega | (simp; omega) | (simp; done))) | (refine hb_old ?_ ?_; rotate_left; focus (first | omega | (simp; omega) | (simp; done))) | refine hb_drew ?_))
  obtain ⟨ca1_0, fa1_0, ca1_1, fa1_1, ca1_2, fa1_2, ca1_3, fa1_3, ca1_4, fa1_4, ca1_5, fa1_5⟩ := cells6 ha1
  have ha2 : (w7.alloc (.cells #[.int .i64 c.m.a, .int .i64 c.m.b, .int .i64 c.m.c, .int .i64 c.m.d, .int .i64 c.t.x, .int .i64 c.t.y] 49)).heap[w.heap.size + 1 + 1]? = some (.cells #[.int .i64 p.x, .int .i64 p.y] 25 (0, 0)) := (by repeat (first | exact h2 | (refine hb_new ?_; (first | omega | (simp; omega) | (simp; done))) | (refine hb_old ?_ ?_; rotate_left; focus (first | omega | (simp; omega) | (simp; done))) | refine hb_drew ?_))
  obtain ⟨ca2_0, fa2_0, ca2_1, fa2_1⟩ := cells2 ha2
  have ha3 : (w7.alloc (.cells #[.int .i64 c.m.a, .int .i64 c.m.b, .int .i64 c.m.c, .int .i64 c.m.d, .int .i64 c.t.x, .int .i64 c.t.y] 49)).heap[w1.heap.size]? = some (.cells #[.int .i64 q.x, .int .i64 q.y] 25 (0, 0)) := (by repeat (first | exact h3 | (refine hb_new ?_; (first | omega | (simp; omega) | (simp; done))) | (refine hb_old ?_ ?_; rotate_left; focus (first | omega | (simp; omega) | (simp; done))) | refine hb_drew ?_))
  obtain ⟨ca3_0, fa3_0, ca3_1, fa3_1⟩ := cells2 ha3
  have ha4 : (w7.alloc (.cells #[.int .i64 c.m.a, .int .i64 c.m.b, .int .i64 c.m.c, .int .i64 c.m.d, .int .i64 c.t.x, .int .i64 c.t.y] 49)).heap[w3.heap.size]? = some (.cells #[.int .i64 q.x, .int .i64 q.y] 25 (0, 0)) := (by repeat (first | exact h4 | (refine hb_new ?_; (first | omega | (simp; omega) | (simp; done))) | (refine hb_old ?_ ?_; rotate_left; focus (first | omega | (simp; omega) | (simp; done))) | refine hb_drew ?_))
  obtain ⟨ca4_0, fa4_0, ca4_1, fa4_1⟩ := cells2 ha4
  have ha5 : (w7.alloc (.cells #[.int .i64 c.m.a, .int .i64 c.m.b, .int .i64 c.m.c, .int .i64 c.m.d, .int .i64 c.t.x, .int .i64 c.t.y] 49)).heap[w5.heap.size]? = some (.cells #[.int .i64 c.m.a, .int .i64 c.m.b, .int .i64 c.m.c, .int .i64 c.m.d, .int .i64 c.t.x, .int .i64 c.t.y] 49 (0, 0)) := (by repeat (first | exact h5 | (refine hb_new ?_; (first | omega | (simp; omega) | (simp; done))) | (refine hb_old ?_ ?_; rotate_left; focus (first | omega | (simp; omega) | (simp; done))) | refine hb_drew ?_))
  obtain ⟨ca5_0, fa5_0, ca5_1, fa5_1, ca5_2, fa5_2, ca5_3, fa5_3, ca5_4, fa5_4, ca5_5, fa5_5⟩ := cells6 ha5
  go_wp2_with fail
  obtain ⟨w8, hw8⟩ : ∃ W, W = (w7.alloc (.cells #[.int .i64 c.m.a, .int .i64 c.m.b, .int .i64 c.m.c, .int .i64 c.m.d, .int .i64 c.t.x, .int .i64 c.t.y] 49)) := ⟨_, rfl⟩
  rw [← hw8]
  replace h0 : w8.heap[w.heap.size]? = some (.cells #[.int .i64 m.m.a, .int .i64 m.m.b, .int .i64 m.m.c, .int .i64 m.m.d, .int .i64 m.t.x, .int .i64 m.t.y] 49 (0, 0)) := by rw [hw8]; exact (by repeat (first | exact h0 | (refine hb_new ?_; (first | omega | (simp; omega) | (simp; done))) | (refine hb_old ?_ ?_; rotate_left; focus (first | omega | (simp; omega) | (simp; done))) | refine hb_drew ?_))
  replace h1 : w8.heap[w.heap.size + 1]? = some (.cells #[.int .i64 n.m.a, .int .i64 n.m.b, .int .i64 n.m.c, .int .i64 n.m.d, .int .i64 n.t.x, .int .i64 n.t.y] 49 (0, 0)) := by rw [hw8]; exact (by repeat (first | exact h1 | (refine hb_new ?_; (first | omega | (simp; omega) | (simp; done))) | (refine hb_old ?_ ?_; rotate_left; focus (first | omega | (simp; omega) | (simp; done))) | refine hb_drew ?_))
  replace h2 : w8.heap[w.heap.size + 1 + 1]? = some (.cells #[.int .i64 p.x, .int .i64 p.y] 25 (0, 0)) := by rw [hw8]; exact (by repeat (first | exact h2 | (refine hb_new ?_; (first | omega | (simp; omega) | (simp; done))) | (refine hb_old ?_ ?_; rotate_left; focus (first | omega | (simp; omega) | (simp; done))) | refine hb_drew ?_))
  replace h3 : w8.heap[w1.heap.size]? = some (.cells #[.int .i64 q.x, .int .i64 q.y] 25 (0, 0)) := by rw [hw8]; exact (by repeat (first | exact h3 | (refine hb_new ?_; (first | omega | (simp; omega) | (simp; done))) | (refine hb_old ?_ ?_; rotate_left; focus (first | omega | (simp; omega) | (simp; done))) | refine hb_drew ?_))
  replace h4 : w8.heap[w3.heap.size]? = some (.cells #[.int .i64 q.x, .int .i64 q.y] 25 (0, 0)) := by rw [hw8]; exact (by repeat (first | exact h4 | (refine hb_new ?_; (first | omega | (simp; omega) | (simp; done))) | (refine hb_old ?_ ?_; rotate_left; focus (first | omega | (simp; omega) | (simp; done))) | refine hb_drew ?_))
  replace h5 : w8.heap[w5.heap.size]? = some (.cells #[.int .i64 c.m.a, .int .i64 c.m.b, .int .i64 c.m.c, .int .i64 c.m.d, .int .i64 c.t.x, .int .i64 c.t.y] 49 (0, 0)) := by rw [hw8]; exact (by repeat (first | exact h5 | (refine hb_new ?_; (first | omega | (simp; omega) | (simp; done))) | (refine hb_old ?_ ?_; rotate_left; focus (first | omega | (simp; omega) | (simp; done))) | refine hb_drew ?_))
  have h6 : w8.heap[w7.heap.size]? = some (.cells #[.int .i64 c.m.a, .int .i64 c.m.b, .int .i64 c.m.c, .int .i64 c.m.d, .int .i64 c.t.x, .int .i64 c.t.y] 49 (0, 0)) := by rw [hw8]; exact (by repeat (first | (refine hb_new ?_; (first | omega | (simp; omega) | (simp; done))) | (refine hb_old ?_ ?_; rotate_left; focus (first | omega | (simp; omega) | (simp; done))) | refine hb_drew ?_))
  have hb : Below w7.heap.size w7 w8 := by rw [hw8]; exact (by repeat (first | exact Below.refl _ _ | refine Below.alloc ?_ (by first | omega | (simp; omega) | (simp; done)) _ | refine Below.drew ?_))
  have s8 : w7.heap.size + 1 ≤ w8.heap.size := by rw [hw8]; simp
  have y8 := Below.size hb
  try simp only [World.size_alloc, World.size_drew] at y8
  have D8 := Lib.hid (show Below w.heap.size w w8 from Below.trans (by repeat (first | exact D7.out | exact Below.refl _ _ | refine Below.alloc ?_ (by first | omega | (simp; omega) | (simp; done)) _)) (Below.mono hb (by first | omega | (simp; omega) | (simp; done))))
  have z8 := D8.out.size
  clear hb hw8
  try clear c0_0 f0_0 c0_1 f0_1 c0_2 f0_2 c0_3 f0_3 c0_4 f0_4 c0_5 f0_5
  obtain ⟨c0_0, f0_0, c0_1, f0_1, c0_2, f0_2, c0_3, f0_3, c0_4, f0_4, c0_5, f0_5⟩ := cells6 h0
  try clear c1_0 f1_0 c1_1 f1_1 c1_2 f1_2 c1_3 f1_3 c1_4 f1_4 c1_5 f1_5
  obtain ⟨c1_0, f1_0, c1_1, f1_1, c1_2, f1_2, c1_3, f1_3, c1_4, f1_4, c1_5, f1_5⟩ := cells6 h1
  try clear c2_0 f2_0 c2_1 f2_1
  obtain ⟨c2_0, f2_0, c2_1, f2_1⟩ := cells2 h2
  try clear c3_0 f3_0 c3_1 f3_1
  obtain ⟨c3_0, f3_0, c3_1, f3_1⟩ := cells2 h3
  try clear c4_0 f4_0 c4_1 f4_1
  obtain ⟨c4_0, f4_0, c4_1, f4_1⟩ := cells2 h4
  try clear c5_0 f5_0 c5_1 f5_1 c5_2 f5_2 c5_3 f5_3 c5_4 f5_4 c5_5 f5_5
  obtain ⟨c5_0, f5_0, c5_1, f5_1, c5_2, f5_2, c5_3, f5_3, c5_4, f5_4, c5_5, f5_5⟩ := cells6 h5
  try clear c6_0 f6_0 c6_1 f6_1 c6_2 f6_2 c6_3 f6_3 c6_4 f6_4 c6_5 f6_5
  obtain ⟨c6_0, f6_0, c6_1, f6_1, c6_2, f6_2, c6_3, f6_3, c6_4, f6_4, c6_5, f6_5⟩ := cells6 h6
  clear ha0 ca0_0 fa0_0 ca0_1 fa0_1 ca0_2 fa0_2 ca0_3 fa0_3 ca0_4 fa0_4 ca0_5 fa0_5
  clear ha1 ca1_0 fa1_0 ca1_1 fa1_1 ca1_2 fa1_2 ca1_3 fa1_3 ca1_4 fa1_4 ca1_5 fa1_5
  clear ha2 ca2_0 fa2_0 ca2_1 fa2_1
  clear ha3 ca3_0 fa3_0 ca3_1 fa3_1
  clear ha4 ca4_0 fa4_0 ca4_1 fa4_1
  clear ha5 ca5_0 fa5_0 ca5_1 fa5_1 ca5_2 fa5_2 ca5_3 fa5_3 ca5_4 fa5_4 ca5_5 fa5_5
  refine (H5.out _).mono ?_
  rintro e w9 ⟨rfl, hb⟩
  replace h0 : w9.heap[w.heap.size]? = some (.cells #[.int .i64 m.m.a, .int .i64 m.m.b, .int .i64 m.m.c, .int .i64 m.m.d, .int .i64 m.t.x, .int .i64 m.t.y] 49 (0, 0)) := hb_below hb (by repeat (first | exact h0 | (refine hb_new ?_; (first | omega | (simp; omega) | (simp; done))) | (refine hb_old ?_ ?_; rotate_left; focus (first | omega | (simp; omega) | (simp; done))) | refine hb_drew ?_)) (by first | omega | (simp; omega) | (simp; done))
  replace h1 : w9.heap[w.heap.size + 1]? = some (.cells #[.int .i64 n.m.a, .int .i64 n.m.b, .int .i64 n.m.c, .int .i64 n.m.d, .int .i64 n.t.x, .int .i64 n.t.y] 49 (0, 0)) := hb_below hb (by repeat (first | exact h1 | (refine hb_new ?_; (first | omega | (simp; omega) | (simp; done))) | (refine hb_old ?_ ?_; rotate_left; focus (first | omega | (simp; omega) | (simp; done))) | refine hb_drew ?_)) (by first | omega | (simp; omega) | (simp; done))
  replace h2 : w9.heap[w.heap.size + 1 + 1]? = some (.cells #[.int .i64 p.x, .int .i64 p.y] 25 (0, 0)) := hb_below hb (by repeat (first | exact h2 | (refine hb_new ?_; (first | omega | (simp; omega) | (simp; done))) | (refine hb_old ?_ ?_; rotate_left; focus (first | omega | (simp; omega) | (simp; done))) | refine hb_drew ?_)) (by first | omega | (simp; omega) | (simp; done))
  replace h3 : w9.heap[w1.heap.size]? = some (.cells #[.int .i64 q.x, .int .i64 q.y] 25 (0, 0)) := hb_below hb (by repeat (first | exact h3 | (refine hb_new ?_; (first | omega | (simp; omega) | (simp; done))) | (refine hb_old ?_ ?_; rotate_left; focus (first | omega | (simp; omega) | (simp; done))) | refine hb_drew ?_)) (by first | omega | (simp; omega) | (simp; done))
  replace h4 : w9.heap[w3.heap.size]? = some (.cells #[.int .i64 q.x, .int .i64 q.y] 25 (0, 0)) := hb_below hb (by repeat (first | exact h4 | (refine hb_new ?_; (first | omega | (simp; omega) | (simp; done))) | (refine hb_old ?_ ?_; rotate_left; focus (first | omega | (simp; omega) | (simp; done))) | refine hb_drew ?_)) (by first | omega | (simp; omega) | (simp; done))
  replace h5 : w9.heap[w5.heap.size]? = some (.cells #[.int .i64 c.m.a, .int .i64 c.m.b, .int .i64 c.m.c, .int .i64 c.m.d, .int .i64 c.t.x, .int .i64 c.t.y] 49 (0, 0)) := hb_below hb (by repeat (first | exact h5 | (refine hb_new ?_; (first | omega | (simp; omega) | (simp; done))) | (refine hb_old ?_ ?_; rotate_left; focus (first | omega | (simp; omega) | (simp; done))) | refine hb_drew ?_)) (by first | omega | (simp; omega) | (simp; done))
  replace h6 : w9.heap[w7.heap.size]? = some (.cells #[.int .i64 c.m.a, .int .i64 c.m.b, .int .i64 c.m.c, .int .i64 c.m.d, .int .i64 c.t.x, .int .i64 c.t.y] 49 (0, 0)) := hb_below hb (by repeat (first | exact h6 | (refine hb_new ?_; (first | omega | (simp; omega) | (simp; done))) | (refine hb_old ?_ ?_; rotate_left; focus (first | omega | (simp; omega) | (simp; done))) | refine hb_drew ?_)) (by first | omega | (simp; omega) | (simp; done))
  have y9 := Below.size hb
  try simp only [World.size_alloc, World.size_drew] at y9
  have D9 := Lib.hid (show Below w.heap.size w w9 from Below.trans (by repeat (first | exact D8.out | exact Below.refl _ _ | refine Below.alloc ?_ (by first | omega | (simp; omega) | (simp; done)) _)) (Below.mono hb (by first | omega | (simp; omega) | (simp; done))))
  have z9 := D9.out.size
  clear hb
  try clear c0_0 f0_0 c0_1 f0_1 c0_2 f0_2 c0_3 f0_3 c0_4 f0_4 c0_5 f0_5
  obtain ⟨c0_0, f0_0, c0_1, f0_1, c0_2, f0_2, c0_3, f0_3, c0_4, f0_4, c0_5, f0_5⟩ := cells6 h0
  try clear c1_0 f1_0 c1_1 f1_1 c1_2 f1_2 c1_3 f1_3 c1_4 f1_4 c1_5 f1_5
  obtain ⟨c1_0, f1_0, c1_1, f1_1, c1_2, f1_2, c1_3, f1_3, c1_4, f1_4, c1_5, f1_5⟩ := cells6 h1
  try clear c2_0 f2_0 c2_1 f2_1
  obtain ⟨c2_0, f2_0, c2_1, f2_1⟩ := cells2 h2
  try clear c3_0 f3_0 c3_1 f3_1
  obtain ⟨c3_0, f3_0, c3_1, f3_1⟩ := cells2 h3
  try clear c4_0 f4_0 c4_1 f4_1
  obtain ⟨c4_0, f4_0, c4_1, f4_1⟩ := cells2 h4
  try clear c5_0 f5_0 c5_1 f5_1 c5_2 f5_2 c5_3 f5_3 c5_4 f5_4 c5_5 f5_5
  obtain ⟨c5_0, f5_0, c5_1, f5_1, c5_2, f5_2, c5_3, f5_3, c5_4, f5_4, c5_5, f5_5⟩ := cells6 h5
  try clear c6_0 f6_0 c6_1 f6_1 c6_2 f6_2 c6_3 f6_3 c6_4 f6_4 c6_5 f6_5
  obtain ⟨c6_0, f6_0, c6_1, f6_1, c6_2, f6_2, c6_3, f6_3, c6_4, f6_4, c6_5, f6_5⟩ := cells6 h6
  go_wp2_with fail
  have q1 := (Below.heap_setCell w9 ⟨w5.heap.size, 0, none⟩ (.int .i64 v.m.a) (w.heap.size) (by first | omega | assumption | (apply Ne.symm; assumption) | (simp; done) | (simp; omega))).trans h0
  have q2 := (Below.heap_setCell w9 ⟨w5.heap.size, 0, none⟩ (.int .i64 v.m.a) (w.heap.size + 1) (by first | omega | assumption | (apply Ne.symm; assumption) | (simp; done) | (simp; omega))).trans h1
  have q3 := (Below.heap_setCell w9 ⟨w5.heap.size, 0, none⟩ (.int .i64 v.m.a) (w.heap.size + 1 + 1) (by first | omega | assumption | (apply Ne.symm; assumption) | (simp; done) | (simp; omega))).trans h2
  have q4 := (Below.heap_setCell w9 ⟨w5.heap.size, 0, none⟩ (.int .i64 v.m.a) (w1.heap.size) (by first | omega | assumption | (apply Ne.symm; assumption) | (simp; done) | (simp; omega))).trans h3
  have q5 := (Below.heap_setCell w9 ⟨w5.heap.size, 0, none⟩ (.int .i64 v.m.a) (w3.heap.size) (by first | omega | assumption | (apply Ne.symm; assumption) | (simp; done) | (simp; omega))).trans h4
  have q6 := heap_setCell_same w9 (w5.heap.size) 0 _ _ (.int .i64 v.m.a) h5
  have q7 := (Below.heap_setCell w9 ⟨w5.heap.size, 0, none⟩ (.int .i64 v.m.a) (w7.heap.size) (by first | omega | assumption | (apply Ne.symm; assumption) | (simp; done) | (simp; omega))).trans h6
  have q8 := (Below.heap_setCell (w9.setCell ⟨w5.heap.size, 0, none⟩ (.int .i64 v.m.a)) ⟨w5.heap.size, 1, none⟩ (.int .i64 v.m.b) (w.heap.size) (by first | omega | assumption | (apply Ne.symm; assumption) | (simp; done) | (simp; omega))).trans q1
  have q9 := (Below.heap_setCell (w9.setCell ⟨w5.heap.size, 0, none⟩ (.int .i64 v.m.a)) ⟨w5.heap.size, 1, none⟩ (.int .i64 v.m.b) (w.heap.size + 1) (by first | omega | assumption | (apply Ne.symm; assumption) | (simp; done) | (simp; omega))).trans q2
  have q10 := (Below.heap_setCell (w9.setCell ⟨w5.heap.size, 0, none⟩ (.int .i64 v.m.a)) ⟨w5.heap.size, 1, none⟩ (.int .i64 v.m.b) (w.heap.size + 1 + 1) (by first | omega | assumption | (apply Ne.symm; assumption) | (simp; done) | (simp; omega))).trans q3
  have q11 := (Below.heap_setCell (w9.setCell ⟨w5.heap.size, 0, none⟩ (.int .i64 v.m.a)) ⟨w5.heap.size, 1, none⟩ (.int .i64 v.m.b) (w1.heap.size) (by first | omega | assumption | (apply Ne.symm; assumption) | (simp; done) | (simp; omega))).trans q4
  have q12 := (Below.heap_setCell (w9.setCell ⟨w5.heap.size, 0, none⟩ (.int .i64 v.m.a)) ⟨w5.heap.size, 1, none⟩ (.int .i64 v.m.b) (w3.heap.size) (by first | omega | assumption | (apply Ne.symm; assumption) | (simp; done) | (simp; omega))).trans q5
  have q13 := heap_setCell_same (w9.setCell ⟨w5.heap.size, 0, none⟩ (.int .i64 v.m.a)) (w5.heap.size) 1 _ _ (.int .i64 v.m.b) q6
  have q14 := (Below.heap_setCell (w9.setCell ⟨w5.heap.size, 0, none⟩ (.int .i64 v.m.a)) ⟨w5.heap.size, 1, none⟩ (.int .i64 v.m.b) (w7.heap.size) (by first | omega | assumption | (apply Ne.symm; assumption) | (simp; done) | (simp; omega))).trans q7
  have q15 := (Below.heap_setCell ((w9.setCell ⟨w5.heap.size, 0, none⟩ (.int .i64 v.m.a)).setCell ⟨w5.heap.size, 1, none⟩ (.int .i64 v.m.b)) ⟨w5.heap.size, 2, none⟩ (.int .i64 v.m.c) (w.heap.size) (by first | omega | assumption | (apply Ne.symm; assumption) | (simp; done) | (simp; omega))).trans q8
  have q16 := (Below.heap_setCell ((w9.setCell ⟨w5.heap.size, 0, none⟩ (.int .i64 v.m.a)).setCell ⟨w5.heap.size, 1, none⟩ (.int .i64 v.m.b)) ⟨w5.heap.size, 2, none⟩ (.int .i64 v.m.c) (w.heap.size + 1) (by first | omega | assumption | (apply Ne.symm; assumption) | (simp; done) | (simp; omega))).trans q9
  have q17 := (Below.heap_setCell ((w9.setCell ⟨w5.heap.size, 0, none⟩ (.int .i64 v.m.a)).setCell ⟨w5.heap.size, 1, none⟩ (.int .i64 v.m.b)) ⟨w5.heap.size, 2, none⟩ (.int .i64 v.m.c) (w.heap.size + 1 + 1) (by first | omega | assumption | (apply Ne.symm; assumption) | (simp; done) | (simp; omega))).trans q10
  have q18 := (Below.heap_setCell ((w9.setCell ⟨w5.heap.size, 0, none⟩ (.int .i64 v.m.a)).setCell ⟨w5.heap.size, 1, none⟩ (.int .i64 v.m.b)) ⟨w5.heap.size, 2, none⟩ (.int .i64 v.m.c) (w1.heap.size) (by first | omega | assumption | (apply Ne.symm; assumption) | (simp; done) | (simp; omega))).trans q11
  have q19 := (Below.heap_setCell ((w9.setCell ⟨w5.heap.size, 0, none⟩ (.int .i64 v.m.a)).setCell ⟨w5.heap.size, 1, none⟩ (.int .i64 v.m.b)) ⟨w5.heap.size, 2, none⟩ (.int .i64 v.m.c) (w3.heap.size) (by first | omega | assumption | (apply Ne.symm; assumption) | (simp; done) | (simp; omega))).trans q12
  have q20 := heap_setCell_same ((w9.setCell ⟨w5.heap.size, 0, none⟩ (.int .i64 v.m.a)).setCell ⟨w5.heap.size, 1, none⟩ (.int .i64 v.m.b)) (w5.heap.size) 2 _ _ (.int .i64 v.m.c) q13
  have q21 := (Below.heap_setCell ((w9.setCell ⟨w5.heap.size, 0, none⟩ (.int .i64 v.m.a)).setCell ⟨w5.heap.size, 1, none⟩ (.int .i64 v.m.b)) ⟨w5.heap.size, 2, none⟩ (.int .i64 v.m.c) (w7.heap.size) (by first | omega | assumption | (apply Ne.symm; assumption) | (simp; done) | (simp; omega))).trans q14
  have q22 := (Below.heap_setCell (((w9.setCell ⟨w5.heap.size, 0, none⟩ (.int .i64 v.m.a)).setCell ⟨w5.heap.size, 1, none⟩ (.int .i64 v.m.b)).setCell ⟨w5.heap.size, 2, none⟩ (.int .i64 v.m.c)) ⟨w5.heap.size, 3, none⟩ (.int .i64 v.m.d) (w.heap.size) (by first | omega | assumption | (apply Ne.symm; assumption) | (simp; done) | (simp; omega))).trans q15
  have q23 := (Below.heap_setCell (((w9.setCell ⟨w5.heap.size, 0, none⟩ (.int .i64 v.m.a)).setCell ⟨w5.heap.size, 1, none⟩ (.int .i64 v.m.b)).setCell ⟨w5.heap.size, 2, none⟩ (.int .i64 v.m.c)) ⟨w5.heap.size, 3, none⟩ (.int .i64 v.m.d) (w.heap.size + 1) (by first | omega | assumption | (apply Ne.symm; assumption) | (simp; done) | (simp; omega))).trans q16
  have q24 := (Below.heap_setCell (((w9.setCell ⟨w5.heap.size, 0, none⟩ (.int .i64 v.m.a)).setCell ⟨w5.heap.size, 1, none⟩ (.int .i64 v.m.b)).setCell ⟨w5.heap.size, 2, none⟩ (.int .i64 v.m.c)) ⟨w5.heap.size, 3, none⟩ (.int .i64 v.m.d) (w.heap.size + 1 + 1) (by first | omega | assumption | (apply Ne.symm; assumption) | (simp; done) | (simp; omega))).trans q17
  have q25 := (Below.heap_setCell (((w9.setCell ⟨w5.heap.size, 0, none⟩ (.int .i64 v.m.a)).setCell ⟨w5.heap.size, 1, none⟩ (.int .i64 v.m.b)).setCell ⟨w5.heap.size, 2, none⟩ (.int .i64 v.m.c)) ⟨w5.heap.size, 3, none⟩ (.int .i64 v.m.d) (w1.heap.size) (by first | omega | assumption | (apply Ne.symm; assumption) | (simp; done) | (simp; omega))).trans q18
  have q26 := (Below.heap_setCell (((w9.setCell ⟨w5.heap.size, 0, none⟩ (.int .i64 v.m.a)).setCell ⟨w5.heap.size, 1, none⟩ (.int .i64 v.m.b)).setCell ⟨w5.heap.size, 2, none⟩ (.int .i64 v.m.c)) ⟨w5.heap.size, 3, none⟩ (.int .i64 v.m.d) (w3.heap.size) (by first | omega | assumption | (apply Ne.symm; assumption) | (simp; done) | (simp; omega))).trans q19
  have q27 := heap_setCell_same (((w9.setCell ⟨w5.heap.size, 0, none⟩ (.int .i64 v.m.a)).setCell ⟨w5.heap.size, 1, none⟩ (.int .i64 v.m.b)).setCell ⟨w5.heap.size, 2, none⟩ (.int .i64 v.m.c)) (w5.heap.size) 3 _ _ (.int .i64 v.m.d) q20
  have q28 := (Below.heap_setCell (((w9.setCell ⟨w5.heap.size, 0, none⟩ (.int .i64 v.m.a)).setCell ⟨w5.heap.size, 1, none⟩ (.int .i64 v.m.b)).setCell ⟨w5.heap.size, 2, none⟩ (.int .i64 v.m.c)) ⟨w5.heap.size, 3, none⟩ (.int .i64 v.m.d) (w7.heap.size) (by first | omega | assumption | (apply Ne.symm; assumption) | (simp; done) | (simp; omega))).trans q21
  have q29 := (Below.heap_setCell ((((w9.setCell ⟨w5.heap.size, 0, none⟩ (.int .i64 v.m.a)).setCell ⟨w5.heap.size, 1, none⟩ (.int .i64 v.m.b)).setCell ⟨w5.heap.size, 2, none⟩ (.int .i64 v.m.c)).setCell ⟨w5.heap.size, 3, none⟩ (.int .i64 v.m.d)) ⟨w5.heap.size, 4, none⟩ (.int .i64 v.t.x) (w.heap.size) (by first | omega | assumption | (apply Ne.symm; assumption) | (simp; done) | (simp; omega))).trans q22
  have q30 := (Below.heap_setCell ((((w9.setCell ⟨w5.heap.size, 0, none⟩ (.int .i64 v.m.a)).setCell ⟨w5.heap.size, 1, none⟩ (.int .i64 v.m.b)).setCell ⟨w5.heap.size, 2, none⟩ (.int .i64 v.m.c)).setCell ⟨w5.heap.size, 3, none⟩ (.int .i64 v.m.d)) ⟨w5.heap.size, 4, none⟩ (.int .i64 v.t.x) (w.heap.size + 1) (by first | omega | assumption | (apply Ne.symm; assumption) | (simp; done) | (simp; omega))).trans q23
  have q31 := (Below.heap_setCell ((((w9.setCell ⟨w5.heap.size, 0, none⟩ (.int .i64 v.m.a)).setCell ⟨w5.heap.size, 1, none⟩ (.int .i64 v.m.b)).setCell ⟨w5.heap.size, 2, none⟩ (.int .i64 v.m.c)).setCell ⟨w5.heap.size, 3, none⟩ (.int .i64 v.m.d)) ⟨w5.heap.size, 4, none⟩ (.int .i64 v.t.x) (w.heap.size + 1 + 1) (by first | omega | assumption | (apply Ne.symm; assumption) | (simp; done) | (simp; omega))).trans q24
  have q32 := (Below.heap_setCell ((((w9.setCell ⟨w5.heap.size, 0, none⟩ (.int .i64 v.m.a)).setCell ⟨w5.heap.size, 1, none⟩ (.int .i64 v.m.b)).setCell ⟨w5.heap.size, 2, none⟩ (.int .i64 v.m.c)).setCell ⟨w5.heap.size, 3, none⟩ (.int .i64 v.m.d)) ⟨w5.heap.size, 4, none⟩ (.int .i64 v.t.x) (w1.heap.size) (by first | omega | assumption | (apply Ne.symm; assumption) | (simp; done) | (simp; omega))).trans q25
  have q33 := (Below.heap_setCell ((((w9.setCell ⟨w5.heap.size, 0, none⟩ (.int .i64 v.m.a)).setCell ⟨w5.heap.size, 1, none⟩ (.int .i64 v.m.b)).setCell ⟨w5.heap.size, 2, none⟩ (.int .i64 v.m.c)).setCell ⟨w5.heap.size, 3, none⟩ (.int .i64 v.m.d)) ⟨w5.heap.size, 4, none⟩ (.int .i64 v.t.x) (w3.heap.size) (by first | omega | assumption | (apply Ne.symm; assumption) | (simp; done) | (simp; omega))).trans q26
  have q34 := heap_setCell_same ((((w9.setCell ⟨w5.heap.size, 0, none⟩ (.int .i64 v.m.a)).setCell ⟨w5.heap.size, 1, none⟩ (.int .i64 v.m.b)).setCell ⟨w5.heap.size, 2, none⟩ (.int .i64 v.m.c)).setCell ⟨w5.heap.size, 3, none⟩ (.int .i64 v.m.d)) (w5.heap.size) 4 _ _ (.int .i64 v.t.x) q27
  have q35 := (Below.heap_setCell ((((w9.setCell ⟨w5.heap.size, 0, none⟩ (.int .i64 v.m.a)).setCell ⟨w5.heap.size, 1, none⟩ (.int .i64 v.m.b)).setCell ⟨w5.heap.size, 2, none⟩ (.int .i64 v.m.c)).setCell ⟨w5.heap.size, 3, none⟩ (.int .i64 v.m.d)) ⟨w5.heap.size, 4, none⟩ (.int .i64 v.t.x) (w7.heap.size) (by first | omega | assumption | (apply Ne.symm; assumption) | (simp; done) | (simp; omega))).trans q28
  have q36 := (Below.heap_setCell (((((w9.setCell ⟨w5.heap.size, 0, none⟩ (.int .i64 v.m.a)).setCell ⟨w5.heap.size, 1, none⟩ (.int .i64 v.m.b)).setCell ⟨w5.heap.size, 2, none⟩ (.int .i64 v.m.c)).setCell ⟨w5.heap.size, 3, none⟩ (.int .i64 v.m.d)).setCell ⟨w5.heap.size, 4, none⟩ (.int .i64 v.t.x)) ⟨w5.heap.size, 5, none⟩ (.int .i64 v.t.y) (w.heap.size) (by first | omega | assumption | (apply Ne.symm; assumption) | (simp; done) | (simp; omega))).trans q29
  have q37 := (Below.heap_setCell (((((w9.setCell ⟨w5.heap.size, 0, none⟩ (.int .i64 v.m.a)).setCell ⟨w5.heap.size, 1, none⟩ (.int .i64 v.m.b)).setCell ⟨w5.heap.size, 2, none⟩ (.int .i64 v.m.c)).setCell ⟨w5.heap.size, 3, none⟩ (.int .i64 v.m.d)).setCell ⟨w5.heap.size, 4, none⟩ (.int .i64 v.t.x)) ⟨w5.heap.size, 5, none⟩ (.int .i64 v.t.y) (w.heap.size + 1) (by first | omega | assumption | (apply Ne.symm; assumption) | (simp; done) | (simp; omega))).trans q30
  have q38 := (Below.heap_setCell (((((w9.setCell ⟨w5.heap.size, 0, none⟩ (.int .i64 v.m.a)).setCell ⟨w5.heap.size, 1, none⟩ (.int .i64 v.m.b)).setCell ⟨w5.heap.size, 2, none⟩ (.int .i64 v.m.c)).setCell ⟨w5.heap.size, 3, none⟩ (.int .i64 v.m.d)).setCell ⟨w5.heap.size, 4, none⟩ (.int .i64 v.t.x)) ⟨w5.heap.size, 5, none⟩ (.int .i64 v.t.y) (w.heap.size + 1 + 1) (by first | omega | assumption | (apply Ne.symm; assumption) | (simp; done) | (simp; omega))).trans q31
  have q39 := (Below.heap_setCell (((((w9.setCell ⟨w5.heap.size, 0, none⟩ (.int .i64 v.m.a)).setCell ⟨w5.heap.size, 1, none⟩ (.int .i64 v.m.b)).setCell ⟨w5.heap.size, 2, none⟩ (.int .i64 v.m.c)).setCell ⟨w5.heap.size, 3, none⟩ (.int .i64 v.m.d)).setCell ⟨w5.heap.size, 4, none⟩ (.int .i64 v.t.x)) ⟨w5.heap.size, 5, none⟩ (.int .i64 v.t.y) (w1.heap.size) (by first | omega | assumption | (apply Ne.symm; assumption) | (simp; done) | (simp; omega))).trans q32
  have q40 := (Below.heap_setCell (((((w9.setCell ⟨w5.heap.size, 0, none⟩ (.int .i64 v.m.a)).setCell ⟨w5.heap.size, 1, none⟩ (.int .i64 v.m.b)).setCell ⟨w5.heap.size, 2, none⟩ (.int .i64 v.m.c)).setCell ⟨w5.heap.size, 3, none⟩ (.int .i64 v.m.d)).setCell ⟨w5.heap.size, 4, none⟩ (.int .i64 v.t.x)) ⟨w5.heap.size, 5, none⟩ (.int .i64 v.t.y) (w3.heap.size) (by first | omega | assumption | (apply Ne.symm; assumption) | (simp; done) | (simp; omega))).trans q33
  have q41 := heap_setCell_same (((((w9.setCell ⟨w5.heap.size, 0, none⟩ (.int .i64 v.m.a)).setCell ⟨w5.heap.size, 1, none⟩ (.int .i64 v.m.b)).setCell ⟨w5.heap.size, 2, none⟩ (.int .i64 v.m.c)).setCell ⟨w5.heap.size, 3, none⟩ (.int .i64 v.m.d)).setCell ⟨w5.heap.size, 4, none⟩ (.int .i64 v.t.x)) (w5.heap.size) 5 _ _ (.int .i64 v.t.y) q34
  have q42 := (Below.heap_setCell (((((w9.setCell ⟨w5.heap.size, 0, none⟩ (.int .i64 v.m.a)).setCell ⟨w5.heap.size, 1, none⟩ (.int .i64 v.m.b)).setCell ⟨w5.heap.size, 2, none⟩ (.int .i64 v.m.c)).setCell ⟨w5.heap.size, 3, none⟩ (.int .i64 v.m.d)).setCell ⟨w5.heap.size, 4, none⟩ (.int .i64 v.t.x)) ⟨w5.heap.size, 5, none⟩ (.int .i64 v.t.y) (w7.heap.size) (by first | omega | assumption | (apply Ne.symm; assumption) | (simp; done) | (simp; omega))).trans q35
  obtain ⟨w10, hw10⟩ : ∃ W, W = ((((((w9.setCell ⟨w5.heap.size, 0, none⟩ (.int .i64 v.m.a)).setCell ⟨w5.heap.size, 1, none⟩ (.int .i64 v.m.b)).setCell ⟨w5.heap.size, 2, none⟩ (.int .i64 v.m.c)).setCell ⟨w5.heap.size, 3, none⟩ (.int .i64 v.m.d)).setCell ⟨w5.heap.size, 4, none⟩ (.int .i64 v.t.x)).setCell ⟨w5.heap.size, 5, none⟩ (.int .i64 v.t.y)) := ⟨_, rfl⟩
  rw [← hw10]
  replace h0 : w10.heap[w.heap.size]? = some (.cells #[.int .i64 m.m.a, .int .i64 m.m.b, .int .i64 m.m.c, .int .i64 m.m.d, .int .i64 m.t.x, .int .i64 m.t.y] 49 (0, 0)) := by rw [hw10]; exact q36
  replace h1 : w10.heap[w.heap.size + 1]? = some (.cells #[.int .i64 n.m.a, .int .i64 n.m.b, .int .i64 n.m.c, .int .i64 n.m.d, .int .i64 n.t.x, .int .i64 n.t.y] 49 (0, 0)) := by rw [hw10]; exact q37
  replace h2 : w10.heap[w.heap.size + 1 + 1]? = some (.cells #[.int .i64 p.x, .int .i64 p.y] 25 (0, 0)) := by rw [hw10]; exact q38
  replace h3 : w10.heap[w1.heap.size]? = some (.cells #[.int .i64 q.x, .int .i64 q.y] 25 (0, 0)) := by rw [hw10]; exact q39
  replace h4 : w10.heap[w3.heap.size]? = some (.cells #[.int .i64 q.x, .int .i64 q.y] 25 (0, 0)) := by rw [hw10]; exact q40
  replace h5 : w10.heap[w5.heap.size]? = some (.cells #[.int .i64 v.m.a, .int .i64 v.m.b, .int .i64 v.m.c, .int .i64 v.m.d, .int .i64 v.t.x, .int .i64 v.t.y] 49 (0, 0)) := by rw [hw10]; exact q41
  replace h6 : w10.heap[w7.heap.size]? = some (.cells #[.int .i64 c.m.a, .int .i64 c.m.b, .int .i64 c.m.c, .int .i64 c.m.d, .int .i64 c.t.x, .int .i64 c.t.y] 49 (0, 0)) := by rw [hw10]; exact q42
  have D10 := Lib.hid (show Below w.heap.size w w10 by rw [hw10]; exact (Below.setCell (Below.setCell (Below.setCell (Below.setCell (Below.setCell (Below.setCell D9.out (p := ⟨w5.heap.size, 0, none⟩) (by first | omega | (simp; done) | (simp; omega)) (.int .i64 v.m.a)) (p := ⟨w5.heap.size, 1, none⟩) (by first | omega | (simp; done) | (simp; omega)) (.int .i64 v.m.b)) (p := ⟨w5.heap.size, 2, none⟩) (by first | omega | (simp; done) | (simp; omega)) (.int .i64 v.m.c)) (p := ⟨w5.heap.size, 3, none⟩) (by first | omega | (simp; done) | (simp; omega)) (.int .i64 v.m.d)) (p := ⟨w5.heap.size, 4, none⟩) (by first | omega | (simp; done) | (simp; omega)) (.int .i64 v.t.x)) (p := ⟨w5.heap.size, 5, none⟩) (by first | omega | (simp; done) | (simp; omega)) (.int .i64 v.t.y)))
  have z10 := D10.out.size
  have y10 : w10.heap.size = w9.heap.size := by rw [hw10]; simp
  clear q42 q41 q40 q39 q38 q37 q36 q35 q34 q33 q32 q31 q30 q29 q28 q27 q26 q25 q24 q23 q22 q21 q20 q19 q18 q17 q16 q15 q14 q13 q12 q11 q10 q9 q8 q7 q6 q5 q4 q3 q2 q1 hw10
  try clear c0_0 f0_0 c0_1 f0_1 c0_2 f0_2 c0_3 f0_3 c0_4 f0_4 c0_5 f0_5
  obtain ⟨c0_0, f0_0, c0_1, f0_1, c0_2, f0_2, c0_3, f0_3, c0_4, f0_4, c0_5, f0_5⟩ := cells6 h0
  try clear c1_0 f1_0 c1_1 f1_1 c1_2 f1_2 c1_3 f1_3 c1_4 f1_4 c1_5 f1_5
  obtain ⟨c1_0, f1_0, c1_1, f1_1, c1_2, f1_2, c1_3, f1_3, c1_4, f1_4, c1_5, f1_5⟩ := cells6 h1
  try clear c2_0 f2_0 c2_1 f2_1
  obtain ⟨c2_0, f2_0, c2_1, f2_1⟩ := cells2 h2
  try clear c3_0 f3_0 c3_1 f3_1
  obtain ⟨c3_0, f3_0, c3_1, f3_1⟩ := cells2 h3
  try clear c4_0 f4_0 c4_1 f4_1
  obtain ⟨c4_0, f4_0, c4_1, f4_1⟩ := cells2 h4
  try clear c5_0 f5_0 c5_1 f5_1 c5_2 f5_2 c5_3 f5_3 c5_4 f5_4 c5_5 f5_5
  obtain ⟨c5_0, f5_0, c5_1, f5_1, c5_2, f5_2, c5_3, f5_3, c5_4, f5_4, c5_5, f5_5⟩ := cells6 h5
  try clear c6_0 f6_0 c6_1 f6_1 c6_2 f6_2 c6_3 f6_3 c6_4 f6_4 c6_5 f6_5
  obtain ⟨c6_0, f6_0, c6_1, f6_1, c6_2, f6_2, c6_3, f6_3, c6_4, f6_4, c6_5, f6_5⟩ := cells6 h6
  refine (H6.out _).mono ?_
  rintro e w11 ⟨rfl, hb⟩
  replace h0 : w11.heap[w.heap.size]? = some (.cells #[.int .i64 m.m.a, .int .i64 m.m.b, .int .i64 m.m.c, .int .i64 m.m.d, .int .i64 m.t.x, .int .i64 m.t.y] 49 (0, 0)) := hb_below hb (by repeat (first | exact h0 | (refine hb_new ?_; (first | omega | (simp; omega) | (simp; done))) | (refine hb_old ?_ ?_; rotate_left; focus (first | omega | (simp; omega) | (simp; done))) | refine hb_drew ?_)) (by first | omega | (simp; omega) | (simp; done))
  replace h1 : w11.heap[w.heap.size + 1]? = some (.cells #[.int .i64 n.m.a, .int .i64 n.m.b, .int .i64 n.m.c, .int .i64 n.m.d, .int .i64 n.t.x, .int .i64 n.t.y] 49 (0, 0)) := hb_below hb (by repeat (first | exact h1 | (refine hb_new ?_; (first | omega | (simp; omega) | (simp; done))) | (refine hb_old ?_ ?_; rotate_left; focus (first | omega | (simp; omega) | (simp; done))) | refine hb_drew ?_)) (by first | omega | (simp; omega) | (simp; done))
  replace h2 : w11.heap[w.heap.size + 1 + 1]? = some (.cells #[.int .i64 p.x, .int .i64 p.y] 25 (0, 0)) := hb_below hb (by repeat (first | exact h2 | (refine hb_new ?_; (first | omega | (simp; omega) | (simp; done))) | (refine hb_old ?_ ?_; rotate_left; focus (first | omega | (simp; omega) | (simp; done))) | refine hb_drew ?_)) (by first | omega | (simp; omega) | (simp; done))
  replace h3 : w11.heap[w1.heap.size]? = some (.cells #[.int .i64 q.x, .int .i64 q.y] 25 (0, 0)) := hb_below hb (by repeat (first | exact h3 | (refine hb_new ?_; (first | omega | (simp; omega) | (simp; done))) | (refine hb_old ?_ ?_; rotate_left; focus (first | omega | (simp; omega) | (simp; done))) | refine hb_drew ?_)) (by first | omega | (simp; omega) | (simp; done))
  replace h4 : w11.heap[w3.heap.size]? = some (.cells #[.int .i64 q.x, .int .i64 q.y] 25 (0, 0)) := hb_below hb (by repeat (first | exact h4 | (refine hb_new ?_; (first | omega | (simp; omega) | (simp; done))) | (refine hb_old ?_ ?_; rotate_left; focus (first | omega | (simp; omega) | (simp; done))) | refine hb_drew ?_)) (by first | omega | (simp; omega) | (simp; done))
  replace h5 : w11.heap[w5.heap.size]? = some (.cells #[.int .i64 v.m.a, .int .i64 v.m.b, .int .i64 v.m.c, .int .i64 v.m.d, .int .i64 v.t.x, .int .i64 v.t.y] 49 (0, 0)) := hb_below hb (by repeat (first | exact h5 | (refine hb_new ?_; (first | omega | (simp; omega) | (simp; done))) | (refine hb_old ?_ ?_; rotate_left; focus (first | omega | (simp; omega) | (simp; done))) | refine hb_drew ?_)) (by first | omega | (simp; omega) | (simp; done))
  replace h6 : w11.heap[w7.heap.size]? = some (.cells #[.int .i64 c.m.a, .int .i64 c.m.b, .int .i64 c.m.c, .int .i64 c.m.d, .int .i64 c.t.x, .int .i64 c.t.y] 49 (0, 0)) := hb_below hb (by repeat (first | exact h6 | (refine hb_new ?_; (first | omega | (simp; omega) | (simp; done))) | (refine hb_old ?_ ?_; rotate_left; focus (first | omega | (simp; omega) | (simp; done))) | refine hb_drew ?_)) (by first | omega | (simp; omega) | (simp; done))
  have y11 := Below.size hb
  try simp only [World.size_alloc, World.size_drew] at y11
  have D11 := Lib.hid (show Below w.heap.size w w11 from Below.trans (by repeat (first | exact D10.out | exact Below.refl _ _ | refine Below.alloc ?_ (by first | omega | (simp; omega) | (simp; done)) _)) (Below.mono hb (by first | omega | (simp; omega) | (simp; done))))
  have z11 := D11.out.size
  clear hb
  try clear c0_0 f0_0 c0_1 f0_1 c0_2 f0_2 c0_3 f0_3 c0_4 f0_4 c0_5 f0_5
  obtain ⟨c0_0, f0_0, c0_1, f0_1, c0_2, f0_2, c0_3, f0_3, c0_4, f0_4, c0_5, f0_5⟩ := cells6 h0
  try clear c1_0 f1_0 c1_1 f1_1 c1_2 f1_2 c1_3 f1_3 c1_4 f1_4 c1_5 f1_5
  obtain ⟨c1_0, f1_0, c1_1, f1_1, c1_2, f1_2, c1_3, f1_3, c1_4, f1_4, c1_5, f1_5⟩ := cells6 h1
  try clear c2_0 f2_0 c2_1 f2_1
  obtain ⟨c2_0, f2_0, c2_1, f2_1⟩ := cells2 h2
  try clear c3_0 f3_0 c3_1 f3_1
  obtain ⟨c3_0, f3_0, c3_1, f3_1⟩ := cells2 h3
  try clear c4_0 f4_0 c4_1 f4_1
  obtain ⟨c4_0, f4_0, c4_1, f4_1⟩ := cells2 h4
  try clear c5_0 f5_0 c5_1 f5_1 c5_2 f5_2 c5_3 f5_3 c5_4 f5_4 c5_5 f5_5
  obtain ⟨c5_0, f5_0, c5_1, f5_1, c5_2, f5_2, c5_3, f5_3, c5_4, f5_4, c5_5, f5_5⟩ := cells6 h5
  try clear c6_0 f6_0 c6_1 f6_1 c6_2 f6_2 c6_3 f6_3 c6_4 f6_4 c6_5 f6_5
  obtain ⟨c6_0, f6_0, c6_1, f6_1, c6_2, f6_2, c6_3, f6_3, c6_4, f6_4, c6_5, f6_5⟩ := cells6 h6
  go_wp2_with fail
  have q1 := (Below.heap_setCell w11 ⟨w7.heap.size, 0, none⟩ (.int .i64 v.m.a) (w.heap.size) (by first | omega | assumption | (apply Ne.symm; assumption) | (simp; done) | (simp; omega))).trans h0
  have q2 := (Below.heap_setCell w11 ⟨w7.heap.size, 0, none⟩ (.int .i64 v.m.a) (w.heap.size + 1) (by first | omega | assumption | (apply Ne.symm; assumption) | (simp; done) | (simp; omega))).trans h1
  have q3 := (Below.heap_setCell w11 ⟨w7.heap.size, 0, none⟩ (.int .i64 v.m.a) (w.heap.size + 1 + 1) (by first | omega | assumption | (apply Ne.symm; assumption) | (simp; done) | (simp; omega))).trans h2
  have q4 := (Below.heap_setCell w11 ⟨w7.heap.size, 0, none⟩ (.int .i64 v.m.a) (w1.heap.size) (by first | omega | assumption | (apply Ne.symm; assumption) | (simp; done) | (simp; omega))).trans h3
  have q5 := (Below.heap_setCell w11 ⟨w7.heap.size, 0, none⟩ (.int .i64 v.m.a) (w3.heap.size) (by first | omega | assumption | (apply Ne.symm; assumption) | (simp; done) | (simp; omega))).trans h4
  have q6 := (Below.heap_setCell w11 ⟨w7.heap.size, 0, none⟩ (.int .i64 v.m.a) (w5.heap.size) (by first | omega | assumption | (apply Ne.symm; assumption) | (simp; done) | (simp; omega))).trans h5
  have q7 := heap_setCell_same w11 (w7.heap.size) 0 _ _ (.int .i64 v.m.a) h6
  have q8 := (Below.heap_setCell (w11.setCell ⟨w7.heap.size, 0, none⟩ (.int .i64 v.m.a)) ⟨w7.heap.size, 1, none⟩ (.int .i64 v.m.b) (w.heap.size) (by first | omega | assumption | (apply Ne.symm; assumption) | (simp; done) | (simp; omega))).trans q1
  have q9 := (Below.heap_setCell (w11.setCell ⟨w7.heap.size, 0, none⟩ (.int .i64 v.m.a)) ⟨w7.heap.size, 1, none⟩ (.int .i64 v.m.b) (w.heap.size + 1) (by first | omega | assumption | (apply Ne.symm; assumption) | (simp; done) | (simp; omega))).trans q2
  have q10 := (Below.heap_setCell (w11.setCell ⟨w7.heap.size, 0, none⟩ (.int .i64 v.m.a)) ⟨w7.heap.size, 1, none⟩ (.int .i64 v.m.b) (w.heap.size + 1 + 1) (by first | omega | assumption | (apply Ne.symm; assumption) | (simp; done) | (simp; omega))).trans q3
  have q11 := (Below.heap_setCell (w11.setCell ⟨w7.heap.size, 0, none⟩ (.int .i64 v.m.a)) ⟨w7.heap.size, 1, none⟩ (.int .i64 v.m.b) (w1.heap.size) (by first | omega | assumption | (apply Ne.symm; assumption) | (simp; done) | (simp; omega))).trans q4
  have q12 := (Below.heap_setCell (w11.setCell ⟨w7.heap.size, 0, none⟩ (.int .i64 v.m.a)) ⟨w7.heap.size, 1, none⟩ (.int .i64 v.m.b) (w3.heap.size) (by first | omega | assumption | (apply Ne.symm; assumption) | (simp; done) | (simp; omega))).trans q5
  have q13 := (Below.heap_setCell (w11.setCell ⟨w7.heap.size, 0, none⟩ (.int .i64 v.m.a)) ⟨w7.heap.size, 1, none⟩ (.int .i64 v.m.b) (w5.heap.size) (by first | omega | assumption | (apply Ne.symm; assumption) | (simp; done) | (simp; omega))).trans q6
  have q14 := heap_setCell_same (w11.setCell ⟨w7.heap.size, 0, none⟩ (.int .i64 v.m.a)) (w7.heap.size) 1 _ _ (.int .i64 v.m.b) q7
  have q15 := (Below.heap_setCell ((w11.setCell ⟨w7.heap.size, 0, none⟩ (.int .i64 v.m.a)).setCell ⟨w7.heap.size, 1, none⟩ (.int .i64 v.m.b)) ⟨w7.heap.size, 2, none⟩ (.int .i64 v.m.c) (w.heap.size) (by first | omega | assumption | (apply Ne.symm; assumption) | (simp; done) | (simp; omega))).trans q8
  have q16 := (Below.heap_setCell ((w11.setCell ⟨w7.heap.size, 0, none⟩ (.int .i64 v.m.a)).setCell ⟨w7.heap.size, 1, none⟩ (.int .i64 v.m.b)) ⟨w7.heap.size, 2, none⟩ (.int .i64 v.m.c) (w.heap.size + 1) (by first | omega | assumption | (apply Ne.symm; assumption) | (simp; done) | (simp; omega))).trans q9
  have q17 := (Below.heap_setCell ((w11.setCell ⟨w7.heap.size, 0, none⟩ (.int .i64 v.m.a)).setCell ⟨w7.heap.size, 1, none⟩ (.int .i64 v.m.b)) ⟨w7.heap.size, 2, none⟩ (.int .i64 v.m.c) (w.heap.size + 1 + 1) (by first | omega | assumption | (apply Ne.symm; assumption) | (simp; done) | (simp; omega))).trans q10
  have q18 := (Below.heap_setCell ((w11.setCell ⟨w7.heap.size, 0, none⟩ (.int .i64 v.m.a)).setCell ⟨w7.heap.size, 1, none⟩ (.int .i64 v.m.b)) ⟨w7.heap.size, 2, none⟩ (.int .i64 v.m.c) (w1.heap.size) (by first | omega | assumption | (apply Ne.symm; assumption) | (simp; done) | (simp; omega))).trans q11
  have q19 := (Below.heap_setCell ((w11.setCell ⟨w7.heap.size, 0, none⟩ (.int .i64 v.m.a)).setCell ⟨w7.heap.size, 1, none⟩ (.int .i64 v.m.b)) ⟨w7.heap.size, 2, none⟩ (.int .i64 v.m.c) (w3.heap.size) (by first | omega | assumption | (apply Ne.symm; assumption) | (simp; done) | (simp; omega))).trans q12
  have q20 := (Below.heap_setCell ((w11.setCell ⟨w7.heap.size, 0, none⟩ (.int .i64 v.m.a)).setCell ⟨w7.heap.size, 1, none⟩ (.int .i64 v.m.b)) ⟨w7.heap.size, 2, none⟩ (.int .i64 v.m.c) (w5.heap.size) (by first | omega | assumption | (apply Ne.symm; assumption) | (simp; done) | (simp; omega))).trans q13
  have q21 := heap_setCell_same ((w11.setCell ⟨w7.heap.size, 0, none⟩ (.int .i64 v.m.a)).setCell ⟨w7.heap.size, 1, none⟩ (.int .i64 v.m.b)) (w7.heap.size) 2 _ _ (.int .i64 v.m.c) q14
  have q22 := (Below.heap_setCell (((w11.setCell ⟨w7.heap.size, 0, none⟩ (.int .i64 v.m.a)).setCell ⟨w7.heap.size, 1, none⟩ (.int .i64 v.m.b)).setCell ⟨w7.heap.size, 2, none⟩ (.int .i64 v.m.c)) ⟨w7.heap.size, 3, none⟩ (.int .i64 v.m.d) (w.heap.size) (by first | omega | assumption | (apply Ne.symm; assumption) | (simp; done) | (simp; omega))).trans q15
  have q23 := (Below.heap_setCell (((w11.setCell ⟨w7.heap.size, 0, none⟩ (.int .i64 v.m.a)).setCell ⟨w7.heap.size, 1, none⟩ (.int .i64 v.m.b)).setCell ⟨w7.heap.size, 2, none⟩ (.int .i64 v.m.c)) ⟨w7.heap.size, 3, none⟩ (.int .i64 v.m.d) (w.heap.size + 1) (by first | omega | assumption | (apply Ne.symm; assumption) | (simp; done) | (simp; omega))).trans q16
  have q24 := (Below.heap_setCell (((w11.setCell ⟨w7.heap.size, 0, none⟩ (.int .i64 v.m.a)).setCell ⟨w7.heap.size, 1, none⟩ (.int .i64 v.m.b)).setCell ⟨w7.heap.size, 2, none⟩ (.int .i64 v.m.c)) ⟨w7.heap.size, 3, none⟩ (.int .i64 v.m.d) (w.heap.size + 1 + 1) (by first | omega | assumption | (apply Ne.symm; assumption) | (simp; done) | (simp; omega))).trans q17
  have q25 := (Below.heap_setCell (((w11.setCell ⟨w7.heap.size, 0, none⟩ (.int .i64 v.m.a)).setCell ⟨w7.heap.size, 1, none⟩ (.int .i64 v.m.b)).setCell ⟨w7.heap.size, 2, none⟩ (.int .i64 v.m.c)) ⟨w7.heap.size, 3, none⟩ (.int .i64 v.m.d) (w1.heap.size) (by first | omega | assumption | (apply Ne.symm; assumption) | (simp; done) | (simp; omega))).trans q18
  have q26 := (Below.heap_setCell (((w11.setCell ⟨w7.heap.size, 0, none⟩ (.int .i64 v.m.a)).setCell ⟨w7.heap.size, 1, none⟩ (.int .i64 v.m.b)).setCell ⟨w7.heap.size, 2, none⟩ (.int .i64 v.m.c)) ⟨w7.heap.size, 3, none⟩ (.int .i64 v.m.d) (w3.heap.size) (by first | omega | assumption | (apply Ne.symm; assumption) | (simp; done) | (simp; omega))).trans q19
  have q27 := (Below.heap_setCell (((w11.setCell ⟨w7.heap.size, 0, none⟩ (.int .i64 v.m.a)).setCell ⟨w7.heap.size, 1, none⟩ (.int .i64 v.m.b)).setCell ⟨w7.heap.size, 2, none⟩ (.int .i64 v.m.c)) ⟨w7.heap.size, 3, none⟩ (.int .i64 v.m.d) (w5.heap.size) (by first | omega | assumption | (apply Ne.symm; assumption) | (simp; done) | (simp; omega))).trans q20
  have q28 := heap_setCell_same (((w11.setCell ⟨w7.heap.size, 0, none⟩ (.int .i64 v.m.a)).setCell ⟨w7.heap.size, 1, none⟩ (.int .i64 v.m.b)).setCell ⟨w7.heap.size, 2, none⟩ (.int .i64 v.m.c)) (w7.heap.size) 3 _ _ (.int .i64 v.m.d) q21
  have q29 := (Below.heap_setCell ((((w11.setCell ⟨w7.heap.size, 0, none⟩ (.int .i64 v.m.a)).setCell ⟨w7.heap.size, 1, none⟩ (.int .i64 v.m.b)).setCell ⟨w7.heap.size, 2, none⟩ (.int .i64 v.m.c)).setCell ⟨w7.heap.size, 3, none⟩ (.int .i64 v.m.d)) ⟨w7.heap.size, 4, none⟩ (.int .i64 v.t.x) (w.heap.size) (by first | omega | assumption | (apply Ne.symm; assumption) | (simp; done) | (simp; omega))).trans q22
  have q30 := (Below.heap_setCell ((((w11.setCell ⟨w7.heap.size, 0, none⟩ (.int .i64 v.m.a)).setCell ⟨w7.heap.size, 1, none⟩ (.int .i64 v.m.b)).setCell ⟨w7.heap.size, 2, none⟩ (.int .i64 v.m.c)).setCell ⟨w7.heap.size, 3, none⟩ (.int .i64 v.m.d)) ⟨w7.heap.size, 4, none⟩ (.int .i64 v.t.x) (w.heap.size + 1) (by first | omega | assumption | (apply Ne.symm; assumption) | (simp; done) | (simp; omega))).trans q23
  have q31 := (Below.heap_setCell ((((w11.setCell ⟨w7.heap.size, 0, none⟩ (.int .i64 v.m.a)).setCell ⟨w7.heap.size, 1, none⟩ (.int .i64 v.m.b)).setCell ⟨w7.heap.size, 2, none⟩ (.int .i64 v.m.c)).setCell ⟨w7.heap.size, 3, none⟩ (.int .i64 v.m.d)) ⟨w7.heap.size, 4, none⟩ (.int .i64 v.t.x) (w.heap.size + 1 + 1) (by first | omega | assumption | (apply Ne.symm; assumption) | (simp; done) | (simp; omega))).trans q24
  have q32 := (Below.heap_setCell ((((w11.setCell ⟨w7.heap.size, 0, none⟩ (.int .i64 v.m.a)).setCell ⟨w7.heap.size, 1, none⟩ (.int .i64 v.m.b)).setCell ⟨w7.heap.size, 2, none⟩ (.int .i64 v.m.c)).setCell ⟨w7.heap.size, 3, none⟩ (.int .i64 v.m.d)) ⟨w7.heap.size, 4, none⟩ (.int .i64 v.t.x) (w1.heap.size) (by first | omega | assumption | (apply Ne.symm; assumption) | (simp; done) | (simp; omega))).trans q25
  have q33 := (Below.heap_setCell ((((w11.setCell ⟨w7.heap.size, 0, none⟩ (.int .i64 v.m.a)).setCell ⟨w7.heap.size, 1, none⟩ (.int .i64 v.m.b)).setCell ⟨w7.heap.size, 2, none⟩ (.int .i64 v.m.c)).setCell ⟨w7.heap.size, 3, none⟩ (.int .i64 v.m.d)) ⟨w7.heap.size, 4, none⟩ (.int .i64 v.t.x) (w3.heap.size) (by first | omega | assumption | (apply Ne.symm; assumption) | (simp; done) | (simp; omega))).trans q26
  have q34 := (Below.heap_setCell ((((w11.setCell ⟨w7.heap.size, 0, none⟩ (.int .i64 v.m.a)).setCell ⟨w7.heap.size, 1, none⟩ (.int .i64 v.m.b)).setCell ⟨w7.heap.size, 2, none⟩ (.int .i64 v.m.c)).setCell ⟨w7.heap.size, 3, none⟩ (.int .i64 v.m.d)) ⟨w7.heap.size, 4, none⟩ (.int .i64 v.t.x) (w5.heap.size) (by first | omega | assumption | (apply Ne.symm; assumption) | (simp; done) | (simp; omega))).trans q27
  have q35 := heap_setCell_same ((((w11.setCell ⟨w7.heap.size, 0, none⟩ (.int .i64 v.m.a)).setCell ⟨w7.heap.size, 1, none⟩ (.int .i64 v.m.b)).setCell ⟨w7.heap.size, 2, none⟩ (.int .i64 v.m.c)).setCell ⟨w7.heap.size, 3, none⟩ (.int .i64 v.m.d)) (w7.heap.size) 4 _ _ (.int .i64 v.t.x) q28
  have q36 := (Below.heap_setCell (((((w11.setCell ⟨w7.heap.size, 0, none⟩ (.int .i64 v.m.a)).setCell ⟨w7.heap.size, 1, none⟩ (.int .i64 v.m.b)).setCell ⟨w7.heap.size, 2, none⟩ (.int .i64 v.m.c)).setCell ⟨w7.heap.size, 3, none⟩ (.int .i64 v.m.d)).setCell ⟨w7.heap.size, 4, none⟩ (.int .i64 v.t.x)) ⟨w7.heap.size, 5, none⟩ (.int .i64 v.t.y) (w.heap.size) (by first | omega | assumption | (apply Ne.symm; assumption) | (simp; done) | (simp; omega))).trans q29
  have q37 := (Below.heap_setCell (((((w11.setCell ⟨w7.heap.size, 0, none⟩ (.int .i64 v.m.a)).setCell ⟨w7.heap.size, 1, none⟩ (.int .i64 v.m.b)).setCell ⟨w7.heap.size, 2, none⟩ (.int .i64 v.m.c)).setCell ⟨w7.heap.size, 3, none⟩ (.int .i64 v.m.d)).setCell ⟨w7.heap.size, 4, none⟩ (.int .i64 v.t.x)) ⟨w7.heap.size, 5, none⟩ (.int .i64 v.t.y) (w.heap.size + 1) (by first | omega | assumption | (apply Ne.symm; assumption) | (simp; done) | (simp; omega))).trans q30
  have q38 := (Below.heap_setCell (((((w11.setCell ⟨w7.heap.size, 0, none⟩ (.int .i64 v.m.a)).setCell ⟨w7.heap.size, 1, none⟩ (.int .i64 v.m.b)).setCell ⟨w7.heap.size, 2, none⟩ (.int .i64 v.m.c)).setCell ⟨w7.heap.size, 3, none⟩ (.int .i64 v.m.d)).setCell ⟨w7.heap.size, 4, none⟩ (.int .i64 v.t.x)) ⟨w7.heap.size, 5, none⟩ (.int .i64 v.t.y) (w.heap.size + 1 + 1) (by first | omega | assumption | (apply Ne.symm; assumption) | (simp; done) | (simp; omega))).trans q31
  have q39 := (Below.heap_setCell (((((w11.setCell ⟨w7.heap.size, 0, none⟩ (.int .i64 v.m.a)).setCell ⟨w7.heap.size, 1, none⟩ (.int .i64 v.m.b)).setCell ⟨w7.heap.size, 2, none⟩ (.int .i64 v.m.c)).setCell ⟨w7.heap.size, 3, none⟩ (.int .i64 v.m.d)).setCell ⟨w7.heap.size, 4, none⟩ (.int .i64 v.t.x)) ⟨w7.heap.size, 5, none⟩ (.int .i64 v.t.y) (w1.heap.size) (by first | omega | assumption | (apply Ne.symm; assumption) | (simp; done) | (simp; omega))).trans q32
  have q40 := (Below.heap_setCell (((((w11.setCell ⟨w7.heap.size, 0, none⟩ (.int .i64 v.m.a)).setCell ⟨w7.heap.size, 1, none⟩ (.int .i64 v.m.b)).setCell ⟨w7.heap.size, 2, none⟩ (.int .i64 v.m.c)).setCell ⟨w7.heap.size, 3, none⟩ (.int .i64 v.m.d)).setCell ⟨w7.heap.size, 4, none⟩ (.int .i64 v.t.x)) ⟨w7.heap.size, 5, none⟩ (.int .i64 v.t.y) (w3.heap.size) (by first | omega | assumption | (apply Ne.symm; assumption) | (simp; done) | (simp; omega))).trans q33
  have q41 := (Below.heap_setCell (((((w11.setCell ⟨w7.heap.size, 0, none⟩ (.int .i64 v.m.a)).setCell ⟨w7.heap.size, 1, none⟩ (.int .i64 v.m.b)).setCell ⟨w7.heap.size, 2, none⟩ (.int .i64 v.m.c)).setCell ⟨w7.heap.size, 3, none⟩ (.int .i64 v.m.d)).setCell ⟨w7.heap.size, 4, none⟩ (.int .i64 v.t.x)) ⟨w7.heap.size, 5, none⟩ (.int .i64 v.t.y) (w5.heap.size) (by first | omega | assumption | (apply Ne.symm; assumption) | (simp; done) | (simp; omega))).trans q34
  have q42 := heap_setCell_same (((((w11.setCell ⟨w7.heap.size, 0, none⟩ (.int .i64 v.m.a)).setCell ⟨w7.heap.size, 1, none⟩ (.int .i64 v.m.b)).setCell ⟨w7.heap.size, 2, none⟩ (.int .i64 v.m.c)).setCell ⟨w7.heap.size, 3, none⟩ (.int .i64 v.m.d)).setCell ⟨w7.heap.size, 4, none⟩ (.int .i64 v.t.x)) (w7.heap.size) 5 _ _ (.int .i64 v.t.y) q35
  obtain ⟨w12, hw12⟩ : ∃ W, W = ((((((w11.setCell ⟨w7.heap.size, 0, none⟩ (.int .i64 v.m.a)).setCell ⟨w7.heap.size, 1, none⟩ (.int .i64 v.m.b)).setCell ⟨w7.heap.size, 2, none⟩ (.int .i64 v.m.c)).setCell ⟨w7.heap.size, 3, none⟩ (.int .i64 v.m.d)).setCell ⟨w7.heap.size, 4, none⟩ (.int .i64 v.t.x)).setCell ⟨w7.heap.size, 5, none⟩ (.int .i64 v.t.y)) := ⟨_, rfl⟩
  rw [← hw12]
  replace h0 : w12.heap[w.heap.size]? = some (.cells #[.int .i64 m.m.a, .int .i64 m.m.b, .int .i64 m.m.c, .int .i64 m.m.d, .int .i64 m.t.x, .int .i64 m.t.y] 49 (0, 0)) := by rw [hw12]; exact q36
  replace h1 : w12.heap[w.heap.size + 1]? = some (.cells #[.int .i64 n.m.a, .int .i64 n.m.b, .int .i64 n.m.c, .int .i64 n.m.d, .int .i64 n.t.x, .int .i64 n.t.y] 49 (0, 0)) := by rw [hw12]; exact q37
  replace h2 : w12.heap[w.heap.size + 1 + 1]? = some (.cells #[.int .i64 p.x, .int .i64 p.y] 25 (0, 0)) := by rw [hw12]; exact q38
  replace h3 : w12.heap[w1.heap.size]? = some (.cells #[.int .i64 q.x, .int .i64 q.y] 25 (0, 0)) := by rw [hw12]; exact q39
  replace h4 : w12.heap[w3.heap.size]? = some (.cells #[.int .i64 q.x, .int .i64 q.y] 25 (0, 0)) := by rw [hw12]; exact q40
  replace h5 : w12.heap[w5.heap.size]? = some (.cells #[.int .i64 v.m.a, .int .i64 v.m.b, .int .i64 v.m.c, .int .i64 v.m.d, .int .i64 v.t.x, .int .i64 v.t.y] 49 (0, 0)) := by rw [hw12]; exact q41
  replace h6 : w12.heap[w7.heap.size]? = some (.cells #[.int .i64 v.m.a, .int .i64 v.m.b, .int .i64 v.m.c, .int .i64 v.m.d, .int .i64 v.t.x, .int .i64 v.t.y] 49 (0, 0)) := by rw [hw12]; exact q42
  have D12 := Lib.hid (show Below w.heap.size w w12 by rw [hw12]; exact (Below.setCell (Below.setCell (Below.setCell (Below.setCell (Below.setCell (Below.setCell D11.out (p := ⟨w7.heap.size, 0, none⟩) (by first | omega | (simp; done) | (simp; omega)) (.int .i64 v.m.a)) (p := ⟨w7.heap.size, 1, none⟩) (by first | omega | (simp; done) | (simp; omega)) (.int .i64 v.m.b)) (p := ⟨w7.heap.size, 2, none⟩) (by first | omega | (simp; done) | (simp; omega)) (.int .i64 v.m.c)) (p := ⟨w7.heap.size, 3, none⟩) (by first | omega | (simp; done) | (simp; omega)) (.int .i64 v.m.d)) (p := ⟨w7.heap.size, 4, none⟩) (by first | omega | (simp; done) | (simp; omega)) (.int .i64 v.t.x)) (p := ⟨w7.heap.size, 5, none⟩) (by first | omega | (simp; done) | (simp; omega)) (.int .i64 v.t.y)))
  have z12 := D12.out.size
  have y12 : w12.heap.size = w11.heap.size := by rw [hw12]; simp
  clear q42 q41 q40 q39 q38 q37 q36 q35 q34 q33 q32 q31 q30 q29 q28 q27 q26 q25 q24 q23 q22 q21 q20 q19 q18 q17 q16 q15 q14 q13 q12 q11 q10 q9 q8 q7 q6 q5 q4 q3 q2 q1 hw12
  try clear c0_0 f0_0 c0_1 f0_1 c0_2 f0_2 c0_3 f0_3 c0_4 f0_4 c0_5 f0_5
  obtain ⟨c0_0, f0_0, c0_1, f0_1, c0_2, f0_2, c0_3, f0_3, c0_4, f0_4, c0_5, f0_5⟩ := cells6 h0
  try clear c1_0 f1_0 c1_1 f1_1 c1_2 f1_2 c1_3 f1_3 c1_4 f1_4 c1_5 f1_5
  obtain ⟨c1_0, f1_0, c1_1, f1_1, c1_2, f1_2, c1_3, f1_3, c1_4, f1_4, c1_5, f1_5⟩ := cells6 h1
  try clear c2_0 f2_0 c2_1 f2_1
  obtain ⟨c2_0, f2_0, c2_1, f2_1⟩ := cells2 h2
  try clear c3_0 f3_0 c3_1 f3_1
  obtain ⟨c3_0, f3_0, c3_1, f3_1⟩ := cells2 h3
  try clear c4_0 f4_0 c4_1 f4_1
  obtain ⟨c4_0, f4_0, c4_1, f4_1⟩ := cells2 h4
  try clear c5_0 f5_0 c5_1 f5_1 c5_2 f5_2 c5_3 f5_3 c5_4 f5_4 c5_5 f5_5
  obtain ⟨c5_0, f5_0, c5_1, f5_1, c5_2, f5_2, c5_3, f5_3, c5_4, f5_4, c5_5, f5_5⟩ := cells6 h5
  try clear c6_0 f6_0 c6_1 f6_1 c6_2 f6_2 c6_3 f6_3 c6_4 f6_4 c6_5 f6_5
  obtain ⟨c6_0, f6_0, c6_1, f6_1, c6_2, f6_2, c6_3, f6_3, c6_4, f6_4, c6_5, f6_5⟩ := cells6 h6
  refine (H8.out _ (HG.out.next (Below.trans D12.out (by repeat (first | exact Below.refl _ _ | refine Below.alloc ?_ (by first | omega | (simp; omega) | (simp; done)) _))))).mono ?_
  rintro e w13 ⟨rfl, hb⟩
  replace h0 : w13.heap[w.heap.size]? = some (.cells #[.int .i64 m.m.a, .int .i64 m.m.b, .int .i64 m.m.c, .int .i64 m.m.d, .int .i64 m.t.x, .int .i64 m.t.y] 49 (0, 0)) := hb_below hb (by repeat (first | exact h0 | (refine hb_new ?_; (first | omega | (simp; omega) | (simp; done))) | (refine hb_old ?_ ?_; rotate_left; focus (first | omega | (simp; omega) | (simp; done))) | refine hb_drew ?_)) (by first | omega | (simp; omega) | (simp; done))
  replace h1 : w13.heap[w.heap.size + 1]? = some (.cells #[.int .i64 n.m.a, .int .i64 n.m.b, .int .i64 n.m.c, .int .i64 n.m.d, .int .i64 n.t.x, .int .i64 n.t.y] 49 (0, 0)) := hb_below hb (by repeat (first | exact h1 | (refine hb_new ?_; (first | omega | (simp; omega) | (simp; done))) | (refine hb_old ?_ ?_; rotate_left; focus (first | omega | (simp; omega) | (simp; done))) | refine hb_drew ?_)) (by first | omega | (simp; omega) | (simp; done))
  replace h2 : w13.heap[w.heap.size + 1 + 1]? = some (.cells #[.int .i64 p.x, .int .i64 p.y] 25 (0, 0)) := hb_below hb (by repeat (first | exact h2 | (refine hb_new ?_; (first | omega | (simp; omega) | (simp; done))) | (refine hb_old ?_ ?_; rotate_left; focus (first | omega | (simp; omega) | (simp; done))) | refine hb_drew ?_)) (by first | omega | (simp; omega) | (simp; done))
  replace h3 : w13.heap[w1.heap.size]? = some (.cells #[.int .i64 q.x, .int .i64 q.y] 25 (0, 0)) := hb_below hb (by repeat (first | exact h3 | (refine hb_new ?_; (first | omega | (simp; omega) | (simp; done))) | (refine hb_old ?_ ?_; rotate_left; focus (first | omega | (simp; omega) | (simp; done))) | refine hb_drew ?_)) (by first | omega | (simp; omega) | (simp; done))
  replace h4 : w13.heap[w3.heap.size]? = some (.cells #[.int .i64 q.x, .int .i64 q.y] 25 (0, 0)) := hb_below hb (by repeat (first | exact h4 | (refine hb_new ?_; (first | omega | (simp; omega) | (simp; done))) | (refine hb_old ?_ ?_; rotate_left; focus (first | omega | (simp; omega) | (simp; done))) | refine hb_drew ?_)) (by first | omega | (simp; omega) | (simp; done))
  replace h5 : w13.heap[w5.heap.size]? = some (.cells #[.int .i64 v.m.a, .int .i64 v.m.b, .int .i64 v.m.c, .int .i64 v.m.d, .int .i64 v.t.x, .int .i64 v.t.y] 49 (0, 0)) := hb_below hb (by repeat (first | exact h5 | (refine hb_new ?_; (first | omega | (simp; omega) | (simp; done))) | (refine hb_old ?_ ?_; rotate_left; focus (first | omega | (simp; omega) | (simp; done))) | refine hb_drew ?_)) (by first | omega | (simp; omega) | (simp; done))
  replace h6 : w13.heap[w7.heap.size]? = some (.cells #[.int .i64 v.m.a, .int .i64 v.m.b, .int .i64 v.m.c, .int .i64 v.m.d, .int .i64 v.t.x, .int .i64 v.t.y] 49 (0, 0)) := hb_below hb (by repeat (first | exact h6 | (refine hb_new ?_; (first | omega | (simp; omega) | (simp; done))) | (refine hb_old ?_ ?_; rotate_left; focus (first | omega | (simp; omega) | (simp; done))) | refine hb_drew ?_)) (by first | omega | (simp; omega) | (simp; done))
  have y13 := Below.size hb
  try simp only [World.size_alloc, World.size_drew] at y13
  have D13 := Lib.hid (show Below w.heap.size w w13 from Below.trans (by repeat (first | exact D12.out | exact Below.refl _ _ | refine Below.alloc ?_ (by first | omega | (simp; omega) | (simp; done)) _)) (Below.mono hb (by first | omega | (simp; omega) | (simp; done))))
  have z13 := D13.out.size
  clear hb
  try clear c0_0 f0_0 c0_1 f0_1 c0_2 f0_2 c0_3 f0_3 c0_4 f0_4 c0_5 f0_5
  obtain ⟨c0_0, f0_0, c0_1, f0_1, c0_2, f0_2, c0_3, f0_3, c0_4, f0_4, c0_5, f0_5⟩ := cells6 h0
  try clear c1_0 f1_0 c1_1 f1_1 c1_2 f1_2 c1_3 f1_3 c1_4 f1_4 c1_5 f1_5
  obtain ⟨c1_0, f1_0, c1_1, f1_1, c1_2, f1_2, c1_3, f1_3, c1_4, f1_4, c1_5, f1_5⟩ := cells6 h1
  try clear c2_0 f2_0 c2_1 f2_1
  obtain ⟨c2_0, f2_0, c2_1, f2_1⟩ := cells2 h2
  try clear c3_0 f3_0 c3_1 f3_1
  obtain ⟨c3_0, f3_0, c3_1, f3_1⟩ := cells2 h3
  try clear c4_0 f4_0 c4_1 f4_1
  obtain ⟨c4_0, f4_0, c4_1, f4_1⟩ := cells2 h4
  try clear c5_0 f5_0 c5_1 f5_1 c5_2 f5_2 c5_3 f5_3 c5_4 f5_4 c5_5 f5_5
  obtain ⟨c5_0, f5_0, c5_1, f5_1, c5_2, f5_2, c5_3, f5_3, c5_4, f5_4, c5_5, f5_5⟩ := cells6 h5
  try clear c6_0 f6_0 c6_1 f6_1 c6_2 f6_2 c6_3 f6_3 c6_4 f6_4 c6_5 f6_5
  obtain ⟨c6_0, f6_0, c6_1, f6_1, c6_2, f6_2, c6_3, f6_3, c6_4, f6_4, c6_5, f6_5⟩ := cells6 h6
  go_wp2_with fail
  refine (H9.out _).mono ?_
  rintro e w14 ⟨rfl, hb⟩
  replace h0 : w14.heap[w.heap.size]? = some (.cells #[.int .i64 m.m.a, .int .i64 m.m.b, .int .i64 m.m.c, .int .i64 m.m.d, .int .i64 m.t.x, .int .i64 m.t.y] 49 (0, 0)) := hb_below hb (by repeat (first | exact h0 | (refine hb_new ?_; (first | omega | (simp; omega) | (simp; done))) | (refine hb_old ?_ ?_; rotate_left; focus (first | omega | (simp; omega) | (simp; done))) | refine hb_drew ?_)) (by first | omega | (simp; omega) | (simp; done))
  replace h1 : w14.heap[w.heap.size + 1]? = some (.cells #[.int .i64 n.m.a, .int .i64 n.m.b, .int .i64 n.m.c, .int .i64 n.m.d, .int .i64 n.t.x, .int .i64 n.t.y] 49 (0, 0)) := hb_below hb (by repeat (first | exact h1 | (refine hb_new ?_; (first | omega | (simp; omega) | (simp; done))) | (refine hb_old ?_ ?_; rotate_left; focus (first | omega | (simp; omega) | (simp; done))) | refine hb_drew ?_)) (by first | omega | (simp; omega) | (simp; done))
  replace h2 : w14.heap[w.heap.size + 1 + 1]? = some (.cells #[.int .i64 p.x, .int .i64 p.y] 25 (0, 0)) := hb_below hb (by repeat (first | exact h2 | (refine hb_new ?_; (first | omega | (simp; omega) | (simp; done))) | (refine hb_old ?_ ?_; rotate_left; focus (first | omega | (simp; omega) | (simp; done))) | refine hb_drew ?_)) (by first | omega | (simp; omega) | (simp; done))
  replace h3 : w14.heap[w1.heap.size]? = some (.cells #[.int .i64 q.x, .int .i64 q.y] 25 (0, 0)) := hb_below hb (by repeat (first | exact h3 | (refine hb_new ?_; (first | omega | (simp; omega) | (simp; done))) | (refine hb_old ?_ ?_; rotate_left; focus (first | omega | (simp; omega) | (simp; done))) | refine hb_drew ?_)) (by first | omega | (simp; omega) | (simp; done))
  replace h4 : w14.heap[w3.heap.size]? = some (.cells #[.int .i64 q.x, .int .i64 q.y] 25 (0, 0)) := hb_below hb (by repeat (first | exact h4 | (refine hb_new ?_; (first | omega | (simp; omega) | (simp; done))) | (refine hb_old ?_ ?_; rotate_left; focus (first | omega | (simp; omega) | (simp; done))) | refine hb_drew ?_)) (by first | omega | (simp; omega) | (simp; done))
  replace h5 : w14.heap[w5.heap.size]? = some (.cells #[.int .i64 v.m.a, .int .i64 v.m.b, .int .i64 v.m.c, .int .i64 v.m.d, .int .i64 v.t.x, .int .i64 v.t.y] 49 (0, 0)) := hb_below hb (by repeat (first | exact h5 | (refine hb_new ?_; (first | omega | (simp; omega) | (simp; done))) | (refine hb_old ?_ ?_; rotate_left; focus (first | omega | (simp; omega) | (simp; done))) | refine hb_drew ?_)) (by first | omega | (simp; omega) | (simp; done))
  replace h6 : w14.heap[w7.heap.size]? = some (.cells #[.int .i64 v.m.a, .int .i64 v.m.b, .int .i64 v.m.c, .int .i64 v.m.d, .int .i64 v.t.x, .int .i64 v.t.y] 49 (0, 0)) := hb_below hb (by repeat (first | exact h6 | (refine hb_new ?_; (first | omega | (simp; omega) | (simp; done))) | (refine hb_old ?_ ?_; rotate_left; focus (first | omega | (simp; omega) | (simp; done))) | refine hb_drew ?_)) (by first | omega | (simp; omega) | (simp; done))
  have y14 := Below.size hb
  try simp only [World.size_alloc, World.size_drew] at y14
  have D14 := Lib.hid (show Below w.heap.size w w14 from Below.trans (by repeat (first | exact D13.out | exact Below.refl _ _ | refine Below.alloc ?_ (by first | omega | (simp; omega) | (simp; done)) _)) (Below.mono hb (by first | omega | (simp; omega) | (simp; done))))
  have z14 := D14.out.size
  clear hb
  try clear c0_0 f0_0 c0_1 f0_1 c0_2 f0_2 c0_3 f0_3 c0_4 f0_4 c0_5 f0_5
  obtain ⟨c0_0, f0_0, c0_1, f0_1, c0_2, f0_2, c0_3, f0_3, c0_4, f0_4, c0_5, f0_5⟩ := cells6 h0
  try clear c1_0 f1_0 c1_1 f1_1 c1_2 f1_2 c1_3 f1_3 c1_4 f1_4 c1_5 f1_5
  obtain ⟨c1_0, f1_0, c1_1, f1_1, c1_2, f1_2, c1_3, f1_3, c1_4, f1_4, c1_5, f1_5⟩ := cells6 h1
  try clear c2_0 f2_0 c2_1 f2_1
  obtain ⟨c2_0, f2_0, c2_1, f2_1⟩ := cells2 h2
  try clear c3_0 f3_0 c3_1 f3_1
  obtain ⟨c3_0, f3_0, c3_1, f3_1⟩ := cells2 h3
  try clear c4_0 f4_0 c4_1 f4_1
  obtain ⟨c4_0, f4_0, c4_1, f4_1⟩ := cells2 h4
  try clear c5_0 f5_0 c5_1 f5_1 c5_2 f5_2 c5_3 f5_3 c5_4 f5_4 c5_5 f5_5
  obtain ⟨c5_0, f5_0, c5_1, f5_1, c5_2, f5_2, c5_3, f5_3, c5_4, f5_4, c5_5, f5_5⟩ := cells6 h5
  try clear c6_0 f6_0 c6_1 f6_1 c6_2 f6_2 c6_3 f6_3 c6_4 f6_4 c6_5 f6_5
  obtain ⟨c6_0, f6_0, c6_1, f6_1, c6_2, f6_2, c6_3, f6_3, c6_4, f6_4, c6_5, f6_5⟩ := cells6 h6
  go_wp2_with fail
  refine (H7.out _ (HG.out.next (Below.trans D14.out (by repeat (first | exact Below.refl _ _ | refine Below.alloc ?_ (by first | omega | (simp; omega) | (simp; done)) _))))).mono ?_
  rintro e w15 ⟨rfl, hb⟩
  replace h0 : w15.heap[w.heap.size]? = some (.cells #[.int .i64 m.m.a, .int .i64 m.m.b, .int .i64 m.m.c, .int .i64 m.m.d, .int .i64 m.t.x, .int .i64 m.t.y] 49 (0, 0)) := hb_below hb (by repeat (first | exact h0 | (refine hb_new ?_; (first | omega | (simp; omega) | (simp; done))) | (refine hb_old ?_ ?_; rotate_left; focus (first | omega | (simp; omega) | (simp; done))) | refine hb_drew ?_)) (by first | omega | (simp; omega) | (simp; done))
  replace h1 : w15.heap[w.heap.size + 1]? = some (.cells #[.int .i64 n.m.a, .int .i64 n.m.b, .int .i64 n.m.c, .int .i64 n.m.d, .int .i64 n.t.x, .int .i64 n.t.y] 49 (0, 0)) := hb_below hb (by repeat (first | exact h1 | (refine hb_new ?_; (first | omega | (simp; omega) | (simp; done))) | (refine hb_old ?_ ?_; rotate_left; focus (first | omega | (simp; omega) | (simp; done))) | refine hb_drew ?_)) (by first | omega | (simp; omega) | (simp; done))
  replace h2 : w15.heap[w.heap.size + 1 + 1]? = some (.cells #[.int .i64 p.x, .int .i64 p.y] 25 (0, 0)) := hb_below hb (by repeat (first | exact h2 | (refine hb_new ?_; (first | omega | (simp; omega) | (simp; done))) | (refine hb_old ?_ ?_; rotate_left; focus (first | omega | (simp; omega) | (simp; done))) | refine hb_drew ?_)) (by first | omega | (simp; omega) | (simp; done))
  replace h3 : w15.heap[w1.heap.size]? = some (.cells #[.int .i64 q.x, .int .i64 q.y] 25 (0, 0)) := hb_below hb (by repeat (first | exact h3 | (refine hb_new ?_; (first | omega | (simp; omega) | (simp; done))) | (refine hb_old ?_ ?_; rotate_left; focus (first | omega | (simp; omega) | (simp; done))) | refine hb_drew ?_)) (by first | omega | (simp; omega) | (simp; done))
  replace h4 : w15.heap[w3.heap.size]? = some (.cells #[.int .i64 q.x, .int .i64 q.y] 25 (0, 0)) := hb_below hb (by repeat (first | exact h4 | (refine hb_new ?_; (first | omega | (simp; omega) | (simp; done))) | (refine hb_old ?_ ?_; rotate_left; focus (first | omega | (simp; omega) | (simp; done))) | refine hb_drew ?_)) (by first | omega | (simp; omega) | (simp; done))
  replace h5 : w15.heap[w5.heap.size]? = some (.cells #[.int .i64 v.m.a, .int .i64 v.m.b, .int .i64 v.m.c, .int .i64 v.m.d, .int .i64 v.t.x, .int .i64 v.t.y] 49 (0, 0)) := hb_below hb (by repeat (first | exact h5 | (refine hb_new ?_; (first | omega | (simp; omega) | (simp; done))) | (refine hb_old ?_ ?_; rotate_left; focus (first | omega | (simp; omega) | (simp; done))) | refine hb_drew ?_)) (by first | omega | (simp; omega) | (simp; done))
  replace h6 : w15.heap[w7.heap.size]? = some (.cells #[.int .i64 v.m.a, .int .i64 v.m.b, .int .i64 v.m.c, .int .i64 v.m.d, .int .i64 v.t.x, .int .i64 v.t.y] 49 (0, 0)) := hb_below hb (by repeat (first | exact h6 | (refine hb_new ?_; (first | omega | (simp; omega) | (simp; done))) | (refine hb_old ?_ ?_; rotate_left; focus (first | omega | (simp; omega) | (simp; done))) | refine hb_drew ?_)) (by first | omega | (simp; omega) | (simp; done))
  have y15 := Below.size hb
  try simp only [World.size_alloc, World.size_drew] at y15
  have D15 := Lib.hid (show Below w.heap.size w w15 from Below.trans (by repeat (first | exact D14.out | exact Below.refl _ _ | refine Below.alloc ?_ (by first | omega | (simp; omega) | (simp; done)) _)) (Below.mono hb (by first | omega | (simp; omega) | (simp; done))))
  have z15 := D15.out.size
  clear hb
  try clear c0_0 f0_0 c0_1 f0_1 c0_2 f0_2 c0_3 f0_3 c0_4 f0_4 c0_5 f0_5
  obtain ⟨c0_0, f0_0, c0_1, f0_1, c0_2, f0_2, c0_3, f0_3, c0_4, f0_4, c0_5, f0_5⟩ := cells6 h0
  try clear c1_0 f1_0 c1_1 f1_1 c1_2 f1_2 c1_3 f1_3 c1_4 f1_4 c1_5 f1_5
  obtain ⟨c1_0, f1_0, c1_1, f1_1, c1_2, f1_2, c1_3, f1_3, c1_4, f1_4, c1_5, f1_5⟩ := cells6 h1
  try clear c2_0 f2_0 c2_1 f2_1
  obtain ⟨c2_0, f2_0, c2_1, f2_1⟩ := cells2 h2
  try clear c3_0 f3_0 c3_1 f3_1
  obtain ⟨c3_0, f3_0, c3_1, f3_1⟩ := cells2 h3
  try clear c4_0 f4_0 c4_1 f4_1
  obtain ⟨c4_0, f4_0, c4_1, f4_1⟩ := cells2 h4
  try clear c5_0 f5_0 c5_1 f5_1 c5_2 f5_2 c5_3 f5_3 c5_4 f5_4 c5_5 f5_5
  obtain ⟨c5_0, f5_0, c5_1, f5_1, c5_2, f5_2, c5_3, f5_3, c5_4, f5_4, c5_5, f5_5⟩ := cells6 h5
  try clear c6_0 f6_0 c6_1 f6_1 c6_2 f6_2 c6_3 f6_3 c6_4 f6_4 c6_5 f6_5
  obtain ⟨c6_0, f6_0, c6_1, f6_1, c6_2, f6_2, c6_3, f6_3, c6_4, f6_4, c6_5, f6_5⟩ := cells6 h6
  go_wp2_with fail
  go_ret
  exact ⟨by first | rfl | (simp [*]; done) | (simp; omega), D15.out⟩
end Go.Proofs.YtjekfkmcgfnkaaaDoor
