/- The law of moves that are undone and composed: case 3. -/
import Derived.Test.YtjekfkmcgfnkaaaDoorIH
namespace Go.Proofs.YtjekfkmcgfnkaaaDoor
open Go.RowKit Go.Lib
set_option linter.unusedSimpArgs false
set_option linter.unusedVariables false
set_option maxHeartbeats 8000000 in
set_option maxRecDepth 100000 in
theorem back_three (l m n : Mov) (p : Pt) (w : World) (g : Glob w) (qe : ¬ invE l = 0) : Calls Tryd.prog 11 #[.agg #[.int .i64 l.m.a, .int .i64 l.m.b, .int .i64 l.m.c, .int .i64 l.m.d, .int .i64 l.t.x, .int .i64 l.t.y, .int .i64 m.m.a, .int .i64 m.m.b, .int .i64 m.m.c, .int .i64 m.m.d, .int .i64 m.t.x, .int .i64 m.t.y, .int .i64 n.m.a, .int .i64 n.m.b, .int .i64 n.m.c, .int .i64 n.m.d, .int .i64 n.t.x, .int .i64 n.t.y], .agg #[.int .i64 p.x, .int .i64 p.y]] w fun e w' => e = .returned (.bool true) ∧ Below w.heap.size w w' := by
  have HG := Lib.hid g
  clear g
  have B7 := fun W g => awake_any W g
  have H7 := Lib.hid B7
  clear B7
  have C1 := fun W => Invert_any l W
  have C2 := fun W => Apply_any l p W
  have C3 := fun W => Apply_any (invV l) (appV l p) W
  have C4 := fun W => Compose_any l m W
  have C5 := fun W => Compose_any m n W
  have C6 := fun W => Compose_any (comV l m) n W
  have C8 := fun W => Compose_any l (comV m n) W
  have C9 := fun W => Apply_any m p W
  have CA := fun W => Apply_any l (appV m p) W
  have CB := fun W => Apply_any (comV l m) p W
  have F1 := fun h k => back_case (m := l) (p := p) h k
  have F2 := fun h k => comp_case (m := l) (n := m) (o := n) h k
  have F3 := fun h k => app_case (m := l) (n := m) (p := p) h k
  generalize appE (invV l) (appV l p) = xe at *
  generalize appV (invV l) (appV l p) = xv at *
  generalize invV l = v at *
  generalize invE l = e at *
  generalize appV l p = q at *
  generalize appE l p = f at *
  generalize comV (comV l m) n = cv at *
  generalize comE (comV l m) n = ce at *
  generalize comV l (comV m n) = dv at *
  generalize comE l (comV m n) = de at *
  generalize appV l (appV m p) = tv at *
  generalize appE l (appV m p) = te at *
  generalize appV (comV l m) p = uv at *
  generalize appE (comV l m) p = ue at *
  generalize comV l m = a at *
  generalize comE l m = ae at *
  generalize comV m n = b at *
  generalize comE m n = be at *
  generalize appV m p = s at *
  generalize appE m p = se at *
  unfold Mov.val Pt.val at *
  have H1 := Lib.hid C1
  have H2 := Lib.hid C2
  have H3 := Lib.hid C3
  have H4 := Lib.hid C4
  have H5 := Lib.hid C5
  have H6 := Lib.hid C6
  have H8 := Lib.hid C8
  have H9 := Lib.hid C9
  have HA := Lib.hid CA
  have HB := Lib.hid CB
  have G1 := Lib.hid F1
  have G2 := Lib.hid F2
  have G3 := Lib.hid F3
  clear C1 C2 C3 C4 C5 C6 C8 C9 CA CB F1 F2 F3
  go_enter Tryd.func11, Tryd.ntmps11
  go_wp2_with fail
  refine (H1.out _).mono ?_
  rintro e w1 ⟨rfl, hb⟩
  have h0 : w1.heap[w.heap.size]? = some (.cells #[.int .i64 l.m.a, .int .i64 l.m.b, .int .i64 l.m.c, .int .i64 l.m.d, .int .i64 l.t.x, .int .i64 l.t.y, .int .i64 m.m.a, .int .i64 m.m.b, .int .i64 m.m.c, .int .i64 m.m.d, .int .i64 m.t.x, .int .i64 m.t.y, .int .i64 n.m.a, .int .i64 n.m.b, .int .i64 n.m.c, .int .i64 n.m.d, .int .i64 n.t.x, .int .i64 n.t.y] 68 (0, 0)) := hb_below hb (by repeat (first | (refine hb_new ?_; (first | omega | (simp; omega) | (simp; done))) | (refine hb_old ?_ ?_; rotate_left; focus (first | omega | (simp; omega) | (simp; done))) | refine hb_drew ?_)) (by first | omega | (simp; omega) | (simp; done))
  have h1 : w1.heap[w.heap.size + 1]? = some (.cells #[.int .i64 p.x, .int .i64 p.y] 25 (0, 0)) := hb_below hb (by repeat (first | (refine hb_new ?_; (first | omega | (simp; omega) | (simp; done))) | (refine hb_old ?_ ?_; rotate_left; focus (first | omega | (simp; omega) | (simp; done))) | refine hb_drew ?_)) (by first | omega | (simp; omega) | (simp; done))
  have y1 := Below.size hb
  try simp only [World.size_alloc, World.size_drew] at y1
  have D1 := Lib.hid (show Below w.heap.size w w1 from Below.trans (by repeat (first | exact Below.refl _ _ | refine Below.alloc ?_ (by first | omega | (simp; omega) | (simp; done)) _)) (Below.mono hb (by first | omega | (simp; omega) | (simp; done))))
  have z1 := D1.out.size
  clear hb
  try clear c0_0 f0_0 c0_1 f0_1 c0_2 f0_2 c0_3 f0_3 c0_4 f0_4 c0_5 f0_5 c0_6 f0_6 c0_7 f0_7 c0_8 f0_8 c0_9 f0_9 c0_10 f0_10 c0_11 f0_11 c0_12 f0_12 c0_13 f0_13 c0_14 f0_14 c0_15 f0_15 c0_16 f0_16 c0_17 f0_17
  obtain ⟨c0_0, f0_0, c0_1, f0_1, c0_2, f0_2, c0_3, f0_3, c0_4, f0_4, c0_5, f0_5, c0_6, f0_6, c0_7, f0_7, c0_8, f0_8, c0_9, f0_9, c0_10, f0_10, c0_11, f0_11, c0_12, f0_12, c0_13, f0_13, c0_14, f0_14, c0_15, f0_15, c0_16, f0_16, c0_17, f0_17⟩ := cells18 h0
  try clear c1_0 f1_0 c1_1 f1_1
  obtain ⟨c1_0, f1_0, c1_1, f1_1⟩ := cells2 h1
  have ha0 : (w1.alloc (.cells #[.int .i64 v.m.a, .int .i64 v.m.b, .int .i64 v.m.c, .int .i64 v.m.d, .int .i64 v.t.x, .int .i64 v.t.y] 49)).heap[w.heap.size]? = some (.cells #[.int .i64 l.m.a, .int .i64 l.m.b, .int .i64 l.m.c, .int .i64 l.m.d, .int .i64 l.t.x, .int .i64 l.t.y, .int .i64 m.m.a, .int .i64 m.m.b, .int .i64 m.m.c, .int .i64 m.m.d, .int .i64 m.t.x, .int .i64 m.t.y, .int .i64 n.m.a, .int .i64 n.m.b, .int .i64 n.m.c, .int .i64 n.m.d, .int .i64 n.t.x, .int .i64 n.t.y] 68 (0, 0)) := (by repeat (first | exact h0 | (refine hb_new ?_; (first | omega | (simp; omega) | (simp; done))) | (refine hb_old ?_ ?_; rotate_left; focus (first | omega | (simp; omega) | (simp; done))) | refine hb_drew ?_))
  obtain ⟨ca0_0, fa0_0, ca0_1, fa0_1, ca0_2, fa0_2, ca0_3, fa0_3, ca0_4, fa0_4, ca0_5, fa0_5, ca0_6, fa0_6, ca0_7, fa0_7, ca0_8, fa0_8, ca0_9, fa0_9, ca0_10, fa0_10, ca0_11, fa0_11, ca0_12, fa0_12, ca0_13, fa0_13, ca0_14, fa0_14, ca0_15, fa0_15, ca0_16, fa0_16, ca0_17, fa0_17⟩ := cells18 ha0
  have ha1 : (w1.alloc (.cells #[.int .i64 v.m.a, .int .i64 v.m.b, .int .i64 v.m.c, .int .i64 v.m.d, .int .i64 v.t.x, .int .i64 v.t.y] 49)).heap[w.heap.size + 1]? = some (.cells #[.int .i64 p.x, .int .i64 p.y] 25 (0, 0)) := (by repeat (first | exact h1 | (refine hb_new ?_; (first | omega | (simp; omega) | (simp; done))) | (refine hb_old ?_ ?_; rotate_left; focus (first | omega | (simp; omega) | (simp; done))) | refine hb_drew ?_))
  obtain ⟨ca1_0, fa1_0, ca1_1, fa1_1⟩ := cells2 ha1
  go_wp2_with fail
  obtain ⟨w2, hw2⟩ : ∃ W, W = (w1.alloc (.cells #[.int .i64 v.m.a, .int .i64 v.m.b, .int .i64 v.m.c, .int .i64 v.m.d, .int .i64 v.t.x, .int .i64 v.t.y] 49)) := ⟨_, rfl⟩
  rw [← hw2]
  replace h0 : w2.heap[w.heap.size]? = some (.cells #[.int .i64 l.m.a, .int .i64 l.m.b, .int .i64 l.m.c, .int .i64 l.m.d, .int .i64 l.t.x, .int .i64 l.t.y, .int .i64 m.m.a, .int .i64 m.m.b, .int .i64 m.m.c, .int .i64 m.m.d, .int .i64 m.t.x, .int .i64 m.t.y, .int .i64 n.m.a, .int .i64 n.m.b, .int .i64 n.m.c, .int .i64 n.m.d, .int .i64 n.t.x, .int .i64 n.t.y] 68 (0, 0)) := by rw [hw2]; exact (by repeat (first | exact h0 | (refine hb_new ?_; (first | omega | (simp; omega) | (simp; done))) | (refine hb_old ?_ ?_; rotate_left; focus (first | omega | (simp; omega) | (simp; done))) | refine hb_drew ?_))
  replace h1 : w2.heap[w.heap.size + 1]? = some (.cells #[.int .i64 p.x, .int .i64 p.y] 25 (0, 0)) := by rw [hw2]; exact (by repeat (first | exact h1 | (refine hb_new ?_; (first | omega | (simp; omega) | (simp; done))) | (refine hb_old ?_ ?_; rotate_left; focus (first | omega | (simp; omega) | (simp; done))) | refine hb_drew ?_))
  have h2 : w2.heap[w1.heap.size]? = some (.cells #[.int .i64 v.m.a, .int .i64 v.m.b, .int .i64 v.m.c, .int .i64 v.m.d, .int .i64 v.t.x, .int .i64 v.t.y] 49 (0, 0)) := by rw [hw2]; exact (by repeat (first | (refine hb_new ?_; (first | omega | (simp; omega) | (simp; done))) | (refine hb_old ?_ ?_; rotate_left; focus (first | omega | (simp; omega) | (simp; done))) | refine hb_drew ?_))
  have hb : Below w1.heap.size w1 w2 := by rw [hw2]; exact (by repeat (first | exact Below.refl _ _ | refine Below.alloc ?_ (by first | omega | (simp; omega) | (simp; done)) _ | refine Below.drew ?_))
  have s2 : w1.heap.size + 1 ≤ w2.heap.size := by rw [hw2]; simp
  have y2 := Below.size hb
  try simp only [World.size_alloc, World.size_drew] at y2
  have D2 := Lib.hid (show Below w.heap.size w w2 from Below.trans (by repeat (first | exact D1.out | exact Below.refl _ _ | refine Below.alloc ?_ (by first | omega | (simp; omega) | (simp; done)) _)) (Below.mono hb (by first | omega | (simp; omega) | (simp; done))))
  have z2 := D2.out.size
  clear hb hw2
  try clear c0_0 f0_0 c0_1 f0_1 c0_2 f0_2 c0_3 f0_3 c0_4 f0_4 c0_5 f0_5 c0_6 f0_6 c0_7 f0_7 c0_8 f0_8 c0_9 f0_9 c0_10 f0_10 c0_11 f0_11 c0_12 f0_12 c0_13 f0_13 c0_14 f0_14 c0_15 f0_15 c0_16 f0_16 c0_17 f0_17
  obtain ⟨c0_0, f0_0, c0_1, f0_1, c0_2, f0_2, c0_3, f0_3, c0_4, f0_4, c0_5, f0_5, c0_6, f0_6, c0_7, f0_7, c0_8, f0_8, c0_9, f0_9, c0_10, f0_10, c0_11, f0_11, c0_12, f0_12, c0_13, f0_13, c0_14, f0_14, c0_15, f0_15, c0_16, f0_16, c0_17, f0_17⟩ := cells18 h0
  try clear c1_0 f1_0 c1_1 f1_1
  obtain ⟨c1_0, f1_0, c1_1, f1_1⟩ := cells2 h1
  try clear c2_0 f2_0 c2_1 f2_1 c2_2 f2_2 c2_3 f2_3 c2_4 f2_4 c2_5 f2_5
  obtain ⟨c2_0, f2_0, c2_1, f2_1, c2_2, f2_2, c2_3, f2_3, c2_4, f2_4, c2_5, f2_5⟩ := cells6 h2
  clear ha0 ca0_0 fa0_0 ca0_1 fa0_1 ca0_2 fa0_2 ca0_3 fa0_3 ca0_4 fa0_4 ca0_5 fa0_5 ca0_6 fa0_6 ca0_7 fa0_7 ca0_8 fa0_8 ca0_9 fa0_9 ca0_10 fa0_10 ca0_11 fa0_11 ca0_12 fa0_12 ca0_13 fa0_13 ca0_14 fa0_14 ca0_15 fa0_15 ca0_16 fa0_16 ca0_17 fa0_17
  clear ha1 ca1_0 fa1_0 ca1_1 fa1_1
  refine (H2.out _).mono ?_
  rintro e w3 ⟨rfl, hb⟩
  replace h0 : w3.heap[w.heap.size]? = some (.cells #[.int .i64 l.m.a, .int .i64 l.m.b, .int .i64 l.m.c, .int .i64 l.m.d, .int .i64 l.t.x, .int .i64 l.t.y, .int .i64 m.m.a, .int .i64 m.m.b, .int .i64 m.m.c, .int .i64 m.m.d, .int .i64 m.t.x, .int .i64 m.t.y, .int .i64 n.m.a, .int .i64 n.m.b, .int .i64 n.m.c, .int .i64 n.m.d, .int .i64 n.t.x, .int .i64 n.t.y] 68 (0, 0)) := hb_below hb (by repeat (first | exact h0 | (refine hb_new ?_; (first | omega | (simp; omega) | (simp; done))) | (refine hb_old ?_ ?_; rotate_left; focus (first | omega | (simp; omega) | (simp; done))) | refine hb_drew ?_)) (by first | omega | (simp; omega) | (simp; done))
  replace h1 : w3.heap[w.heap.size + 1]? = some (.cells #[.int .i64 p.x, .int .i64 p.y] 25 (0, 0)) := hb_below hb (by repeat (first | exact h1 | (refine hb_new ?_; (first | omega | (simp; omega) | (simp; done))) | (refine hb_old ?_ ?_; rotate_left; focus (first | omega | (simp; omega) | (simp; done))) | refine hb_drew ?_)) (by first | omega | (simp; omega) | (simp; done))
  replace h2 : w3.heap[w1.heap.size]? = some (.cells #[.int .i64 v.m.a, .int .i64 v.m.b, .int .i64 v.m.c, .int .i64 v.m.d, .int .i64 v.t.x, .int .i64 v.t.y] 49 (0, 0)) := hb_below hb (by repeat (first | exact h2 | (refine hb_new ?_; (first | omega | (simp; omega) | (simp; done))) | (refine hb_old ?_ ?_; rotate_left; focus (first | omega | (simp; omega) | (simp; done))) | refine hb_drew ?_)) (by first | omega | (simp; omega) | (simp; done))
  have y3 := Below.size hb
  try simp only [World.size_alloc, World.size_drew] at y3
  have D3 := Lib.hid (show Below w.heap.size w w3 from Below.trans (by repeat (first | exact D2.out | exact Below.refl _ _ | refine Below.alloc ?_ (by first | omega | (simp; omega) | (simp; done)) _)) (Below.mono hb (by first | omega | (simp; omega) | (simp; done))))
  have z3 := D3.out.size
  clear hb
  try clear c0_0 f0_0 c0_1 f0_1 c0_2 f0_2 c0_3 f0_3 c0_4 f0_4 c0_5 f0_5 c0_6 f0_6 c0_7 f0_7 c0_8 f0_8 c0_9 f0_9 c0_10 f0_10 c0_11 f0_11 c0_12 f0_12 c0_13 f0_13 c0_14 f0_14 c0_15 f0_15 c0_16 f0_16 c0_17 f0_17
  obtain ⟨c0_0, f0_0, c0_1, f0_1, c0_2, f0_2, c0_3, f0_3, c0_4, f0_4, c0_5, f0_5, c0_6, f0_6, c0_7, f0_7, c0_8, f0_8, c0_9, f0_9, c0_10, f0_10, c0_11, f0_11, c0_12, f0_12, c0_13, f0_13, c0_14, f0_14, c0_15, f0_15, c0_16, f0_16, c0_17, f0_17⟩ := cells18 h0
  try clear c1_0 f1_0 c1_1 f1_1
  obtain ⟨c1_0, f1_0, c1_1, f1_1⟩ := cells2 h1
  try clear c2_0 f2_0 c2_1 f2_1 c2_2 f2_2 c2_3 f2_3 c2_4 f2_4 c2_5 f2_5
  obtain ⟨c2_0, f2_0, c2_1, f2_1, c2_2, f2_2, c2_3, f2_3, c2_4, f2_4, c2_5, f2_5⟩ := cells6 h2
  have ha0 : (w3.alloc (.cells #[.int .i64 q.x, .int .i64 q.y] 25)).heap[w.heap.size]? = some (.cells #[.int .i64 l.m.a, .int .i64 l.m.b, .int .i64 l.m.c, .int .i64 l.m.d, .int .i64 l.t.x, .int .i64 l.t.y, .int .i64 m.m.a, .int .i64 m.m.b, .int .i64 m.m.c, .int .i64 m.m.d, .int .i64 m.t.x, .int .i64 m.t.y, .int .i64 n.m.a, .int .i64 n.m.b, .int .i64 n.m.c, .int .i64 n.m.d, .int .i64 n.t.x, .int .i64 n.t.y] 68 (0, 0)) := (by repeat (first | exact h0 | (refine hb_new ?_; (first | omega | (simp; omega) | (simp; done))) | (refine hb_old ?_ ?_; rotate_left; focus (first | omega | (simp; omega) | (simp; done))) | refine hb_drew ?_))
  obtain ⟨ca0_0, fa0_0, ca0_1, fa0_1, ca0_2, fa0_2, ca0_3, fa0_3, ca0_4, fa0_4, ca0_5, fa0_5, ca0_6, fa0_6, ca0_7, fa0_7, ca0_8, fa0_8, ca0_9, fa0_9, ca0_10, fa0_10, ca0_11, fa0_11, ca0_12, fa0_12, ca0_13, fa0_13, ca0_14, fa0_14, ca0_15, fa0_15, ca0_16, fa0_16, ca0_17, fa0_17⟩ := cells18 ha0
  have ha1 : (w3.alloc (.cells #[.int .i64 q.x, .int .i64 q.y] 25)).heap[w.heap.size + 1]? = some (.cells #[.int .i64 p.x, .int .i64 p.y] 25 (0, 0)) := (by repeat (first | exact h1 | (refine hb_new ?_; (first | omega | (simp; omega) | (simp; done))) | (refine hb_old ?_ ?_; rotate_left; focus (first | omega | (simp; omega) | (simp; done))) | refine hb_drew ?_))
  obtain ⟨ca1_0, fa1_0, ca1_1, fa1_1⟩ := cells2 ha1
  have ha2 : (w3.alloc (.cells #[.int .i64 q.x, .int .i64 q.y] 25)).heap[w1.heap.size]? = some (.cells #[.int .i64 v.m.a, .int .i64 v.m.b, .int .i64 v.m.c, .int .i64 v.m.d, .int .i64 v.t.x, .int .i64 v.t.y] 49 (0, 0)) := (by repeat (first | exact h2 | (refine hb_new ?_; (first | omega | (simp; omega) | (simp; done))) | (refine hb_old ?_ ?_; rotate_left; focus (first | omega | (simp; omega) | (simp; done))) | refine hb_drew ?_))
  obtain ⟨ca2_0, fa2_0, ca2_1, fa2_1, ca2_2, fa2_2, ca2_3, fa2_3, ca2_4, fa2_4, ca2_5, fa2_5⟩ := cells6 ha2
  have qe2 : (e == 0) = false := by simpa using qe
  go_wp2_with fail
  obtain ⟨w4, hw4⟩ : ∃ W, W = (w3.alloc (.cells #[.int .i64 q.x, .int .i64 q.y] 25)) := ⟨_, rfl⟩
  rw [← hw4]
  replace h0 : w4.heap[w.heap.size]? = some (.cells #[.int .i64 l.m.a, .int .i64 l.m.b, .int .i64 l.m.c, .int .i64 l.m.d, .int .i64 l.t.x, .int .i64 l.t.y, .int .i64 m.m.a, .int .i64 m.m.b, .int .i64 m.m.c, .int .i64 m.m.d, .int .i64 m.t.x, .int .i64 m.t.y, .int .i64 n.m.a, .int .i64 n.m.b, .int .i64 n.m.c, .int .i64 n.m.d, .int .i64 n.t.x, .int .i64 n.t.y] 68 (0, 0)) := by rw [hw4]; exact (by repeat (first | exact h0 | (refine hb_new ?_; (first | omega | (simp; omega) | (simp; done))) | (refine hb_old ?_ ?_; rotate_left; focus (first | omega | (simp; omega) | (simp; done))) | refine hb_drew ?_))
  replace h1 : w4.heap[w.heap.size + 1]? = some (.cells #[.int .i64 p.x, .int .i64 p.y] 25 (0, 0)) := by rw [hw4]; exact (by repeat (first | exact h1 | (refine hb_new ?_; (first | omega | (simp; omega) | (simp; done))) | (refine hb_old ?_ ?_; rotate_left; focus (first | omega | (simp; omega) | (simp; done))) | refine hb_drew ?_))
  replace h2 : w4.heap[w1.heap.size]? = some (.cells #[.int .i64 v.m.a, .int .i64 v.m.b, .int .i64 v.m.c, .int .i64 v.m.d, .int .i64 v.t.x, .int .i64 v.t.y] 49 (0, 0)) := by rw [hw4]; exact (by repeat (first | exact h2 | (refine hb_new ?_; (first | omega | (simp; omega) | (simp; done))) | (refine hb_old ?_ ?_; rotate_left; focus (first | omega | (simp; omega) | (simp; done))) | refine hb_drew ?_))
  have h3 : w4.heap[w3.heap.size]? = some (.cells #[.int .i64 q.x, .int .i64 q.y] 25 (0, 0)) := by rw [hw4]; exact (by repeat (first | (refine hb_new ?_; (first | omega | (simp; omega) | (simp; done))) | (refine hb_old ?_ ?_; rotate_left; focus (first | omega | (simp; omega) | (simp; done))) | refine hb_drew ?_))
  have hb : Below w3.heap.size w3 w4 := by rw [hw4]; exact (by repeat (first | exact Below.refl _ _ | refine Below.alloc ?_ (by first | omega | (simp; omega) | (simp; done)) _ | refine Below.drew ?_))
  have s4 : w3.heap.size + 1 ≤ w4.heap.size := by rw [hw4]; simp
  have y4 := Below.size hb
  try simp only [World.size_alloc, World.size_drew] at y4
  have D4 := Lib.hid (show Below w.heap.size w w4 from Below.trans (by repeat (first | exact D3.out | exact Below.refl _ _ | refine Below.alloc ?_ (by first | omega | (simp; omega) | (simp; done)) _)) (Below.mono hb (by first | omega | (simp; omega) | (simp; done))))
  have z4 := D4.out.size
  clear hb hw4
  try clear c0_0 f0_0 c0_1 f0_1 c0_2 f0_2 c0_3 f0_3 c0_4 f0_4 c0_5 f0_5 c0_6 f0_6 c0_7 f0_7 c0_8 f0_8 c0_9 f0_9 c0_10 f0_10 c0_11 f0_11 c0_12 f0_12 c0_13 f0_13 c0_14 f0_14 c0_15 f0_15 c0_16 f0_16 c0_17 f0_17
  obtain ⟨c0_0, f0_0, c0_1, f0_1, c0_2, f0_2, c0_3, f0_3, c0_4, f0_4, c0_5, f0_5, c0_6, f0_6, c0_7, f0_7, c0_8, f0_8, c0_9, f0_9, c0_10, f0_10, c0_11, f0_11, c0_12, f0_12, c0_13, f0_13, c0_14, f0_14, c0_15, f0_15, c0_16, f0_16, c0_17, f0_17⟩ := cells18 h0
  try clear c1_0 f1_0 c1_1 f1_1
  obtain ⟨c1_0, f1_0, c1_1, f1_1⟩ := cells2 h1
  try clear c2_0 f2_0 c2_1 f2_1 c2_2 f2_2 c2_3 f2_3 c2_4 f2_4 c2_5 f2_5
  obtain ⟨c2_0, f2_0, c2_1, f2_1, c2_2, f2_2, c2_3, f2_3, c2_4, f2_4, c2_5, f2_5⟩ := cells6 h2
  try clear c3_0 f3_0 c3_1 f3_1
  obtain ⟨c3_0, f3_0, c3_1, f3_1⟩ := cells2 h3
  clear ha0 ca0_0 fa0_0 ca0_1 fa0_1 ca0_2 fa0_2 ca0_3 fa0_3 ca0_4 fa0_4 ca0_5 fa0_5 ca0_6 fa0_6 ca0_7 fa0_7 ca0_8 fa0_8 ca0_9 fa0_9 ca0_10 fa0_10 ca0_11 fa0_11 ca0_12 fa0_12 ca0_13 fa0_13 ca0_14 fa0_14 ca0_15 fa0_15 ca0_16 fa0_16 ca0_17 fa0_17
  clear ha1 ca1_0 fa1_0 ca1_1 fa1_1
  clear ha2 ca2_0 fa2_0 ca2_1 fa2_1 ca2_2 fa2_2 ca2_3 fa2_3 ca2_4 fa2_4 ca2_5 fa2_5
  refine (H4.out _).mono ?_
  rintro e w5 ⟨rfl, hb⟩
  replace h0 : w5.heap[w.heap.size]? = some (.cells #[.int .i64 l.m.a, .int .i64 l.m.b, .int .i64 l.m.c, .int .i64 l.m.d, .int .i64 l.t.x, .int .i64 l.t.y, .int .i64 m.m.a, .int .i64 m.m.b, .int .i64 m.m.c, .int .i64 m.m.d, .int .i64 m.t.x, .int .i64 m.t.y, .int .i64 n.m.a, .int .i64 n.m.b, .int .i64 n.m.c, .int .i64 n.m.d, .int .i64 n.t.x, .int .i64 n.t.y] 68 (0, 0)) := hb_below hb (by repeat (first | exact h0 | (refine hb_new ?_; (first | omega | (simp; omega) | (simp; done))) | (refine hb_old ?_ ?_; rotate_left; focus (first | omega | (simp; omega) | (simp; done))) | refine hb_drew ?_)) (by first | omega | (simp; omega) | (simp; done))
  replace h1 : w5.heap[w.heap.size + 1]? = some (.cells #[.int .i64 p.x, .int .i64 p.y] 25 (0, 0)) := hb_below hb (by repeat (first | exact h1 | (refine hb_new ?_; (first | omega | (simp; omega) | (simp; done))) | (refine hb_old ?_ ?_; rotate_left; focus (first | omega | (simp; omega) | (simp; done))) | refine hb_drew ?_)) (by first | omega | (simp; omega) | (simp; done))
  replace h2 : w5.heap[w1.heap.size]? = some (.cells #[.int .i64 v.m.a, .int .i64 v.m.b, .int .i64 v.m.c, .int .i64 v.m.d, .int .i64 v.t.x, .int .i64 v.t.y] 49 (0, 0)) := hb_below hb (by repeat (first | exact h2 | (refine hb_new ?_; (first | omega | (simp; omega) | (simp; done))) | (refine hb_old ?_ ?_; rotate_left; focus (first | omega | (simp; omega) | (simp; done))) | refine hb_drew ?_)) (by first | omega | (simp; omega) | (simp; done))
  replace h3 : w5.heap[w3.heap.size]? = some (.cells #[.int .i64 q.x, .int .i64 q.y] 25 (0, 0)) := hb_below hb (by repeat (first | exact h3 | (refine hb_new ?_; (first | omega | (simp; omega) | (simp; done))) | (refine hb_old ?_ ?_; rotate_left; focus (first | omega | (simp; omega) | (simp; done))) | refine hb_drew ?_)) (by first | omega | (simp; omega) | (simp; done))
  have y5 := Below.size hb
  try simp only [World.size_alloc, World.size_drew] at y5
  have D5 := Lib.hid (show Below w.heap.size w w5 from Below.trans (by repeat (first | exact D4.out | exact Below.refl _ _ | refine Below.alloc ?_ (by first | omega | (simp; omega) | (simp; done)) _)) (Below.mono hb (by first | omega | (simp; omega) | (simp; done))))
  have z5 := D5.out.size
  clear hb
  try clear c0_0 f0_0 c0_1 f0_1 c0_2 f0_2 c0_3 f0_3 c0_4 f0_4 c0_5 f0_5 c0_6 f0_6 c0_7 f0_7 c0_8 f0_8 c0_9 f0_9 c0_10 f0_10 c0_11 f0_11 c0_12 f0_12 c0_13 f0_13 c0_14 f0_14 c0_15 f0_15 c0_16 f0_16 c0_17 f0_17
  obtain ⟨c0_0, f0_0, c0_1, f0_1, c0_2, f0_2, c0_3, f0_3, c0_4, f0_4, c0_5, f0_5, c0_6, f0_6, c0_7, f0_7, c0_8, f0_8, c0_9, f0_9, c0_10, f0_10, c0_11, f0_11, c0_12, f0_12, c0_13, f0_13, c0_14, f0_14, c0_15, f0_15, c0_16, f0_16, c0_17, f0_17⟩ := cells18 h0
  try clear c1_0 f1_0 c1_1 f1_1
  obtain ⟨c1_0, f1_0, c1_1, f1_1⟩ := cells2 h1
  try clear c2_0 f2_0 c2_1 f2_1 c2_2 f2_2 c2_3 f2_3 c2_4 f2_4 c2_5 f2_5
  obtain ⟨c2_0, f2_0, c2_1, f2_1, c2_2, f2_2, c2_3, f2_3, c2_4, f2_4, c2_5, f2_5⟩ := cells6 h2
  try clear c3_0 f3_0 c3_1 f3_1
  obtain ⟨c3_0, f3_0, c3_1, f3_1⟩ := cells2 h3
  have ha0 : (w5.alloc (.cells #[.int .i64 a.m.a, .int .i64 a.m.b, .int .i64 a.m.c, .int .i64 a.m.d, .int .i64 a.t.x, .int .i64 a.t.y] 49)).heap[w.heap.size]? = some (.cells #[.int .i64 l.m.a, .int .i64 l.m.b, .int .i64 l.m.c, .int .i64 l.m.d, .int .i64 l.t.x, .int .i64 l.t.y, .int .i64 m.m.a, .int .i64 m.m.b, .int .i64 m.m.c, .int .i64 m.m.d, .int .i64 m.t.x, .int .i64 m.t.y, .int .i64 n.m.a, .int .i64 n.m.b, .int .i64 n.m.c, .int .i64 n.m.d, .int .i64 n.t.x, .int .i64 n.t.y] 68 (0, 0)) := (by repeat (first | exact h0 | (refine hb_new ?_; (first | omega | (simp; omega) | (simp; done))) | (refine hb_old ?_ ?_; rotate_left; focus (first | omega | (simp; omega) | (simp; done))) | refine hb_drew ?_))
  obtain ⟨ca0_0, fa0_0, ca0_1, fa0_1, ca0_2, fa0_2, ca0_3, fa0_3, ca0_4, fa0_4, ca0_5, fa0_5, ca0_6, fa0_6, ca0_7, fa0_7, ca0_8, fa0_8, ca0_9, fa0_9, ca0_10, fa0_10, ca0_11, fa0_11, ca0_12, fa0_12, ca0_13, fa0_13, ca0_14, fa0_14, ca0_15, fa0_15, ca0_16, fa0_16, ca0_17, fa0_17⟩ := cells18 ha0
  have ha1 : (w5.alloc (.cells #[.int .i64 a.m.a, .int .i64 a.m.b, .int .i64 a.m.c, .int .i64 a.m.d, .int .i64 a.t.x, .int .i64 a.t.y] 49)).heap[w.heap.size + 1]? = some (.cells #[.int .i64 p.x, .int .i64 p.y] 25 (0, 0)) := (by repeat (first | exact h1 | (refine hb_new ?_; (first | omega | (simp; omega) | (simp; done))) | (refine hb_old ?_ ?_; rotate_left; focus (first | omega | (simp; omega) | (simp; done))) | refine hb_drew ?_))
  obtain ⟨ca1_0, fa1_0, ca1_1, fa1_1⟩ := cells2 ha1
  go_wp2_with fail
  obtain ⟨w6, hw6⟩ : ∃ W, W = (w5.alloc (.cells #[.int .i64 a.m.a, .int .i64 a.m.b, .int .i64 a.m.c, .int .i64 a.m.d, .int .i64 a.t.x, .int .i64 a.t.y] 49)) := ⟨_, rfl⟩
  rw [← hw6]
  replace h0 : w6.heap[w.heap.size]? = some (.cells #[.int .i64 l.m.a, .int .i64 l.m.b, .int .i64 l.m.c, .int .i64 l.m.d, .int .i64 l.t.x, .int .i64 l.t.y, .int .i64 m.m.a, .int .i64 m.m.b, .int .i64 m.m.c, .int .i64 m.m.d, .int .i64 m.t.x, .int .i64 m.t.y, .int .i64 n.m.a, .int .i64 n.m.b, .int .i64 n.m.c, .int .i64 n.m.d, .int .i64 n.t.x, .int .i64 n.t.y] 68 (0, 0)) := by rw [hw6]; exact (by repeat (first | exact h0 | (refine hb_new ?_; (first | omega | (simp; omega) | (simp; done))) | (refine hb_old ?_ ?_; rotate_left; focus (first | omega | (simp; omega) | (simp; done))) | refine hb_drew ?_))
  replace h1 : w6.heap[w.heap.size + 1]? = some (.cells #[.int .i64 p.x, .int .i64 p.y] 25 (0, 0)) := by rw [hw6]; exact (by repeat (first | exact h1 | (refine hb_new ?_; (first | omega | (simp; omega) | (simp; done))) | (refine hb_old ?_ ?_; rotate_left; focus (first | omega | (simp; omega) | (simp; done))) | refine hb_drew ?_))
  replace h2 : w6.heap[w1.heap.size]? = some (.cells #[.int .i64 v.m.a, .int .i64 v.m.b, .int .i64 v.m.c, .int .i64 v.m.d, .int .i64 v.t.x, .int .i64 v.t.y] 49 (0, 0)) := by rw [hw6]; exact (by repeat (first | exact h2 | (refine hb_new ?_; (first | omega | (simp; omega) | (simp; done))) | (refine hb_old ?_ ?_; rotate_left; focus (first | omega | (simp; omega) | (simp; done))) | refine hb_drew ?_))
  replace h3 : w6.heap[w3.heap.size]? = some (.cells #[.int .i64 q.x, .int .i64 q.y] 25 (0, 0)) := by rw [hw6]; exact (by repeat (first | exact h3 | (refine hb_new ?_; (first | omega | (simp; omega) | (simp; done))) | (refine hb_old ?_ ?_; rotate_left; focus (first | omega | (simp; omega) | (simp; done))) | refine hb_drew ?_))
  have h4 : w6.heap[w5.heap.size]? = some (.cells #[.int .i64 a.m.a, .int .i64 a.m.b, .int .i64 a.m.c, .int .i64 a.m.d, .int .i64 a.t.x, .int .i64 a.t.y] 49 (0, 0)) := by rw [hw6]; exact (by repeat (first | (refine hb_new ?_; (first | omega | (simp; omega) | (simp; done))) | (refine hb_old ?_ ?_; rotate_left; focus (first | omega | (simp; omega) | (simp; done))) | refine hb_drew ?_))
  have hb : Below w5.heap.size w5 w6 := by rw [hw6]; exact (by repeat (first | exact Below.refl _ _ | refine Below.alloc ?_ (by first | omega | (simp; omega) | (simp; done)) _ | refine Below.drew ?_))
  have s6 : w5.heap.size + 1 ≤ w6.heap.size := by rw [hw6]; simp
  have y6 := Below.size hb
  try simp only [World.size_alloc, World.size_drew] at y6
  have D6 := Lib.hid (show Below w.heap.size w w6 from Below.trans (by repeat (first | exact D5.out | exact Below.refl _ _ | refine Below.alloc ?_ (by first | omega | (simp; omega) | (simp; done)) _)) (Below.mono hb (by first | omega | (simp; omega) | (simp; done))))
  have z6 := D6.out.size
  clear hb hw6
  try clear c0_0 f0_0 c0_1 f0_1 c0_2 f0_2 c0_3 f0_3 c0_4 f0_4 c0_5 f0_5 c0_6 f0_6 c0_7 f0_7 c0_8 f0_8 c0_9 f0_9 c0_10 f0_10 c0_11 f0_11 c0_12 f0_12 c0_13 f0_13 c0_14 f0_14 c0_15 f0_15 c0_16 f0_16 c0_17 f0_17
  obtain ⟨c0_0, f0_0, c0_1, f0_1, c0_2, f0_2, c0_3, f0_3, c0_4, f0_4, c0_5, f0_5, c0_6, f0_6, c0_7, f0_7, c0_8, f0_8, c0_9, f0_9, c0_10, f0_10, c0_11, f0_11, c0_12, f0_12, c0_13, f0_13, c0_14, f0_14, c0_15, f0_15, c0_16, f0_16, c0_17, f0_17⟩ := cells18 h0
  try clear c1_0 f1_0 c1_1 f1_1
  obtain ⟨c1_0, f1_0, c1_1, f1_1⟩ := cells2 h1
  try clear c2_0 f2_0 c2_1 f2_1 c2_2 f2_2 c2_3 f2_3 c2_4 f2_4 c2_5 f2_5
  obtain ⟨c2_0, f2_0, c2_1, f2_1, c2_2, f2_2, c2_3, f2_3, c2_4, f2_4, c2_5, f2_5⟩ := cells6 h2
  try clear c3_0 f3_0 c3_1 f3_1
  obtain ⟨c3_0, f3_0, c3_1, f3_1⟩ := cells2 h3
  try clear c4_0 f4_0 c4_1 f4_1 c4_2 f4_2 c4_3 f4_3 c4_4 f4_4 c4_5 f4_5
  obtain ⟨c4_0, f4_0, c4_1, f4_1, c4_2, f4_2, c4_3, f4_3, c4_4, f4_4, c4_5, f4_5⟩ := cells6 h4
  clear ha0 ca0_0 fa0_0 ca0_1 fa0_1 ca0_2 fa0_2 ca0_3 fa0_3 ca0_4 fa0_4 ca0_5 fa0_5 ca0_6 fa0_6 ca0_7 fa0_7 ca0_8 fa0_8 ca0_9 fa0_9 ca0_10 fa0_10 ca0_11 fa0_11 ca0_12 fa0_12 ca0_13 fa0_13 ca0_14 fa0_14 ca0_15 fa0_15 ca0_16 fa0_16 ca0_17 fa0_17
  clear ha1 ca1_0 fa1_0 ca1_1 fa1_1
  refine (H5.out _).mono ?_
  rintro e w7 ⟨rfl, hb⟩
  replace h0 : w7.heap[w.heap.size]? = some (.cells #[.int .i64 l.m.a, .int .i64 l.m.b, .int .i64 l.m.c, .int .i64 l.m.d, .int .i64 l.t.x, .int .i64 l.t.y, .int .i64 m.m.a, .int .i64 m.m.b, .int .i64 m.m.c, .int .i64 m.m.d, .int .i64 m.t.x, .int .i64 m.t.y, .int .i64 n.m.a, .int .i64 n.m.b, .int .i64 n.m.c, .int .i64 n.m.d, .int .i64 n.t.x, .int .i64 n.t.y] 68 (0, 0)) := hb_below hb (by repeat (first | exact h0 | (refine hb_new ?_; (first | omega | (simp; omega) | (simp; done))) | (refine hb_old ?_ ?_; rotate_left; focus (first | omega | (simp; omega) | (simp; done))) | refine hb_drew ?_)) (by first | omega | (simp; omega) | (simp; done))
  replace h1 : w7.heap[w.heap.size + 1]? = some (.cells #[.int .i64 p.x, .int .i64 p.y] 25 (0, 0)) := hb_below hb (by repeat (first | exact h1 | (refine hb_new ?_; (first | omega | (simp; omega) | (simp; done))) | (refine hb_old ?_ ?_; rotate_left; focus (first | omega | (simp; omega) | (simp; done))) | refine hb_drew ?_)) (by first | omega | (simp; omega) | (simp; done))
  replace h2 : w7.heap[w1.heap.size]? = some (.cells #[.int .i64 v.m.a, .int .i64 v.m.b, .int .i64 v.m.c, .int .i64 v.m.d, .int .i64 v.t.x, .int .i64 v.t.y] 49 (0, 0)) := hb_below hb (by repeat (first | exact h2 | (refine hb_new ?_; (first | omega | (simp; omega) | (simp; done))) | (refine hb_old ?_ ?_; rotate_left; focus (first | omega | (simp; omega) | (simp; done))) | refine hb_drew ?_)) (by first | omega | (simp; omega) | (simp; done))
  replace h3 : w7.heap[w3.heap.size]? = some (.cells #[.int .i64 q.x, .int .i64 q.y] 25 (0, 0)) := hb_below hb (by repeat (first | exact h3 | (refine hb_new ?_; (first | omega | (simp; omega) | (simp; done))) | (refine hb_old ?_ ?_; rotate_left; focus (first | omega | (simp; omega) | (simp; done))) | refine hb_drew ?_)) (by first | omega | (simp; omega) | (simp; done))
  replace h4 : w7.heap[w5.heap.size]? = some (.cells #[.int .i64 a.m.a, .int .i64 a.m.b, .int .i64 a.m.c, .int .i64 a.m.d, .int .i64 a.t.x, .int .i64 a.t.y] 49 (0, 0)) := hb_below hb (by repeat (first | exact h4 | (refine hb_new ?_; (first | omega | (simp; omega) | (simp; done))) | (refine hb_old ?_ ?_; rotate_left; focus (first | omega | (simp; omega) | (simp; done))) | refine hb_drew ?_)) (by first | omega | (simp; omega) | (simp; done))
  have y7 := Below.size hb
  try simp only [World.size_alloc, World.size_drew] at y7
  have D7 := Lib.hid (show Below w.heap.size w w7 from Below.trans (by repeat (first | exact D6.out | exact Below.refl _ _ | refine Below.alloc ?_ (by first | omega | (simp; omega) | (simp; done)) _)) (Below.mono hb (by first | omega | (simp; omega) | (simp; done))))
  have z7 := D7.out.size
  clear hb
  try clear c0_0 f0_0 c0_1 f0_1 c0_2 f0_2 c0_3 f0_3 c0_4 f0_4 c0_5 f0_5 c0_6 f0_6 c0_7 f0_7 c0_8 f0_8 c0_9 f0_9 c0_10 f0_10 c0_11 f0_11 c0_12 f0_12 c0_13 f0_13 c0_14 f0_14 c0_15 f0_15 c0_16 f0_16 c0_17 f0_17
  obtain ⟨c0_0, f0_0, c0_1, f0_1, c0_2, f0_2, c0_3, f0_3, c0_4, f0_4, c0_5, f0_5, c0_6, f0_6, c0_7, f0_7, c0_8, f0_8, c0_9, f0_9, c0_10, f0_10, c0_11, f0_11, c0_12, f0_12, c0_13, f0_13, c0_14, f0_14, c0_15, f0_15, c0_16, f0_16, c0_17, f0_17⟩ := cells18 h0
  try clear c1_0 f1_0 c1_1 f1_1
  obtain ⟨c1_0, f1_0, c1_1, f1_1⟩ := cells2 h1
  try clear c2_0 f2_0 c2_1 f2_1 c2_2 f2_2 c2_3 f2_3 c2_4 f2_4 c2_5 f2_5
  obtain ⟨c2_0, f2_0, c2_1, f2_1, c2_2, f2_2, c2_3, f2_3, c2_4, f2_4, c2_5, f2_5⟩ := cells6 h2
  try clear c3_0 f3_0 c3_1 f3_1
  obtain ⟨c3_0, f3_0, c3_1, f3_1⟩ := cells2 h3
  try clear c4_0 f4_0 c4_1 f4_1 c4_2 f4_2 c4_3 f4_3 c4_4 f4_4 c4_5 f4_5
  obtain ⟨c4_0, f4_0, c4_1, f4_1, c4_2, f4_2, c4_3, f4_3, c4_4, f4_4, c4_5, f4_5⟩ := cells6 h4
  have ha0 : (w7.alloc (.cells #[.int .i64 b.m.a, .int .i64 b.m.b, .int .i64 b.m.c, .int .i64 b.m.d, .int .i64 b.t.x, .int .i64 b.t.y] 49)).heap[w.heap.size]? = some (.cells #[.int .i64 l.m.a, .int .i64 l.m.b, .int .i64 l.m.c, .int .i64 l.m.d, .int .i64 l.t.x, .int .i64 l.t.y, .int .i64 m.m.a, .int .i64 m.m.b, .int .i64 m.m.c, .int .i64 m.m.d, .int .i64 m.t.x, .int .i64 m.t.y, .int .i64 n.m.a, .int .i64 n.m.b, .int .i64 n.m.c, .int .i64 n.m.d, .int .i64 n.t.x, .int .i64 n.t.y] 68 (0, 0)) := (by repeat (first | exact h0 | (refine hb_new ?_; (first | omega | (simp; omega) | (simp; done))) | (refine hb_old ?_ ?_; rotate_left; focus (first | omega | (simp; omega) | (simp; done))) | refine hb_drew ?_))
  obtain ⟨ca0_0, fa0_0, ca0_1, fa0_1, ca0_2, fa0_2, ca0_3, fa0_3, ca0_4, fa0_4, ca0_5, fa0_5, ca0_6, fa0_6, ca0_7, fa0_7, ca0_8, fa0_8, ca0_9, fa0_9, ca0_10, fa0_10, ca0_11, fa0_11, ca0_12, fa0_12, ca0_13, fa0_13, ca0_14, fa0_14, ca0_15, fa0_15, ca0_16, fa0_16, ca0_17, fa0_17⟩ := cells18 ha0
  have ha1 : (w7.alloc (.cells #[.int .i64 b.m.a, .int .i64 b.m.b, .int .i64 b.m.c, .int .i64 b.m.d, .int .i64 b.t.x, .int .i64 b.t.y] 49)).heap[w.heap.size + 1]? = some (.cells #[.int .i64 p.x, .int .i64 p.y] 25 (0, 0)) := (by repeat (first | exact h1 | (refine hb_new ?_; (first | omega | (simp; omega) | (simp; done))) | (refine hb_old ?_ ?_; rotate_left; focus (first | omega | (simp; omega) | (simp; done))) | refine hb_drew ?_))
  obtain ⟨ca1_0, fa1_0, ca1_1, fa1_1⟩ := cells2 ha1
  have ha4 : (w7.alloc (.cells #[.int .i64 b.m.a, .int .i64 b.m.b, .int .i64 b.m.c, .int .i64 b.m.d, .int .i64 b.t.x, .int .i64 b.t.y] 49)).heap[w5.heap.size]? = some (.cells #[.int .i64 a.m.a, .int .i64 a.m.b, .int .i64 a.m.c, .int .i64 a.m.d, .int .i64 a.t.x, .int .i64 a.t.y] 49 (0, 0)) := (by repeat (first | exact h4 | (refine hb_new ?_; (first | omega | (simp; omega) | (simp; done))) | (refine hb_old ?_ ?_; rotate_left; focus (first | omega | (simp; omega) | (simp; done))) | refine hb_drew ?_))
  obtain ⟨ca4_0, fa4_0, ca4_1, fa4_1, ca4_2, fa4_2, ca4_3, fa4_3, ca4_4, fa4_4, ca4_5, fa4_5⟩ := cells6 ha4
  by_cases qa : ae = 0
  · by_cases qb : be = 0
    · subst qa
      subst qb
      obtain ⟨r1, r2⟩ := G2.out (by simp) (by simp)
      have C8 := H8.out
      rw [← r1, ← r2] at C8
      replace H8 := Lib.hid C8
      clear r1 r2 C8
      go_wp2_with fail
      obtain ⟨w8, hw8⟩ : ∃ W, W = (w7.alloc (.cells #[.int .i64 b.m.a, .int .i64 b.m.b, .int .i64 b.m.c, .int .i64 b.m.d, .int .i64 b.t.x, .int .i64 b.t.y] 49)) := ⟨_, rfl⟩
      rw [← hw8]
      replace h0 : w8.heap[w.heap.size]? = some (.cells #[.int .i64 l.m.a, .int .i64 l.m.b, .int .i64 l.m.c, .int .i64 l.m.d, .int .i64 l.t.x, .int .i64 l.t.y, .int .i64 m.m.a, .int .i64 m.m.b, .int .i64 m.m.c, .int .i64 m.m.d, .int .i64 m.t.x, .int .i64 m.t.y, .int .i64 n.m.a, .int .i64 n.m.b, .int .i64 n.m.c, .int .i64 n.m.d, .int .i64 n.t.x, .int .i64 n.t.y] 68 (0, 0)) := by rw [hw8]; exact (by repeat (first | exact h0 | (refine hb_new ?_; (first | omega | (simp; omega) | (simp; done))) | (refine hb_old ?_ ?_; rotate_left; focus (first | omega | (simp; omega) | (simp; done))) | refine hb_drew ?_))
      replace h1 : w8.heap[w.heap.size + 1]? = some (.cells #[.int .i64 p.x, .int .i64 p.y] 25 (0, 0)) := by rw [hw8]; exact (by repeat (first | exact h1 | (refine hb_new ?_; (first | omega | (simp; omega) | (simp; done))) | (refine hb_old ?_ ?_; rotate_left; focus (first | omega | (simp; omega) | (simp; done))) | refine hb_drew ?_))
      replace h2 : w8.heap[w1.heap.size]? = some (.cells #[.int .i64 v.m.a, .int .i64 v.m.b, .int .i64 v.m.c, .int .i64 v.m.d, .int .i64 v.t.x, .int .i64 v.t.y] 49 (0, 0)) := by rw [hw8]; exact (by repeat (first | exact h2 | (refine hb_new ?_; (first | omega | (simp; omega) | (simp; done))) | (refine hb_old ?_ ?_; rotate_left; focus (first | omega | (simp; omega) | (simp; done))) | refine hb_drew ?_))
      replace h3 : w8.heap[w3.heap.size]? = some (.cells #[.int .i64 q.x, .int .i64 q.y] 25 (0, 0)) := by rw [hw8]; exact (by repeat (first | exact h3 | (refine hb_new ?_; (first | omega | (simp; omega) | (simp; done))) | (refine hb_old ?_ ?_; rotate_left; focus (first | omega | (simp; omega) | (simp; done))) | refine hb_drew ?_))
      replace h4 : w8.heap[w5.heap.size]? = some (.cells #[.int .i64 a.m.a, .int .i64 a.m.b, .int .i64 a.m.c, .int .i64 a.m.d, .int .i64 a.t.x, .int .i64 a.t.y] 49 (0, 0)) := by rw [hw8]; exact (by repeat (first | exact h4 | (refine hb_new ?_; (first | omega | (simp; omega) | (simp; done))) | (refine hb_old ?_ ?_; rotate_left; focus (first | omega | (simp; omega) | (simp; done))) | refine hb_drew ?_))
      have h5 : w8.heap[w7.heap.size]? = some (.cells #[.int .i64 b.m.a, .int .i64 b.m.b, .int .i64 b.m.c, .int .i64 b.m.d, .int .i64 b.t.x, .int .i64 b.t.y] 49 (0, 0)) := by rw [hw8]; exact (by repeat (first | (refine hb_new ?_; (first | omega | (simp; omega) | (simp; done))) | (refine hb_old ?_ ?_; rotate_left; focus (first | omega | (simp; omega) | (simp; done))) | refine hb_drew ?_))
      have hb : Below w7.heap.size w7 w8 := by rw [hw8]; exact (by repeat (first | exact Below.refl _ _ | refine Below.alloc ?_ (by first | omega | (simp; omega) | (simp; done)) _ | refine Below.drew ?_))
      have s8 : w7.heap.size + 1 ≤ w8.heap.size := by rw [hw8]; simp
      have y8 := Below.size hb
      try simp only [World.size_alloc, World.size_drew] at y8
      have D8 := Lib.hid (show Below w.heap.size w w8 from Below.trans (by repeat (first | exact D7.out | exact Below.refl _ _ | refine Below.alloc ?_ (by first | omega | (simp; omega) | (simp; done)) _)) (Below.mono hb (by first | omega | (simp; omega) | (simp; done))))
      have z8 := D8.out.size
      clear hb hw8
      try clear c0_0 f0_0 c0_1 f0_1 c0_2 f0_2 c0_3 f0_3 c0_4 f0_4 c0_5 f0_5 c0_6 f0_6 c0_7 f0_7 c0_8 f0_8 c0_9 f0_9 c0_10 f0_10 c0_11 f0_11 c0_12 f0_12 c0_13 f0_13 c0_14 f0_14 c0_15 f0_15 c0_16 f0_16 c0_17 f0_17
      obtain ⟨c0_0, f0_0, c0_1, f0_1, c0_2, f0_2, c0_3, f0_3, c0_4, f0_4, c0_5, f0_5, c0_6, f0_6, c0_7, f0_7, c0_8, f0_8, c0_9, f0_9, c0_10, f0_10, c0_11, f0_11, c0_12, f0_12, c0_13, f0_13, c0_14, f0_14, c0_15, f0_15, c0_16, f0_16, c0_17, f0_17⟩ := cells18 h0
      try clear c1_0 f1_0 c1_1 f1_1
      obtain ⟨c1_0, f1_0, c1_1, f1_1⟩ := cells2 h1
      try clear c2_0 f2_0 c2_1 f2_1 c2_2 f2_2 c2_3 f2_3 c2_4 f2_4 c2_5 f2_5
      obtain ⟨c2_0, f2_0, c2_1, f2_1, c2_2, f2_2, c2_3, f2_3, c2_4, f2_4, c2_5, f2_5⟩ := cells6 h2
      try clear c3_0 f3_0 c3_1 f3_1
      obtain ⟨c3_0, f3_0, c3_1, f3_1⟩ := cells2 h3
      try clear c4_0 f4_0 c4_1 f4_1 c4_2 f4_2 c4_3 f4_3 c4_4 f4_4 c4_5 f4_5
      obtain ⟨c4_0, f4_0, c4_1, f4_1, c4_2, f4_2, c4_3, f4_3, c4_4, f4_4, c4_5, f4_5⟩ := cells6 h4
      try clear c5_0 f5_0 c5_1 f5_1 c5_2 f5_2 c5_3 f5_3 c5_4 f5_4 c5_5 f5_5
      obtain ⟨c5_0, f5_0, c5_1, f5_1, c5_2, f5_2, c5_3, f5_3, c5_4, f5_4, c5_5, f5_5⟩ := cells6 h5
      clear ha0 ca0_0 fa0_0 ca0_1 fa0_1 ca0_2 fa0_2 ca0_3 fa0_3 ca0_4 fa0_4 ca0_5 fa0_5 ca0_6 fa0_6 ca0_7 fa0_7 ca0_8 fa0_8 ca0_9 fa0_9 ca0_10 fa0_10 ca0_11 fa0_11 ca0_12 fa0_12 ca0_13 fa0_13 ca0_14 fa0_14 ca0_15 fa0_15 ca0_16 fa0_16 ca0_17 fa0_17
      clear ha1 ca1_0 fa1_0 ca1_1 fa1_1
      clear ha4 ca4_0 fa4_0 ca4_1 fa4_1 ca4_2 fa4_2 ca4_3 fa4_3 ca4_4 fa4_4 ca4_5 fa4_5
      refine (H6.out _).mono ?_
      rintro e w9 ⟨rfl, hb⟩
      replace h0 : w9.heap[w.heap.size]? = some (.cells #[.int .i64 l.m.a, .int .i64 l.m.b, .int .i64 l.m.c, .int .i64 l.m.d, .int .i64 l.t.x, .int .i64 l.t.y, .int .i64 m.m.a, .int .i64 m.m.b, .int .i64 m.m.c, .int .i64 m.m.d, .int .i64 m.t.x, .int .i64 m.t.y, .int .i64 n.m.a, .int .i64 n.m.b, .int .i64 n.m.c, .int .i64 n.m.d, .int .i64 n.t.x, .int .i64 n.t.y] 68 (0, 0)) := hb_below hb (by repeat (first | exact h0 | (refine hb_new ?_; (first | omega | (simp; omega) | (simp; done))) | (refine hb_old ?_ ?_; rotate_left; focus (first | omega | (simp; omega) | (simp; done))) | refine hb_drew ?_)) (by first | omega | (simp; omega) | (simp; done))
      replace h1 : w9.heap[w.heap.size + 1]? = some (.cells #[.int .i64 p.x, .int .i64 p.y] 25 (0, 0)) := hb_below hb (by repeat (first | exact h1 | (refine hb_new ?_; (first | omega | (simp; omega) | (simp; done))) | (refine hb_old ?_ ?_; rotate_left; focus (first | omega | (simp; omega) | (simp; done))) | refine hb_drew ?_)) (by first | omega | (simp; omega) | (simp; done))
      replace h2 : w9.heap[w1.heap.size]? = some (.cells #[.int .i64 v.m.a, .int .i64 v.m.b, .int .i64 v.m.c, .int .i64 v.m.d, .int .i64 v.t.x, .int .i64 v.t.y] 49 (0, 0)) := hb_below hb (by repeat (first | exact h2 | (refine hb_new ?_; (first | omega | (simp; omega) | (simp; done))) | (refine hb_old ?_ ?_; rotate_left; focus (first | omega | (simp; omega) | (simp; done))) | refine hb_drew ?_)) (by first | omega | (simp; omega) | (simp; done))
      replace h3 : w9.heap[w3.heap.size]? = some (.cells #[.int .i64 q.x, .int .i64 q.y] 25 (0, 0)) := hb_below hb (by repeat (first | exact h3 | (refine hb_new ?_; (first | omega | (simp; omega) | (simp; done))) | (refine hb_old ?_ ?_; rotate_left; focus (first | omega | (simp; omega) | (simp; done))) | refine hb_drew ?_)) (by first | omega | (simp; omega) | (simp; done))
      replace h4 : w9.heap[w5.heap.size]? = some (.cells #[.int .i64 a.m.a, .int .i64 a.m.b, .int .i64 a.m.c, .int .i64 a.m.d, .int .i64 a.t.x, .int .i64 a.t.y] 49 (0, 0)) := hb_below hb (by repeat (first | exact h4 | (refine hb_new ?_; (first | omega | (simp; omega) | (simp; done))) | (refine hb_old ?_ ?_; rotate_left; focus (first | omega | (simp; omega) | (simp; done))) | refine hb_drew ?_)) (by first | omega | (simp; omega) | (simp; done))
      replace h5 : w9.heap[w7.heap.size]? = some (.cells #[.int .i64 b.m.a, .int .i64 b.m.b, .int .i64 b.m.c, .int .i64 b.m.d, .int .i64 b.t.x, .int .i64 b.t.y] 49 (0, 0)) := hb_below hb (by repeat (first | exact h5 | (refine hb_new ?_; (first | omega | (simp; omega) | (simp; done))) | (refine hb_old ?_ ?_; rotate_left; focus (first | omega | (simp; omega) | (simp; done))) | refine hb_drew ?_)) (by first | omega | (simp; omega) | (simp; done))
      have y9 := Below.size hb
      try simp only [World.size_alloc, World.size_drew] at y9
      have D9 := Lib.hid (show Below w.heap.size w w9 from Below.trans (by repeat (first | exact D8.out | exact Below.refl _ _ | refine Below.alloc ?_ (by first | omega | (simp; omega) | (simp; done)) _)) (Below.mono hb (by first | omega | (simp; omega) | (simp; done))))
      have z9 := D9.out.size
      clear hb
      try clear c0_0 f0_0 c0_1 f0_1 c0_2 f0_2 c0_3 f0_3 c0_4 f0_4 c0_5 f0_5 c0_6 f0_6 c0_7 f0_7 c0_8 f0_8 c0_9 f0_9 c0_10 f0_10 c0_11 f0_11 c0_12 f0_12 c0_13 f0_13 c0_14 f0_14 c0_15 f0_15 c0_16 f0_16 c0_17 f0_17
      obtain ⟨c0_0, f0_0, c0_1, f0_1, c0_2, f0_2, c0_3, f0_3, c0_4, f0_4, c0_5, f0_5, c0_6, f0_6, c0_7, f0_7, c0_8, f0_8, c0_9, f0_9, c0_10, f0_10, c0_11, f0_11, c0_12, f0_12, c0_13, f0_13, c0_14, f0_14, c0_15, f0_15, c0_16, f0_16, c0_17, f0_17⟩ := cells18 h0
      try clear c1_0 f1_0 c1_1 f1_1
      obtain ⟨c1_0, f1_0, c1_1, f1_1⟩ := cells2 h1
      try clear c2_0 f2_0 c2_1 f2_1 c2_2 f2_2 c2_3 f2_3 c2_4 f2_4 c2_5 f2_5
      obtain ⟨c2_0, f2_0, c2_1, f2_1, c2_2, f2_2, c2_3, f2_3, c2_4, f2_4, c2_5, f2_5⟩ := cells6 h2
      try clear c3_0 f3_0 c3_1 f3_1
      obtain ⟨c3_0, f3_0, c3_1, f3_1⟩ := cells2 h3
      try clear c4_0 f4_0 c4_1 f4_1 c4_2 f4_2 c4_3 f4_3 c4_4 f4_4 c4_5 f4_5
      obtain ⟨c4_0, f4_0, c4_1, f4_1, c4_2, f4_2, c4_3, f4_3, c4_4, f4_4, c4_5, f4_5⟩ := cells6 h4
      try clear c5_0 f5_0 c5_1 f5_1 c5_2 f5_2 c5_3 f5_3 c5_4 f5_4 c5_5 f5_5
      obtain ⟨c5_0, f5_0, c5_1, f5_1, c5_2, f5_2, c5_3, f5_3, c5_4, f5_4, c5_5, f5_5⟩ := cells6 h5
      have ha0 : (w9.alloc (.cells #[.int .i64 cv.m.a, .int .i64 cv.m.b, .int .i64 cv.m.c, .int .i64 cv.m.d, .int .i64 cv.t.x, .int .i64 cv.t.y] 49)).heap[w.heap.size]? = some (.cells #[.int .i64 l.m.a, .int .i64 l.m.b, .int .i64 l.m.c, .int .i64 l.m.d, .int .i64 l.t.x, .int .i64 l.t.y, .int .i64 m.m.a, .int .i64 m.m.b, .int .i64 m.m.c, .int .i64 m.m.d, .int .i64 m.t.x, .int .i64 m.t.y, .int .i64 n.m.a, .int .i64 n.m.b, .int .i64 n.m.c, .int .i64 n.m.d, .int .i64 n.t.x, .int .i64 n.t.y] 68 (0, 0)) := (by repeat (first | exact h0 | (refine hb_new ?_; (first | omega | (simp; omega) | (simp; done))) | (refine hb_old ?_ ?_; rotate_left; focus (first | omega | (simp; omega) | (simp; done))) | refine hb_drew ?_))
      obtain ⟨ca0_0, fa0_0, ca0_1, fa0_1, ca0_2, fa0_2, ca0_3, fa0_3, ca0_4, fa0_4, ca0_5, fa0_5, ca0_6, fa0_6, ca0_7, fa0_7, ca0_8, fa0_8, ca0_9, fa0_9, ca0_10, fa0_10, ca0_11, fa0_11, ca0_12, fa0_12, ca0_13, fa0_13, ca0_14, fa0_14, ca0_15, fa0_15, ca0_16, fa0_16, ca0_17, fa0_17⟩ := cells18 ha0
      have ha1 : (w9.alloc (.cells #[.int .i64 cv.m.a, .int .i64 cv.m.b, .int .i64 cv.m.c, .int .i64 cv.m.d, .int .i64 cv.t.x, .int .i64 cv.t.y] 49)).heap[w.heap.size + 1]? = some (.cells #[.int .i64 p.x, .int .i64 p.y] 25 (0, 0)) := (by repeat (first | exact h1 | (refine hb_new ?_; (first | omega | (simp; omega) | (simp; done))) | (refine hb_old ?_ ?_; rotate_left; focus (first | omega | (simp; omega) | (simp; done))) | refine hb_drew ?_))
      obtain ⟨ca1_0, fa1_0, ca1_1, fa1_1⟩ := cells2 ha1
      have ha5 : (w9.alloc (.cells #[.int .i64 cv.m.a, .int .i64 cv.m.b, .int .i64 cv.m.c, .int .i64 cv.m.d, .int .i64 cv.t.x, .int .i64 cv.t.y] 49)).heap[w7.heap.size]? = some (.cells #[.int .i64 b.m.a, .int .i64 b.m.b, .int .i64 b.m.c, .int .i64 b.m.d, .int .i64 b.t.x, .int .i64 b.t.y] 49 (0, 0)) := (by repeat (first | exact h5 | (refine hb_new ?_; (first | omega | (simp; omega) | (simp; done))) | (refine hb_old ?_ ?_; rotate_left; focus (first | omega | (simp; omega) | (simp; done))) | refine hb_drew ?_))
      obtain ⟨ca5_0, fa5_0, ca5_1, fa5_1, ca5_2, fa5_2, ca5_3, fa5_3, ca5_4, fa5_4, ca5_5, fa5_5⟩ := cells6 ha5
      have ha4 : (w9.alloc (.cells #[.int .i64 cv.m.a, .int .i64 cv.m.b, .int .i64 cv.m.c, .int .i64 cv.m.d, .int .i64 cv.t.x, .int .i64 cv.t.y] 49)).heap[w5.heap.size]? = some (.cells #[.int .i64 a.m.a, .int .i64 a.m.b, .int .i64 a.m.c, .int .i64 a.m.d, .int .i64 a.t.x, .int .i64 a.t.y] 49 (0, 0)) := (by repeat (first | exact h4 | (refine hb_new ?_; (first | omega | (simp; omega) | (simp; done))) | (refine hb_old ?_ ?_; rotate_left; focus (first | omega | (simp; omega) | (simp; done))) | refine hb_drew ?_))
      obtain ⟨ca4_0, fa4_0, ca4_1, fa4_1, ca4_2, fa4_2, ca4_3, fa4_3, ca4_4, fa4_4, ca4_5, fa4_5⟩ := cells6 ha4
      go_wp2_with fail
      obtain ⟨w10, hw10⟩ : ∃ W, W = (w9.alloc (.cells #[.int .i64 cv.m.a, .int .i64 cv.m.b, .int .i64 cv.m.c, .int .i64 cv.m.d, .int .i64 cv.t.x, .int .i64 cv.t.y] 49)) := ⟨_, rfl⟩
      rw [← hw10]
      replace h0 : w10.heap[w.heap.size]? = some (.cells #[.int .i64 l.m.a, .int .i64 l.m.b, .int .i64 l.m.c, .int .i64 l.m.d, .int .i64 l.t.x, .int .i64 l.t.y, .int .i64 m.m.a, .int .i64 m.m.b, .int .i64 m.m.c, .int .i64 m.m.d, .int .i64 m.t.x, .int .i64 m.t.y, .int .i64 n.m.a, .int .i64 n.m.b, .int .i64 n.m.c, .int .i64 n.m.d, .int .i64 n.t.x, .int .i64 n.t.y] 68 (0, 0)) := by rw [hw10]; exact (by repeat (first | exact h0 | (refine hb_new ?_; (first | omega | (simp; omega) | (simp; done))) | (refine hb_old ?_ ?_; rotate_left; focus (first | omega | (simp; omega) | (simp; done))) | refine hb_drew ?_))
      replace h1 : w10.heap[w.heap.size + 1]? = some (.cells #[.int .i64 p.x, .int .i64 p.y] 25 (0, 0)) := by rw [hw10]; exact (by repeat (first | exact h1 | (refine hb_new ?_; (first | omega | (simp; omega) | (simp; done))) | (refine hb_old ?_ ?_; rotate_left; focus (first | omega | (simp; omega) | (simp; done))) | refine hb_drew ?_))
      replace h2 : w10.heap[w1.heap.size]? = some (.cells #[.int .i64 v.m.a, .int .i64 v.m.b, .int .i64 v.m.c, .int .i64 v.m.d, .int .i64 v.t.x, .int .i64 v.t.y] 49 (0, 0)) := by rw [hw10]; exact (by repeat (first | exact h2 | (refine hb_new ?_; (first | omega | (simp; omega) | (simp; done))) | (refine hb_old ?_ ?_; rotate_left; focus (first | omega | (simp; omega) | (simp; done))) | refine hb_drew ?_))
      replace h3 : w10.heap[w3.heap.size]? = some (.cells #[.int .i64 q.x, .int .i64 q.y] 25 (0, 0)) := by rw [hw10]; exact (by repeat (first | exact h3 | (refine hb_new ?_; (first | omega | (simp; omega) | (simp; done))) | (refine hb_old ?_ ?_; rotate_left; focus (first | omega | (simp; omega) | (simp; done))) | refine hb_drew ?_))
      replace h4 : w10.heap[w5.heap.size]? = some (.cells #[.int .i64 a.m.a, .int .i64 a.m.b, .int .i64 a.m.c, .int .i64 a.m.d, .int .i64 a.t.x, .int .i64 a.t.y] 49 (0, 0)) := by rw [hw10]; exact (by repeat (first | exact h4 | (refine hb_new ?_; (first | omega | (simp; omega) | (simp; done))) | (refine hb_old ?_ ?_; rotate_left; focus (first | omega | (simp; omega) | (simp; done))) | refine hb_drew ?_))
      replace h5 : w10.heap[w7.heap.size]? = some (.cells #[.int .i64 b.m.a, .int .i64 b.m.b, .int .i64 b.m.c, .int .i64 b.m.d, .int .i64 b.t.x, .int .i64 b.t.y] 49 (0, 0)) := by rw [hw10]; exact (by repeat (first | exact h5 | (refine hb_new ?_; (first | omega | (simp; omega) | (simp; done))) | (refine hb_old ?_ ?_; rotate_left; focus (first | omega | (simp; omega) | (simp; done))) | refine hb_drew ?_))
      have h6 : w10.heap[w9.heap.size]? = some (.cells #[.int .i64 cv.m.a, .int .i64 cv.m.b, .int .i64 cv.m.c, .int .i64 cv.m.d, .int .i64 cv.t.x, .int .i64 cv.t.y] 49 (0, 0)) := by rw [hw10]; exact (by repeat (first | (refine hb_new ?_; (first | omega | (simp; omega) | (simp; done))) | (refine hb_old ?_ ?_; rotate_left; focus (first | omega | (simp; omega) | (simp; done))) | refine hb_drew ?_))
      have hb : Below w9.heap.size w9 w10 := by rw [hw10]; exact (by repeat (first | exact Below.refl _ _ | refine Below.alloc ?_ (by first | omega | (simp; omega) | (simp; done)) _ | refine Below.drew ?_))
      have s10 : w9.heap.size + 1 ≤ w10.heap.size := by rw [hw10]; simp
      have y10 := Below.size hb
      try simp only [World.size_alloc, World.size_drew] at y10
      have D10 := Lib.hid (show Below w.heap.size w w10 from Below.trans (by repeat (first | exact D9.out | exact Below.refl _ _ | refine Below.alloc ?_ (by first | omega | (simp; omega) | (simp; done)) _)) (Below.mono hb (by first | omega | (simp; omega) | (simp; done))))
      have z10 := D10.out.size
      clear hb hw10
      try clear c0_0 f0_0 c0_1 f0_1 c0_2 f0_2 c0_3 f0_3 c0_4 f0_4 c0_5 f0_5 c0_6 f0_6 c0_7 f0_7 c0_8 f0_8 c0_9 f0_9 c0_10 f0_10 c0_11 f0_11 c0_12 f0_12 c0_13 f0_13 c0_14 f0_14 c0_15 f0_15 c0_16 f0_16 c0_17 f0_17
      obtain ⟨c0_0, f0_0, c0_1, f0_1, c0_2, f0_2, c0_3, f0_3, c0_4, f0_4, c0_5, f0_5, c0_6, f0_6, c0_7, f0_7, c0_8, f0_8, c0_9, f0_9, c0_10, f0_10, c0_11, f0_11, c0_12, f0_12, c0_13, f0_13, c0_14, f0_14, c0_15, f0_15, c0_16, f0_16, c0_17, f0_17⟩ := cells18 h0
      try clear c1_0 f1_0 c1_1 f1_1
      obtain ⟨c1_0, f1_0, c1_1, f1_1⟩ := cells2 h1
      try clear c2_0 f2_0 c2_1 f2_1 c2_2 f2_2 c2_3 f2_3 c2_4 f2_4 c2_5 f2_5
      obtain ⟨c2_0, f2_0, c2_1, f2_1, c2_2, f2_2, c2_3, f2_3, c2_4, f2_4, c2_5, f2_5⟩ := cells6 h2
      try clear c3_0 f3_0 c3_1 f3_1
      obtain ⟨c3_0, f3_0, c3_1, f3_1⟩ := cells2 h3
      try clear c4_0 f4_0 c4_1 f4_1 c4_2 f4_2 c4_3 f4_3 c4_4 f4_4 c4_5 f4_5
      obtain ⟨c4_0, f4_0, c4_1, f4_1, c4_2, f4_2, c4_3, f4_3, c4_4, f4_4, c4_5, f4_5⟩ := cells6 h4
      try clear c5_0 f5_0 c5_1 f5_1 c5_2 f5_2 c5_3 f5_3 c5_4 f5_4 c5_5 f5_5
      obtain ⟨c5_0, f5_0, c5_1, f5_1, c5_2, f5_2, c5_3, f5_3, c5_4, f5_4, c5_5, f5_5⟩ := cells6 h5
      try clear c6_0 f6_0 c6_1 f6_1 c6_2 f6_2 c6_3 f6_3 c6_4 f6_4 c6_5 f6_5
      obtain ⟨c6_0, f6_0, c6_1, f6_1, c6_2, f6_2, c6_3, f6_3, c6_4, f6_4, c6_5, f6_5⟩ := cells6 h6
      clear ha0 ca0_0 fa0_0 ca0_1 fa0_1 ca0_2 fa0_2 ca0_3 fa0_3 ca0_4 fa0_4 ca0_5 fa0_5 ca0_6 fa0_6 ca0_7 fa0_7 ca0_8 fa0_8 ca0_9 fa0_9 ca0_10 fa0_10 ca0_11 fa0_11 ca0_12 fa0_12 ca0_13 fa0_13 ca0_14 fa0_14 ca0_15 fa0_15 ca0_16 fa0_16 ca0_17 fa0_17
      clear ha1 ca1_0 fa1_0 ca1_1 fa1_1
      clear ha5 ca5_0 fa5_0 ca5_1 fa5_1 ca5_2 fa5_2 ca5_3 fa5_3 ca5_4 fa5_4 ca5_5 fa5_5
      clear ha4 ca4_0 fa4_0 ca4_1 fa4_1 ca4_2 fa4_2 ca4_3 fa4_3 ca4_4 fa4_4 ca4_5 fa4_5
      refine (H8.out _).mono ?_
      rintro e w11 ⟨rfl, hb⟩
      replace h0 : w11.heap[w.heap.size]? = some (.cells #[.int .i64 l.m.a, .int .i64 l.m.b, .int .i64 l.m.c, .int .i64 l.m.d, .int .i64 l.t.x, .int .i64 l.t.y, .int .i64 m.m.a, .int .i64 m.m.b, .int .i64 m.m.c, .int .i64 m.m.d, .int .i64 m.t.x, .int .i64 m.t.y, .int .i64 n.m.a, .int .i64 n.m.b, .int .i64 n.m.c, .int .i64 n.m.d, .int .i64 n.t.x, .int .i64 n.t.y] 68 (0, 0)) := hb_below hb (by repeat (first | exact h0 | (refine hb_new ?_; (first | omega | (simp; omega) | (simp; done))) | (refine hb_old ?_ ?_; rotate_left; focus (first | omega | (simp; omega) | (simp; done))) | refine hb_drew ?_)) (by first | omega | (simp; omega) | (simp; done))
      replace h1 : w11.heap[w.heap.size + 1]? = some (.cells #[.int .i64 p.x, .int .i64 p.y] 25 (0, 0)) := hb_below hb (by repeat (first | exact h1 | (refine hb_new ?_; (first | omega | (simp; omega) | (simp; done))) | (refine hb_old ?_ ?_; rotate_left; focus (first | omega | (simp; omega) | (simp; done))) | refine hb_drew ?_)) (by first | omega | (simp; omega) | (simp; done))
      replace h2 : w11.heap[w1.heap.size]? = some (.cells #[.int .i64 v.m.a, .int .i64 v.m.b, .int .i64 v.m.c, .int .i64 v.m.d, .int .i64 v.t.x, .int .i64 v.t.y] 49 (0, 0)) := hb_below hb (by repeat (first | exact h2 | (refine hb_new ?_; (first | omega | (simp; omega) | (simp; done))) | (refine hb_old ?_ ?_; rotate_left; focus (first | omega | (simp; omega) | (simp; done))) | refine hb_drew ?_)) (by first | omega | (simp; omega) | (simp; done))
      replace h3 : w11.heap[w3.heap.size]? = some (.cells #[.int .i64 q.x, .int .i64 q.y] 25 (0, 0)) := hb_below hb (by repeat (first | exact h3 | (refine hb_new ?_; (first | omega | (simp; omega) | (simp; done))) | (refine hb_old ?_ ?_; rotate_left; focus (first | omega | (simp; omega) | (simp; done))) | refine hb_drew ?_)) (by first | omega | (simp; omega) | (simp; done))
      replace h4 : w11.heap[w5.heap.size]? = some (.cells #[.int .i64 a.m.a, .int .i64 a.m.b, .int .i64 a.m.c, .int .i64 a.m.d, .int .i64 a.t.x, .int .i64 a.t.y] 49 (0, 0)) := hb_below hb (by repeat (first | exact h4 | (refine hb_new ?_; (first | omega | (simp; omega) | (simp; done))) | (refine hb_old ?_ ?_; rotate_left; focus (first | omega | (simp; omega) | (simp; done))) | refine hb_drew ?_)) (by first | omega | (simp; omega) | (simp; done))
      replace h5 : w11.heap[w7.heap.size]? = some (.cells #[.int .i64 b.m.a, .int .i64 b.m.b, .int .i64 b.m.c, .int .i64 b.m.d, .int .i64 b.t.x, .int .i64 b.t.y] 49 (0, 0)) := hb_below hb (by repeat (first | exact h5 | (refine hb_new ?_; (first | omega | (simp; omega) | (simp; done))) | (refine hb_old ?_ ?_; rotate_left; focus (first | omega | (simp; omega) | (simp; done))) | refine hb_drew ?_)) (by first | omega | (simp; omega) | (simp; done))
      replace h6 : w11.heap[w9.heap.size]? = some (.cells #[.int .i64 cv.m.a, .int .i64 cv.m.b, .int .i64 cv.m.c, .int .i64 cv.m.d, .int .i64 cv.t.x, .int .i64 cv.t.y] 49 (0, 0)) := hb_below hb (by repeat (first | exact h6 | (refine hb_new ?_; (first | omega | (simp; omega) | (simp; done))) | (refine hb_old ?_ ?_; rotate_left; focus (first | omega | (simp; omega) | (simp; done))) | refine hb_drew ?_)) (by first | omega | (simp; omega) | (simp; done))
      have y11 := Below.size hb
      try simp only [World.size_alloc, World.size_drew] at y11
      have D11 := Lib.hid (show Below w.heap.size w w11 from Below.trans (by repeat (first | exact D10.out | exact Below.refl _ _ | refine Below.alloc ?_ (by first | omega | (simp; omega) | (simp; done)) _)) (Below.mono hb (by first | omega | (simp; omega) | (simp; done))))
      have z11 := D11.out.size
      clear hb
      try clear c0_0 f0_0 c0_1 f0_1 c0_2 f0_2 c0_3 f0_3 c0_4 f0_4 c0_5 f0_5 c0_6 f0_6 c0_7 f0_7 c0_8 f0_8 c0_9 f0_9 c0_10 f0_10 c0_11 f0_11 c0_12 f0_12 c0_13 f0_13 c0_14 f0_14 c0_15 f0_15 c0_16 f0_16 c0_17 f0_17
      obtain ⟨c0_0, f0_0, c0_1, f0_1, c0_2, f0_2, c0_3, f0_3, c0_4, f0_4, c0_5, f0_5, c0_6, f0_6, c0_7, f0_7, c0_8, f0_8, c0_9, f0_9, c0_10, f0_10, c0_11, f0_11, c0_12, f0_12, c0_13, f0_13, c0_14, f0_14, c0_15, f0_15, c0_16, f0_16, c0_17, f0_17⟩ := cells18 h0
      try clear c1_0 f1_0 c1_1 f1_1
      obtain ⟨c1_0, f1_0, c1_1, f1_1⟩ := cells2 h1
      try clear c2_0 f2_0 c2_1 f2_1 c2_2 f2_2 c2_3 f2_3 c2_4 f2_4 c2_5 f2_5
      obtain ⟨c2_0, f2_0, c2_1, f2_1, c2_2, f2_2, c2_3, f2_3, c2_4, f2_4, c2_5, f2_5⟩ := cells6 h2
      try clear c3_0 f3_0 c3_1 f3_1
      obtain ⟨c3_0, f3_0, c3_1, f3_1⟩ := cells2 h3
      try clear c4_0 f4_0 c4_1 f4_1 c4_2 f4_2 c4_3 f4_3 c4_4 f4_4 c4_5 f4_5
      obtain ⟨c4_0, f4_0, c4_1, f4_1, c4_2, f4_2, c4_3, f4_3, c4_4, f4_4, c4_5, f4_5⟩ := cells6 h4
      try clear c5_0 f5_0 c5_1 f5_1 c5_2 f5_2 c5_3 f5_3 c5_4 f5_4 c5_5 f5_5
      obtain ⟨c5_0, f5_0, c5_1, f5_1, c5_2, f5_2, c5_3, f5_3, c5_4, f5_4, c5_5, f5_5⟩ := cells6 h5
      try clear c6_0 f6_0 c6_1 f6_1 c6_2 f6_2 c6_3 f6_3 c6_4 f6_4 c6_5 f6_5
      obtain ⟨c6_0, f6_0, c6_1, f6_1, c6_2, f6_2, c6_3, f6_3, c6_4, f6_4, c6_5, f6_5⟩ := cells6 h6
      have ha0 : (w11.alloc (.cells #[.int .i64 cv.m.a, .int .i64 cv.m.b, .int .i64 cv.m.c, .int .i64 cv.m.d, .int .i64 cv.t.x, .int .i64 cv.t.y] 49)).heap[w.heap.size]? = some (.cells #[.int .i64 l.m.a, .int .i64 l.m.b, .int .i64 l.m.c, .int .i64 l.m.d, .int .i64 l.t.x, .int .i64 l.t.y, .int .i64 m.m.a, .int .i64 m.m.b, .int .i64 m.m.c, .int .i64 m.m.d, .int .i64 m.t.x, .int .i64 m.t.y, .int .i64 n.m.a, .int .i64 n.m.b, .int .i64 n.m.c, .int .i64 n.m.d, .int .i64 n.t.x, .int .i64 n.t.y] 68 (0, 0)) := (by repeat (first | exact h0 | (refine hb_new ?_; (first | omega | (simp; omega) | (simp; done))) | (refine hb_old ?_ ?_; rotate_left; focus (first | omega | (simp; omega) | (simp; done))) | refine hb_drew ?_))
      obtain ⟨ca0_0, fa0_0, ca0_1, fa0_1, ca0_2, fa0_2, ca0_3, fa0_3, ca0_4, fa0_4, ca0_5, fa0_5, ca0_6, fa0_6, ca0_7, fa0_7, ca0_8, fa0_8, ca0_9, fa0_9, ca0_10, fa0_10, ca0_11, fa0_11, ca0_12, fa0_12, ca0_13, fa0_13, ca0_14, fa0_14, ca0_15, fa0_15, ca0_16, fa0_16, ca0_17, fa0_17⟩ := cells18 ha0
      have ha1 : (w11.alloc (.cells #[.int .i64 cv.m.a, .int .i64 cv.m.b, .int .i64 cv.m.c, .int .i64 cv.m.d, .int .i64 cv.t.x, .int .i64 cv.t.y] 49)).heap[w.heap.size + 1]? = some (.cells #[.int .i64 p.x, .int .i64 p.y] 25 (0, 0)) := (by repeat (first | exact h1 | (refine hb_new ?_; (first | omega | (simp; omega) | (simp; done))) | (refine hb_old ?_ ?_; rotate_left; focus (first | omega | (simp; omega) | (simp; done))) | refine hb_drew ?_))
      obtain ⟨ca1_0, fa1_0, ca1_1, fa1_1⟩ := cells2 ha1
      have ha4 : (w11.alloc (.cells #[.int .i64 cv.m.a, .int .i64 cv.m.b, .int .i64 cv.m.c, .int .i64 cv.m.d, .int .i64 cv.t.x, .int .i64 cv.t.y] 49)).heap[w5.heap.size]? = some (.cells #[.int .i64 a.m.a, .int .i64 a.m.b, .int .i64 a.m.c, .int .i64 a.m.d, .int .i64 a.t.x, .int .i64 a.t.y] 49 (0, 0)) := (by repeat (first | exact h4 | (refine hb_new ?_; (first | omega | (simp; omega) | (simp; done))) | (refine hb_old ?_ ?_; rotate_left; focus (first | omega | (simp; omega) | (simp; done))) | refine hb_drew ?_))
      obtain ⟨ca4_0, fa4_0, ca4_1, fa4_1, ca4_2, fa4_2, ca4_3, fa4_3, ca4_4, fa4_4, ca4_5, fa4_5⟩ := cells6 ha4
      have ha6 : (w11.alloc (.cells #[.int .i64 cv.m.a, .int .i64 cv.m.b, .int .i64 cv.m.c, .int .i64 cv.m.d, .int .i64 cv.t.x, .int .i64 cv.t.y] 49)).heap[w9.heap.size]? = some (.cells #[.int .i64 cv.m.a, .int .i64 cv.m.b, .int .i64 cv.m.c, .int .i64 cv.m.d, .int .i64 cv.t.x, .int .i64 cv.t.y] 49 (0, 0)) := (by repeat (first | exact h6 | (refine hb_new ?_; (first | omega | (simp; omega) | (simp; done))) | (refine hb_old ?_ ?_; rotate_left; focus (first | omega | (simp; omega) | (simp; done))) | refine hb_drew ?_))
      obtain ⟨ca6_0, fa6_0, ca6_1, fa6_1, ca6_2, fa6_2, ca6_3, fa6_3, ca6_4, fa6_4, ca6_5, fa6_5⟩ := cells6 ha6
      go_wp2_with fail
      all_goals (
        obtain ⟨w12, hw12⟩ : ∃ W, W = (w11.alloc (.cells #[.int .i64 cv.m.a, .int .i64 cv.m.b, .int .i64 cv.m.c, .int .i64 cv.m.d, .int .i64 cv.t.x, .int .i64 cv.t.y] 49)) := ⟨_, rfl⟩
        rw [← hw12]
        replace h0 : w12.heap[w.heap.size]? = some (.cells #[.int .i64 l.m.a, .int .i64 l.m.b, .int .i64 l.m.c, .int .i64 l.m.d, .int .i64 l.t.x, .int .i64 l.t.y, .int .i64 m.m.a, .int .i64 m.m.b, .int .i64 m.m.c, .int .i64 m.m.d, .int .i64 m.t.x, .int .i64 m.t.y, .int .i64 n.m.a, .int .i64 n.m.b, .int .i64 n.m.c, .int .i64 n.m.d, .int .i64 n.t.x, .int .i64 n.t.y] 68 (0, 0)) := by rw [hw12]; exact (by repeat (first | exact h0 | (refine hb_new ?_; (first | omega | (simp; omega) | (simp; done))) | (refine hb_old ?_ ?_; rotate_left; focus (first | omega | (simp; omega) | (simp; done))) | refine hb_drew ?_))
        replace h1 : w12.heap[w.heap.size + 1]? = some (.cells #[.int .i64 p.x, .int .i64 p.y] 25 (0, 0)) := by rw [hw12]; exact (by repeat (first | exact h1 | (refine hb_new ?_; (first | omega | (simp; omega) | (simp; done))) | (refine hb_old ?_ ?_; rotate_left; focus (first | omega | (simp; omega) | (simp; done))) | refine hb_drew ?_))
        replace h2 : w12.heap[w1.heap.size]? = some (.cells #[.int .i64 v.m.a, .int .i64 v.m.b, .int .i64 v.m.c, .int .i64 v.m.d, .int .i64 v.t.x, .int .i64 v.t.y] 49 (0, 0)) := by rw [hw12]; exact (by repeat (first | exact h2 | (refine hb_new ?_; (first | omega | (simp; omega) | (simp; done))) | (refine hb_old ?_ ?_; rotate_left; focus (first | omega | (simp; omega) | (simp; done))) | refine hb_drew ?_))
        replace h3 : w12.heap[w3.heap.size]? = some (.cells #[.int .i64 q.x, .int .i64 q.y] 25 (0, 0)) := by rw [hw12]; exact (by repeat (first | exact h3 | (refine hb_new ?_; (first | omega | (simp; omega) | (simp; done))) | (refine hb_old ?_ ?_; rotate_left; focus (first | omega | (simp; omega) | (simp; done))) | refine hb_drew ?_))
        replace h4 : w12.heap[w5.heap.size]? = some (.cells #[.int .i64 a.m.a, .int .i64 a.m.b, .int .i64 a.m.c, .int .i64 a.m.d, .int .i64 a.t.x, .int .i64 a.t.y] 49 (0, 0)) := by rw [hw12]; exact (by repeat (first | exact h4 | (refine hb_new ?_; (first | omega | (simp; omega) | (simp; done))) | (refine hb_old ?_ ?_; rotate_left; focus (first | omega | (simp; omega) | (simp; done))) | refine hb_drew ?_))
        replace h5 : w12.heap[w7.heap.size]? = some (.cells #[.int .i64 b.m.a, .int .i64 b.m.b, .int .i64 b.m.c, .int .i64 b.m.d, .int .i64 b.t.x, .int .i64 b.t.y] 49 (0, 0)) := by rw [hw12]; exact (by repeat (first | exact h5 | (refine hb_new ?_; (first | omega | (simp; omega) | (simp; done))) | (refine hb_old ?_ ?_; rotate_left; focus (first | omega | (simp; omega) | (simp; done))) | refine hb_drew ?_))
        replace h6 : w12.heap[w9.heap.size]? = some (.cells #[.int .i64 cv.m.a, .int .i64 cv.m.b, .int .i64 cv.m.c, .int .i64 cv.m.d, .int .i64 cv.t.x, .int .i64 cv.t.y] 49 (0, 0)) := by rw [hw12]; exact (by repeat (first | exact h6 | (refine hb_new ?_; (first | omega | (simp; omega) | (simp; done))) | (refine hb_old ?_ ?_; rotate_left; focus (first | omega | (simp; omega) | (simp; done))) | refine hb_drew ?_))
        have h7 : w12.heap[w11.heap.size]? = some (.cells #[.int .i64 cv.m.a, .int .i64 cv.m.b, .int .i64 cv.m.c, .int .i64 cv.m.d, .int .i64 cv.t.x, .int .i64 cv.t.y] 49 (0, 0)) := by rw [hw12]; exact (by repeat (first | (refine hb_new ?_; (first | omega | (simp; omega) | (simp; done))) | (refine hb_old ?_ ?_; rotate_left; focus (first | omega | (simp; omega) | (simp; done))) | refine hb_drew ?_))
        have hb : Below w11.heap.size w11 w12 := by rw [hw12]; exact (by repeat (first | exact Below.refl _ _ | refine Below.alloc ?_ (by first | omega | (simp; omega) | (simp; done)) _ | refine Below.drew ?_))
        have s12 : w11.heap.size + 1 ≤ w12.heap.size := by rw [hw12]; simp
        have y12 := Below.size hb
        try simp only [World.size_alloc, World.size_drew] at y12
        have D12 := Lib.hid (show Below w.heap.size w w12 from Below.trans (by repeat (first | exact D11.out | exact Below.refl _ _ | refine Below.alloc ?_ (by first | omega | (simp; omega) | (simp; done)) _)) (Below.mono hb (by first | omega | (simp; omega) | (simp; done))))
        have z12 := D12.out.size
        clear hb hw12
        try clear c0_0 f0_0 c0_1 f0_1 c0_2 f0_2 c0_3 f0_3 c0_4 f0_4 c0_5 f0_5 c0_6 f0_6 c0_7 f0_7 c0_8 f0_8 c0_9 f0_9 c0_10 f0_10 c0_11 f0_11 c0_12 f0_12 c0_13 f0_13 c0_14 f0_14 c0_15 f0_15 c0_16 f0_16 c0_17 f0_17
        obtain ⟨c0_0, f0_0, c0_1, f0_1, c0_2, f0_2, c0_3, f0_3, c0_4, f0_4, c0_5, f0_5, c0_6, f0_6, c0_7, f0_7, c0_8, f0_8, c0_9, f0_9, c0_10, f0_10, c0_11, f0_11, c0_12, f0_12, c0_13, f0_13, c0_14, f0_14, c0_15, f0_15, c0_16, f0_16, c0_17, f0_17⟩ := cells18 h0
        try clear c1_0 f1_0 c1_1 f1_1
        obtain ⟨c1_0, f1_0, c1_1, f1_1⟩ := cells2 h1
        try clear c2_0 f2_0 c2_1 f2_1 c2_2 f2_2 c2_3 f2_3 c2_4 f2_4 c2_5 f2_5
        obtain ⟨c2_0, f2_0, c2_1, f2_1, c2_2, f2_2, c2_3, f2_3, c2_4, f2_4, c2_5, f2_5⟩ := cells6 h2
        try clear c3_0 f3_0 c3_1 f3_1
        obtain ⟨c3_0, f3_0, c3_1, f3_1⟩ := cells2 h3
        try clear c4_0 f4_0 c4_1 f4_1 c4_2 f4_2 c4_3 f4_3 c4_4 f4_4 c4_5 f4_5
        obtain ⟨c4_0, f4_0, c4_1, f4_1, c4_2, f4_2, c4_3, f4_3, c4_4, f4_4, c4_5, f4_5⟩ := cells6 h4
        try clear c5_0 f5_0 c5_1 f5_1 c5_2 f5_2 c5_3 f5_3 c5_4 f5_4 c5_5 f5_5
        obtain ⟨c5_0, f5_0, c5_1, f5_1, c5_2, f5_2, c5_3, f5_3, c5_4, f5_4, c5_5, f5_5⟩ := cells6 h5
        try clear c6_0 f6_0 c6_1 f6_1 c6_2 f6_2 c6_3 f6_3 c6_4 f6_4 c6_5 f6_5
        obtain ⟨c6_0, f6_0, c6_1, f6_1, c6_2, f6_2, c6_3, f6_3, c6_4, f6_4, c6_5, f6_5⟩ := cells6 h6
        try clear c7_0 f7_0 c7_1 f7_1 c7_2 f7_2 c7_3 f7_3 c7_4 f7_4 c7_5 f7_5
        obtain ⟨c7_0, f7_0, c7_1, f7_1, c7_2, f7_2, c7_3, f7_3, c7_4, f7_4, c7_5, f7_5⟩ := cells6 h7
        clear ha0 ca0_0 fa0_0 ca0_1 fa0_1 ca0_2 fa0_2 ca0_3 fa0_3 ca0_4 fa0_4 ca0_5 fa0_5 ca0_6 fa0_6 ca0_7 fa0_7 ca0_8 fa0_8 ca0_9 fa0_9 ca0_10 fa0_10 ca0_11 fa0_11 ca0_12 fa0_12 ca0_13 fa0_13 ca0_14 fa0_14 ca0_15 fa0_15 ca0_16 fa0_16 ca0_17 fa0_17
        clear ha1 ca1_0 fa1_0 ca1_1 fa1_1
        clear ha4 ca4_0 fa4_0 ca4_1 fa4_1 ca4_2 fa4_2 ca4_3 fa4_3 ca4_4 fa4_4 ca4_5 fa4_5
        clear ha6 ca6_0 fa6_0 ca6_1 fa6_1 ca6_2 fa6_2 ca6_3 fa6_3 ca6_4 fa6_4 ca6_5 fa6_5
        refine (H9.out _).mono ?_
        rintro e w13 ⟨rfl, hb⟩
        replace h0 : w13.heap[w.heap.size]? = some (.cells #[.int .i64 l.m.a, .int .i64 l.m.b, .int .i64 l.m.c, .int .i64 l.m.d, .int .i64 l.t.x, .int .i64 l.t.y, .int .i64 m.m.a, .int .i64 m.m.b, .int .i64 m.m.c, .int .i64 m.m.d, .int .i64 m.t.x, .int .i64 m.t.y, .int .i64 n.m.a, .int .i64 n.m.b, .int .i64 n.m.c, .int .i64 n.m.d, .int .i64 n.t.x, .int .i64 n.t.y] 68 (0, 0)) := hb_below hb (by repeat (first | exact h0 | (refine hb_new ?_; (first | omega | (simp; omega) | (simp; done))) | (refine hb_old ?_ ?_; rotate_left; focus (first | omega | (simp; omega) | (simp; done))) | refine hb_drew ?_)) (by first | omega | (simp; omega) | (simp; done))
        replace h1 : w13.heap[w.heap.size + 1]? = some (.cells #[.int .i64 p.x, .int .i64 p.y] 25 (0, 0)) := hb_below hb (by repeat (first | exact h1 | (refine hb_new ?_; (first | omega | (simp; omega) | (simp; done))) | (refine hb_old ?_ ?_; rotate_left; focus (first | omega | (simp; omega) | (simp; done))) | refine hb_drew ?_)) (by first | omega | (simp; omega) | (simp; done))
        replace h2 : w13.heap[w1.heap.size]? = some (.cells #[.int .i64 v.m.a, .int .i64 v.m.b, .int .i64 v.m.c, .int .i64 v.m.d, .int .i64 v.t.x, .int .i64 v.t.y] 49 (0, 0)) := hb_below hb (by repeat (first | exact h2 | (refine hb_new ?_; (first | omega | (simp; omega) | (simp; done))) | (refine hb_old ?_ ?_; rotate_left; focus (first | omega | (simp; omega) | (simp; done))) | refine hb_drew ?_)) (by first | omega | (simp; omega) | (simp; done))
        replace h3 : w13.heap[w3.heap.size]? = some (.cells #[.int .i64 q.x, .int .i64 q.y] 25 (0, 0)) := hb_below hb (by repeat (first | exact h3 | (refine hb_new ?_; (first | omega | (simp; omega) | (simp; done))) | (refine hb_old ?_ ?_; rotate_left; focus (first | omega | (simp; omega) | (simp; done))) | refine hb_drew ?_)) (by first | omega | (simp; omega) | (simp; done))
        replace h4 : w13.heap[w5.heap.size]? = some (.cells #[.int .i64 a.m.a, .int .i64 a.m.b, .int .i64 a.m.c, .int .i64 a.m.d, .int .i64 a.t.x, .int .i64 a.t.y] 49 (0, 0)) := hb_below hb (by repeat (first | exact h4 | (refine hb_new ?_; (first | omega | (simp; omega) | (simp; done))) | (refine hb_old ?_ ?_; rotate_left; focus (first | omega | (simp; omega) | (simp; done))) | refine hb_drew ?_)) (by first | omega | (simp; omega) | (simp; done))
        replace h5 : w13.heap[w7.heap.size]? = some (.cells #[.int .i64 b.m.a, .int .i64 b.m.b, .int .i64 b.m.c, .int .i64 b.m.d, .int .i64 b.t.x, .int .i64 b.t.y] 49 (0, 0)) := hb_below hb (by repeat (first | exact h5 | (refine hb_new ?_; (first | omega | (simp; omega) | (simp; done))) | (refine hb_old ?_ ?_; rotate_left; focus (first | omega | (simp; omega) | (simp; done))) | refine hb_drew ?_)) (by first | omega | (simp; omega) | (simp; done))
        replace h6 : w13.heap[w9.heap.size]? = some (.cells #[.int .i64 cv.m.a, .int .i64 cv.m.b, .int .i64 cv.m.c, .int .i64 cv.m.d, .int .i64 cv.t.x, .int .i64 cv.t.y] 49 (0, 0)) := hb_below hb (by repeat (first | exact h6 | (refine hb_new ?_; (first | omega | (simp; omega) | (simp; done))) | (refine hb_old ?_ ?_; rotate_left; focus (first | omega | (simp; omega) | (simp; done))) | refine hb_drew ?_)) (by first | omega | (simp; omega) | (simp; done))
        replace h7 : w13.heap[w11.heap.size]? = some (.cells #[.int .i64 cv.m.a, .int .i64 cv.m.b, .int .i64 cv.m.c, .int .i64 cv.m.d, .int .i64 cv.t.x, .int .i64 cv.t.y] 49 (0, 0)) := hb_below hb (by repeat (first | exact h7 | (refine hb_new ?_; (first | omega | (simp; omega) | (simp; done))) | (refine hb_old ?_ ?_; rotate_left; focus (first | omega | (simp; omega) | (simp; done))) | refine hb_drew ?_)) (by first | omega | (simp; omega) | (simp; done))
        have y13 := Below.size hb
        try simp only [World.size_alloc, World.size_drew] at y13
        have D13 := Lib.hid (show Below w.heap.size w w13 from Below.trans (by repeat (first | exact D12.out | exact Below.refl _ _ | refine Below.alloc ?_ (by first | omega | (simp; omega) | (simp; done)) _)) (Below.mono hb (by first | omega | (simp; omega) | (simp; done))))
        have z13 := D13.out.size
        clear hb
        try clear c0_0 f0_0 c0_1 f0_1 c0_2 f0_2 c0_3 f0_3 c0_4 f0_4 c0_5 f0_5 c0_6 f0_6 c0_7 f0_7 c0_8 f0_8 c0_9 f0_9 c0_10 f0_10 c0_11 f0_11 c0_12 f0_12 c0_13 f0_13 c0_14 f0_14 c0_15 f0_15 c0_16 f0_16 c0_17 f0_17
        obtain ⟨c0_0, f0_0, c0_1, f0_1, c0_2, f0_2, c0_3, f0_3, c0_4, f0_4, c0_5, f0_5, c0_6, f0_6, c0_7, f0_7, c0_8, f0_8, c0_9, f0_9, c0_10, f0_10, c0_11, f0_11, c0_12, f0_12, c0_13, f0_13, c0_14, f0_14, c0_15, f0_15, c0_16, f0_16, c0_17, f0_17⟩ := cells18 h0
        try clear c1_0 f1_0 c1_1 f1_1
        obtain ⟨c1_0, f1_0, c1_1, f1_1⟩ := cells2 h1
        try clear c2_0 f2_0 c2_1 f2_1 c2_2 f2_2 c2_3 f2_3 c2_4 f2_4 c2_5 f2_5
        obtain ⟨c2_0, f2_0, c2_1, f2_1, c2_2, f2_2, c2_3, f2_3, c2_4, f2_4, c2_5, f2_5⟩ := cells6 h2
        try clear c3_0 f3_0 c3_1 f3_1
        obtain ⟨c3_0, f3_0, c3_1, f3_1⟩ := cells2 h3
        try clear c4_0 f4_0 c4_1 f4_1 c4_2 f4_2 c4_3 f4_3 c4_4 f4_4 c4_5 f4_5
        obtain ⟨c4_0, f4_0, c4_1, f4_1, c4_2, f4_2, c4_3, f4_3, c4_4, f4_4, c4_5, f4_5⟩ := cells6 h4
        try clear c5_0 f5_0 c5_1 f5_1 c5_2 f5_2 c5_3 f5_3 c5_4 f5_4 c5_5 f5_5
        obtain ⟨c5_0, f5_0, c5_1, f5_1, c5_2, f5_2, c5_3, f5_3, c5_4, f5_4, c5_5, f5_5⟩ := cells6 h5
        try clear c6_0 f6_0 c6_1 f6_1 c6_2 f6_2 c6_3 f6_3 c6_4 f6_4 c6_5 f6_5
        obtain ⟨c6_0, f6_0, c6_1, f6_1, c6_2, f6_2, c6_3, f6_3, c6_4, f6_4, c6_5, f6_5⟩ := cells6 h6
        try clear c7_0 f7_0 c7_1 f7_1 c7_2 f7_2 c7_3 f7_3 c7_4 f7_4 c7_5 f7_5
        obtain ⟨c7_0, f7_0, c7_1, f7_1, c7_2, f7_2, c7_3, f7_3, c7_4, f7_4, c7_5, f7_5⟩ := cells6 h7
        have ha0 : (w13.alloc (.cells #[.int .i64 s.x, .int .i64 s.y] 25)).heap[w.heap.size]? = some (.cells #[.int .i64 l.m.a, .int .i64 l.m.b, .int .i64 l.m.c, .int .i64 l.m.d, .int .i64 l.t.x, .int .i64 l.t.y, .int .i64 m.m.a, .int .i64 m.m.b, .int .i64 m.m.c, .int .i64 m.m.d, .int .i64 m.t.x, .int .i64 m.t.y, .int .i64 n.m.a, .int .i64 n.m.b, .int .i64 n.m.c, .int .i64 n.m.d, .int .i64 n.t.x, .int .i64 n.t.y] 68 (0, 0)) := (by repeat (first | exact h0 | (refine hb_new ?_; (first | omega | (simp; omega) | (simp; done))) | (refine hb_old ?_ ?_; rotate_left; focus (first | omega | (simp; omega) | (simp; done))) | refine hb_drew ?_))
        obtain ⟨ca0_0, fa0_0, ca0_1, fa0_1, ca0_2, fa0_2, ca0_3, fa0_3, ca0_4, fa0_4, ca0_5, fa0_5, ca0_6, fa0_6, ca0_7, fa0_7, ca0_8, fa0_8, ca0_9, fa0_9, ca0_10, fa0_10, ca0_11, fa0_11, ca0_12, fa0_12, ca0_13, fa0_13, ca0_14, fa0_14, ca0_15, fa0_15, ca0_16, fa0_16, ca0_17, fa0_17⟩ := cells18 ha0
        have ha1 : (w13.alloc (.cells #[.int .i64 s.x, .int .i64 s.y] 25)).heap[w.heap.size + 1]? = some (.cells #[.int .i64 p.x, .int .i64 p.y] 25 (0, 0)) := (by repeat (first | exact h1 | (refine hb_new ?_; (first | omega | (simp; omega) | (simp; done))) | (refine hb_old ?_ ?_; rotate_left; focus (first | omega | (simp; omega) | (simp; done))) | refine hb_drew ?_))
        obtain ⟨ca1_0, fa1_0, ca1_1, fa1_1⟩ := cells2 ha1
        have ha4 : (w13.alloc (.cells #[.int .i64 s.x, .int .i64 s.y] 25)).heap[w5.heap.size]? = some (.cells #[.int .i64 a.m.a, .int .i64 a.m.b, .int .i64 a.m.c, .int .i64 a.m.d, .int .i64 a.t.x, .int .i64 a.t.y] 49 (0, 0)) := (by repeat (first | exact h4 | (refine hb_new ?_; (first | omega | (simp; omega) | (simp; done))) | (refine hb_old ?_ ?_; rotate_left; focus (first | omega | (simp; omega) | (simp; done))) | refine hb_drew ?_))
        obtain ⟨ca4_0, fa4_0, ca4_1, fa4_1, ca4_2, fa4_2, ca4_3, fa4_3, ca4_4, fa4_4, ca4_5, fa4_5⟩ := cells6 ha4
        go_wp2_with fail
        obtain ⟨w14, hw14⟩ : ∃ W, W = (w13.alloc (.cells #[.int .i64 s.x, .int .i64 s.y] 25)) := ⟨_, rfl⟩
        rw [← hw14]
        replace h0 : w14.heap[w.heap.size]? = some (.cells #[.int .i64 l.m.a, .int .i64 l.m.b, .int .i64 l.m.c, .int .i64 l.m.d, .int .i64 l.t.x, .int .i64 l.t.y, .int .i64 m.m.a, .int .i64 m.m.b, .int .i64 m.m.c, .int .i64 m.m.d, .int .i64 m.t.x, .int .i64 m.t.y, .int .i64 n.m.a, .int .i64 n.m.b, .int .i64 n.m.c, .int .i64 n.m.d, .int .i64 n.t.x, .int .i64 n.t.y] 68 (0, 0)) := by rw [hw14]; exact (by repeat (first | exact h0 | (refine hb_new ?_; (first | omega | (simp; omega) | (simp; done))) | (refine hb_old ?_ ?_; rotate_left; focus (first | omega | (simp; omega) | (simp; done))) | refine hb_drew ?_))
        replace h1 : w14.heap[w.heap.size + 1]? = some (.cells #[.int .i64 p.x, .int .i64 p.y] 25 (0, 0)) := by rw [hw14]; exact (by repeat (first | exact h1 | (refine hb_new ?_; (first | omega | (simp; omega) | (simp; done))) | (refine hb_old ?_ ?_; rotate_left; focus (first | omega | (simp; omega) | (simp; done))) | refine hb_drew ?_))
        replace h2 : w14.heap[w1.heap.size]? = some (.cells #[.int .i64 v.m.a, .int .i64 v.m.b, .int .i64 v.m.c, .int .i64 v.m.d, .int .i64 v.t.x, .int .i64 v.t.y] 49 (0, 0)) := by rw [hw14]; exact (by repeat (first | exact h2 | (refine hb_new ?_; (first | omega | (simp; omega) | (simp; done))) | (refine hb_old ?_ ?_; rotate_left; focus (first | omega | (simp; omega) | (simp; done))) | refine hb_drew ?_))
        replace h3 : w14.heap[w3.heap.size]? = some (.cells #[.int .i64 q.x, .int .i64 q.y] 25 (0, 0)) := by rw [hw14]; exact (by repeat (first | exact h3 | (refine hb_new ?_; (first | omega | (simp; omega) | (simp; done))) | (refine hb_old ?_ ?_; rotate_left; focus (first | omega | (simp; omega) | (simp; done))) | refine hb_drew ?_))
        replace h4 : w14.heap[w5.heap.size]? = some (.cells #[.int .i64 a.m.a, .int .i64 a.m.b, .int .i64 a.m.c, .int .i64 a.m.d, .int .i64 a.t.x, .int .i64 a.t.y] 49 (0, 0)) := by rw [hw14]; exact (by repeat (first | exact h4 | (refine hb_new ?_; (first | omega | (simp; omega) | (simp; done))) | (refine hb_old ?_ ?_; rotate_left; focus (first | omega | (simp; omega) | (simp; done))) | refine hb_drew ?_))
        replace h5 : w14.heap[w7.heap.size]? = some (.cells #[.int .i64 b.m.a, .int .i64 b.m.b, .int .i64 b.m.c, .int .i64 b.m.d, .int .i64 b.t.x, .int .i64 b.t.y] 49 (0, 0)) := by rw [hw14]; exact (by repeat (first | exact h5 | (refine hb_new ?_; (first | omega | (simp; omega) | (simp; done))) | (refine hb_old ?_ ?_; rotate_left; focus (first | omega | (simp; omega) | (simp; done))) | refine hb_drew ?_))
        replace h6 : w14.heap[w9.heap.size]? = some (.cells #[.int .i64 cv.m.a, .int .i64 cv.m.b, .int .i64 cv.m.c, .int .i64 cv.m.d, .int .i64 cv.t.x, .int .i64 cv.t.y] 49 (0, 0)) := by rw [hw14]; exact (by repeat (first | exact h6 | (refine hb_new ?_; (first | omega | (simp; omega) | (simp; done))) | (refine hb_old ?_ ?_; rotate_left; focus (first | omega | (simp; omega) | (simp; done))) | refine hb_drew ?_))
        replace h7 : w14.heap[w11.heap.size]? = some (.cells #[.int .i64 cv.m.a, .int .i64 cv.m.b, .int .i64 cv.m.c, .int .i64 cv.m.d, .int .i64 cv.t.x, .int .i64 cv.t.y] 49 (0, 0)) := by rw [hw14]; exact (by repeat (first | exact h7 | (refine hb_new ?_; (first | omega | (simp; omega) | (simp; done))) | (refine hb_old ?_ ?_; rotate_left; focus (first | omega | (simp; omega) | (simp; done))) | refine hb_drew ?_))
        have h8 : w14.heap[w13.heap.size]? = some (.cells #[.int .i64 s.x, .int .i64 s.y] 25 (0, 0)) := by rw [hw14]; exact (by repeat (first | (refine hb_new ?_; (first | omega | (simp; omega) | (simp; done))) | (refine hb_old ?_ ?_; rotate_left; focus (first | omega | (simp; omega) | (simp; done))) | refine hb_drew ?_))
        have hb : Below w13.heap.size w13 w14 := by rw [hw14]; exact (by repeat (first | exact Below.refl _ _ | refine Below.alloc ?_ (by first | omega | (simp; omega) | (simp; done)) _ | refine Below.drew ?_))
        have s14 : w13.heap.size + 1 ≤ w14.heap.size := by rw [hw14]; simp
        have y14 := Below.size hb
        try simp only [World.size_alloc, World.size_drew] at y14
        have D14 := Lib.hid (show Below w.heap.size w w14 from Below.trans (by repeat (first | exact D13.out | exact Below.refl _ _ | refine Below.alloc ?_ (by first | omega | (simp; omega) | (simp; done)) _)) (Below.mono hb (by first | omega | (simp; omega) | (simp; done))))
        have z14 := D14.out.size
        clear hb hw14
        try clear c0_0 f0_0 c0_1 f0_1 c0_2 f0_2 c0_3 f0_3 c0_4 f0_4 c0_5 f0_5 c0_6 f0_6 c0_7 f0_7 c0_8 f0_8 c0_9 f0_9 c0_10 f0_10 c0_11 f0_11 c0_12 f0_12 c0_13 f0_13 c0_14 f0_14 c0_15 f0_15 c0_16 f0_16 c0_17 f0_17
        obtain ⟨c0_0, f0_0, c0_1, f0_1, c0_2, f0_2, c0_3, f0_3, c0_4, f0_4, c0_5, f0_5, c0_6, f0_6, c0_7, f0_7, c0_8, f0_8, c0_9, f0_9, c0_10, f0_10, c0_11, f0_11, c0_12, f0_12, c0_13, f0_13, c0_14, f0_14, c0_15, f0_15, c0_16, f0_16, c0_17, f0_17⟩ := cells18 h0
        try clear c1_0 f1_0 c1_1 f1_1
        obtain ⟨c1_0, f1_0, c1_1, f1_1⟩ := cells2 h1
        try clear c2_0 f2_0 c2_1 f2_1 c2_2 f2_2 c2_3 f2_3 c2_4 f2_4 c2_5 f2_5
        obtain ⟨c2_0, f2_0, c2_1, f2_1, c2_2, f2_2, c2_3, f2_3, c2_4, f2_4, c2_5, f2_5⟩ := cells6 h2
        try clear c3_0 f3_0 c3_1 f3_1
        obtain ⟨c3_0, f3_0, c3_1, f3_1⟩ := cells2 h3
        try clear c4_0 f4_0 c4_1 f4_1 c4_2 f4_2 c4_3 f4_3 c4_4 f4_4 c4_5 f4_5
        obtain ⟨c4_0, f4_0, c4_1, f4_1, c4_2, f4_2, c4_3, f4_3, c4_4, f4_4, c4_5, f4_5⟩ := cells6 h4
        try clear c5_0 f5_0 c5_1 f5_1 c5_2 f5_2 c5_3 f5_3 c5_4 f5_4 c5_5 f5_5
        obtain ⟨c5_0, f5_0, c5_1, f5_1, c5_2, f5_2, c5_3, f5_3, c5_4, f5_4, c5_5, f5_5⟩ := cells6 h5
        try clear c6_0 f6_0 c6_1 f6_1 c6_2 f6_2 c6_3 f6_3 c6_4 f6_4 c6_5 f6_5
        obtain ⟨c6_0, f6_0, c6_1, f6_1, c6_2, f6_2, c6_3, f6_3, c6_4, f6_4, c6_5, f6_5⟩ := cells6 h6
        try clear c7_0 f7_0 c7_1 f7_1 c7_2 f7_2 c7_3 f7_3 c7_4 f7_4 c7_5 f7_5
        obtain ⟨c7_0, f7_0, c7_1, f7_1, c7_2, f7_2, c7_3, f7_3, c7_4, f7_4, c7_5, f7_5⟩ := cells6 h7
        try clear c8_0 f8_0 c8_1 f8_1
        obtain ⟨c8_0, f8_0, c8_1, f8_1⟩ := cells2 h8
        clear ha0 ca0_0 fa0_0 ca0_1 fa0_1 ca0_2 fa0_2 ca0_3 fa0_3 ca0_4 fa0_4 ca0_5 fa0_5 ca0_6 fa0_6 ca0_7 fa0_7 ca0_8 fa0_8 ca0_9 fa0_9 ca0_10 fa0_10 ca0_11 fa0_11 ca0_12 fa0_12 ca0_13 fa0_13 ca0_14 fa0_14 ca0_15 fa0_15 ca0_16 fa0_16 ca0_17 fa0_17
        clear ha1 ca1_0 fa1_0 ca1_1 fa1_1
        clear ha4 ca4_0 fa4_0 ca4_1 fa4_1 ca4_2 fa4_2 ca4_3 fa4_3 ca4_4 fa4_4 ca4_5 fa4_5
        by_cases qs : se = 0
        · subst qs
          obtain ⟨r1, r2⟩ := G3.out (by simp) (by simp)
          have CB := HB.out
          rw [← r1, ← r2] at CB
          replace HB := Lib.hid CB
          clear r1 r2 CB
          refine (HA.out _).mono ?_
          rintro e w15 ⟨rfl, hb⟩
          replace h0 : w15.heap[w.heap.size]? = some (.cells #[.int .i64 l.m.a, .int .i64 l.m.b, .int .i64 l.m.c, .int .i64 l.m.d, .int .i64 l.t.x, .int .i64 l.t.y, .int .i64 m.m.a, .int .i64 m.m.b, .int .i64 m.m.c, .int .i64 m.m.d, .int .i64 m.t.x, .int .i64 m.t.y, .int .i64 n.m.a, .int .i64 n.m.b, .int .i64 n.m.c, .int .i64 n.m.d, .int .i64 n.t.x, .int .i64 n.t.y] 68 (0, 0)) := hb_below hb (by repeat (first | exact h0 | (refine hb_new ?_; (first | omega | (simp; omega) | (simp; done))) | (refine hb_old ?_ ?_; rotate_left; focus (first | omega | (simp; omega) | (simp; done))) | refine hb_drew ?_)) (by first | omega | (simp; omega) | (simp; done))
          replace h1 : w15.heap[w.heap.size + 1]? = some (.cells #[.int .i64 p.x, .int .i64 p.y] 25 (0, 0)) := hb_below hb (by repeat (first | exact h1 | (refine hb_new ?_; (first | omega | (simp; omega) | (simp; done))) | (refine hb_old ?_ ?_; rotate_left; focus (first | omega | (simp; omega) | (simp; done))) | refine hb_drew ?_)) (by first | omega | (simp; omega) | (simp; done))
          replace h2 : w15.heap[w1.heap.size]? = some (.cells #[.int .i64 v.m.a, .int .i64 v.m.b, .int .i64 v.m.c, .int .i64 v.m.d, .int .i64 v.t.x, .int .i64 v.t.y] 49 (0, 0)) := hb_below hb (by repeat (first | exact h2 | (refine hb_new ?_; (first | omega | (simp; omega) | (simp; done))) | (refine hb_old ?_ ?_; rotate_left; focus (first | omega | (simp; omega) | (simp; done))) | refine hb_drew ?_)) (by first | omega | (simp; omega) | (simp; done))
          replace h3 : w15.heap[w3.heap.size]? = some (.cells #[.int .i64 q.x, .int .i64 q.y] 25 (0, 0)) := hb_below hb (by repeat (first | exact h3 | (refine hb_new ?_; (first | omega | (simp; omega) | (simp; done))) | (refine hb_old ?_ ?_; rotate_left; focus (first | omega | (simp; omega) | (simp; done))) | refine hb_drew ?_)) (by first | omega | (simp; omega) | (simp; done))
          replace h4 : w15.heap[w5.heap.size]? = some (.cells #[.int .i64 a.m.a, .int .i64 a.m.b, .int .i64 a.m.c, .int .i64 a.m.d, .int .i64 a.t.x, .int .i64 a.t.y] 49 (0, 0)) := hb_below hb (by repeat (first | exact h4 | (refine hb_new ?_; (first | omega | (simp; omega) | (simp; done))) | (refine hb_old ?_ ?_; rotate_left; focus (first | omega | (simp; omega) | (simp; done))) | refine hb_drew ?_)) (by first | omega | (simp; omega) | (simp; done))
          replace h5 : w15.heap[w7.heap.size]? = some (.cells #[.int .i64 b.m.a, .int .i64 b.m.b, .int .i64 b.m.c, .int .i64 b.m.d, .int .i64 b.t.x, .int .i64 b.t.y] 49 (0, 0)) := hb_below hb (by repeat (first | exact h5 | (refine hb_new ?_; (first | omega | (simp; omega) | (simp; done))) | (refine hb_old ?_ ?_; rotate_left; focus (first | omega | (simp; omega) | (simp; done))) | refine hb_drew ?_)) (by first | omega | (simp; omega) | (simp; done))
          replace h6 : w15.heap[w9.heap.size]? = some (.cells #[.int .i64 cv.m.a, .int .i64 cv.m.b, .int .i64 cv.m.c, .int .i64 cv.m.d, .int .i64 cv.t.x, .int .i64 cv.t.y] 49 (0, 0)) := hb_below hb (by repeat (first | exact h6 | (refine hb_new ?_; (first | omega | (simp; omega) | (simp; done))) | (refine hb_old ?_ ?_; rotate_left; focus (first | omega | (simp; omega) | (simp; done))) | refine hb_drew ?_)) (by first | omega | (simp; omega) | (simp; done))
          replace h7 : w15.heap[w11.heap.size]? = some (.cells #[.int .i64 cv.m.a, .int .i64 cv.m.b, .int .i64 cv.m.c, .int .i64 cv.m.d, .int .i64 cv.t.x, .int .i64 cv.t.y] 49 (0, 0)) := hb_below hb (by repeat (first | exact h7 | (refine hb_new ?_; (first | omega | (simp; omega) | (simp; done))) | (refine hb_old ?_ ?_; rotate_left; focus (first | omega | (simp; omega) | (simp; done))) | refine hb_drew ?_)) (by first | omega | (simp; omega) | (simp; done))
          replace h8 : w15.heap[w13.heap.size]? = some (.cells #[.int .i64 s.x, .int .i64 s.y] 25 (0, 0)) := hb_below hb (by repeat (first | exact h8 | (refine hb_new ?_; (first | omega | (simp; omega) | (simp; done))) | (refine hb_old ?_ ?_; rotate_left; focus (first | omega | (simp; omega) | (simp; done))) | refine hb_drew ?_)) (by first | omega | (simp; omega) | (simp; done))
          have y15 := Below.size hb
          try simp only [World.size_alloc, World.size_drew] at y15
          have D15 := Lib.hid (show Below w.heap.size w w15 from Below.trans (by repeat (first | exact D14.out | exact Below.refl _ _ | refine Below.alloc ?_ (by first | omega | (simp; omega) | (simp; done)) _)) (Below.mono hb (by first | omega | (simp; omega) | (simp; done))))
          have z15 := D15.out.size
          clear hb
          try clear c0_0 f0_0 c0_1 f0_1 c0_2 f0_2 c0_3 f0_3 c0_4 f0_4 c0_5 f0_5 c0_6 f0_6 c0_7 f0_7 c0_8 f0_8 c0_9 f0_9 c0_10 f0_10 c0_11 f0_11 c0_12 f0_12 c0_13 f0_13 c0_14 f0_14 c0_15 f0_15 c0_16 f0_16 c0_17 f0_17
          obtain ⟨c0_0, f0_0, c0_1, f0_1, c0_2, f0_2, c0_3, f0_3, c0_4, f0_4, c0_5, f0_5, c0_6, f0_6, c0_7, f0_7, c0_8, f0_8, c0_9, f0_9, c0_10, f0_10, c0_11, f0_11, c0_12, f0_12, c0_13, f0_13, c0_14, f0_14, c0_15, f0_15, c0_16, f0_16, c0_17, f0_17⟩ := cells18 h0
          try clear c1_0 f1_0 c1_1 f1_1
          obtain ⟨c1_0, f1_0, c1_1, f1_1⟩ := cells2 h1
          try clear c2_0 f2_0 c2_1 f2_1 c2_2 f2_2 c2_3 f2_3 c2_4 f2_4 c2_5 f2_5
          obtain ⟨c2_0, f2_0, c2_1, f2_1, c2_2, f2_2, c2_3, f2_3, c2_4, f2_4, c2_5, f2_5⟩ := cells6 h2
          try clear c3_0 f3_0 c3_1 f3_1
          obtain ⟨c3_0, f3_0, c3_1, f3_1⟩ := cells2 h3
          try clear c4_0 f4_0 c4_1 f4_1 c4_2 f4_2 c4_3 f4_3 c4_4 f4_4 c4_5 f4_5
          obtain ⟨c4_0, f4_0, c4_1, f4_1, c4_2, f4_2, c4_3, f4_3, c4_4, f4_4, c4_5, f4_5⟩ := cells6 h4
          try clear c5_0 f5_0 c5_1 f5_1 c5_2 f5_2 c5_3 f5_3 c5_4 f5_4 c5_5 f5_5
          obtain ⟨c5_0, f5_0, c5_1, f5_1, c5_2, f5_2, c5_3, f5_3, c5_4, f5_4, c5_5, f5_5⟩ := cells6 h5
          try clear c6_0 f6_0 c6_1 f6_1 c6_2 f6_2 c6_3 f6_3 c6_4 f6_4 c6_5 f6_5
          obtain ⟨c6_0, f6_0, c6_1, f6_1, c6_2, f6_2, c6_3, f6_3, c6_4, f6_4, c6_5, f6_5⟩ := cells6 h6
          try clear c7_0 f7_0 c7_1 f7_1 c7_2 f7_2 c7_3 f7_3 c7_4 f7_4 c7_5 f7_5
          obtain ⟨c7_0, f7_0, c7_1, f7_1, c7_2, f7_2, c7_3, f7_3, c7_4, f7_4, c7_5, f7_5⟩ := cells6 h7
          try clear c8_0 f8_0 c8_1 f8_1
          obtain ⟨c8_0, f8_0, c8_1, f8_1⟩ := cells2 h8
          have ha1 : (w15.alloc (.cells #[.int .i64 tv.x, .int .i64 tv.y] 25)).heap[w.heap.size + 1]? = some (.cells #[.int .i64 p.x, .int .i64 p.y] 25 (0, 0)) := (by repeat (first | exact h1 | (refine hb_new ?_; (first | omega | (simp; omega) | (simp; done))) | (refine hb_old ?_ ?_; rotate_left; focus (first | omega | (simp; omega) | (simp; done))) | refine hb_drew ?_))
          obtain ⟨ca1_0, fa1_0, ca1_1, fa1_1⟩ := cells2 ha1
          have ha4 : (w15.alloc (.cells #[.int .i64 tv.x, .int .i64 tv.y] 25)).heap[w5.heap.size]? = some (.cells #[.int .i64 a.m.a, .int .i64 a.m.b, .int .i64 a.m.c, .int .i64 a.m.d, .int .i64 a.t.x, .int .i64 a.t.y] 49 (0, 0)) := (by repeat (first | exact h4 | (refine hb_new ?_; (first | omega | (simp; omega) | (simp; done))) | (refine hb_old ?_ ?_; rotate_left; focus (first | omega | (simp; omega) | (simp; done))) | refine hb_drew ?_))
          obtain ⟨ca4_0, fa4_0, ca4_1, fa4_1, ca4_2, fa4_2, ca4_3, fa4_3, ca4_4, fa4_4, ca4_5, fa4_5⟩ := cells6 ha4
          go_wp2_with fail
          obtain ⟨w16, hw16⟩ : ∃ W, W = (w15.alloc (.cells #[.int .i64 tv.x, .int .i64 tv.y] 25)) := ⟨_, rfl⟩
          rw [← hw16]
          replace h0 : w16.heap[w.heap.size]? = some (.cells #[.int .i64 l.m.a, .int .i64 l.m.b, .int .i64 l.m.c, .int .i64 l.m.d, .int .i64 l.t.x, .int .i64 l.t.y, .int .i64 m.m.a, .int .i64 m.m.b, .int .i64 m.m.c, .int .i64 m.m.d, .int .i64 m.t.x, .int .i64 m.t.y, .int .i64 n.m.a, .int .i64 n.m.b, .int .i64 n.m.c, .int .i64 n.m.d, .int .i64 n.t.x, .int .i64 n.t.y] 68 (0, 0)) := by rw [hw16]; exact (by repeat (first | exact h0 | (refine hb_new ?_; (first | omega | (simp; omega) | (simp; done))) | (refine hb_old ?_ ?_; rotate_left; focus (first | omega | (simp; omega) | (simp; done))) | refine hb_drew ?_))
          replace h1 : w16.heap[w.heap.size + 1]? = some (.cells #[.int .i64 p.x, .int .i64 p.y] 25 (0, 0)) := by rw [hw16]; exact (by repeat (first | exact h1 | (refine hb_new ?_; (first | omega | (simp; omega) | (simp; done))) | (refine hb_old ?_ ?_; rotate_left; focus (first | omega | (simp; omega) | (simp; done))) | refine hb_drew ?_))
          replace h2 : w16.heap[w1.heap.size]? = some (.cells #[.int .i64 v.m.a, .int .i64 v.m.b, .int .i64 v.m.c, .int .i64 v.m.d, .int .i64 v.t.x, .int .i64 v.t.y] 49 (0, 0)) := by rw [hw16]; exact (by repeat (first | exact h2 | (refine hb_new ?_; (first | omega | (simp; omega) | (simp; done))) | (refine hb_old ?_ ?_; rotate_left; focus (first | omega | (simp; omega) | (simp; done))) | refine hb_drew ?_))
          replace h3 : w16.heap[w3.heap.size]? = some (.cells #[.int .i64 q.x, .int .i64 q.y] 25 (0, 0)) := by rw [hw16]; exact (by repeat (first | exact h3 | (refine hb_new ?_; (first | omega | (simp; omega) | (simp; done))) | (refine hb_old ?_ ?_; rotate_left; focus (first | omega | (simp; omega) | (simp; done))) | refine hb_drew ?_))
          replace h4 : w16.heap[w5.heap.size]? = some (.cells #[.int .i64 a.m.a, .int .i64 a.m.b, .int .i64 a.m.c, .int .i64 a.m.d, .int .i64 a.t.x, .int .i64 a.t.y] 49 (0, 0)) := by rw [hw16]; exact (by repeat (first | exact h4 | (refine hb_new ?_; (first | omega | (simp; omega) | (simp; done))) | (refine hb_old ?_ ?_; rotate_left; focus (first | omega | (simp; omega) | (simp; done))) | refine hb_drew ?_))
          replace h5 : w16.heap[w7.heap.size]? = some (.cells #[.int .i64 b.m.a, .int .i64 b.m.b, .int .i64 b.m.c, .int .i64 b.m.d, .int .i64 b.t.x, .int .i64 b.t.y] 49 (0, 0)) := by rw [hw16]; exact (by repeat (first | exact h5 | (refine hb_new ?_; (first | omega | (simp; omega) | (simp; done))) | (refine hb_old ?_ ?_; rotate_left; focus (first | omega | (simp; omega) | (simp; done))) | refine hb_drew ?_))
          replace h6 : w16.heap[w9.heap.size]? = some (.cells #[.int .i64 cv.m.a, .int .i64 cv.m.b, .int .i64 cv.m.c, .int .i64 cv.m.d, .int .i64 cv.t.x, .int .i64 cv.t.y] 49 (0, 0)) := by rw [hw16]; exact (by repeat (first | exact h6 | (refine hb_new ?_; (first | omega | (simp; omega) | (simp; done))) | (refine hb_old ?_ ?_; rotate_left; focus (first | omega | (simp; omega) | (simp; done))) | refine hb_drew ?_))
          replace h7 : w16.heap[w11.heap.size]? = some (.cells #[.int .i64 cv.m.a, .int .i64 cv.m.b, .int .i64 cv.m.c, .int .i64 cv.m.d, .int .i64 cv.t.x, .int .i64 cv.t.y] 49 (0, 0)) := by rw [hw16]; exact (by repeat (first | exact h7 | (refine hb_new ?_; (first | omega | (simp; omega) | (simp; done))) | (refine hb_old ?_ ?_; rotate_left; focus (first | omega | (simp; omega) | (simp; done))) | refine hb_drew ?_))
          replace h8 : w16.heap[w13.heap.size]? = some (.cells #[.int .i64 s.x, .int .i64 s.y] 25 (0, 0)) := by rw [hw16]; exact (by repeat (first | exact h8 | (refine hb_new ?_; (first | omega | (simp; omega) | (simp; done))) | (refine hb_old ?_ ?_; rotate_left; focus (first | omega | (simp; omega) | (simp; done))) | refine hb_drew ?_))
          have h9 : w16.heap[w15.heap.size]? = some (.cells #[.int .i64 tv.x, .int .i64 tv.y] 25 (0, 0)) := by rw [hw16]; exact (by repeat (first | (refine hb_new ?_; (first | omega | (simp; omega) | (simp; done))) | (refine hb_old ?_ ?_; rotate_left; focus (first | omega | (simp; omega) | (simp; done))) | refine hb_drew ?_))
          have hb : Below w15.heap.size w15 w16 := by rw [hw16]; exact (by repeat (first | exact Below.refl _ _ | refine Below.alloc ?_ (by first | omega | (simp; omega) | (simp; done)) _ | refine Below.drew ?_))
          have s16 : w15.heap.size + 1 ≤ w16.heap.size := by rw [hw16]; simp
          have y16 := Below.size hb
          try simp only [World.size_alloc, World.size_drew] at y16
          have D16 := Lib.hid (show Below w.heap.size w w16 from Below.trans (by repeat (first | exact D15.out | exact Below.refl _ _ | refine Below.alloc ?_ (by first | omega | (simp; omega) | (simp; done)) _)) (Below.mono hb (by first | omega | (simp; omega) | (simp; done))))
          have z16 := D16.out.size
          clear hb hw16
          try clear c0_0 f0_0 c0_1 f0_1 c0_2 f0_2 c0_3 f0_3 c0_4 f0_4 c0_5 f0_5 c0_6 f0_6 c0_7 f0_7 c0_8 f0_8 c0_9 f0_9 c0_10 f0_10 c0_11 f0_11 c0_12 f0_12 c0_13 f0_13 c0_14 f0_14 c0_15 f0_15 c0_16 f0_16 c0_17 f0_17
          obtain ⟨c0_0, f0_0, c0_1, f0_1, c0_2, f0_2, c0_3, f0_3, c0_4, f0_4, c0_5, f0_5, c0_6, f0_6, c0_7, f0_7, c0_8, f0_8, c0_9, f0_9, c0_10, f0_10, c0_11, f0_11, c0_12, f0_12, c0_13, f0_13, c0_14, f0_14, c0_15, f0_15, c0_16, f0_16, c0_17, f0_17⟩ := cells18 h0
          try clear c1_0 f1_0 c1_1 f1_1
          obtain ⟨c1_0, f1_0, c1_1, f1_1⟩ := cells2 h1
          try clear c2_0 f2_0 c2_1 f2_1 c2_2 f2_2 c2_3 f2_3 c2_4 f2_4 c2_5 f2_5
          obtain ⟨c2_0, f2_0, c2_1, f2_1, c2_2, f2_2, c2_3, f2_3, c2_4, f2_4, c2_5, f2_5⟩ := cells6 h2
          try clear c3_0 f3_0 c3_1 f3_1
          obtain ⟨c3_0, f3_0, c3_1, f3_1⟩ := cells2 h3
          try clear c4_0 f4_0 c4_1 f4_1 c4_2 f4_2 c4_3 f4_3 c4_4 f4_4 c4_5 f4_5
          obtain ⟨c4_0, f4_0, c4_1, f4_1, c4_2, f4_2, c4_3, f4_3, c4_4, f4_4, c4_5, f4_5⟩ := cells6 h4
          try clear c5_0 f5_0 c5_1 f5_1 c5_2 f5_2 c5_3 f5_3 c5_4 f5_4 c5_5 f5_5
          obtain ⟨c5_0, f5_0, c5_1, f5_1, c5_2, f5_2, c5_3, f5_3, c5_4, f5_4, c5_5, f5_5⟩ := cells6 h5
          try clear c6_0 f6_0 c6_1 f6_1 c6_2 f6_2 c6_3 f6_3 c6_4 f6_4 c6_5 f6_5
          obtain ⟨c6_0, f6_0, c6_1, f6_1, c6_2, f6_2, c6_3, f6_3, c6_4, f6_4, c6_5, f6_5⟩ := cells6 h6
          try clear c7_0 f7_0 c7_1 f7_1 c7_2 f7_2 c7_3 f7_3 c7_4 f7_4 c7_5 f7_5
          obtain ⟨c7_0, f7_0, c7_1, f7_1, c7_2, f7_2, c7_3, f7_3, c7_4, f7_4, c7_5, f7_5⟩ := cells6 h7
          try clear c8_0 f8_0 c8_1 f8_1
          obtain ⟨c8_0, f8_0, c8_1, f8_1⟩ := cells2 h8
          try clear c9_0 f9_0 c9_1 f9_1
          obtain ⟨c9_0, f9_0, c9_1, f9_1⟩ := cells2 h9
          clear ha1 ca1_0 fa1_0 ca1_1 fa1_1
          clear ha4 ca4_0 fa4_0 ca4_1 fa4_1 ca4_2 fa4_2 ca4_3 fa4_3 ca4_4 fa4_4 ca4_5 fa4_5
          refine (HB.out _).mono ?_
          rintro e w17 ⟨rfl, hb⟩
          replace h0 : w17.heap[w.heap.size]? = some (.cells #[.int .i64 l.m.a, .int .i64 l.m.b, .int .i64 l.m.c, .int .i64 l.m.d, .int .i64 l.t.x, .int .i64 l.t.y, .int .i64 m.m.a, .int .i64 m.m.b, .int .i64 m.m.c, .int .i64 m.m.d, .int .i64 m.t.x, .int .i64 m.t.y, .int .i64 n.m.a, .int .i64 n.m.b, .int .i64 n.m.c, .int .i64 n.m.d, .int .i64 n.t.x, .int .i64 n.t.y] 68 (0, 0)) := hb_below hb (by repeat (first | exact h0 | (refine hb_new ?_; (first | omega | (simp; omega) | (simp; done))) | (refine hb_old ?_ ?_; rotate_left; focus (first | omega | (simp; omega) | (simp; done))) | refine hb_drew ?_)) (by first | omega | (simp; omega) | (simp; done))
          replace h1 : w17.heap[w.heap.size + 1]? = some (.cells #[.int .i64 p.x, .int .i64 p.y] 25 (0, 0)) := hb_below hb (by repeat (first | exact h1 | (refine hb_new ?_; (first | omega | (simp; omega) | (simp; done))) | (refine hb_old ?_ ?_; rotate_left; focus (first | omega | (simp; omega) | (simp; done))) | refine hb_drew ?_)) (by first | omega | (simp; omega) | (simp; done))
          replace h2 : w17.heap[w1.heap.size]? = some (.cells #[.int .i64 v.m.a, .int .i64 v.m.b, .int .i64 v.m.c, .int .i64 v.m.d, .int .i64 v.t.x, .int .i64 v.t.y] 49 (0, 0)) := hb_below hb (by repeat (first | exact h2 | (refine hb_new ?_; (first | omega | (simp; omega) | (simp; done))) | (refine hb_old ?_ ?_; rotate_left; focus (first | omega | (simp; omega) | (simp; done))) | refine hb_drew ?_)) (by first | omega | (simp; omega) | (simp; done))
          replace h3 : w17.heap[w3.heap.size]? = some (.cells #[.int .i64 q.x, .int .i64 q.y] 25 (0, 0)) := hb_below hb (by repeat (first | exact h3 | (refine hb_new ?_; (first | omega | (simp; omega) | (simp; done))) | (refine hb_old ?_ ?_; rotate_left; focus (first | omega | (simp; omega) | (simp; done))) | refine hb_drew ?_)) (by first | omega | (simp; omega) | (simp; done))
          replace h4 : w17.heap[w5.heap.size]? = some (.cells #[.int .i64 a.m.a, .int .i64 a.m.b, .int .i64 a.m.c, .int .i64 a.m.d, .int .i64 a.t.x, .int .i64 a.t.y] 49 (0, 0)) := hb_below hb (by repeat (first | exact h4 | (refine hb_new ?_; (first | omega | (simp; omega) | (simp; done))) | (refine hb_old ?_ ?_; rotate_left; focus (first | omega | (simp; omega) | (simp; done))) | refine hb_drew ?_)) (by first | omega | (simp; omega) | (simp; done))
          replace h5 : w17.heap[w7.heap.size]? = some (.cells #[.int .i64 b.m.a, .int .i64 b.m.b, .int .i64 b.m.c, .int .i64 b.m.d, .int .i64 b.t.x, .int .i64 b.t.y] 49 (0, 0)) := hb_below hb (by repeat (first | exact h5 | (refine hb_new ?_; (first | omega | (simp; omega) | (simp; done))) | (refine hb_old ?_ ?_; rotate_left; focus (first | omega | (simp; omega) | (simp; done))) | refine hb_drew ?_)) (by first | omega | (simp; omega) | (simp; done))
          replace h6 : w17.heap[w9.heap.size]? = some (.cells #[.int .i64 cv.m.a, .int .i64 cv.m.b, .int .i64 cv.m.c, .int .i64 cv.m.d, .int .i64 cv.t.x, .int .i64 cv.t.y] 49 (0, 0)) := hb_below hb (by repeat (first | exact h6 | (refine hb_new ?_; (first | omega | (simp; omega) | (simp; done))) | (refine hb_old ?_ ?_; rotate_left; focus (first | omega | (simp; omega) | (simp; done))) | refine hb_drew ?_)) (by first | omega | (simp; omega) | (simp; done))
          replace h7 : w17.heap[w11.heap.size]? = some (.cells #[.int .i64 cv.m.a, .int .i64 cv.m.b, .int .i64 cv.m.c, .int .i64 cv.m.d, .int .i64 cv.t.x, .int .i64 cv.t.y] 49 (0, 0)) := hb_below hb (by repeat (first | exact h7 | (refine hb_new ?_; (first | omega | (simp; omega) | (simp; done))) | (refine hb_old ?_ ?_; rotate_left; focus (first | omega | (simp; omega) | (simp; done))) | refine hb_drew ?_)) (by first | omega | (simp; omega) | (simp; done))
          replace h8 : w17.heap[w13.heap.size]? = some (.cells #[.int .i64 s.x, .int .i64 s.y] 25 (0, 0)) := hb_below hb (by repeat (first | exact h8 | (refine hb_new ?_; (first | omega | (simp; omega) | (simp; done))) | (refine hb_old ?_ ?_; rotate_left; focus (first | omega | (simp; omega) | (simp; done))) | refine hb_drew ?_)) (by first | omega | (simp; omega) | (simp; done))
          replace h9 : w17.heap[w15.heap.size]? = some (.cells #[.int .i64 tv.x, .int .i64 tv.y] 25 (0, 0)) := hb_below hb (by repeat (first | exact h9 | (refine hb_new ?_; (first | omega | (simp; omega) | (simp; done))) | (refine hb_old ?_ ?_; rotate_left; focus (first | omega | (simp; omega) | (simp; done))) | refine hb_drew ?_)) (by first | omega | (simp; omega) | (simp; done))
          have y17 := Below.size hb
          try simp only [World.size_alloc, World.size_drew] at y17
          have D17 := Lib.hid (show Below w.heap.size w w17 from Below.trans (by repeat (first | exact D16.out | exact Below.refl _ _ | refine Below.alloc ?_ (by first | omega | (simp; omega) | (simp; done)) _)) (Below.mono hb (by first | omega | (simp; omega) | (simp; done))))
          have z17 := D17.out.size
          clear hb
          try clear c0_0 f0_0 c0_1 f0_1 c0_2 f0_2 c0_3 f0_3 c0_4 f0_4 c0_5 f0_5 c0_6 f0_6 c0_7 f0_7 c0_8 f0_8 c0_9 f0_9 c0_10 f0_10 c0_11 f0_11 c0_12 f0_12 c0_13 f0_13 c0_14 f0_14 c0_15 f0_15 c0_16 f0_16 c0_17 f0_17
          obtain ⟨c0_0, f0_0, c0_1, f0_1, c0_2, f0_2, c0_3, f0_3, c0_4, f0_4, c0_5, f0_5, c0_6, f0_6, c0_7, f0_7, c0_8, f0_8, c0_9, f0_9, c0_10, f0_10, c0_11, f0_11, c0_12, f0_12, c0_13, f0_13, c0_14, f0_14, c0_15, f0_15, c0_16, f0_16, c0_17, f0_17⟩ := cells18 h0
          try clear c1_0 f1_0 c1_1 f1_1
          obtain ⟨c1_0, f1_0, c1_1, f1_1⟩ := cells2 h1
          try clear c2_0 f2_0 c2_1 f2_1 c2_2 f2_2 c2_3 f2_3 c2_4 f2_4 c2_5 f2_5
          obtain ⟨c2_0, f2_0, c2_1, f2_1, c2_2, f2_2, c2_3, f2_3, c2_4, f2_4, c2_5, f2_5⟩ := cells6 h2
          try clear c3_0 f3_0 c3_1 f3_1
          obtain ⟨c3_0, f3_0, c3_1, f3_1⟩ := cells2 h3
          try clear c4_0 f4_0 c4_1 f4_1 c4_2 f4_2 c4_3 f4_3 c4_4 f4_4 c4_5 f4_5
          obtain ⟨c4_0, f4_0, c4_1, f4_1, c4_2, f4_2, c4_3, f4_3, c4_4, f4_4, c4_5, f4_5⟩ := cells6 h4
          try clear c5_0 f5_0 c5_1 f5_1 c5_2 f5_2 c5_3 f5_3 c5_4 f5_4 c5_5 f5_5
          obtain ⟨c5_0, f5_0, c5_1, f5_1, c5_2, f5_2, c5_3, f5_3, c5_4, f5_4, c5_5, f5_5⟩ := cells6 h5
          try clear c6_0 f6_0 c6_1 f6_1 c6_2 f6_2 c6_3 f6_3 c6_4 f6_4 c6_5 f6_5
          obtain ⟨c6_0, f6_0, c6_1, f6_1, c6_2, f6_2, c6_3, f6_3, c6_4, f6_4, c6_5, f6_5⟩ := cells6 h6
          try clear c7_0 f7_0 c7_1 f7_1 c7_2 f7_2 c7_3 f7_3 c7_4 f7_4 c7_5 f7_5
          obtain ⟨c7_0, f7_0, c7_1, f7_1, c7_2, f7_2, c7_3, f7_3, c7_4, f7_4, c7_5, f7_5⟩ := cells6 h7
          try clear c8_0 f8_0 c8_1 f8_1
          obtain ⟨c8_0, f8_0, c8_1, f8_1⟩ := cells2 h8
          try clear c9_0 f9_0 c9_1 f9_1
          obtain ⟨c9_0, f9_0, c9_1, f9_1⟩ := cells2 h9
          have ha9 : (w17.alloc (.cells #[.int .i64 tv.x, .int .i64 tv.y] 25)).heap[w15.heap.size]? = some (.cells #[.int .i64 tv.x, .int .i64 tv.y] 25 (0, 0)) := (by repeat (first | exact h9 | (refine hb_new ?_; (first | omega | (simp; omega) | (simp; done))) | (refine hb_old ?_ ?_; rotate_left; focus (first | omega | (simp; omega) | (simp; done))) | refine hb_drew ?_))
          obtain ⟨ca9_0, fa9_0, ca9_1, fa9_1⟩ := cells2 ha9
          go_wp2_with fail
          obtain ⟨w18, hw18⟩ : ∃ W, W = (w17.alloc (.cells #[.int .i64 tv.x, .int .i64 tv.y] 25)) := ⟨_, rfl⟩
          rw [← hw18]
          replace h0 : w18.heap[w.heap.size]? = some (.cells #[.int .i64 l.m.a, .int .i64 l.m.b, .int .i64 l.m.c, .int .i64 l.m.d, .int .i64 l.t.x, .int .i64 l.t.y, .int .i64 m.m.a, .int .i64 m.m.b, .int .i64 m.m.c, .int .i64 m.m.d, .int .i64 m.t.x, .int .i64 m.t.y, .int .i64 n.m.a, .int .i64 n.m.b, .int .i64 n.m.c, .int .i64 n.m.d, .int .i64 n.t.x, .int .i64 n.t.y] 68 (0, 0)) := by rw [hw18]; exact (by repeat (first | exact h0 | (refine hb_new ?_; (first | omega | (simp; omega) | (simp; done))) | (refine hb_old ?_ ?_; rotate_left; focus (first | omega | (simp; omega) | (simp; done))) | refine hb_drew ?_))
          replace h1 : w18.heap[w.heap.size + 1]? = some (.cells #[.int .i64 p.x, .int .i64 p.y] 25 (0, 0)) := by rw [hw18]; exact (by repeat (first | exact h1 | (refine hb_new ?_; (first | omega | (simp; omega) | (simp; done))) | (refine hb_old ?_ ?_; rotate_left; focus (first | omega | (simp; omega) | (simp; done))) | refine hb_drew ?_))
          replace h2 : w18.heap[w1.heap.size]? = some (.cells #[.int .i64 v.m.a, .int .i64 v.m.b, .int .i64 v.m.c, .int .i64 v.m.d, .int .i64 v.t.x, .int .i64 v.t.y] 49 (0, 0)) := by rw [hw18]; exact (by repeat (first | exact h2 | (refine hb_new ?_; (first | omega | (simp; omega) | (simp; done))) | (refine hb_old ?_ ?_; rotate_left; focus (first | omega | (simp; omega) | (simp; done))) | refine hb_drew ?_))
          replace h3 : w18.heap[w3.heap.size]? = some (.cells #[.int .i64 q.x, .int .i64 q.y] 25 (0, 0)) := by rw [hw18]; exact (by repeat (first | exact h3 | (refine hb_new ?_; (first | omega | (simp; omega) | (simp; done))) | (refine hb_old ?_ ?_; rotate_left; focus (first | omega | (simp; omega) | (simp; done))) | refine hb_drew ?_))
          replace h4 : w18.heap[w5.heap.size]? = some (.cells #[.int .i64 a.m.a, .int .i64 a.m.b, .int .i64 a.m.c, .int .i64 a.m.d, .int .i64 a.t.x, .int .i64 a.t.y] 49 (0, 0)) := by rw [hw18]; exact (by repeat (first | exact h4 | (refine hb_new ?_; (first | omega | (simp; omega) | (simp; done))) | (refine hb_old ?_ ?_; rotate_left; focus (first | omega | (simp; omega) | (simp; done))) | refine hb_drew ?_))
          replace h5 : w18.heap[w7.heap.size]? = some (.cells #[.int .i64 b.m.a, .int .i64 b.m.b, .int .i64 b.m.c, .int .i64 b.m.d, .int .i64 b.t.x, .int .i64 b.t.y] 49 (0, 0)) := by rw [hw18]; exact (by repeat (first | exact h5 | (refine hb_new ?_; (first | omega | (simp; omega) | (simp; done))) | (refine hb_old ?_ ?_; rotate_left; focus (first | omega | (simp; omega) | (simp; done))) | refine hb_drew ?_))
          replace h6 : w18.heap[w9.heap.size]? = some (.cells #[.int .i64 cv.m.a, .int .i64 cv.m.b, .int .i64 cv.m.c, .int .i64 cv.m.d, .int .i64 cv.t.x, .int .i64 cv.t.y] 49 (0, 0)) := by rw [hw18]; exact (by repeat (first | exact h6 | (refine hb_new ?_; (first | omega | (simp; omega) | (simp; done))) | (refine hb_old ?_ ?_; rotate_left; focus (first | omega | (simp; omega) | (simp; done))) | refine hb_drew ?_))
          replace h7 : w18.heap[w11.heap.size]? = some (.cells #[.int .i64 cv.m.a, .int .i64 cv.m.b, .int .i64 cv.m.c, .int .i64 cv.m.d, .int .i64 cv.t.x, .int .i64 cv.t.y] 49 (0, 0)) := by rw [hw18]; exact (by repeat (first | exact h7 | (refine hb_new ?_; (first | omega | (simp; omega) | (simp; done))) | (refine hb_old ?_ ?_; rotate_left; focus (first | omega | (simp; omega) | (simp; done))) | refine hb_drew ?_))
          replace h8 : w18.heap[w13.heap.size]? = some (.cells #[.int .i64 s.x, .int .i64 s.y] 25 (0, 0)) := by rw [hw18]; exact (by repeat (first | exact h8 | (refine hb_new ?_; (first | omega | (simp; omega) | (simp; done))) | (refine hb_old ?_ ?_; rotate_left; focus (first | omega | (simp; omega) | (simp; done))) | refine hb_drew ?_))
          replace h9 : w18.heap[w15.heap.size]? = some (.cells #[.int .i64 tv.x, .int .i64 tv.y] 25 (0, 0)) := by rw [hw18]; exact (by repeat (first | exact h9 | (refine hb_new ?_; (first | omega | (simp; omega) | (simp; done))) | (refine hb_old ?_ ?_; rotate_left; focus (first | omega | (simp; omega) | (simp; done))) | refine hb_drew ?_))
          have h10 : w18.heap[w17.heap.size]? = some (.cells #[.int .i64 tv.x, .int .i64 tv.y] 25 (0, 0)) := by rw [hw18]; exact (by repeat (first | (refine hb_new ?_; (first | omega | (simp; omega) | (simp; done))) | (refine hb_old ?_ ?_; rotate_left; focus (first | omega | (simp; omega) | (simp; done))) | refine hb_drew ?_))
          have hb : Below w17.heap.size w17 w18 := by rw [hw18]; exact (by repeat (first | exact Below.refl _ _ | refine Below.alloc ?_ (by first | omega | (simp; omega) | (simp; done)) _ | refine Below.drew ?_))
          have s18 : w17.heap.size + 1 ≤ w18.heap.size := by rw [hw18]; simp
          have y18 := Below.size hb
          try simp only [World.size_alloc, World.size_drew] at y18
          have D18 := Lib.hid (show Below w.heap.size w w18 from Below.trans (by repeat (first | exact D17.out | exact Below.refl _ _ | refine Below.alloc ?_ (by first | omega | (simp; omega) | (simp; done)) _)) (Below.mono hb (by first | omega | (simp; omega) | (simp; done))))
          have z18 := D18.out.size
          clear hb hw18
          try clear c0_0 f0_0 c0_1 f0_1 c0_2 f0_2 c0_3 f0_3 c0_4 f0_4 c0_5 f0_5 c0_6 f0_6 c0_7 f0_7 c0_8 f0_8 c0_9 f0_9 c0_10 f0_10 c0_11 f0_11 c0_12 f0_12 c0_13 f0_13 c0_14 f0_14 c0_15 f0_15 c0_16 f0_16 c0_17 f0_17
          obtain ⟨c0_0, f0_0, c0_1, f0_1, c0_2, f0_2, c0_3, f0_3, c0_4, f0_4, c0_5, f0_5, c0_6, f0_6, c0_7, f0_7, c0_8, f0_8, c0_9, f0_9, c0_10, f0_10, c0_11, f0_11, c0_12, f0_12, c0_13, f0_13, c0_14, f0_14, c0_15, f0_15, c0_16, f0_16, c0_17, f0_17⟩ := cells18 h0
          try clear c1_0 f1_0 c1_1 f1_1
          obtain ⟨c1_0, f1_0, c1_1, f1_1⟩ := cells2 h1
          try clear c2_0 f2_0 c2_1 f2_1 c2_2 f2_2 c2_3 f2_3 c2_4 f2_4 c2_5 f2_5
          obtain ⟨c2_0, f2_0, c2_1, f2_1, c2_2, f2_2, c2_3, f2_3, c2_4, f2_4, c2_5, f2_5⟩ := cells6 h2
          try clear c3_0 f3_0 c3_1 f3_1
          obtain ⟨c3_0, f3_0, c3_1, f3_1⟩ := cells2 h3
          try clear c4_0 f4_0 c4_1 f4_1 c4_2 f4_2 c4_3 f4_3 c4_4 f4_4 c4_5 f4_5
          obtain ⟨c4_0, f4_0, c4_1, f4_1, c4_2, f4_2, c4_3, f4_3, c4_4, f4_4, c4_5, f4_5⟩ := cells6 h4
          try clear c5_0 f5_0 c5_1 f5_1 c5_2 f5_2 c5_3 f5_3 c5_4 f5_4 c5_5 f5_5
          obtain ⟨c5_0, f5_0, c5_1, f5_1, c5_2, f5_2, c5_3, f5_3, c5_4, f5_4, c5_5, f5_5⟩ := cells6 h5
          try clear c6_0 f6_0 c6_1 f6_1 c6_2 f6_2 c6_3 f6_3 c6_4 f6_4 c6_5 f6_5
          obtain ⟨c6_0, f6_0, c6_1, f6_1, c6_2, f6_2, c6_3, f6_3, c6_4, f6_4, c6_5, f6_5⟩ := cells6 h6
          try clear c7_0 f7_0 c7_1 f7_1 c7_2 f7_2 c7_3 f7_3 c7_4 f7_4 c7_5 f7_5
          obtain ⟨c7_0, f7_0, c7_1, f7_1, c7_2, f7_2, c7_3, f7_3, c7_4, f7_4, c7_5, f7_5⟩ := cells6 h7
          try clear c8_0 f8_0 c8_1 f8_1
          obtain ⟨c8_0, f8_0, c8_1, f8_1⟩ := cells2 h8
          try clear c9_0 f9_0 c9_1 f9_1
          obtain ⟨c9_0, f9_0, c9_1, f9_1⟩ := cells2 h9
          try clear c10_0 f10_0 c10_1 f10_1
          obtain ⟨c10_0, f10_0, c10_1, f10_1⟩ := cells2 h10
          clear ha9 ca9_0 fa9_0 ca9_1 fa9_1
          refine (H7.out _ (HG.out.next (Below.trans D18.out (by repeat (first | exact Below.refl _ _ | refine Below.alloc ?_ (by first | omega | (simp; omega) | (simp; done)) _))))).mono ?_
          rintro e w19 ⟨rfl, hb⟩
          replace h0 : w19.heap[w.heap.size]? = some (.cells #[.int .i64 l.m.a, .int .i64 l.m.b, .int .i64 l.m.c, .int .i64 l.m.d, .int .i64 l.t.x, .int .i64 l.t.y, .int .i64 m.m.a, .int .i64 m.m.b, .int .i64 m.m.c, .int .i64 m.m.d, .int .i64 m.t.x, .int .i64 m.t.y, .int .i64 n.m.a, .int .i64 n.m.b, .int .i64 n.m.c, .int .i64 n.m.d, .int .i64 n.t.x, .int .i64 n.t.y] 68 (0, 0)) := hb_below hb (by repeat (first | exact h0 | (refine hb_new ?_; (first | omega | (simp; omega) | (simp; done))) | (refine hb_old ?_ ?_; rotate_left; focus (first | omega | (simp; omega) | (simp; done))) | refine hb_drew ?_)) (by first | omega | (simp; omega) | (simp; done))
          replace h1 : w19.heap[w.heap.size + 1]? = some (.cells #[.int .i64 p.x, .int .i64 p.y] 25 (0, 0)) := hb_below hb (by repeat (first | exact h1 | (refine hb_new ?_; (first | omega | (simp; omega) | (simp; done))) | (refine hb_old ?_ ?_; rotate_left; focus (first | omega | (simp; omega) | (simp; done))) | refine hb_drew ?_)) (by first | omega | (simp; omega) | (simp; done))
          replace h2 : w19.heap[w1.heap.size]? = some (.cells #[.int .i64 v.m.a, .int .i64 v.m.b, .int .i64 v.m.c, .int .i64 v.m.d, .int .i64 v.t.x, .int .i64 v.t.y] 49 (0, 0)) := hb_below hb (by repeat (first | exact h2 | (refine hb_new ?_; (first | omega | (simp; omega) | (simp; done))) | (refine hb_old ?_ ?_; rotate_left; focus (first | omega | (simp; omega) | (simp; done))) | refine hb_drew ?_)) (by first | omega | (simp; omega) | (simp; done))
          replace h3 : w19.heap[w3.heap.size]? = some (.cells #[.int .i64 q.x, .int .i64 q.y] 25 (0, 0)) := hb_below hb (by repeat (first | exact h3 | (refine hb_new ?_; (first | omega | (simp; omega) | (simp; done))) | (refine hb_old ?_ ?_; rotate_left; focus (first | omega | (simp; omega) | (simp; done))) | refine hb_drew ?_)) (by first | omega | (simp; omega) | (simp; done))
          replace h4 : w19.heap[w5.heap.size]? = some (.cells #[.int .i64 a.m.a, .int .i64 a.m.b, .int .i64 a.m.c, .int .i64 a.m.d, .int .i64 a.t.x, .int .i64 a.t.y] 49 (0, 0)) := hb_below hb (by repeat (first | exact h4 | (refine hb_new ?_; (first | omega | (simp; omega) | (simp; done))) | (refine hb_old ?_ ?_; rotate_left; focus (first | omega | (simp; omega) | (simp; done))) | refine hb_drew ?_)) (by first | omega | (simp; omega) | (simp; done))
          replace h5 : w19.heap[w7.heap.size]? = some (.cells #[.int .i64 b.m.a, .int .i64 b.m.b, .int .i64 b.m.c, .int .i64 b.m.d, .int .i64 b.t.x, .int .i64 b.t.y] 49 (0, 0)) := hb_below hb (by repeat (first | exact h5 | (refine hb_new ?_; (first | omega | (simp; omega) | (simp; done))) | (refine hb_old ?_ ?_; rotate_left; focus (first | omega | (simp; omega) | (simp; done))) | refine hb_drew ?_)) (by first | omega | (simp; omega) | (simp; done))
          replace h6 : w19.heap[w9.heap.size]? = some (.cells #[.int .i64 cv.m.a, .int .i64 cv.m.b, .int .i64 cv.m.c, .int .i64 cv.m.d, .int .i64 cv.t.x, .int .i64 cv.t.y] 49 (0, 0)) := hb_below hb (by repeat (first | exact h6 | (refine hb_new ?_; (first | omega | (simp; omega) | (simp; done))) | (refine hb_old ?_ ?_; rotate_left; focus (first | omega | (simp; omega) | (simp; done))) | refine hb_drew ?_)) (by first | omega | (simp; omega) | (simp; done))
          replace h7 : w19.heap[w11.heap.size]? = some (.cells #[.int .i64 cv.m.a, .int .i64 cv.m.b, .int .i64 cv.m.c, .int .i64 cv.m.d, .int .i64 cv.t.x, .int .i64 cv.t.y] 49 (0, 0)) := hb_below hb (by repeat (first | exact h7 | (refine hb_new ?_; (first | omega | (simp; omega) | (simp; done))) | (refine hb_old ?_ ?_; rotate_left; focus (first | omega | (simp; omega) | (simp; done))) | refine hb_drew ?_)) (by first | omega | (simp; omega) | (simp; done))
          replace h8 : w19.heap[w13.heap.size]? = some (.cells #[.int .i64 s.x, .int .i64 s.y] 25 (0, 0)) := hb_below hb (by repeat (first | exact h8 | (refine hb_new ?_; (first | omega | (simp; omega) | (simp; done))) | (refine hb_old ?_ ?_; rotate_left; focus (first | omega | (simp; omega) | (simp; done))) | refine hb_drew ?_)) (by first | omega | (simp; omega) | (simp; done))
          replace h9 : w19.heap[w15.heap.size]? = some (.cells #[.int .i64 tv.x, .int .i64 tv.y] 25 (0, 0)) := hb_below hb (by repeat (first | exact h9 | (refine hb_new ?_; (first | omega | (simp; omega) | (simp; done))) | (refine hb_old ?_ ?_; rotate_left; focus (first | omega | (simp; omega) | (simp; done))) | refine hb_drew ?_)) (by first | omega | (simp; omega) | (simp; done))
          replace h10 : w19.heap[w17.heap.size]? = some (.cells #[.int .i64 tv.x, .int .i64 tv.y] 25 (0, 0)) := hb_below hb (by repeat (first | exact h10 | (refine hb_new ?_; (first | omega | (simp; omega) | (simp; done))) | (refine hb_old ?_ ?_; rotate_left; focus (first | omega | (simp; omega) | (simp; done))) | refine hb_drew ?_)) (by first | omega | (simp; omega) | (simp; done))
          have y19 := Below.size hb
          try simp only [World.size_alloc, World.size_drew] at y19
          have D19 := Lib.hid (show Below w.heap.size w w19 from Below.trans (by repeat (first | exact D18.out | exact Below.refl _ _ | refine Below.alloc ?_ (by first | omega | (simp; omega) | (simp; done)) _)) (Below.mono hb (by first | omega | (simp; omega) | (simp; done))))
          have z19 := D19.out.size
          clear hb
          try clear c0_0 f0_0 c0_1 f0_1 c0_2 f0_2 c0_3 f0_3 c0_4 f0_4 c0_5 f0_5 c0_6 f0_6 c0_7 f0_7 c0_8 f0_8 c0_9 f0_9 c0_10 f0_10 c0_11 f0_11 c0_12 f0_12 c0_13 f0_13 c0_14 f0_14 c0_15 f0_15 c0_16 f0_16 c0_17 f0_17
          obtain ⟨c0_0, f0_0, c0_1, f0_1, c0_2, f0_2, c0_3, f0_3, c0_4, f0_4, c0_5, f0_5, c0_6, f0_6, c0_7, f0_7, c0_8, f0_8, c0_9, f0_9, c0_10, f0_10, c0_11, f0_11, c0_12, f0_12, c0_13, f0_13, c0_14, f0_14, c0_15, f0_15, c0_16, f0_16, c0_17, f0_17⟩ := cells18 h0
          try clear c1_0 f1_0 c1_1 f1_1
          obtain ⟨c1_0, f1_0, c1_1, f1_1⟩ := cells2 h1
          try clear c2_0 f2_0 c2_1 f2_1 c2_2 f2_2 c2_3 f2_3 c2_4 f2_4 c2_5 f2_5
          obtain ⟨c2_0, f2_0, c2_1, f2_1, c2_2, f2_2, c2_3, f2_3, c2_4, f2_4, c2_5, f2_5⟩ := cells6 h2
          try clear c3_0 f3_0 c3_1 f3_1
          obtain ⟨c3_0, f3_0, c3_1, f3_1⟩ := cells2 h3
          try clear c4_0 f4_0 c4_1 f4_1 c4_2 f4_2 c4_3 f4_3 c4_4 f4_4 c4_5 f4_5
          obtain ⟨c4_0, f4_0, c4_1, f4_1, c4_2, f4_2, c4_3, f4_3, c4_4, f4_4, c4_5, f4_5⟩ := cells6 h4
          try clear c5_0 f5_0 c5_1 f5_1 c5_2 f5_2 c5_3 f5_3 c5_4 f5_4 c5_5 f5_5
          obtain ⟨c5_0, f5_0, c5_1, f5_1, c5_2, f5_2, c5_3, f5_3, c5_4, f5_4, c5_5, f5_5⟩ := cells6 h5
          try clear c6_0 f6_0 c6_1 f6_1 c6_2 f6_2 c6_3 f6_3 c6_4 f6_4 c6_5 f6_5
          obtain ⟨c6_0, f6_0, c6_1, f6_1, c6_2, f6_2, c6_3, f6_3, c6_4, f6_4, c6_5, f6_5⟩ := cells6 h6
          try clear c7_0 f7_0 c7_1 f7_1 c7_2 f7_2 c7_3 f7_3 c7_4 f7_4 c7_5 f7_5
          obtain ⟨c7_0, f7_0, c7_1, f7_1, c7_2, f7_2, c7_3, f7_3, c7_4, f7_4, c7_5, f7_5⟩ := cells6 h7
          try clear c8_0 f8_0 c8_1 f8_1
          obtain ⟨c8_0, f8_0, c8_1, f8_1⟩ := cells2 h8
          try clear c9_0 f9_0 c9_1 f9_1
          obtain ⟨c9_0, f9_0, c9_1, f9_1⟩ := cells2 h9
          try clear c10_0 f10_0 c10_1 f10_1
          obtain ⟨c10_0, f10_0, c10_1, f10_1⟩ := cells2 h10
          go_wp2_with fail
          go_ret
          exact ⟨by first | rfl | (simp [*]; done) | (simp; omega), D19.out⟩
        · have qs2 : (se != 0) = true := by simpa using qs
          refine (HA.out _).mono ?_
          rintro e w15 ⟨rfl, hb⟩
          replace h0 : w15.heap[w.heap.size]? = some (.cells #[.int .i64 l.m.a, .int .i64 l.m.b, .int .i64 l.m.c, .int .i64 l.m.d, .int .i64 l.t.x, .int .i64 l.t.y, .int .i64 m.m.a, .int .i64 m.m.b, .int .i64 m.m.c, .int .i64 m.m.d, .int .i64 m.t.x, .int .i64 m.t.y, .int .i64 n.m.a, .int .i64 n.m.b, .int .i64 n.m.c, .int .i64 n.m.d, .int .i64 n.t.x, .int .i64 n.t.y] 68 (0, 0)) := hb_below hb (by repeat (first | exact h0 | (refine hb_new ?_; (first | omega | (simp; omega) | (simp; done))) | (refine hb_old ?_ ?_; rotate_left; focus (first | omega | (simp; omega) | (simp; done))) | refine hb_drew ?_)) (by first | omega | (simp; omega) | (simp; done))
          replace h1 : w15.heap[w.heap.size + 1]? = some (.cells #[.int .i64 p.x, .int .i64 p.y] 25 (0, 0)) := hb_below hb (by repeat (first | exact h1 | (refine hb_new ?_; (first | omega | (simp; omega) | (simp; done))) | (refine hb_old ?_ ?_; rotate_left; focus (first | omega | (simp; omega) | (simp; done))) | refine hb_drew ?_)) (by first | omega | (simp; omega) | (simp; done))
          replace h2 : w15.heap[w1.heap.size]? = some (.cells #[.int .i64 v.m.a, .int .i64 v.m.b, .int .i64 v.m.c, .int .i64 v.m.d, .int .i64 v.t.x, .int .i64 v.t.y] 49 (0, 0)) := hb_below hb (by repeat (first | exact h2 | (refine hb_new ?_; (first | omega | (simp; omega) | (simp; done))) | (refine hb_old ?_ ?_; rotate_left; focus (first | omega | (simp; omega) | (simp; done))) | refine hb_drew ?_)) (by first | omega | (simp; omega) | (simp; done))
          replace h3 : w15.heap[w3.heap.size]? = some (.cells #[.int .i64 q.x, .int .i64 q.y] 25 (0, 0)) := hb_below hb (by repeat (first | exact h3 | (refine hb_new ?_; (first | omega | (simp; omega) | (simp; done))) | (refine hb_old ?_ ?_; rotate_left; focus (first | omega | (simp; omega) | (simp; done))) | refine hb_drew ?_)) (by first | omega | (simp; omega) | (simp; done))
          replace h4 : w15.heap[w5.heap.size]? = some (.cells #[.int .i64 a.m.a, .int .i64 a.m.b, .int .i64 a.m.c, .int .i64 a.m.d, .int .i64 a.t.x, .int .i64 a.t.y] 49 (0, 0)) := hb_below hb (by repeat (first | exact h4 | (refine hb_new ?_; (first | omega | (simp; omega) | (simp; done))) | (refine hb_old ?_ ?_; rotate_left; focus (first | omega | (simp; omega) | (simp; done))) | refine hb_drew ?_)) (by first | omega | (simp; omega) | (simp; done))
          replace h5 : w15.heap[w7.heap.size]? = some (.cells #[.int .i64 b.m.a, .int .i64 b.m.b, .int .i64 b.m.c, .int .i64 b.m.d, .int .i64 b.t.x, .int .i64 b.t.y] 49 (0, 0)) := hb_below hb (by repeat (first | exact h5 | (refine hb_new ?_; (first | omega | (simp; omega) | (simp; done))) | (refine hb_old ?_ ?_; rotate_left; focus (first | omega | (simp; omega) | (simp; done))) | refine hb_drew ?_)) (by first | omega | (simp; omega) | (simp; done))
          replace h6 : w15.heap[w9.heap.size]? = some (.cells #[.int .i64 cv.m.a, .int .i64 cv.m.b, .int .i64 cv.m.c, .int .i64 cv.m.d, .int .i64 cv.t.x, .int .i64 cv.t.y] 49 (0, 0)) := hb_below hb (by repeat (first | exact h6 | (refine hb_new ?_; (first | omega | (simp; omega) | (simp; done))) | (refine hb_old ?_ ?_; rotate_left; focus (first | omega | (simp; omega) | (simp; done))) | refine hb_drew ?_)) (by first | omega | (simp; omega) | (simp; done))
          replace h7 : w15.heap[w11.heap.size]? = some (.cells #[.int .i64 cv.m.a, .int .i64 cv.m.b, .int .i64 cv.m.c, .int .i64 cv.m.d, .int .i64 cv.t.x, .int .i64 cv.t.y] 49 (0, 0)) := hb_below hb (by repeat (first | exact h7 | (refine hb_new ?_; (first | omega | (simp; omega) | (simp; done))) | (refine hb_old ?_ ?_; rotate_left; focus (first | omega | (simp; omega) | (simp; done))) | refine hb_drew ?_)) (by first | omega | (simp; omega) | (simp; done))
          replace h8 : w15.heap[w13.heap.size]? = some (.cells #[.int .i64 s.x, .int .i64 s.y] 25 (0, 0)) := hb_below hb (by repeat (first | exact h8 | (refine hb_new ?_; (first | omega | (simp; omega) | (simp; done))) | (refine hb_old ?_ ?_; rotate_left; focus (first | omega | (simp; omega) | (simp; done))) | refine hb_drew ?_)) (by first | omega | (simp; omega) | (simp; done))
          have y15 := Below.size hb
          try simp only [World.size_alloc, World.size_drew] at y15
          have D15 := Lib.hid (show Below w.heap.size w w15 from Below.trans (by repeat (first | exact D14.out | exact Below.refl _ _ | refine Below.alloc ?_ (by first | omega | (simp; omega) | (simp; done)) _)) (Below.mono hb (by first | omega | (simp; omega) | (simp; done))))
          have z15 := D15.out.size
          clear hb
          try clear c0_0 f0_0 c0_1 f0_1 c0_2 f0_2 c0_3 f0_3 c0_4 f0_4 c0_5 f0_5 c0_6 f0_6 c0_7 f0_7 c0_8 f0_8 c0_9 f0_9 c0_10 f0_10 c0_11 f0_11 c0_12 f0_12 c0_13 f0_13 c0_14 f0_14 c0_15 f0_15 c0_16 f0_16 c0_17 f0_17
          obtain ⟨c0_0, f0_0, c0_1, f0_1, c0_2, f0_2, c0_3, f0_3, c0_4, f0_4, c0_5, f0_5, c0_6, f0_6, c0_7, f0_7, c0_8, f0_8, c0_9, f0_9, c0_10, f0_10, c0_11, f0_11, c0_12, f0_12, c0_13, f0_13, c0_14, f0_14, c0_15, f0_15, c0_16, f0_16, c0_17, f0_17⟩ := cells18 h0
          try clear c1_0 f1_0 c1_1 f1_1
          obtain ⟨c1_0, f1_0, c1_1, f1_1⟩ := cells2 h1
          try clear c2_0 f2_0 c2_1 f2_1 c2_2 f2_2 c2_3 f2_3 c2_4 f2_4 c2_5 f2_5
          obtain ⟨c2_0, f2_0, c2_1, f2_1, c2_2, f2_2, c2_3, f2_3, c2_4, f2_4, c2_5, f2_5⟩ := cells6 h2
          try clear c3_0 f3_0 c3_1 f3_1
          obtain ⟨c3_0, f3_0, c3_1, f3_1⟩ := cells2 h3
          try clear c4_0 f4_0 c4_1 f4_1 c4_2 f4_2 c4_3 f4_3 c4_4 f4_4 c4_5 f4_5
          obtain ⟨c4_0, f4_0, c4_1, f4_1, c4_2, f4_2, c4_3, f4_3, c4_4, f4_4, c4_5, f4_5⟩ := cells6 h4
          try clear c5_0 f5_0 c5_1 f5_1 c5_2 f5_2 c5_3 f5_3 c5_4 f5_4 c5_5 f5_5
          obtain ⟨c5_0, f5_0, c5_1, f5_1, c5_2, f5_2, c5_3, f5_3, c5_4, f5_4, c5_5, f5_5⟩ := cells6 h5
          try clear c6_0 f6_0 c6_1 f6_1 c6_2 f6_2 c6_3 f6_3 c6_4 f6_4 c6_5 f6_5
          obtain ⟨c6_0, f6_0, c6_1, f6_1, c6_2, f6_2, c6_3, f6_3, c6_4, f6_4, c6_5, f6_5⟩ := cells6 h6
          try clear c7_0 f7_0 c7_1 f7_1 c7_2 f7_2 c7_3 f7_3 c7_4 f7_4 c7_5 f7_5
          obtain ⟨c7_0, f7_0, c7_1, f7_1, c7_2, f7_2, c7_3, f7_3, c7_4, f7_4, c7_5, f7_5⟩ := cells6 h7
          try clear c8_0 f8_0 c8_1 f8_1
          obtain ⟨c8_0, f8_0, c8_1, f8_1⟩ := cells2 h8
          have ha1 : (w15.alloc (.cells #[.int .i64 tv.x, .int .i64 tv.y] 25)).heap[w.heap.size + 1]? = some (.cells #[.int .i64 p.x, .int .i64 p.y] 25 (0, 0)) := (by repeat (first | exact h1 | (refine hb_new ?_; (first | omega | (simp; omega) | (simp; done))) | (refine hb_old ?_ ?_; rotate_left; focus (first | omega | (simp; omega) | (simp; done))) | refine hb_drew ?_))
          obtain ⟨ca1_0, fa1_0, ca1_1, fa1_1⟩ := cells2 ha1
          have ha4 : (w15.alloc (.cells #[.int .i64 tv.x, .int .i64 tv.y] 25)).heap[w5.heap.size]? = some (.cells #[.int .i64 a.m.a, .int .i64 a.m.b, .int .i64 a.m.c, .int .i64 a.m.d, .int .i64 a.t.x, .int .i64 a.t.y] 49 (0, 0)) := (by repeat (first | exact h4 | (refine hb_new ?_; (first | omega | (simp; omega) | (simp; done))) | (refine hb_old ?_ ?_; rotate_left; focus (first | omega | (simp; omega) | (simp; done))) | refine hb_drew ?_))
          obtain ⟨ca4_0, fa4_0, ca4_1, fa4_1, ca4_2, fa4_2, ca4_3, fa4_3, ca4_4, fa4_4, ca4_5, fa4_5⟩ := cells6 ha4
          go_wp2_with fail
          obtain ⟨w16, hw16⟩ : ∃ W, W = (w15.alloc (.cells #[.int .i64 tv.x, .int .i64 tv.y] 25)) := ⟨_, rfl⟩
          rw [← hw16]
          replace h0 : w16.heap[w.heap.size]? = some (.cells #[.int .i64 l.m.a, .int .i64 l.m.b, .int .i64 l.m.c, .int .i64 l.m.d, .int .i64 l.t.x, .int .i64 l.t.y, .int .i64 m.m.a, .int .i64 m.m.b, .int .i64 m.m.c, .int .i64 m.m.d, .int .i64 m.t.x, .int .i64 m.t.y, .int .i64 n.m.a, .int .i64 n.m.b, .int .i64 n.m.c, .int .i64 n.m.d, .int .i64 n.t.x, .int .i64 n.t.y] 68 (0, 0)) := by rw [hw16]; exact (by repeat (first | exact h0 | (refine hb_new ?_; (first | omega | (simp; omega) | (simp; done))) | (refine hb_old ?_ ?_; rotate_left; focus (first | omega | (simp; omega) | (simp; done))) | refine hb_drew ?_))
          replace h1 : w16.heap[w.heap.size + 1]? = some (.cells #[.int .i64 p.x, .int .i64 p.y] 25 (0, 0)) := by rw [hw16]; exact (by repeat (first | exact h1 | (refine hb_new ?_; (first | omega | (simp; omega) | (simp; done))) | (refine hb_old ?_ ?_; rotate_left; focus (first | omega | (simp; omega) | (simp; done))) | refine hb_drew ?_))
          replace h2 : w16.heap[w1.heap.size]? = some (.cells #[.int .i64 v.m.a, .int .i64 v.m.b, .int .i64 v.m.c, .int .i64 v.m.d, .int .i64 v.t.x, .int .i64 v.t.y] 49 (0, 0)) := by rw [hw16]; exact (by repeat (first | exact h2 | (refine hb_new ?_; (first | omega | (simp; omega) | (simp; done))) | (refine hb_old ?_ ?_; rotate_left; focus (first | omega | (simp; omega) | (simp; done))) | refine hb_drew ?_))
          replace h3 : w16.heap[w3.heap.size]? = some (.cells #[.int .i64 q.x, .int .i64 q.y] 25 (0, 0)) := by rw [hw16]; exact (by repeat (first | exact h3 | (refine hb_new ?_; (first | omega | (simp; omega) | (simp; done))) | (refine hb_old ?_ ?_; rotate_left; focus (first | omega | (simp; omega) | (simp; done))) | refine hb_drew ?_))
          replace h4 : w16.heap[w5.heap.size]? = some (.cells #[.int .i64 a.m.a, .int .i64 a.m.b, .int .i64 a.m.c, .int .i64 a.m.d, .int .i64 a.t.x, .int .i64 a.t.y] 49 (0, 0)) := by rw [hw16]; exact (by repeat (first | exact h4 | (refine hb_new ?_; (first | omega | (simp; omega) | (simp; done))) | (refine hb_old ?_ ?_; rotate_left; focus (first | omega | (simp; omega) | (simp; done))) | refine hb_drew ?_))
          replace h5 : w16.heap[w7.heap.size]? = some (.cells #[.int .i64 b.m.a, .int .i64 b.m.b, .int .i64 b.m.c, .int .i64 b.m.d, .int .i64 b.t.x, .int .i64 b.t.y] 49 (0, 0)) := by rw [hw16]; exact (by repeat (first | exact h5 | (refine hb_new ?_; (first | omega | (simp; omega) | (simp; done))) | (refine hb_old ?_ ?_; rotate_left; focus (first | omega | (simp; omega) | (simp; done))) | refine hb_drew ?_))
          replace h6 : w16.heap[w9.heap.size]? = some (.cells #[.int .i64 cv.m.a, .int .i64 cv.m.b, .int .i64 cv.m.c, .int .i64 cv.m.d, .int .i64 cv.t.x, .int .i64 cv.t.y] 49 (0, 0)) := by rw [hw16]; exact (by repeat (first | exact h6 | (refine hb_new ?_; (first | omega | (simp; omega) | (simp; done))) | (refine hb_old ?_ ?_; rotate_left; focus (first | omega | (simp; omega) | (simp; done))) | refine hb_drew ?_))
          replace h7 : w16.heap[w11.heap.size]? = some (.cells #[.int .i64 cv.m.a, .int .i64 cv.m.b, .int .i64 cv.m.c, .int .i64 cv.m.d, .int .i64 cv.t.x, .int .i64 cv.t.y] 49 (0, 0)) := by rw [hw16]; exact (by repeat (first | exact h7 | (refine hb_new ?_; (first | omega | (simp; omega) | (simp; done))) | (refine hb_old ?_ ?_; rotate_left; focus (first | omega | (simp; omega) | (simp; done))) | refine hb_drew ?_))
          replace h8 : w16.heap[w13.heap.size]? = some (.cells #[.int .i64 s.x, .int .i64 s.y] 25 (0, 0)) := by rw [hw16]; exact (by repeat (first | exact h8 | (refine hb_new ?_; (first | omega | (simp; omega) | (simp; done))) | (refine hb_old ?_ ?_; rotate_left; focus (first | omega | (simp; omega) | (simp; done))) | refine hb_drew ?_))
          have h9 : w16.heap[w15.heap.size]? = some (.cells #[.int .i64 tv.x, .int .i64 tv.y] 25 (0, 0)) := by rw [hw16]; exact (by repeat (first | (refine hb_new ?_; (first | omega | (simp; omega) | (simp; done))) | (refine hb_old ?_ ?_; rotate_left; focus (first | omega | (simp; omega) | (simp; done))) | refine hb_drew ?_))
          have hb : Below w15.heap.size w15 w16 := by rw [hw16]; exact (by repeat (first | exact Below.refl _ _ | refine Below.alloc ?_ (by first | omega | (simp; omega) | (simp; done)) _ | refine Below.drew ?_))
          have s16 : w15.heap.size + 1 ≤ w16.heap.size := by rw [hw16]; simp
          have y16 := Below.size hb
          try simp only [World.size_alloc, World.size_drew] at y16
          have D16 := Lib.hid (show Below w.heap.size w w16 from Below.trans (by repeat (first | exact D15.out | exact Below.refl _ _ | refine Below.alloc ?_ (by first | omega | (simp; omega) | (simp; done)) _)) (Below.mono hb (by first | omega | (simp; omega) | (simp; done))))
          have z16 := D16.out.size
          clear hb hw16
          try clear c0_0 f0_0 c0_1 f0_1 c0_2 f0_2 c0_3 f0_3 c0_4 f0_4 c0_5 f0_5 c0_6 f0_6 c0_7 f0_7 c0_8 f0_8 c0_9 f0_9 c0_10 f0_10 c0_11 f0_11 c0_12 f0_12 c0_13 f0_13 c0_14 f0_14 c0_15 f0_15 c0_16 f0_16 c0_17 f0_17
          obtain ⟨c0_0, f0_0, c0_1, f0_1, c0_2, f0_2, c0_3, f0_3, c0_4, f0_4, c0_5, f0_5, c0_6, f0_6, c0_7, f0_7, c0_8, f0_8, c0_9, f0_9, c0_10, f0_10, c0_11, f0_11, c0_12, f0_12, c0_13, f0_13, c0_14, f0_14, c0_15, f0_15, c0_16, f0_16, c0_17, f0_17⟩ := cells18 h0
          try clear c1_0 f1_0 c1_1 f1_1
          obtain ⟨c1_0, f1_0, c1_1, f1_1⟩ := cells2 h1
          try clear c2_0 f2_0 c2_1 f2_1 c2_2 f2_2 c2_3 f2_3 c2_4 f2_4 c2_5 f2_5
          obtain ⟨c2_0, f2_0, c2_1, f2_1, c2_2, f2_2, c2_3, f2_3, c2_4, f2_4, c2_5, f2_5⟩ := cells6 h2
          try clear c3_0 f3_0 c3_1 f3_1
          obtain ⟨c3_0, f3_0, c3_1, f3_1⟩ := cells2 h3
          try clear c4_0 f4_0 c4_1 f4_1 c4_2 f4_2 c4_3 f4_3 c4_4 f4_4 c4_5 f4_5
          obtain ⟨c4_0, f4_0, c4_1, f4_1, c4_2, f4_2, c4_3, f4_3, c4_4, f4_4, c4_5, f4_5⟩ := cells6 h4
          try clear c5_0 f5_0 c5_1 f5_1 c5_2 f5_2 c5_3 f5_3 c5_4 f5_4 c5_5 f5_5
          obtain ⟨c5_0, f5_0, c5_1, f5_1, c5_2, f5_2, c5_3, f5_3, c5_4, f5_4, c5_5, f5_5⟩ := cells6 h5
          try clear c6_0 f6_0 c6_1 f6_1 c6_2 f6_2 c6_3 f6_3 c6_4 f6_4 c6_5 f6_5
          obtain ⟨c6_0, f6_0, c6_1, f6_1, c6_2, f6_2, c6_3, f6_3, c6_4, f6_4, c6_5, f6_5⟩ := cells6 h6
          try clear c7_0 f7_0 c7_1 f7_1 c7_2 f7_2 c7_3 f7_3 c7_4 f7_4 c7_5 f7_5
          obtain ⟨c7_0, f7_0, c7_1, f7_1, c7_2, f7_2, c7_3, f7_3, c7_4, f7_4, c7_5, f7_5⟩ := cells6 h7
          try clear c8_0 f8_0 c8_1 f8_1
          obtain ⟨c8_0, f8_0, c8_1, f8_1⟩ := cells2 h8
          try clear c9_0 f9_0 c9_1 f9_1
          obtain ⟨c9_0, f9_0, c9_1, f9_1⟩ := cells2 h9
          clear ha1 ca1_0 fa1_0 ca1_1 fa1_1
          clear ha4 ca4_0 fa4_0 ca4_1 fa4_1 ca4_2 fa4_2 ca4_3 fa4_3 ca4_4 fa4_4 ca4_5 fa4_5
          refine (HB.out _).mono ?_
          rintro e w17 ⟨rfl, hb⟩
          replace h0 : w17.heap[w.heap.size]? = some (.cells #[.int .i64 l.m.a, .int .i64 l.m.b, .int .i64 l.m.c, .int .i64 l.m.d, .int .i64 l.t.x, .int .i64 l.t.y, .int .i64 m.m.a, .int .i64 m.m.b, .int .i64 m.m.c, .int .i64 m.m.d, .int .i64 m.t.x, .int .i64 m.t.y, .int .i64 n.m.a, .int .i64 n.m.b, .int .i64 n.m.c, .int .i64 n.m.d, .int .i64 n.t.x, .int .i64 n.t.y] 68 (0, 0)) := hb_below hb (by repeat (first | exact h0 | (refine hb_new ?_; (first | omega | (simp; omega) | (simp; done))) | (refine hb_old ?_ ?_; rotate_left; focus (first | omega | (simp; omega) | (simp; done))) | refine hb_drew ?_)) (by first | omega | (simp; omega) | (simp; done))
          replace h1 : w17.heap[w.heap.size + 1]? = some (.cells #[.int .i64 p.x, .int .i64 p.y] 25 (0, 0)) := hb_below hb (by repeat (first | exact h1 | (refine hb_new ?_; (first | omega | (simp; omega) | (simp; done))) | (refine hb_old ?_ ?_; rotate_left; focus (first | omega | (simp; omega) | (simp; done))) | refine hb_drew ?_)) (by first | omega | (simp; omega) | (simp; done))
          replace h2 : w17.heap[w1.heap.size]? = some (.cells #[.int .i64 v.m.a, .int .i64 v.m.b, .int .i64 v.m.c, .int .i64 v.m.d, .int .i64 v.t.x, .int .i64 v.t.y] 49 (0, 0)) := hb_below hb (by repeat (first | exact h2 | (refine hb_new ?_; (first | omega | (simp; omega) | (simp; done))) | (refine hb_old ?_ ?_; rotate_left; focus (first | omega | (simp; omega) | (simp; done))) | refine hb_drew ?_)) (by first | omega | (simp; omega) | (simp; done))
          replace h3 : w17.heap[w3.heap.size]? = some (.cells #[.int .i64 q.x, .int .i64 q.y] 25 (0, 0)) := hb_below hb (by repeat (first | exact h3 | (refine hb_new ?_; (first | omega | (simp; omega) | (simp; done))) | (refine hb_old ?_ ?_; rotate_left; focus (first | omega | (simp; omega) | (simp; done))) | refine hb_drew ?_)) (by first | omega | (simp; omega) | (simp; done))
          replace h4 : w17.heap[w5.heap.size]? = some (.cells #[.int .i64 a.m.a, .int .i64 a.m.b, .int .i64 a.m.c, .int .i64 a.m.d, .int .i64 a.t.x, .int .i64 a.t.y] 49 (0, 0)) := hb_below hb (by repeat (first | exact h4 | (refine hb_new ?_; (first | omega | (simp; omega) | (simp; done))) | (refine hb_old ?_ ?_; rotate_left; focus (first | omega | (simp; omega) | (simp; done))) | refine hb_drew ?_)) (by first | omega | (simp; omega) | (simp; done))
          replace h5 : w17.heap[w7.heap.size]? = some (.cells #[.int .i64 b.m.a, .int .i64 b.m.b, .int .i64 b.m.c, .int .i64 b.m.d, .int .i64 b.t.x, .int .i64 b.t.y] 49 (0, 0)) := hb_below hb (by repeat (first | exact h5 | (refine hb_new ?_; (first | omega | (simp; omega) | (simp; done))) | (refine hb_old ?_ ?_; rotate_left; focus (first | omega | (simp; omega) | (simp; done))) | refine hb_drew ?_)) (by first | omega | (simp; omega) | (simp; done))
          replace h6 : w17.heap[w9.heap.size]? = some (.cells #[.int .i64 cv.m.a, .int .i64 cv.m.b, .int .i64 cv.m.c, .int .i64 cv.m.d, .int .i64 cv.t.x, .int .i64 cv.t.y] 49 (0, 0)) := hb_below hb (by repeat (first | exact h6 | (refine hb_new ?_; (first | omega | (simp; omega) | (simp; done))) | (refine hb_old ?_ ?_; rotate_left; focus (first | omega | (simp; omega) | (simp; done))) | refine hb_drew ?_)) (by first | omega | (simp; omega) | (simp; done))
          replace h7 : w17.heap[w11.heap.size]? = some (.cells #[.int .i64 cv.m.a, .int .i64 cv.m.b, .int .i64 cv.m.c, .int .i64 cv.m.d, .int .i64 cv.t.x, .int .i64 cv.t.y] 49 (0, 0)) := hb_below hb (by repeat (first | exact h7 | (refine hb_new ?_; (first | omega | (simp; omega) | (simp; done))) | (refine hb_old ?_ ?_; rotate_left; focus (first | omega | (simp; omega) | (simp; done))) | refine hb_drew ?_)) (by first | omega | (simp; omega) | (simp; done))
          replace h8 : w17.heap[w13.heap.size]? = some (.cells #[.int .i64 s.x, .int .i64 s.y] 25 (0, 0)) := hb_below hb (by repeat (first | exact h8 | (refine hb_new ?_; (first | omega | (simp; omega) | (simp; done))) | (refine hb_old ?_ ?_; rotate_left; focus (first | omega | (simp; omega) | (simp; done))) | refine hb_drew ?_)) (by first | omega | (simp; omega) | (simp; done))
          replace h9 : w17.heap[w15.heap.size]? = some (.cells #[.int .i64 tv.x, .int .i64 tv.y] 25 (0, 0)) := hb_below hb (by repeat (first | exact h9 | (refine hb_new ?_; (first | omega | (simp; omega) | (simp; done))) | (refine hb_old ?_ ?_; rotate_left; focus (first | omega | (simp; omega) | (simp; done))) | refine hb_drew ?_)) (by first | omega | (simp; omega) | (simp; done))
          have y17 := Below.size hb
          try simp only [World.size_alloc, World.size_drew] at y17
          have D17 := Lib.hid (show Below w.heap.size w w17 from Below.trans (by repeat (first | exact D16.out | exact Below.refl _ _ | refine Below.alloc ?_ (by first | omega | (simp; omega) | (simp; done)) _)) (Below.mono hb (by first | omega | (simp; omega) | (simp; done))))
          have z17 := D17.out.size
          clear hb
          try clear c0_0 f0_0 c0_1 f0_1 c0_2 f0_2 c0_3 f0_3 c0_4 f0_4 c0_5 f0_5 c0_6 f0_6 c0_7 f0_7 c0_8 f0_8 c0_9 f0_9 c0_10 f0_10 c0_11 f0_11 c0_12 f0_12 c0_13 f0_13 c0_14 f0_14 c0_15 f0_15 c0_16 f0_16 c0_17 f0_17
          obtain ⟨c0_0, f0_0, c0_1, f0_1, c0_2, f0_2, c0_3, f0_3, c0_4, f0_4, c0_5, f0_5, c0_6, f0_6, c0_7, f0_7, c0_8, f0_8, c0_9, f0_9, c0_10, f0_10, c0_11, f0_11, c0_12, f0_12, c0_13, f0_13, c0_14, f0_14, c0_15, f0_15, c0_16, f0_16, c0_17, f0_17⟩ := cells18 h0
          try clear c1_0 f1_0 c1_1 f1_1
          obtain ⟨c1_0, f1_0, c1_1, f1_1⟩ := cells2 h1
          try clear c2_0 f2_0 c2_1 f2_1 c2_2 f2_2 c2_3 f2_3 c2_4 f2_4 c2_5 f2_5
          obtain ⟨c2_0, f2_0, c2_1, f2_1, c2_2, f2_2, c2_3, f2_3, c2_4, f2_4, c2_5, f2_5⟩ := cells6 h2
          try clear c3_0 f3_0 c3_1 f3_1
          obtain ⟨c3_0, f3_0, c3_1, f3_1⟩ := cells2 h3
          try clear c4_0 f4_0 c4_1 f4_1 c4_2 f4_2 c4_3 f4_3 c4_4 f4_4 c4_5 f4_5
          obtain ⟨c4_0, f4_0, c4_1, f4_1, c4_2, f4_2, c4_3, f4_3, c4_4, f4_4, c4_5, f4_5⟩ := cells6 h4
          try clear c5_0 f5_0 c5_1 f5_1 c5_2 f5_2 c5_3 f5_3 c5_4 f5_4 c5_5 f5_5
          obtain ⟨c5_0, f5_0, c5_1, f5_1, c5_2, f5_2, c5_3, f5_3, c5_4, f5_4, c5_5, f5_5⟩ := cells6 h5
          try clear c6_0 f6_0 c6_1 f6_1 c6_2 f6_2 c6_3 f6_3 c6_4 f6_4 c6_5 f6_5
          obtain ⟨c6_0, f6_0, c6_1, f6_1, c6_2, f6_2, c6_3, f6_3, c6_4, f6_4, c6_5, f6_5⟩ := cells6 h6
          try clear c7_0 f7_0 c7_1 f7_1 c7_2 f7_2 c7_3 f7_3 c7_4 f7_4 c7_5 f7_5
          obtain ⟨c7_0, f7_0, c7_1, f7_1, c7_2, f7_2, c7_3, f7_3, c7_4, f7_4, c7_5, f7_5⟩ := cells6 h7
          try clear c8_0 f8_0 c8_1 f8_1
          obtain ⟨c8_0, f8_0, c8_1, f8_1⟩ := cells2 h8
          try clear c9_0 f9_0 c9_1 f9_1
          obtain ⟨c9_0, f9_0, c9_1, f9_1⟩ := cells2 h9
          have ha9 : (w17.alloc (.cells #[.int .i64 uv.x, .int .i64 uv.y] 25)).heap[w15.heap.size]? = some (.cells #[.int .i64 tv.x, .int .i64 tv.y] 25 (0, 0)) := (by repeat (first | exact h9 | (refine hb_new ?_; (first | omega | (simp; omega) | (simp; done))) | (refine hb_old ?_ ?_; rotate_left; focus (first | omega | (simp; omega) | (simp; done))) | refine hb_drew ?_))
          obtain ⟨ca9_0, fa9_0, ca9_1, fa9_1⟩ := cells2 ha9
          go_wp2_with fail
          obtain ⟨w18, hw18⟩ : ∃ W, W = (w17.alloc (.cells #[.int .i64 uv.x, .int .i64 uv.y] 25)) := ⟨_, rfl⟩
          rw [← hw18]
          replace h0 : w18.heap[w.heap.size]? = some (.cells #[.int .i64 l.m.a, .int .i64 l.m.b, .int .i64 l.m.c, .int .i64 l.m.d, .int .i64 l.t.x, .int .i64 l.t.y, .int .i64 m.m.a, .int .i64 m.m.b, .int .i64 m.m.c, .int .i64 m.m.d, .int .i64 m.t.x, .int .i64 m.t.y, .int .i64 n.m.a, .int .i64 n.m.b, .int .i64 n.m.c, .int .i64 n.m.d, .int .i64 n.t.x, .int .i64 n.t.y] 68 (0, 0)) := by rw [hw18]; exact (by repeat (first | exact h0 | (refine hb_new ?_; (first | omega | (simp; omega) | (simp; done))) | (refine hb_old ?_ ?_; rotate_left; focus (first | omega | (simp; omega) | (simp; done))) | refine hb_drew ?_))
          replace h1 : w18.heap[w.heap.size + 1]? = some (.cells #[.int .i64 p.x, .int .i64 p.y] 25 (0, 0)) := by rw [hw18]; exact (by repeat (first | exact h1 | (refine hb_new ?_; (first | omega | (simp; omega) | (simp; done))) | (refine hb_old ?_ ?_; rotate_left; focus (first | omega | (simp; omega) | (simp; done))) | refine hb_drew ?_))
          replace h2 : w18.heap[w1.heap.size]? = some (.cells #[.int .i64 v.m.a, .int .i64 v.m.b, .int .i64 v.m.c, .int .i64 v.m.d, .int .i64 v.t.x, .int .i64 v.t.y] 49 (0, 0)) := by rw [hw18]; exact (by repeat (first | exact h2 | (refine hb_new ?_; (first | omega | (simp; omega) | (simp; done))) | (refine hb_old ?_ ?_; rotate_left; focus (first | omega | (simp; omega) | (simp; done))) | refine hb_drew ?_))
          replace h3 : w18.heap[w3.heap.size]? = some (.cells #[.int .i64 q.x, .int .i64 q.y] 25 (0, 0)) := by rw [hw18]; exact (by repeat (first | exact h3 | (refine hb_new ?_; (first | omega | (simp; omega) | (simp; done))) | (refine hb_old ?_ ?_; rotate_left; focus (first | omega | (simp; omega) | (simp; done))) | refine hb_drew ?_))
          replace h4 : w18.heap[w5.heap.size]? = some (.cells #[.int .i64 a.m.a, .int .i64 a.m.b, .int .i64 a.m.c, .int .i64 a.m.d, .int .i64 a.t.x, .int .i64 a.t.y] 49 (0, 0)) := by rw [hw18]; exact (by repeat (first | exact h4 | (refine hb_new ?_; (first | omega | (simp; omega) | (simp; done))) | (refine hb_old ?_ ?_; rotate_left; focus (first | omega | (simp; omega) | (simp; done))) | refine hb_drew ?_))
          replace h5 : w18.heap[w7.heap.size]? = some (.cells #[.int .i64 b.m.a, .int .i64 b.m.b, .int .i64 b.m.c, .int .i64 b.m.d, .int .i64 b.t.x, .int .i64 b.t.y] 49 (0, 0)) := by rw [hw18]; exact (by repeat (first | exact h5 | (refine hb_new ?_; (first | omega | (simp; omega) | (simp; done))) | (refine hb_old ?_ ?_; rotate_left; focus (first | omega | (simp; omega) | (simp; done))) | refine hb_drew ?_))
          replace h6 : w18.heap[w9.heap.size]? = some (.cells #[.int .i64 cv.m.a, .int .i64 cv.m.b, .int .i64 cv.m.c, .int .i64 cv.m.d, .int .i64 cv.t.x, .int .i64 cv.t.y] 49 (0, 0)) := by rw [hw18]; exact (by repeat (first | exact h6 | (refine hb_new ?_; (first | omega | (simp; omega) | (simp; done))) | (refine hb_old ?_ ?_; rotate_left; focus (first | omega | (simp; omega) | (simp; done))) | refine hb_drew ?_))
          replace h7 : w18.heap[w11.heap.size]? = some (.cells #[.int .i64 cv.m.a, .int .i64 cv.m.b, .int .i64 cv.m.c, .int .i64 cv.m.d, .int .i64 cv.t.x, .int .i64 cv.t.y] 49 (0, 0)) := by rw [hw18]; exact (by repeat (first | exact h7 | (refine hb_new ?_; (first | omega | (simp; omega) | (simp; done))) | (refine hb_old ?_ ?_; rotate_left; focus (first | omega | (simp; omega) | (simp; done))) | refine hb_drew ?_))
          replace h8 : w18.heap[w13.heap.size]? = some (.cells #[.int .i64 s.x, .int .i64 s.y] 25 (0, 0)) := by rw [hw18]; exact (by repeat (first | exact h8 | (refine hb_new ?_; (first | omega | (simp; omega) | (simp; done))) | (refine hb_old ?_ ?_; rotate_left; focus (first | omega | (simp; omega) | (simp; done))) | refine hb_drew ?_))
          replace h9 : w18.heap[w15.heap.size]? = some (.cells #[.int .i64 tv.x, .int .i64 tv.y] 25 (0, 0)) := by rw [hw18]; exact (by repeat (first | exact h9 | (refine hb_new ?_; (first | omega | (simp; omega) | (simp; done))) | (refine hb_old ?_ ?_; rotate_left; focus (first | omega | (simp; omega) | (simp; done))) | refine hb_drew ?_))
          have h10 : w18.heap[w17.heap.size]? = some (.cells #[.int .i64 uv.x, .int .i64 uv.y] 25 (0, 0)) := by rw [hw18]; exact (by repeat (first | (refine hb_new ?_; (first | omega | (simp; omega) | (simp; done))) | (refine hb_old ?_ ?_; rotate_left; focus (first | omega | (simp; omega) | (simp; done))) | refine hb_drew ?_))
          have hb : Below w17.heap.size w17 w18 := by rw [hw18]; exact (by repeat (first | exact Below.refl _ _ | refine Below.alloc ?_ (by first | omega | (simp; omega) | (simp; done)) _ | refine Below.drew ?_))
          have s18 : w17.heap.size + 1 ≤ w18.heap.size := by rw [hw18]; simp
          have y18 := Below.size hb
          try simp only [World.size_alloc, World.size_drew] at y18
          have D18 := Lib.hid (show Below w.heap.size w w18 from Below.trans (by repeat (first | exact D17.out | exact Below.refl _ _ | refine Below.alloc ?_ (by first | omega | (simp; omega) | (simp; done)) _)) (Below.mono hb (by first | omega | (simp; omega) | (simp; done))))
          have z18 := D18.out.size
          clear hb hw18
          try clear c0_0 f0_0 c0_1 f0_1 c0_2 f0_2 c0_3 f0_3 c0_4 f0_4 c0_5 f0_5 c0_6 f0_6 c0_7 f0_7 c0_8 f0_8 c0_9 f0_9 c0_10 f0_10 c0_11 f0_11 c0_12 f0_12 c0_13 f0_13 c0_14 f0_14 c0_15 f0_15 c0_16 f0_16 c0_17 f0_17
          obtain ⟨c0_0, f0_0, c0_1, f0_1, c0_2, f0_2, c0_3, f0_3, c0_4, f0_4, c0_5, f0_5, c0_6, f0_6, c0_7, f0_7, c0_8, f0_8, c0_9, f0_9, c0_10, f0_10, c0_11, f0_11, c0_12, f0_12, c0_13, f0_13, c0_14, f0_14, c0_15, f0_15, c0_16, f0_16, c0_17, f0_17⟩ := cells18 h0
          try clear c1_0 f1_0 c1_1 f1_1
          obtain ⟨c1_0, f1_0, c1_1, f1_1⟩ := cells2 h1
          try clear c2_0 f2_0 c2_1 f2_1 c2_2 f2_2 c2_3 f2_3 c2_4 f2_4 c2_5 f2_5
          obtain ⟨c2_0, f2_0, c2_1, f2_1, c2_2, f2_2, c2_3, f2_3, c2_4, f2_4, c2_5, f2_5⟩ := cells6 h2
          try clear c3_0 f3_0 c3_1 f3_1
          obtain ⟨c3_0, f3_0, c3_1, f3_1⟩ := cells2 h3
          try clear c4_0 f4_0 c4_1 f4_1 c4_2 f4_2 c4_3 f4_3 c4_4 f4_4 c4_5 f4_5
          obtain ⟨c4_0, f4_0, c4_1, f4_1, c4_2, f4_2, c4_3, f4_3, c4_4, f4_4, c4_5, f4_5⟩ := cells6 h4
          try clear c5_0 f5_0 c5_1 f5_1 c5_2 f5_2 c5_3 f5_3 c5_4 f5_4 c5_5 f5_5
          obtain ⟨c5_0, f5_0, c5_1, f5_1, c5_2, f5_2, c5_3, f5_3, c5_4, f5_4, c5_5, f5_5⟩ := cells6 h5
          try clear c6_0 f6_0 c6_1 f6_1 c6_2 f6_2 c6_3 f6_3 c6_4 f6_4 c6_5 f6_5
          obtain ⟨c6_0, f6_0, c6_1, f6_1, c6_2, f6_2, c6_3, f6_3, c6_4, f6_4, c6_5, f6_5⟩ := cells6 h6
          try clear c7_0 f7_0 c7_1 f7_1 c7_2 f7_2 c7_3 f7_3 c7_4 f7_4 c7_5 f7_5
          obtain ⟨c7_0, f7_0, c7_1, f7_1, c7_2, f7_2, c7_3, f7_3, c7_4, f7_4, c7_5, f7_5⟩ := cells6 h7
          try clear c8_0 f8_0 c8_1 f8_1
          obtain ⟨c8_0, f8_0, c8_1, f8_1⟩ := cells2 h8
          try clear c9_0 f9_0 c9_1 f9_1
          obtain ⟨c9_0, f9_0, c9_1, f9_1⟩ := cells2 h9
          try clear c10_0 f10_0 c10_1 f10_1
          obtain ⟨c10_0, f10_0, c10_1, f10_1⟩ := cells2 h10
          clear ha9 ca9_0 fa9_0 ca9_1 fa9_1
          refine (H7.out _ (HG.out.next (Below.trans D18.out (by repeat (first | exact Below.refl _ _ | refine Below.alloc ?_ (by first | omega | (simp; omega) | (simp; done)) _))))).mono ?_
          rintro e w19 ⟨rfl, hb⟩
          replace h0 : w19.heap[w.heap.size]? = some (.cells #[.int .i64 l.m.a, .int .i64 l.m.b, .int .i64 l.m.c, .int .i64 l.m.d, .int .i64 l.t.x, .int .i64 l.t.y, .int .i64 m.m.a, .int .i64 m.m.b, .int .i64 m.m.c, .int .i64 m.m.d, .int .i64 m.t.x, .int .i64 m.t.y, .int .i64 n.m.a, .int .i64 n.m.b, .int .i64 n.m.c, .int .i64 n.m.d, .int .i64 n.t.x, .int .i64 n.t.y] 68 (0, 0)) := hb_below hb (by repeat (first | exact h0 | (refine hb_new ?_; (first | omega | (simp; omega) | (simp; done))) | (refine hb_old ?_ ?_; rotate_left; focus (first | omega | (simp; omega) | (simp; done))) | refine hb_drew ?_)) (by first | omega | (simp; omega) | (simp; done))
          replace h1 : w19.heap[w.heap.size + 1]? = some (.cells #[.int .i64 p.x, .int .i64 p.y] 25 (0, 0)) := hb_below hb (by repeat (first | exact h1 | (refine hb_new ?_; (first | omega | (simp; omega) | (simp; done))) | (refine hb_old ?_ ?_; rotate_left; focus (first | omega | (simp; omega) | (simp; done))) | refine hb_drew ?_)) (by first | omega | (simp; omega) | (simp; done))
          replace h2 : w19.heap[w1.heap.size]? = some (.cells #[.int .i64 v.m.a, .int .i64 v.m.b, .int .i64 v.m.c, .int .i64 v.m.d, .int .i64 v.t.x, .int .i64 v.t.y] 49 (0, 0)) := hb_below hb (by repeat (first | exact h2 | (refine hb_new ?_; (first | omega | (simp; omega) | (simp; done))) | (refine hb_old ?_ ?_; rotate_left; focus (first | omega | (simp; omega) | (simp; done))) | refine hb_drew ?_)) (by first | omega | (simp; omega) | (simp; done))
          replace h3 : w19.heap[w3.heap.size]? = some (.cells #[.int .i64 q.x, .int .i64 q.y] 25 (0, 0)) := hb_below hb (by repeat (first | exact h3 | (refine hb_new ?_; (first | omega | (simp; omega) | (simp; done))) | (refine hb_old ?_ ?_; rotate_left; focus (first | omega | (simp; omega) | (simp; done))) | refine hb_drew ?_)) (by first | omega | (simp; omega) | (simp; done))
          replace h4 : w19.heap[w5.heap.size]? = some (.cells #[.int .i64 a.m.a, .int .i64 a.m.b, .int .i64 a.m.c, .int .i64 a.m.d, .int .i64 a.t.x, .int .i64 a.t.y] 49 (0, 0)) := hb_below hb (by repeat (first | exact h4 | (refine hb_new ?_; (first | omega | (simp; omega) | (simp; done))) | (refine hb_old ?_ ?_; rotate_left; focus (first | omega | (simp; omega) | (simp; done))) | refine hb_drew ?_)) (by first | omega | (simp; omega) | (simp; done))
          replace h5 : w19.heap[w7.heap.size]? = some (.cells #[.int .i64 b.m.a, .int .i64 b.m.b, .int .i64 b.m.c, .int .i64 b.m.d, .int .i64 b.t.x, .int .i64 b.t.y] 49 (0, 0)) := hb_below hb (by repeat (first | exact h5 | (refine hb_new ?_; (first | omega | (simp; omega) | (simp; done))) | (refine hb_old ?_ ?_; rotate_left; focus (first | omega | (simp; omega) | (simp; done))) | refine hb_drew ?_)) (by first | omega | (simp; omega) | (simp; done))
          replace h6 : w19.heap[w9.heap.size]? = some (.cells #[.int .i64 cv.m.a, .int .i64 cv.m.b, .int .i64 cv.m.c, .int .i64 cv.m.d, .int .i64 cv.t.x, .int .i64 cv.t.y] 49 (0, 0)) := hb_below hb (by repeat (first | exact h6 | (refine hb_new ?_; (first | omega | (simp; omega) | (simp; done))) | (refine hb_old ?_ ?_; rotate_left; focus (first | omega | (simp; omega) | (simp; done))) | refine hb_drew ?_)) (by first | omega | (simp; omega) | (simp; done))
          replace h7 : w19.heap[w11.heap.size]? = some (.cells #[.int .i64 cv.m.a, .int .i64 cv.m.b, .int .i64 cv.m.c, .int .i64 cv.m.d, .int .i64 cv.t.x, .int .i64 cv.t.y] 49 (0, 0)) := hb_below hb (by repeat (first | exact h7 | (refine hb_new ?_; (first | omega | (simp; omega) | (simp; done))) | (refine hb_old ?_ ?_; rotate_left; focus (first | omega | (simp; omega) | (simp; done))) | refine hb_drew ?_)) (by first | omega | (simp; omega) | (simp; done))
          replace h8 : w19.heap[w13.heap.size]? = some (.cells #[.int .i64 s.x, .int .i64 s.y] 25 (0, 0)) := hb_below hb (by repeat (first | exact h8 | (refine hb_new ?_; (first | omega | (simp; omega) | (simp; done))) | (refine hb_old ?_ ?_; rotate_left; focus (first | omega | (simp; omega) | (simp; done))) | refine hb_drew ?_)) (by first | omega | (simp; omega) | (simp; done))
          replace h9 : w19.heap[w15.heap.size]? = some (.cells #[.int .i64 tv.x, .int .i64 tv.y] 25 (0, 0)) := hb_below hb (by repeat (first | exact h9 | (refine hb_new ?_; (first | omega | (simp; omega) | (simp; done))) | (refine hb_old ?_ ?_; rotate_left; focus (first | omega | (simp; omega) | (simp; done))) | refine hb_drew ?_)) (by first | omega | (simp; omega) | (simp; done))
          replace h10 : w19.heap[w17.heap.size]? = some (.cells #[.int .i64 uv.x, .int .i64 uv.y] 25 (0, 0)) := hb_below hb (by repeat (first | exact h10 | (refine hb_new ?_; (first | omega | (simp; omega) | (simp; done))) | (refine hb_old ?_ ?_; rotate_left; focus (first | omega | (simp; omega) | (simp; done))) | refine hb_drew ?_)) (by first | omega | (simp; omega) | (simp; done))
          have y19 := Below.size hb
          try simp only [World.size_alloc, World.size_drew] at y19
          have D19 := Lib.hid (show Below w.heap.size w w19 from Below.trans (by repeat (first | exact D18.out | exact Below.refl _ _ | refine Below.alloc ?_ (by first | omega | (simp; omega) | (simp; done)) _)) (Below.mono hb (by first | omega | (simp; omega) | (simp; done))))
          have z19 := D19.out.size
          clear hb
          try clear c0_0 f0_0 c0_1 f0_1 c0_2 f0_2 c0_3 f0_3 c0_4 f0_4 c0_5 f0_5 c0_6 f0_6 c0_7 f0_7 c0_8 f0_8 c0_9 f0_9 c0_10 f0_10 c0_11 f0_11 c0_12 f0_12 c0_13 f0_13 c0_14 f0_14 c0_15 f0_15 c0_16 f0_16 c0_17 f0_17
          obtain ⟨c0_0, f0_0, c0_1, f0_1, c0_2, f0_2, c0_3, f0_3, c0_4, f0_4, c0_5, f0_5, c0_6, f0_6, c0_7, f0_7, c0_8, f0_8, c0_9, f0_9, c0_10, f0_10, c0_11, f0_11, c0_12, f0_12, c0_13, f0_13, c0_14, f0_14, c0_15, f0_15, c0_16, f0_16, c0_17, f0_17⟩ := cells18 h0
          try clear c1_0 f1_0 c1_1 f1_1
          obtain ⟨c1_0, f1_0, c1_1, f1_1⟩ := cells2 h1
          try clear c2_0 f2_0 c2_1 f2_1 c2_2 f2_2 c2_3 f2_3 c2_4 f2_4 c2_5 f2_5
          obtain ⟨c2_0, f2_0, c2_1, f2_1, c2_2, f2_2, c2_3, f2_3, c2_4, f2_4, c2_5, f2_5⟩ := cells6 h2
          try clear c3_0 f3_0 c3_1 f3_1
          obtain ⟨c3_0, f3_0, c3_1, f3_1⟩ := cells2 h3
          try clear c4_0 f4_0 c4_1 f4_1 c4_2 f4_2 c4_3 f4_3 c4_4 f4_4 c4_5 f4_5
          obtain ⟨c4_0, f4_0, c4_1, f4_1, c4_2, f4_2, c4_3, f4_3, c4_4, f4_4, c4_5, f4_5⟩ := cells6 h4
          try clear c5_0 f5_0 c5_1 f5_1 c5_2 f5_2 c5_3 f5_3 c5_4 f5_4 c5_5 f5_5
          obtain ⟨c5_0, f5_0, c5_1, f5_1, c5_2, f5_2, c5_3, f5_3, c5_4, f5_4, c5_5, f5_5⟩ := cells6 h5
          try clear c6_0 f6_0 c6_1 f6_1 c6_2 f6_2 c6_3 f6_3 c6_4 f6_4 c6_5 f6_5
          obtain ⟨c6_0, f6_0, c6_1, f6_1, c6_2, f6_2, c6_3, f6_3, c6_4, f6_4, c6_5, f6_5⟩ := cells6 h6
          try clear c7_0 f7_0 c7_1 f7_1 c7_2 f7_2 c7_3 f7_3 c7_4 f7_4 c7_5 f7_5
          obtain ⟨c7_0, f7_0, c7_1, f7_1, c7_2, f7_2, c7_3, f7_3, c7_4, f7_4, c7_5, f7_5⟩ := cells6 h7
          try clear c8_0 f8_0 c8_1 f8_1
          obtain ⟨c8_0, f8_0, c8_1, f8_1⟩ := cells2 h8
          try clear c9_0 f9_0 c9_1 f9_1
          obtain ⟨c9_0, f9_0, c9_1, f9_1⟩ := cells2 h9
          try clear c10_0 f10_0 c10_1 f10_1
          obtain ⟨c10_0, f10_0, c10_1, f10_1⟩ := cells2 h10
          go_wp2_with fail
          go_ret
          exact ⟨by first | rfl | (simp [*]; done) | (simp; omega), D19.out⟩)
    · subst qa
      have qb2 : (be != 0) = true := by simpa using qb
      go_wp2_with fail
      obtain ⟨w8, hw8⟩ : ∃ W, W = (w7.alloc (.cells #[.int .i64 b.m.a, .int .i64 b.m.b, .int .i64 b.m.c, .int .i64 b.m.d, .int .i64 b.t.x, .int .i64 b.t.y] 49)) := ⟨_, rfl⟩
      rw [← hw8]
      replace h0 : w8.heap[w.heap.size]? = some (.cells #[.int .i64 l.m.a, .int .i64 l.m.b, .int .i64 l.m.c, .int .i64 l.m.d, .int .i64 l.t.x, .int .i64 l.t.y, .int .i64 m.m.a, .int .i64 m.m.b, .int .i64 m.m.c, .int .i64 m.m.d, .int .i64 m.t.x, .int .i64 m.t.y, .int .i64 n.m.a, .int .i64 n.m.b, .int .i64 n.m.c, .int .i64 n.m.d, .int .i64 n.t.x, .int .i64 n.t.y] 68 (0, 0)) := by rw [hw8]; exact (by repeat (first | exact h0 | (refine hb_new ?_; (first | omega | (simp; omega) | (simp; done))) | (refine hb_old ?_ ?_; rotate_left; focus (first | omega | (simp; omega) | (simp; done))) | refine hb_drew ?_))
      replace h1 : w8.heap[w.heap.size + 1]? = some (.cells #[.int .i64 p.x, .int .i64 p.y] 25 (0, 0)) := by rw [hw8]; exact (by repeat (first | exact h1 | (refine hb_new ?_; (first | omega | (simp; omega) | (simp; done))) | (refine hb_old ?_ ?_; rotate_left; focus (first | omega | (simp; omega) | (simp; done))) | refine hb_drew ?_))
      replace h2 : w8.heap[w1.heap.size]? = some (.cells #[.int .i64 v.m.a, .int .i64 v.m.b, .int .i64 v.m.c, .int .i64 v.m.d, .int .i64 v.t.x, .int .i64 v.t.y] 49 (0, 0)) := by rw [hw8]; exact (by repeat (first | exact h2 | (refine hb_new ?_; (first | omega | (simp; omega) | (simp; done))) | (refine hb_old ?_ ?_; rotate_left; focus (first | omega | (simp; omega) | (simp; done))) | refine hb_drew ?_))
      replace h3 : w8.heap[w3.heap.size]? = some (.cells #[.int .i64 q.x, .int .i64 q.y] 25 (0, 0)) := by rw [hw8]; exact (by repeat (first | exact h3 | (refine hb_new ?_; (first | omega | (simp; omega) | (simp; done))) | (refine hb_old ?_ ?_; rotate_left; focus (first | omega | (simp; omega) | (simp; done))) | refine hb_drew ?_))
      replace h4 : w8.heap[w5.heap.size]? = some (.cells #[.int .i64 a.m.a, .int .i64 a.m.b, .int .i64 a.m.c, .int .i64 a.m.d, .int .i64 a.t.x, .int .i64 a.t.y] 49 (0, 0)) := by rw [hw8]; exact (by repeat (first | exact h4 | (refine hb_new ?_; (first | omega | (simp; omega) | (simp; done))) | (refine hb_old ?_ ?_; rotate_left; focus (first | omega | (simp; omega) | (simp; done))) | refine hb_drew ?_))
      have h5 : w8.heap[w7.heap.size]? = some (.cells #[.int .i64 b.m.a, .int .i64 b.m.b, .int .i64 b.m.c, .int .i64 b.m.d, .int .i64 b.t.x, .int .i64 b.t.y] 49 (0, 0)) := by rw [hw8]; exact (by repeat (first | (refine hb_new ?_; (first | omega | (simp; omega) | (simp; done))) | (refine hb_old ?_ ?_; rotate_left; focus (first | omega | (simp; omega) | (simp; done))) | refine hb_drew ?_))
      have hb : Below w7.heap.size w7 w8 := by rw [hw8]; exact (by repeat (first | exact Below.refl _ _ | refine Below.alloc ?_ (by first | omega | (simp; omega) | (simp; done)) _ | refine Below.drew ?_))
      have s8 : w7.heap.size + 1 ≤ w8.heap.size := by rw [hw8]; simp
      have y8 := Below.size hb
      try simp only [World.size_alloc, World.size_drew] at y8
      have D8 := Lib.hid (show Below w.heap.size w w8 from Below.trans (by repeat (first | exact D7.out | exact Below.refl _ _ | refine Below.alloc ?_ (by first | omega | (simp; omega) | (simp; done)) _)) (Below.mono hb (by first | omega | (simp; omega) | (simp; done))))
      have z8 := D8.out.size
      clear hb hw8
      try clear c0_0 f0_0 c0_1 f0_1 c0_2 f0_2 c0_3 f0_3 c0_4 f0_4 c0_5 f0_5 c0_6 f0_6 c0_7 f0_7 c0_8 f0_8 c0_9 f0_9 c0_10 f0_10 c0_11 f0_11 c0_12 f0_12 c0_13 f0_13 c0_14 f0_14 c0_15 f0_15 c0_16 f0_16 c0_17 f0_17
      obtain ⟨c0_0, f0_0, c0_1, f0_1, c0_2, f0_2, c0_3, f0_3, c0_4, f0_4, c0_5, f0_5, c0_6, f0_6, c0_7, f0_7, c0_8, f0_8, c0_9, f0_9, c0_10, f0_10, c0_11, f0_11, c0_12, f0_12, c0_13, f0_13, c0_14, f0_14, c0_15, f0_15, c0_16, f0_16, c0_17, f0_17⟩ := cells18 h0
      try clear c1_0 f1_0 c1_1 f1_1
      obtain ⟨c1_0, f1_0, c1_1, f1_1⟩ := cells2 h1
      try clear c2_0 f2_0 c2_1 f2_1 c2_2 f2_2 c2_3 f2_3 c2_4 f2_4 c2_5 f2_5
      obtain ⟨c2_0, f2_0, c2_1, f2_1, c2_2, f2_2, c2_3, f2_3, c2_4, f2_4, c2_5, f2_5⟩ := cells6 h2
      try clear c3_0 f3_0 c3_1 f3_1
      obtain ⟨c3_0, f3_0, c3_1, f3_1⟩ := cells2 h3
      try clear c4_0 f4_0 c4_1 f4_1 c4_2 f4_2 c4_3 f4_3 c4_4 f4_4 c4_5 f4_5
      obtain ⟨c4_0, f4_0, c4_1, f4_1, c4_2, f4_2, c4_3, f4_3, c4_4, f4_4, c4_5, f4_5⟩ := cells6 h4
      try clear c5_0 f5_0 c5_1 f5_1 c5_2 f5_2 c5_3 f5_3 c5_4 f5_4 c5_5 f5_5
      obtain ⟨c5_0, f5_0, c5_1, f5_1, c5_2, f5_2, c5_3, f5_3, c5_4, f5_4, c5_5, f5_5⟩ := cells6 h5
      refine (H7.out _ (HG.out.next (Below.trans D8.out (by repeat (first | exact Below.refl _ _ | refine Below.alloc ?_ (by first | omega | (simp; omega) | (simp; done)) _))))).mono ?_
      rintro e w9 ⟨rfl, hb⟩
      replace h0 : w9.heap[w.heap.size]? = some (.cells #[.int .i64 l.m.a, .int .i64 l.m.b, .int .i64 l.m.c, .int .i64 l.m.d, .int .i64 l.t.x, .int .i64 l.t.y, .int .i64 m.m.a, .int .i64 m.m.b, .int .i64 m.m.c, .int .i64 m.m.d, .int .i64 m.t.x, .int .i64 m.t.y, .int .i64 n.m.a, .int .i64 n.m.b, .int .i64 n.m.c, .int .i64 n.m.d, .int .i64 n.t.x, .int .i64 n.t.y] 68 (0, 0)) := hb_below hb (by repeat (first | exact h0 | (refine hb_new ?_; (first | omega | (simp; omega) | (simp; done))) | (refine hb_old ?_ ?_; rotate_left; focus (first | omega | (simp; omega) | (simp; done))) | refine hb_drew ?_)) (by first | omega | (simp; omega) | (simp; done))
      replace h1 : w9.heap[w.heap.size + 1]? = some (.cells #[.int .i64 p.x, .int .i64 p.y] 25 (0, 0)) := hb_below hb (by repeat (first | exact h1 | (refine hb_new ?_; (first | omega | (simp; omega) | (simp; done))) | (refine hb_old ?_ ?_; rotate_left; focus (first | omega | (simp; omega) | (simp; done))) | refine hb_drew ?_)) (by first | omega | (simp; omega) | (simp; done))
      replace h2 : w9.heap[w1.heap.size]? = some (.cells #[.int .i64 v.m.a, .int .i64 v.m.b, .int .i64 v.m.c, .int .i64 v.m.d, .int .i64 v.t.x, .int .i64 v.t.y] 49 (0, 0)) := hb_below hb (by repeat (first | exact h2 | (refine hb_new ?_; (first | omega | (simp; omega) | (simp; done))) | (refine hb_old ?_ ?_; rotate_left; focus (first | omega | (simp; omega) | (simp; done))) | refine hb_drew ?_)) (by first | omega | (simp; omega) | (simp; done))
      replace h3 : w9.heap[w3.heap.size]? = some (.cells #[.int .i64 q.x, .int .i64 q.y] 25 (0, 0)) := hb_below hb (by repeat (first | exact h3 | (refine hb_new ?_; (first | omega | (simp; omega) | (simp; done))) | (refine hb_old ?_ ?_; rotate_left; focus (first | omega | (simp; omega) | (simp; done))) | refine hb_drew ?_)) (by first | omega | (simp; omega) | (simp; done))
      replace h4 : w9.heap[w5.heap.size]? = some (.cells #[.int .i64 a.m.a, .int .i64 a.m.b, .int .i64 a.m.c, .int .i64 a.m.d, .int .i64 a.t.x, .int .i64 a.t.y] 49 (0, 0)) := hb_below hb (by repeat (first | exact h4 | (refine hb_new ?_; (first | omega | (simp; omega) | (simp; done))) | (refine hb_old ?_ ?_; rotate_left; focus (first | omega | (simp; omega) | (simp; done))) | refine hb_drew ?_)) (by first | omega | (simp; omega) | (simp; done))
      replace h5 : w9.heap[w7.heap.size]? = some (.cells #[.int .i64 b.m.a, .int .i64 b.m.b, .int .i64 b.m.c, .int .i64 b.m.d, .int .i64 b.t.x, .int .i64 b.t.y] 49 (0, 0)) := hb_below hb (by repeat (first | exact h5 | (refine hb_new ?_; (first | omega | (simp; omega) | (simp; done))) | (refine hb_old ?_ ?_; rotate_left; focus (first | omega | (simp; omega) | (simp; done))) | refine hb_drew ?_)) (by first | omega | (simp; omega) | (simp; done))
      have y9 := Below.size hb
      try simp only [World.size_alloc, World.size_drew] at y9
      have D9 := Lib.hid (show Below w.heap.size w w9 from Below.trans (by repeat (first | exact D8.out | exact Below.refl _ _ | refine Below.alloc ?_ (by first | omega | (simp; omega) | (simp; done)) _)) (Below.mono hb (by first | omega | (simp; omega) | (simp; done))))
      have z9 := D9.out.size
      clear hb
      try clear c0_0 f0_0 c0_1 f0_1 c0_2 f0_2 c0_3 f0_3 c0_4 f0_4 c0_5 f0_5 c0_6 f0_6 c0_7 f0_7 c0_8 f0_8 c0_9 f0_9 c0_10 f0_10 c0_11 f0_11 c0_12 f0_12 c0_13 f0_13 c0_14 f0_14 c0_15 f0_15 c0_16 f0_16 c0_17 f0_17
      obtain ⟨c0_0, f0_0, c0_1, f0_1, c0_2, f0_2, c0_3, f0_3, c0_4, f0_4, c0_5, f0_5, c0_6, f0_6, c0_7, f0_7, c0_8, f0_8, c0_9, f0_9, c0_10, f0_10, c0_11, f0_11, c0_12, f0_12, c0_13, f0_13, c0_14, f0_14, c0_15, f0_15, c0_16, f0_16, c0_17, f0_17⟩ := cells18 h0
      try clear c1_0 f1_0 c1_1 f1_1
      obtain ⟨c1_0, f1_0, c1_1, f1_1⟩ := cells2 h1
      try clear c2_0 f2_0 c2_1 f2_1 c2_2 f2_2 c2_3 f2_3 c2_4 f2_4 c2_5 f2_5
      obtain ⟨c2_0, f2_0, c2_1, f2_1, c2_2, f2_2, c2_3, f2_3, c2_4, f2_4, c2_5, f2_5⟩ := cells6 h2
      try clear c3_0 f3_0 c3_1 f3_1
      obtain ⟨c3_0, f3_0, c3_1, f3_1⟩ := cells2 h3
      try clear c4_0 f4_0 c4_1 f4_1 c4_2 f4_2 c4_3 f4_3 c4_4 f4_4 c4_5 f4_5
      obtain ⟨c4_0, f4_0, c4_1, f4_1, c4_2, f4_2, c4_3, f4_3, c4_4, f4_4, c4_5, f4_5⟩ := cells6 h4
      try clear c5_0 f5_0 c5_1 f5_1 c5_2 f5_2 c5_3 f5_3 c5_4 f5_4 c5_5 f5_5
      obtain ⟨c5_0, f5_0, c5_1, f5_1, c5_2, f5_2, c5_3, f5_3, c5_4, f5_4, c5_5, f5_5⟩ := cells6 h5
      go_wp2_with fail
      go_ret
      exact ⟨by first | rfl | (simp [*]; done) | (simp; omega), D9.out⟩
  · have qa2 : (ae != 0) = true := by simpa using qa
    go_wp2_with fail
    obtain ⟨w8, hw8⟩ : ∃ W, W = (w7.alloc (.cells #[.int .i64 b.m.a, .int .i64 b.m.b, .int .i64 b.m.c, .int .i64 b.m.d, .int .i64 b.t.x, .int .i64 b.t.y] 49)) := ⟨_, rfl⟩
    rw [← hw8]
    replace h0 : w8.heap[w.heap.size]? = some (.cells #[.int .i64 l.m.a, .int .i64 l.m.b, .int .i64 l.m.c, .int .i64 l.m.d, .int .i64 l.t.x, .int .i64 l.t.y, .int .i64 m.m.a, .int .i64 m.m.b, .int .i64 m.m.c, .int .i64 m.m.d, .int .i64 m.t.x, .int .i64 m.t.y, .int .i64 n.m.a, .int .i64 n.m.b, .int .i64 n.m.c, .int .i64 n.m.d, .int .i64 n.t.x, .int .i64 n.t.y] 68 (0, 0)) := by rw [hw8]; exact (by repeat (first | exact h0 | (refine hb_new ?_; (first | omega | (simp; omega) | (simp; done))) | (refine hb_old ?_ ?_; rotate_left; focus (first | omega | (simp; omega) | (simp; done))) | refine hb_drew ?_))
    replace h1 : w8.heap[w.heap.size + 1]? = some (.cells #[.int .i64 p.x, .int .i64 p.y] 25 (0, 0)) := by rw [hw8]; exact (by repeat (first | exact h1 | (refine hb_new ?_; (first | omega | (simp; omega) | (simp; done))) | (refine hb_old ?_ ?_; rotate_left; focus (first | omega | (simp; omega) | (simp; done))) | refine hb_drew ?_))
    replace h2 : w8.heap[w1.heap.size]? = some (.cells #[.int .i64 v.m.a, .int .i64 v.m.b, .int .i64 v.m.c, .int .i64 v.m.d, .int .i64 v.t.x, .int .i64 v.t.y] 49 (0, 0)) := by rw [hw8]; exact (by repeat (first | exact h2 | (refine hb_new ?_; (first | omega | (simp; omega) | (simp; done))) | (refine hb_old ?_ ?_; rotate_left; focus (first | omega | (simp; omega) | (simp; done))) | refine hb_drew ?_))
    replace h3 : w8.heap[w3.heap.size]? = some (.cells #[.int .i64 q.x, .int .i64 q.y] 25 (0, 0)) := by rw [hw8]; exact (by repeat (first | exact h3 | (refine hb_new ?_; (first | omega | (simp; omega) | (simp; done))) | (refine hb_old ?_ ?_; rotate_left; focus (first | omega | (simp; omega) | (simp; done))) | refine hb_drew ?_))
    replace h4 : w8.heap[w5.heap.size]? = some (.cells #[.int .i64 a.m.a, .int .i64 a.m.b, .int .i64 a.m.c, .int .i64 a.m.d, .int .i64 a.t.x, .int .i64 a.t.y] 49 (0, 0)) := by rw [hw8]; exact (by repeat (first | exact h4 | (refine hb_new ?_; (first | omega | (simp; omega) | (simp; done))) | (refine hb_old ?_ ?_; rotate_left; focus (first | omega | (simp; omega) | (simp; done))) | refine hb_drew ?_))
    have h5 : w8.heap[w7.heap.size]? = some (.cells #[.int .i64 b.m.a, .int .i64 b.m.b, .int .i64 b.m.c, .int .i64 b.m.d, .int .i64 b.t.x, .int .i64 b.t.y] 49 (0, 0)) := by rw [hw8]; exact (by repeat (first | (refine hb_new ?_; (first | omega | (simp; omega) | (simp; done))) | (refine hb_old ?_ ?_; rotate_left; focus (first | omega | (simp; omega) | (simp; done))) | refine hb_drew ?_))
    have hb : Below w7.heap.size w7 w8 := by rw [hw8]; exact (by repeat (first | exact Below.refl _ _ | refine Below.alloc ?_ (by first | omega | (simp; omega) | (simp; done)) _ | refine Below.drew ?_))
    have s8 : w7.heap.size + 1 ≤ w8.heap.size := by rw [hw8]; simp
    have y8 := Below.size hb
    try simp only [World.size_alloc, World.size_drew] at y8
    have D8 := Lib.hid (show Below w.heap.size w w8 from Below.trans (by repeat (first | exact D7.out | exact Below.refl _ _ | refine Below.alloc ?_ (by first | omega | (simp; omega) | (simp; done)) _)) (Below.mono hb (by first | omega | (simp; omega) | (simp; done))))
    have z8 := D8.out.size
    clear hb hw8
    try clear c0_0 f0_0 c0_1 f0_1 c0_2 f0_2 c0_3 f0_3 c0_4 f0_4 c0_5 f0_5 c0_6 f0_6 c0_7 f0_7 c0_8 f0_8 c0_9 f0_9 c0_10 f0_10 c0_11 f0_11 c0_12 f0_12 c0_13 f0_13 c0_14 f0_14 c0_15 f0_15 c0_16 f0_16 c0_17 f0_17
    obtain ⟨c0_0, f0_0, c0_1, f0_1, c0_2, f0_2, c0_3, f0_3, c0_4, f0_4, c0_5, f0_5, c0_6, f0_6, c0_7, f0_7, c0_8, f0_8, c0_9, f0_9, c0_10, f0_10, c0_11, f0_11, c0_12, f0_12, c0_13, f0_13, c0_14, f0_14, c0_15, f0_15, c0_16, f0_16, c0_17, f0_17⟩ := cells18 h0
    try clear c1_0 f1_0 c1_1 f1_1
    obtain ⟨c1_0, f1_0, c1_1, f1_1⟩ := cells2 h1
    try clear c2_0 f2_0 c2_1 f2_1 c2_2 f2_2 c2_3 f2_3 c2_4 f2_4 c2_5 f2_5
    obtain ⟨c2_0, f2_0, c2_1, f2_1, c2_2, f2_2, c2_3, f2_3, c2_4, f2_4, c2_5, f2_5⟩ := cells6 h2
    try clear c3_0 f3_0 c3_1 f3_1
    obtain ⟨c3_0, f3_0, c3_1, f3_1⟩ := cells2 h3
    try clear c4_0 f4_0 c4_1 f4_1 c4_2 f4_2 c4_3 f4_3 c4_4 f4_4 c4_5 f4_5
    obtain ⟨c4_0, f4_0, c4_1, f4_1, c4_2, f4_2, c4_3, f4_3, c4_4, f4_4, c4_5, f4_5⟩ := cells6 h4
    try clear c5_0 f5_0 c5_1 f5_1 c5_2 f5_2 c5_3 f5_3 c5_4 f5_4 c5_5 f5_5
    obtain ⟨c5_0, f5_0, c5_1, f5_1, c5_2, f5_2, c5_3, f5_3, c5_4, f5_4, c5_5, f5_5⟩ := cells6 h5
    refine (H7.out _ (HG.out.next (Below.trans D8.out (by repeat (first | exact Below.refl _ _ | refine Below.alloc ?_ (by first | omega | (simp; omega) | (simp; done)) _))))).mono ?_
    rintro e w9 ⟨rfl, hb⟩
    replace h0 : w9.heap[w.heap.size]? = some (.cells #[.int .i64 l.m.a, .int .i64 l.m.b, .int .i64 l.m.c, .int .i64 l.m.d, .int .i64 l.t.x, .int .i64 l.t.y, .int .i64 m.m.a, .int .i64 m.m.b, .int .i64 m.m.c, .int .i64 m.m.d, .int .i64 m.t.x, .int .i64 m.t.y, .int .i64 n.m.a, .int .i64 n.m.b, .int .i64 n.m.c, .int .i64 n.m.d, .int .i64 n.t.x, .int .i64 n.t.y] 68 (0, 0)) := hb_below hb (by repeat (first | exact h0 | (refine hb_new ?_; (first | omega | (simp; omega) | (simp; done))) | (refine hb_old ?_ ?_; rotate_left; focus (first | omega | (simp; omega) | (simp; done))) | refine hb_drew ?_)) (by first | omega | (simp; omega) | (simp; done))
    replace h1 : w9.heap[w.heap.size + 1]? = some (.cells #[.int .i64 p.x, .int .i64 p.y] 25 (0, 0)) := hb_below hb (by repeat (first | exact h1 | (refine hb_new ?_; (first | omega | (simp; omega) | (simp; done))) | (refine hb_old ?_ ?_; rotate_left; focus (first | omega | (simp; omega) | (simp; done))) | refine hb_drew ?_)) (by first | omega | (simp; omega) | (simp; done))
    replace h2 : w9.heap[w1.heap.size]? = some (.cells #[.int .i64 v.m.a, .int .i64 v.m.b, .int .i64 v.m.c, .int .i64 v.m.d, .int .i64 v.t.x, .int .i64 v.t.y] 49 (0, 0)) := hb_below hb (by repeat (first | exact h2 | (refine hb_new ?_; (first | omega | (simp; omega) | (simp; done))) | (refine hb_old ?_ ?_; rotate_left; focus (first | omega | (simp; omega) | (simp; done))) | refine hb_drew ?_)) (by first | omega | (simp; omega) | (simp; done))
    replace h3 : w9.heap[w3.heap.size]? = some (.cells #[.int .i64 q.x, .int .i64 q.y] 25 (0, 0)) := hb_below hb (by repeat (first | exact h3 | (refine hb_new ?_; (first | omega | (simp; omega) | (simp; done))) | (refine hb_old ?_ ?_; rotate_left; focus (first | omega | (simp; omega) | (simp; done))) | refine hb_drew ?_)) (by first | omega | (simp; omega) | (simp; done))
    replace h4 : w9.heap[w5.heap.size]? = some (.cells #[.int .i64 a.m.a, .int .i64 a.m.b, .int .i64 a.m.c, .int .i64 a.m.d, .int .i64 a.t.x, .int .i64 a.t.y] 49 (0, 0)) := hb_below hb (by repeat (first | exact h4 | (refine hb_new ?_; (first | omega | (simp; omega) | (simp; done))) | (refine hb_old ?_ ?_; rotate_left; focus (first | omega | (simp; omega) | (simp; done))) | refine hb_drew ?_)) (by first | omega | (simp; omega) | (simp; done))
    replace h5 : w9.heap[w7.heap.size]? = some (.cells #[.int .i64 b.m.a, .int .i64 b.m.b, .int .i64 b.m.c, .int .i64 b.m.d, .int .i64 b.t.x, .int .i64 b.t.y] 49 (0, 0)) := hb_below hb (by repeat (first | exact h5 | (refine hb_new ?_; (first | omega | (simp; omega) | (simp; done))) | (refine hb_old ?_ ?_; rotate_left; focus (first | omega | (simp; omega) | (simp; done))) | refine hb_drew ?_)) (by first | omega | (simp; omega) | (simp; done))
    have y9 := Below.size hb
    try simp only [World.size_alloc, World.size_drew] at y9
    have D9 := Lib.hid (show Below w.heap.size w w9 from Below.trans (by repeat (first | exact D8.out | exact Below.refl _ _ | refine Below.alloc ?_ (by first | omega | (simp; omega) | (simp; done)) _)) (Below.mono hb (by first | omega | (simp; omega) | (simp; done))))
    have z9 := D9.out.size
    clear hb
    try clear c0_0 f0_0 c0_1 f0_1 c0_2 f0_2 c0_3 f0_3 c0_4 f0_4 c0_5 f0_5 c0_6 f0_6 c0_7 f0_7 c0_8 f0_8 c0_9 f0_9 c0_10 f0_10 c0_11 f0_11 c0_12 f0_12 c0_13 f0_13 c0_14 f0_14 c0_15 f0_15 c0_16 f0_16 c0_17 f0_17
    obtain ⟨c0_0, f0_0, c0_1, f0_1, c0_2, f0_2, c0_3, f0_3, c0_4, f0_4, c0_5, f0_5, c0_6, f0_6, c0_7, f0_7, c0_8, f0_8, c0_9, f0_9, c0_10, f0_10, c0_11, f0_11, c0_12, f0_12, c0_13, f0_13, c0_14, f0_14, c0_15, f0_15, c0_16, f0_16, c0_17, f0_17⟩ := cells18 h0
    try clear c1_0 f1_0 c1_1 f1_1
    obtain ⟨c1_0, f1_0, c1_1, f1_1⟩ := cells2 h1
    try clear c2_0 f2_0 c2_1 f2_1 c2_2 f2_2 c2_3 f2_3 c2_4 f2_4 c2_5 f2_5
    obtain ⟨c2_0, f2_0, c2_1, f2_1, c2_2, f2_2, c2_3, f2_3, c2_4, f2_4, c2_5, f2_5⟩ := cells6 h2
    try clear c3_0 f3_0 c3_1 f3_1
    obtain ⟨c3_0, f3_0, c3_1, f3_1⟩ := cells2 h3
    try clear c4_0 f4_0 c4_1 f4_1 c4_2 f4_2 c4_3 f4_3 c4_4 f4_4 c4_5 f4_5
    obtain ⟨c4_0, f4_0, c4_1, f4_1, c4_2, f4_2, c4_3, f4_3, c4_4, f4_4, c4_5, f4_5⟩ := cells6 h4
    try clear c5_0 f5_0 c5_1 f5_1 c5_2 f5_2 c5_3 f5_3 c5_4 f5_4 c5_5 f5_5
    obtain ⟨c5_0, f5_0, c5_1, f5_1, c5_2, f5_2, c5_3, f5_3, c5_4, f5_4, c5_5, f5_5⟩ := cells6 h5
    go_wp2_with fail
    go_ret
    exact ⟨by first | rfl | (simp [*]; done) | (simp; omega), D9.out⟩
end Go.Proofs.YtjekfkmcgfnkaaaDoor
