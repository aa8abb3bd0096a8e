/- The law of shortest steps. -/
import Derived.Test.YtjekfkmcgfnkaaaDoorIU
import Derived.Test.YtjekfkmcgfnkaaaDoorHC
import Derived.Test.YtjekfkmcgfnkaaaDoorIA
namespace Go.Proofs.YtjekfkmcgfnkaaaDoor
open Go.RowKit Go.Lib
set_option linter.unusedSimpArgs false
set_option linter.unusedVariables false
theorem sq_val {l : Lat} (hl : Ok l) {p : Pt} (h1 : -1000 ≤ p.x ∧ p.x ≤ 1000) (h2 : -1000 ≤ p.y ∧ p.y ≤ 1000) : gv (okL l && (okP ⟨0, 0⟩ && okP p && okP p)) (wrap64 (prod l (stepP ⟨0, 0⟩ p).w (stepP ⟨0, 0⟩ p).w)) = prod l p p ∧ errIf (okL l && (okP ⟨0, 0⟩ && okP p && okP p)) = 0 := by
  have e1 : okP ⟨0, 0⟩ = true := by decide +kernel
  have e2 : okP p = true := by rw [okP_iff]; omega
  have e3 : stepP ⟨0, 0⟩ p = p := by cases p; simp [stepP]
  have e4 : Sm p := by unfold Sm; omega
  rw [(okL_iff l).2 hl, e1, e2, e3, sm_w e4, prod_id hl e4 e4]
  exact ⟨rfl, rfl⟩
theorem side_val {p q : Pt} (h1 : -1000 ≤ p.x ∧ p.x ≤ 1000) (h2 : -1000 ≤ p.y ∧ p.y ≤ 1000) (h3 : -10000 ≤ q.x ∧ q.x ≤ 10000) (h4 : -10000 ≤ q.y ∧ q.y ≤ 10000) :
    gv (okP ⟨0, 0⟩ && okP p && okP q) (cmpI (wrap64 (crossP (stepP ⟨0, 0⟩ p).w (stepP ⟨0, 0⟩ q).w)) 0) = cmpI (crossP p q) 0 ∧ errIf (okP ⟨0, 0⟩ && okP p && okP q) = 0 := by
  have e1 : okP ⟨0, 0⟩ = true := by decide +kernel
  have e2 : okP p = true := by rw [okP_iff]; omega
  have e2' : okP q = true := by rw [okP_iff]; omega
  have e3 : stepP ⟨0, 0⟩ p = p := by cases p; simp [stepP]
  have e3' : stepP ⟨0, 0⟩ q = q := by cases q; simp [stepP]
  have e4 : Sm p := by unfold Sm; omega
  have e5 : Sm q := by unfold Sm; omega
  rw [e1, e2, e2', e3, e3', sm_w e4, sm_w e5, cross_id e4 e5]
  exact ⟨rfl, rfl⟩
theorem okL_check {l : Lat} (h : okL l = false) : errIf (okL l) = 2 := by rw [h]; rfl
set_option maxHeartbeats 4000000 in
set_option maxRecDepth 100000 in
theorem shortest_bad (l : Lat) (p : Pt) (hl : okL l = false) (w : World) (g : Glob w) : Calls Tryd.prog 12 #[l.val, p.val] w fun e w' => e = .returned (.bool true) ∧ Below w.heap.size w w' := by
  have HG := Lib.hid g
  clear g
  have C1 := fun W => Reduce_bad l hl W
  have C2 := fun W => Check_any l W
  rw [okL_check hl] at C2
  have C7 := fun W g => awake_any W g
  unfold Lat.val Mat.val Pt.val at *
  have H1 := Lib.hid C1
  have H2 := Lib.hid C2
  have H7 := Lib.hid C7
  clear C1 C2 C7 hl
  go_enter Tryd.func12, Tryd.ntmps12
  go_wp2_with fail
  refine (H1.out _).mono ?_
  rintro e w1 ⟨rfl, hb⟩
  have h0 : w1.heap[w.heap.size]? = some (.cells #[.int .i64 l.a, .int .i64 l.b, .int .i64 l.c] 23 (0, 0)) := hb_below hb (by repeat (first | (refine hb_new ?_; (first | omega | (simp; omega) | (simp; done))) | (refine hb_old ?_ ?_; rotate_left; focus (first | omega | (simp; omega) | (simp; done))) | refine hb_drew ?_)) (by first | omega | (simp; omega) | (simp; done))
  have h1 : w1.heap[w.heap.size + 1]? = some (.cells #[.int .i64 p.x, .int .i64 p.y] 25 (0, 0)) := hb_below hb (by repeat (first | (refine hb_new ?_; (first | omega | (simp; omega) | (simp; done))) | (refine hb_old ?_ ?_; rotate_left; focus (first | omega | (simp; omega) | (simp; done))) | refine hb_drew ?_)) (by first | omega | (simp; omega) | (simp; done))
  have y1 := Below.size hb
  try simp only [World.size_alloc, World.size_drew] at y1
  have D1 := Lib.hid (show Below w.heap.size w w1 from Below.trans (by repeat (first | exact Below.refl _ _ | refine Below.alloc ?_ (by first | omega | (simp; omega) | (simp; done)) _)) (Below.mono hb (by first | omega | (simp; omega) | (simp; done))))
  have z1 := D1.out.size
  clear hb
  try clear c0_0 f0_0 c0_1 f0_1 c0_2 f0_2
  obtain ⟨c0_0, f0_0, c0_1, f0_1, c0_2, f0_2⟩ := cells3 h0
  try clear c1_0 f1_0 c1_1 f1_1
  obtain ⟨c1_0, f1_0, c1_1, f1_1⟩ := cells2 h1
  have ha0 : ((w1.alloc (.cells #[.int .i64 0, .int .i64 0, .int .i64 0] 23)).alloc (.cells #[.int .i64 0, .int .i64 0, .int .i64 0, .int .i64 0] 40)).heap[w.heap.size]? = some (.cells #[.int .i64 l.a, .int .i64 l.b, .int .i64 l.c] 23 (0, 0)) := (by repeat (first | exact h0 | (refine hb_new ?_; (first | omega | (simp; omega) | (simp; done))) | (refine hb_old ?_ ?_; rotate_left; focus (first | omega | (simp; omega) | (simp; done))) | refine hb_drew ?_))
  obtain ⟨ca0_0, fa0_0, ca0_1, fa0_1, ca0_2, fa0_2⟩ := cells3 ha0
  have ha1 : ((w1.alloc (.cells #[.int .i64 0, .int .i64 0, .int .i64 0] 23)).alloc (.cells #[.int .i64 0, .int .i64 0, .int .i64 0, .int .i64 0] 40)).heap[w.heap.size + 1]? = some (.cells #[.int .i64 p.x, .int .i64 p.y] 25 (0, 0)) := (by repeat (first | exact h1 | (refine hb_new ?_; (first | omega | (simp; omega) | (simp; done))) | (refine hb_old ?_ ?_; rotate_left; focus (first | omega | (simp; omega) | (simp; done))) | refine hb_drew ?_))
  obtain ⟨ca1_0, fa1_0, ca1_1, fa1_1⟩ := cells2 ha1
  go_wp2_with fail
  obtain ⟨w2, hw2⟩ : ∃ W, W = ((w1.alloc (.cells #[.int .i64 0, .int .i64 0, .int .i64 0] 23)).alloc (.cells #[.int .i64 0, .int .i64 0, .int .i64 0, .int .i64 0] 40)) := ⟨_, rfl⟩
  rw [← hw2]
  replace h0 : w2.heap[w.heap.size]? = some (.cells #[.int .i64 l.a, .int .i64 l.b, .int .i64 l.c] 23 (0, 0)) := by rw [hw2]; exact (by repeat (first | exact h0 | (refine hb_new ?_; (first | omega | (simp; omega) | (simp; done))) | (refine hb_old ?_ ?_; rotate_left; focus (first | omega | (simp; omega) | (simp; done))) | refine hb_drew ?_))
  replace h1 : w2.heap[w.heap.size + 1]? = some (.cells #[.int .i64 p.x, .int .i64 p.y] 25 (0, 0)) := by rw [hw2]; exact (by repeat (first | exact h1 | (refine hb_new ?_; (first | omega | (simp; omega) | (simp; done))) | (refine hb_old ?_ ?_; rotate_left; focus (first | omega | (simp; omega) | (simp; done))) | refine hb_drew ?_))
  have h2 : w2.heap[w1.heap.size]? = some (.cells #[.int .i64 0, .int .i64 0, .int .i64 0] 23 (0, 0)) := by rw [hw2]; exact (by repeat (first | (refine hb_new ?_; (first | omega | (simp; omega) | (simp; done))) | (refine hb_old ?_ ?_; rotate_left; focus (first | omega | (simp; omega) | (simp; done))) | refine hb_drew ?_))
  have h3 : w2.heap[w1.heap.size + 1]? = some (.cells #[.int .i64 0, .int .i64 0, .int .i64 0, .int .i64 0] 40 (0, 0)) := by rw [hw2]; exact (by repeat (first | (refine hb_new ?_; (first | omega | (simp; omega) | (simp; done))) | (refine hb_old ?_ ?_; rotate_left; focus (first | omega | (simp; omega) | (simp; done))) | refine hb_drew ?_))
  have hb : Below w1.heap.size w1 w2 := by rw [hw2]; exact (by repeat (first | exact Below.refl _ _ | refine Below.alloc ?_ (by first | omega | (simp; omega) | (simp; done)) _ | refine Below.drew ?_))
  have s2 : w1.heap.size + 1 + 1 ≤ w2.heap.size := by rw [hw2]; simp
  have y2 := Below.size hb
  try simp only [World.size_alloc, World.size_drew] at y2
  have D2 := Lib.hid (show Below w.heap.size w w2 from Below.trans (by repeat (first | exact D1.out | exact Below.refl _ _ | refine Below.alloc ?_ (by first | omega | (simp; omega) | (simp; done)) _)) (Below.mono hb (by first | omega | (simp; omega) | (simp; done))))
  have z2 := D2.out.size
  clear hb hw2
  try clear c0_0 f0_0 c0_1 f0_1 c0_2 f0_2
  obtain ⟨c0_0, f0_0, c0_1, f0_1, c0_2, f0_2⟩ := cells3 h0
  try clear c1_0 f1_0 c1_1 f1_1
  obtain ⟨c1_0, f1_0, c1_1, f1_1⟩ := cells2 h1
  try clear c2_0 f2_0 c2_1 f2_1 c2_2 f2_2
  obtain ⟨c2_0, f2_0, c2_1, f2_1, c2_2, f2_2⟩ := cells3 h2
  try clear c3_0 f3_0 c3_1 f3_1 c3_2 f3_2 c3_3 f3_3
  obtain ⟨c3_0, f3_0, c3_1, f3_1, c3_2, f3_2, c3_3, f3_3⟩ := cells4 h3
  clear ha0 ca0_0 fa0_0 ca0_1 fa0_1 ca0_2 fa0_2
  clear ha1 ca1_0 fa1_0 ca1_1 fa1_1
  refine (H2.out _).mono ?_
  rintro e w3 ⟨rfl, hb⟩
  replace h0 : w3.heap[w.heap.size]? = some (.cells #[.int .i64 l.a, .int .i64 l.b, .int .i64 l.c] 23 (0, 0)) := hb_below hb (by repeat (first | exact h0 | (refine hb_new ?_; (first | omega | (simp; omega) | (simp; done))) | (refine hb_old ?_ ?_; rotate_left; focus (first | omega | (simp; omega) | (simp; done))) | refine hb_drew ?_)) (by first | omega | (simp; omega) | (simp; done))
  replace h1 : w3.heap[w.heap.size + 1]? = some (.cells #[.int .i64 p.x, .int .i64 p.y] 25 (0, 0)) := hb_below hb (by repeat (first | exact h1 | (refine hb_new ?_; (first | omega | (simp; omega) | (simp; done))) | (refine hb_old ?_ ?_; rotate_left; focus (first | omega | (simp; omega) | (simp; done))) | refine hb_drew ?_)) (by first | omega | (simp; omega) | (simp; done))
  replace h2 : w3.heap[w1.heap.size]? = some (.cells #[.int .i64 0, .int .i64 0, .int .i64 0] 23 (0, 0)) := hb_below hb (by repeat (first | exact h2 | (refine hb_new ?_; (first | omega | (simp; omega) | (simp; done))) | (refine hb_old ?_ ?_; rotate_left; focus (first | omega | (simp; omega) | (simp; done))) | refine hb_drew ?_)) (by first | omega | (simp; omega) | (simp; done))
  replace h3 : w3.heap[w1.heap.size + 1]? = some (.cells #[.int .i64 0, .int .i64 0, .int .i64 0, .int .i64 0] 40 (0, 0)) := hb_below hb (by repeat (first | exact h3 | (refine hb_new ?_; (first | omega | (simp; omega) | (simp; done))) | (refine hb_old ?_ ?_; rotate_left; focus (first | omega | (simp; omega) | (simp; done))) | refine hb_drew ?_)) (by first | omega | (simp; omega) | (simp; done))
  have y3 := Below.size hb
  try simp only [World.size_alloc, World.size_drew] at y3
  have D3 := Lib.hid (show Below w.heap.size w w3 from Below.trans (by repeat (first | exact D2.out | exact Below.refl _ _ | refine Below.alloc ?_ (by first | omega | (simp; omega) | (simp; done)) _)) (Below.mono hb (by first | omega | (simp; omega) | (simp; done))))
  have z3 := D3.out.size
  clear hb
  try clear c0_0 f0_0 c0_1 f0_1 c0_2 f0_2
  obtain ⟨c0_0, f0_0, c0_1, f0_1, c0_2, f0_2⟩ := cells3 h0
  try clear c1_0 f1_0 c1_1 f1_1
  obtain ⟨c1_0, f1_0, c1_1, f1_1⟩ := cells2 h1
  try clear c2_0 f2_0 c2_1 f2_1 c2_2 f2_2
  obtain ⟨c2_0, f2_0, c2_1, f2_1, c2_2, f2_2⟩ := cells3 h2
  try clear c3_0 f3_0 c3_1 f3_1 c3_2 f3_2 c3_3 f3_3
  obtain ⟨c3_0, f3_0, c3_1, f3_1, c3_2, f3_2, c3_3, f3_3⟩ := cells4 h3
  go_wp2_with fail
  refine (H7.out _ (HG.out.next (Below.trans D3.out (by repeat (first | exact Below.refl _ _ | refine Below.alloc ?_ (by first | omega | (simp; omega) | (simp; done)) _))))).mono ?_
  rintro e w4 ⟨rfl, hb⟩
  replace h0 : w4.heap[w.heap.size]? = some (.cells #[.int .i64 l.a, .int .i64 l.b, .int .i64 l.c] 23 (0, 0)) := hb_below hb (by repeat (first | exact h0 | (refine hb_new ?_; (first | omega | (simp; omega) | (simp; done))) | (refine hb_old ?_ ?_; rotate_left; focus (first | omega | (simp; omega) | (simp; done))) | refine hb_drew ?_)) (by first | omega | (simp; omega) | (simp; done))
  replace h1 : w4.heap[w.heap.size + 1]? = some (.cells #[.int .i64 p.x, .int .i64 p.y] 25 (0, 0)) := hb_below hb (by repeat (first | exact h1 | (refine hb_new ?_; (first | omega | (simp; omega) | (simp; done))) | (refine hb_old ?_ ?_; rotate_left; focus (first | omega | (simp; omega) | (simp; done))) | refine hb_drew ?_)) (by first | omega | (simp; omega) | (simp; done))
  replace h2 : w4.heap[w1.heap.size]? = some (.cells #[.int .i64 0, .int .i64 0, .int .i64 0] 23 (0, 0)) := hb_below hb (by repeat (first | exact h2 | (refine hb_new ?_; (first | omega | (simp; omega) | (simp; done))) | (refine hb_old ?_ ?_; rotate_left; focus (first | omega | (simp; omega) | (simp; done))) | refine hb_drew ?_)) (by first | omega | (simp; omega) | (simp; done))
  replace h3 : w4.heap[w1.heap.size + 1]? = some (.cells #[.int .i64 0, .int .i64 0, .int .i64 0, .int .i64 0] 40 (0, 0)) := hb_below hb (by repeat (first | exact h3 | (refine hb_new ?_; (first | omega | (simp; omega) | (simp; done))) | (refine hb_old ?_ ?_; rotate_left; focus (first | omega | (simp; omega) | (simp; done))) | refine hb_drew ?_)) (by first | omega | (simp; omega) | (simp; done))
  have y4 := Below.size hb
  try simp only [World.size_alloc, World.size_drew] at y4
  have D4 := Lib.hid (show Below w.heap.size w w4 from Below.trans (by repeat (first | exact D3.out | exact Below.refl _ _ | refine Below.alloc ?_ (by first | omega | (simp; omega) | (simp; done)) _)) (Below.mono hb (by first | omega | (simp; omega) | (simp; done))))
  have z4 := D4.out.size
  clear hb
  try clear c0_0 f0_0 c0_1 f0_1 c0_2 f0_2
  obtain ⟨c0_0, f0_0, c0_1, f0_1, c0_2, f0_2⟩ := cells3 h0
  try clear c1_0 f1_0 c1_1 f1_1
  obtain ⟨c1_0, f1_0, c1_1, f1_1⟩ := cells2 h1
  try clear c2_0 f2_0 c2_1 f2_1 c2_2 f2_2
  obtain ⟨c2_0, f2_0, c2_1, f2_1, c2_2, f2_2⟩ := cells3 h2
  try clear c3_0 f3_0 c3_1 f3_1 c3_2 f3_2 c3_3 f3_3
  obtain ⟨c3_0, f3_0, c3_1, f3_1, c3_2, f3_2, c3_3, f3_3⟩ := cells4 h3
  go_wp2_with fail
  go_ret
  exact ⟨by first | rfl | (simp [*]; done) | (simp; omega), D4.out⟩
attribute [local irreducible] wpQuiet
set_option maxHeartbeats 4000000 in
set_option maxRecDepth 100000 in
theorem shortest_ok (l : Lat) (p : Pt) (hl : Ok l) (w : World) (g : Glob w) : Calls Tryd.prog 12 #[l.val, p.val] w fun e w' => e = .returned (.bool true) ∧ Below w.heap.size w w' := by
  have HG := Lib.hid g
  clear g
  have C1 := fun W g => Reduce_ok l hl W g
  have Hl := Lib.hid hl
  have C7 := fun W g => awake_any W g
  have C2 := fun a b W => lPt_any a b W
  unfold Lat.val Mat.val Pt.val at *
  have H1 := Lib.hid C1
  have H2 := Lib.hid C2
  have H7 := Lib.hid C7
  clear C1 C2 C7 hl
  go_enter Tryd.func12, Tryd.ntmps12
  go_wp2_with fail
  refine (H1.out _ (HG.out.next (by repeat (first | exact Below.refl _ _ | refine Below.alloc ?_ (by first | omega | (simp; omega) | (simp; done)) _)))).mono ?_
  rintro e w1 ⟨L, m, rfl, hR, hb⟩
  have h0 : w1.heap[w.heap.size]? = some (.cells #[.int .i64 l.a, .int .i64 l.b, .int .i64 l.c] 23 (0, 0)) := hb_below hb (by repeat (first | (refine hb_new ?_; (first | omega | (simp; omega) | (simp; done))) | (refine hb_old ?_ ?_; rotate_left; focus (first | omega | (simp; omega) | (simp; done))) | refine hb_drew ?_)) (by first | omega | (simp; omega) | (simp; done))
  have h1 : w1.heap[w.heap.size + 1]? = some (.cells #[.int .i64 p.x, .int .i64 p.y] 25 (0, 0)) := hb_below hb (by repeat (first | (refine hb_new ?_; (first | omega | (simp; omega) | (simp; done))) | (refine hb_old ?_ ?_; rotate_left; focus (first | omega | (simp; omega) | (simp; done))) | refine hb_drew ?_)) (by first | omega | (simp; omega) | (simp; done))
  have y1 := Below.size hb
  try simp only [World.size_alloc, World.size_drew] at y1
  have D1 := Lib.hid (show Below w.heap.size w w1 from Below.trans (by repeat (first | exact Below.refl _ _ | refine Below.alloc ?_ (by first | omega | (simp; omega) | (simp; done)) _)) (Below.mono hb (by first | omega | (simp; omega) | (simp; done))))
  have z1 := D1.out.size
  clear hb
  try clear c0_0 f0_0 c0_1 f0_1 c0_2 f0_2
  obtain ⟨c0_0, f0_0, c0_1, f0_1, c0_2, f0_2⟩ := cells3 h0
  try clear c1_0 f1_0 c1_1 f1_1
  obtain ⟨c1_0, f1_0, c1_1, f1_1⟩ := cells2 h1
  have ha0 : ((w1.alloc (.cells #[.int .i64 L.a, .int .i64 L.b, .int .i64 L.c] 23)).alloc (.cells #[.int .i64 m.a, .int .i64 m.b, .int .i64 m.c, .int .i64 m.d] 40)).heap[w.heap.size]? = some (.cells #[.int .i64 l.a, .int .i64 l.b, .int .i64 l.c] 23 (0, 0)) := (by repeat (first | exact h0 | (refine hb_new ?_; (first | omega | (simp; omega) | (simp; done))) | (refine hb_old ?_ ?_; rotate_left; focus (first | omega | (simp; omega) | (simp; done))) | refine hb_drew ?_))
  obtain ⟨ca0_0, fa0_0, ca0_1, fa0_1, ca0_2, fa0_2⟩ := cells3 ha0
  have ha1 : ((w1.alloc (.cells #[.int .i64 L.a, .int .i64 L.b, .int .i64 L.c] 23)).alloc (.cells #[.int .i64 m.a, .int .i64 m.b, .int .i64 m.c, .int .i64 m.d] 40)).heap[w.heap.size + 1]? = some (.cells #[.int .i64 p.x, .int .i64 p.y] 25 (0, 0)) := (by repeat (first | exact h1 | (refine hb_new ?_; (first | omega | (simp; omega) | (simp; done))) | (refine hb_old ?_ ?_; rotate_left; focus (first | omega | (simp; omega) | (simp; done))) | refine hb_drew ?_))
  obtain ⟨ca1_0, fa1_0, ca1_1, fa1_1⟩ := cells2 ha1
  go_wp2_with fail
  obtain ⟨w2, hw2⟩ : ∃ W, W = ((w1.alloc (.cells #[.int .i64 L.a, .int .i64 L.b, .int .i64 L.c] 23)).alloc (.cells #[.int .i64 m.a, .int .i64 m.b, .int .i64 m.c, .int .i64 m.d] 40)) := ⟨_, rfl⟩
  rw [← hw2]
  replace h0 : w2.heap[w.heap.size]? = some (.cells #[.int .i64 l.a, .int .i64 l.b, .int .i64 l.c] 23 (0, 0)) := by rw [hw2]; exact (by repeat (first | exact h0 | (refine hb_new ?_; (first | omega | (simp; omega) | (simp; done))) | (refine hb_old ?_ ?_; rotate_left; focus (first | omega | (simp; omega) | (simp; done))) | refine hb_drew ?_))
  replace h1 : w2.heap[w.heap.size + 1]? = some (.cells #[.int .i64 p.x, .int .i64 p.y] 25 (0, 0)) := by rw [hw2]; exact (by repeat (first | exact h1 | (refine hb_new ?_; (first | omega | (simp; omega) | (simp; done))) | (refine hb_old ?_ ?_; rotate_left; focus (first | omega | (simp; omega) | (simp; done))) | refine hb_drew ?_))
  have h2 : w2.heap[w1.heap.size]? = some (.cells #[.int .i64 L.a, .int .i64 L.b, .int .i64 L.c] 23 (0, 0)) := by rw [hw2]; exact (by repeat (first | (refine hb_new ?_; (first | omega | (simp; omega) | (simp; done))) | (refine hb_old ?_ ?_; rotate_left; focus (first | omega | (simp; omega) | (simp; done))) | refine hb_drew ?_))
  have h3 : w2.heap[w1.heap.size + 1]? = some (.cells #[.int .i64 m.a, .int .i64 m.b, .int .i64 m.c, .int .i64 m.d] 40 (0, 0)) := by rw [hw2]; exact (by repeat (first | (refine hb_new ?_; (first | omega | (simp; omega) | (simp; done))) | (refine hb_old ?_ ?_; rotate_left; focus (first | omega | (simp; omega) | (simp; done))) | refine hb_drew ?_))
  have hb : Below w1.heap.size w1 w2 := by rw [hw2]; exact (by repeat (first | exact Below.refl _ _ | refine Below.alloc ?_ (by first | omega | (simp; omega) | (simp; done)) _ | refine Below.drew ?_))
  have s2 : w1.heap.size + 1 + 1 ≤ w2.heap.size := by rw [hw2]; simp
  have y2 := Below.size hb
  try simp only [World.size_alloc, World.size_drew] at y2
  have D2 := Lib.hid (show Below w.heap.size w w2 from Below.trans (by repeat (first | exact D1.out | exact Below.refl _ _ | refine Below.alloc ?_ (by first | omega | (simp; omega) | (simp; done)) _)) (Below.mono hb (by first | omega | (simp; omega) | (simp; done))))
  have z2 := D2.out.size
  clear hb hw2
  try clear c0_0 f0_0 c0_1 f0_1 c0_2 f0_2
  obtain ⟨c0_0, f0_0, c0_1, f0_1, c0_2, f0_2⟩ := cells3 h0
  try clear c1_0 f1_0 c1_1 f1_1
  obtain ⟨c1_0, f1_0, c1_1, f1_1⟩ := cells2 h1
  try clear c2_0 f2_0 c2_1 f2_1 c2_2 f2_2
  obtain ⟨c2_0, f2_0, c2_1, f2_1, c2_2, f2_2⟩ := cells3 h2
  try clear c3_0 f3_0 c3_1 f3_1 c3_2 f3_2 c3_3 f3_3
  obtain ⟨c3_0, f3_0, c3_1, f3_1, c3_2, f3_2, c3_3, f3_3⟩ := cells4 h3
  clear ha0 ca0_0 fa0_0 ca0_1 fa0_1 ca0_2 fa0_2
  clear ha1 ca1_0 fa1_0 ca1_1 fa1_1
  refine (H2.out _ _ _).mono ?_
  rintro e w3 ⟨rfl, hb⟩
  replace h0 : w3.heap[w.heap.size]? = some (.cells #[.int .i64 l.a, .int .i64 l.b, .int .i64 l.c] 23 (0, 0)) := hb_below hb (by repeat (first | exact h0 | (refine hb_new ?_; (first | omega | (simp; omega) | (simp; done))) | (refine hb_old ?_ ?_; rotate_left; focus (first | omega | (simp; omega) | (simp; done))) | refine hb_drew ?_)) (by first | omega | (simp; omega) | (simp; done))
  replace h1 : w3.heap[w.heap.size + 1]? = some (.cells #[.int .i64 p.x, .int .i64 p.y] 25 (0, 0)) := hb_below hb (by repeat (first | exact h1 | (refine hb_new ?_; (first | omega | (simp; omega) | (simp; done))) | (refine hb_old ?_ ?_; rotate_left; focus (first | omega | (simp; omega) | (simp; done))) | refine hb_drew ?_)) (by first | omega | (simp; omega) | (simp; done))
  replace h2 : w3.heap[w1.heap.size]? = some (.cells #[.int .i64 L.a, .int .i64 L.b, .int .i64 L.c] 23 (0, 0)) := hb_below hb (by repeat (first | exact h2 | (refine hb_new ?_; (first | omega | (simp; omega) | (simp; done))) | (refine hb_old ?_ ?_; rotate_left; focus (first | omega | (simp; omega) | (simp; done))) | refine hb_drew ?_)) (by first | omega | (simp; omega) | (simp; done))
  replace h3 : w3.heap[w1.heap.size + 1]? = some (.cells #[.int .i64 m.a, .int .i64 m.b, .int .i64 m.c, .int .i64 m.d] 40 (0, 0)) := hb_below hb (by repeat (first | exact h3 | (refine hb_new ?_; (first | omega | (simp; omega) | (simp; done))) | (refine hb_old ?_ ?_; rotate_left; focus (first | omega | (simp; omega) | (simp; done))) | refine hb_drew ?_)) (by first | omega | (simp; omega) | (simp; done))
  have y3 := Below.size hb
  try simp only [World.size_alloc, World.size_drew] at y3
  have D3 := Lib.hid (show Below w.heap.size w w3 from Below.trans (by repeat (first | exact D2.out | exact Below.refl _ _ | refine Below.alloc ?_ (by first | omega | (simp; omega) | (simp; done)) _)) (Below.mono hb (by first | omega | (simp; omega) | (simp; done))))
  have z3 := D3.out.size
  clear hb
  try clear c0_0 f0_0 c0_1 f0_1 c0_2 f0_2
  obtain ⟨c0_0, f0_0, c0_1, f0_1, c0_2, f0_2⟩ := cells3 h0
  try clear c1_0 f1_0 c1_1 f1_1
  obtain ⟨c1_0, f1_0, c1_1, f1_1⟩ := cells2 h1
  try clear c2_0 f2_0 c2_1 f2_1 c2_2 f2_2
  obtain ⟨c2_0, f2_0, c2_1, f2_1, c2_2, f2_2⟩ := cells3 h2
  try clear c3_0 f3_0 c3_1 f3_1 c3_2 f3_2 c3_3 f3_3
  obtain ⟨c3_0, f3_0, c3_1, f3_1, c3_2, f3_2, c3_3, f3_3⟩ := cells4 h3
  go_wp2_with fail
  have q1 := (Below.heap_setCell w3 ⟨w.heap.size + 1, 0, none⟩ (.int .i64 (p.x.tmod 1001)) (w.heap.size) (by first | omega | assumption | (apply Ne.symm; assumption) | (simp; done) | (simp; omega))).trans h0
  have q2 := heap_setCell_same w3 (w.heap.size + 1) 0 _ _ (.int .i64 (p.x.tmod 1001)) h1
  have q3 := (Below.heap_setCell w3 ⟨w.heap.size + 1, 0, none⟩ (.int .i64 (p.x.tmod 1001)) (w1.heap.size) (by first | omega | assumption | (apply Ne.symm; assumption) | (simp; done) | (simp; omega))).trans h2
  have q4 := (Below.heap_setCell w3 ⟨w.heap.size + 1, 0, none⟩ (.int .i64 (p.x.tmod 1001)) (w1.heap.size + 1) (by first | omega | assumption | (apply Ne.symm; assumption) | (simp; done) | (simp; omega))).trans h3
  have q5 := (Below.heap_setCell (w3.setCell ⟨w.heap.size + 1, 0, none⟩ (.int .i64 (p.x.tmod 1001))) ⟨w.heap.size + 1, 1, none⟩ (.int .i64 (p.y.tmod 1001)) (w.heap.size) (by first | omega | assumption | (apply Ne.symm; assumption) | (simp; done) | (simp; omega))).trans q1
  have q6 := heap_setCell_same (w3.setCell ⟨w.heap.size + 1, 0, none⟩ (.int .i64 (p.x.tmod 1001))) (w.heap.size + 1) 1 _ _ (.int .i64 (p.y.tmod 1001)) q2
  have q7 := (Below.heap_setCell (w3.setCell ⟨w.heap.size + 1, 0, none⟩ (.int .i64 (p.x.tmod 1001))) ⟨w.heap.size + 1, 1, none⟩ (.int .i64 (p.y.tmod 1001)) (w1.heap.size) (by first | omega | assumption | (apply Ne.symm; assumption) | (simp; done) | (simp; omega))).trans q3
  have q8 := (Below.heap_setCell (w3.setCell ⟨w.heap.size + 1, 0, none⟩ (.int .i64 (p.x.tmod 1001))) ⟨w.heap.size + 1, 1, none⟩ (.int .i64 (p.y.tmod 1001)) (w1.heap.size + 1) (by first | omega | assumption | (apply Ne.symm; assumption) | (simp; done) | (simp; omega))).trans q4
  obtain ⟨w4, hw4⟩ : ∃ W, W = ((w3.setCell ⟨w.heap.size + 1, 0, none⟩ (.int .i64 (p.x.tmod 1001))).setCell ⟨w.heap.size + 1, 1, none⟩ (.int .i64 (p.y.tmod 1001))) := ⟨_, rfl⟩
  rw [← hw4]
  replace h0 : w4.heap[w.heap.size]? = some (.cells #[.int .i64 l.a, .int .i64 l.b, .int .i64 l.c] 23 (0, 0)) := by rw [hw4]; exact q5
  replace h1 : w4.heap[w.heap.size + 1]? = some (.cells #[.int .i64 (p.x.tmod 1001), .int .i64 (p.y.tmod 1001)] 25 (0, 0)) := by rw [hw4]; exact q6
  replace h2 : w4.heap[w1.heap.size]? = some (.cells #[.int .i64 L.a, .int .i64 L.b, .int .i64 L.c] 23 (0, 0)) := by rw [hw4]; exact q7
  replace h3 : w4.heap[w1.heap.size + 1]? = some (.cells #[.int .i64 m.a, .int .i64 m.b, .int .i64 m.c, .int .i64 m.d] 40 (0, 0)) := by rw [hw4]; exact q8
  have D4 := Lib.hid (show Below w.heap.size w w4 by rw [hw4]; exact (Below.setCell (Below.setCell D3.out (p := ⟨w.heap.size + 1, 0, none⟩) (by first | omega | (simp; done) | (simp; omega)) (.int .i64 (p.x.tmod 1001))) (p := ⟨w.heap.size + 1, 1, none⟩) (by first | omega | (simp; done) | (simp; omega)) (.int .i64 (p.y.tmod 1001))))
  have z4 := D4.out.size
  have y4 : w4.heap.size = w3.heap.size := by rw [hw4]; simp
  clear q8 q7 q6 q5 q4 q3 q2 q1 hw4
  try clear c0_0 f0_0 c0_1 f0_1 c0_2 f0_2
  obtain ⟨c0_0, f0_0, c0_1, f0_1, c0_2, f0_2⟩ := cells3 h0
  try clear c1_0 f1_0 c1_1 f1_1
  obtain ⟨c1_0, f1_0, c1_1, f1_1⟩ := cells2 h1
  try clear c2_0 f2_0 c2_1 f2_1 c2_2 f2_2
  obtain ⟨c2_0, f2_0, c2_1, f2_1, c2_2, f2_2⟩ := cells3 h2
  try clear c3_0 f3_0 c3_1 f3_1 c3_2 f3_2 c3_3 f3_3
  obtain ⟨c3_0, f3_0, c3_1, f3_1, c3_2, f3_2, c3_3, f3_3⟩ := cells4 h3
  obtain ⟨hr, hLo, um, hmo, em, hmin⟩ := hR
  obtain ⟨px, hpx⟩ : ∃ x, x = p.x.tmod 1001 := ⟨_, rfl⟩
  obtain ⟨py, hpy⟩ : ∃ x, x = p.y.tmod 1001 := ⟨_, rfl⟩
  have rx := thou_rng p.x
  have ry := thou_rng p.y
  rw [← hpx] at rx h1
  rw [← hpy] at ry h1
  have hma : m.a.tmod 10001 = m.a := gram_mod hmo.1
  have hmc : m.c.tmod 10001 = m.c := gram_mod hmo.2.2.1
  have C3 := fun W => Square_any l ⟨0, 0⟩ ⟨px, py⟩ W
  have C4 := fun W => Side_any ⟨0, 0⟩ ⟨px, py⟩ ⟨m.a, m.c⟩ W
  obtain ⟨v1, v2⟩ := sq_val (p := ⟨px, py⟩) Hl.out rx ry
  obtain ⟨v3, v4⟩ := side_val (p := ⟨px, py⟩) (q := ⟨m.a, m.c⟩) rx ry hmo.1 hmo.2.2.1
  rw [v1, v2] at C3
  rw [v3, v4] at C4
  have hA : (⟨px, py⟩ : Pt) ≠ ⟨0, 0⟩ → L.a ≤ prod l ⟨px, py⟩ ⟨px, py⟩ := fun h => short_first hr um em h
  have hC : cmpI (crossP ⟨px, py⟩ ⟨m.a, m.c⟩) 0 ≠ 0 → L.c ≤ prod l ⟨px, py⟩ ⟨px, py⟩ := fun h => short_second hr um em (fun h0 => h (by rw [h0]; rfl))
  have hS0 : px = 0 → py = 0 → cmpI (crossP ⟨px, py⟩ ⟨m.a, m.c⟩) 0 = 0 := fun h h2 => by
    subst h; subst h2
    have : crossP ⟨0, 0⟩ ⟨m.a, m.c⟩ = 0 := by simp [crossP]
    rw [this]; rfl
  clear v1 v2 v3 v4 hr hLo um hmo em hmin
  generalize prod l ⟨px, py⟩ ⟨px, py⟩ = n at *
  generalize cmpI (crossP ⟨px, py⟩ ⟨m.a, m.c⟩) 0 = sd at *
  unfold Lat.val Pt.val at C3
  unfold Pt.val at C4
  have H3 := Lib.hid C3
  have H4 := Lib.hid C4
  have HA := Lib.hid hA
  have HC := Lib.hid hC
  have HS := Lib.hid hS0
  clear C3 C4 hA hC hS0 hpx hpy rx ry
  try clear c0_0 f0_0 c0_1 f0_1 c0_2 f0_2
  obtain ⟨c0_0, f0_0, c0_1, f0_1, c0_2, f0_2⟩ := cells3 h0
  try clear c1_0 f1_0 c1_1 f1_1
  obtain ⟨c1_0, f1_0, c1_1, f1_1⟩ := cells2 h1
  try clear c2_0 f2_0 c2_1 f2_1 c2_2 f2_2
  obtain ⟨c2_0, f2_0, c2_1, f2_1, c2_2, f2_2⟩ := cells3 h2
  try clear c3_0 f3_0 c3_1 f3_1 c3_2 f3_2 c3_3 f3_3
  obtain ⟨c3_0, f3_0, c3_1, f3_1, c3_2, f3_2, c3_3, f3_3⟩ := cells4 h3
  try clear c0_0 f0_0 c0_1 f0_1 c0_2 f0_2
  try clear c1_0 f1_0 c1_1 f1_1
  try clear c2_0 f2_0 c2_1 f2_1 c2_2 f2_2
  try clear c3_0 f3_0 c3_1 f3_1 c3_2 f3_2 c3_3 f3_3
  refine wp_region_class (fun w' => Below w4.heap.size w4 w') 8 (by kernel_rfl) (by kernel_rfl) (Below.refl _ w4).drew ?_
  simp only [List.take_succ_cons, List.take_zero, List.drop_succ_cons, List.drop_zero]
  refine quiet_load_mid rfl _ _ rfl _ _ rfl [.int .i64 l.a, .int .i64 l.b, .int .i64 l.c] _ (fun w' h => range_of_heap (hb_below h h0 (by first | omega | (simp; omega) | (simp; done)))) Tryd.underlying23 rfl (by kernel_rfl) ?_
  simp only [Act.put, List.setIfInBounds_toArray, List.set_cons_zero, List.set_cons_succ]
  refine quiet_call rfl 45 _ _ rfl (enter_of Tryd.func45 (by decide) (by intro h; cases h)) _ (in_class_b (H2.out 0 0)) ?_
  simp only [Act.put, List.setIfInBounds_toArray, List.set_cons_zero, List.set_cons_succ]
  refine quiet_load_mid rfl _ _ rfl _ _ rfl [.int .i64 px, .int .i64 py] _ (fun w' h => range_of_heap (hb_below h h1 (by first | omega | (simp; omega) | (simp; done)))) Tryd.underlying25 rfl (by kernel_rfl) ?_
  simp only [Act.put, List.setIfInBounds_toArray, List.set_cons_zero, List.set_cons_succ]
  refine quiet_call rfl 13 _ _ rfl (enter_of Tryd.func13 (by decide) (by intro h; cases h)) _ (in_class_b H3.out) ?_
  simp only [Act.put, List.setIfInBounds_toArray, List.set_cons_zero, List.set_cons_succ]
  refine quiet_moveV rfl _ rfl _ rfl ?_
  simp only [Act.put, List.setIfInBounds_toArray, List.set_cons_zero, List.set_cons_succ]
  refine quiet_still rfl (.int .i64 n) (fun w _ => by go_simp) ?_
  simp only [Act.put, List.setIfInBounds_toArray, List.set_cons_zero, List.set_cons_succ]
  refine quiet_still rfl (.int .i64 0) (fun w _ => by go_simp) ?_
  simp only [Act.put, List.setIfInBounds_toArray, List.set_cons_zero, List.set_cons_succ]
  refine quiet_still rfl (.int .i64 n) (fun w _ => by go_simp) ?_
  simp only [Act.put, List.setIfInBounds_toArray, List.set_cons_zero, List.set_cons_succ]
  unfold wpQuiet
  intro w5 hb
  replace h0 : w5.heap[w.heap.size]? = some (.cells #[.int .i64 l.a, .int .i64 l.b, .int .i64 l.c] 23 (0, 0)) := hb_below hb (by repeat (first | exact h0 | (refine hb_new ?_; (first | omega | (simp; omega) | (simp; done))) | (refine hb_old ?_ ?_; rotate_left; focus (first | omega | (simp; omega) | (simp; done))) | refine hb_drew ?_)) (by first | omega | (simp; omega) | (simp; done))
  replace h1 : w5.heap[w.heap.size + 1]? = some (.cells #[.int .i64 px, .int .i64 py] 25 (0, 0)) := hb_below hb (by repeat (first | exact h1 | (refine hb_new ?_; (first | omega | (simp; omega) | (simp; done))) | (refine hb_old ?_ ?_; rotate_left; focus (first | omega | (simp; omega) | (simp; done))) | refine hb_drew ?_)) (by first | omega | (simp; omega) | (simp; done))
  replace h2 : w5.heap[w1.heap.size]? = some (.cells #[.int .i64 L.a, .int .i64 L.b, .int .i64 L.c] 23 (0, 0)) := hb_below hb (by repeat (first | exact h2 | (refine hb_new ?_; (first | omega | (simp; omega) | (simp; done))) | (refine hb_old ?_ ?_; rotate_left; focus (first | omega | (simp; omega) | (simp; done))) | refine hb_drew ?_)) (by first | omega | (simp; omega) | (simp; done))
  replace h3 : w5.heap[w1.heap.size + 1]? = some (.cells #[.int .i64 m.a, .int .i64 m.b, .int .i64 m.c, .int .i64 m.d] 40 (0, 0)) := hb_below hb (by repeat (first | exact h3 | (refine hb_new ?_; (first | omega | (simp; omega) | (simp; done))) | (refine hb_old ?_ ?_; rotate_left; focus (first | omega | (simp; omega) | (simp; done))) | refine hb_drew ?_)) (by first | omega | (simp; omega) | (simp; done))
  have y5 := Below.size hb
  try simp only [World.size_alloc, World.size_drew] at y5
  have D5 := Lib.hid (show Below w.heap.size w w5 from Below.trans (by repeat (first | exact D4.out | exact Below.refl _ _ | refine Below.alloc ?_ (by first | omega | (simp; omega) | (simp; done)) _)) (Below.mono hb (by first | omega | (simp; omega) | (simp; done))))
  have z5 := D5.out.size
  clear hb
  try clear c0_0 f0_0 c0_1 f0_1 c0_2 f0_2
  obtain ⟨c0_0, f0_0, c0_1, f0_1, c0_2, f0_2⟩ := cells3 h0
  try clear c1_0 f1_0 c1_1 f1_1
  obtain ⟨c1_0, f1_0, c1_1, f1_1⟩ := cells2 h1
  try clear c2_0 f2_0 c2_1 f2_1 c2_2 f2_2
  obtain ⟨c2_0, f2_0, c2_1, f2_1, c2_2, f2_2⟩ := cells3 h2
  try clear c3_0 f3_0 c3_1 f3_1 c3_2 f3_2 c3_3 f3_3
  obtain ⟨c3_0, f3_0, c3_1, f3_1, c3_2, f3_2, c3_3, f3_3⟩ := cells4 h3
  go_wp2_with fail
  try clear c0_0 f0_0 c0_1 f0_1 c0_2 f0_2
  try clear c1_0 f1_0 c1_1 f1_1
  try clear c2_0 f2_0 c2_1 f2_1 c2_2 f2_2
  try clear c3_0 f3_0 c3_1 f3_1 c3_2 f3_2 c3_3 f3_3
  refine wp_region_class (fun w' => Below w5.heap.size w5 w') 14 (by kernel_rfl) (by kernel_rfl) (Below.refl _ w5).drew ?_
  simp only [List.take_succ_cons, List.take_zero, List.drop_succ_cons, List.drop_zero]
  refine quiet_call rfl 45 _ _ rfl (enter_of Tryd.func45 (by decide) (by intro h; cases h)) _ (in_class_b (H2.out 0 0)) ?_
  simp only [Act.put, List.setIfInBounds_toArray, List.set_cons_zero, List.set_cons_succ]
  refine quiet_load_mid rfl _ _ rfl _ _ rfl [.int .i64 px, .int .i64 py] _ (fun w' h => range_of_heap (hb_below h h1 (by first | omega | (simp; omega) | (simp; done)))) Tryd.underlying25 rfl (by kernel_rfl) ?_
  simp only [Act.put, List.setIfInBounds_toArray, List.set_cons_zero, List.set_cons_succ]
  refine quiet_still rfl _ (fun w _ => by go_simp; rfl) ?_
  simp only [Act.put, List.setIfInBounds_toArray, List.set_cons_zero, List.set_cons_succ]
  refine quiet_load1 rfl _ _ rfl _ (by first | rfl | (go_simp; rfl)) _ (load_i64 _ _) (fun w' h => cell_of_heap (hb_below h h3 (by first | omega | (simp; omega) | (simp; done))) (j := 0) rfl) ?_
  simp only [Act.put, List.setIfInBounds_toArray, List.set_cons_zero, List.set_cons_succ]
  refine quiet_still rfl (.int .i64 m.a) (fun w _ => by first | (go_simp; done) | (go_simp; simp [hma])) ?_
  simp only [Act.put, List.setIfInBounds_toArray, List.set_cons_zero, List.set_cons_succ]
  refine quiet_still rfl _ (fun w _ => by go_simp; rfl) ?_
  simp only [Act.put, List.setIfInBounds_toArray, List.set_cons_zero, List.set_cons_succ]
  refine quiet_load1 rfl _ _ rfl _ (by first | rfl | (go_simp; rfl)) _ (load_i64 _ _) (fun w' h => cell_of_heap (hb_below h h3 (by first | omega | (simp; omega) | (simp; done))) (j := 2) rfl) ?_
  simp only [Act.put, List.setIfInBounds_toArray, List.set_cons_zero, List.set_cons_succ]
  refine quiet_still rfl (.int .i64 m.c) (fun w _ => by first | (go_simp; done) | (go_simp; simp [hmc])) ?_
  simp only [Act.put, List.setIfInBounds_toArray, List.set_cons_zero, List.set_cons_succ]
  refine quiet_call rfl 45 _ _ rfl (enter_of Tryd.func45 (by decide) (by intro h; cases h)) _ (in_class_b (H2.out m.a m.c)) ?_
  simp only [Act.put, List.setIfInBounds_toArray, List.set_cons_zero, List.set_cons_succ]
  refine quiet_call rfl 20 _ _ rfl (enter_of Tryd.func20 (by decide) (by intro h; cases h)) _ (in_class_b H4.out) ?_
  simp only [Act.put, List.setIfInBounds_toArray, List.set_cons_zero, List.set_cons_succ]
  refine quiet_moveV rfl _ rfl _ rfl ?_
  simp only [Act.put, List.setIfInBounds_toArray, List.set_cons_zero, List.set_cons_succ]
  refine quiet_still rfl (.int .i64 sd) (fun w _ => by go_simp) ?_
  simp only [Act.put, List.setIfInBounds_toArray, List.set_cons_zero, List.set_cons_succ]
  refine quiet_still rfl (.int .i64 0) (fun w _ => by go_simp) ?_
  simp only [Act.put, List.setIfInBounds_toArray, List.set_cons_zero, List.set_cons_succ]
  refine quiet_still rfl (.int .i64 sd) (fun w _ => by go_simp) ?_
  simp only [Act.put, List.setIfInBounds_toArray, List.set_cons_zero, List.set_cons_succ]
  unfold wpQuiet
  intro w6 hb
  replace h0 : w6.heap[w.heap.size]? = some (.cells #[.int .i64 l.a, .int .i64 l.b, .int .i64 l.c] 23 (0, 0)) := hb_below hb (by repeat (first | exact h0 | (refine hb_new ?_; (first | omega | (simp; omega) | (simp; done))) | (refine hb_old ?_ ?_; rotate_left; focus (first | omega | (simp; omega) | (simp; done))) | refine hb_drew ?_)) (by first | omega | (simp; omega) | (simp; done))
  replace h1 : w6.heap[w.heap.size + 1]? = some (.cells #[.int .i64 px, .int .i64 py] 25 (0, 0)) := hb_below hb (by repeat (first | exact h1 | (refine hb_new ?_; (first | omega | (simp; omega) | (simp; done))) | (refine hb_old ?_ ?_; rotate_left; focus (first | omega | (simp; omega) | (simp; done))) | refine hb_drew ?_)) (by first | omega | (simp; omega) | (simp; done))
  replace h2 : w6.heap[w1.heap.size]? = some (.cells #[.int .i64 L.a, .int .i64 L.b, .int .i64 L.c] 23 (0, 0)) := hb_below hb (by repeat (first | exact h2 | (refine hb_new ?_; (first | omega | (simp; omega) | (simp; done))) | (refine hb_old ?_ ?_; rotate_left; focus (first | omega | (simp; omega) | (simp; done))) | refine hb_drew ?_)) (by first | omega | (simp; omega) | (simp; done))
  replace h3 : w6.heap[w1.heap.size + 1]? = some (.cells #[.int .i64 m.a, .int .i64 m.b, .int .i64 m.c, .int .i64 m.d] 40 (0, 0)) := hb_below hb (by repeat (first | exact h3 | (refine hb_new ?_; (first | omega | (simp; omega) | (simp; done))) | (refine hb_old ?_ ?_; rotate_left; focus (first | omega | (simp; omega) | (simp; done))) | refine hb_drew ?_)) (by first | omega | (simp; omega) | (simp; done))
  have y6 := Below.size hb
  try simp only [World.size_alloc, World.size_drew] at y6
  have D6 := Lib.hid (show Below w.heap.size w w6 from Below.trans (by repeat (first | exact D5.out | exact Below.refl _ _ | refine Below.alloc ?_ (by first | omega | (simp; omega) | (simp; done)) _)) (Below.mono hb (by first | omega | (simp; omega) | (simp; done))))
  have z6 := D6.out.size
  clear hb
  try clear c0_0 f0_0 c0_1 f0_1 c0_2 f0_2
  obtain ⟨c0_0, f0_0, c0_1, f0_1, c0_2, f0_2⟩ := cells3 h0
  try clear c1_0 f1_0 c1_1 f1_1
  obtain ⟨c1_0, f1_0, c1_1, f1_1⟩ := cells2 h1
  try clear c2_0 f2_0 c2_1 f2_1 c2_2 f2_2
  obtain ⟨c2_0, f2_0, c2_1, f2_1, c2_2, f2_2⟩ := cells3 h2
  try clear c3_0 f3_0 c3_1 f3_1 c3_2 f3_2 c3_3 f3_3
  obtain ⟨c3_0, f3_0, c3_1, f3_1, c3_2, f3_2, c3_3, f3_3⟩ := cells4 h3
  go_wp2_with fail
  by_cases hz : px = 0 ∧ py = 0
  · obtain ⟨z1, z2⟩ := hz
    subst z1
    subst z2
    have s0 := HS.out rfl rfl
    subst s0
    try clear c0_0 f0_0 c0_1 f0_1 c0_2 f0_2
    obtain ⟨c0_0, f0_0, c0_1, f0_1, c0_2, f0_2⟩ := cells3 h0
    try clear c1_0 f1_0 c1_1 f1_1
    obtain ⟨c1_0, f1_0, c1_1, f1_1⟩ := cells2 h1
    try clear c2_0 f2_0 c2_1 f2_1 c2_2 f2_2
    obtain ⟨c2_0, f2_0, c2_1, f2_1, c2_2, f2_2⟩ := cells3 h2
    try clear c3_0 f3_0 c3_1 f3_1 c3_2 f3_2 c3_3 f3_3
    obtain ⟨c3_0, f3_0, c3_1, f3_1, c3_2, f3_2, c3_3, f3_3⟩ := cells4 h3
    try clear c0_0 f0_0 c0_1 f0_1 c0_2 f0_2
    try clear c1_0 f1_0 c1_1 f1_1
    try clear c2_0 f2_0 c2_1 f2_1 c2_2 f2_2
    try clear c3_0 f3_0 c3_1 f3_1 c3_2 f3_2 c3_3 f3_3
    refine wp_region_class (fun w' => Below w6.heap.size w6 w') 22 (by kernel_rfl) (by kernel_rfl) (Below.refl _ w6).drew ?_
    simp only [List.take_succ_cons, List.take_zero, List.drop_succ_cons, List.drop_zero]
    refine quiet_load_mid rfl _ _ rfl _ _ rfl [.int .i64 0, .int .i64 0] _ (fun w' h => range_of_heap (hb_below h h1 (by first | omega | (simp; omega) | (simp; done)))) Tryd.underlying25 rfl (by kernel_rfl) ?_
    simp only [Act.put, List.setIfInBounds_toArray, List.set_cons_zero, List.set_cons_succ]
    refine quiet_call rfl 45 _ _ rfl (enter_of Tryd.func45 (by decide) (by intro h; cases h)) _ (in_class_b (H2.out 0 0)) ?_
    simp only [Act.put, List.setIfInBounds_toArray, List.set_cons_zero, List.set_cons_succ]
    refine quiet_still rfl (.bool true) (fun w _ => by go_simp) ?_
    simp only [Act.put, List.setIfInBounds_toArray, List.set_cons_zero, List.set_cons_succ]
    refine quiet_moveV rfl _ rfl _ rfl ?_
    simp only [Act.put, List.setIfInBounds_toArray, List.set_cons_zero, List.set_cons_succ]
    refine quiet_skip (by kernel_rfl) ?_
    simp only [Act.put, List.setIfInBounds_toArray, List.set_cons_zero, List.set_cons_succ]
    refine quiet_skip (by kernel_rfl) ?_
    simp only [Act.put, List.setIfInBounds_toArray, List.set_cons_zero, List.set_cons_succ]
    refine quiet_skip (by kernel_rfl) ?_
    simp only [Act.put, List.setIfInBounds_toArray, List.set_cons_zero, List.set_cons_succ]
    refine quiet_skip (by kernel_rfl) ?_
    simp only [Act.put, List.setIfInBounds_toArray, List.set_cons_zero, List.set_cons_succ]
    refine quiet_still rfl (.bool true) (fun w _ => by go_simp) ?_
    simp only [Act.put, List.setIfInBounds_toArray, List.set_cons_zero, List.set_cons_succ]
    refine quiet_moveV rfl _ rfl _ rfl ?_
    simp only [Act.put, List.setIfInBounds_toArray, List.set_cons_zero, List.set_cons_succ]
    refine quietW_moveV (by kernel_rfl) _ rfl _ rfl ?_
    simp only [Act.put, List.setIfInBounds_toArray, List.set_cons_zero, List.set_cons_succ]
    refine quietW_still (by kernel_rfl) (.bool true) (fun w _ => by go_simp) ?_
    simp only [Act.put, List.setIfInBounds_toArray, List.set_cons_zero, List.set_cons_succ]
    refine quietW_moveV (by kernel_rfl) _ rfl _ rfl ?_
    simp only [Act.put, List.setIfInBounds_toArray, List.set_cons_zero, List.set_cons_succ]
    refine quiet_skip (by kernel_rfl) ?_
    simp only [Act.put, List.setIfInBounds_toArray, List.set_cons_zero, List.set_cons_succ]
    refine quiet_skip (by kernel_rfl) ?_
    simp only [Act.put, List.setIfInBounds_toArray, List.set_cons_zero, List.set_cons_succ]
    refine quiet_skip (by kernel_rfl) ?_
    simp only [Act.put, List.setIfInBounds_toArray, List.set_cons_zero, List.set_cons_succ]
    refine quiet_skip (by kernel_rfl) ?_
    simp only [Act.put, List.setIfInBounds_toArray, List.set_cons_zero, List.set_cons_succ]
    refine quietW_still (by kernel_rfl) (.bool true) (fun w _ => by go_simp) ?_
    simp only [Act.put, List.setIfInBounds_toArray, List.set_cons_zero, List.set_cons_succ]
    refine quiet_still rfl (.bool true) (fun w _ => by go_simp) ?_
    simp only [Act.put, List.setIfInBounds_toArray, List.set_cons_zero, List.set_cons_succ]
    refine quiet_moveV rfl _ rfl _ rfl ?_
    simp only [Act.put, List.setIfInBounds_toArray, List.set_cons_zero, List.set_cons_succ]
    refine quietW_call (by kernel_rfl) 19 _ _ rfl (enter_of Tryd.func19 (by decide) (by intro h; cases h)) _ ((fun w' h => (H7.out w' ((HG.out.next D6.out).next h)).mono fun e w2 ⟨he, hb⟩ => ⟨he, h.trans (hb.mono h.size)⟩)) ?_
    simp only [Act.put, List.setIfInBounds_toArray, List.set_cons_zero, List.set_cons_succ]
    refine quiet_still rfl (.bool true) (fun w _ => by go_simp) ?_
    simp only [Act.put, List.setIfInBounds_toArray, List.set_cons_zero, List.set_cons_succ]
    unfold wpQuiet
    intro w7 hb
    replace h0 : w7.heap[w.heap.size]? = some (.cells #[.int .i64 l.a, .int .i64 l.b, .int .i64 l.c] 23 (0, 0)) := hb_below hb (by repeat (first | exact h0 | (refine hb_new ?_; (first | omega | (simp; omega) | (simp; done))) | (refine hb_old ?_ ?_; rotate_left; focus (first | omega | (simp; omega) | (simp; done))) | refine hb_drew ?_)) (by first | omega | (simp; omega) | (simp; done))
    replace h1 : w7.heap[w.heap.size + 1]? = some (.cells #[.int .i64 0, .int .i64 0] 25 (0, 0)) := hb_below hb (by repeat (first | exact h1 | (refine hb_new ?_; (first | omega | (simp; omega) | (simp; done))) | (refine hb_old ?_ ?_; rotate_left; focus (first | omega | (simp; omega) | (simp; done))) | refine hb_drew ?_)) (by first | omega | (simp; omega) | (simp; done))
    replace h2 : w7.heap[w1.heap.size]? = some (.cells #[.int .i64 L.a, .int .i64 L.b, .int .i64 L.c] 23 (0, 0)) := hb_below hb (by repeat (first | exact h2 | (refine hb_new ?_; (first | omega | (simp; omega) | (simp; done))) | (refine hb_old ?_ ?_; rotate_left; focus (first | omega | (simp; omega) | (simp; done))) | refine hb_drew ?_)) (by first | omega | (simp; omega) | (simp; done))
    replace h3 : w7.heap[w1.heap.size + 1]? = some (.cells #[.int .i64 m.a, .int .i64 m.b, .int .i64 m.c, .int .i64 m.d] 40 (0, 0)) := hb_below hb (by repeat (first | exact h3 | (refine hb_new ?_; (first | omega | (simp; omega) | (simp; done))) | (refine hb_old ?_ ?_; rotate_left; focus (first | omega | (simp; omega) | (simp; done))) | refine hb_drew ?_)) (by first | omega | (simp; omega) | (simp; done))
    have y7 := Below.size hb
    try simp only [World.size_alloc, World.size_drew] at y7
    have D7 := Lib.hid (show Below w.heap.size w w7 from Below.trans (by repeat (first | exact D6.out | exact Below.refl _ _ | refine Below.alloc ?_ (by first | omega | (simp; omega) | (simp; done)) _)) (Below.mono hb (by first | omega | (simp; omega) | (simp; done))))
    have z7 := D7.out.size
    clear hb
    try clear c0_0 f0_0 c0_1 f0_1 c0_2 f0_2
    obtain ⟨c0_0, f0_0, c0_1, f0_1, c0_2, f0_2⟩ := cells3 h0
    try clear c1_0 f1_0 c1_1 f1_1
    obtain ⟨c1_0, f1_0, c1_1, f1_1⟩ := cells2 h1
    try clear c2_0 f2_0 c2_1 f2_1 c2_2 f2_2
    obtain ⟨c2_0, f2_0, c2_1, f2_1, c2_2, f2_2⟩ := cells3 h2
    try clear c3_0 f3_0 c3_1 f3_1 c3_2 f3_2 c3_3 f3_3
    obtain ⟨c3_0, f3_0, c3_1, f3_1, c3_2, f3_2, c3_3, f3_3⟩ := cells4 h3
    go_wp2_with fail
    go_ret
    exact ⟨rfl, D7.out⟩
  · have hA2 : L.a ≤ n := HA.out (fun h => hz (by simpa only [Pt.mk.injEq] using h))
    have hpe : (px == 0 && py == 0) = false := by simpa using hz
    by_cases hs0 : sd = 0
    · subst hs0
      try clear c0_0 f0_0 c0_1 f0_1 c0_2 f0_2
      try clear c1_0 f1_0 c1_1 f1_1
      try clear c2_0 f2_0 c2_1 f2_1 c2_2 f2_2
      try clear c3_0 f3_0 c3_1 f3_1 c3_2 f3_2 c3_3 f3_3
      refine wp_region_class (fun w' => Below w6.heap.size w6 w') 22 (by kernel_rfl) (by kernel_rfl) (Below.refl _ w6).drew ?_
      simp only [List.take_succ_cons, List.take_zero, List.drop_succ_cons, List.drop_zero]
      refine quiet_load_mid rfl _ _ rfl _ _ rfl [.int .i64 px, .int .i64 py] _ (fun w' h => range_of_heap (hb_below h h1 (by first | omega | (simp; omega) | (simp; done)))) Tryd.underlying25 rfl (by kernel_rfl) ?_
      simp only [Act.put, List.setIfInBounds_toArray, List.set_cons_zero, List.set_cons_succ]
      refine quiet_call rfl 45 _ _ rfl (enter_of Tryd.func45 (by decide) (by intro h; cases h)) _ (in_class_b (H2.out 0 0)) ?_
      simp only [Act.put, List.setIfInBounds_toArray, List.set_cons_zero, List.set_cons_succ]
      refine quiet_still rfl (.bool false) (fun w _ => by first | (go_simp; done) | (go_simp; exact fun a b => hz ⟨a, b⟩)) ?_
      simp only [Act.put, List.setIfInBounds_toArray, List.set_cons_zero, List.set_cons_succ]
      refine quiet_moveV rfl _ rfl _ rfl ?_
      simp only [Act.put, List.setIfInBounds_toArray, List.set_cons_zero, List.set_cons_succ]
      refine quietW_moveV (by kernel_rfl) _ rfl _ rfl ?_
      simp only [Act.put, List.setIfInBounds_toArray, List.set_cons_zero, List.set_cons_succ]
      refine quietW_still (by kernel_rfl) _ (fun w _ => by go_simp; rfl) ?_
      simp only [Act.put, List.setIfInBounds_toArray, List.set_cons_zero, List.set_cons_succ]
      refine quietW_load1 (by kernel_rfl) _ _ rfl _ (by first | rfl | (go_simp; rfl)) _ (load_i64 _ _) (fun w' h => cell_of_heap (hb_below h h2 (by first | omega | (simp; omega) | (simp; done))) (j := 0) rfl) ?_
      simp only [Act.put, List.setIfInBounds_toArray, List.set_cons_zero, List.set_cons_succ]
      refine quietW_still (by kernel_rfl) (.bool true) (fun w _ => by first | (go_simp; done) | (go_simp; simp; exact hA2)) ?_
      simp only [Act.put, List.setIfInBounds_toArray, List.set_cons_zero, List.set_cons_succ]
      refine quiet_still rfl (.bool true) (fun w _ => by go_simp) ?_
      simp only [Act.put, List.setIfInBounds_toArray, List.set_cons_zero, List.set_cons_succ]
      refine quiet_moveV rfl _ rfl _ rfl ?_
      simp only [Act.put, List.setIfInBounds_toArray, List.set_cons_zero, List.set_cons_succ]
      refine quietW_moveV (by kernel_rfl) _ rfl _ rfl ?_
      simp only [Act.put, List.setIfInBounds_toArray, List.set_cons_zero, List.set_cons_succ]
      refine quietW_still (by kernel_rfl) (.bool true) (fun w _ => by go_simp) ?_
      simp only [Act.put, List.setIfInBounds_toArray, List.set_cons_zero, List.set_cons_succ]
      refine quietW_moveV (by kernel_rfl) _ rfl _ rfl ?_
      simp only [Act.put, List.setIfInBounds_toArray, List.set_cons_zero, List.set_cons_succ]
      refine quiet_skip (by kernel_rfl) ?_
      simp only [Act.put, List.setIfInBounds_toArray, List.set_cons_zero, List.set_cons_succ]
      refine quiet_skip (by kernel_rfl) ?_
      simp only [Act.put, List.setIfInBounds_toArray, List.set_cons_zero, List.set_cons_succ]
      refine quiet_skip (by kernel_rfl) ?_
      simp only [Act.put, List.setIfInBounds_toArray, List.set_cons_zero, List.set_cons_succ]
      refine quiet_skip (by kernel_rfl) ?_
      simp only [Act.put, List.setIfInBounds_toArray, List.set_cons_zero, List.set_cons_succ]
      refine quietW_still (by kernel_rfl) (.bool true) (fun w _ => by go_simp) ?_
      simp only [Act.put, List.setIfInBounds_toArray, List.set_cons_zero, List.set_cons_succ]
      refine quiet_still rfl (.bool true) (fun w _ => by go_simp) ?_
      simp only [Act.put, List.setIfInBounds_toArray, List.set_cons_zero, List.set_cons_succ]
      refine quiet_moveV rfl _ rfl _ rfl ?_
      simp only [Act.put, List.setIfInBounds_toArray, List.set_cons_zero, List.set_cons_succ]
      refine quietW_call (by kernel_rfl) 19 _ _ rfl (enter_of Tryd.func19 (by decide) (by intro h; cases h)) _ ((fun w' h => (H7.out w' ((HG.out.next D6.out).next h)).mono fun e w2 ⟨he, hb⟩ => ⟨he, h.trans (hb.mono h.size)⟩)) ?_
      simp only [Act.put, List.setIfInBounds_toArray, List.set_cons_zero, List.set_cons_succ]
      refine quiet_still rfl (.bool true) (fun w _ => by go_simp) ?_
      simp only [Act.put, List.setIfInBounds_toArray, List.set_cons_zero, List.set_cons_succ]
      unfold wpQuiet
      intro w7 hb
      replace h0 : w7.heap[w.heap.size]? = some (.cells #[.int .i64 l.a, .int .i64 l.b, .int .i64 l.c] 23 (0, 0)) := hb_below hb (by repeat (first | exact h0 | (refine hb_new ?_; (first | omega | (simp; omega) | (simp; done))) | (refine hb_old ?_ ?_; rotate_left; focus (first | omega | (simp; omega) | (simp; done))) | refine hb_drew ?_)) (by first | omega | (simp; omega) | (simp; done))
      replace h1 : w7.heap[w.heap.size + 1]? = some (.cells #[.int .i64 px, .int .i64 py] 25 (0, 0)) := hb_below hb (by repeat (first | exact h1 | (refine hb_new ?_; (first | omega | (simp; omega) | (simp; done))) | (refine hb_old ?_ ?_; rotate_left; focus (first | omega | (simp; omega) | (simp; done))) | refine hb_drew ?_)) (by first | omega | (simp; omega) | (simp; done))
      replace h2 : w7.heap[w1.heap.size]? = some (.cells #[.int .i64 L.a, .int .i64 L.b, .int .i64 L.c] 23 (0, 0)) := hb_below hb (by repeat (first | exact h2 | (refine hb_new ?_; (first | omega | (simp; omega) | (simp; done))) | (refine hb_old ?_ ?_; rotate_left; focus (first | omega | (simp; omega) | (simp; done))) | refine hb_drew ?_)) (by first | omega | (simp; omega) | (simp; done))
      replace h3 : w7.heap[w1.heap.size + 1]? = some (.cells #[.int .i64 m.a, .int .i64 m.b, .int .i64 m.c, .int .i64 m.d] 40 (0, 0)) := hb_below hb (by repeat (first | exact h3 | (refine hb_new ?_; (first | omega | (simp; omega) | (simp; done))) | (refine hb_old ?_ ?_; rotate_left; focus (first | omega | (simp; omega) | (simp; done))) | refine hb_drew ?_)) (by first | omega | (simp; omega) | (simp; done))
      have y7 := Below.size hb
      try simp only [World.size_alloc, World.size_drew] at y7
      have D7 := Lib.hid (show Below w.heap.size w w7 from Below.trans (by repeat (first | exact D6.out | exact Below.refl _ _ | refine Below.alloc ?_ (by first | omega | (simp; omega) | (simp; done)) _)) (Below.mono hb (by first | omega | (simp; omega) | (simp; done))))
      have z7 := D7.out.size
      clear hb
      try clear c0_0 f0_0 c0_1 f0_1 c0_2 f0_2
      obtain ⟨c0_0, f0_0, c0_1, f0_1, c0_2, f0_2⟩ := cells3 h0
      try clear c1_0 f1_0 c1_1 f1_1
      obtain ⟨c1_0, f1_0, c1_1, f1_1⟩ := cells2 h1
      try clear c2_0 f2_0 c2_1 f2_1 c2_2 f2_2
      obtain ⟨c2_0, f2_0, c2_1, f2_1, c2_2, f2_2⟩ := cells3 h2
      try clear c3_0 f3_0 c3_1 f3_1 c3_2 f3_2 c3_3 f3_3
      obtain ⟨c3_0, f3_0, c3_1, f3_1, c3_2, f3_2, c3_3, f3_3⟩ := cells4 h3
      go_wp2_with fail
      go_ret
      exact ⟨rfl, D7.out⟩
    · have hC2 : L.c ≤ n := HC.out hs0
      try clear c0_0 f0_0 c0_1 f0_1 c0_2 f0_2
      try clear c1_0 f1_0 c1_1 f1_1
      try clear c2_0 f2_0 c2_1 f2_1 c2_2 f2_2
      try clear c3_0 f3_0 c3_1 f3_1 c3_2 f3_2 c3_3 f3_3
      refine wp_region_class (fun w' => Below w6.heap.size w6 w') 22 (by kernel_rfl) (by kernel_rfl) (Below.refl _ w6).drew ?_
      simp only [List.take_succ_cons, List.take_zero, List.drop_succ_cons, List.drop_zero]
      refine quiet_load_mid rfl _ _ rfl _ _ rfl [.int .i64 px, .int .i64 py] _ (fun w' h => range_of_heap (hb_below h h1 (by first | omega | (simp; omega) | (simp; done)))) Tryd.underlying25 rfl (by kernel_rfl) ?_
      simp only [Act.put, List.setIfInBounds_toArray, List.set_cons_zero, List.set_cons_succ]
      refine quiet_call rfl 45 _ _ rfl (enter_of Tryd.func45 (by decide) (by intro h; cases h)) _ (in_class_b (H2.out 0 0)) ?_
      simp only [Act.put, List.setIfInBounds_toArray, List.set_cons_zero, List.set_cons_succ]
      refine quiet_still rfl (.bool false) (fun w _ => by first | (go_simp; done) | (go_simp; exact fun a b => hz ⟨a, b⟩)) ?_
      simp only [Act.put, List.setIfInBounds_toArray, List.set_cons_zero, List.set_cons_succ]
      refine quiet_moveV rfl _ rfl _ rfl ?_
      simp only [Act.put, List.setIfInBounds_toArray, List.set_cons_zero, List.set_cons_succ]
      refine quietW_moveV (by kernel_rfl) _ rfl _ rfl ?_
      simp only [Act.put, List.setIfInBounds_toArray, List.set_cons_zero, List.set_cons_succ]
      refine quietW_still (by kernel_rfl) _ (fun w _ => by go_simp; rfl) ?_
      simp only [Act.put, List.setIfInBounds_toArray, List.set_cons_zero, List.set_cons_succ]
      refine quietW_load1 (by kernel_rfl) _ _ rfl _ (by first | rfl | (go_simp; rfl)) _ (load_i64 _ _) (fun w' h => cell_of_heap (hb_below h h2 (by first | omega | (simp; omega) | (simp; done))) (j := 0) rfl) ?_
      simp only [Act.put, List.setIfInBounds_toArray, List.set_cons_zero, List.set_cons_succ]
      refine quietW_still (by kernel_rfl) (.bool true) (fun w _ => by first | (go_simp; done) | (go_simp; simp; exact hA2)) ?_
      simp only [Act.put, List.setIfInBounds_toArray, List.set_cons_zero, List.set_cons_succ]
      refine quiet_still rfl (.bool true) (fun w _ => by go_simp) ?_
      simp only [Act.put, List.setIfInBounds_toArray, List.set_cons_zero, List.set_cons_succ]
      refine quiet_moveV rfl _ rfl _ rfl ?_
      simp only [Act.put, List.setIfInBounds_toArray, List.set_cons_zero, List.set_cons_succ]
      refine quietW_moveV (by kernel_rfl) _ rfl _ rfl ?_
      simp only [Act.put, List.setIfInBounds_toArray, List.set_cons_zero, List.set_cons_succ]
      refine quietW_still (by kernel_rfl) (.bool false) (fun w _ => by first | (go_simp; done) | (go_simp; simp; exact hs0)) ?_
      simp only [Act.put, List.setIfInBounds_toArray, List.set_cons_zero, List.set_cons_succ]
      refine quietW_moveV (by kernel_rfl) _ rfl _ rfl ?_
      simp only [Act.put, List.setIfInBounds_toArray, List.set_cons_zero, List.set_cons_succ]
      refine quietW_moveV (by kernel_rfl) _ rfl _ rfl ?_
      simp only [Act.put, List.setIfInBounds_toArray, List.set_cons_zero, List.set_cons_succ]
      refine quietW_still (by kernel_rfl) _ (fun w _ => by go_simp; rfl) ?_
      simp only [Act.put, List.setIfInBounds_toArray, List.set_cons_zero, List.set_cons_succ]
      refine quietW_load1 (by kernel_rfl) _ _ rfl _ (by first | rfl | (go_simp; rfl)) _ (load_i64 _ _) (fun w' h => cell_of_heap (hb_below h h2 (by first | omega | (simp; omega) | (simp; done))) (j := 2) rfl) ?_
      simp only [Act.put, List.setIfInBounds_toArray, List.set_cons_zero, List.set_cons_succ]
      refine quietW_still (by kernel_rfl) (.bool true) (fun w _ => by first | (go_simp; done) | (go_simp; simp; exact hC2)) ?_
      simp only [Act.put, List.setIfInBounds_toArray, List.set_cons_zero, List.set_cons_succ]
      refine quietW_still (by kernel_rfl) (.bool true) (fun w _ => by go_simp) ?_
      simp only [Act.put, List.setIfInBounds_toArray, List.set_cons_zero, List.set_cons_succ]
      refine quiet_still rfl (.bool true) (fun w _ => by go_simp) ?_
      simp only [Act.put, List.setIfInBounds_toArray, List.set_cons_zero, List.set_cons_succ]
      refine quiet_moveV rfl _ rfl _ rfl ?_
      simp only [Act.put, List.setIfInBounds_toArray, List.set_cons_zero, List.set_cons_succ]
      refine quietW_call (by kernel_rfl) 19 _ _ rfl (enter_of Tryd.func19 (by decide) (by intro h; cases h)) _ ((fun w' h => (H7.out w' ((HG.out.next D6.out).next h)).mono fun e w2 ⟨he, hb⟩ => ⟨he, h.trans (hb.mono h.size)⟩)) ?_
      simp only [Act.put, List.setIfInBounds_toArray, List.set_cons_zero, List.set_cons_succ]
      refine quiet_still rfl (.bool true) (fun w _ => by go_simp) ?_
      simp only [Act.put, List.setIfInBounds_toArray, List.set_cons_zero, List.set_cons_succ]
      unfold wpQuiet
      intro w7 hb
      replace h0 : w7.heap[w.heap.size]? = some (.cells #[.int .i64 l.a, .int .i64 l.b, .int .i64 l.c] 23 (0, 0)) := hb_below hb (by repeat (first | exact h0 | (refine hb_new ?_; (first | omega | (simp; omega) | (simp; done))) | (refine hb_old ?_ ?_; rotate_left; focus (first | omega | (simp; omega) | (simp; done))) | refine hb_drew ?_)) (by first | omega | (simp; omega) | (simp; done))
      replace h1 : w7.heap[w.heap.size + 1]? = some (.cells #[.int .i64 px, .int .i64 py] 25 (0, 0)) := hb_below hb (by repeat (first | exact h1 | (refine hb_new ?_; (first | omega | (simp; omega) | (simp; done))) | (refine hb_old ?_ ?_; rotate_left; focus (first | omega | (simp; omega) | (simp; done))) | refine hb_drew ?_)) (by first | omega | (simp; omega) | (simp; done))
      replace h2 : w7.heap[w1.heap.size]? = some (.cells #[.int .i64 L.a, .int .i64 L.b, .int .i64 L.c] 23 (0, 0)) := hb_below hb (by repeat (first | exact h2 | (refine hb_new ?_; (first | omega | (simp; omega) | (simp; done))) | (refine hb_old ?_ ?_; rotate_left; focus (first | omega | (simp; omega) | (simp; done))) | refine hb_drew ?_)) (by first | omega | (simp; omega) | (simp; done))
      replace h3 : w7.heap[w1.heap.size + 1]? = some (.cells #[.int .i64 m.a, .int .i64 m.b, .int .i64 m.c, .int .i64 m.d] 40 (0, 0)) := hb_below hb (by repeat (first | exact h3 | (refine hb_new ?_; (first | omega | (simp; omega) | (simp; done))) | (refine hb_old ?_ ?_; rotate_left; focus (first | omega | (simp; omega) | (simp; done))) | refine hb_drew ?_)) (by first | omega | (simp; omega) | (simp; done))
      have y7 := Below.size hb
      try simp only [World.size_alloc, World.size_drew] at y7
      have D7 := Lib.hid (show Below w.heap.size w w7 from Below.trans (by repeat (first | exact D6.out | exact Below.refl _ _ | refine Below.alloc ?_ (by first | omega | (simp; omega) | (simp; done)) _)) (Below.mono hb (by first | omega | (simp; omega) | (simp; done))))
      have z7 := D7.out.size
      clear hb
      try clear c0_0 f0_0 c0_1 f0_1 c0_2 f0_2
      obtain ⟨c0_0, f0_0, c0_1, f0_1, c0_2, f0_2⟩ := cells3 h0
      try clear c1_0 f1_0 c1_1 f1_1
      obtain ⟨c1_0, f1_0, c1_1, f1_1⟩ := cells2 h1
      try clear c2_0 f2_0 c2_1 f2_1 c2_2 f2_2
      obtain ⟨c2_0, f2_0, c2_1, f2_1, c2_2, f2_2⟩ := cells3 h2
      try clear c3_0 f3_0 c3_1 f3_1 c3_2 f3_2 c3_3 f3_3
      obtain ⟨c3_0, f3_0, c3_1, f3_1, c3_2, f3_2, c3_3, f3_3⟩ := cells4 h3
      go_wp2_with fail
      go_ret
      exact ⟨rfl, D7.out⟩
theorem shortest_any (l : Lat) (p : Pt) (w : World) (g : Glob w) : Calls Tryd.prog 12 #[l.val, p.val] w fun e w' => e = .returned (.bool true) ∧ Below w.heap.size w w' := by
  cases h : okL l
  · exact shortest_bad l p h w g
  · exact shortest_ok l p ((okL_iff l).1 h) w g
end Go.Proofs.YtjekfkmcgfnkaaaDoor
