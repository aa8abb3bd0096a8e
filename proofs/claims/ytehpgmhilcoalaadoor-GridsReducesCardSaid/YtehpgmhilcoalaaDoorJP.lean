/- The law of Reduce. -/
import Derived.Test.YtehpgmhilcoalaaDoorJO
import Derived.Test.YtehpgmhilcoalaaDoorHC
namespace Go.Proofs.YtehpgmhilcoalaaDoor
open Go.RowKit Go.Lib
set_option linter.unusedSimpArgs false
set_option linter.unusedVariables false
set_option maxHeartbeats 4000000 in
set_option maxRecDepth 100000 in
theorem reduces_bad (l : Lat) (hl : okL l = false) (w : World) (g : Glob w) : Calls Tryd.prog 7 #[l.val] w fun e w' => e = .returned (.bool true) ∧ Below w.heap.size w w' := by
  have HG := Lib.hid g
  clear g
  have C1 := fun W => Reduce_bad l hl W
  have C2 := fun W => rReduce_bad l hl W
  have C7 := fun W g => awake_any W g
  unfold Lat.val Mat.val at *
  have H1 := Lib.hid C1
  have H2 := Lib.hid C2
  have H7 := Lib.hid C7
  clear C1 C2 C7 hl
  go_enter Tryd.func7, Tryd.ntmps7
  go_wp2_with fail
  refine (H1.out _).mono ?_
  rintro e w1 ⟨rfl, hb⟩
  have h0 : w1.heap[w.heap.size]? = some (.cells #[.int .i64 l.a, .int .i64 l.b, .int .i64 l.c] 23 (0, 0)) := hb_below hb (by repeat (first | (refine hb_new ?_; (first | omega | (simp; omega) | (simp; done))) | (refine hb_old ?_ ?_; rotate_left; focus (first | omega | (simp; omega) | (simp; done))) | refine hb_drew ?_)) (by first | omega | (simp; omega) | (simp; done))
  have y1 := Below.size hb
  try simp only [World.size_alloc, World.size_drew] at y1
  have D1 := Lib.hid (show Below w.heap.size w w1 from Below.trans (by repeat (first | exact Below.refl _ _ | refine Below.alloc ?_ (by first | omega | (simp; omega) | (simp; done)) _)) (Below.mono hb (by first | omega | (simp; omega) | (simp; done))))
  have z1 := D1.out.size
  clear hb
  try clear c0_0 f0_0 c0_1 f0_1 c0_2 f0_2
  obtain ⟨c0_0, f0_0, c0_1, f0_1, c0_2, f0_2⟩ := cells3 h0
  have ha0 : ((w1.alloc (.cells #[.int .i64 0, .int .i64 0, .int .i64 0] 23)).alloc (.cells #[.int .i64 0, .int .i64 0, .int .i64 0, .int .i64 0] 40)).heap[w.heap.size]? = some (.cells #[.int .i64 l.a, .int .i64 l.b, .int .i64 l.c] 23 (0, 0)) := (by repeat (first | exact h0 | (refine hb_new ?_; (first | omega | (simp; omega) | (simp; done))) | (refine hb_old ?_ ?_; rotate_left; focus (first | omega | (simp; omega) | (simp; done))) | refine hb_drew ?_))
  obtain ⟨ca0_0, fa0_0, ca0_1, fa0_1, ca0_2, fa0_2⟩ := cells3 ha0
  go_wp2_with fail
  obtain ⟨w2, hw2⟩ : ∃ W, W = ((w1.alloc (.cells #[.int .i64 0, .int .i64 0, .int .i64 0] 23)).alloc (.cells #[.int .i64 0, .int .i64 0, .int .i64 0, .int .i64 0] 40)) := ⟨_, rfl⟩
  rw [← hw2]
  replace h0 : w2.heap[w.heap.size]? = some (.cells #[.int .i64 l.a, .int .i64 l.b, .int .i64 l.c] 23 (0, 0)) := by rw [hw2]; exact (by repeat (first | exact h0 | (refine hb_new ?_; (first | omega | (simp; omega) | (simp; done))) | (refine hb_old ?_ ?_; rotate_left; focus (first | omega | (simp; omega) | (simp; done))) | refine hb_drew ?_))
  have h1 : w2.heap[w1.heap.size]? = some (.cells #[.int .i64 0, .int .i64 0, .int .i64 0] 23 (0, 0)) := by rw [hw2]; exact (by repeat (first | (refine hb_new ?_; (first | omega | (simp; omega) | (simp; done))) | (refine hb_old ?_ ?_; rotate_left; focus (first | omega | (simp; omega) | (simp; done))) | refine hb_drew ?_))
  have h2 : w2.heap[w1.heap.size + 1]? = some (.cells #[.int .i64 0, .int .i64 0, .int .i64 0, .int .i64 0] 40 (0, 0)) := by rw [hw2]; exact (by repeat (first | (refine hb_new ?_; (first | omega | (simp; omega) | (simp; done))) | (refine hb_old ?_ ?_; rotate_left; focus (first | omega | (simp; omega) | (simp; done))) | refine hb_drew ?_))
  have hb : Below w1.heap.size w1 w2 := by rw [hw2]; exact (by repeat (first | exact Below.refl _ _ | refine Below.alloc ?_ (by first | omega | (simp; omega) | (simp; done)) _ | refine Below.drew ?_))
  have s2 : w1.heap.size + 1 + 1 ≤ w2.heap.size := by rw [hw2]; simp
  have y2 := Below.size hb
  try simp only [World.size_alloc, World.size_drew] at y2
  have D2 := Lib.hid (show Below w.heap.size w w2 from Below.trans (by repeat (first | exact D1.out | exact Below.refl _ _ | refine Below.alloc ?_ (by first | omega | (simp; omega) | (simp; done)) _)) (Below.mono hb (by first | omega | (simp; omega) | (simp; done))))
  have z2 := D2.out.size
  clear hb hw2
  try clear c0_0 f0_0 c0_1 f0_1 c0_2 f0_2
  obtain ⟨c0_0, f0_0, c0_1, f0_1, c0_2, f0_2⟩ := cells3 h0
  try clear c1_0 f1_0 c1_1 f1_1 c1_2 f1_2
  obtain ⟨c1_0, f1_0, c1_1, f1_1, c1_2, f1_2⟩ := cells3 h1
  try clear c2_0 f2_0 c2_1 f2_1 c2_2 f2_2 c2_3 f2_3
  obtain ⟨c2_0, f2_0, c2_1, f2_1, c2_2, f2_2, c2_3, f2_3⟩ := cells4 h2
  clear ha0 ca0_0 fa0_0 ca0_1 fa0_1 ca0_2 fa0_2
  refine (H2.out _).mono ?_
  rintro e w3 ⟨rfl, hb⟩
  replace h0 : w3.heap[w.heap.size]? = some (.cells #[.int .i64 l.a, .int .i64 l.b, .int .i64 l.c] 23 (0, 0)) := hb_below hb (by repeat (first | exact h0 | (refine hb_new ?_; (first | omega | (simp; omega) | (simp; done))) | (refine hb_old ?_ ?_; rotate_left; focus (first | omega | (simp; omega) | (simp; done))) | refine hb_drew ?_)) (by first | omega | (simp; omega) | (simp; done))
  replace h1 : w3.heap[w1.heap.size]? = some (.cells #[.int .i64 0, .int .i64 0, .int .i64 0] 23 (0, 0)) := hb_below hb (by repeat (first | exact h1 | (refine hb_new ?_; (first | omega | (simp; omega) | (simp; done))) | (refine hb_old ?_ ?_; rotate_left; focus (first | omega | (simp; omega) | (simp; done))) | refine hb_drew ?_)) (by first | omega | (simp; omega) | (simp; done))
  replace h2 : w3.heap[w1.heap.size + 1]? = some (.cells #[.int .i64 0, .int .i64 0, .int .i64 0, .int .i64 0] 40 (0, 0)) := hb_below hb (by repeat (first | exact h2 | (refine hb_new ?_; (first | omega | (simp; omega) | (simp; done))) | (refine hb_old ?_ ?_; rotate_left; focus (first | omega | (simp; omega) | (simp; done))) | refine hb_drew ?_)) (by first | omega | (simp; omega) | (simp; done))
  have y3 := Below.size hb
  try simp only [World.size_alloc, World.size_drew] at y3
  have D3 := Lib.hid (show Below w.heap.size w w3 from Below.trans (by repeat (first | exact D2.out | exact Below.refl _ _ | refine Below.alloc ?_ (by first | omega | (simp; omega) | (simp; done)) _)) (Below.mono hb (by first | omega | (simp; omega) | (simp; done))))
  have z3 := D3.out.size
  clear hb
  try clear c0_0 f0_0 c0_1 f0_1 c0_2 f0_2
  obtain ⟨c0_0, f0_0, c0_1, f0_1, c0_2, f0_2⟩ := cells3 h0
  try clear c1_0 f1_0 c1_1 f1_1 c1_2 f1_2
  obtain ⟨c1_0, f1_0, c1_1, f1_1, c1_2, f1_2⟩ := cells3 h1
  try clear c2_0 f2_0 c2_1 f2_1 c2_2 f2_2 c2_3 f2_3
  obtain ⟨c2_0, f2_0, c2_1, f2_1, c2_2, f2_2, c2_3, f2_3⟩ := cells4 h2
  have ha1 : ((w3.alloc (.cells #[.int .i64 0, .int .i64 0, .int .i64 0] 23)).alloc (.cells #[.int .i64 0, .int .i64 0, .int .i64 0, .int .i64 0] 40)).heap[w1.heap.size]? = some (.cells #[.int .i64 0, .int .i64 0, .int .i64 0] 23 (0, 0)) := (by repeat (first | exact h1 | (refine hb_new ?_; (first | omega | (simp; omega) | (simp; done))) | (refine hb_old ?_ ?_; rotate_left; focus (first | omega | (simp; omega) | (simp; done))) | refine hb_drew ?_))
  obtain ⟨ca1_0, fa1_0, ca1_1, fa1_1, ca1_2, fa1_2⟩ := cells3 ha1
  have ha2 : ((w3.alloc (.cells #[.int .i64 0, .int .i64 0, .int .i64 0] 23)).alloc (.cells #[.int .i64 0, .int .i64 0, .int .i64 0, .int .i64 0] 40)).heap[w1.heap.size + 1]? = some (.cells #[.int .i64 0, .int .i64 0, .int .i64 0, .int .i64 0] 40 (0, 0)) := (by repeat (first | exact h2 | (refine hb_new ?_; (first | omega | (simp; omega) | (simp; done))) | (refine hb_old ?_ ?_; rotate_left; focus (first | omega | (simp; omega) | (simp; done))) | refine hb_drew ?_))
  obtain ⟨ca2_0, fa2_0, ca2_1, fa2_1, ca2_2, fa2_2, ca2_3, fa2_3⟩ := cells4 ha2
  go_wp2_with fail
  obtain ⟨w4, hw4⟩ : ∃ W, W = ((w3.alloc (.cells #[.int .i64 0, .int .i64 0, .int .i64 0] 23)).alloc (.cells #[.int .i64 0, .int .i64 0, .int .i64 0, .int .i64 0] 40)) := ⟨_, rfl⟩
  rw [← hw4]
  replace h0 : w4.heap[w.heap.size]? = some (.cells #[.int .i64 l.a, .int .i64 l.b, .int .i64 l.c] 23 (0, 0)) := by rw [hw4]; exact (by repeat (first | exact h0 | (refine hb_new ?_; (first | omega | (simp; omega) | (simp; done))) | (refine hb_old ?_ ?_; rotate_left; focus (first | omega | (simp; omega) | (simp; done))) | refine hb_drew ?_))
  replace h1 : w4.heap[w1.heap.size]? = some (.cells #[.int .i64 0, .int .i64 0, .int .i64 0] 23 (0, 0)) := by rw [hw4]; exact (by repeat (first | exact h1 | (refine hb_new ?_; (first | omega | (simp; omega) | (simp; done))) | (refine hb_old ?_ ?_; rotate_left; focus (first | omega | (simp; omega) | (simp; done))) | refine hb_drew ?_))
  replace h2 : w4.heap[w1.heap.size + 1]? = some (.cells #[.int .i64 0, .int .i64 0, .int .i64 0, .int .i64 0] 40 (0, 0)) := by rw [hw4]; exact (by repeat (first | exact h2 | (refine hb_new ?_; (first | omega | (simp; omega) | (simp; done))) | (refine hb_old ?_ ?_; rotate_left; focus (first | omega | (simp; omega) | (simp; done))) | refine hb_drew ?_))
  have h3 : w4.heap[w3.heap.size]? = some (.cells #[.int .i64 0, .int .i64 0, .int .i64 0] 23 (0, 0)) := by rw [hw4]; exact (by repeat (first | (refine hb_new ?_; (first | omega | (simp; omega) | (simp; done))) | (refine hb_old ?_ ?_; rotate_left; focus (first | omega | (simp; omega) | (simp; done))) | refine hb_drew ?_))
  have h4 : w4.heap[w3.heap.size + 1]? = some (.cells #[.int .i64 0, .int .i64 0, .int .i64 0, .int .i64 0] 40 (0, 0)) := by rw [hw4]; exact (by repeat (first | (refine hb_new ?_; (first | omega | (simp; omega) | (simp; done))) | (refine hb_old ?_ ?_; rotate_left; focus (first | omega | (simp; omega) | (simp; done))) | refine hb_drew ?_))
  have hb : Below w3.heap.size w3 w4 := by rw [hw4]; exact (by repeat (first | exact Below.refl _ _ | refine Below.alloc ?_ (by first | omega | (simp; omega) | (simp; done)) _ | refine Below.drew ?_))
  have s4 : w3.heap.size + 1 + 1 ≤ w4.heap.size := by rw [hw4]; simp
  have y4 := Below.size hb
  try simp only [World.size_alloc, World.size_drew] at y4
  have D4 := Lib.hid (show Below w.heap.size w w4 from Below.trans (by repeat (first | exact D3.out | exact Below.refl _ _ | refine Below.alloc ?_ (by first | omega | (simp; omega) | (simp; done)) _)) (Below.mono hb (by first | omega | (simp; omega) | (simp; done))))
  have z4 := D4.out.size
  clear hb hw4
  try clear c0_0 f0_0 c0_1 f0_1 c0_2 f0_2
  obtain ⟨c0_0, f0_0, c0_1, f0_1, c0_2, f0_2⟩ := cells3 h0
  try clear c1_0 f1_0 c1_1 f1_1 c1_2 f1_2
  obtain ⟨c1_0, f1_0, c1_1, f1_1, c1_2, f1_2⟩ := cells3 h1
  try clear c2_0 f2_0 c2_1 f2_1 c2_2 f2_2 c2_3 f2_3
  obtain ⟨c2_0, f2_0, c2_1, f2_1, c2_2, f2_2, c2_3, f2_3⟩ := cells4 h2
  try clear c3_0 f3_0 c3_1 f3_1 c3_2 f3_2
  obtain ⟨c3_0, f3_0, c3_1, f3_1, c3_2, f3_2⟩ := cells3 h3
  try clear c4_0 f4_0 c4_1 f4_1 c4_2 f4_2 c4_3 f4_3
  obtain ⟨c4_0, f4_0, c4_1, f4_1, c4_2, f4_2, c4_3, f4_3⟩ := cells4 h4
  clear ha1 ca1_0 fa1_0 ca1_1 fa1_1 ca1_2 fa1_2 ha2 ca2_0 fa2_0 ca2_1 fa2_1 ca2_2 fa2_2 ca2_3 fa2_3
  refine (H7.out _ (HG.out.next (Below.trans D4.out (by repeat (first | exact Below.refl _ _ | refine Below.alloc ?_ (by first | omega | (simp; omega) | (simp; done)) _))))).mono ?_
  rintro e w5 ⟨rfl, hb⟩
  replace h0 : w5.heap[w.heap.size]? = some (.cells #[.int .i64 l.a, .int .i64 l.b, .int .i64 l.c] 23 (0, 0)) := hb_below hb (by repeat (first | exact h0 | (refine hb_new ?_; (first | omega | (simp; omega) | (simp; done))) | (refine hb_old ?_ ?_; rotate_left; focus (first | omega | (simp; omega) | (simp; done))) | refine hb_drew ?_)) (by first | omega | (simp; omega) | (simp; done))
  replace h1 : w5.heap[w1.heap.size]? = some (.cells #[.int .i64 0, .int .i64 0, .int .i64 0] 23 (0, 0)) := hb_below hb (by repeat (first | exact h1 | (refine hb_new ?_; (first | omega | (simp; omega) | (simp; done))) | (refine hb_old ?_ ?_; rotate_left; focus (first | omega | (simp; omega) | (simp; done))) | refine hb_drew ?_)) (by first | omega | (simp; omega) | (simp; done))
  replace h2 : w5.heap[w1.heap.size + 1]? = some (.cells #[.int .i64 0, .int .i64 0, .int .i64 0, .int .i64 0] 40 (0, 0)) := hb_below hb (by repeat (first | exact h2 | (refine hb_new ?_; (first | omega | (simp; omega) | (simp; done))) | (refine hb_old ?_ ?_; rotate_left; focus (first | omega | (simp; omega) | (simp; done))) | refine hb_drew ?_)) (by first | omega | (simp; omega) | (simp; done))
  replace h3 : w5.heap[w3.heap.size]? = some (.cells #[.int .i64 0, .int .i64 0, .int .i64 0] 23 (0, 0)) := hb_below hb (by repeat (first | exact h3 | (refine hb_new ?_; (first | omega | (simp; omega) | (simp; done))) | (refine hb_old ?_ ?_; rotate_left; focus (first | omega | (simp; omega) | (simp; done))) | refine hb_drew ?_)) (by first | omega | (simp; omega) | (simp; done))
  replace h4 : w5.heap[w3.heap.size + 1]? = some (.cells #[.int .i64 0, .int .i64 0, .int .i64 0, .int .i64 0] 40 (0, 0)) := hb_below hb (by repeat (first | exact h4 | (refine hb_new ?_; (first | omega | (simp; omega) | (simp; done))) | (refine hb_old ?_ ?_; rotate_left; focus (first | omega | (simp; omega) | (simp; done))) | refine hb_drew ?_)) (by first | omega | (simp; omega) | (simp; done))
  have y5 := Below.size hb
  try simp only [World.size_alloc, World.size_drew] at y5
  have D5 := Lib.hid (show Below w.heap.size w w5 from Below.trans (by repeat (first | exact D4.out | exact Below.refl _ _ | refine Below.alloc ?_ (by first | omega | (simp; omega) | (simp; done)) _)) (Below.mono hb (by first | omega | (simp; omega) | (simp; done))))
  have z5 := D5.out.size
  clear hb
  try clear c0_0 f0_0 c0_1 f0_1 c0_2 f0_2
  obtain ⟨c0_0, f0_0, c0_1, f0_1, c0_2, f0_2⟩ := cells3 h0
  try clear c1_0 f1_0 c1_1 f1_1 c1_2 f1_2
  obtain ⟨c1_0, f1_0, c1_1, f1_1, c1_2, f1_2⟩ := cells3 h1
  try clear c2_0 f2_0 c2_1 f2_1 c2_2 f2_2 c2_3 f2_3
  obtain ⟨c2_0, f2_0, c2_1, f2_1, c2_2, f2_2, c2_3, f2_3⟩ := cells4 h2
  try clear c3_0 f3_0 c3_1 f3_1 c3_2 f3_2
  obtain ⟨c3_0, f3_0, c3_1, f3_1, c3_2, f3_2⟩ := cells3 h3
  try clear c4_0 f4_0 c4_1 f4_1 c4_2 f4_2 c4_3 f4_3
  obtain ⟨c4_0, f4_0, c4_1, f4_1, c4_2, f4_2, c4_3, f4_3⟩ := cells4 h4
  go_wp2_with fail
  go_ret
  exact ⟨by first | rfl | (simp [*]; done) | (simp; omega), D5.out⟩
set_option maxHeartbeats 4000000 in
set_option maxRecDepth 100000 in
theorem reduces_ok (l : Lat) (hl : Ok l) (w : World) (g : Glob w) : Calls Tryd.prog 7 #[l.val] w fun e w' => e = .returned (.bool true) ∧ Below w.heap.size w w' := by
  have HG := Lib.hid g
  clear g
  have C1 := fun W g => Reduce_ok l hl W g
  have C2 := fun L m h W => rReduce_ok l L m hl h W
  have C7 := fun W g => awake_any W g
  unfold Lat.val Mat.val at *
  have H1 := Lib.hid C1
  have H2 := Lib.hid C2
  have H7 := Lib.hid C7
  clear C1 C2 C7 hl
  go_enter Tryd.func7, Tryd.ntmps7
  go_wp2_with fail
  refine (H1.out _ (HG.out.next (by repeat (first | exact Below.refl _ _ | refine Below.alloc ?_ (by first | omega | (simp; omega) | (simp; done)) _)))).mono ?_
  rintro e w1 ⟨L, m, rfl, hR, hb⟩
  have h0 : w1.heap[w.heap.size]? = some (.cells #[.int .i64 l.a, .int .i64 l.b, .int .i64 l.c] 23 (0, 0)) := hb_below hb (by repeat (first | (refine hb_new ?_; (first | omega | (simp; omega) | (simp; done))) | (refine hb_old ?_ ?_; rotate_left; focus (first | omega | (simp; omega) | (simp; done))) | refine hb_drew ?_)) (by first | omega | (simp; omega) | (simp; done))
  have y1 := Below.size hb
  try simp only [World.size_alloc, World.size_drew] at y1
  have D1 := Lib.hid (show Below w.heap.size w w1 from Below.trans (by repeat (first | exact Below.refl _ _ | refine Below.alloc ?_ (by first | omega | (simp; omega) | (simp; done)) _)) (Below.mono hb (by first | omega | (simp; omega) | (simp; done))))
  have z1 := D1.out.size
  clear hb
  try clear c0_0 f0_0 c0_1 f0_1 c0_2 f0_2
  obtain ⟨c0_0, f0_0, c0_1, f0_1, c0_2, f0_2⟩ := cells3 h0
  replace H2 := Lib.hid (fun W => H2.out L m hR W)
  clear hR
  have ha0 : ((w1.alloc (.cells #[.int .i64 L.a, .int .i64 L.b, .int .i64 L.c] 23)).alloc (.cells #[.int .i64 m.a, .int .i64 m.b, .int .i64 m.c, .int .i64 m.d] 40)).heap[w.heap.size]? = some (.cells #[.int .i64 l.a, .int .i64 l.b, .int .i64 l.c] 23 (0, 0)) := (by repeat (first | exact h0 | (refine hb_new ?_; (first | omega | (simp; omega) | (simp; done))) | (refine hb_old ?_ ?_; rotate_left; focus (first | omega | (simp; omega) | (simp; done))) | refine hb_drew ?_))
  obtain ⟨ca0_0, fa0_0, ca0_1, fa0_1, ca0_2, fa0_2⟩ := cells3 ha0
  go_wp2_with fail
  obtain ⟨w2, hw2⟩ : ∃ W, W = ((w1.alloc (.cells #[.int .i64 L.a, .int .i64 L.b, .int .i64 L.c] 23)).alloc (.cells #[.int .i64 m.a, .int .i64 m.b, .int .i64 m.c, .int .i64 m.d] 40)) := ⟨_, rfl⟩
  rw [← hw2]
  replace h0 : w2.heap[w.heap.size]? = some (.cells #[.int .i64 l.a, .int .i64 l.b, .int .i64 l.c] 23 (0, 0)) := by rw [hw2]; exact (by repeat (first | exact h0 | (refine hb_new ?_; (first | omega | (simp; omega) | (simp; done))) | (refine hb_old ?_ ?_; rotate_left; focus (first | omega | (simp; omega) | (simp; done))) | refine hb_drew ?_))
  have h1 : w2.heap[w1.heap.size]? = some (.cells #[.int .i64 L.a, .int .i64 L.b, .int .i64 L.c] 23 (0, 0)) := by rw [hw2]; exact (by repeat (first | (refine hb_new ?_; (first | omega | (simp; omega) | (simp; done))) | (refine hb_old ?_ ?_; rotate_left; focus (first | omega | (simp; omega) | (simp; done))) | refine hb_drew ?_))
  have h2 : w2.heap[w1.heap.size + 1]? = some (.cells #[.int .i64 m.a, .int .i64 m.b, .int .i64 m.c, .int .i64 m.d] 40 (0, 0)) := by rw [hw2]; exact (by repeat (first | (refine hb_new ?_; (first | omega | (simp; omega) | (simp; done))) | (refine hb_old ?_ ?_; rotate_left; focus (first | omega | (simp; omega) | (simp; done))) | refine hb_drew ?_))
  have hb : Below w1.heap.size w1 w2 := by rw [hw2]; exact (by repeat (first | exact Below.refl _ _ | refine Below.alloc ?_ (by first | omega | (simp; omega) | (simp; done)) _ | refine Below.drew ?_))
  have s2 : w1.heap.size + 1 + 1 ≤ w2.heap.size := by rw [hw2]; simp
  have y2 := Below.size hb
  try simp only [World.size_alloc, World.size_drew] at y2
  have D2 := Lib.hid (show Below w.heap.size w w2 from Below.trans (by repeat (first | exact D1.out | exact Below.refl _ _ | refine Below.alloc ?_ (by first | omega | (simp; omega) | (simp; done)) _)) (Below.mono hb (by first | omega | (simp; omega) | (simp; done))))
  have z2 := D2.out.size
  clear hb hw2
  try clear c0_0 f0_0 c0_1 f0_1 c0_2 f0_2
  obtain ⟨c0_0, f0_0, c0_1, f0_1, c0_2, f0_2⟩ := cells3 h0
  try clear c1_0 f1_0 c1_1 f1_1 c1_2 f1_2
  obtain ⟨c1_0, f1_0, c1_1, f1_1, c1_2, f1_2⟩ := cells3 h1
  try clear c2_0 f2_0 c2_1 f2_1 c2_2 f2_2 c2_3 f2_3
  obtain ⟨c2_0, f2_0, c2_1, f2_1, c2_2, f2_2, c2_3, f2_3⟩ := cells4 h2
  clear ha0 ca0_0 fa0_0 ca0_1 fa0_1 ca0_2 fa0_2
  refine (H2.out _).mono ?_
  rintro e w3 ⟨rfl, hb⟩
  replace h0 : w3.heap[w.heap.size]? = some (.cells #[.int .i64 l.a, .int .i64 l.b, .int .i64 l.c] 23 (0, 0)) := hb_below hb (by repeat (first | exact h0 | (refine hb_new ?_; (first | omega | (simp; omega) | (simp; done))) | (refine hb_old ?_ ?_; rotate_left; focus (first | omega | (simp; omega) | (simp; done))) | refine hb_drew ?_)) (by first | omega | (simp; omega) | (simp; done))
  replace h1 : w3.heap[w1.heap.size]? = some (.cells #[.int .i64 L.a, .int .i64 L.b, .int .i64 L.c] 23 (0, 0)) := hb_below hb (by repeat (first | exact h1 | (refine hb_new ?_; (first | omega | (simp; omega) | (simp; done))) | (refine hb_old ?_ ?_; rotate_left; focus (first | omega | (simp; omega) | (simp; done))) | refine hb_drew ?_)) (by first | omega | (simp; omega) | (simp; done))
  replace h2 : w3.heap[w1.heap.size + 1]? = some (.cells #[.int .i64 m.a, .int .i64 m.b, .int .i64 m.c, .int .i64 m.d] 40 (0, 0)) := hb_below hb (by repeat (first | exact h2 | (refine hb_new ?_; (first | omega | (simp; omega) | (simp; done))) | (refine hb_old ?_ ?_; rotate_left; focus (first | omega | (simp; omega) | (simp; done))) | refine hb_drew ?_)) (by first | omega | (simp; omega) | (simp; done))
  have y3 := Below.size hb
  try simp only [World.size_alloc, World.size_drew] at y3
  have D3 := Lib.hid (show Below w.heap.size w w3 from Below.trans (by repeat (first | exact D2.out | exact Below.refl _ _ | refine Below.alloc ?_ (by first | omega | (simp; omega) | (simp; done)) _)) (Below.mono hb (by first | omega | (simp; omega) | (simp; done))))
  have z3 := D3.out.size
  clear hb
  try clear c0_0 f0_0 c0_1 f0_1 c0_2 f0_2
  obtain ⟨c0_0, f0_0, c0_1, f0_1, c0_2, f0_2⟩ := cells3 h0
  try clear c1_0 f1_0 c1_1 f1_1 c1_2 f1_2
  obtain ⟨c1_0, f1_0, c1_1, f1_1, c1_2, f1_2⟩ := cells3 h1
  try clear c2_0 f2_0 c2_1 f2_1 c2_2 f2_2 c2_3 f2_3
  obtain ⟨c2_0, f2_0, c2_1, f2_1, c2_2, f2_2, c2_3, f2_3⟩ := cells4 h2
  have ha1 : ((w3.alloc (.cells #[.int .i64 L.a, .int .i64 L.b, .int .i64 L.c] 23)).alloc (.cells #[.int .i64 m.a, .int .i64 m.b, .int .i64 m.c, .int .i64 m.d] 40)).heap[w1.heap.size]? = some (.cells #[.int .i64 L.a, .int .i64 L.b, .int .i64 L.c] 23 (0, 0)) := (by repeat (first | exact h1 | (refine hb_new ?_; (first | omega | (simp; omega) | (simp; done))) | (refine hb_old ?_ ?_; rotate_left; focus (first | omega | (simp; omega) | (simp; done))) | refine hb_drew ?_))
  obtain ⟨ca1_0, fa1_0, ca1_1, fa1_1, ca1_2, fa1_2⟩ := cells3 ha1
  have ha2 : ((w3.alloc (.cells #[.int .i64 L.a, .int .i64 L.b, .int .i64 L.c] 23)).alloc (.cells #[.int .i64 m.a, .int .i64 m.b, .int .i64 m.c, .int .i64 m.d] 40)).heap[w1.heap.size + 1]? = some (.cells #[.int .i64 m.a, .int .i64 m.b, .int .i64 m.c, .int .i64 m.d] 40 (0, 0)) := (by repeat (first | exact h2 | (refine hb_new ?_; (first | omega | (simp; omega) | (simp; done))) | (refine hb_old ?_ ?_; rotate_left; focus (first | omega | (simp; omega) | (simp; done))) | refine hb_drew ?_))
  obtain ⟨ca2_0, fa2_0, ca2_1, fa2_1, ca2_2, fa2_2, ca2_3, fa2_3⟩ := cells4 ha2
  go_wp2_with fail
  obtain ⟨w4, hw4⟩ : ∃ W, W = ((w3.alloc (.cells #[.int .i64 L.a, .int .i64 L.b, .int .i64 L.c] 23)).alloc (.cells #[.int .i64 m.a, .int .i64 m.b, .int .i64 m.c, .int .i64 m.d] 40)) := ⟨_, rfl⟩
  rw [← hw4]
  replace h0 : w4.heap[w.heap.size]? = some (.cells #[.int .i64 l.a, .int .i64 l.b, .int .i64 l.c] 23 (0, 0)) := by rw [hw4]; exact (by repeat (first | exact h0 | (refine hb_new ?_; (first | omega | (simp; omega) | (simp; done))) | (refine hb_old ?_ ?_; rotate_left; focus (first | omega | (simp; omega) | (simp; done))) | refine hb_drew ?_))
  replace h1 : w4.heap[w1.heap.size]? = some (.cells #[.int .i64 L.a, .int .i64 L.b, .int .i64 L.c] 23 (0, 0)) := by rw [hw4]; exact (by repeat (first | exact h1 | (refine hb_new ?_; (first | omega | (simp; omega) | (simp; done))) | (refine hb_old ?_ ?_; rotate_left; focus (first | omega | (simp; omega) | (simp; done))) | refine hb_drew ?_))
  replace h2 : w4.heap[w1.heap.size + 1]? = some (.cells #[.int .i64 m.a, .int .i64 m.b, .int .i64 m.c, .int .i64 m.d] 40 (0, 0)) := by rw [hw4]; exact (by repeat (first | exact h2 | (refine hb_new ?_; (first | omega | (simp; omega) | (simp; done))) | (refine hb_old ?_ ?_; rotate_left; focus (first | omega | (simp; omega) | (simp; done))) | refine hb_drew ?_))
  have h3 : w4.heap[w3.heap.size]? = some (.cells #[.int .i64 L.a, .int .i64 L.b, .int .i64 L.c] 23 (0, 0)) := by rw [hw4]; exact (by repeat (first | (refine hb_new ?_; (first | omega | (simp; omega) | (simp; done))) | (refine hb_old ?_ ?_; rotate_left; focus (first | omega | (simp; omega) | (simp; done))) | refine hb_drew ?_))
  have h4 : w4.heap[w3.heap.size + 1]? = some (.cells #[.int .i64 m.a, .int .i64 m.b, .int .i64 m.c, .int .i64 m.d] 40 (0, 0)) := by rw [hw4]; exact (by repeat (first | (refine hb_new ?_; (first | omega | (simp; omega) | (simp; done))) | (refine hb_old ?_ ?_; rotate_left; focus (first | omega | (simp; omega) | (simp; done))) | refine hb_drew ?_))
  have hb : Below w3.heap.size w3 w4 := by rw [hw4]; exact (by repeat (first | exact Below.refl _ _ | refine Below.alloc ?_ (by first | omega | (simp; omega) | (simp; done)) _ | refine Below.drew ?_))
  have s4 : w3.heap.size + 1 + 1 ≤ w4.heap.size := by rw [hw4]; simp
  have y4 := Below.size hb
  try simp only [World.size_alloc, World.size_drew] at y4
  have D4 := Lib.hid (show Below w.heap.size w w4 from Below.trans (by repeat (first | exact D3.out | exact Below.refl _ _ | refine Below.alloc ?_ (by first | omega | (simp; omega) | (simp; done)) _)) (Below.mono hb (by first | omega | (simp; omega) | (simp; done))))
  have z4 := D4.out.size
  clear hb hw4
  try clear c0_0 f0_0 c0_1 f0_1 c0_2 f0_2
  obtain ⟨c0_0, f0_0, c0_1, f0_1, c0_2, f0_2⟩ := cells3 h0
  try clear c1_0 f1_0 c1_1 f1_1 c1_2 f1_2
  obtain ⟨c1_0, f1_0, c1_1, f1_1, c1_2, f1_2⟩ := cells3 h1
  try clear c2_0 f2_0 c2_1 f2_1 c2_2 f2_2 c2_3 f2_3
  obtain ⟨c2_0, f2_0, c2_1, f2_1, c2_2, f2_2, c2_3, f2_3⟩ := cells4 h2
  try clear c3_0 f3_0 c3_1 f3_1 c3_2 f3_2
  obtain ⟨c3_0, f3_0, c3_1, f3_1, c3_2, f3_2⟩ := cells3 h3
  try clear c4_0 f4_0 c4_1 f4_1 c4_2 f4_2 c4_3 f4_3
  obtain ⟨c4_0, f4_0, c4_1, f4_1, c4_2, f4_2, c4_3, f4_3⟩ := cells4 h4
  clear ha1 ca1_0 fa1_0 ca1_1 fa1_1 ca1_2 fa1_2 ha2 ca2_0 fa2_0 ca2_1 fa2_1 ca2_2 fa2_2 ca2_3 fa2_3
  refine (H7.out _ (HG.out.next (Below.trans D4.out (by repeat (first | exact Below.refl _ _ | refine Below.alloc ?_ (by first | omega | (simp; omega) | (simp; done)) _))))).mono ?_
  rintro e w5 ⟨rfl, hb⟩
  replace h0 : w5.heap[w.heap.size]? = some (.cells #[.int .i64 l.a, .int .i64 l.b, .int .i64 l.c] 23 (0, 0)) := hb_below hb (by repeat (first | exact h0 | (refine hb_new ?_; (first | omega | (simp; omega) | (simp; done))) | (refine hb_old ?_ ?_; rotate_left; focus (first | omega | (simp; omega) | (simp; done))) | refine hb_drew ?_)) (by first | omega | (simp; omega) | (simp; done))
  replace h1 : w5.heap[w1.heap.size]? = some (.cells #[.int .i64 L.a, .int .i64 L.b, .int .i64 L.c] 23 (0, 0)) := hb_below hb (by repeat (first | exact h1 | (refine hb_new ?_; (first | omega | (simp; omega) | (simp; done))) | (refine hb_old ?_ ?_; rotate_left; focus (first | omega | (simp; omega) | (simp; done))) | refine hb_drew ?_)) (by first | omega | (simp; omega) | (simp; done))
  replace h2 : w5.heap[w1.heap.size + 1]? = some (.cells #[.int .i64 m.a, .int .i64 m.b, .int .i64 m.c, .int .i64 m.d] 40 (0, 0)) := hb_below hb (by repeat (first | exact h2 | (refine hb_new ?_; (first | omega | (simp; omega) | (simp; done))) | (refine hb_old ?_ ?_; rotate_left; focus (first | omega | (simp; omega) | (simp; done))) | refine hb_drew ?_)) (by first | omega | (simp; omega) | (simp; done))
  replace h3 : w5.heap[w3.heap.size]? = some (.cells #[.int .i64 L.a, .int .i64 L.b, .int .i64 L.c] 23 (0, 0)) := hb_below hb (by repeat (first | exact h3 | (refine hb_new ?_; (first | omega | (simp; omega) | (simp; done))) | (refine hb_old ?_ ?_; rotate_left; focus (first | omega | (simp; omega) | (simp; done))) | refine hb_drew ?_)) (by first | omega | (simp; omega) | (simp; done))
  replace h4 : w5.heap[w3.heap.size + 1]? = some (.cells #[.int .i64 m.a, .int .i64 m.b, .int .i64 m.c, .int .i64 m.d] 40 (0, 0)) := hb_below hb (by repeat (first | exact h4 | (refine hb_new ?_; (first | omega | (simp; omega) | (simp; done))) | (refine hb_old ?_ ?_; rotate_left; focus (first | omega | (simp; omega) | (simp; done))) | refine hb_drew ?_)) (by first | omega | (simp; omega) | (simp; done))
  have y5 := Below.size hb
  try simp only [World.size_alloc, World.size_drew] at y5
  have D5 := Lib.hid (show Below w.heap.size w w5 from Below.trans (by repeat (first | exact D4.out | exact Below.refl _ _ | refine Below.alloc ?_ (by first | omega | (simp; omega) | (simp; done)) _)) (Below.mono hb (by first | omega | (simp; omega) | (simp; done))))
  have z5 := D5.out.size
  clear hb
  try clear c0_0 f0_0 c0_1 f0_1 c0_2 f0_2
  obtain ⟨c0_0, f0_0, c0_1, f0_1, c0_2, f0_2⟩ := cells3 h0
  try clear c1_0 f1_0 c1_1 f1_1 c1_2 f1_2
  obtain ⟨c1_0, f1_0, c1_1, f1_1, c1_2, f1_2⟩ := cells3 h1
  try clear c2_0 f2_0 c2_1 f2_1 c2_2 f2_2 c2_3 f2_3
  obtain ⟨c2_0, f2_0, c2_1, f2_1, c2_2, f2_2, c2_3, f2_3⟩ := cells4 h2
  try clear c3_0 f3_0 c3_1 f3_1 c3_2 f3_2
  obtain ⟨c3_0, f3_0, c3_1, f3_1, c3_2, f3_2⟩ := cells3 h3
  try clear c4_0 f4_0 c4_1 f4_1 c4_2 f4_2 c4_3 f4_3
  obtain ⟨c4_0, f4_0, c4_1, f4_1, c4_2, f4_2, c4_3, f4_3⟩ := cells4 h4
  go_wp2_with fail
  go_ret
  exact ⟨by first | rfl | (simp [*]; done) | (simp; omega), D5.out⟩
theorem reduces_any (l : Lat) (w : World) (g : Glob w) : Calls Tryd.prog 7 #[l.val] w fun e w' => e = .returned (.bool true) ∧ Below w.heap.size w w' := by
  cases h : okL l
  · exact reduces_bad l h w g
  · exact reduces_ok l ((okL_iff l).1 h) w g
end Go.Proofs.YtehpgmhilcoalaaDoor
