/- The law of sides. -/
import Derived.Test.YtjekfkmcgfnkaaaDoorHD
import Derived.Test.YtjekfkmcgfnkaaaDoorIC
namespace Go.Proofs.YtjekfkmcgfnkaaaDoor
open Go.RowKit Go.Lib
set_option linter.unusedSimpArgs false
set_option linter.unusedVariables false
set_option maxHeartbeats 4000000 in
set_option maxRecDepth 100000 in
theorem sides_any (x : Four) (w : World) (g : Glob w) : Calls Tryd.prog 4 #[x.val] w fun e w' => e = .returned (.bool true) ∧ Below w.heap.size w w' := by
  have C1 := fun W => Side_any x.p x.q x.r W
  have C2 := fun W => rSide_any x.p x.q x.r W
  have C3 := fun W => Turn_any x.o x.p x.q x.r W
  have C4 := fun W => rTurn_any x.o x.p x.q x.r W
  generalize gv (okP x.p && okP x.q && okP x.r) _ = z1 at *
  generalize errIf (okP x.p && okP x.q && okP x.r) = z2 at *
  generalize gv (okT x.o x.p x.q x.r) _ = z3 at *
  generalize errIf (okT x.o x.p x.q x.r) = z4 at *
  have HG := Lib.hid g
  clear g
  have C7 := fun W g => awake_any W g
  unfold Four.val
  unfold Pt.val at *
  have H1 := Lib.hid C1
  have H2 := Lib.hid C2
  have H3 := Lib.hid C3
  have H4 := Lib.hid C4
  have H7 := Lib.hid C7
  clear C1 C2 C3 C4 C7
  go_enter Tryd.func4, Tryd.ntmps4
  go_wp2_with fail
  refine (H1.out _).mono ?_
  rintro e w1 ⟨rfl, hb⟩
  have h0 : w1.heap[w.heap.size]? = some (.cells #[.int .i64 x.o.x, .int .i64 x.o.y, .int .i64 x.p.x, .int .i64 x.p.y, .int .i64 x.q.x, .int .i64 x.q.y, .int .i64 x.r.x, .int .i64 x.r.y] 27 (0, 0)) := hb_below hb (by repeat (first | (refine hb_new ?_; (first | omega | (simp; omega) | (simp; done))) | (refine hb_old ?_ ?_; rotate_left; focus (first | omega | (simp; omega) | (simp; done))) | refine hb_drew ?_)) (by first | omega | (simp; omega) | (simp; done))
  have y1 := Below.size hb
  try simp only [World.size_alloc, World.size_drew] at y1
  have D1 := Lib.hid (show Below w.heap.size w w1 from Below.trans (by repeat (first | exact Below.refl _ _ | refine Below.alloc ?_ (by first | omega | (simp; omega) | (simp; done)) _)) (Below.mono hb (by first | omega | (simp; omega) | (simp; done))))
  have z1 := D1.out.size
  clear hb
  try clear c0_0
  have c0_0 := cell_of_heap h0 (j := 0) rfl
  try clear f0_0
  have f0_0 := frozen_of_heap h0 0
  try clear c0_1
  have c0_1 := cell_of_heap h0 (j := 1) rfl
  try clear f0_1
  have f0_1 := frozen_of_heap h0 1
  try clear c0_2
  have c0_2 := cell_of_heap h0 (j := 2) rfl
  try clear f0_2
  have f0_2 := frozen_of_heap h0 2
  try clear c0_3
  have c0_3 := cell_of_heap h0 (j := 3) rfl
  try clear f0_3
  have f0_3 := frozen_of_heap h0 3
  try clear c0_4
  have c0_4 := cell_of_heap h0 (j := 4) rfl
  try clear f0_4
  have f0_4 := frozen_of_heap h0 4
  try clear c0_5
  have c0_5 := cell_of_heap h0 (j := 5) rfl
  try clear f0_5
  have f0_5 := frozen_of_heap h0 5
  try clear c0_6
  have c0_6 := cell_of_heap h0 (j := 6) rfl
  try clear f0_6
  have f0_6 := frozen_of_heap h0 6
  try clear c0_7
  have c0_7 := cell_of_heap h0 (j := 7) rfl
  try clear f0_7
  have f0_7 := frozen_of_heap h0 7
  go_wp2_with fail
  refine (H2.out _).mono ?_
  rintro e w2 ⟨rfl, hb⟩
  replace h0 : w2.heap[w.heap.size]? = some (.cells #[.int .i64 x.o.x, .int .i64 x.o.y, .int .i64 x.p.x, .int .i64 x.p.y, .int .i64 x.q.x, .int .i64 x.q.y, .int .i64 x.r.x, .int .i64 x.r.y] 27 (0, 0)) := hb_below hb (by repeat (first | exact h0 | (refine hb_new ?_; (first | omega | (simp; omega) | (simp; done))) | (refine hb_old ?_ ?_; rotate_left; focus (first | omega | (simp; omega) | (simp; done))) | refine hb_drew ?_)) (by first | omega | (simp; omega) | (simp; done))
  have y2 := Below.size hb
  try simp only [World.size_alloc, World.size_drew] at y2
  have D2 := Lib.hid (show Below w.heap.size w w2 from Below.trans (by repeat (first | exact D1.out | exact Below.refl _ _ | refine Below.alloc ?_ (by first | omega | (simp; omega) | (simp; done)) _)) (Below.mono hb (by first | omega | (simp; omega) | (simp; done))))
  have z2 := D2.out.size
  clear hb
  try clear c0_0
  have c0_0 := cell_of_heap h0 (j := 0) rfl
  try clear f0_0
  have f0_0 := frozen_of_heap h0 0
  try clear c0_1
  have c0_1 := cell_of_heap h0 (j := 1) rfl
  try clear f0_1
  have f0_1 := frozen_of_heap h0 1
  try clear c0_2
  have c0_2 := cell_of_heap h0 (j := 2) rfl
  try clear f0_2
  have f0_2 := frozen_of_heap h0 2
  try clear c0_3
  have c0_3 := cell_of_heap h0 (j := 3) rfl
  try clear f0_3
  have f0_3 := frozen_of_heap h0 3
  try clear c0_4
  have c0_4 := cell_of_heap h0 (j := 4) rfl
  try clear f0_4
  have f0_4 := frozen_of_heap h0 4
  try clear c0_5
  have c0_5 := cell_of_heap h0 (j := 5) rfl
  try clear f0_5
  have f0_5 := frozen_of_heap h0 5
  try clear c0_6
  have c0_6 := cell_of_heap h0 (j := 6) rfl
  try clear f0_6
  have f0_6 := frozen_of_heap h0 6
  try clear c0_7
  have c0_7 := cell_of_heap h0 (j := 7) rfl
  try clear f0_7
  have f0_7 := frozen_of_heap h0 7
  go_wp2_with fail
  refine (H3.out _).mono ?_
  rintro e w3 ⟨rfl, hb⟩
  replace h0 : w3.heap[w.heap.size]? = some (.cells #[.int .i64 x.o.x, .int .i64 x.o.y, .int .i64 x.p.x, .int .i64 x.p.y, .int .i64 x.q.x, .int .i64 x.q.y, .int .i64 x.r.x, .int .i64 x.r.y] 27 (0, 0)) := hb_below hb (by repeat (first | exact h0 | (refine hb_new ?_; (first | omega | (simp; omega) | (simp; done))) | (refine hb_old ?_ ?_; rotate_left; focus (first | omega | (simp; omega) | (simp; done))) | refine hb_drew ?_)) (by first | omega | (simp; omega) | (simp; done))
  have y3 := Below.size hb
  try simp only [World.size_alloc, World.size_drew] at y3
  have D3 := Lib.hid (show Below w.heap.size w w3 from Below.trans (by repeat (first | exact D2.out | exact Below.refl _ _ | refine Below.alloc ?_ (by first | omega | (simp; omega) | (simp; done)) _)) (Below.mono hb (by first | omega | (simp; omega) | (simp; done))))
  have z3 := D3.out.size
  clear hb
  try clear c0_0
  have c0_0 := cell_of_heap h0 (j := 0) rfl
  try clear f0_0
  have f0_0 := frozen_of_heap h0 0
  try clear c0_1
  have c0_1 := cell_of_heap h0 (j := 1) rfl
  try clear f0_1
  have f0_1 := frozen_of_heap h0 1
  try clear c0_2
  have c0_2 := cell_of_heap h0 (j := 2) rfl
  try clear f0_2
  have f0_2 := frozen_of_heap h0 2
  try clear c0_3
  have c0_3 := cell_of_heap h0 (j := 3) rfl
  try clear f0_3
  have f0_3 := frozen_of_heap h0 3
  try clear c0_4
  have c0_4 := cell_of_heap h0 (j := 4) rfl
  try clear f0_4
  have f0_4 := frozen_of_heap h0 4
  try clear c0_5
  have c0_5 := cell_of_heap h0 (j := 5) rfl
  try clear f0_5
  have f0_5 := frozen_of_heap h0 5
  try clear c0_6
  have c0_6 := cell_of_heap h0 (j := 6) rfl
  try clear f0_6
  have f0_6 := frozen_of_heap h0 6
  try clear c0_7
  have c0_7 := cell_of_heap h0 (j := 7) rfl
  try clear f0_7
  have f0_7 := frozen_of_heap h0 7
  go_wp2_with fail
  refine (H4.out _).mono ?_
  rintro e w4 ⟨rfl, hb⟩
  replace h0 : w4.heap[w.heap.size]? = some (.cells #[.int .i64 x.o.x, .int .i64 x.o.y, .int .i64 x.p.x, .int .i64 x.p.y, .int .i64 x.q.x, .int .i64 x.q.y, .int .i64 x.r.x, .int .i64 x.r.y] 27 (0, 0)) := hb_below hb (by repeat (first | exact h0 | (refine hb_new ?_; (first | omega | (simp; omega) | (simp; done))) | (refine hb_old ?_ ?_; rotate_left; focus (first | omega | (simp; omega) | (simp; done))) | refine hb_drew ?_)) (by first | omega | (simp; omega) | (simp; done))
  have y4 := Below.size hb
  try simp only [World.size_alloc, World.size_drew] at y4
  have D4 := Lib.hid (show Below w.heap.size w w4 from Below.trans (by repeat (first | exact D3.out | exact Below.refl _ _ | refine Below.alloc ?_ (by first | omega | (simp; omega) | (simp; done)) _)) (Below.mono hb (by first | omega | (simp; omega) | (simp; done))))
  have z4 := D4.out.size
  clear hb
  try clear c0_0
  have c0_0 := cell_of_heap h0 (j := 0) rfl
  try clear f0_0
  have f0_0 := frozen_of_heap h0 0
  try clear c0_1
  have c0_1 := cell_of_heap h0 (j := 1) rfl
  try clear f0_1
  have f0_1 := frozen_of_heap h0 1
  try clear c0_2
  have c0_2 := cell_of_heap h0 (j := 2) rfl
  try clear f0_2
  have f0_2 := frozen_of_heap h0 2
  try clear c0_3
  have c0_3 := cell_of_heap h0 (j := 3) rfl
  try clear f0_3
  have f0_3 := frozen_of_heap h0 3
  try clear c0_4
  have c0_4 := cell_of_heap h0 (j := 4) rfl
  try clear f0_4
  have f0_4 := frozen_of_heap h0 4
  try clear c0_5
  have c0_5 := cell_of_heap h0 (j := 5) rfl
  try clear f0_5
  have f0_5 := frozen_of_heap h0 5
  try clear c0_6
  have c0_6 := cell_of_heap h0 (j := 6) rfl
  try clear f0_6
  have f0_6 := frozen_of_heap h0 6
  try clear c0_7
  have c0_7 := cell_of_heap h0 (j := 7) rfl
  try clear f0_7
  have f0_7 := frozen_of_heap h0 7
  go_wp2_with fail
  refine (H7.out _ (HG.out.next (Below.trans D4.out (by repeat (first | exact Below.refl _ _ | refine Below.alloc ?_ (by first | omega | (simp; omega) | (simp; done)) _))))).mono ?_
  rintro e w5 ⟨rfl, hb⟩
  replace h0 : w5.heap[w.heap.size]? = some (.cells #[.int .i64 x.o.x, .int .i64 x.o.y, .int .i64 x.p.x, .int .i64 x.p.y, .int .i64 x.q.x, .int .i64 x.q.y, .int .i64 x.r.x, .int .i64 x.r.y] 27 (0, 0)) := hb_below hb (by repeat (first | exact h0 | (refine hb_new ?_; (first | omega | (simp; omega) | (simp; done))) | (refine hb_old ?_ ?_; rotate_left; focus (first | omega | (simp; omega) | (simp; done))) | refine hb_drew ?_)) (by first | omega | (simp; omega) | (simp; done))
  have y5 := Below.size hb
  try simp only [World.size_alloc, World.size_drew] at y5
  have D5 := Lib.hid (show Below w.heap.size w w5 from Below.trans (by repeat (first | exact D4.out | exact Below.refl _ _ | refine Below.alloc ?_ (by first | omega | (simp; omega) | (simp; done)) _)) (Below.mono hb (by first | omega | (simp; omega) | (simp; done))))
  have z5 := D5.out.size
  clear hb
  try clear c0_0
  have c0_0 := cell_of_heap h0 (j := 0) rfl
  try clear f0_0
  have f0_0 := frozen_of_heap h0 0
  try clear c0_1
  have c0_1 := cell_of_heap h0 (j := 1) rfl
  try clear f0_1
  have f0_1 := frozen_of_heap h0 1
  try clear c0_2
  have c0_2 := cell_of_heap h0 (j := 2) rfl
  try clear f0_2
  have f0_2 := frozen_of_heap h0 2
  try clear c0_3
  have c0_3 := cell_of_heap h0 (j := 3) rfl
  try clear f0_3
  have f0_3 := frozen_of_heap h0 3
  try clear c0_4
  have c0_4 := cell_of_heap h0 (j := 4) rfl
  try clear f0_4
  have f0_4 := frozen_of_heap h0 4
  try clear c0_5
  have c0_5 := cell_of_heap h0 (j := 5) rfl
  try clear f0_5
  have f0_5 := frozen_of_heap h0 5
  try clear c0_6
  have c0_6 := cell_of_heap h0 (j := 6) rfl
  try clear f0_6
  have f0_6 := frozen_of_heap h0 6
  try clear c0_7
  have c0_7 := cell_of_heap h0 (j := 7) rfl
  try clear f0_7
  have f0_7 := frozen_of_heap h0 7
  go_wp2_with fail
  go_ret
  exact ⟨by first | rfl | (simp [*]; done) | (simp; omega), D5.out⟩
end Go.Proofs.YtjekfkmcgfnkaaaDoor
