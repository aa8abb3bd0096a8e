/- The law of measures. -/
import Derived.Test.YtjekfkmcgfnkaaaDoorHC
namespace Go.Proofs.YtjekfkmcgfnkaaaDoor
open Go.RowKit Go.Lib
set_option linter.unusedSimpArgs false
set_option linter.unusedVariables false
structure Four where (o p q r : Pt)
def Four.val (x : Four) : Value := .agg #[.int .i64 x.o.x, .int .i64 x.o.y, .int .i64 x.p.x, .int .i64 x.p.y, .int .i64 x.q.x, .int .i64 x.q.y, .int .i64 x.r.x, .int .i64 x.r.y]
set_option maxHeartbeats 4000000 in
set_option maxRecDepth 100000 in
theorem measures_any (l : Lat) (x : Four) (w : World) (g : Glob w) : Calls Tryd.prog 3 #[l.val, x.val] w fun e w' => e = .returned (.bool true) ∧ Below w.heap.size w w' := by
  have C1 := fun W => Square_any l x.p x.q W
  rw [show (okP x.p && okP x.q && okP x.q) = (okP x.p && okP x.q) by rw [Bool.and_assoc, Bool.and_self]] at C1
  have C2 := fun W => rSquare_any l x.p x.q W
  have C3 := fun W => Dot_any l x.o x.p x.q W
  have C4 := fun W => rDot_any l x.o x.p x.q W
  have C5 := fun W => Check_any l W
  have C6 := fun W => rCheck_any l W
  generalize gv (okL l && (okP x.p && okP x.q)) _ = z1 at *
  generalize errIf (okL l && (okP x.p && okP x.q)) = z2 at *
  generalize gv (okL l && (okP x.o && okP x.p && okP x.q)) _ = z3 at *
  generalize errIf (okL l && (okP x.o && okP x.p && okP x.q)) = z4 at *
  generalize errIf (okL l) = z5 at *
  have HG := Lib.hid g
  clear g
  have C7 := fun W g => awake_any W g
  unfold Four.val
  unfold Lat.val Pt.val at *
  have H1 := Lib.hid C1
  have H2 := Lib.hid C2
  have H3 := Lib.hid C3
  have H4 := Lib.hid C4
  have H5 := Lib.hid C5
  have H6 := Lib.hid C6
  have H7 := Lib.hid C7
  clear C1 C2 C3 C4 C5 C6 C7
  go_enter Tryd.func3, Tryd.ntmps3
  go_wp2_with fail
  go_wp2_with fail
  refine (H1.out _).mono ?_
  rintro e w1 ⟨rfl, hb⟩
  have h0 : w1.heap[w.heap.size]? = some (.cells #[.int .i64 l.a, .int .i64 l.b, .int .i64 l.c] 23 (0, 0)) := hb_below hb (by repeat (first | (refine hb_new ?_; (first | omega | (simp; omega) | (simp; done))) | (refine hb_old ?_ ?_; rotate_left; focus (first | omega | (simp; omega) | (simp; done))) | refine hb_drew ?_)) (by first | omega | (simp; omega) | (simp; done))
  have h1 : w1.heap[w.heap.size + 1]? = some (.cells #[.int .i64 x.o.x, .int .i64 x.o.y, .int .i64 x.p.x, .int .i64 x.p.y, .int .i64 x.q.x, .int .i64 x.q.y, .int .i64 x.r.x, .int .i64 x.r.y] 27 (0, 0)) := hb_below hb (by repeat (first | (refine hb_new ?_; (first | omega | (simp; omega) | (simp; done))) | (refine hb_old ?_ ?_; rotate_left; focus (first | omega | (simp; omega) | (simp; done))) | refine hb_drew ?_)) (by first | omega | (simp; omega) | (simp; done))
  have y1 := Below.size hb
  try simp only [World.size_alloc, World.size_drew] at y1
  have D1 := Lib.hid (show Below w.heap.size w w1 from Below.trans (by repeat (first | exact Below.refl _ _ | refine Below.alloc ?_ (by first | omega | (simp; omega) | (simp; done)) _)) (Below.mono hb (by first | omega | (simp; omega) | (simp; done))))
  have z1 := D1.out.size
  clear hb
  try clear c0_0
  have c0_0 := cell_of_heap h0 (j := 0) rfl
  try clear f0_0
  have f0_0 := frozen_of_heap h0 0
  try clear c0_1
  have c0_1 := cell_of_heap h0 (j := 1) rfl
  try clear f0_1
  have f0_1 := frozen_of_heap h0 1
  try clear c0_2
  have c0_2 := cell_of_heap h0 (j := 2) rfl
  try clear f0_2
  have f0_2 := frozen_of_heap h0 2
  try clear c1_0
  have c1_0 := cell_of_heap h1 (j := 0) rfl
  try clear f1_0
  have f1_0 := frozen_of_heap h1 0
  try clear c1_1
  have c1_1 := cell_of_heap h1 (j := 1) rfl
  try clear f1_1
  have f1_1 := frozen_of_heap h1 1
  try clear c1_2
  have c1_2 := cell_of_heap h1 (j := 2) rfl
  try clear f1_2
  have f1_2 := frozen_of_heap h1 2
  try clear c1_3
  have c1_3 := cell_of_heap h1 (j := 3) rfl
  try clear f1_3
  have f1_3 := frozen_of_heap h1 3
  try clear c1_4
  have c1_4 := cell_of_heap h1 (j := 4) rfl
  try clear f1_4
  have f1_4 := frozen_of_heap h1 4
  try clear c1_5
  have c1_5 := cell_of_heap h1 (j := 5) rfl
  try clear f1_5
  have f1_5 := frozen_of_heap h1 5
  try clear c1_6
  have c1_6 := cell_of_heap h1 (j := 6) rfl
  try clear f1_6
  have f1_6 := frozen_of_heap h1 6
  try clear c1_7
  have c1_7 := cell_of_heap h1 (j := 7) rfl
  try clear f1_7
  have f1_7 := frozen_of_heap h1 7
  go_wp2_with fail
  refine (H2.out _).mono ?_
  rintro e w2 ⟨rfl, hb⟩
  replace h0 : w2.heap[w.heap.size]? = some (.cells #[.int .i64 l.a, .int .i64 l.b, .int .i64 l.c] 23 (0, 0)) := hb_below hb (by repeat (first | exact h0 | (refine hb_new ?_; (first | omega | (simp; omega) | (simp; done))) | (refine hb_old ?_ ?_; rotate_left; focus (first | omega | (simp; omega) | (simp; done))) | refine hb_drew ?_)) (by first | omega | (simp; omega) | (simp; done))
  replace h1 : w2.heap[w.heap.size + 1]? = some (.cells #[.int .i64 x.o.x, .int .i64 x.o.y, .int .i64 x.p.x, .int .i64 x.p.y, .int .i64 x.q.x, .int .i64 x.q.y, .int .i64 x.r.x, .int .i64 x.r.y] 27 (0, 0)) := hb_below hb (by repeat (first | exact h1 | (refine hb_new ?_; (first | omega | (simp; omega) | (simp; done))) | (refine hb_old ?_ ?_; rotate_left; focus (first | omega | (simp; omega) | (simp; done))) | refine hb_drew ?_)) (by first | omega | (simp; omega) | (simp; done))
  have y2 := Below.size hb
  try simp only [World.size_alloc, World.size_drew] at y2
  have D2 := Lib.hid (show Below w.heap.size w w2 from Below.trans (by repeat (first | exact D1.out | exact Below.refl _ _ | refine Below.alloc ?_ (by first | omega | (simp; omega) | (simp; done)) _)) (Below.mono hb (by first | omega | (simp; omega) | (simp; done))))
  have z2 := D2.out.size
  clear hb
  try clear c0_0
  have c0_0 := cell_of_heap h0 (j := 0) rfl
  try clear f0_0
  have f0_0 := frozen_of_heap h0 0
  try clear c0_1
  have c0_1 := cell_of_heap h0 (j := 1) rfl
  try clear f0_1
  have f0_1 := frozen_of_heap h0 1
  try clear c0_2
  have c0_2 := cell_of_heap h0 (j := 2) rfl
  try clear f0_2
  have f0_2 := frozen_of_heap h0 2
  try clear c1_0
  have c1_0 := cell_of_heap h1 (j := 0) rfl
  try clear f1_0
  have f1_0 := frozen_of_heap h1 0
  try clear c1_1
  have c1_1 := cell_of_heap h1 (j := 1) rfl
  try clear f1_1
  have f1_1 := frozen_of_heap h1 1
  try clear c1_2
  have c1_2 := cell_of_heap h1 (j := 2) rfl
  try clear f1_2
  have f1_2 := frozen_of_heap h1 2
  try clear c1_3
  have c1_3 := cell_of_heap h1 (j := 3) rfl
  try clear f1_3
  have f1_3 := frozen_of_heap h1 3
  try clear c1_4
  have c1_4 := cell_of_heap h1 (j := 4) rfl
  try clear f1_4
  have f1_4 := frozen_of_heap h1 4
  try clear c1_5
  have c1_5 := cell_of_heap h1 (j := 5) rfl
  try clear f1_5
  have f1_5 := frozen_of_heap h1 5
  try clear c1_6
  have c1_6 := cell_of_heap h1 (j := 6) rfl
  try clear f1_6
  have f1_6 := frozen_of_heap h1 6
  try clear c1_7
  have c1_7 := cell_of_heap h1 (j := 7) rfl
  try clear f1_7
  have f1_7 := frozen_of_heap h1 7
  go_wp2_with fail
  refine (H3.out _).mono ?_
  rintro e w3 ⟨rfl, hb⟩
  replace h0 : w3.heap[w.heap.size]? = some (.cells #[.int .i64 l.a, .int .i64 l.b, .int .i64 l.c] 23 (0, 0)) := hb_below hb (by repeat (first | exact h0 | (refine hb_new ?_; (first | omega | (simp; omega) | (simp; done))) | (refine hb_old ?_ ?_; rotate_left; focus (first | omega | (simp; omega) | (simp; done))) | refine hb_drew ?_)) (by first | omega | (simp; omega) | (simp; done))
  replace h1 : w3.heap[w.heap.size + 1]? = some (.cells #[.int .i64 x.o.x, .int .i64 x.o.y, .int .i64 x.p.x, .int .i64 x.p.y, .int .i64 x.q.x, .int .i64 x.q.y, .int .i64 x.r.x, .int .i64 x.r.y] 27 (0, 0)) := hb_below hb (by repeat (first | exact h1 | (refine hb_new ?_; (first | omega | (simp; omega) | (simp; done))) | (refine hb_old ?_ ?_; rotate_left; focus (first | omega | (simp; omega) | (simp; done))) | refine hb_drew ?_)) (by first | omega | (simp; omega) | (simp; done))
  have y3 := Below.size hb
  try simp only [World.size_alloc, World.size_drew] at y3
  have D3 := Lib.hid (show Below w.heap.size w w3 from Below.trans (by repeat (first | exact D2.out | exact Below.refl _ _ | refine Below.alloc ?_ (by first | omega | (simp; omega) | (simp; done)) _)) (Below.mono hb (by first | omega | (simp; omega) | (simp; done))))
  have z3 := D3.out.size
  clear hb
  try clear c0_0
  have c0_0 := cell_of_heap h0 (j := 0) rfl
  try clear f0_0
  have f0_0 := frozen_of_heap h0 0
  try clear c0_1
  have c0_1 := cell_of_heap h0 (j := 1) rfl
  try clear f0_1
  have f0_1 := frozen_of_heap h0 1
  try clear c0_2
  have c0_2 := cell_of_heap h0 (j := 2) rfl
  try clear f0_2
  have f0_2 := frozen_of_heap h0 2
  try clear c1_0
  have c1_0 := cell_of_heap h1 (j := 0) rfl
  try clear f1_0
  have f1_0 := frozen_of_heap h1 0
  try clear c1_1
  have c1_1 := cell_of_heap h1 (j := 1) rfl
  try clear f1_1
  have f1_1 := frozen_of_heap h1 1
  try clear c1_2
  have c1_2 := cell_of_heap h1 (j := 2) rfl
  try clear f1_2
  have f1_2 := frozen_of_heap h1 2
  try clear c1_3
  have c1_3 := cell_of_heap h1 (j := 3) rfl
  try clear f1_3
  have f1_3 := frozen_of_heap h1 3
  try clear c1_4
  have c1_4 := cell_of_heap h1 (j := 4) rfl
  try clear f1_4
  have f1_4 := frozen_of_heap h1 4
  try clear c1_5
  have c1_5 := cell_of_heap h1 (j := 5) rfl
  try clear f1_5
  have f1_5 := frozen_of_heap h1 5
  try clear c1_6
  have c1_6 := cell_of_heap h1 (j := 6) rfl
  try clear f1_6
  have f1_6 := frozen_of_heap h1 6
  try clear c1_7
  have c1_7 := cell_of_heap h1 (j := 7) rfl
  try clear f1_7
  have f1_7 := frozen_of_heap h1 7
  go_wp2_with fail
  refine (H4.out _).mono ?_
  rintro e w4 ⟨rfl, hb⟩
  replace h0 : w4.heap[w.heap.size]? = some (.cells #[.int .i64 l.a, .int .i64 l.b, .int .i64 l.c] 23 (0, 0)) := hb_below hb (by repeat (first | exact h0 | (refine hb_new ?_; (first | omega | (simp; omega) | (simp; done))) | (refine hb_old ?_ ?_; rotate_left; focus (first | omega | (simp; omega) | (simp; done))) | refine hb_drew ?_)) (by first | omega | (simp; omega) | (simp; done))
  replace h1 : w4.heap[w.heap.size + 1]? = some (.cells #[.int .i64 x.o.x, .int .i64 x.o.y, .int .i64 x.p.x, .int .i64 x.p.y, .int .i64 x.q.x, .int .i64 x.q.y, .int .i64 x.r.x, .int .i64 x.r.y] 27 (0, 0)) := hb_below hb (by repeat (first | exact h1 | (refine hb_new ?_; (first | omega | (simp; omega) | (simp; done))) | (refine hb_old ?_ ?_; rotate_left; focus (first | omega | (simp; omega) | (simp; done))) | refine hb_drew ?_)) (by first | omega | (simp; omega) | (simp; done))
  have y4 := Below.size hb
  try simp only [World.size_alloc, World.size_drew] at y4
  have D4 := Lib.hid (show Below w.heap.size w w4 from Below.trans (by repeat (first | exact D3.out | exact Below.refl _ _ | refine Below.alloc ?_ (by first | omega | (simp; omega) | (simp; done)) _)) (Below.mono hb (by first | omega | (simp; omega) | (simp; done))))
  have z4 := D4.out.size
  clear hb
  try clear c0_0
  have c0_0 := cell_of_heap h0 (j := 0) rfl
  try clear f0_0
  have f0_0 := frozen_of_heap h0 0
  try clear c0_1
  have c0_1 := cell_of_heap h0 (j := 1) rfl
  try clear f0_1
  have f0_1 := frozen_of_heap h0 1
  try clear c0_2
  have c0_2 := cell_of_heap h0 (j := 2) rfl
  try clear f0_2
  have f0_2 := frozen_of_heap h0 2
  try clear c1_0
  have c1_0 := cell_of_heap h1 (j := 0) rfl
  try clear f1_0
  have f1_0 := frozen_of_heap h1 0
  try clear c1_1
  have c1_1 := cell_of_heap h1 (j := 1) rfl
  try clear f1_1
  have f1_1 := frozen_of_heap h1 1
  try clear c1_2
  have c1_2 := cell_of_heap h1 (j := 2) rfl
  try clear f1_2
  have f1_2 := frozen_of_heap h1 2
  try clear c1_3
  have c1_3 := cell_of_heap h1 (j := 3) rfl
  try clear f1_3
  have f1_3 := frozen_of_heap h1 3
  try clear c1_4
  have c1_4 := cell_of_heap h1 (j := 4) rfl
  try clear f1_4
  have f1_4 := frozen_of_heap h1 4
  try clear c1_5
  have c1_5 := cell_of_heap h1 (j := 5) rfl
  try clear f1_5
  have f1_5 := frozen_of_heap h1 5
  try clear c1_6
  have c1_6 := cell_of_heap h1 (j := 6) rfl
  try clear f1_6
  have f1_6 := frozen_of_heap h1 6
  try clear c1_7
  have c1_7 := cell_of_heap h1 (j := 7) rfl
  try clear f1_7
  have f1_7 := frozen_of_heap h1 7
  go_wp2_with fail
  try clear c0_0
  try clear f0_0
  try clear c0_1
  try clear f0_1
  try clear c0_2
  try clear f0_2
  try clear c1_0
  try clear f1_0
  try clear c1_1
  try clear f1_1
  try clear c1_2
  try clear f1_2
  try clear c1_3
  try clear f1_3
  try clear c1_4
  try clear f1_4
  try clear c1_5
  try clear f1_5
  try clear c1_6
  try clear f1_6
  try clear c1_7
  try clear f1_7
  refine wp_region_class (fun w' => Below w4.heap.size w4 w') 28 (by kernel_rfl) (by kernel_rfl) (Below.refl _ w4).drew ?_
  simp only [List.take_succ_cons, List.take_zero, List.drop_succ_cons, List.drop_zero]
  refine quiet_load_mid rfl _ _ rfl _ _ rfl _ _ (fun w' h => range_of_heap (hb_below h h0 (by omega))) Tryd.underlying23 rfl (by kernel_rfl) ?_
  simp only [Act.put, List.setIfInBounds_toArray, List.set_cons_zero, List.set_cons_succ]
  refine quiet_call rfl 17 _ _ rfl (enter_of Tryd.func17 (by decide) (by intro h; cases h)) _ (in_class_b H5.out) ?_
  simp only [Act.put, List.setIfInBounds_toArray, List.set_cons_zero, List.set_cons_succ]
  refine quiet_load_mid rfl _ _ rfl _ _ rfl _ _ (fun w' h => range_of_heap (hb_below h h0 (by omega))) Tryd.underlying23 rfl (by kernel_rfl) ?_
  simp only [Act.put, List.setIfInBounds_toArray, List.set_cons_zero, List.set_cons_succ]
  refine quiet_call rfl 18 _ _ rfl (enter_of Tryd.func18 (by decide) (by intro h; cases h)) _ (in_class_b H6.out) ?_
  simp only [Act.put, List.setIfInBounds_toArray, List.set_cons_zero, List.set_cons_succ]
  refine quiet_still rfl (.bool true) (fun w _ => by go_simp) ?_
  simp only [Act.put, List.setIfInBounds_toArray, List.set_cons_zero, List.set_cons_succ]
  refine quiet_moveV rfl _ rfl _ rfl ?_
  simp only [Act.put, List.setIfInBounds_toArray, List.set_cons_zero, List.set_cons_succ]
  refine quietW_moveV (by kernel_rfl) _ rfl _ rfl ?_
  simp only [Act.put, List.setIfInBounds_toArray, List.set_cons_zero, List.set_cons_succ]
  refine quietW_moveV (by kernel_rfl) _ rfl _ rfl ?_
  simp only [Act.put, List.setIfInBounds_toArray, List.set_cons_zero, List.set_cons_succ]
  refine quietW_still (by kernel_rfl) (.bool true) (fun w _ => by go_simp) ?_
  simp only [Act.put, List.setIfInBounds_toArray, List.set_cons_zero, List.set_cons_succ]
  refine quiet_still rfl (.bool true) (fun w _ => by go_simp) ?_
  simp only [Act.put, List.setIfInBounds_toArray, List.set_cons_zero, List.set_cons_succ]
  refine quiet_moveV rfl _ rfl _ rfl ?_
  simp only [Act.put, List.setIfInBounds_toArray, List.set_cons_zero, List.set_cons_succ]
  refine quietW_moveV (by kernel_rfl) _ rfl _ rfl ?_
  simp only [Act.put, List.setIfInBounds_toArray, List.set_cons_zero, List.set_cons_succ]
  refine quietW_moveV (by kernel_rfl) _ rfl _ rfl ?_
  simp only [Act.put, List.setIfInBounds_toArray, List.set_cons_zero, List.set_cons_succ]
  refine quietW_still (by kernel_rfl) (.bool true) (fun w _ => by go_simp) ?_
  simp only [Act.put, List.setIfInBounds_toArray, List.set_cons_zero, List.set_cons_succ]
  refine quiet_still rfl (.bool true) (fun w _ => by go_simp) ?_
  simp only [Act.put, List.setIfInBounds_toArray, List.set_cons_zero, List.set_cons_succ]
  refine quiet_moveV rfl _ rfl _ rfl ?_
  simp only [Act.put, List.setIfInBounds_toArray, List.set_cons_zero, List.set_cons_succ]
  refine quietW_moveV (by kernel_rfl) _ rfl _ rfl ?_
  simp only [Act.put, List.setIfInBounds_toArray, List.set_cons_zero, List.set_cons_succ]
  refine quietW_moveV (by kernel_rfl) _ rfl _ rfl ?_
  simp only [Act.put, List.setIfInBounds_toArray, List.set_cons_zero, List.set_cons_succ]
  refine quietW_still (by kernel_rfl) (.bool true) (fun w _ => by go_simp) ?_
  simp only [Act.put, List.setIfInBounds_toArray, List.set_cons_zero, List.set_cons_succ]
  refine quiet_still rfl (.bool true) (fun w _ => by go_simp) ?_
  simp only [Act.put, List.setIfInBounds_toArray, List.set_cons_zero, List.set_cons_succ]
  refine quiet_moveV rfl _ rfl _ rfl ?_
  simp only [Act.put, List.setIfInBounds_toArray, List.set_cons_zero, List.set_cons_succ]
  refine quietW_moveV (by kernel_rfl) _ rfl _ rfl ?_
  simp only [Act.put, List.setIfInBounds_toArray, List.set_cons_zero, List.set_cons_succ]
  refine quietW_moveV (by kernel_rfl) _ rfl _ rfl ?_
  simp only [Act.put, List.setIfInBounds_toArray, List.set_cons_zero, List.set_cons_succ]
  refine quietW_still (by kernel_rfl) (.bool true) (fun w _ => by go_simp) ?_
  simp only [Act.put, List.setIfInBounds_toArray, List.set_cons_zero, List.set_cons_succ]
  refine quiet_still rfl (.bool true) (fun w _ => by go_simp) ?_
  simp only [Act.put, List.setIfInBounds_toArray, List.set_cons_zero, List.set_cons_succ]
  refine quiet_moveV rfl _ rfl _ rfl ?_
  simp only [Act.put, List.setIfInBounds_toArray, List.set_cons_zero, List.set_cons_succ]
  refine quietW_call (by kernel_rfl) 19 _ _ rfl (enter_of Tryd.func19 (by decide) (by intro h; cases h)) _ (fun w' h => (H7.out w' ((HG.out.next D4.out).next h)).mono fun e w2 ⟨he, hb⟩ => ⟨he, h.trans (hb.mono h.size)⟩) ?_
  simp only [Act.put, List.setIfInBounds_toArray, List.set_cons_zero, List.set_cons_succ]
  refine quiet_still rfl (.bool true) (fun w _ => by go_simp) ?_
  simp only [Act.put, List.setIfInBounds_toArray, List.set_cons_zero, List.set_cons_succ]
  intro w5 hb
  replace h0 : w5.heap[w.heap.size]? = some (.cells #[.int .i64 l.a, .int .i64 l.b, .int .i64 l.c] 23 (0, 0)) := hb_below hb (by repeat (first | exact h0 | (refine hb_new ?_; (first | omega | (simp; omega) | (simp; done))) | (refine hb_old ?_ ?_; rotate_left; focus (first | omega | (simp; omega) | (simp; done))) | refine hb_drew ?_)) (by first | omega | (simp; omega) | (simp; done))
  replace h1 : w5.heap[w.heap.size + 1]? = some (.cells #[.int .i64 x.o.x, .int .i64 x.o.y, .int .i64 x.p.x, .int .i64 x.p.y, .int .i64 x.q.x, .int .i64 x.q.y, .int .i64 x.r.x, .int .i64 x.r.y] 27 (0, 0)) := hb_below hb (by repeat (first | exact h1 | (refine hb_new ?_; (first | omega | (simp; omega) | (simp; done))) | (refine hb_old ?_ ?_; rotate_left; focus (first | omega | (simp; omega) | (simp; done))) | refine hb_drew ?_)) (by first | omega | (simp; omega) | (simp; done))
  have y5 := Below.size hb
  try simp only [World.size_alloc, World.size_drew] at y5
  have D5 := Lib.hid (show Below w.heap.size w w5 from Below.trans (by repeat (first | exact D4.out | exact Below.refl _ _ | refine Below.alloc ?_ (by first | omega | (simp; omega) | (simp; done)) _)) (Below.mono hb (by first | omega | (simp; omega) | (simp; done))))
  have z5 := D5.out.size
  clear hb
  try clear c0_0
  have c0_0 := cell_of_heap h0 (j := 0) rfl
  try clear f0_0
  have f0_0 := frozen_of_heap h0 0
  try clear c0_1
  have c0_1 := cell_of_heap h0 (j := 1) rfl
  try clear f0_1
  have f0_1 := frozen_of_heap h0 1
  try clear c0_2
  have c0_2 := cell_of_heap h0 (j := 2) rfl
  try clear f0_2
  have f0_2 := frozen_of_heap h0 2
  try clear c1_0
  have c1_0 := cell_of_heap h1 (j := 0) rfl
  try clear f1_0
  have f1_0 := frozen_of_heap h1 0
  try clear c1_1
  have c1_1 := cell_of_heap h1 (j := 1) rfl
  try clear f1_1
  have f1_1 := frozen_of_heap h1 1
  try clear c1_2
  have c1_2 := cell_of_heap h1 (j := 2) rfl
  try clear f1_2
  have f1_2 := frozen_of_heap h1 2
  try clear c1_3
  have c1_3 := cell_of_heap h1 (j := 3) rfl
  try clear f1_3
  have f1_3 := frozen_of_heap h1 3
  try clear c1_4
  have c1_4 := cell_of_heap h1 (j := 4) rfl
  try clear f1_4
  have f1_4 := frozen_of_heap h1 4
  try clear c1_5
  have c1_5 := cell_of_heap h1 (j := 5) rfl
  try clear f1_5
  have f1_5 := frozen_of_heap h1 5
  try clear c1_6
  have c1_6 := cell_of_heap h1 (j := 6) rfl
  try clear f1_6
  have f1_6 := frozen_of_heap h1 6
  try clear c1_7
  have c1_7 := cell_of_heap h1 (j := 7) rfl
  try clear f1_7
  have f1_7 := frozen_of_heap h1 7
  go_wp2_with fail
  go_ret
  exact ⟨rfl, D5.out⟩
end Go.Proofs.YtjekfkmcgfnkaaaDoor
