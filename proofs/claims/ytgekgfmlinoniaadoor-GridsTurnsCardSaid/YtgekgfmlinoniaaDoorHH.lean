/- The law of turns. -/
import Derived.Test.YtgekgfmlinoniaaDoorHC
import Derived.Test.YtgekgfmlinoniaaDoorHG
namespace Go.Proofs.YtgekgfmlinoniaaDoor
open Go.RowKit Go.Lib
set_option linter.unusedSimpArgs false
set_option linter.unusedVariables false
theorem turnM_rng (f s t : Pt) : -1 ≤ turnM f s t ∧ turnM f s t ≤ 1 := by
  unfold turnM cmpI
  split <;> (try split) <;> (try split) <;> omega
theorem okT_swap (o f p q : Pt) : okT o f p q = okT o f q p := by
  rw [Bool.eq_iff_iff, okT_iff, okT_iff]
  exact ⟨fun ⟨⟨a, b, c, d⟩, e, g, h⟩ => ⟨⟨a, b, d, c⟩, e, h, g⟩, fun ⟨⟨a, b, c, d⟩, e, g, h⟩ => ⟨⟨a, b, d, c⟩, e, h, g⟩⟩
theorem okT_same {o f p q y : Pt} (h : okT o f p q = true) : okT o f p y = okT o f q y := by
  obtain ⟨⟨h1, h2, h3, h4⟩, h5, h6, h7⟩ := (okT_iff _ _ _ _).1 h
  rw [Bool.eq_iff_iff, okT_iff, okT_iff]
  exact ⟨fun ⟨⟨a, b, c, d⟩, e, g, h⟩ => ⟨⟨a, b, h4, d⟩, e, h7, h⟩, fun ⟨⟨a, b, c, d⟩, e, g, h⟩ => ⟨⟨a, b, h3, d⟩, e, h6, h⟩⟩
set_option maxHeartbeats 4000000 in
set_option maxRecDepth 100000 in
theorem turns_any (o p q r y : Pt) (w : World) (g : Glob w) : Calls Tryd.prog 10 #[.agg #[.int .i64 o.x, .int .i64 o.y, .int .i64 p.x, .int .i64 p.y, .int .i64 q.x, .int .i64 q.y, .int .i64 r.x, .int .i64 r.y], .agg #[.int .i64 y.x, .int .i64 y.y]] w fun e w' => e = .returned (.bool true) ∧ Below w.heap.size w w' := by
  have HG := Lib.hid g
  clear g
  have C7 := fun W g => awake_any W g
  have H7 := Lib.hid C7
  clear C7
  have C1 := fun W => Turn_any o p q r W
  have C2 := fun W => Turn_any o p r q W
  rw [okT_swap o p r q] at C2
  cases hT : okT o p q r
  · rw [hT] at C1 C2
    simp only [gv, errIf, Bool.false_eq_true, if_false, Pt.val] at C1 C2
    have H1 := Lib.hid C1
    have H2 := Lib.hid C2
    clear C1 C2 hT
    go_enter Tryd.func10, Tryd.ntmps10
    go_wp2_with fail
    refine (H1.out _).mono ?_
    rintro e w1 ⟨rfl, hb⟩
    have h0 : w1.heap[w.heap.size]? = some (.cells #[.int .i64 o.x, .int .i64 o.y, .int .i64 p.x, .int .i64 p.y, .int .i64 q.x, .int .i64 q.y, .int .i64 r.x, .int .i64 r.y] 27 (0, 0)) := hb_below hb (by repeat (first | (refine hb_new ?_; (first | omega | (simp; omega) | (simp; done))) | (refine hb_old ?_ ?_; rotate_left; focus (first | omega | (simp; omega) | (simp; done))) | refine hb_drew ?_)) (by first | omega | (simp; omega) | (simp; done))
    have h1 : w1.heap[w.heap.size + 1]? = some (.cells #[.int .i64 y.x, .int .i64 y.y] 25 (0, 0)) := hb_below hb (by repeat (first | (refine hb_new ?_; (first | omega | (simp; omega) | (simp; done))) | (refine hb_old ?_ ?_; rotate_left; focus (first | omega | (simp; omega) | (simp; done))) | refine hb_drew ?_)) (by first | omega | (simp; omega) | (simp; done))
    have y1 := Below.size hb
    try simp only [World.size_alloc, World.size_drew] at y1
    have D1 := Lib.hid (show Below w.heap.size w w1 from Below.trans (by repeat (first | exact Below.refl _ _ | refine Below.alloc ?_ (by first | omega | (simp; omega) | (simp; done)) _)) (Below.mono hb (by first | omega | (simp; omega) | (simp; done))))
    have z1 := D1.out.size
    clear hb
    try clear c0_0
    have c0_0 := cell_of_heap h0 (j := 0) rfl
    try clear f0_0
    have f0_0 := frozen_of_heap h0 0
    try clear c0_1
    have c0_1 := cell_of_heap h0 (j := 1) rfl
    try clear f0_1
    have f0_1 := frozen_of_heap h0 1
    try clear c0_2
    have c0_2 := cell_of_heap h0 (j := 2) rfl
    try clear f0_2
    have f0_2 := frozen_of_heap h0 2
    try clear c0_3
    have c0_3 := cell_of_heap h0 (j := 3) rfl
    try clear f0_3
    have f0_3 := frozen_of_heap h0 3
    try clear c0_4
    have c0_4 := cell_of_heap h0 (j := 4) rfl
    try clear f0_4
    have f0_4 := frozen_of_heap h0 4
    try clear c0_5
    have c0_5 := cell_of_heap h0 (j := 5) rfl
    try clear f0_5
    have f0_5 := frozen_of_heap h0 5
    try clear c0_6
    have c0_6 := cell_of_heap h0 (j := 6) rfl
    try clear f0_6
    have f0_6 := frozen_of_heap h0 6
    try clear c0_7
    have c0_7 := cell_of_heap h0 (j := 7) rfl
    try clear f0_7
    have f0_7 := frozen_of_heap h0 7
    try clear c1_0
    have c1_0 := cell_of_heap h1 (j := 0) rfl
    try clear f1_0
    have f1_0 := frozen_of_heap h1 0
    try clear c1_1
    have c1_1 := cell_of_heap h1 (j := 1) rfl
    try clear f1_1
    have f1_1 := frozen_of_heap h1 1
    go_wp2_with fail
    refine (H2.out _).mono ?_
    rintro e w2 ⟨rfl, hb⟩
    replace h0 : w2.heap[w.heap.size]? = some (.cells #[.int .i64 o.x, .int .i64 o.y, .int .i64 p.x, .int .i64 p.y, .int .i64 q.x, .int .i64 q.y, .int .i64 r.x, .int .i64 r.y] 27 (0, 0)) := hb_below hb (by repeat (first | exact h0 | (refine hb_new ?_; (first | omega | (simp; omega) | (simp; done))) | (refine hb_old ?_ ?_; rotate_left; focus (first | omega | (simp; omega) | (simp; done))) | refine hb_drew ?_)) (by first | omega | (simp; omega) | (simp; done))
    replace h1 : w2.heap[w.heap.size + 1]? = some (.cells #[.int .i64 y.x, .int .i64 y.y] 25 (0, 0)) := hb_below hb (by repeat (first | exact h1 | (refine hb_new ?_; (first | omega | (simp; omega) | (simp; done))) | (refine hb_old ?_ ?_; rotate_left; focus (first | omega | (simp; omega) | (simp; done))) | refine hb_drew ?_)) (by first | omega | (simp; omega) | (simp; done))
    have y2 := Below.size hb
    try simp only [World.size_alloc, World.size_drew] at y2
    have D2 := Lib.hid (show Below w.heap.size w w2 from Below.trans (by repeat (first | exact D1.out | exact Below.refl _ _ | refine Below.alloc ?_ (by first | omega | (simp; omega) | (simp; done)) _)) (Below.mono hb (by first | omega | (simp; omega) | (simp; done))))
    have z2 := D2.out.size
    clear hb
    try clear c0_0
    have c0_0 := cell_of_heap h0 (j := 0) rfl
    try clear f0_0
    have f0_0 := frozen_of_heap h0 0
    try clear c0_1
    have c0_1 := cell_of_heap h0 (j := 1) rfl
    try clear f0_1
    have f0_1 := frozen_of_heap h0 1
    try clear c0_2
    have c0_2 := cell_of_heap h0 (j := 2) rfl
    try clear f0_2
    have f0_2 := frozen_of_heap h0 2
    try clear c0_3
    have c0_3 := cell_of_heap h0 (j := 3) rfl
    try clear f0_3
    have f0_3 := frozen_of_heap h0 3
    try clear c0_4
    have c0_4 := cell_of_heap h0 (j := 4) rfl
    try clear f0_4
    have f0_4 := frozen_of_heap h0 4
    try clear c0_5
    have c0_5 := cell_of_heap h0 (j := 5) rfl
    try clear f0_5
    have f0_5 := frozen_of_heap h0 5
    try clear c0_6
    have c0_6 := cell_of_heap h0 (j := 6) rfl
    try clear f0_6
    have f0_6 := frozen_of_heap h0 6
    try clear c0_7
    have c0_7 := cell_of_heap h0 (j := 7) rfl
    try clear f0_7
    have f0_7 := frozen_of_heap h0 7
    try clear c1_0
    have c1_0 := cell_of_heap h1 (j := 0) rfl
    try clear f1_0
    have f1_0 := frozen_of_heap h1 0
    try clear c1_1
    have c1_1 := cell_of_heap h1 (j := 1) rfl
    try clear f1_1
    have f1_1 := frozen_of_heap h1 1
    go_wp2_with fail
    refine (H7.out _ (HG.out.next (Below.trans D2.out (by repeat (first | exact Below.refl _ _ | refine Below.alloc ?_ (by first | omega | (simp; omega) | (simp; done)) _))))).mono ?_
    rintro e w3 ⟨rfl, hb⟩
    replace h0 : w3.heap[w.heap.size]? = some (.cells #[.int .i64 o.x, .int .i64 o.y, .int .i64 p.x, .int .i64 p.y, .int .i64 q.x, .int .i64 q.y, .int .i64 r.x, .int .i64 r.y] 27 (0, 0)) := hb_below hb (by repeat (first | exact h0 | (refine hb_new ?_; (first | omega | (simp; omega) | (simp; done))) | (refine hb_old ?_ ?_; rotate_left; focus (first | omega | (simp; omega) | (simp; done))) | refine hb_drew ?_)) (by first | omega | (simp; omega) | (simp; done))
    replace h1 : w3.heap[w.heap.size + 1]? = some (.cells #[.int .i64 y.x, .int .i64 y.y] 25 (0, 0)) := hb_below hb (by repeat (first | exact h1 | (refine hb_new ?_; (first | omega | (simp; omega) | (simp; done))) | (refine hb_old ?_ ?_; rotate_left; focus (first | omega | (simp; omega) | (simp; done))) | refine hb_drew ?_)) (by first | omega | (simp; omega) | (simp; done))
    have y3 := Below.size hb
    try simp only [World.size_alloc, World.size_drew] at y3
    have D3 := Lib.hid (show Below w.heap.size w w3 from Below.trans (by repeat (first | exact D2.out | exact Below.refl _ _ | refine Below.alloc ?_ (by first | omega | (simp; omega) | (simp; done)) _)) (Below.mono hb (by first | omega | (simp; omega) | (simp; done))))
    have z3 := D3.out.size
    clear hb
    try clear c0_0
    have c0_0 := cell_of_heap h0 (j := 0) rfl
    try clear f0_0
    have f0_0 := frozen_of_heap h0 0
    try clear c0_1
    have c0_1 := cell_of_heap h0 (j := 1) rfl
    try clear f0_1
    have f0_1 := frozen_of_heap h0 1
    try clear c0_2
    have c0_2 := cell_of_heap h0 (j := 2) rfl
    try clear f0_2
    have f0_2 := frozen_of_heap h0 2
    try clear c0_3
    have c0_3 := cell_of_heap h0 (j := 3) rfl
    try clear f0_3
    have f0_3 := frozen_of_heap h0 3
    try clear c0_4
    have c0_4 := cell_of_heap h0 (j := 4) rfl
    try clear f0_4
    have f0_4 := frozen_of_heap h0 4
    try clear c0_5
    have c0_5 := cell_of_heap h0 (j := 5) rfl
    try clear f0_5
    have f0_5 := frozen_of_heap h0 5
    try clear c0_6
    have c0_6 := cell_of_heap h0 (j := 6) rfl
    try clear f0_6
    have f0_6 := frozen_of_heap h0 6
    try clear c0_7
    have c0_7 := cell_of_heap h0 (j := 7) rfl
    try clear f0_7
    have f0_7 := frozen_of_heap h0 7
    try clear c1_0
    have c1_0 := cell_of_heap h1 (j := 0) rfl
    try clear f1_0
    have f1_0 := frozen_of_heap h1 0
    try clear c1_1
    have c1_1 := cell_of_heap h1 (j := 1) rfl
    try clear f1_1
    have f1_1 := frozen_of_heap h1 1
    go_wp2_with fail
    go_ret
    exact ⟨by first | rfl | (simp [*]; done) | (simp; omega), D3.out⟩
  · have C3 := fun W => Turn_any o p p q W
    obtain ⟨⟨t1, t2, t3, t4⟩, t5, t6, t7⟩ := (okT_iff _ _ _ _).1 hT
    have hT2 : okT o p r q = true := by rw [okT_swap]; exact hT
    have hT3 : okT o p p q = true := (okT_iff _ _ _ _).2 ⟨⟨t1, t2, t2, t3⟩, t5, t5, t6⟩
    have hne := step_ne t5
    rw [turnV_id hT, hT] at C1
    rw [turnV_id hT2, hT, turn_anti] at C2
    rw [turnV_id hT3, hT3] at C3
    simp only [gv, errIf, if_true, Pt.val] at C1 C2 C3
    have hF := turn_first (f := stepP o p) (q := stepP o q) hne
    have rA := turnM_rng (stepP o p) (stepP o q) (stepP o r)
    have rF := turnM_rng (stepP o p) (stepP o p) (stepP o q)
    have C4 := fun W => Turn_any o p r y W
    have C5 := fun W => Turn_any o p q y W
    have hsame := okT_same (y := y) hT
    have htr := fun h1 h2 => turn_trans (y := stepP o y) (q := stepP o q) (r := stepP o r) hne h1 h2
    generalize hA : turnM (stepP o p) (stepP o q) (stepP o r) = A at *
    generalize turnM (stepP o p) (stepP o p) (stepP o q) = F at *
    have H1 := Lib.hid C1
    have H2 := Lib.hid C2
    have H3 := Lib.hid C3
    have n1 : IntKind.i64.wrap A = A := IntWalk.i64_in _ (by omega)
    have n2 : wrap64 A = A := wrap64_id (by omega)
    have n3 : ¬ 0 < F := by omega
    clear C1 C2 C3 hT hT2 hT3 t1 t2 t3 t4 t5 t6 t7 hne hF hA
    cases hY : okT o p r y
    · have hY2 : okT o p q y = false := by rw [hsame]; exact hY
      rw [hY] at C4
      rw [hY2] at C5
      simp only [gv, errIf, Bool.false_eq_true, if_false, Pt.val] at C4 C5
      have H4 := Lib.hid C4
      have H5 := Lib.hid C5
      clear C4 C5 hY hY2 hsame htr
      skip
      go_enter Tryd.func10, Tryd.ntmps10
      go_wp2_with fail
      refine (H1.out _).mono ?_
      rintro e w1 ⟨rfl, hb⟩
      have h0 : w1.heap[w.heap.size]? = some (.cells #[.int .i64 o.x, .int .i64 o.y, .int .i64 p.x, .int .i64 p.y, .int .i64 q.x, .int .i64 q.y, .int .i64 r.x, .int .i64 r.y] 27 (0, 0)) := hb_below hb (by repeat (first | (refine hb_new ?_; (first | omega | (simp; omega) | (simp; done))) | (refine hb_old ?_ ?_; rotate_left; focus (first | omega | (simp; omega) | (simp; done))) | refine hb_drew ?_)) (by first | omega | (simp; omega) | (simp; done))
      have h1 : w1.heap[w.heap.size + 1]? = some (.cells #[.int .i64 y.x, .int .i64 y.y] 25 (0, 0)) := hb_below hb (by repeat (first | (refine hb_new ?_; (first | omega | (simp; omega) | (simp; done))) | (refine hb_old ?_ ?_; rotate_left; focus (first | omega | (simp; omega) | (simp; done))) | refine hb_drew ?_)) (by first | omega | (simp; omega) | (simp; done))
      have y1 := Below.size hb
      try simp only [World.size_alloc, World.size_drew] at y1
      have D1 := Lib.hid (show Below w.heap.size w w1 from Below.trans (by repeat (first | exact Below.refl _ _ | refine Below.alloc ?_ (by first | omega | (simp; omega) | (simp; done)) _)) (Below.mono hb (by first | omega | (simp; omega) | (simp; done))))
      have z1 := D1.out.size
      clear hb
      try clear c0_0
      have c0_0 := cell_of_heap h0 (j := 0) rfl
      try clear f0_0
      have f0_0 := frozen_of_heap h0 0
      try clear c0_1
      have c0_1 := cell_of_heap h0 (j := 1) rfl
      try clear f0_1
      have f0_1 := frozen_of_heap h0 1
      try clear c0_2
      have c0_2 := cell_of_heap h0 (j := 2) rfl
      try clear f0_2
      have f0_2 := frozen_of_heap h0 2
      try clear c0_3
      have c0_3 := cell_of_heap h0 (j := 3) rfl
      try clear f0_3
      have f0_3 := frozen_of_heap h0 3
      try clear c0_4
      have c0_4 := cell_of_heap h0 (j := 4) rfl
      try clear f0_4
      have f0_4 := frozen_of_heap h0 4
      try clear c0_5
      have c0_5 := cell_of_heap h0 (j := 5) rfl
      try clear f0_5
      have f0_5 := frozen_of_heap h0 5
      try clear c0_6
      have c0_6 := cell_of_heap h0 (j := 6) rfl
      try clear f0_6
      have f0_6 := frozen_of_heap h0 6
      try clear c0_7
      have c0_7 := cell_of_heap h0 (j := 7) rfl
      try clear f0_7
      have f0_7 := frozen_of_heap h0 7
      try clear c1_0
      have c1_0 := cell_of_heap h1 (j := 0) rfl
      try clear f1_0
      have f1_0 := frozen_of_heap h1 0
      try clear c1_1
      have c1_1 := cell_of_heap h1 (j := 1) rfl
      try clear f1_1
      have f1_1 := frozen_of_heap h1 1
      go_wp2_with fail
      refine (H2.out _).mono ?_
      rintro e w2 ⟨rfl, hb⟩
      replace h0 : w2.heap[w.heap.size]? = some (.cells #[.int .i64 o.x, .int .i64 o.y, .int .i64 p.x, .int .i64 p.y, .int .i64 q.x, .int .i64 q.y, .int .i64 r.x, .int .i64 r.y] 27 (0, 0)) := hb_below hb (by repeat (first | exact h0 | (refine hb_new ?_; (first | omega | (simp; omega) | (simp; done))) | (refine hb_old ?_ ?_; rotate_left; focus (first | omega | (simp; omega) | (simp; done))) | refine hb_drew ?_)) (by first | omega | (simp; omega) | (simp; done))
      replace h1 : w2.heap[w.heap.size + 1]? = some (.cells #[.int .i64 y.x, .int .i64 y.y] 25 (0, 0)) := hb_below hb (by repeat (first | exact h1 | (refine hb_new ?_; (first | omega | (simp; omega) | (simp; done))) | (refine hb_old ?_ ?_; rotate_left; focus (first | omega | (simp; omega) | (simp; done))) | refine hb_drew ?_)) (by first | omega | (simp; omega) | (simp; done))
      have y2 := Below.size hb
      try simp only [World.size_alloc, World.size_drew] at y2
      have D2 := Lib.hid (show Below w.heap.size w w2 from Below.trans (by repeat (first | exact D1.out | exact Below.refl _ _ | refine Below.alloc ?_ (by first | omega | (simp; omega) | (simp; done)) _)) (Below.mono hb (by first | omega | (simp; omega) | (simp; done))))
      have z2 := D2.out.size
      clear hb
      try clear c0_0
      have c0_0 := cell_of_heap h0 (j := 0) rfl
      try clear f0_0
      have f0_0 := frozen_of_heap h0 0
      try clear c0_1
      have c0_1 := cell_of_heap h0 (j := 1) rfl
      try clear f0_1
      have f0_1 := frozen_of_heap h0 1
      try clear c0_2
      have c0_2 := cell_of_heap h0 (j := 2) rfl
      try clear f0_2
      have f0_2 := frozen_of_heap h0 2
      try clear c0_3
      have c0_3 := cell_of_heap h0 (j := 3) rfl
      try clear f0_3
      have f0_3 := frozen_of_heap h0 3
      try clear c0_4
      have c0_4 := cell_of_heap h0 (j := 4) rfl
      try clear f0_4
      have f0_4 := frozen_of_heap h0 4
      try clear c0_5
      have c0_5 := cell_of_heap h0 (j := 5) rfl
      try clear f0_5
      have f0_5 := frozen_of_heap h0 5
      try clear c0_6
      have c0_6 := cell_of_heap h0 (j := 6) rfl
      try clear f0_6
      have f0_6 := frozen_of_heap h0 6
      try clear c0_7
      have c0_7 := cell_of_heap h0 (j := 7) rfl
      try clear f0_7
      have f0_7 := frozen_of_heap h0 7
      try clear c1_0
      have c1_0 := cell_of_heap h1 (j := 0) rfl
      try clear f1_0
      have f1_0 := frozen_of_heap h1 0
      try clear c1_1
      have c1_1 := cell_of_heap h1 (j := 1) rfl
      try clear f1_1
      have f1_1 := frozen_of_heap h1 1
      go_wp2_with fail
      refine (H3.out _).mono ?_
      rintro e w3 ⟨rfl, hb⟩
      replace h0 : w3.heap[w.heap.size]? = some (.cells #[.int .i64 o.x, .int .i64 o.y, .int .i64 p.x, .int .i64 p.y, .int .i64 q.x, .int .i64 q.y, .int .i64 r.x, .int .i64 r.y] 27 (0, 0)) := hb_below hb (by repeat (first | exact h0 | (refine hb_new ?_; (first | omega | (simp; omega) | (simp; done))) | (refine hb_old ?_ ?_; rotate_left; focus (first | omega | (simp; omega) | (simp; done))) | refine hb_drew ?_)) (by first | omega | (simp; omega) | (simp; done))
      replace h1 : w3.heap[w.heap.size + 1]? = some (.cells #[.int .i64 y.x, .int .i64 y.y] 25 (0, 0)) := hb_below hb (by repeat (first | exact h1 | (refine hb_new ?_; (first | omega | (simp; omega) | (simp; done))) | (refine hb_old ?_ ?_; rotate_left; focus (first | omega | (simp; omega) | (simp; done))) | refine hb_drew ?_)) (by first | omega | (simp; omega) | (simp; done))
      have y3 := Below.size hb
      try simp only [World.size_alloc, World.size_drew] at y3
      have D3 := Lib.hid (show Below w.heap.size w w3 from Below.trans (by repeat (first | exact D2.out | exact Below.refl _ _ | refine Below.alloc ?_ (by first | omega | (simp; omega) | (simp; done)) _)) (Below.mono hb (by first | omega | (simp; omega) | (simp; done))))
      have z3 := D3.out.size
      clear hb
      try clear c0_0
      have c0_0 := cell_of_heap h0 (j := 0) rfl
      try clear f0_0
      have f0_0 := frozen_of_heap h0 0
      try clear c0_1
      have c0_1 := cell_of_heap h0 (j := 1) rfl
      try clear f0_1
      have f0_1 := frozen_of_heap h0 1
      try clear c0_2
      have c0_2 := cell_of_heap h0 (j := 2) rfl
      try clear f0_2
      have f0_2 := frozen_of_heap h0 2
      try clear c0_3
      have c0_3 := cell_of_heap h0 (j := 3) rfl
      try clear f0_3
      have f0_3 := frozen_of_heap h0 3
      try clear c0_4
      have c0_4 := cell_of_heap h0 (j := 4) rfl
      try clear f0_4
      have f0_4 := frozen_of_heap h0 4
      try clear c0_5
      have c0_5 := cell_of_heap h0 (j := 5) rfl
      try clear f0_5
      have f0_5 := frozen_of_heap h0 5
      try clear c0_6
      have c0_6 := cell_of_heap h0 (j := 6) rfl
      try clear f0_6
      have f0_6 := frozen_of_heap h0 6
      try clear c0_7
      have c0_7 := cell_of_heap h0 (j := 7) rfl
      try clear f0_7
      have f0_7 := frozen_of_heap h0 7
      try clear c1_0
      have c1_0 := cell_of_heap h1 (j := 0) rfl
      try clear f1_0
      have f1_0 := frozen_of_heap h1 0
      try clear c1_1
      have c1_1 := cell_of_heap h1 (j := 1) rfl
      try clear f1_1
      have f1_1 := frozen_of_heap h1 1
      go_wp2_with fail
      refine (H4.out _).mono ?_
      rintro e w4 ⟨rfl, hb⟩
      replace h0 : w4.heap[w.heap.size]? = some (.cells #[.int .i64 o.x, .int .i64 o.y, .int .i64 p.x, .int .i64 p.y, .int .i64 q.x, .int .i64 q.y, .int .i64 r.x, .int .i64 r.y] 27 (0, 0)) := hb_below hb (by repeat (first | exact h0 | (refine hb_new ?_; (first | omega | (simp; omega) | (simp; done))) | (refine hb_old ?_ ?_; rotate_left; focus (first | omega | (simp; omega) | (simp; done))) | refine hb_drew ?_)) (by first | omega | (simp; omega) | (simp; done))
      replace h1 : w4.heap[w.heap.size + 1]? = some (.cells #[.int .i64 y.x, .int .i64 y.y] 25 (0, 0)) := hb_below hb (by repeat (first | exact h1 | (refine hb_new ?_; (first | omega | (simp; omega) | (simp; done))) | (refine hb_old ?_ ?_; rotate_left; focus (first | omega | (simp; omega) | (simp; done))) | refine hb_drew ?_)) (by first | omega | (simp; omega) | (simp; done))
      have y4 := Below.size hb
      try simp only [World.size_alloc, World.size_drew] at y4
      have D4 := Lib.hid (show Below w.heap.size w w4 from Below.trans (by repeat (first | exact D3.out | exact Below.refl _ _ | refine Below.alloc ?_ (by first | omega | (simp; omega) | (simp; done)) _)) (Below.mono hb (by first | omega | (simp; omega) | (simp; done))))
      have z4 := D4.out.size
      clear hb
      try clear c0_0
      have c0_0 := cell_of_heap h0 (j := 0) rfl
      try clear f0_0
      have f0_0 := frozen_of_heap h0 0
      try clear c0_1
      have c0_1 := cell_of_heap h0 (j := 1) rfl
      try clear f0_1
      have f0_1 := frozen_of_heap h0 1
      try clear c0_2
      have c0_2 := cell_of_heap h0 (j := 2) rfl
      try clear f0_2
      have f0_2 := frozen_of_heap h0 2
      try clear c0_3
      have c0_3 := cell_of_heap h0 (j := 3) rfl
      try clear f0_3
      have f0_3 := frozen_of_heap h0 3
      try clear c0_4
      have c0_4 := cell_of_heap h0 (j := 4) rfl
      try clear f0_4
      have f0_4 := frozen_of_heap h0 4
      try clear c0_5
      have c0_5 := cell_of_heap h0 (j := 5) rfl
      try clear f0_5
      have f0_5 := frozen_of_heap h0 5
      try clear c0_6
      have c0_6 := cell_of_heap h0 (j := 6) rfl
      try clear f0_6
      have f0_6 := frozen_of_heap h0 6
      try clear c0_7
      have c0_7 := cell_of_heap h0 (j := 7) rfl
      try clear f0_7
      have f0_7 := frozen_of_heap h0 7
      try clear c1_0
      have c1_0 := cell_of_heap h1 (j := 0) rfl
      try clear f1_0
      have f1_0 := frozen_of_heap h1 0
      try clear c1_1
      have c1_1 := cell_of_heap h1 (j := 1) rfl
      try clear f1_1
      have f1_1 := frozen_of_heap h1 1
      go_wp2_with fail
      refine (H5.out _).mono ?_
      rintro e w5 ⟨rfl, hb⟩
      replace h0 : w5.heap[w.heap.size]? = some (.cells #[.int .i64 o.x, .int .i64 o.y, .int .i64 p.x, .int .i64 p.y, .int .i64 q.x, .int .i64 q.y, .int .i64 r.x, .int .i64 r.y] 27 (0, 0)) := hb_below hb (by repeat (first | exact h0 | (refine hb_new ?_; (first | omega | (simp; omega) | (simp; done))) | (refine hb_old ?_ ?_; rotate_left; focus (first | omega | (simp; omega) | (simp; done))) | refine hb_drew ?_)) (by first | omega | (simp; omega) | (simp; done))
      replace h1 : w5.heap[w.heap.size + 1]? = some (.cells #[.int .i64 y.x, .int .i64 y.y] 25 (0, 0)) := hb_below hb (by repeat (first | exact h1 | (refine hb_new ?_; (first | omega | (simp; omega) | (simp; done))) | (refine hb_old ?_ ?_; rotate_left; focus (first | omega | (simp; omega) | (simp; done))) | refine hb_drew ?_)) (by first | omega | (simp; omega) | (simp; done))
      have y5 := Below.size hb
      try simp only [World.size_alloc, World.size_drew] at y5
      have D5 := Lib.hid (show Below w.heap.size w w5 from Below.trans (by repeat (first | exact D4.out | exact Below.refl _ _ | refine Below.alloc ?_ (by first | omega | (simp; omega) | (simp; done)) _)) (Below.mono hb (by first | omega | (simp; omega) | (simp; done))))
      have z5 := D5.out.size
      clear hb
      try clear c0_0
      have c0_0 := cell_of_heap h0 (j := 0) rfl
      try clear f0_0
      have f0_0 := frozen_of_heap h0 0
      try clear c0_1
      have c0_1 := cell_of_heap h0 (j := 1) rfl
      try clear f0_1
      have f0_1 := frozen_of_heap h0 1
      try clear c0_2
      have c0_2 := cell_of_heap h0 (j := 2) rfl
      try clear f0_2
      have f0_2 := frozen_of_heap h0 2
      try clear c0_3
      have c0_3 := cell_of_heap h0 (j := 3) rfl
      try clear f0_3
      have f0_3 := frozen_of_heap h0 3
      try clear c0_4
      have c0_4 := cell_of_heap h0 (j := 4) rfl
      try clear f0_4
      have f0_4 := frozen_of_heap h0 4
      try clear c0_5
      have c0_5 := cell_of_heap h0 (j := 5) rfl
      try clear f0_5
      have f0_5 := frozen_of_heap h0 5
      try clear c0_6
      have c0_6 := cell_of_heap h0 (j := 6) rfl
      try clear f0_6
      have f0_6 := frozen_of_heap h0 6
      try clear c0_7
      have c0_7 := cell_of_heap h0 (j := 7) rfl
      try clear f0_7
      have f0_7 := frozen_of_heap h0 7
      try clear c1_0
      have c1_0 := cell_of_heap h1 (j := 0) rfl
      try clear f1_0
      have f1_0 := frozen_of_heap h1 0
      try clear c1_1
      have c1_1 := cell_of_heap h1 (j := 1) rfl
      try clear f1_1
      have f1_1 := frozen_of_heap h1 1
      go_wp2_with fail
      refine (H7.out _ (HG.out.next (Below.trans D5.out (by repeat (first | exact Below.refl _ _ | refine Below.alloc ?_ (by first | omega | (simp; omega) | (simp; done)) _))))).mono ?_
      rintro e w6 ⟨rfl, hb⟩
      replace h0 : w6.heap[w.heap.size]? = some (.cells #[.int .i64 o.x, .int .i64 o.y, .int .i64 p.x, .int .i64 p.y, .int .i64 q.x, .int .i64 q.y, .int .i64 r.x, .int .i64 r.y] 27 (0, 0)) := hb_below hb (by repeat (first | exact h0 | (refine hb_new ?_; (first | omega | (simp; omega) | (simp; done))) | (refine hb_old ?_ ?_; rotate_left; focus (first | omega | (simp; omega) | (simp; done))) | refine hb_drew ?_)) (by first | omega | (simp; omega) | (simp; done))
      replace h1 : w6.heap[w.heap.size + 1]? = some (.cells #[.int .i64 y.x, .int .i64 y.y] 25 (0, 0)) := hb_below hb (by repeat (first | exact h1 | (refine hb_new ?_; (first | omega | (simp; omega) | (simp; done))) | (refine hb_old ?_ ?_; rotate_left; focus (first | omega | (simp; omega) | (simp; done))) | refine hb_drew ?_)) (by first | omega | (simp; omega) | (simp; done))
      have y6 := Below.size hb
      try simp only [World.size_alloc, World.size_drew] at y6
      have D6 := Lib.hid (show Below w.heap.size w w6 from Below.trans (by repeat (first | exact D5.out | exact Below.refl _ _ | refine Below.alloc ?_ (by first | omega | (simp; omega) | (simp; done)) _)) (Below.mono hb (by first | omega | (simp; omega) | (simp; done))))
      have z6 := D6.out.size
      clear hb
      try clear c0_0
      have c0_0 := cell_of_heap h0 (j := 0) rfl
      try clear f0_0
      have f0_0 := frozen_of_heap h0 0
      try clear c0_1
      have c0_1 := cell_of_heap h0 (j := 1) rfl
      try clear f0_1
      have f0_1 := frozen_of_heap h0 1
      try clear c0_2
      have c0_2 := cell_of_heap h0 (j := 2) rfl
      try clear f0_2
      have f0_2 := frozen_of_heap h0 2
      try clear c0_3
      have c0_3 := cell_of_heap h0 (j := 3) rfl
      try clear f0_3
      have f0_3 := frozen_of_heap h0 3
      try clear c0_4
      have c0_4 := cell_of_heap h0 (j := 4) rfl
      try clear f0_4
      have f0_4 := frozen_of_heap h0 4
      try clear c0_5
      have c0_5 := cell_of_heap h0 (j := 5) rfl
      try clear f0_5
      have f0_5 := frozen_of_heap h0 5
      try clear c0_6
      have c0_6 := cell_of_heap h0 (j := 6) rfl
      try clear f0_6
      have f0_6 := frozen_of_heap h0 6
      try clear c0_7
      have c0_7 := cell_of_heap h0 (j := 7) rfl
      try clear f0_7
      have f0_7 := frozen_of_heap h0 7
      try clear c1_0
      have c1_0 := cell_of_heap h1 (j := 0) rfl
      try clear f1_0
      have f1_0 := frozen_of_heap h1 0
      try clear c1_1
      have c1_1 := cell_of_heap h1 (j := 1) rfl
      try clear f1_1
      have f1_1 := frozen_of_heap h1 1
      go_wp2_with fail
      go_ret
      exact ⟨by first | rfl | (simp [*]; done) | (simp; omega), D6.out⟩
    · have hY2 : okT o p q y = true := by rw [hsame]; exact hY
      rw [turnV_id hY, hY] at C4
      rw [turnV_id hY2, hY2] at C5
      simp only [gv, errIf, if_true, Pt.val] at C4 C5
      have rC := turnM_rng (stepP o p) (stepP o r) (stepP o y)
      have rD := turnM_rng (stepP o p) (stepP o q) (stepP o y)
      generalize turnM (stepP o p) (stepP o r) (stepP o y) = C at *
      generalize turnM (stepP o p) (stepP o q) (stepP o y) = D at *
      have H4 := Lib.hid C4
      have H5 := Lib.hid C5
      have HT := Lib.hid htr
      clear C4 C5 hY hY2 hsame htr
      go_enter Tryd.func10, Tryd.ntmps10
      go_wp2_with fail
      refine (H1.out _).mono ?_
      rintro e w1 ⟨rfl, hb⟩
      have h0 : w1.heap[w.heap.size]? = some (.cells #[.int .i64 o.x, .int .i64 o.y, .int .i64 p.x, .int .i64 p.y, .int .i64 q.x, .int .i64 q.y, .int .i64 r.x, .int .i64 r.y] 27 (0, 0)) := hb_below hb (by repeat (first | (refine hb_new ?_; (first | omega | (simp; omega) | (simp; done))) | (refine hb_old ?_ ?_; rotate_left; focus (first | omega | (simp; omega) | (simp; done))) | refine hb_drew ?_)) (by first | omega | (simp; omega) | (simp; done))
      have h1 : w1.heap[w.heap.size + 1]? = some (.cells #[.int .i64 y.x, .int .i64 y.y] 25 (0, 0)) := hb_below hb (by repeat (first | (refine hb_new ?_; (first | omega | (simp; omega) | (simp; done))) | (refine hb_old ?_ ?_; rotate_left; focus (first | omega | (simp; omega) | (simp; done))) | refine hb_drew ?_)) (by first | omega | (simp; omega) | (simp; done))
      have y1 := Below.size hb
      try simp only [World.size_alloc, World.size_drew] at y1
      have D1 := Lib.hid (show Below w.heap.size w w1 from Below.trans (by repeat (first | exact Below.refl _ _ | refine Below.alloc ?_ (by first | omega | (simp; omega) | (simp; done)) _)) (Below.mono hb (by first | omega | (simp; omega) | (simp; done))))
      have z1 := D1.out.size
      clear hb
      try clear c0_0
      have c0_0 := cell_of_heap h0 (j := 0) rfl
      try clear f0_0
      have f0_0 := frozen_of_heap h0 0
      try clear c0_1
      have c0_1 := cell_of_heap h0 (j := 1) rfl
      try clear f0_1
      have f0_1 := frozen_of_heap h0 1
      try clear c0_2
      have c0_2 := cell_of_heap h0 (j := 2) rfl
      try clear f0_2
      have f0_2 := frozen_of_heap h0 2
      try clear c0_3
      have c0_3 := cell_of_heap h0 (j := 3) rfl
      try clear f0_3
      have f0_3 := frozen_of_heap h0 3
      try clear c0_4
      have c0_4 := cell_of_heap h0 (j := 4) rfl
      try clear f0_4
      have f0_4 := frozen_of_heap h0 4
      try clear c0_5
      have c0_5 := cell_of_heap h0 (j := 5) rfl
      try clear f0_5
      have f0_5 := frozen_of_heap h0 5
      try clear c0_6
      have c0_6 := cell_of_heap h0 (j := 6) rfl
      try clear f0_6
      have f0_6 := frozen_of_heap h0 6
      try clear c0_7
      have c0_7 := cell_of_heap h0 (j := 7) rfl
      try clear f0_7
      have f0_7 := frozen_of_heap h0 7
      try clear c1_0
      have c1_0 := cell_of_heap h1 (j := 0) rfl
      try clear f1_0
      have f1_0 := frozen_of_heap h1 0
      try clear c1_1
      have c1_1 := cell_of_heap h1 (j := 1) rfl
      try clear f1_1
      have f1_1 := frozen_of_heap h1 1
      go_wp2_with fail
      refine (H2.out _).mono ?_
      rintro e w2 ⟨rfl, hb⟩
      replace h0 : w2.heap[w.heap.size]? = some (.cells #[.int .i64 o.x, .int .i64 o.y, .int .i64 p.x, .int .i64 p.y, .int .i64 q.x, .int .i64 q.y, .int .i64 r.x, .int .i64 r.y] 27 (0, 0)) := hb_below hb (by repeat (first | exact h0 | (refine hb_new ?_; (first | omega | (simp; omega) | (simp; done))) | (refine hb_old ?_ ?_; rotate_left; focus (first | omega | (simp; omega) | (simp; done))) | refine hb_drew ?_)) (by first | omega | (simp; omega) | (simp; done))
      replace h1 : w2.heap[w.heap.size + 1]? = some (.cells #[.int .i64 y.x, .int .i64 y.y] 25 (0, 0)) := hb_below hb (by repeat (first | exact h1 | (refine hb_new ?_; (first | omega | (simp; omega) | (simp; done))) | (refine hb_old ?_ ?_; rotate_left; focus (first | omega | (simp; omega) | (simp; done))) | refine hb_drew ?_)) (by first | omega | (simp; omega) | (simp; done))
      have y2 := Below.size hb
      try simp only [World.size_alloc, World.size_drew] at y2
      have D2 := Lib.hid (show Below w.heap.size w w2 from Below.trans (by repeat (first | exact D1.out | exact Below.refl _ _ | refine Below.alloc ?_ (by first | omega | (simp; omega) | (simp; done)) _)) (Below.mono hb (by first | omega | (simp; omega) | (simp; done))))
      have z2 := D2.out.size
      clear hb
      try clear c0_0
      have c0_0 := cell_of_heap h0 (j := 0) rfl
      try clear f0_0
      have f0_0 := frozen_of_heap h0 0
      try clear c0_1
      have c0_1 := cell_of_heap h0 (j := 1) rfl
      try clear f0_1
      have f0_1 := frozen_of_heap h0 1
      try clear c0_2
      have c0_2 := cell_of_heap h0 (j := 2) rfl
      try clear f0_2
      have f0_2 := frozen_of_heap h0 2
      try clear c0_3
      have c0_3 := cell_of_heap h0 (j := 3) rfl
      try clear f0_3
      have f0_3 := frozen_of_heap h0 3
      try clear c0_4
      have c0_4 := cell_of_heap h0 (j := 4) rfl
      try clear f0_4
      have f0_4 := frozen_of_heap h0 4
      try clear c0_5
      have c0_5 := cell_of_heap h0 (j := 5) rfl
      try clear f0_5
      have f0_5 := frozen_of_heap h0 5
      try clear c0_6
      have c0_6 := cell_of_heap h0 (j := 6) rfl
      try clear f0_6
      have f0_6 := frozen_of_heap h0 6
      try clear c0_7
      have c0_7 := cell_of_heap h0 (j := 7) rfl
      try clear f0_7
      have f0_7 := frozen_of_heap h0 7
      try clear c1_0
      have c1_0 := cell_of_heap h1 (j := 0) rfl
      try clear f1_0
      have f1_0 := frozen_of_heap h1 0
      try clear c1_1
      have c1_1 := cell_of_heap h1 (j := 1) rfl
      try clear f1_1
      have f1_1 := frozen_of_heap h1 1
      go_wp2_with fail
      refine (H3.out _).mono ?_
      rintro e w3 ⟨rfl, hb⟩
      replace h0 : w3.heap[w.heap.size]? = some (.cells #[.int .i64 o.x, .int .i64 o.y, .int .i64 p.x, .int .i64 p.y, .int .i64 q.x, .int .i64 q.y, .int .i64 r.x, .int .i64 r.y] 27 (0, 0)) := hb_below hb (by repeat (first | exact h0 | (refine hb_new ?_; (first | omega | (simp; omega) | (simp; done))) | (refine hb_old ?_ ?_; rotate_left; focus (first | omega | (simp; omega) | (simp; done))) | refine hb_drew ?_)) (by first | omega | (simp; omega) | (simp; done))
      replace h1 : w3.heap[w.heap.size + 1]? = some (.cells #[.int .i64 y.x, .int .i64 y.y] 25 (0, 0)) := hb_below hb (by repeat (first | exact h1 | (refine hb_new ?_; (first | omega | (simp; omega) | (simp; done))) | (refine hb_old ?_ ?_; rotate_left; focus (first | omega | (simp; omega) | (simp; done))) | refine hb_drew ?_)) (by first | omega | (simp; omega) | (simp; done))
      have y3 := Below.size hb
      try simp only [World.size_alloc, World.size_drew] at y3
      have D3 := Lib.hid (show Below w.heap.size w w3 from Below.trans (by repeat (first | exact D2.out | exact Below.refl _ _ | refine Below.alloc ?_ (by first | omega | (simp; omega) | (simp; done)) _)) (Below.mono hb (by first | omega | (simp; omega) | (simp; done))))
      have z3 := D3.out.size
      clear hb
      try clear c0_0
      have c0_0 := cell_of_heap h0 (j := 0) rfl
      try clear f0_0
      have f0_0 := frozen_of_heap h0 0
      try clear c0_1
      have c0_1 := cell_of_heap h0 (j := 1) rfl
      try clear f0_1
      have f0_1 := frozen_of_heap h0 1
      try clear c0_2
      have c0_2 := cell_of_heap h0 (j := 2) rfl
      try clear f0_2
      have f0_2 := frozen_of_heap h0 2
      try clear c0_3
      have c0_3 := cell_of_heap h0 (j := 3) rfl
      try clear f0_3
      have f0_3 := frozen_of_heap h0 3
      try clear c0_4
      have c0_4 := cell_of_heap h0 (j := 4) rfl
      try clear f0_4
      have f0_4 := frozen_of_heap h0 4
      try clear c0_5
      have c0_5 := cell_of_heap h0 (j := 5) rfl
      try clear f0_5
      have f0_5 := frozen_of_heap h0 5
      try clear c0_6
      have c0_6 := cell_of_heap h0 (j := 6) rfl
      try clear f0_6
      have f0_6 := frozen_of_heap h0 6
      try clear c0_7
      have c0_7 := cell_of_heap h0 (j := 7) rfl
      try clear f0_7
      have f0_7 := frozen_of_heap h0 7
      try clear c1_0
      have c1_0 := cell_of_heap h1 (j := 0) rfl
      try clear f1_0
      have f1_0 := frozen_of_heap h1 0
      try clear c1_1
      have c1_1 := cell_of_heap h1 (j := 1) rfl
      try clear f1_1
      have f1_1 := frozen_of_heap h1 1
      go_wp2_with fail
      refine (H4.out _).mono ?_
      rintro e w4 ⟨rfl, hb⟩
      replace h0 : w4.heap[w.heap.size]? = some (.cells #[.int .i64 o.x, .int .i64 o.y, .int .i64 p.x, .int .i64 p.y, .int .i64 q.x, .int .i64 q.y, .int .i64 r.x, .int .i64 r.y] 27 (0, 0)) := hb_below hb (by repeat (first | exact h0 | (refine hb_new ?_; (first | omega | (simp; omega) | (simp; done))) | (refine hb_old ?_ ?_; rotate_left; focus (first | omega | (simp; omega) | (simp; done))) | refine hb_drew ?_)) (by first | omega | (simp; omega) | (simp; done))
      replace h1 : w4.heap[w.heap.size + 1]? = some (.cells #[.int .i64 y.x, .int .i64 y.y] 25 (0, 0)) := hb_below hb (by repeat (first | exact h1 | (refine hb_new ?_; (first | omega | (simp; omega) | (simp; done))) | (refine hb_old ?_ ?_; rotate_left; focus (first | omega | (simp; omega) | (simp; done))) | refine hb_drew ?_)) (by first | omega | (simp; omega) | (simp; done))
      have y4 := Below.size hb
      try simp only [World.size_alloc, World.size_drew] at y4
      have D4 := Lib.hid (show Below w.heap.size w w4 from Below.trans (by repeat (first | exact D3.out | exact Below.refl _ _ | refine Below.alloc ?_ (by first | omega | (simp; omega) | (simp; done)) _)) (Below.mono hb (by first | omega | (simp; omega) | (simp; done))))
      have z4 := D4.out.size
      clear hb
      try clear c0_0
      have c0_0 := cell_of_heap h0 (j := 0) rfl
      try clear f0_0
      have f0_0 := frozen_of_heap h0 0
      try clear c0_1
      have c0_1 := cell_of_heap h0 (j := 1) rfl
      try clear f0_1
      have f0_1 := frozen_of_heap h0 1
      try clear c0_2
      have c0_2 := cell_of_heap h0 (j := 2) rfl
      try clear f0_2
      have f0_2 := frozen_of_heap h0 2
      try clear c0_3
      have c0_3 := cell_of_heap h0 (j := 3) rfl
      try clear f0_3
      have f0_3 := frozen_of_heap h0 3
      try clear c0_4
      have c0_4 := cell_of_heap h0 (j := 4) rfl
      try clear f0_4
      have f0_4 := frozen_of_heap h0 4
      try clear c0_5
      have c0_5 := cell_of_heap h0 (j := 5) rfl
      try clear f0_5
      have f0_5 := frozen_of_heap h0 5
      try clear c0_6
      have c0_6 := cell_of_heap h0 (j := 6) rfl
      try clear f0_6
      have f0_6 := frozen_of_heap h0 6
      try clear c0_7
      have c0_7 := cell_of_heap h0 (j := 7) rfl
      try clear f0_7
      have f0_7 := frozen_of_heap h0 7
      try clear c1_0
      have c1_0 := cell_of_heap h1 (j := 0) rfl
      try clear f1_0
      have f1_0 := frozen_of_heap h1 0
      try clear c1_1
      have c1_1 := cell_of_heap h1 (j := 1) rfl
      try clear f1_1
      have f1_1 := frozen_of_heap h1 1
      go_wp2_with fail
      refine (H5.out _).mono ?_
      rintro e w5 ⟨rfl, hb⟩
      replace h0 : w5.heap[w.heap.size]? = some (.cells #[.int .i64 o.x, .int .i64 o.y, .int .i64 p.x, .int .i64 p.y, .int .i64 q.x, .int .i64 q.y, .int .i64 r.x, .int .i64 r.y] 27 (0, 0)) := hb_below hb (by repeat (first | exact h0 | (refine hb_new ?_; (first | omega | (simp; omega) | (simp; done))) | (refine hb_old ?_ ?_; rotate_left; focus (first | omega | (simp; omega) | (simp; done))) | refine hb_drew ?_)) (by first | omega | (simp; omega) | (simp; done))
      replace h1 : w5.heap[w.heap.size + 1]? = some (.cells #[.int .i64 y.x, .int .i64 y.y] 25 (0, 0)) := hb_below hb (by repeat (first | exact h1 | (refine hb_new ?_; (first | omega | (simp; omega) | (simp; done))) | (refine hb_old ?_ ?_; rotate_left; focus (first | omega | (simp; omega) | (simp; done))) | refine hb_drew ?_)) (by first | omega | (simp; omega) | (simp; done))
      have y5 := Below.size hb
      try simp only [World.size_alloc, World.size_drew] at y5
      have D5 := Lib.hid (show Below w.heap.size w w5 from Below.trans (by repeat (first | exact D4.out | exact Below.refl _ _ | refine Below.alloc ?_ (by first | omega | (simp; omega) | (simp; done)) _)) (Below.mono hb (by first | omega | (simp; omega) | (simp; done))))
      have z5 := D5.out.size
      clear hb
      try clear c0_0
      have c0_0 := cell_of_heap h0 (j := 0) rfl
      try clear f0_0
      have f0_0 := frozen_of_heap h0 0
      try clear c0_1
      have c0_1 := cell_of_heap h0 (j := 1) rfl
      try clear f0_1
      have f0_1 := frozen_of_heap h0 1
      try clear c0_2
      have c0_2 := cell_of_heap h0 (j := 2) rfl
      try clear f0_2
      have f0_2 := frozen_of_heap h0 2
      try clear c0_3
      have c0_3 := cell_of_heap h0 (j := 3) rfl
      try clear f0_3
      have f0_3 := frozen_of_heap h0 3
      try clear c0_4
      have c0_4 := cell_of_heap h0 (j := 4) rfl
      try clear f0_4
      have f0_4 := frozen_of_heap h0 4
      try clear c0_5
      have c0_5 := cell_of_heap h0 (j := 5) rfl
      try clear f0_5
      have f0_5 := frozen_of_heap h0 5
      try clear c0_6
      have c0_6 := cell_of_heap h0 (j := 6) rfl
      try clear f0_6
      have f0_6 := frozen_of_heap h0 6
      try clear c0_7
      have c0_7 := cell_of_heap h0 (j := 7) rfl
      try clear f0_7
      have f0_7 := frozen_of_heap h0 7
      try clear c1_0
      have c1_0 := cell_of_heap h1 (j := 0) rfl
      try clear f1_0
      have f1_0 := frozen_of_heap h1 0
      try clear c1_1
      have c1_1 := cell_of_heap h1 (j := 1) rfl
      try clear f1_1
      have f1_1 := frozen_of_heap h1 1
      by_cases a1 : 0 < A
      · go_wp2_with fail
        refine (H7.out _ (HG.out.next (Below.trans D5.out (by repeat (first | exact Below.refl _ _ | refine Below.alloc ?_ (by first | omega | (simp; omega) | (simp; done)) _))))).mono ?_
        rintro e w6 ⟨rfl, hb⟩
        replace h0 : w6.heap[w.heap.size]? = some (.cells #[.int .i64 o.x, .int .i64 o.y, .int .i64 p.x, .int .i64 p.y, .int .i64 q.x, .int .i64 q.y, .int .i64 r.x, .int .i64 r.y] 27 (0, 0)) := hb_below hb (by repeat (first | exact h0 | (refine hb_new ?_; (first | omega | (simp; omega) | (simp; done))) | (refine hb_old ?_ ?_; rotate_left; focus (first | omega | (simp; omega) | (simp; done))) | refine hb_drew ?_)) (by first | omega | (simp; omega) | (simp; done))
        replace h1 : w6.heap[w.heap.size + 1]? = some (.cells #[.int .i64 y.x, .int .i64 y.y] 25 (0, 0)) := hb_below hb (by repeat (first | exact h1 | (refine hb_new ?_; (first | omega | (simp; omega) | (simp; done))) | (refine hb_old ?_ ?_; rotate_left; focus (first | omega | (simp; omega) | (simp; done))) | refine hb_drew ?_)) (by first | omega | (simp; omega) | (simp; done))
        have y6 := Below.size hb
        try simp only [World.size_alloc, World.size_drew] at y6
        have D6 := Lib.hid (show Below w.heap.size w w6 from Below.trans (by repeat (first | exact D5.out | exact Below.refl _ _ | refine Below.alloc ?_ (by first | omega | (simp; omega) | (simp; done)) _)) (Below.mono hb (by first | omega | (simp; omega) | (simp; done))))
        have z6 := D6.out.size
        clear hb
        try clear c0_0
        have c0_0 := cell_of_heap h0 (j := 0) rfl
        try clear f0_0
        have f0_0 := frozen_of_heap h0 0
        try clear c0_1
        have c0_1 := cell_of_heap h0 (j := 1) rfl
        try clear f0_1
        have f0_1 := frozen_of_heap h0 1
        try clear c0_2
        have c0_2 := cell_of_heap h0 (j := 2) rfl
        try clear f0_2
        have f0_2 := frozen_of_heap h0 2
        try clear c0_3
        have c0_3 := cell_of_heap h0 (j := 3) rfl
        try clear f0_3
        have f0_3 := frozen_of_heap h0 3
        try clear c0_4
        have c0_4 := cell_of_heap h0 (j := 4) rfl
        try clear f0_4
        have f0_4 := frozen_of_heap h0 4
        try clear c0_5
        have c0_5 := cell_of_heap h0 (j := 5) rfl
        try clear f0_5
        have f0_5 := frozen_of_heap h0 5
        try clear c0_6
        have c0_6 := cell_of_heap h0 (j := 6) rfl
        try clear f0_6
        have f0_6 := frozen_of_heap h0 6
        try clear c0_7
        have c0_7 := cell_of_heap h0 (j := 7) rfl
        try clear f0_7
        have f0_7 := frozen_of_heap h0 7
        try clear c1_0
        have c1_0 := cell_of_heap h1 (j := 0) rfl
        try clear f1_0
        have f1_0 := frozen_of_heap h1 0
        try clear c1_1
        have c1_1 := cell_of_heap h1 (j := 1) rfl
        try clear f1_1
        have f1_1 := frozen_of_heap h1 1
        go_wp2_with fail
        go_ret
        exact ⟨by first | rfl | (simp [*]; done) | (simp; omega), D6.out⟩
        all_goals (first | (exfalso; omega) | (exfalso; simp_all; done) | (exfalso; simp_all; omega))
      · by_cases c1 : 0 < C
        · go_wp2_with fail
          refine (H7.out _ (HG.out.next (Below.trans D5.out (by repeat (first | exact Below.refl _ _ | refine Below.alloc ?_ (by first | omega | (simp; omega) | (simp; done)) _))))).mono ?_
          rintro e w6 ⟨rfl, hb⟩
          replace h0 : w6.heap[w.heap.size]? = some (.cells #[.int .i64 o.x, .int .i64 o.y, .int .i64 p.x, .int .i64 p.y, .int .i64 q.x, .int .i64 q.y, .int .i64 r.x, .int .i64 r.y] 27 (0, 0)) := hb_below hb (by repeat (first | exact h0 | (refine hb_new ?_; (first | omega | (simp; omega) | (simp; done))) | (refine hb_old ?_ ?_; rotate_left; focus (first | omega | (simp; omega) | (simp; done))) | refine hb_drew ?_)) (by first | omega | (simp; omega) | (simp; done))
          replace h1 : w6.heap[w.heap.size + 1]? = some (.cells #[.int .i64 y.x, .int .i64 y.y] 25 (0, 0)) := hb_below hb (by repeat (first | exact h1 | (refine hb_new ?_; (first | omega | (simp; omega) | (simp; done))) | (refine hb_old ?_ ?_; rotate_left; focus (first | omega | (simp; omega) | (simp; done))) | refine hb_drew ?_)) (by first | omega | (simp; omega) | (simp; done))
          have y6 := Below.size hb
          try simp only [World.size_alloc, World.size_drew] at y6
          have D6 := Lib.hid (show Below w.heap.size w w6 from Below.trans (by repeat (first | exact D5.out | exact Below.refl _ _ | refine Below.alloc ?_ (by first | omega | (simp; omega) | (simp; done)) _)) (Below.mono hb (by first | omega | (simp; omega) | (simp; done))))
          have z6 := D6.out.size
          clear hb
          try clear c0_0
          have c0_0 := cell_of_heap h0 (j := 0) rfl
          try clear f0_0
          have f0_0 := frozen_of_heap h0 0
          try clear c0_1
          have c0_1 := cell_of_heap h0 (j := 1) rfl
          try clear f0_1
          have f0_1 := frozen_of_heap h0 1
          try clear c0_2
          have c0_2 := cell_of_heap h0 (j := 2) rfl
          try clear f0_2
          have f0_2 := frozen_of_heap h0 2
          try clear c0_3
          have c0_3 := cell_of_heap h0 (j := 3) rfl
          try clear f0_3
          have f0_3 := frozen_of_heap h0 3
          try clear c0_4
          have c0_4 := cell_of_heap h0 (j := 4) rfl
          try clear f0_4
          have f0_4 := frozen_of_heap h0 4
          try clear c0_5
          have c0_5 := cell_of_heap h0 (j := 5) rfl
          try clear f0_5
          have f0_5 := frozen_of_heap h0 5
          try clear c0_6
          have c0_6 := cell_of_heap h0 (j := 6) rfl
          try clear f0_6
          have f0_6 := frozen_of_heap h0 6
          try clear c0_7
          have c0_7 := cell_of_heap h0 (j := 7) rfl
          try clear f0_7
          have f0_7 := frozen_of_heap h0 7
          try clear c1_0
          have c1_0 := cell_of_heap h1 (j := 0) rfl
          try clear f1_0
          have f1_0 := frozen_of_heap h1 0
          try clear c1_1
          have c1_1 := cell_of_heap h1 (j := 1) rfl
          try clear f1_1
          have f1_1 := frozen_of_heap h1 1
          go_wp2_with fail
          go_ret
          exact ⟨by first | rfl | (simp [*]; done) | (simp; omega), D6.out⟩
          all_goals (first | (exfalso; omega) | (exfalso; simp_all; done) | (exfalso; simp_all; omega))
        · obtain ⟨d1, d2⟩ := HT.out (by omega) (by omega)
          by_cases a2 : A = 0
          · by_cases c2 : C = 0
            · have d3 : D = 0 := d2.1 ⟨a2, c2⟩
              clear d2
              go_wp2_with fail
              refine (H7.out _ (HG.out.next (Below.trans D5.out (by repeat (first | exact Below.refl _ _ | refine Below.alloc ?_ (by first | omega | (simp; omega) | (simp; done)) _))))).mono ?_
              rintro e w6 ⟨rfl, hb⟩
              replace h0 : w6.heap[w.heap.size]? = some (.cells #[.int .i64 o.x, .int .i64 o.y, .int .i64 p.x, .int .i64 p.y, .int .i64 q.x, .int .i64 q.y, .int .i64 r.x, .int .i64 r.y] 27 (0, 0)) := hb_below hb (by repeat (first | exact h0 | (refine hb_new ?_; (first | omega | (simp; omega) | (simp; done))) | (refine hb_old ?_ ?_; rotate_left; focus (first | omega | (simp; omega) | (simp; done))) | refine hb_drew ?_)) (by first | omega | (simp; omega) | (simp; done))
              replace h1 : w6.heap[w.heap.size + 1]? = some (.cells #[.int .i64 y.x, .int .i64 y.y] 25 (0, 0)) := hb_below hb (by repeat (first | exact h1 | (refine hb_new ?_; (first | omega | (simp; omega) | (simp; done))) | (refine hb_old ?_ ?_; rotate_left; focus (first | omega | (simp; omega) | (simp; done))) | refine hb_drew ?_)) (by first | omega | (simp; omega) | (simp; done))
              have y6 := Below.size hb
              try simp only [World.size_alloc, World.size_drew] at y6
              have D6 := Lib.hid (show Below w.heap.size w w6 from Below.trans (by repeat (first | exact D5.out | exact Below.refl _ _ | refine Below.alloc ?_ (by first | omega | (simp; omega) | (simp; done)) _)) (Below.mono hb (by first | omega | (simp; omega) | (simp; done))))
              have z6 := D6.out.size
              clear hb
              try clear c0_0
              have c0_0 := cell_of_heap h0 (j := 0) rfl
              try clear f0_0
              have f0_0 := frozen_of_heap h0 0
              try clear c0_1
              have c0_1 := cell_of_heap h0 (j := 1) rfl
              try clear f0_1
              have f0_1 := frozen_of_heap h0 1
              try clear c0_2
              have c0_2 := cell_of_heap h0 (j := 2) rfl
              try clear f0_2
              have f0_2 := frozen_of_heap h0 2
              try clear c0_3
              have c0_3 := cell_of_heap h0 (j := 3) rfl
              try clear f0_3
              have f0_3 := frozen_of_heap h0 3
              try clear c0_4
              have c0_4 := cell_of_heap h0 (j := 4) rfl
              try clear f0_4
              have f0_4 := frozen_of_heap h0 4
              try clear c0_5
              have c0_5 := cell_of_heap h0 (j := 5) rfl
              try clear f0_5
              have f0_5 := frozen_of_heap h0 5
              try clear c0_6
              have c0_6 := cell_of_heap h0 (j := 6) rfl
              try clear f0_6
              have f0_6 := frozen_of_heap h0 6
              try clear c0_7
              have c0_7 := cell_of_heap h0 (j := 7) rfl
              try clear f0_7
              have f0_7 := frozen_of_heap h0 7
              try clear c1_0
              have c1_0 := cell_of_heap h1 (j := 0) rfl
              try clear f1_0
              have f1_0 := frozen_of_heap h1 0
              try clear c1_1
              have c1_1 := cell_of_heap h1 (j := 1) rfl
              try clear f1_1
              have f1_1 := frozen_of_heap h1 1
              go_wp2_with fail
              go_ret
              exact ⟨by first | rfl | (simp [*]; done) | (simp; omega), D6.out⟩
              all_goals (first | (exfalso; omega) | (exfalso; simp_all; done) | (exfalso; simp_all; omega))
            · have d3 : ¬ D = 0 := fun h => c2 (d2.2 h).2
              clear d2
              have ea : A = 0 := a2
              have ec : C = -1 := by omega
              have ed : D = -1 := by omega
              clear a1 a2 c1 c2 d1 d3
              subst ea
              subst ec
              subst ed
              go_wp2_with fail
              refine (H7.out _ (HG.out.next (Below.trans D5.out (by repeat (first | exact Below.refl _ _ | refine Below.alloc ?_ (by first | omega | (simp; omega) | (simp; done)) _))))).mono ?_
              rintro e w6 ⟨rfl, hb⟩
              replace h0 : w6.heap[w.heap.size]? = some (.cells #[.int .i64 o.x, .int .i64 o.y, .int .i64 p.x, .int .i64 p.y, .int .i64 q.x, .int .i64 q.y, .int .i64 r.x, .int .i64 r.y] 27 (0, 0)) := hb_below hb (by repeat (first | exact h0 | (refine hb_new ?_; (first | omega | (simp; omega) | (simp; done))) | (refine hb_old ?_ ?_; rotate_left; focus (first | omega | (simp; omega) | (simp; done))) | refine hb_drew ?_)) (by first | omega | (simp; omega) | (simp; done))
              replace h1 : w6.heap[w.heap.size + 1]? = some (.cells #[.int .i64 y.x, .int .i64 y.y] 25 (0, 0)) := hb_below hb (by repeat (first | exact h1 | (refine hb_new ?_; (first | omega | (simp; omega) | (simp; done))) | (refine hb_old ?_ ?_; rotate_left; focus (first | omega | (simp; omega) | (simp; done))) | refine hb_drew ?_)) (by first | omega | (simp; omega) | (simp; done))
              have y6 := Below.size hb
              try simp only [World.size_alloc, World.size_drew] at y6
              have D6 := Lib.hid (show Below w.heap.size w w6 from Below.trans (by repeat (first | exact D5.out | exact Below.refl _ _ | refine Below.alloc ?_ (by first | omega | (simp; omega) | (simp; done)) _)) (Below.mono hb (by first | omega | (simp; omega) | (simp; done))))
              have z6 := D6.out.size
              clear hb
              try clear c0_0
              have c0_0 := cell_of_heap h0 (j := 0) rfl
              try clear f0_0
              have f0_0 := frozen_of_heap h0 0
              try clear c0_1
              have c0_1 := cell_of_heap h0 (j := 1) rfl
              try clear f0_1
              have f0_1 := frozen_of_heap h0 1
              try clear c0_2
              have c0_2 := cell_of_heap h0 (j := 2) rfl
              try clear f0_2
              have f0_2 := frozen_of_heap h0 2
              try clear c0_3
              have c0_3 := cell_of_heap h0 (j := 3) rfl
              try clear f0_3
              have f0_3 := frozen_of_heap h0 3
              try clear c0_4
              have c0_4 := cell_of_heap h0 (j := 4) rfl
              try clear f0_4
              have f0_4 := frozen_of_heap h0 4
              try clear c0_5
              have c0_5 := cell_of_heap h0 (j := 5) rfl
              try clear f0_5
              have f0_5 := frozen_of_heap h0 5
              try clear c0_6
              have c0_6 := cell_of_heap h0 (j := 6) rfl
              try clear f0_6
              have f0_6 := frozen_of_heap h0 6
              try clear c0_7
              have c0_7 := cell_of_heap h0 (j := 7) rfl
              try clear f0_7
              have f0_7 := frozen_of_heap h0 7
              try clear c1_0
              have c1_0 := cell_of_heap h1 (j := 0) rfl
              try clear f1_0
              have f1_0 := frozen_of_heap h1 0
              try clear c1_1
              have c1_1 := cell_of_heap h1 (j := 1) rfl
              try clear f1_1
              have f1_1 := frozen_of_heap h1 1
              go_wp2_with fail
              go_ret
              exact ⟨by first | rfl | (simp [*]; done) | (simp; omega), D6.out⟩
              all_goals (first | (exfalso; omega) | (exfalso; simp_all; done) | (exfalso; simp_all; omega))
          · have d3 : ¬ D = 0 := fun h => a2 (d2.2 h).1
            clear d2
            go_wp2_with fail
            refine (H7.out _ (HG.out.next (Below.trans D5.out (by repeat (first | exact Below.refl _ _ | refine Below.alloc ?_ (by first | omega | (simp; omega) | (simp; done)) _))))).mono ?_
            rintro e w6 ⟨rfl, hb⟩
            replace h0 : w6.heap[w.heap.size]? = some (.cells #[.int .i64 o.x, .int .i64 o.y, .int .i64 p.x, .int .i64 p.y, .int .i64 q.x, .int .i64 q.y, .int .i64 r.x, .int .i64 r.y] 27 (0, 0)) := hb_below hb (by repeat (first | exact h0 | (refine hb_new ?_; (first | omega | (simp; omega) | (simp; done))) | (refine hb_old ?_ ?_; rotate_left; focus (first | omega | (simp; omega) | (simp; done))) | refine hb_drew ?_)) (by first | omega | (simp; omega) | (simp; done))
            replace h1 : w6.heap[w.heap.size + 1]? = some (.cells #[.int .i64 y.x, .int .i64 y.y] 25 (0, 0)) := hb_below hb (by repeat (first | exact h1 | (refine hb_new ?_; (first | omega | (simp; omega) | (simp; done))) | (refine hb_old ?_ ?_; rotate_left; focus (first | omega | (simp; omega) | (simp; done))) | refine hb_drew ?_)) (by first | omega | (simp; omega) | (simp; done))
            have y6 := Below.size hb
            try simp only [World.size_alloc, World.size_drew] at y6
            have D6 := Lib.hid (show Below w.heap.size w w6 from Below.trans (by repeat (first | exact D5.out | exact Below.refl _ _ | refine Below.alloc ?_ (by first | omega | (simp; omega) | (simp; done)) _)) (Below.mono hb (by first | omega | (simp; omega) | (simp; done))))
            have z6 := D6.out.size
            clear hb
            try clear c0_0
            have c0_0 := cell_of_heap h0 (j := 0) rfl
            try clear f0_0
            have f0_0 := frozen_of_heap h0 0
            try clear c0_1
            have c0_1 := cell_of_heap h0 (j := 1) rfl
            try clear f0_1
            have f0_1 := frozen_of_heap h0 1
            try clear c0_2
            have c0_2 := cell_of_heap h0 (j := 2) rfl
            try clear f0_2
            have f0_2 := frozen_of_heap h0 2
            try clear c0_3
            have c0_3 := cell_of_heap h0 (j := 3) rfl
            try clear f0_3
            have f0_3 := frozen_of_heap h0 3
            try clear c0_4
            have c0_4 := cell_of_heap h0 (j := 4) rfl
            try clear f0_4
            have f0_4 := frozen_of_heap h0 4
            try clear c0_5
            have c0_5 := cell_of_heap h0 (j := 5) rfl
            try clear f0_5
            have f0_5 := frozen_of_heap h0 5
            try clear c0_6
            have c0_6 := cell_of_heap h0 (j := 6) rfl
            try clear f0_6
            have f0_6 := frozen_of_heap h0 6
            try clear c0_7
            have c0_7 := cell_of_heap h0 (j := 7) rfl
            try clear f0_7
            have f0_7 := frozen_of_heap h0 7
            try clear c1_0
            have c1_0 := cell_of_heap h1 (j := 0) rfl
            try clear f1_0
            have f1_0 := frozen_of_heap h1 0
            try clear c1_1
            have c1_1 := cell_of_heap h1 (j := 1) rfl
            try clear f1_1
            have f1_1 := frozen_of_heap h1 1
            go_wp2_with fail
            go_ret
            exact ⟨by first | rfl | (simp [*]; done) | (simp; omega), D6.out⟩
            all_goals (first | (exfalso; omega) | (exfalso; simp_all; done) | (exfalso; simp_all; omega))
end Go.Proofs.YtgekgfmlinoniaaDoor
