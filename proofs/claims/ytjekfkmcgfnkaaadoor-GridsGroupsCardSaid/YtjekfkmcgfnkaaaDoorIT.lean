/- Keeps on both sides. -/
import Derived.Test.YtjekfkmcgfnkaaaDoorID
namespace Go.Proofs.YtjekfkmcgfnkaaaDoor
open Go.RowKit Go.Lib
set_option linter.unusedSimpArgs false
set_option linter.unusedVariables false
def keepV (l : Lat) (m : Mat) : Bool := okL l && okM m && decide (led l m = l)
set_option maxHeartbeats 4000000 in
set_option maxRecDepth 100000 in
theorem Keeps_any (l : Lat) (m : Mat) (w : World) : Calls Tryd.prog 26 #[l.val, m.val] w fun e w' => e = .returned (.tuple #[.bool (keepV l m), .int .i64 (errIf (okL l && okM m))]) ∧ Below w.heap.size w w' := by
  have C1 := fun W => validLattice_any l W
  have C2 := fun W => validMatrix_any m W
  have C3 := fun W => led_any l m W
  unfold keepV
  cases hk1 : okL l
  · rw [hk1] at C1
    simp only [Bool.false_and, errIf, Bool.false_eq_true, if_false]
    unfold Lat.val Mat.val at *
    have H1 := Lib.hid C1
    clear C1 C2 C3 hk1
    go_enter Tryd.func26, Tryd.ntmps26
    go_wp2_with fail
    refine (H1.out _).mono ?_
    rintro e w1 ⟨rfl, hb⟩
    have h0 : w1.heap[w.heap.size]? = some (.cells #[.int .i64 l.a, .int .i64 l.b, .int .i64 l.c] 23 (0, 0)) := hb_below hb (by repeat (first | (refine hb_new ?_; (first | omega | (simp; omega) | (simp; done))) | (refine hb_old ?_ ?_; rotate_left; focus (first | omega | (simp; omega) | (simp; done))) | refine hb_drew ?_)) (by first | omega | (simp; omega) | (simp; done))
    have h1 : w1.heap[w.heap.size + 1]? = some (.cells #[.int .i64 m.a, .int .i64 m.b, .int .i64 m.c, .int .i64 m.d] 40 (0, 0)) := hb_below hb (by repeat (first | (refine hb_new ?_; (first | omega | (simp; omega) | (simp; done))) | (refine hb_old ?_ ?_; rotate_left; focus (first | omega | (simp; omega) | (simp; done))) | refine hb_drew ?_)) (by first | omega | (simp; omega) | (simp; done))
    have y1 := Below.size hb
    try simp only [World.size_alloc, World.size_drew] at y1
    have D1 := Lib.hid (show Below w.heap.size w w1 from Below.trans (by repeat (first | exact Below.refl _ _ | refine Below.alloc ?_ (by first | omega | (simp; omega) | (simp; done)) _)) (Below.mono hb (by first | omega | (simp; omega) | (simp; done))))
    have z1 := D1.out.size
    clear hb
    try clear c0_0
    have c0_0 := cell_of_heap h0 (j := 0) rfl
    try clear f0_0
    have f0_0 := frozen_of_heap h0 0
    try clear c0_1
    have c0_1 := cell_of_heap h0 (j := 1) rfl
    try clear f0_1
    have f0_1 := frozen_of_heap h0 1
    try clear c0_2
    have c0_2 := cell_of_heap h0 (j := 2) rfl
    try clear f0_2
    have f0_2 := frozen_of_heap h0 2
    try clear c1_0
    have c1_0 := cell_of_heap h1 (j := 0) rfl
    try clear f1_0
    have f1_0 := frozen_of_heap h1 0
    try clear c1_1
    have c1_1 := cell_of_heap h1 (j := 1) rfl
    try clear f1_1
    have f1_1 := frozen_of_heap h1 1
    try clear c1_2
    have c1_2 := cell_of_heap h1 (j := 2) rfl
    try clear f1_2
    have f1_2 := frozen_of_heap h1 2
    try clear c1_3
    have c1_3 := cell_of_heap h1 (j := 3) rfl
    try clear f1_3
    have f1_3 := frozen_of_heap h1 3
    go_wp2_with fail
    go_ret2
    exact ⟨rfl, (by repeat (first | exact D1.out | exact Below.refl _ _ | refine Below.alloc ?_ (by first | omega | (simp; omega) | (simp; done)) _))⟩
  · rw [hk1] at C1
    cases hk2 : okM m
    · rw [hk2] at C2
      simp only [Bool.and_false, Bool.false_and, errIf, Bool.false_eq_true, if_false]
      unfold Lat.val Mat.val at *
      have H1 := Lib.hid C1
      have H2 := Lib.hid C2
      clear C1 C2 C3 hk1 hk2
      go_enter Tryd.func26, Tryd.ntmps26
      go_wp2_with fail
      refine (H1.out _).mono ?_
      rintro e w1 ⟨rfl, hb⟩
      have h0 : w1.heap[w.heap.size]? = some (.cells #[.int .i64 l.a, .int .i64 l.b, .int .i64 l.c] 23 (0, 0)) := hb_below hb (by repeat (first | (refine hb_new ?_; (first | omega | (simp; omega) | (simp; done))) | (refine hb_old ?_ ?_; rotate_left; focus (first | omega | (simp; omega) | (simp; done))) | refine hb_drew ?_)) (by first | omega | (simp; omega) | (simp; done))
      have h1 : w1.heap[w.heap.size + 1]? = some (.cells #[.int .i64 m.a, .int .i64 m.b, .int .i64 m.c, .int .i64 m.d] 40 (0, 0)) := hb_below hb (by repeat (first | (refine hb_new ?_; (first | omega | (simp; omega) | (simp; done))) | (refine hb_old ?_ ?_; rotate_left; focus (first | omega | (simp; omega) | (simp; done))) | refine hb_drew ?_)) (by first | omega | (simp; omega) | (simp; done))
      have y1 := Below.size hb
      try simp only [World.size_alloc, World.size_drew] at y1
      have D1 := Lib.hid (show Below w.heap.size w w1 from Below.trans (by repeat (first | exact Below.refl _ _ | refine Below.alloc ?_ (by first | omega | (simp; omega) | (simp; done)) _)) (Below.mono hb (by first | omega | (simp; omega) | (simp; done))))
      have z1 := D1.out.size
      clear hb
      try clear c0_0
      have c0_0 := cell_of_heap h0 (j := 0) rfl
      try clear f0_0
      have f0_0 := frozen_of_heap h0 0
      try clear c0_1
      have c0_1 := cell_of_heap h0 (j := 1) rfl
      try clear f0_1
      have f0_1 := frozen_of_heap h0 1
      try clear c0_2
      have c0_2 := cell_of_heap h0 (j := 2) rfl
      try clear f0_2
      have f0_2 := frozen_of_heap h0 2
      try clear c1_0
      have c1_0 := cell_of_heap h1 (j := 0) rfl
      try clear f1_0
      have f1_0 := frozen_of_heap h1 0
      try clear c1_1
      have c1_1 := cell_of_heap h1 (j := 1) rfl
      try clear f1_1
      have f1_1 := frozen_of_heap h1 1
      try clear c1_2
      have c1_2 := cell_of_heap h1 (j := 2) rfl
      try clear f1_2
      have f1_2 := frozen_of_heap h1 2
      try clear c1_3
      have c1_3 := cell_of_heap h1 (j := 3) rfl
      try clear f1_3
      have f1_3 := frozen_of_heap h1 3
      go_wp2_with fail
      refine (H2.out _).mono ?_
      rintro e w2 ⟨rfl, hb⟩
      replace h0 : w2.heap[w.heap.size]? = some (.cells #[.int .i64 l.a, .int .i64 l.b, .int .i64 l.c] 23 (0, 0)) := hb_below hb (by repeat (first | exact h0 | (refine hb_new ?_; (first | omega | (simp; omega) | (simp; done))) | (refine hb_old ?_ ?_; rotate_left; focus (first | omega | (simp; omega) | (simp; done))) | refine hb_drew ?_)) (by first | omega | (simp; omega) | (simp; done))
      replace h1 : w2.heap[w.heap.size + 1]? = some (.cells #[.int .i64 m.a, .int .i64 m.b, .int .i64 m.c, .int .i64 m.d] 40 (0, 0)) := hb_below hb (by repeat (first | exact h1 | (refine hb_new ?_; (first | omega | (simp; omega) | (simp; done))) | (refine hb_old ?_ ?_; rotate_left; focus (first | omega | (simp; omega) | (simp; done))) | refine hb_drew ?_)) (by first | omega | (simp; omega) | (simp; done))
      have y2 := Below.size hb
      try simp only [World.size_alloc, World.size_drew] at y2
      have D2 := Lib.hid (show Below w.heap.size w w2 from Below.trans (by repeat (first | exact D1.out | exact Below.refl _ _ | refine Below.alloc ?_ (by first | omega | (simp; omega) | (simp; done)) _)) (Below.mono hb (by first | omega | (simp; omega) | (simp; done))))
      have z2 := D2.out.size
      clear hb
      try clear c0_0
      have c0_0 := cell_of_heap h0 (j := 0) rfl
      try clear f0_0
      have f0_0 := frozen_of_heap h0 0
      try clear c0_1
      have c0_1 := cell_of_heap h0 (j := 1) rfl
      try clear f0_1
      have f0_1 := frozen_of_heap h0 1
      try clear c0_2
      have c0_2 := cell_of_heap h0 (j := 2) rfl
      try clear f0_2
      have f0_2 := frozen_of_heap h0 2
      try clear c1_0
      have c1_0 := cell_of_heap h1 (j := 0) rfl
      try clear f1_0
      have f1_0 := frozen_of_heap h1 0
      try clear c1_1
      have c1_1 := cell_of_heap h1 (j := 1) rfl
      try clear f1_1
      have f1_1 := frozen_of_heap h1 1
      try clear c1_2
      have c1_2 := cell_of_heap h1 (j := 2) rfl
      try clear f1_2
      have f1_2 := frozen_of_heap h1 2
      try clear c1_3
      have c1_3 := cell_of_heap h1 (j := 3) rfl
      try clear f1_3
      have f1_3 := frozen_of_heap h1 3
      go_wp2_with fail
      go_ret2
      exact ⟨rfl, (by repeat (first | exact D2.out | exact Below.refl _ _ | refine Below.alloc ?_ (by first | omega | (simp; omega) | (simp; done)) _))⟩
    · rw [hk2] at C2
      rw [led_mok ((okL_iff l).1 hk1) ((okM_iff m).1 hk2)] at C3
      simp only [Bool.and_self, Bool.true_and, errIf, if_true]
      generalize led l m = L2 at *
      by_cases hq : L2 = l
      · subst hq
        rw [decide_eq_true rfl]
        unfold Lat.val Mat.val at *
        have H1 := Lib.hid C1
        have H2 := Lib.hid C2
        have H3 := Lib.hid C3
        clear C1 C2 C3 hk1 hk2
        go_enter Tryd.func26, Tryd.ntmps26
        go_wp2_with fail
        refine (H1.out _).mono ?_
        rintro e w1 ⟨rfl, hb⟩
        have h0 : w1.heap[w.heap.size]? = some (.cells #[.int .i64 L2.a, .int .i64 L2.b, .int .i64 L2.c] 23 (0, 0)) := hb_below hb (by repeat (first | (refine hb_new ?_; (first | omega | (simp; omega) | (simp; done))) | (refine hb_old ?_ ?_; rotate_left; focus (first | omega | (simp; omega) | (simp; done))) | refine hb_drew ?_)) (by first | omega | (simp; omega) | (simp; done))
        have h1 : w1.heap[w.heap.size + 1]? = some (.cells #[.int .i64 m.a, .int .i64 m.b, .int .i64 m.c, .int .i64 m.d] 40 (0, 0)) := hb_below hb (by repeat (first | (refine hb_new ?_; (first | omega | (simp; omega) | (simp; done))) | (refine hb_old ?_ ?_; rotate_left; focus (first | omega | (simp; omega) | (simp; done))) | refine hb_drew ?_)) (by first | omega | (simp; omega) | (simp; done))
        have y1 := Below.size hb
        try simp only [World.size_alloc, World.size_drew] at y1
        have D1 := Lib.hid (show Below w.heap.size w w1 from Below.trans (by repeat (first | exact Below.refl _ _ | refine Below.alloc ?_ (by first | omega | (simp; omega) | (simp; done)) _)) (Below.mono hb (by first | omega | (simp; omega) | (simp; done))))
        have z1 := D1.out.size
        clear hb
        try clear c0_0
        have c0_0 := cell_of_heap h0 (j := 0) rfl
        try clear f0_0
        have f0_0 := frozen_of_heap h0 0
        try clear c0_1
        have c0_1 := cell_of_heap h0 (j := 1) rfl
        try clear f0_1
        have f0_1 := frozen_of_heap h0 1
        try clear c0_2
        have c0_2 := cell_of_heap h0 (j := 2) rfl
        try clear f0_2
        have f0_2 := frozen_of_heap h0 2
        try clear c1_0
        have c1_0 := cell_of_heap h1 (j := 0) rfl
        try clear f1_0
        have f1_0 := frozen_of_heap h1 0
        try clear c1_1
        have c1_1 := cell_of_heap h1 (j := 1) rfl
        try clear f1_1
        have f1_1 := frozen_of_heap h1 1
        try clear c1_2
        have c1_2 := cell_of_heap h1 (j := 2) rfl
        try clear f1_2
        have f1_2 := frozen_of_heap h1 2
        try clear c1_3
        have c1_3 := cell_of_heap h1 (j := 3) rfl
        try clear f1_3
        have f1_3 := frozen_of_heap h1 3
        go_wp2_with fail
        refine (H2.out _).mono ?_
        rintro e w2 ⟨rfl, hb⟩
        replace h0 : w2.heap[w.heap.size]? = some (.cells #[.int .i64 L2.a, .int .i64 L2.b, .int .i64 L2.c] 23 (0, 0)) := hb_below hb (by repeat (first | exact h0 | (refine hb_new ?_; (first | omega | (simp; omega) | (simp; done))) | (refine hb_old ?_ ?_; rotate_left; focus (first | omega | (simp; omega) | (simp; done))) | refine hb_drew ?_)) (by first | omega | (simp; omega) | (simp; done))
        replace h1 : w2.heap[w.heap.size + 1]? = some (.cells #[.int .i64 m.a, .int .i64 m.b, .int .i64 m.c, .int .i64 m.d] 40 (0, 0)) := hb_below hb (by repeat (first | exact h1 | (refine hb_new ?_; (first | omega | (simp; omega) | (simp; done))) | (refine hb_old ?_ ?_; rotate_left; focus (first | omega | (simp; omega) | (simp; done))) | refine hb_drew ?_)) (by first | omega | (simp; omega) | (simp; done))
        have y2 := Below.size hb
        try simp only [World.size_alloc, World.size_drew] at y2
        have D2 := Lib.hid (show Below w.heap.size w w2 from Below.trans (by repeat (first | exact D1.out | exact Below.refl _ _ | refine Below.alloc ?_ (by first | omega | (simp; omega) | (simp; done)) _)) (Below.mono hb (by first | omega | (simp; omega) | (simp; done))))
        have z2 := D2.out.size
        clear hb
        try clear c0_0
        have c0_0 := cell_of_heap h0 (j := 0) rfl
        try clear f0_0
        have f0_0 := frozen_of_heap h0 0
        try clear c0_1
        have c0_1 := cell_of_heap h0 (j := 1) rfl
        try clear f0_1
        have f0_1 := frozen_of_heap h0 1
        try clear c0_2
        have c0_2 := cell_of_heap h0 (j := 2) rfl
        try clear f0_2
        have f0_2 := frozen_of_heap h0 2
        try clear c1_0
        have c1_0 := cell_of_heap h1 (j := 0) rfl
        try clear f1_0
        have f1_0 := frozen_of_heap h1 0
        try clear c1_1
        have c1_1 := cell_of_heap h1 (j := 1) rfl
        try clear f1_1
        have f1_1 := frozen_of_heap h1 1
        try clear c1_2
        have c1_2 := cell_of_heap h1 (j := 2) rfl
        try clear f1_2
        have f1_2 := frozen_of_heap h1 2
        try clear c1_3
        have c1_3 := cell_of_heap h1 (j := 3) rfl
        try clear f1_3
        have f1_3 := frozen_of_heap h1 3
        go_wp2_with fail
        try clear c0_0
        try clear f0_0
        try clear c0_1
        try clear f0_1
        try clear c0_2
        try clear f0_2
        try clear c1_0
        try clear f1_0
        try clear c1_1
        try clear f1_1
        try clear c1_2
        try clear f1_2
        try clear c1_3
        try clear f1_3
        refine wp_region_class (fun w' => Below w2.heap.size w2 w') 4 (by kernel_rfl) (by kernel_rfl) (Below.refl _ w2).drew ?_
        simp only [List.take_succ_cons, List.take_zero, List.drop_succ_cons, List.drop_zero]
        refine quiet_load_mid rfl _ _ rfl _ _ rfl [.int .i64 L2.a, .int .i64 L2.b, .int .i64 L2.c] _ (fun w' h => range_of_heap (hb_below h h0 (by first | omega | (simp; omega) | (simp; done)))) Tryd.underlying23 rfl (by kernel_rfl) ?_
        simp only [Act.put, List.setIfInBounds_toArray, List.set_cons_zero, List.set_cons_succ]
        refine quiet_load_mid rfl _ _ rfl _ _ rfl [.int .i64 m.a, .int .i64 m.b, .int .i64 m.c, .int .i64 m.d] _ (fun w' h => range_of_heap (hb_below h h1 (by first | omega | (simp; omega) | (simp; done)))) Tryd.underlying40 rfl (by kernel_rfl) ?_
        simp only [Act.put, List.setIfInBounds_toArray, List.set_cons_zero, List.set_cons_succ]
        refine quiet_call rfl 69 _ _ rfl (enter_of Tryd.func69 (by decide) (by intro h; cases h)) _ (in_class_b H3.out) ?_
        simp only [Act.put, List.setIfInBounds_toArray, List.set_cons_zero, List.set_cons_succ]
        refine quiet_load_mid rfl _ _ rfl _ _ rfl [.int .i64 L2.a, .int .i64 L2.b, .int .i64 L2.c] _ (fun w' h => range_of_heap (hb_below h h0 (by first | omega | (simp; omega) | (simp; done)))) Tryd.underlying23 rfl (by kernel_rfl) ?_
        simp only [Act.put, List.setIfInBounds_toArray, List.set_cons_zero, List.set_cons_succ]
        intro w3 hb
        replace h0 : w3.heap[w.heap.size]? = some (.cells #[.int .i64 L2.a, .int .i64 L2.b, .int .i64 L2.c] 23 (0, 0)) := hb_below hb (by repeat (first | exact h0 | (refine hb_new ?_; (first | omega | (simp; omega) | (simp; done))) | (refine hb_old ?_ ?_; rotate_left; focus (first | omega | (simp; omega) | (simp; done))) | refine hb_drew ?_)) (by first | omega | (simp; omega) | (simp; done))
        replace h1 : w3.heap[w.heap.size + 1]? = some (.cells #[.int .i64 m.a, .int .i64 m.b, .int .i64 m.c, .int .i64 m.d] 40 (0, 0)) := hb_below hb (by repeat (first | exact h1 | (refine hb_new ?_; (first | omega | (simp; omega) | (simp; done))) | (refine hb_old ?_ ?_; rotate_left; focus (first | omega | (simp; omega) | (simp; done))) | refine hb_drew ?_)) (by first | omega | (simp; omega) | (simp; done))
        have y3 := Below.size hb
        try simp only [World.size_alloc, World.size_drew] at y3
        have D3 := Lib.hid (show Below w.heap.size w w3 from Below.trans (by repeat (first | exact D2.out | exact Below.refl _ _ | refine Below.alloc ?_ (by first | omega | (simp; omega) | (simp; done)) _)) (Below.mono hb (by first | omega | (simp; omega) | (simp; done))))
        have z3 := D3.out.size
        clear hb
        try clear c0_0
        have c0_0 := cell_of_heap h0 (j := 0) rfl
        try clear f0_0
        have f0_0 := frozen_of_heap h0 0
        try clear c0_1
        have c0_1 := cell_of_heap h0 (j := 1) rfl
        try clear f0_1
        have f0_1 := frozen_of_heap h0 1
        try clear c0_2
        have c0_2 := cell_of_heap h0 (j := 2) rfl
        try clear f0_2
        have f0_2 := frozen_of_heap h0 2
        try clear c1_0
        have c1_0 := cell_of_heap h1 (j := 0) rfl
        try clear f1_0
        have f1_0 := frozen_of_heap h1 0
        try clear c1_1
        have c1_1 := cell_of_heap h1 (j := 1) rfl
        try clear f1_1
        have f1_1 := frozen_of_heap h1 1
        try clear c1_2
        have c1_2 := cell_of_heap h1 (j := 2) rfl
        try clear f1_2
        have f1_2 := frozen_of_heap h1 2
        try clear c1_3
        have c1_3 := cell_of_heap h1 (j := 3) rfl
        try clear f1_3
        have f1_3 := frozen_of_heap h1 3
        go_wp2_with fail
        go_ret2
        exact ⟨rfl, (by repeat (first | exact D3.out | exact Below.refl _ _ | refine Below.alloc ?_ (by first | omega | (simp; omega) | (simp; done)) _))⟩
      · rw [decide_eq_false hq]
        have hne : ¬ (L2.a = l.a ∧ L2.b = l.b ∧ L2.c = l.c) := fun h => hq (by cases L2; cases l; simp only [Lat.mk.injEq]; exact h)
        unfold Lat.val Mat.val at *
        have H1 := Lib.hid C1
        have H2 := Lib.hid C2
        have H3 := Lib.hid C3
        clear C1 C2 C3 hk1 hk2 hq
        go_enter Tryd.func26, Tryd.ntmps26
        go_wp2_with fail
        refine (H1.out _).mono ?_
        rintro e w1 ⟨rfl, hb⟩
        have h0 : w1.heap[w.heap.size]? = some (.cells #[.int .i64 l.a, .int .i64 l.b, .int .i64 l.c] 23 (0, 0)) := hb_below hb (by repeat (first | (refine hb_new ?_; (first | omega | (simp; omega) | (simp; done))) | (refine hb_old ?_ ?_; rotate_left; focus (first | omega | (simp; omega) | (simp; done))) | refine hb_drew ?_)) (by first | omega | (simp; omega) | (simp; done))
        have h1 : w1.heap[w.heap.size + 1]? = some (.cells #[.int .i64 m.a, .int .i64 m.b, .int .i64 m.c, .int .i64 m.d] 40 (0, 0)) := hb_below hb (by repeat (first | (refine hb_new ?_; (first | omega | (simp; omega) | (simp; done))) | (refine hb_old ?_ ?_; rotate_left; focus (first | omega | (simp; omega) | (simp; done))) | refine hb_drew ?_)) (by first | omega | (simp; omega) | (simp; done))
        have y1 := Below.size hb
        try simp only [World.size_alloc, World.size_drew] at y1
        have D1 := Lib.hid (show Below w.heap.size w w1 from Below.trans (by repeat (first | exact Below.refl _ _ | refine Below.alloc ?_ (by first | omega | (simp; omega) | (simp; done)) _)) (Below.mono hb (by first | omega | (simp; omega) | (simp; done))))
        have z1 := D1.out.size
        clear hb
        try clear c0_0
        have c0_0 := cell_of_heap h0 (j := 0) rfl
        try clear f0_0
        have f0_0 := frozen_of_heap h0 0
        try clear c0_1
        have c0_1 := cell_of_heap h0 (j := 1) rfl
        try clear f0_1
        have f0_1 := frozen_of_heap h0 1
        try clear c0_2
        have c0_2 := cell_of_heap h0 (j := 2) rfl
        try clear f0_2
        have f0_2 := frozen_of_heap h0 2
        try clear c1_0
        have c1_0 := cell_of_heap h1 (j := 0) rfl
        try clear f1_0
        have f1_0 := frozen_of_heap h1 0
        try clear c1_1
        have c1_1 := cell_of_heap h1 (j := 1) rfl
        try clear f1_1
        have f1_1 := frozen_of_heap h1 1
        try clear c1_2
        have c1_2 := cell_of_heap h1 (j := 2) rfl
        try clear f1_2
        have f1_2 := frozen_of_heap h1 2
        try clear c1_3
        have c1_3 := cell_of_heap h1 (j := 3) rfl
        try clear f1_3
        have f1_3 := frozen_of_heap h1 3
        go_wp2_with fail
        refine (H2.out _).mono ?_
        rintro e w2 ⟨rfl, hb⟩
        replace h0 : w2.heap[w.heap.size]? = some (.cells #[.int .i64 l.a, .int .i64 l.b, .int .i64 l.c] 23 (0, 0)) := hb_below hb (by repeat (first | exact h0 | (refine hb_new ?_; (first | omega | (simp; omega) | (simp; done))) | (refine hb_old ?_ ?_; rotate_left; focus (first | omega | (simp; omega) | (simp; done))) | refine hb_drew ?_)) (by first | omega | (simp; omega) | (simp; done))
        replace h1 : w2.heap[w.heap.size + 1]? = some (.cells #[.int .i64 m.a, .int .i64 m.b, .int .i64 m.c, .int .i64 m.d] 40 (0, 0)) := hb_below hb (by repeat (first | exact h1 | (refine hb_new ?_; (first | omega | (simp; omega) | (simp; done))) | (refine hb_old ?_ ?_; rotate_left; focus (first | omega | (simp; omega) | (simp; done))) | refine hb_drew ?_)) (by first | omega | (simp; omega) | (simp; done))
        have y2 := Below.size hb
        try simp only [World.size_alloc, World.size_drew] at y2
        have D2 := Lib.hid (show Below w.heap.size w w2 from Below.trans (by repeat (first | exact D1.out | exact Below.refl _ _ | refine Below.alloc ?_ (by first | omega | (simp; omega) | (simp; done)) _)) (Below.mono hb (by first | omega | (simp; omega) | (simp; done))))
        have z2 := D2.out.size
        clear hb
        try clear c0_0
        have c0_0 := cell_of_heap h0 (j := 0) rfl
        try clear f0_0
        have f0_0 := frozen_of_heap h0 0
        try clear c0_1
        have c0_1 := cell_of_heap h0 (j := 1) rfl
        try clear f0_1
        have f0_1 := frozen_of_heap h0 1
        try clear c0_2
        have c0_2 := cell_of_heap h0 (j := 2) rfl
        try clear f0_2
        have f0_2 := frozen_of_heap h0 2
        try clear c1_0
        have c1_0 := cell_of_heap h1 (j := 0) rfl
        try clear f1_0
        have f1_0 := frozen_of_heap h1 0
        try clear c1_1
        have c1_1 := cell_of_heap h1 (j := 1) rfl
        try clear f1_1
        have f1_1 := frozen_of_heap h1 1
        try clear c1_2
        have c1_2 := cell_of_heap h1 (j := 2) rfl
        try clear f1_2
        have f1_2 := frozen_of_heap h1 2
        try clear c1_3
        have c1_3 := cell_of_heap h1 (j := 3) rfl
        try clear f1_3
        have f1_3 := frozen_of_heap h1 3
        go_wp2_with fail
        try clear c0_0
        try clear f0_0
        try clear c0_1
        try clear f0_1
        try clear c0_2
        try clear f0_2
        try clear c1_0
        try clear f1_0
        try clear c1_1
        try clear f1_1
        try clear c1_2
        try clear f1_2
        try clear c1_3
        try clear f1_3
        refine wp_region_class (fun w' => Below w2.heap.size w2 w') 4 (by kernel_rfl) (by kernel_rfl) (Below.refl _ w2).drew ?_
        simp only [List.take_succ_cons, List.take_zero, List.drop_succ_cons, List.drop_zero]
        refine quiet_load_mid rfl _ _ rfl _ _ rfl [.int .i64 l.a, .int .i64 l.b, .int .i64 l.c] _ (fun w' h => range_of_heap (hb_below h h0 (by first | omega | (simp; omega) | (simp; done)))) Tryd.underlying23 rfl (by kernel_rfl) ?_
        simp only [Act.put, List.setIfInBounds_toArray, List.set_cons_zero, List.set_cons_succ]
        refine quiet_load_mid rfl _ _ rfl _ _ rfl [.int .i64 m.a, .int .i64 m.b, .int .i64 m.c, .int .i64 m.d] _ (fun w' h => range_of_heap (hb_below h h1 (by first | omega | (simp; omega) | (simp; done)))) Tryd.underlying40 rfl (by kernel_rfl) ?_
        simp only [Act.put, List.setIfInBounds_toArray, List.set_cons_zero, List.set_cons_succ]
        refine quiet_call rfl 69 _ _ rfl (enter_of Tryd.func69 (by decide) (by intro h; cases h)) _ (in_class_b H3.out) ?_
        simp only [Act.put, List.setIfInBounds_toArray, List.set_cons_zero, List.set_cons_succ]
        refine quiet_load_mid rfl _ _ rfl _ _ rfl [.int .i64 l.a, .int .i64 l.b, .int .i64 l.c] _ (fun w' h => range_of_heap (hb_below h h0 (by first | omega | (simp; omega) | (simp; done)))) Tryd.underlying23 rfl (by kernel_rfl) ?_
        simp only [Act.put, List.setIfInBounds_toArray, List.set_cons_zero, List.set_cons_succ]
        intro w3 hb
        replace h0 : w3.heap[w.heap.size]? = some (.cells #[.int .i64 l.a, .int .i64 l.b, .int .i64 l.c] 23 (0, 0)) := hb_below hb (by repeat (first | exact h0 | (refine hb_new ?_; (first | omega | (simp; omega) | (simp; done))) | (refine hb_old ?_ ?_; rotate_left; focus (first | omega | (simp; omega) | (simp; done))) | refine hb_drew ?_)) (by first | omega | (simp; omega) | (simp; done))
        replace h1 : w3.heap[w.heap.size + 1]? = some (.cells #[.int .i64 m.a, .int .i64 m.b, .int .i64 m.c, .int .i64 m.d] 40 (0, 0)) := hb_below hb (by repeat (first | exact h1 | (refine hb_new ?_; (first | omega | (simp; omega) | (simp; done))) | (refine hb_old ?_ ?_; rotate_left; focus (first | omega | (simp; omega) | (simp; done))) | refine hb_drew ?_)) (by first | omega | (simp; omega) | (simp; done))
        have y3 := Below.size hb
        try simp only [World.size_alloc, World.size_drew] at y3
        have D3 := Lib.hid (show Below w.heap.size w w3 from Below.trans (by repeat (first | exact D2.out | exact Below.refl _ _ | refine Below.alloc ?_ (by first | omega | (simp; omega) | (simp; done)) _)) (Below.mono hb (by first | omega | (simp; omega) | (simp; done))))
        have z3 := D3.out.size
        clear hb
        try clear c0_0
        have c0_0 := cell_of_heap h0 (j := 0) rfl
        try clear f0_0
        have f0_0 := frozen_of_heap h0 0
        try clear c0_1
        have c0_1 := cell_of_heap h0 (j := 1) rfl
        try clear f0_1
        have f0_1 := frozen_of_heap h0 1
        try clear c0_2
        have c0_2 := cell_of_heap h0 (j := 2) rfl
        try clear f0_2
        have f0_2 := frozen_of_heap h0 2
        try clear c1_0
        have c1_0 := cell_of_heap h1 (j := 0) rfl
        try clear f1_0
        have f1_0 := frozen_of_heap h1 0
        try clear c1_1
        have c1_1 := cell_of_heap h1 (j := 1) rfl
        try clear f1_1
        have f1_1 := frozen_of_heap h1 1
        try clear c1_2
        have c1_2 := cell_of_heap h1 (j := 2) rfl
        try clear f1_2
        have f1_2 := frozen_of_heap h1 2
        try clear c1_3
        have c1_3 := cell_of_heap h1 (j := 3) rfl
        try clear f1_3
        have f1_3 := frozen_of_heap h1 3
        go_wp2_with fail
        all_goals (
          go_ret2
          exact ⟨rfl, (by repeat (first | exact D3.out | exact Below.refl _ _ | refine Below.alloc ?_ (by first | omega | (simp; omega) | (simp; done)) _))⟩)
theorem col_sm {m : Mat} (h : Mok m) : Sm ⟨m.a, m.c⟩ ∧ Sm ⟨m.b, m.d⟩ := by
  obtain ⟨⟨h1, h2⟩, ⟨h3, h4⟩, ⟨h5, h6⟩, h7, h8⟩ := h
  unfold Sm
  dsimp only
  omega
theorem imgs {m : Mat} (h : Mok m) : (image m ⟨1, 0⟩).w = ⟨m.a, m.c⟩ ∧ (image m ⟨0, 1⟩).w = ⟨m.b, m.d⟩ := by
  obtain ⟨⟨h1, h2⟩, ⟨h3, h4⟩, ⟨h5, h6⟩, h7, h8⟩ := h
  simp only [image, Pt.w, Pt.mk.injEq]
  exact ⟨⟨by rw [wrap64_id (by omega)]; omega, by rw [wrap64_id (by omega)]; omega⟩, by rw [wrap64_id (by omega)]; omega, by rw [wrap64_id (by omega)]; omega⟩
attribute [local irreducible] wpQuiet
set_option maxHeartbeats 4000000 in
set_option maxRecDepth 100000 in
theorem rkeeps_any (l : Lat) (m : Mat) (hl : Ok l) (hm : Mok m) (w : World) : Calls Tryd.prog 70 #[l.val, m.val] w fun e w' => e = .returned (.bool (decide (led l m = l))) ∧ Below w.heap.size w w' := by
  have C1 := fun W => rImage_any m ⟨1, 0⟩ W
  have C2 := fun W => rImage_any m ⟨0, 1⟩ W
  rw [(imgs hm).1] at C1
  rw [(imgs hm).2] at C2
  obtain ⟨s1, s2⟩ := col_sm hm
  have C3 := fun W => rProduct_any l ⟨m.a, m.c⟩ ⟨m.a, m.c⟩ W
  have C4 := fun W => rProduct_any l ⟨m.a, m.c⟩ ⟨m.b, m.d⟩ W
  have C5 := fun W => rProduct_any l ⟨m.b, m.d⟩ ⟨m.b, m.d⟩ W
  rw [prod_id hl s1 s1] at C3
  rw [prod_id hl s1 s2] at C4
  rw [prod_id hl s2 s2] at C5
  have e : led l m = ⟨prod l ⟨m.a, m.c⟩ ⟨m.a, m.c⟩, prod l ⟨m.a, m.c⟩ ⟨m.b, m.d⟩, prod l ⟨m.b, m.d⟩ ⟨m.b, m.d⟩⟩ := rfl
  rw [e]
  generalize prod l ⟨m.a, m.c⟩ ⟨m.a, m.c⟩ = x at *
  generalize prod l ⟨m.a, m.c⟩ ⟨m.b, m.d⟩ = y at *
  generalize prod l ⟨m.b, m.d⟩ ⟨m.b, m.d⟩ = z at *
  unfold Lat.val Mat.val Pt.val at *
  have H1 := Lib.hid C1
  have H2 := Lib.hid C2
  have H3 := Lib.hid C3
  have H4 := Lib.hid C4
  have H5 := Lib.hid C5
  clear C1 C2 C3 C4 C5 s1 s2 e hl hm
  obtain ⟨la, lb, lc⟩ := l
  simp only [Lat.mk.injEq] at *
  go_enter Tryd.func70, Tryd.ntmps70
  go_wp2_with fail
  obtain ⟨w1, hw1⟩ : ∃ W, W = ((w.alloc (.cells #[.int .i64 la, .int .i64 lb, .int .i64 lc] 23)).alloc (.cells #[.int .i64 m.a, .int .i64 m.b, .int .i64 m.c, .int .i64 m.d] 40)) := ⟨_, rfl⟩
  rw [← hw1]
  have h0 : w1.heap[w.heap.size]? = some (.cells #[.int .i64 la, .int .i64 lb, .int .i64 lc] 23 (0, 0)) := by rw [hw1]; exact (by repeat (first | (refine hb_new ?_; (first | omega | (simp; omega) | (simp; done))) | (refine hb_old ?_ ?_; rotate_left; focus (first | omega | (simp; omega) | (simp; done))) | refine hb_drew ?_))
  have h1 : w1.heap[w.heap.size + 1]? = some (.cells #[.int .i64 m.a, .int .i64 m.b, .int .i64 m.c, .int .i64 m.d] 40 (0, 0)) := by rw [hw1]; exact (by repeat (first | (refine hb_new ?_; (first | omega | (simp; omega) | (simp; done))) | (refine hb_old ?_ ?_; rotate_left; focus (first | omega | (simp; omega) | (simp; done))) | refine hb_drew ?_))
  have hb : Below w.heap.size w w1 := by rw [hw1]; exact (by repeat (first | exact Below.refl _ _ | refine Below.alloc ?_ (by first | omega | (simp; omega) | (simp; done)) _ | refine Below.drew ?_))
  have s1 : w.heap.size + 1 + 1 ≤ w1.heap.size := by rw [hw1]; simp
  have y1 := Below.size hb
  try simp only [World.size_alloc, World.size_drew] at y1
  have D1 := Lib.hid (show Below w.heap.size w w1 from Below.trans (by repeat (first | exact Below.refl _ _ | refine Below.alloc ?_ (by first | omega | (simp; omega) | (simp; done)) _)) (Below.mono hb (by first | omega | (simp; omega) | (simp; done))))
  have z1 := D1.out.size
  clear hb hw1
  try clear c0_0
  have c0_0 := cell_of_heap h0 (j := 0) rfl
  try clear f0_0
  have f0_0 := frozen_of_heap h0 0
  try clear c0_1
  have c0_1 := cell_of_heap h0 (j := 1) rfl
  try clear f0_1
  have f0_1 := frozen_of_heap h0 1
  try clear c0_2
  have c0_2 := cell_of_heap h0 (j := 2) rfl
  try clear f0_2
  have f0_2 := frozen_of_heap h0 2
  try clear c1_0
  have c1_0 := cell_of_heap h1 (j := 0) rfl
  try clear f1_0
  have f1_0 := frozen_of_heap h1 0
  try clear c1_1
  have c1_1 := cell_of_heap h1 (j := 1) rfl
  try clear f1_1
  have f1_1 := frozen_of_heap h1 1
  try clear c1_2
  have c1_2 := cell_of_heap h1 (j := 2) rfl
  try clear f1_2
  have f1_2 := frozen_of_heap h1 2
  try clear c1_3
  have c1_3 := cell_of_heap h1 (j := 3) rfl
  try clear f1_3
  have f1_3 := frozen_of_heap h1 3
  try clear c0_0
  try clear f0_0
  try clear c0_1
  try clear f0_1
  try clear c0_2
  try clear f0_2
  try clear c1_0
  try clear f1_0
  try clear c1_1
  try clear f1_1
  try clear c1_2
  try clear f1_2
  try clear c1_3
  try clear f1_3
  refine wp_region_alloc 6 8 [6, 7] (fun _ => .cells #[.int .i64 0, .int .i64 0] 25 (0, 0)) (by kernel_rfl) (by kernel_rfl) ?_ ?_
  · intro i o h1 h2 ho
    have hi : i = 6 ∨ i = 7 := by omega
    rcases hi with rfl | rfl <;> (simp only [List.getElem?_toArray, List.getElem?_cons_succ, List.getElem?_cons_zero, Option.some.injEq] at ho; subst ho; exact ⟨rfl, fun a w => by go_simp; try rfl⟩)
  simp only [List.take_succ_cons, List.take_zero, List.drop_succ_cons, List.drop_zero]
  refine lex_load rfl _ _ rfl _ _ rfl [.int .i64 m.a, .int .i64 m.b, .int .i64 m.c, .int .i64 m.d] _ (fun w' h => range_of_heap (hb_below h h1 (by first | omega | (simp; omega) | (simp; done)))) Tryd.underlying40 rfl (by kernel_rfl) ?_
  simp only [Act.put, List.setIfInBounds_toArray, List.set_cons_zero, List.set_cons_succ]
  refine lex_still rfl _ (fun w => by go_simp; rfl) ?_
  simp only [Act.put, List.setIfInBounds_toArray, List.set_cons_zero, List.set_cons_succ]
  refine lex_call rfl 77 _ _ rfl (enter_of Tryd.func77 (by decide) (by intro h; cases h)) _ (H1.out) ?_
  simp only [Act.put, List.setIfInBounds_toArray, List.set_cons_zero, List.set_cons_succ]
  refine lex_load rfl _ _ rfl _ _ rfl [.int .i64 m.a, .int .i64 m.b, .int .i64 m.c, .int .i64 m.d] _ (fun w' h => range_of_heap (hb_below h h1 (by first | omega | (simp; omega) | (simp; done)))) Tryd.underlying40 rfl (by kernel_rfl) ?_
  simp only [Act.put, List.setIfInBounds_toArray, List.set_cons_zero, List.set_cons_succ]
  refine lex_still rfl _ (fun w => by go_simp; rfl) ?_
  simp only [Act.put, List.setIfInBounds_toArray, List.set_cons_zero, List.set_cons_succ]
  refine lex_call rfl 77 _ _ rfl (enter_of Tryd.func77 (by decide) (by intro h; cases h)) _ (H2.out) ?_
  simp only [Act.put, List.setIfInBounds_toArray, List.set_cons_zero, List.set_cons_succ]
  refine aph2' 6 7 5 6 rfl rfl (by decide) (by decide) ?_
  intro b2 b3 w2 hb hF hD
  simp only [List.drop_succ_cons, List.drop_zero]
  simp only [Act.put, List.setIfInBounds_toArray, List.set_cons_zero, List.set_cons_succ]
  replace h0 : w2.heap[w.heap.size]? = some (.cells #[.int .i64 la, .int .i64 lb, .int .i64 lc] 23 (0, 0)) := hb_below hb (by repeat (first | exact h0 | (refine hb_new ?_; (first | omega | (simp; omega) | (simp; done))) | (refine hb_old ?_ ?_; rotate_left; focus (first | omega | (simp; omega) | (simp; done))) | refine hb_drew ?_)) (by first | omega | (simp; omega) | (simp; done))
  replace h1 : w2.heap[w.heap.size + 1]? = some (.cells #[.int .i64 m.a, .int .i64 m.b, .int .i64 m.c, .int .i64 m.d] 40 (0, 0)) := hb_below hb (by repeat (first | exact h1 | (refine hb_new ?_; (first | omega | (simp; omega) | (simp; done))) | (refine hb_old ?_ ?_; rotate_left; focus (first | omega | (simp; omega) | (simp; done))) | refine hb_drew ?_)) (by first | omega | (simp; omega) | (simp; done))
  have g2 : w1.heap.size ≤ b2 := (hF 6 (by decide) (by decide)).1
  have l2 : b2 < w2.heap.size := (hF 6 (by decide) (by decide)).2.1
  have h2 : w2.heap[b2]? = some (.cells #[.int .i64 0, .int .i64 0] 25 (0, 0)) := (hF 6 (by decide) (by decide)).2.2
  have g3 : w1.heap.size ≤ b3 := (hF 7 (by decide) (by decide)).1
  have l3 : b3 < w2.heap.size := (hF 7 (by decide) (by decide)).2.1
  have h3 : w2.heap[b3]? = some (.cells #[.int .i64 0, .int .i64 0] 25 (0, 0)) := (hF 7 (by decide) (by decide)).2.2
  have n2_3 : b2 ≠ b3 := hD 6 7 (by decide) (by decide) (by decide) (by decide) (by decide)
  clear hF hD
  have y2 := Below.size hb
  try simp only [World.size_alloc, World.size_drew] at y2
  have D2 := Lib.hid (show Below w.heap.size w w2 from Below.trans (by repeat (first | exact D1.out | exact Below.refl _ _ | refine Below.alloc ?_ (by first | omega | (simp; omega) | (simp; done)) _)) (Below.mono hb (by first | omega | (simp; omega) | (simp; done))))
  have z2 := D2.out.size
  clear hb
  refine store_row rfl _ _ _ rfl (b2) _ rfl rfl _ _ h2 (by kernel_rfl) rfl (by kernel_rfl) ?_
  intro w3 hn hk hz hB
  simp only [Act.put, List.setIfInBounds_toArray, List.set_cons_zero, List.set_cons_succ]
  replace h0 := hk _ _ h0 (by first | omega | assumption | (apply Ne.symm; assumption) | (simp; done) | (simp; omega))
  replace h1 := hk _ _ h1 (by first | omega | assumption | (apply Ne.symm; assumption) | (simp; done) | (simp; omega))
  replace h2 : w3.heap[b2]? = some (.cells #[.int .i64 m.a, .int .i64 m.c] 25 (0, 0)) := hn
  replace h3 := hk _ _ h3 (by first | omega | assumption | (apply Ne.symm; assumption) | (simp; done) | (simp; omega))
  have D3 := Lib.hid (hB _ _ D2.out (by first | omega | (simp; omega)))
  have z3 := D3.out.size
  have y3 : w3.heap.size = w2.heap.size := hz
  clear hn hk hz hB
  refine store_row rfl _ _ _ rfl (b3) _ rfl rfl _ _ h3 (by kernel_rfl) rfl (by kernel_rfl) ?_
  intro w4 hn hk hz hB
  simp only [Act.put, List.setIfInBounds_toArray, List.set_cons_zero, List.set_cons_succ]
  replace h0 := hk _ _ h0 (by first | omega | assumption | (apply Ne.symm; assumption) | (simp; done) | (simp; omega))
  replace h1 := hk _ _ h1 (by first | omega | assumption | (apply Ne.symm; assumption) | (simp; done) | (simp; omega))
  replace h2 := hk _ _ h2 (by first | omega | assumption | (apply Ne.symm; assumption) | (simp; done) | (simp; omega))
  replace h3 : w4.heap[b3]? = some (.cells #[.int .i64 m.b, .int .i64 m.d] 25 (0, 0)) := hn
  have D4 := Lib.hid (hB _ _ D3.out (by first | omega | (simp; omega)))
  have z4 := D4.out.size
  have y4 : w4.heap.size = w3.heap.size := hz
  clear hn hk hz hB
  try clear c0_0
  have c0_0 := cell_of_heap h0 (j := 0) rfl
  try clear f0_0
  have f0_0 := frozen_of_heap h0 0
  try clear c0_1
  have c0_1 := cell_of_heap h0 (j := 1) rfl
  try clear f0_1
  have f0_1 := frozen_of_heap h0 1
  try clear c0_2
  have c0_2 := cell_of_heap h0 (j := 2) rfl
  try clear f0_2
  have f0_2 := frozen_of_heap h0 2
  try clear c1_0
  have c1_0 := cell_of_heap h1 (j := 0) rfl
  try clear f1_0
  have f1_0 := frozen_of_heap h1 0
  try clear c1_1
  have c1_1 := cell_of_heap h1 (j := 1) rfl
  try clear f1_1
  have f1_1 := frozen_of_heap h1 1
  try clear c1_2
  have c1_2 := cell_of_heap h1 (j := 2) rfl
  try clear f1_2
  have f1_2 := frozen_of_heap h1 2
  try clear c1_3
  have c1_3 := cell_of_heap h1 (j := 3) rfl
  try clear f1_3
  have f1_3 := frozen_of_heap h1 3
  try clear c2_0
  have c2_0 := cell_of_heap h2 (j := 0) rfl
  try clear f2_0
  have f2_0 := frozen_of_heap h2 0
  try clear c2_1
  have c2_1 := cell_of_heap h2 (j := 1) rfl
  try clear f2_1
  have f2_1 := frozen_of_heap h2 1
  try clear c3_0
  have c3_0 := cell_of_heap h3 (j := 0) rfl
  try clear f3_0
  have f3_0 := frozen_of_heap h3 0
  try clear c3_1
  have c3_1 := cell_of_heap h3 (j := 1) rfl
  try clear f3_1
  have f3_1 := frozen_of_heap h3 1
  go_wp2_with fail
  by_cases hx : x = la
  · subst hx
    by_cases hy : y = lb
    · subst hy
      by_cases hz : z = lc
      · subst hz
        try clear c0_0
        try clear f0_0
        try clear c0_1
        try clear f0_1
        try clear c0_2
        try clear f0_2
        try clear c1_0
        try clear f1_0
        try clear c1_1
        try clear f1_1
        try clear c1_2
        try clear f1_2
        try clear c1_3
        try clear f1_3
        try clear c2_0
        try clear f2_0
        try clear c2_1
        try clear f2_1
        try clear c3_0
        try clear f3_0
        try clear c3_1
        try clear f3_1
        refine wp_region_class (fun w' => Below w4.heap.size w4 w') 25 (by kernel_rfl) (by kernel_rfl) (Below.refl _ w4).drew ?_
        simp only [List.take_succ_cons, List.take_zero, List.drop_succ_cons, List.drop_zero]
        refine quiet_load_mid rfl _ _ rfl _ _ rfl [.int .i64 x, .int .i64 y, .int .i64 z] _ (fun w' h => range_of_heap (hb_below h h0 (by first | omega | (simp; omega) | (simp; done)))) Tryd.underlying23 rfl (by kernel_rfl) ?_
        simp only [Act.put, List.setIfInBounds_toArray, List.set_cons_zero, List.set_cons_succ]
        refine quiet_load_mid rfl _ _ rfl _ _ rfl [.int .i64 m.a, .int .i64 m.c] _ (fun w' h => range_of_heap (hb_below h h2 (by first | omega | (simp; omega) | (simp; done)))) Tryd.underlying25 rfl (by kernel_rfl) ?_
        simp only [Act.put, List.setIfInBounds_toArray, List.set_cons_zero, List.set_cons_succ]
        refine quiet_load_mid rfl _ _ rfl _ _ rfl [.int .i64 m.a, .int .i64 m.c] _ (fun w' h => range_of_heap (hb_below h h2 (by first | omega | (simp; omega) | (simp; done)))) Tryd.underlying25 rfl (by kernel_rfl) ?_
        simp only [Act.put, List.setIfInBounds_toArray, List.set_cons_zero, List.set_cons_succ]
        refine quiet_call rfl 47 _ _ rfl (enter_of Tryd.func47 (by decide) (by intro h; cases h)) _ (in_class_b H3.out) ?_
        simp only [Act.put, List.setIfInBounds_toArray, List.set_cons_zero, List.set_cons_succ]
        refine quiet_still rfl _ (fun w _ => by go_simp; rfl) ?_
        simp only [Act.put, List.setIfInBounds_toArray, List.set_cons_zero, List.set_cons_succ]
        refine quiet_load1 rfl _ _ rfl _ (by first | rfl | (go_simp; rfl)) _ (load_i64 _ _) (fun w' h => cell_of_heap (hb_below h h0 (by first | omega | (simp; omega) | (simp; done))) (j := 0) rfl) ?_
        simp only [Act.put, List.setIfInBounds_toArray, List.set_cons_zero, List.set_cons_succ]
        refine quiet_still rfl (.bool true) (fun w _ => by go_simp) ?_
        simp only [Act.put, List.setIfInBounds_toArray, List.set_cons_zero, List.set_cons_succ]
        refine quiet_moveV rfl _ rfl _ rfl ?_
        simp only [Act.put, List.setIfInBounds_toArray, List.set_cons_zero, List.set_cons_succ]
        refine quietW_load_mid (by kernel_rfl) _ _ rfl _ _ rfl [.int .i64 x, .int .i64 y, .int .i64 z] _ (fun w' h => range_of_heap (hb_below h h0 (by first | omega | (simp; omega) | (simp; done)))) Tryd.underlying23 rfl (by kernel_rfl) ?_
        simp only [Act.put, List.setIfInBounds_toArray, List.set_cons_zero, List.set_cons_succ]
        refine quietW_load_mid (by kernel_rfl) _ _ rfl _ _ rfl [.int .i64 m.a, .int .i64 m.c] _ (fun w' h => range_of_heap (hb_below h h2 (by first | omega | (simp; omega) | (simp; done)))) Tryd.underlying25 rfl (by kernel_rfl) ?_
        simp only [Act.put, List.setIfInBounds_toArray, List.set_cons_zero, List.set_cons_succ]
        refine quietW_load_mid (by kernel_rfl) _ _ rfl _ _ rfl [.int .i64 m.b, .int .i64 m.d] _ (fun w' h => range_of_heap (hb_below h h3 (by first | omega | (simp; omega) | (simp; done)))) Tryd.underlying25 rfl (by kernel_rfl) ?_
        simp only [Act.put, List.setIfInBounds_toArray, List.set_cons_zero, List.set_cons_succ]
        refine quietW_call (by kernel_rfl) 47 _ _ rfl (enter_of Tryd.func47 (by decide) (by intro h; cases h)) _ (in_class_b H4.out) ?_
        simp only [Act.put, List.setIfInBounds_toArray, List.set_cons_zero, List.set_cons_succ]
        refine quietW_still (by kernel_rfl) _ (fun w _ => by go_simp; rfl) ?_
        simp only [Act.put, List.setIfInBounds_toArray, List.set_cons_zero, List.set_cons_succ]
        refine quietW_load1 (by kernel_rfl) _ _ rfl _ (by first | rfl | (go_simp; rfl)) _ (load_i64 _ _) (fun w' h => cell_of_heap (hb_below h h0 (by first | omega | (simp; omega) | (simp; done))) (j := 1) rfl) ?_
        simp only [Act.put, List.setIfInBounds_toArray, List.set_cons_zero, List.set_cons_succ]
        refine quietW_still (by kernel_rfl) (.bool true) (fun w _ => by go_simp) ?_
        simp only [Act.put, List.setIfInBounds_toArray, List.set_cons_zero, List.set_cons_succ]
        refine quiet_still rfl (.bool true) (fun w _ => by go_simp) ?_
        simp only [Act.put, List.setIfInBounds_toArray, List.set_cons_zero, List.set_cons_succ]
        refine quiet_moveV rfl _ rfl _ rfl ?_
        simp only [Act.put, List.setIfInBounds_toArray, List.set_cons_zero, List.set_cons_succ]
        refine quietW_load_mid (by kernel_rfl) _ _ rfl _ _ rfl [.int .i64 x, .int .i64 y, .int .i64 z] _ (fun w' h => range_of_heap (hb_below h h0 (by first | omega | (simp; omega) | (simp; done)))) Tryd.underlying23 rfl (by kernel_rfl) ?_
        simp only [Act.put, List.setIfInBounds_toArray, List.set_cons_zero, List.set_cons_succ]
        refine quietW_load_mid (by kernel_rfl) _ _ rfl _ _ rfl [.int .i64 m.b, .int .i64 m.d] _ (fun w' h => range_of_heap (hb_below h h3 (by first | omega | (simp; omega) | (simp; done)))) Tryd.underlying25 rfl (by kernel_rfl) ?_
        simp only [Act.put, List.setIfInBounds_toArray, List.set_cons_zero, List.set_cons_succ]
        refine quietW_load_mid (by kernel_rfl) _ _ rfl _ _ rfl [.int .i64 m.b, .int .i64 m.d] _ (fun w' h => range_of_heap (hb_below h h3 (by first | omega | (simp; omega) | (simp; done)))) Tryd.underlying25 rfl (by kernel_rfl) ?_
        simp only [Act.put, List.setIfInBounds_toArray, List.set_cons_zero, List.set_cons_succ]
        refine quietW_call (by kernel_rfl) 47 _ _ rfl (enter_of Tryd.func47 (by decide) (by intro h; cases h)) _ (in_class_b H5.out) ?_
        simp only [Act.put, List.setIfInBounds_toArray, List.set_cons_zero, List.set_cons_succ]
        refine quietW_still (by kernel_rfl) _ (fun w _ => by go_simp; rfl) ?_
        simp only [Act.put, List.setIfInBounds_toArray, List.set_cons_zero, List.set_cons_succ]
        refine quietW_load1 (by kernel_rfl) _ _ rfl _ (by first | rfl | (go_simp; rfl)) _ (load_i64 _ _) (fun w' h => cell_of_heap (hb_below h h0 (by first | omega | (simp; omega) | (simp; done))) (j := 2) rfl) ?_
        simp only [Act.put, List.setIfInBounds_toArray, List.set_cons_zero, List.set_cons_succ]
        refine quietW_still (by kernel_rfl) (.bool true) (fun w _ => by go_simp) ?_
        simp only [Act.put, List.setIfInBounds_toArray, List.set_cons_zero, List.set_cons_succ]
        refine quiet_still rfl (.bool true) (fun w _ => by go_simp) ?_
        simp only [Act.put, List.setIfInBounds_toArray, List.set_cons_zero, List.set_cons_succ]
        unfold wpQuiet
        intro w5 hb
        replace h0 : w5.heap[w.heap.size]? = some (.cells #[.int .i64 x, .int .i64 y, .int .i64 z] 23 (0, 0)) := hb_below hb (by repeat (first | exact h0 | (refine hb_new ?_; (first | omega | (simp; omega) | (simp; done))) | (refine hb_old ?_ ?_; rotate_left; focus (first | omega | (simp; omega) | (simp; done))) | refine hb_drew ?_)) (by first | omega | (simp; omega) | (simp; done))
        replace h1 : w5.heap[w.heap.size + 1]? = some (.cells #[.int .i64 m.a, .int .i64 m.b, .int .i64 m.c, .int .i64 m.d] 40 (0, 0)) := hb_below hb (by repeat (first | exact h1 | (refine hb_new ?_; (first | omega | (simp; omega) | (simp; done))) | (refine hb_old ?_ ?_; rotate_left; focus (first | omega | (simp; omega) | (simp; done))) | refine hb_drew ?_)) (by first | omega | (simp; omega) | (simp; done))
        replace h2 : w5.heap[b2]? = some (.cells #[.int .i64 m.a, .int .i64 m.c] 25 (0, 0)) := hb_below hb (by repeat (first | exact h2 | (refine hb_new ?_; (first | omega | (simp; omega) | (simp; done))) | (refine hb_old ?_ ?_; rotate_left; focus (first | omega | (simp; omega) | (simp; done))) | refine hb_drew ?_)) (by first | omega | (simp; omega) | (simp; done))
        replace h3 : w5.heap[b3]? = some (.cells #[.int .i64 m.b, .int .i64 m.d] 25 (0, 0)) := hb_below hb (by repeat (first | exact h3 | (refine hb_new ?_; (first | omega | (simp; omega) | (simp; done))) | (refine hb_old ?_ ?_; rotate_left; focus (first | omega | (simp; omega) | (simp; done))) | refine hb_drew ?_)) (by first | omega | (simp; omega) | (simp; done))
        have y5 := Below.size hb
        try simp only [World.size_alloc, World.size_drew] at y5
        have D5 := Lib.hid (show Below w.heap.size w w5 from Below.trans (by repeat (first | exact D4.out | exact Below.refl _ _ | refine Below.alloc ?_ (by first | omega | (simp; omega) | (simp; done)) _)) (Below.mono hb (by first | omega | (simp; omega) | (simp; done))))
        have z5 := D5.out.size
        clear hb
        try clear c0_0
        have c0_0 := cell_of_heap h0 (j := 0) rfl
        try clear f0_0
        have f0_0 := frozen_of_heap h0 0
        try clear c0_1
        have c0_1 := cell_of_heap h0 (j := 1) rfl
        try clear f0_1
        have f0_1 := frozen_of_heap h0 1
        try clear c0_2
        have c0_2 := cell_of_heap h0 (j := 2) rfl
        try clear f0_2
        have f0_2 := frozen_of_heap h0 2
        try clear c1_0
        have c1_0 := cell_of_heap h1 (j := 0) rfl
        try clear f1_0
        have f1_0 := frozen_of_heap h1 0
        try clear c1_1
        have c1_1 := cell_of_heap h1 (j := 1) rfl
        try clear f1_1
        have f1_1 := frozen_of_heap h1 1
        try clear c1_2
        have c1_2 := cell_of_heap h1 (j := 2) rfl
        try clear f1_2
        have f1_2 := frozen_of_heap h1 2
        try clear c1_3
        have c1_3 := cell_of_heap h1 (j := 3) rfl
        try clear f1_3
        have f1_3 := frozen_of_heap h1 3
        try clear c2_0
        have c2_0 := cell_of_heap h2 (j := 0) rfl
        try clear f2_0
        have f2_0 := frozen_of_heap h2 0
        try clear c2_1
        have c2_1 := cell_of_heap h2 (j := 1) rfl
        try clear f2_1
        have f2_1 := frozen_of_heap h2 1
        try clear c3_0
        have c3_0 := cell_of_heap h3 (j := 0) rfl
        try clear f3_0
        have f3_0 := frozen_of_heap h3 0
        try clear c3_1
        have c3_1 := cell_of_heap h3 (j := 1) rfl
        try clear f3_1
        have f3_1 := frozen_of_heap h3 1
        go_wp2_with fail
        go_ret
        exact ⟨by simp, D5.out⟩
      · skip
        try clear c0_0
        try clear f0_0
        try clear c0_1
        try clear f0_1
        try clear c0_2
        try clear f0_2
        try clear c1_0
        try clear f1_0
        try clear c1_1
        try clear f1_1
        try clear c1_2
        try clear f1_2
        try clear c1_3
        try clear f1_3
        try clear c2_0
        try clear f2_0
        try clear c2_1
        try clear f2_1
        try clear c3_0
        try clear f3_0
        try clear c3_1
        try clear f3_1
        refine wp_region_class (fun w' => Below w4.heap.size w4 w') 25 (by kernel_rfl) (by kernel_rfl) (Below.refl _ w4).drew ?_
        simp only [List.take_succ_cons, List.take_zero, List.drop_succ_cons, List.drop_zero]
        refine quiet_load_mid rfl _ _ rfl _ _ rfl [.int .i64 x, .int .i64 y, .int .i64 lc] _ (fun w' h => range_of_heap (hb_below h h0 (by first | omega | (simp; omega) | (simp; done)))) Tryd.underlying23 rfl (by kernel_rfl) ?_
        simp only [Act.put, List.setIfInBounds_toArray, List.set_cons_zero, List.set_cons_succ]
        refine quiet_load_mid rfl _ _ rfl _ _ rfl [.int .i64 m.a, .int .i64 m.c] _ (fun w' h => range_of_heap (hb_below h h2 (by first | omega | (simp; omega) | (simp; done)))) Tryd.underlying25 rfl (by kernel_rfl) ?_
        simp only [Act.put, List.setIfInBounds_toArray, List.set_cons_zero, List.set_cons_succ]
        refine quiet_load_mid rfl _ _ rfl _ _ rfl [.int .i64 m.a, .int .i64 m.c] _ (fun w' h => range_of_heap (hb_below h h2 (by first | omega | (simp; omega) | (simp; done)))) Tryd.underlying25 rfl (by kernel_rfl) ?_
        simp only [Act.put, List.setIfInBounds_toArray, List.set_cons_zero, List.set_cons_succ]
        refine quiet_call rfl 47 _ _ rfl (enter_of Tryd.func47 (by decide) (by intro h; cases h)) _ (in_class_b H3.out) ?_
        simp only [Act.put, List.setIfInBounds_toArray, List.set_cons_zero, List.set_cons_succ]
        refine quiet_still rfl _ (fun w _ => by go_simp; rfl) ?_
        simp only [Act.put, List.setIfInBounds_toArray, List.set_cons_zero, List.set_cons_succ]
        refine quiet_load1 rfl _ _ rfl _ (by first | rfl | (go_simp; rfl)) _ (load_i64 _ _) (fun w' h => cell_of_heap (hb_below h h0 (by first | omega | (simp; omega) | (simp; done))) (j := 0) rfl) ?_
        simp only [Act.put, List.setIfInBounds_toArray, List.set_cons_zero, List.set_cons_succ]
        refine quiet_still rfl (.bool true) (fun w _ => by go_simp) ?_
        simp only [Act.put, List.setIfInBounds_toArray, List.set_cons_zero, List.set_cons_succ]
        refine quiet_moveV rfl _ rfl _ rfl ?_
        simp only [Act.put, List.setIfInBounds_toArray, List.set_cons_zero, List.set_cons_succ]
        refine quietW_load_mid (by kernel_rfl) _ _ rfl _ _ rfl [.int .i64 x, .int .i64 y, .int .i64 lc] _ (fun w' h => range_of_heap (hb_below h h0 (by first | omega | (simp; omega) | (simp; done)))) Tryd.underlying23 rfl (by kernel_rfl) ?_
        simp only [Act.put, List.setIfInBounds_toArray, List.set_cons_zero, List.set_cons_succ]
        refine quietW_load_mid (by kernel_rfl) _ _ rfl _ _ rfl [.int .i64 m.a, .int .i64 m.c] _ (fun w' h => range_of_heap (hb_below h h2 (by first | omega | (simp; omega) | (simp; done)))) Tryd.underlying25 rfl (by kernel_rfl) ?_
        simp only [Act.put, List.setIfInBounds_toArray, List.set_cons_zero, List.set_cons_succ]
        refine quietW_load_mid (by kernel_rfl) _ _ rfl _ _ rfl [.int .i64 m.b, .int .i64 m.d] _ (fun w' h => range_of_heap (hb_below h h3 (by first | omega | (simp; omega) | (simp; done)))) Tryd.underlying25 rfl (by kernel_rfl) ?_
        simp only [Act.put, List.setIfInBounds_toArray, List.set_cons_zero, List.set_cons_succ]
        refine quietW_call (by kernel_rfl) 47 _ _ rfl (enter_of Tryd.func47 (by decide) (by intro h; cases h)) _ (in_class_b H4.out) ?_
        simp only [Act.put, List.setIfInBounds_toArray, List.set_cons_zero, List.set_cons_succ]
        refine quietW_still (by kernel_rfl) _ (fun w _ => by go_simp; rfl) ?_
        simp only [Act.put, List.setIfInBounds_toArray, List.set_cons_zero, List.set_cons_succ]
        refine quietW_load1 (by kernel_rfl) _ _ rfl _ (by first | rfl | (go_simp; rfl)) _ (load_i64 _ _) (fun w' h => cell_of_heap (hb_below h h0 (by first | omega | (simp; omega) | (simp; done))) (j := 1) rfl) ?_
        simp only [Act.put, List.setIfInBounds_toArray, List.set_cons_zero, List.set_cons_succ]
        refine quietW_still (by kernel_rfl) (.bool true) (fun w _ => by go_simp) ?_
        simp only [Act.put, List.setIfInBounds_toArray, List.set_cons_zero, List.set_cons_succ]
        refine quiet_still rfl (.bool true) (fun w _ => by go_simp) ?_
        simp only [Act.put, List.setIfInBounds_toArray, List.set_cons_zero, List.set_cons_succ]
        refine quiet_moveV rfl _ rfl _ rfl ?_
        simp only [Act.put, List.setIfInBounds_toArray, List.set_cons_zero, List.set_cons_succ]
        refine quietW_load_mid (by kernel_rfl) _ _ rfl _ _ rfl [.int .i64 x, .int .i64 y, .int .i64 lc] _ (fun w' h => range_of_heap (hb_below h h0 (by first | omega | (simp; omega) | (simp; done)))) Tryd.underlying23 rfl (by kernel_rfl) ?_
        simp only [Act.put, List.setIfInBounds_toArray, List.set_cons_zero, List.set_cons_succ]
        refine quietW_load_mid (by kernel_rfl) _ _ rfl _ _ rfl [.int .i64 m.b, .int .i64 m.d] _ (fun w' h => range_of_heap (hb_below h h3 (by first | omega | (simp; omega) | (simp; done)))) Tryd.underlying25 rfl (by kernel_rfl) ?_
        simp only [Act.put, List.setIfInBounds_toArray, List.set_cons_zero, List.set_cons_succ]
        refine quietW_load_mid (by kernel_rfl) _ _ rfl _ _ rfl [.int .i64 m.b, .int .i64 m.d] _ (fun w' h => range_of_heap (hb_below h h3 (by first | omega | (simp; omega) | (simp; done)))) Tryd.underlying25 rfl (by kernel_rfl) ?_
        simp only [Act.put, List.setIfInBounds_toArray, List.set_cons_zero, List.set_cons_succ]
        refine quietW_call (by kernel_rfl) 47 _ _ rfl (enter_of Tryd.func47 (by decide) (by intro h; cases h)) _ (in_class_b H5.out) ?_
        simp only [Act.put, List.setIfInBounds_toArray, List.set_cons_zero, List.set_cons_succ]
        refine quietW_still (by kernel_rfl) _ (fun w _ => by go_simp; rfl) ?_
        simp only [Act.put, List.setIfInBounds_toArray, List.set_cons_zero, List.set_cons_succ]
        refine quietW_load1 (by kernel_rfl) _ _ rfl _ (by first | rfl | (go_simp; rfl)) _ (load_i64 _ _) (fun w' h => cell_of_heap (hb_below h h0 (by first | omega | (simp; omega) | (simp; done))) (j := 2) rfl) ?_
        simp only [Act.put, List.setIfInBounds_toArray, List.set_cons_zero, List.set_cons_succ]
        refine quietW_still (by kernel_rfl) (.bool false) (fun w _ => by first | (go_simp; simp [hz]; done) | (go_simp; done)) ?_
        simp only [Act.put, List.setIfInBounds_toArray, List.set_cons_zero, List.set_cons_succ]
        refine quiet_still rfl (.bool false) (fun w _ => by go_simp) ?_
        simp only [Act.put, List.setIfInBounds_toArray, List.set_cons_zero, List.set_cons_succ]
        unfold wpQuiet
        intro w5 hb
        replace h0 : w5.heap[w.heap.size]? = some (.cells #[.int .i64 x, .int .i64 y, .int .i64 lc] 23 (0, 0)) := hb_below hb (by repeat (first | exact h0 | (refine hb_new ?_; (first | omega | (simp; omega) | (simp; done))) | (refine hb_old ?_ ?_; rotate_left; focus (first | omega | (simp; omega) | (simp; done))) | refine hb_drew ?_)) (by first | omega | (simp; omega) | (simp; done))
        replace h1 : w5.heap[w.heap.size + 1]? = some (.cells #[.int .i64 m.a, .int .i64 m.b, .int .i64 m.c, .int .i64 m.d] 40 (0, 0)) := hb_below hb (by repeat (first | exact h1 | (refine hb_new ?_; (first | omega | (simp; omega) | (simp; done))) | (refine hb_old ?_ ?_; rotate_left; focus (first | omega | (simp; omega) | (simp; done))) | refine hb_drew ?_)) (by first | omega | (simp; omega) | (simp; done))
        replace h2 : w5.heap[b2]? = some (.cells #[.int .i64 m.a, .int .i64 m.c] 25 (0, 0)) := hb_below hb (by repeat (first | exact h2 | (refine hb_new ?_; (first | omega | (simp; omega) | (simp; done))) | (refine hb_old ?_ ?_; rotate_left; focus (first | omega | (simp; omega) | (simp; done))) | refine hb_drew ?_)) (by first | omega | (simp; omega) | (simp; done))
        replace h3 : w5.heap[b3]? = some (.cells #[.int .i64 m.b, .int .i64 m.d] 25 (0, 0)) := hb_below hb (by repeat (first | exact h3 | (refine hb_new ?_; (first | omega | (simp; omega) | (simp; done))) | (refine hb_old ?_ ?_; rotate_left; focus (first | omega | (simp; omega) | (simp; done))) | refine hb_drew ?_)) (by first | omega | (simp; omega) | (simp; done))
        have y5 := Below.size hb
        try simp only [World.size_alloc, World.size_drew] at y5
        have D5 := Lib.hid (show Below w.heap.size w w5 from Below.trans (by repeat (first | exact D4.out | exact Below.refl _ _ | refine Below.alloc ?_ (by first | omega | (simp; omega) | (simp; done)) _)) (Below.mono hb (by first | omega | (simp; omega) | (simp; done))))
        have z5 := D5.out.size
        clear hb
        try clear c0_0
        have c0_0 := cell_of_heap h0 (j := 0) rfl
        try clear f0_0
        have f0_0 := frozen_of_heap h0 0
        try clear c0_1
        have c0_1 := cell_of_heap h0 (j := 1) rfl
        try clear f0_1
        have f0_1 := frozen_of_heap h0 1
        try clear c0_2
        have c0_2 := cell_of_heap h0 (j := 2) rfl
        try clear f0_2
        have f0_2 := frozen_of_heap h0 2
        try clear c1_0
        have c1_0 := cell_of_heap h1 (j := 0) rfl
        try clear f1_0
        have f1_0 := frozen_of_heap h1 0
        try clear c1_1
        have c1_1 := cell_of_heap h1 (j := 1) rfl
        try clear f1_1
        have f1_1 := frozen_of_heap h1 1
        try clear c1_2
        have c1_2 := cell_of_heap h1 (j := 2) rfl
        try clear f1_2
        have f1_2 := frozen_of_heap h1 2
        try clear c1_3
        have c1_3 := cell_of_heap h1 (j := 3) rfl
        try clear f1_3
        have f1_3 := frozen_of_heap h1 3
        try clear c2_0
        have c2_0 := cell_of_heap h2 (j := 0) rfl
        try clear f2_0
        have f2_0 := frozen_of_heap h2 0
        try clear c2_1
        have c2_1 := cell_of_heap h2 (j := 1) rfl
        try clear f2_1
        have f2_1 := frozen_of_heap h2 1
        try clear c3_0
        have c3_0 := cell_of_heap h3 (j := 0) rfl
        try clear f3_0
        have f3_0 := frozen_of_heap h3 0
        try clear c3_1
        have c3_1 := cell_of_heap h3 (j := 1) rfl
        try clear f3_1
        have f3_1 := frozen_of_heap h3 1
        go_wp2_with fail
        go_ret
        exact ⟨by simp [hz], D5.out⟩
    · skip
      try clear c0_0
      try clear f0_0
      try clear c0_1
      try clear f0_1
      try clear c0_2
      try clear f0_2
      try clear c1_0
      try clear f1_0
      try clear c1_1
      try clear f1_1
      try clear c1_2
      try clear f1_2
      try clear c1_3
      try clear f1_3
      try clear c2_0
      try clear f2_0
      try clear c2_1
      try clear f2_1
      try clear c3_0
      try clear f3_0
      try clear c3_1
      try clear f3_1
      refine wp_region_class (fun w' => Below w4.heap.size w4 w') 25 (by kernel_rfl) (by kernel_rfl) (Below.refl _ w4).drew ?_
      simp only [List.take_succ_cons, List.take_zero, List.drop_succ_cons, List.drop_zero]
      refine quiet_load_mid rfl _ _ rfl _ _ rfl [.int .i64 x, .int .i64 lb, .int .i64 lc] _ (fun w' h => range_of_heap (hb_below h h0 (by first | omega | (simp; omega) | (simp; done)))) Tryd.underlying23 rfl (by kernel_rfl) ?_
      simp only [Act.put, List.setIfInBounds_toArray, List.set_cons_zero, List.set_cons_succ]
      refine quiet_load_mid rfl _ _ rfl _ _ rfl [.int .i64 m.a, .int .i64 m.c] _ (fun w' h => range_of_heap (hb_below h h2 (by first | omega | (simp; omega) | (simp; done)))) Tryd.underlying25 rfl (by kernel_rfl) ?_
      simp only [Act.put, List.setIfInBounds_toArray, List.set_cons_zero, List.set_cons_succ]
      refine quiet_load_mid rfl _ _ rfl _ _ rfl [.int .i64 m.a, .int .i64 m.c] _ (fun w' h => range_of_heap (hb_below h h2 (by first | omega | (simp; omega) | (simp; done)))) Tryd.underlying25 rfl (by kernel_rfl) ?_
      simp only [Act.put, List.setIfInBounds_toArray, List.set_cons_zero, List.set_cons_succ]
      refine quiet_call rfl 47 _ _ rfl (enter_of Tryd.func47 (by decide) (by intro h; cases h)) _ (in_class_b H3.out) ?_
      simp only [Act.put, List.setIfInBounds_toArray, List.set_cons_zero, List.set_cons_succ]
      refine quiet_still rfl _ (fun w _ => by go_simp; rfl) ?_
      simp only [Act.put, List.setIfInBounds_toArray, List.set_cons_zero, List.set_cons_succ]
      refine quiet_load1 rfl _ _ rfl _ (by first | rfl | (go_simp; rfl)) _ (load_i64 _ _) (fun w' h => cell_of_heap (hb_below h h0 (by first | omega | (simp; omega) | (simp; done))) (j := 0) rfl) ?_
      simp only [Act.put, List.setIfInBounds_toArray, List.set_cons_zero, List.set_cons_succ]
      refine quiet_still rfl (.bool true) (fun w _ => by go_simp) ?_
      simp only [Act.put, List.setIfInBounds_toArray, List.set_cons_zero, List.set_cons_succ]
      refine quiet_moveV rfl _ rfl _ rfl ?_
      simp only [Act.put, List.setIfInBounds_toArray, List.set_cons_zero, List.set_cons_succ]
      refine quietW_load_mid (by kernel_rfl) _ _ rfl _ _ rfl [.int .i64 x, .int .i64 lb, .int .i64 lc] _ (fun w' h => range_of_heap (hb_below h h0 (by first | omega | (simp; omega) | (simp; done)))) Tryd.underlying23 rfl (by kernel_rfl) ?_
      simp only [Act.put, List.setIfInBounds_toArray, List.set_cons_zero, List.set_cons_succ]
      refine quietW_load_mid (by kernel_rfl) _ _ rfl _ _ rfl [.int .i64 m.a, .int .i64 m.c] _ (fun w' h => range_of_heap (hb_below h h2 (by first | omega | (simp; omega) | (simp; done)))) Tryd.underlying25 rfl (by kernel_rfl) ?_
      simp only [Act.put, List.setIfInBounds_toArray, List.set_cons_zero, List.set_cons_succ]
      refine quietW_load_mid (by kernel_rfl) _ _ rfl _ _ rfl [.int .i64 m.b, .int .i64 m.d] _ (fun w' h => range_of_heap (hb_below h h3 (by first | omega | (simp; omega) | (simp; done)))) Tryd.underlying25 rfl (by kernel_rfl) ?_
      simp only [Act.put, List.setIfInBounds_toArray, List.set_cons_zero, List.set_cons_succ]
      refine quietW_call (by kernel_rfl) 47 _ _ rfl (enter_of Tryd.func47 (by decide) (by intro h; cases h)) _ (in_class_b H4.out) ?_
      simp only [Act.put, List.setIfInBounds_toArray, List.set_cons_zero, List.set_cons_succ]
      refine quietW_still (by kernel_rfl) _ (fun w _ => by go_simp; rfl) ?_
      simp only [Act.put, List.setIfInBounds_toArray, List.set_cons_zero, List.set_cons_succ]
      refine quietW_load1 (by kernel_rfl) _ _ rfl _ (by first | rfl | (go_simp; rfl)) _ (load_i64 _ _) (fun w' h => cell_of_heap (hb_below h h0 (by first | omega | (simp; omega) | (simp; done))) (j := 1) rfl) ?_
      simp only [Act.put, List.setIfInBounds_toArray, List.set_cons_zero, List.set_cons_succ]
      refine quietW_still (by kernel_rfl) (.bool false) (fun w _ => by first | (go_simp; simp [hy]; done) | (go_simp; done)) ?_
      simp only [Act.put, List.setIfInBounds_toArray, List.set_cons_zero, List.set_cons_succ]
      refine quiet_still rfl (.bool false) (fun w _ => by go_simp) ?_
      simp only [Act.put, List.setIfInBounds_toArray, List.set_cons_zero, List.set_cons_succ]
      refine quiet_moveV rfl _ rfl _ rfl ?_
      simp only [Act.put, List.setIfInBounds_toArray, List.set_cons_zero, List.set_cons_succ]
      refine quiet_skip (by kernel_rfl) ?_
      simp only [Act.put, List.setIfInBounds_toArray, List.set_cons_zero, List.set_cons_succ]
      refine quiet_skip (by kernel_rfl) ?_
      simp only [Act.put, List.setIfInBounds_toArray, List.set_cons_zero, List.set_cons_succ]
      refine quiet_skip (by kernel_rfl) ?_
      simp only [Act.put, List.setIfInBounds_toArray, List.set_cons_zero, List.set_cons_succ]
      refine quiet_skip (by kernel_rfl) ?_
      simp only [Act.put, List.setIfInBounds_toArray, List.set_cons_zero, List.set_cons_succ]
      refine quiet_skip (by kernel_rfl) ?_
      simp only [Act.put, List.setIfInBounds_toArray, List.set_cons_zero, List.set_cons_succ]
      refine quiet_skip (by kernel_rfl) ?_
      simp only [Act.put, List.setIfInBounds_toArray, List.set_cons_zero, List.set_cons_succ]
      refine quiet_skip (by kernel_rfl) ?_
      simp only [Act.put, List.setIfInBounds_toArray, List.set_cons_zero, List.set_cons_succ]
      refine quiet_still rfl (.bool false) (fun w _ => by go_simp) ?_
      simp only [Act.put, List.setIfInBounds_toArray, List.set_cons_zero, List.set_cons_succ]
      unfold wpQuiet
      intro w5 hb
      replace h0 : w5.heap[w.heap.size]? = some (.cells #[.int .i64 x, .int .i64 lb, .int .i64 lc] 23 (0, 0)) := hb_below hb (by repeat (first | exact h0 | (refine hb_new ?_; (first | omega | (simp; omega) | (simp; done))) | (refine hb_old ?_ ?_; rotate_left; focus (first | omega | (simp; omega) | (simp; done))) | refine hb_drew ?_)) (by first | omega | (simp; omega) | (simp; done))
      replace h1 : w5.heap[w.heap.size + 1]? = some (.cells #[.int .i64 m.a, .int .i64 m.b, .int .i64 m.c, .int .i64 m.d] 40 (0, 0)) := hb_below hb (by repeat (first | exact h1 | (refine hb_new ?_; (first | omega | (simp; omega) | (simp; done))) | (refine hb_old ?_ ?_; rotate_left; focus (first | omega | (simp; omega) | (simp; done))) | refine hb_drew ?_)) (by first | omega | (simp; omega) | (simp; done))
      replace h2 : w5.heap[b2]? = some (.cells #[.int .i64 m.a, .int .i64 m.c] 25 (0, 0)) := hb_below hb (by repeat (first | exact h2 | (refine hb_new ?_; (first | omega | (simp; omega) | (simp; done))) | (refine hb_old ?_ ?_; rotate_left; focus (first | omega | (simp; omega) | (simp; done))) | refine hb_drew ?_)) (by first | omega | (simp; omega) | (simp; done))
      replace h3 : w5.heap[b3]? = some (.cells #[.int .i64 m.b, .int .i64 m.d] 25 (0, 0)) := hb_below hb (by repeat (first | exact h3 | (refine hb_new ?_; (first | omega | (simp; omega) | (simp; done))) | (refine hb_old ?_ ?_; rotate_left; focus (first | omega | (simp; omega) | (simp; done))) | refine hb_drew ?_)) (by first | omega | (simp; omega) | (simp; done))
      have y5 := Below.size hb
      try simp only [World.size_alloc, World.size_drew] at y5
      have D5 := Lib.hid (show Below w.heap.size w w5 from Below.trans (by repeat (first | exact D4.out | exact Below.refl _ _ | refine Below.alloc ?_ (by first | omega | (simp; omega) | (simp; done)) _)) (Below.mono hb (by first | omega | (simp; omega) | (simp; done))))
      have z5 := D5.out.size
      clear hb
      try clear c0_0
      have c0_0 := cell_of_heap h0 (j := 0) rfl
      try clear f0_0
      have f0_0 := frozen_of_heap h0 0
      try clear c0_1
      have c0_1 := cell_of_heap h0 (j := 1) rfl
      try clear f0_1
      have f0_1 := frozen_of_heap h0 1
      try clear c0_2
      have c0_2 := cell_of_heap h0 (j := 2) rfl
      try clear f0_2
      have f0_2 := frozen_of_heap h0 2
      try clear c1_0
      have c1_0 := cell_of_heap h1 (j := 0) rfl
      try clear f1_0
      have f1_0 := frozen_of_heap h1 0
      try clear c1_1
      have c1_1 := cell_of_heap h1 (j := 1) rfl
      try clear f1_1
      have f1_1 := frozen_of_heap h1 1
      try clear c1_2
      have c1_2 := cell_of_heap h1 (j := 2) rfl
      try clear f1_2
      have f1_2 := frozen_of_heap h1 2
      try clear c1_3
      have c1_3 := cell_of_heap h1 (j := 3) rfl
      try clear f1_3
      have f1_3 := frozen_of_heap h1 3
      try clear c2_0
      have c2_0 := cell_of_heap h2 (j := 0) rfl
      try clear f2_0
      have f2_0 := frozen_of_heap h2 0
      try clear c2_1
      have c2_1 := cell_of_heap h2 (j := 1) rfl
      try clear f2_1
      have f2_1 := frozen_of_heap h2 1
      try clear c3_0
      have c3_0 := cell_of_heap h3 (j := 0) rfl
      try clear f3_0
      have f3_0 := frozen_of_heap h3 0
      try clear c3_1
      have c3_1 := cell_of_heap h3 (j := 1) rfl
      try clear f3_1
      have f3_1 := frozen_of_heap h3 1
      go_wp2_with fail
      go_ret
      exact ⟨by simp [hy], D5.out⟩
  · skip
    try clear c0_0
    try clear f0_0
    try clear c0_1
    try clear f0_1
    try clear c0_2
    try clear f0_2
    try clear c1_0
    try clear f1_0
    try clear c1_1
    try clear f1_1
    try clear c1_2
    try clear f1_2
    try clear c1_3
    try clear f1_3
    try clear c2_0
    try clear f2_0
    try clear c2_1
    try clear f2_1
    try clear c3_0
    try clear f3_0
    try clear c3_1
    try clear f3_1
    refine wp_region_class (fun w' => Below w4.heap.size w4 w') 25 (by kernel_rfl) (by kernel_rfl) (Below.refl _ w4).drew ?_
    simp only [List.take_succ_cons, List.take_zero, List.drop_succ_cons, List.drop_zero]
    refine quiet_load_mid rfl _ _ rfl _ _ rfl [.int .i64 la, .int .i64 lb, .int .i64 lc] _ (fun w' h => range_of_heap (hb_below h h0 (by first | omega | (simp; omega) | (simp; done)))) Tryd.underlying23 rfl (by kernel_rfl) ?_
    simp only [Act.put, List.setIfInBounds_toArray, List.set_cons_zero, List.set_cons_succ]
    refine quiet_load_mid rfl _ _ rfl _ _ rfl [.int .i64 m.a, .int .i64 m.c] _ (fun w' h => range_of_heap (hb_below h h2 (by first | omega | (simp; omega) | (simp; done)))) Tryd.underlying25 rfl (by kernel_rfl) ?_
    simp only [Act.put, List.setIfInBounds_toArray, List.set_cons_zero, List.set_cons_succ]
    refine quiet_load_mid rfl _ _ rfl _ _ rfl [.int .i64 m.a, .int .i64 m.c] _ (fun w' h => range_of_heap (hb_below h h2 (by first | omega | (simp; omega) | (simp; done)))) Tryd.underlying25 rfl (by kernel_rfl) ?_
    simp only [Act.put, List.setIfInBounds_toArray, List.set_cons_zero, List.set_cons_succ]
    refine quiet_call rfl 47 _ _ rfl (enter_of Tryd.func47 (by decide) (by intro h; cases h)) _ (in_class_b H3.out) ?_
    simp only [Act.put, List.setIfInBounds_toArray, List.set_cons_zero, List.set_cons_succ]
    refine quiet_still rfl _ (fun w _ => by go_simp; rfl) ?_
    simp only [Act.put, List.setIfInBounds_toArray, List.set_cons_zero, List.set_cons_succ]
    refine quiet_load1 rfl _ _ rfl _ (by first | rfl | (go_simp; rfl)) _ (load_i64 _ _) (fun w' h => cell_of_heap (hb_below h h0 (by first | omega | (simp; omega) | (simp; done))) (j := 0) rfl) ?_
    simp only [Act.put, List.setIfInBounds_toArray, List.set_cons_zero, List.set_cons_succ]
    refine quiet_still rfl (.bool false) (fun w _ => by first | (go_simp; simp [hx]; done) | (go_simp; done)) ?_
    simp only [Act.put, List.setIfInBounds_toArray, List.set_cons_zero, List.set_cons_succ]
    refine quiet_moveV rfl _ rfl _ rfl ?_
    simp only [Act.put, List.setIfInBounds_toArray, List.set_cons_zero, List.set_cons_succ]
    refine quiet_skip (by kernel_rfl) ?_
    simp only [Act.put, List.setIfInBounds_toArray, List.set_cons_zero, List.set_cons_succ]
    refine quiet_skip (by kernel_rfl) ?_
    simp only [Act.put, List.setIfInBounds_toArray, List.set_cons_zero, List.set_cons_succ]
    refine quiet_skip (by kernel_rfl) ?_
    simp only [Act.put, List.setIfInBounds_toArray, List.set_cons_zero, List.set_cons_succ]
    refine quiet_skip (by kernel_rfl) ?_
    simp only [Act.put, List.setIfInBounds_toArray, List.set_cons_zero, List.set_cons_succ]
    refine quiet_skip (by kernel_rfl) ?_
    simp only [Act.put, List.setIfInBounds_toArray, List.set_cons_zero, List.set_cons_succ]
    refine quiet_skip (by kernel_rfl) ?_
    simp only [Act.put, List.setIfInBounds_toArray, List.set_cons_zero, List.set_cons_succ]
    refine quiet_skip (by kernel_rfl) ?_
    simp only [Act.put, List.setIfInBounds_toArray, List.set_cons_zero, List.set_cons_succ]
    refine quiet_still rfl (.bool false) (fun w _ => by go_simp) ?_
    simp only [Act.put, List.setIfInBounds_toArray, List.set_cons_zero, List.set_cons_succ]
    refine quiet_moveV rfl _ rfl _ rfl ?_
    simp only [Act.put, List.setIfInBounds_toArray, List.set_cons_zero, List.set_cons_succ]
    refine quiet_skip (by kernel_rfl) ?_
    simp only [Act.put, List.setIfInBounds_toArray, List.set_cons_zero, List.set_cons_succ]
    refine quiet_skip (by kernel_rfl) ?_
    simp only [Act.put, List.setIfInBounds_toArray, List.set_cons_zero, List.set_cons_succ]
    refine quiet_skip (by kernel_rfl) ?_
    simp only [Act.put, List.setIfInBounds_toArray, List.set_cons_zero, List.set_cons_succ]
    refine quiet_skip (by kernel_rfl) ?_
    simp only [Act.put, List.setIfInBounds_toArray, List.set_cons_zero, List.set_cons_succ]
    refine quiet_skip (by kernel_rfl) ?_
    simp only [Act.put, List.setIfInBounds_toArray, List.set_cons_zero, List.set_cons_succ]
    refine quiet_skip (by kernel_rfl) ?_
    simp only [Act.put, List.setIfInBounds_toArray, List.set_cons_zero, List.set_cons_succ]
    refine quiet_skip (by kernel_rfl) ?_
    simp only [Act.put, List.setIfInBounds_toArray, List.set_cons_zero, List.set_cons_succ]
    refine quiet_still rfl (.bool false) (fun w _ => by go_simp) ?_
    simp only [Act.put, List.setIfInBounds_toArray, List.set_cons_zero, List.set_cons_succ]
    unfold wpQuiet
    intro w5 hb
    replace h0 : w5.heap[w.heap.size]? = some (.cells #[.int .i64 la, .int .i64 lb, .int .i64 lc] 23 (0, 0)) := hb_below hb (by repeat (first | exact h0 | (refine hb_new ?_; (first | omega | (simp; omega) | (simp; done))) | (refine hb_old ?_ ?_; rotate_left; focus (first | omega | (simp; omega) | (simp; done))) | refine hb_drew ?_)) (by first | omega | (simp; omega) | (simp; done))
    replace h1 : w5.heap[w.heap.size + 1]? = some (.cells #[.int .i64 m.a, .int .i64 m.b, .int .i64 m.c, .int .i64 m.d] 40 (0, 0)) := hb_below hb (by repeat (first | exact h1 | (refine hb_new ?_; (first | omega | (simp; omega) | (simp; done))) | (refine hb_old ?_ ?_; rotate_left; focus (first | omega | (simp; omega) | (simp; done))) | refine hb_drew ?_)) (by first | omega | (simp; omega) | (simp; done))
    replace h2 : w5.heap[b2]? = some (.cells #[.int .i64 m.a, .int .i64 m.c] 25 (0, 0)) := hb_below hb (by repeat (first | exact h2 | (refine hb_new ?_; (first | omega | (simp; omega) | (simp; done))) | (refine hb_old ?_ ?_; rotate_left; focus (first | omega | (simp; omega) | (simp; done))) | refine hb_drew ?_)) (by first | omega | (simp; omega) | (simp; done))
    replace h3 : w5.heap[b3]? = some (.cells #[.int .i64 m.b, .int .i64 m.d] 25 (0, 0)) := hb_below hb (by repeat (first | exact h3 | (refine hb_new ?_; (first | omega | (simp; omega) | (simp; done))) | (refine hb_old ?_ ?_; rotate_left; focus (first | omega | (simp; omega) | (simp; done))) | refine hb_drew ?_)) (by first | omega | (simp; omega) | (simp; done))
    have y5 := Below.size hb
    try simp only [World.size_alloc, World.size_drew] at y5
    have D5 := Lib.hid (show Below w.heap.size w w5 from Below.trans (by repeat (first | exact D4.out | exact Below.refl _ _ | refine Below.alloc ?_ (by first | omega | (simp; omega) | (simp; done)) _)) (Below.mono hb (by first | omega | (simp; omega) | (simp; done))))
    have z5 := D5.out.size
    clear hb
    try clear c0_0
    have c0_0 := cell_of_heap h0 (j := 0) rfl
    try clear f0_0
    have f0_0 := frozen_of_heap h0 0
    try clear c0_1
    have c0_1 := cell_of_heap h0 (j := 1) rfl
    try clear f0_1
    have f0_1 := frozen_of_heap h0 1
    try clear c0_2
    have c0_2 := cell_of_heap h0 (j := 2) rfl
    try clear f0_2
    have f0_2 := frozen_of_heap h0 2
    try clear c1_0
    have c1_0 := cell_of_heap h1 (j := 0) rfl
    try clear f1_0
    have f1_0 := frozen_of_heap h1 0
    try clear c1_1
    have c1_1 := cell_of_heap h1 (j := 1) rfl
    try clear f1_1
    have f1_1 := frozen_of_heap h1 1
    try clear c1_2
    have c1_2 := cell_of_heap h1 (j := 2) rfl
    try clear f1_2
    have f1_2 := frozen_of_heap h1 2
    try clear c1_3
    have c1_3 := cell_of_heap h1 (j := 3) rfl
    try clear f1_3
    have f1_3 := frozen_of_heap h1 3
    try clear c2_0
    have c2_0 := cell_of_heap h2 (j := 0) rfl
    try clear f2_0
    have f2_0 := frozen_of_heap h2 0
    try clear c2_1
    have c2_1 := cell_of_heap h2 (j := 1) rfl
    try clear f2_1
    have f2_1 := frozen_of_heap h2 1
    try clear c3_0
    have c3_0 := cell_of_heap h3 (j := 0) rfl
    try clear f3_0
    have f3_0 := frozen_of_heap h3 0
    try clear c3_1
    have c3_1 := cell_of_heap h3 (j := 1) rfl
    try clear f3_1
    have f3_1 := frozen_of_heap h3 1
    go_wp2_with fail
    go_ret
    exact ⟨by simp [hx], D5.out⟩
set_option maxHeartbeats 4000000 in
set_option maxRecDepth 100000 in
theorem rKeeps_any (l : Lat) (m : Mat) (w : World) : Calls Tryd.prog 27 #[l.val, m.val] w fun e w' => e = .returned (.tuple #[.bool (keepV l m), .int .i64 (errIf (okL l && okM m))]) ∧ Below w.heap.size w w' := by
  have C1 := fun W => rCheck_any l W
  have C2 := fun W => rMatrix_any m W
  unfold keepV
  cases hk1 : okL l
  · rw [hk1] at C1
    simp only [Bool.false_and, errIf, Bool.false_eq_true, if_false] at C1 ⊢
    unfold Lat.val Mat.val at *
    have H1 := Lib.hid C1
    clear C1 C2 hk1
    go_enter Tryd.func27, Tryd.ntmps27
    go_wp2_with fail
    refine (H1.out _).mono ?_
    rintro e w1 ⟨rfl, hb⟩
    have h0 : w1.heap[w.heap.size]? = some (.cells #[.int .i64 l.a, .int .i64 l.b, .int .i64 l.c] 23 (0, 0)) := hb_below hb (by repeat (first | (refine hb_new ?_; (first | omega | (simp; omega) | (simp; done))) | (refine hb_old ?_ ?_; rotate_left; focus (first | omega | (simp; omega) | (simp; done))) | refine hb_drew ?_)) (by first | omega | (simp; omega) | (simp; done))
    have h1 : w1.heap[w.heap.size + 1]? = some (.cells #[.int .i64 m.a, .int .i64 m.b, .int .i64 m.c, .int .i64 m.d] 40 (0, 0)) := hb_below hb (by repeat (first | (refine hb_new ?_; (first | omega | (simp; omega) | (simp; done))) | (refine hb_old ?_ ?_; rotate_left; focus (first | omega | (simp; omega) | (simp; done))) | refine hb_drew ?_)) (by first | omega | (simp; omega) | (simp; done))
    have y1 := Below.size hb
    try simp only [World.size_alloc, World.size_drew] at y1
    have D1 := Lib.hid (show Below w.heap.size w w1 from Below.trans (by repeat (first | exact Below.refl _ _ | refine Below.alloc ?_ (by first | omega | (simp; omega) | (simp; done)) _)) (Below.mono hb (by first | omega | (simp; omega) | (simp; done))))
    have z1 := D1.out.size
    clear hb
    try clear c0_0
    have c0_0 := cell_of_heap h0 (j := 0) rfl
    try clear f0_0
    have f0_0 := frozen_of_heap h0 0
    try clear c0_1
    have c0_1 := cell_of_heap h0 (j := 1) rfl
    try clear f0_1
    have f0_1 := frozen_of_heap h0 1
    try clear c0_2
    have c0_2 := cell_of_heap h0 (j := 2) rfl
    try clear f0_2
    have f0_2 := frozen_of_heap h0 2
    try clear c1_0
    have c1_0 := cell_of_heap h1 (j := 0) rfl
    try clear f1_0
    have f1_0 := frozen_of_heap h1 0
    try clear c1_1
    have c1_1 := cell_of_heap h1 (j := 1) rfl
    try clear f1_1
    have f1_1 := frozen_of_heap h1 1
    try clear c1_2
    have c1_2 := cell_of_heap h1 (j := 2) rfl
    try clear f1_2
    have f1_2 := frozen_of_heap h1 2
    try clear c1_3
    have c1_3 := cell_of_heap h1 (j := 3) rfl
    try clear f1_3
    have f1_3 := frozen_of_heap h1 3
    go_wp2_with fail
    go_ret2
    exact ⟨rfl, (by repeat (first | exact D1.out | exact Below.refl _ _ | refine Below.alloc ?_ (by first | omega | (simp; omega) | (simp; done)) _))⟩
  · rw [hk1] at C1
    cases hk2 : okM m
    · rw [hk2] at C2
      simp only [Bool.and_false, Bool.false_and, errIf, Bool.false_eq_true, if_false, if_true] at C1 ⊢
      unfold Lat.val Mat.val at *
      have H1 := Lib.hid C1
      have H2 := Lib.hid C2
      clear C1 C2 hk1 hk2
      go_enter Tryd.func27, Tryd.ntmps27
      go_wp2_with fail
      refine (H1.out _).mono ?_
      rintro e w1 ⟨rfl, hb⟩
      have h0 : w1.heap[w.heap.size]? = some (.cells #[.int .i64 l.a, .int .i64 l.b, .int .i64 l.c] 23 (0, 0)) := hb_below hb (by repeat (first | (refine hb_new ?_; (first | omega | (simp; omega) | (simp; done))) | (refine hb_old ?_ ?_; rotate_left; focus (first | omega | (simp; omega) | (simp; done))) | refine hb_drew ?_)) (by first | omega | (simp; omega) | (simp; done))
      have h1 : w1.heap[w.heap.size + 1]? = some (.cells #[.int .i64 m.a, .int .i64 m.b, .int .i64 m.c, .int .i64 m.d] 40 (0, 0)) := hb_below hb (by repeat (first | (refine hb_new ?_; (first | omega | (simp; omega) | (simp; done))) | (refine hb_old ?_ ?_; rotate_left; focus (first | omega | (simp; omega) | (simp; done))) | refine hb_drew ?_)) (by first | omega | (simp; omega) | (simp; done))
      have y1 := Below.size hb
      try simp only [World.size_alloc, World.size_drew] at y1
      have D1 := Lib.hid (show Below w.heap.size w w1 from Below.trans (by repeat (first | exact Below.refl _ _ | refine Below.alloc ?_ (by first | omega | (simp; omega) | (simp; done)) _)) (Below.mono hb (by first | omega | (simp; omega) | (simp; done))))
      have z1 := D1.out.size
      clear hb
      try clear c0_0
      have c0_0 := cell_of_heap h0 (j := 0) rfl
      try clear f0_0
      have f0_0 := frozen_of_heap h0 0
      try clear c0_1
      have c0_1 := cell_of_heap h0 (j := 1) rfl
      try clear f0_1
      have f0_1 := frozen_of_heap h0 1
      try clear c0_2
      have c0_2 := cell_of_heap h0 (j := 2) rfl
      try clear f0_2
      have f0_2 := frozen_of_heap h0 2
      try clear c1_0
      have c1_0 := cell_of_heap h1 (j := 0) rfl
      try clear f1_0
      have f1_0 := frozen_of_heap h1 0
      try clear c1_1
      have c1_1 := cell_of_heap h1 (j := 1) rfl
      try clear f1_1
      have f1_1 := frozen_of_heap h1 1
      try clear c1_2
      have c1_2 := cell_of_heap h1 (j := 2) rfl
      try clear f1_2
      have f1_2 := frozen_of_heap h1 2
      try clear c1_3
      have c1_3 := cell_of_heap h1 (j := 3) rfl
      try clear f1_3
      have f1_3 := frozen_of_heap h1 3
      go_wp2_with fail
      refine (H2.out _).mono ?_
      rintro e w2 ⟨rfl, hb⟩
      replace h0 : w2.heap[w.heap.size]? = some (.cells #[.int .i64 l.a, .int .i64 l.b, .int .i64 l.c] 23 (0, 0)) := hb_below hb (by repeat (first | exact h0 | (refine hb_new ?_; (first | omega | (simp; omega) | (simp; done))) | (refine hb_old ?_ ?_; rotate_left; focus (first | omega | (simp; omega) | (simp; done))) | refine hb_drew ?_)) (by first | omega | (simp; omega) | (simp; done))
      replace h1 : w2.heap[w.heap.size + 1]? = some (.cells #[.int .i64 m.a, .int .i64 m.b, .int .i64 m.c, .int .i64 m.d] 40 (0, 0)) := hb_below hb (by repeat (first | exact h1 | (refine hb_new ?_; (first | omega | (simp; omega) | (simp; done))) | (refine hb_old ?_ ?_; rotate_left; focus (first | omega | (simp; omega) | (simp; done))) | refine hb_drew ?_)) (by first | omega | (simp; omega) | (simp; done))
      have y2 := Below.size hb
      try simp only [World.size_alloc, World.size_drew] at y2
      have D2 := Lib.hid (show Below w.heap.size w w2 from Below.trans (by repeat (first | exact D1.out | exact Below.refl _ _ | refine Below.alloc ?_ (by first | omega | (simp; omega) | (simp; done)) _)) (Below.mono hb (by first | omega | (simp; omega) | (simp; done))))
      have z2 := D2.out.size
      clear hb
      try clear c0_0
      have c0_0 := cell_of_heap h0 (j := 0) rfl
      try clear f0_0
      have f0_0 := frozen_of_heap h0 0
      try clear c0_1
      have c0_1 := cell_of_heap h0 (j := 1) rfl
      try clear f0_1
      have f0_1 := frozen_of_heap h0 1
      try clear c0_2
      have c0_2 := cell_of_heap h0 (j := 2) rfl
      try clear f0_2
      have f0_2 := frozen_of_heap h0 2
      try clear c1_0
      have c1_0 := cell_of_heap h1 (j := 0) rfl
      try clear f1_0
      have f1_0 := frozen_of_heap h1 0
      try clear c1_1
      have c1_1 := cell_of_heap h1 (j := 1) rfl
      try clear f1_1
      have f1_1 := frozen_of_heap h1 1
      try clear c1_2
      have c1_2 := cell_of_heap h1 (j := 2) rfl
      try clear f1_2
      have f1_2 := frozen_of_heap h1 2
      try clear c1_3
      have c1_3 := cell_of_heap h1 (j := 3) rfl
      try clear f1_3
      have f1_3 := frozen_of_heap h1 3
      go_wp2_with fail
      go_ret2
      exact ⟨rfl, (by repeat (first | exact D2.out | exact Below.refl _ _ | refine Below.alloc ?_ (by first | omega | (simp; omega) | (simp; done)) _))⟩
    · rw [hk2] at C2
      have C3 := fun W => rkeeps_any l m ((okL_iff l).1 hk1) ((okM_iff m).1 hk2) W
      simp only [Bool.and_self, Bool.true_and, errIf, if_true] at C1 ⊢
      generalize decide (led l m = l) = z at *
      unfold Lat.val Mat.val at *
      have H1 := Lib.hid C1
      have H2 := Lib.hid C2
      have H3 := Lib.hid C3
      clear C1 C2 C3 hk1 hk2
      go_enter Tryd.func27, Tryd.ntmps27
      go_wp2_with fail
      refine (H1.out _).mono ?_
      rintro e w1 ⟨rfl, hb⟩
      have h0 : w1.heap[w.heap.size]? = some (.cells #[.int .i64 l.a, .int .i64 l.b, .int .i64 l.c] 23 (0, 0)) := hb_below hb (by repeat (first | (refine hb_new ?_; (first | omega | (simp; omega) | (simp; done))) | (refine hb_old ?_ ?_; rotate_left; focus (first | omega | (simp; omega) | (simp; done))) | refine hb_drew ?_)) (by first | omega | (simp; omega) | (simp; done))
      have h1 : w1.heap[w.heap.size + 1]? = some (.cells #[.int .i64 m.a, .int .i64 m.b, .int .i64 m.c, .int .i64 m.d] 40 (0, 0)) := hb_below hb (by repeat (first | (refine hb_new ?_; (first | omega | (simp; omega) | (simp; done))) | (refine hb_old ?_ ?_; rotate_left; focus (first | omega | (simp; omega) | (simp; done))) | refine hb_drew ?_)) (by first | omega | (simp; omega) | (simp; done))
      have y1 := Below.size hb
      try simp only [World.size_alloc, World.size_drew] at y1
      have D1 := Lib.hid (show Below w.heap.size w w1 from Below.trans (by repeat (first | exact Below.refl _ _ | refine Below.alloc ?_ (by first | omega | (simp; omega) | (simp; done)) _)) (Below.mono hb (by first | omega | (simp; omega) | (simp; done))))
      have z1 := D1.out.size
      clear hb
      try clear c0_0
      have c0_0 := cell_of_heap h0 (j := 0) rfl
      try clear f0_0
      have f0_0 := frozen_of_heap h0 0
      try clear c0_1
      have c0_1 := cell_of_heap h0 (j := 1) rfl
      try clear f0_1
      have f0_1 := frozen_of_heap h0 1
      try clear c0_2
      have c0_2 := cell_of_heap h0 (j := 2) rfl
      try clear f0_2
      have f0_2 := frozen_of_heap h0 2
      try clear c1_0
      have c1_0 := cell_of_heap h1 (j := 0) rfl
      try clear f1_0
      have f1_0 := frozen_of_heap h1 0
      try clear c1_1
      have c1_1 := cell_of_heap h1 (j := 1) rfl
      try clear f1_1
      have f1_1 := frozen_of_heap h1 1
      try clear c1_2
      have c1_2 := cell_of_heap h1 (j := 2) rfl
      try clear f1_2
      have f1_2 := frozen_of_heap h1 2
      try clear c1_3
      have c1_3 := cell_of_heap h1 (j := 3) rfl
      try clear f1_3
      have f1_3 := frozen_of_heap h1 3
      go_wp2_with fail
      refine (H2.out _).mono ?_
      rintro e w2 ⟨rfl, hb⟩
      replace h0 : w2.heap[w.heap.size]? = some (.cells #[.int .i64 l.a, .int .i64 l.b, .int .i64 l.c] 23 (0, 0)) := hb_below hb (by repeat (first | exact h0 | (refine hb_new ?_; (first | omega | (simp; omega) | (simp; done))) | (refine hb_old ?_ ?_; rotate_left; focus (first | omega | (simp; omega) | (simp; done))) | refine hb_drew ?_)) (by first | omega | (simp; omega) | (simp; done))
      replace h1 : w2.heap[w.heap.size + 1]? = some (.cells #[.int .i64 m.a, .int .i64 m.b, .int .i64 m.c, .int .i64 m.d] 40 (0, 0)) := hb_below hb (by repeat (first | exact h1 | (refine hb_new ?_; (first | omega | (simp; omega) | (simp; done))) | (refine hb_old ?_ ?_; rotate_left; focus (first | omega | (simp; omega) | (simp; done))) | refine hb_drew ?_)) (by first | omega | (simp; omega) | (simp; done))
      have y2 := Below.size hb
      try simp only [World.size_alloc, World.size_drew] at y2
      have D2 := Lib.hid (show Below w.heap.size w w2 from Below.trans (by repeat (first | exact D1.out | exact Below.refl _ _ | refine Below.alloc ?_ (by first | omega | (simp; omega) | (simp; done)) _)) (Below.mono hb (by first | omega | (simp; omega) | (simp; done))))
      have z2 := D2.out.size
      clear hb
      try clear c0_0
      have c0_0 := cell_of_heap h0 (j := 0) rfl
      try clear f0_0
      have f0_0 := frozen_of_heap h0 0
      try clear c0_1
      have c0_1 := cell_of_heap h0 (j := 1) rfl
      try clear f0_1
      have f0_1 := frozen_of_heap h0 1
      try clear c0_2
      have c0_2 := cell_of_heap h0 (j := 2) rfl
      try clear f0_2
      have f0_2 := frozen_of_heap h0 2
      try clear c1_0
      have c1_0 := cell_of_heap h1 (j := 0) rfl
      try clear f1_0
      have f1_0 := frozen_of_heap h1 0
      try clear c1_1
      have c1_1 := cell_of_heap h1 (j := 1) rfl
      try clear f1_1
      have f1_1 := frozen_of_heap h1 1
      try clear c1_2
      have c1_2 := cell_of_heap h1 (j := 2) rfl
      try clear f1_2
      have f1_2 := frozen_of_heap h1 2
      try clear c1_3
      have c1_3 := cell_of_heap h1 (j := 3) rfl
      try clear f1_3
      have f1_3 := frozen_of_heap h1 3
      go_wp2_with fail
      refine (H3.out _).mono ?_
      rintro e w3 ⟨rfl, hb⟩
      replace h0 : w3.heap[w.heap.size]? = some (.cells #[.int .i64 l.a, .int .i64 l.b, .int .i64 l.c] 23 (0, 0)) := hb_below hb (by repeat (first | exact h0 | (refine hb_new ?_; (first | omega | (simp; omega) | (simp; done))) | (refine hb_old ?_ ?_; rotate_left; focus (first | omega | (simp; omega) | (simp; done))) | refine hb_drew ?_)) (by first | omega | (simp; omega) | (simp; done))
      replace h1 : w3.heap[w.heap.size + 1]? = some (.cells #[.int .i64 m.a, .int .i64 m.b, .int .i64 m.c, .int .i64 m.d] 40 (0, 0)) := hb_below hb (by repeat (first | exact h1 | (refine hb_new ?_; (first | omega | (simp; omega) | (simp; done))) | (refine hb_old ?_ ?_; rotate_left; focus (first | omega | (simp; omega) | (simp; done))) | refine hb_drew ?_)) (by first | omega | (simp; omega) | (simp; done))
      have y3 := Below.size hb
      try simp only [World.size_alloc, World.size_drew] at y3
      have D3 := Lib.hid (show Below w.heap.size w w3 from Below.trans (by repeat (first | exact D2.out | exact Below.refl _ _ | refine Below.alloc ?_ (by first | omega | (simp; omega) | (simp; done)) _)) (Below.mono hb (by first | omega | (simp; omega) | (simp; done))))
      have z3 := D3.out.size
      clear hb
      try clear c0_0
      have c0_0 := cell_of_heap h0 (j := 0) rfl
      try clear f0_0
      have f0_0 := frozen_of_heap h0 0
      try clear c0_1
      have c0_1 := cell_of_heap h0 (j := 1) rfl
      try clear f0_1
      have f0_1 := frozen_of_heap h0 1
      try clear c0_2
      have c0_2 := cell_of_heap h0 (j := 2) rfl
      try clear f0_2
      have f0_2 := frozen_of_heap h0 2
      try clear c1_0
      have c1_0 := cell_of_heap h1 (j := 0) rfl
      try clear f1_0
      have f1_0 := frozen_of_heap h1 0
      try clear c1_1
      have c1_1 := cell_of_heap h1 (j := 1) rfl
      try clear f1_1
      have f1_1 := frozen_of_heap h1 1
      try clear c1_2
      have c1_2 := cell_of_heap h1 (j := 2) rfl
      try clear f1_2
      have f1_2 := frozen_of_heap h1 2
      try clear c1_3
      have c1_3 := cell_of_heap h1 (j := 3) rfl
      try clear f1_3
      have f1_3 := frozen_of_heap h1 3
      go_wp2_with fail
      go_ret2
      exact ⟨rfl, (by repeat (first | exact D3.out | exact Below.refl _ _ | refine Below.alloc ?_ (by first | omega | (simp; omega) | (simp; done)) _))⟩
end Go.Proofs.YtjekfkmcgfnkaaaDoor
