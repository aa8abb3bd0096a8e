/- The law of reduced lattices. -/
import Derived.Test.YtjekfkmcgfnkaaaDoorIW
namespace Go.Proofs.YtjekfkmcgfnkaaaDoor
open Go.RowKit Go.Lib
set_option linter.unusedSimpArgs false
set_option linter.unusedVariables false
set_option maxHeartbeats 4000000 in
set_option maxRecDepth 100000 in
theorem llead_any (l : Lat) (m : Mat) (hl : Ok l) (hm : Mok m) (w : World) : Calls Tryd.prog 43 #[l.val, m.val] w fun e w' => e = .returned ((led l m).val) ∧ Below w.heap.size w w' := by
  have C1 := fun W => lPt_any m.a m.c W
  have C2 := fun W => lPt_any m.b m.d W
  have s1 : Sm ⟨m.a, m.c⟩ := by obtain ⟨⟨h1, h2⟩, ⟨h3, h4⟩, ⟨h5, h6⟩, h7, h8⟩ := hm; unfold Sm; dsimp only; omega
  have s2 : Sm ⟨m.b, m.d⟩ := by obtain ⟨⟨h1, h2⟩, ⟨h3, h4⟩, ⟨h5, h6⟩, h7, h8⟩ := hm; unfold Sm; dsimp only; omega
  have C3 := fun W => rProduct_any l ⟨m.a, m.c⟩ ⟨m.a, m.c⟩ W
  have C4 := fun W => rProduct_any l ⟨m.a, m.c⟩ ⟨m.b, m.d⟩ W
  have C5 := fun W => rProduct_any l ⟨m.b, m.d⟩ ⟨m.b, m.d⟩ W
  rw [prod_id hl s1 s1] at C3
  rw [prod_id hl s1 s2] at C4
  rw [prod_id hl s2 s2] at C5
  have e : led l m = ⟨prod l ⟨m.a, m.c⟩ ⟨m.a, m.c⟩, prod l ⟨m.a, m.c⟩ ⟨m.b, m.d⟩, prod l ⟨m.b, m.d⟩ ⟨m.b, m.d⟩⟩ := rfl
  rw [e]
  generalize prod l ⟨m.a, m.c⟩ ⟨m.a, m.c⟩ = x at *
  generalize prod l ⟨m.a, m.c⟩ ⟨m.b, m.d⟩ = y at *
  generalize prod l ⟨m.b, m.d⟩ ⟨m.b, m.d⟩ = z at *
  unfold Lat.val Mat.val Pt.val at *
  have H1 := Lib.hid C1
  have H2 := Lib.hid C2
  have H3 := Lib.hid C3
  have H4 := Lib.hid C4
  have H5 := Lib.hid C5
  clear C1 C2 C3 C4 C5 s1 s2 e hl hm
  go_enter Tryd.func43, Tryd.ntmps43
  go_wp2_with fail
  obtain ⟨w1, hw1⟩ : ∃ W, W = (((w.alloc (.cells #[.int .i64 l.a, .int .i64 l.b, .int .i64 l.c] 23)).alloc (.cells #[.int .i64 m.a, .int .i64 m.b, .int .i64 m.c, .int .i64 m.d] 40)).alloc (.cells #[.int .i64 0, .int .i64 0, .int .i64 0] 23)) := ⟨_, rfl⟩
  rw [← hw1]
  have h0 : w1.heap[w.heap.size]? = some (.cells #[.int .i64 l.a, .int .i64 l.b, .int .i64 l.c] 23 (0, 0)) := by rw [hw1]; exact (by repeat (first | (refine hb_new ?_; (first | omega | (simp; omega) | (simp; done))) | (refine hb_old ?_ ?_; rotate_left; focus (first | omega | (simp; omega) | (simp; done))) | refine hb_drew ?_))
  have h1 : w1.heap[w.heap.size + 1]? = some (.cells #[.int .i64 m.a, .int .i64 m.b, .int .i64 m.c, .int .i64 m.d] 40 (0, 0)) := by rw [hw1]; exact (by repeat (first | (refine hb_new ?_; (first | omega | (simp; omega) | (simp; done))) | (refine hb_old ?_ ?_; rotate_left; focus (first | omega | (simp; omega) | (simp; done))) | refine hb_drew ?_))
  have h2 : w1.heap[w.heap.size + 1 + 1]? = some (.cells #[.int .i64 0, .int .i64 0, .int .i64 0] 23 (0, 0)) := by rw [hw1]; exact (by repeat (first | (refine hb_new ?_; (first | omega | (simp; omega) | (simp; done))) | (refine hb_old ?_ ?_; rotate_left; focus (first | omega | (simp; omega) | (simp; done))) | refine hb_drew ?_))
  have hb : Below w.heap.size w w1 := by rw [hw1]; exact (by repeat (first | exact Below.refl _ _ | refine Below.alloc ?_ (by first | omega | (simp; omega) | (simp; done)) _ | refine Below.drew ?_))
  have s1 : w.heap.size + 1 + 1 + 1 ≤ w1.heap.size := by rw [hw1]; simp
  have y1 := Below.size hb
  try simp only [World.size_alloc, World.size_drew] at y1
  have D1 := Lib.hid (show Below w.heap.size w w1 from Below.trans (by repeat (first | exact Below.refl _ _ | refine Below.alloc ?_ (by first | omega | (simp; omega) | (simp; done)) _)) (Below.mono hb (by first | omega | (simp; omega) | (simp; done))))
  have z1 := D1.out.size
  clear hb hw1
  try clear c0_0 f0_0 c0_1 f0_1 c0_2 f0_2
  obtain ⟨c0_0, f0_0, c0_1, f0_1, c0_2, f0_2⟩ := cells3 h0
  try clear c1_0 f1_0 c1_1 f1_1 c1_2 f1_2 c1_3 f1_3
  obtain ⟨c1_0, f1_0, c1_1, f1_1, c1_2, f1_2, c1_3, f1_3⟩ := cells4 h1
  try clear c2_0 f2_0 c2_1 f2_1 c2_2 f2_2
  obtain ⟨c2_0, f2_0, c2_1, f2_1, c2_2, f2_2⟩ := cells3 h2
  try clear c0_0 f0_0 c0_1 f0_1 c0_2 f0_2
  try clear c1_0 f1_0 c1_1 f1_1 c1_2 f1_2 c1_3 f1_3
  try clear c2_0 f2_0 c2_1 f2_1 c2_2 f2_2
  refine wp_region_alloc 10 12 [10, 11] (fun _ => .cells #[.int .i64 0, .int .i64 0] 25 (0, 0)) (by kernel_rfl) (by kernel_rfl) ?_ ?_
  · intro i o h1 h2 ho
    have hi : i = 10 ∨ i = 11 := by omega
    rcases hi with rfl | rfl <;> (simp only [List.getElem?_toArray, List.getElem?_cons_succ, List.getElem?_cons_zero, Option.some.injEq] at ho; subst ho; exact ⟨rfl, fun a w => by go_simp; try rfl⟩)
  simp only [List.take_succ_cons, List.take_zero, List.drop_succ_cons, List.drop_zero]
  refine lex_still rfl _ (fun w => by go_simp; rfl) ?_
  simp only [Act.put, List.setIfInBounds_toArray, List.set_cons_zero, List.set_cons_succ]
  refine lex_load1 rfl _ _ rfl _ (by first | rfl | (go_simp; rfl)) _ (load_i64 _ _) (fun w' h => cell_of_heap (hb_below h h1 (by first | omega | (simp; omega) | (simp; done))) (j := 0) rfl) ?_
  simp only [Act.put, List.setIfInBounds_toArray, List.set_cons_zero, List.set_cons_succ]
  refine lex_still rfl _ (fun w => by go_simp; rfl) ?_
  simp only [Act.put, List.setIfInBounds_toArray, List.set_cons_zero, List.set_cons_succ]
  refine lex_load1 rfl _ _ rfl _ (by first | rfl | (go_simp; rfl)) _ (load_i64 _ _) (fun w' h => cell_of_heap (hb_below h h1 (by first | omega | (simp; omega) | (simp; done))) (j := 2) rfl) ?_
  simp only [Act.put, List.setIfInBounds_toArray, List.set_cons_zero, List.set_cons_succ]
  refine lex_call rfl 45 _ _ rfl (enter_of Tryd.func45 (by decide) (by intro h; cases h)) _ (H1.out) ?_
  simp only [Act.put, List.setIfInBounds_toArray, List.set_cons_zero, List.set_cons_succ]
  refine lex_still rfl _ (fun w => by go_simp; rfl) ?_
  simp only [Act.put, List.setIfInBounds_toArray, List.set_cons_zero, List.set_cons_succ]
  refine lex_load1 rfl _ _ rfl _ (by first | rfl | (go_simp; rfl)) _ (load_i64 _ _) (fun w' h => cell_of_heap (hb_below h h1 (by first | omega | (simp; omega) | (simp; done))) (j := 1) rfl) ?_
  simp only [Act.put, List.setIfInBounds_toArray, List.set_cons_zero, List.set_cons_succ]
  refine lex_still rfl _ (fun w => by go_simp; rfl) ?_
  simp only [Act.put, List.setIfInBounds_toArray, List.set_cons_zero, List.set_cons_succ]
  refine lex_load1 rfl _ _ rfl _ (by first | rfl | (go_simp; rfl)) _ (load_i64 _ _) (fun w' h => cell_of_heap (hb_below h h1 (by first | omega | (simp; omega) | (simp; done))) (j := 3) rfl) ?_
  simp only [Act.put, List.setIfInBounds_toArray, List.set_cons_zero, List.set_cons_succ]
  refine lex_call rfl 45 _ _ rfl (enter_of Tryd.func45 (by decide) (by intro h; cases h)) _ (H2.out) ?_
  simp only [Act.put, List.setIfInBounds_toArray, List.set_cons_zero, List.set_cons_succ]
  refine aph2' 10 11 5 6 rfl rfl (by decide) (by decide) ?_
  intro b3 b4 w2 hb hF hD
  simp only [List.drop_succ_cons, List.drop_zero]
  simp only [Act.put, List.setIfInBounds_toArray, List.set_cons_zero, List.set_cons_succ]
  replace h0 : w2.heap[w.heap.size]? = some (.cells #[.int .i64 l.a, .int .i64 l.b, .int .i64 l.c] 23 (0, 0)) := hb_below hb (by repeat (first | exact h0 | (refine hb_new ?_; (first | omega | (simp; omega) | (simp; done))) | (refine hb_old ?_ ?_; rotate_left; focus (first | omega | (simp; omega) | (simp; done))) | refine hb_drew ?_)) (by first | omega | (simp; omega) | (simp; done))
  replace h1 : w2.heap[w.heap.size + 1]? = some (.cells #[.int .i64 m.a, .int .i64 m.b, .int .i64 m.c, .int .i64 m.d] 40 (0, 0)) := hb_below hb (by repeat (first | exact h1 | (refine hb_new ?_; (first | omega | (simp; omega) | (simp; done))) | (refine hb_old ?_ ?_; rotate_left; focus (first | omega | (simp; omega) | (simp; done))) | refine hb_drew ?_)) (by first | omega | (simp; omega) | (simp; done))
  replace h2 : w2.heap[w.heap.size + 1 + 1]? = some (.cells #[.int .i64 0, .int .i64 0, .int .i64 0] 23 (0, 0)) := hb_below hb (by repeat (first | exact h2 | (refine hb_new ?_; (first | omega | (simp; omega) | (simp; done))) | (refine hb_old ?_ ?_; rotate_left; focus (first | omega | (simp; omega) | (simp; done))) | refine hb_drew ?_)) (by first | omega | (simp; omega) | (simp; done))
  have g3 : w1.heap.size ≤ b3 := (hF 10 (by decide) (by decide)).1
  have l3 : b3 < w2.heap.size := (hF 10 (by decide) (by decide)).2.1
  have h3 : w2.heap[b3]? = some (.cells #[.int .i64 0, .int .i64 0] 25 (0, 0)) := (hF 10 (by decide) (by decide)).2.2
  have g4 : w1.heap.size ≤ b4 := (hF 11 (by decide) (by decide)).1
  have l4 : b4 < w2.heap.size := (hF 11 (by decide) (by decide)).2.1
  have h4 : w2.heap[b4]? = some (.cells #[.int .i64 0, .int .i64 0] 25 (0, 0)) := (hF 11 (by decide) (by decide)).2.2
  have n3_4 : b3 ≠ b4 := hD 10 11 (by decide) (by decide) (by decide) (by decide) (by decide)
  clear hF hD
  have y2 := Below.size hb
  try simp only [World.size_alloc, World.size_drew] at y2
  have D2 := Lib.hid (show Below w.heap.size w w2 from Below.trans (by repeat (first | exact D1.out | exact Below.refl _ _ | refine Below.alloc ?_ (by first | omega | (simp; omega) | (simp; done)) _)) (Below.mono hb (by first | omega | (simp; omega) | (simp; done))))
  have z2 := D2.out.size
  clear hb
  refine store_row rfl _ _ _ rfl (b3) _ rfl rfl _ _ h3 (by kernel_rfl) rfl (by kernel_rfl) ?_
  intro w3 hn hk hz hB
  simp only [Act.put, List.setIfInBounds_toArray, List.set_cons_zero, List.set_cons_succ]
  replace h0 := hk _ _ h0 (by first | omega | assumption | (apply Ne.symm; assumption) | (simp; done) | (simp; omega))
  replace h1 := hk _ _ h1 (by first | omega | assumption | (apply Ne.symm; assumption) | (simp; done) | (simp; omega))
  replace h2 := hk _ _ h2 (by first | omega | assumption | (apply Ne.symm; assumption) | (simp; done) | (simp; omega))
  replace h3 : w3.heap[b3]? = some (.cells #[.int .i64 m.a, .int .i64 m.c] 25 (0, 0)) := hn
  replace h4 := hk _ _ h4 (by first | omega | assumption | (apply Ne.symm; assumption) | (simp; done) | (simp; omega))
  have D3 := Lib.hid (hB _ _ D2.out (by first | omega | (simp; omega)))
  have z3 := D3.out.size
  have y3 : w3.heap.size = w2.heap.size := hz
  clear hn hk hz hB
  refine store_row rfl _ _ _ rfl (b4) _ rfl rfl _ _ h4 (by kernel_rfl) rfl (by kernel_rfl) ?_
  intro w4 hn hk hz hB
  simp only [Act.put, List.setIfInBounds_toArray, List.set_cons_zero, List.set_cons_succ]
  replace h0 := hk _ _ h0 (by first | omega | assumption | (apply Ne.symm; assumption) | (simp; done) | (simp; omega))
  replace h1 := hk _ _ h1 (by first | omega | assumption | (apply Ne.symm; assumption) | (simp; done) | (simp; omega))
  replace h2 := hk _ _ h2 (by first | omega | assumption | (apply Ne.symm; assumption) | (simp; done) | (simp; omega))
  replace h3 := hk _ _ h3 (by first | omega | assumption | (apply Ne.symm; assumption) | (simp; done) | (simp; omega))
  replace h4 : w4.heap[b4]? = some (.cells #[.int .i64 m.b, .int .i64 m.d] 25 (0, 0)) := hn
  have D4 := Lib.hid (hB _ _ D3.out (by first | omega | (simp; omega)))
  have z4 := D4.out.size
  have y4 : w4.heap.size = w3.heap.size := hz
  clear hn hk hz hB
  try clear c0_0 f0_0 c0_1 f0_1 c0_2 f0_2
  obtain ⟨c0_0, f0_0, c0_1, f0_1, c0_2, f0_2⟩ := cells3 h0
  try clear c1_0 f1_0 c1_1 f1_1 c1_2 f1_2 c1_3 f1_3
  obtain ⟨c1_0, f1_0, c1_1, f1_1, c1_2, f1_2, c1_3, f1_3⟩ := cells4 h1
  try clear c2_0 f2_0 c2_1 f2_1 c2_2 f2_2
  obtain ⟨c2_0, f2_0, c2_1, f2_1, c2_2, f2_2⟩ := cells3 h2
  try clear c3_0 f3_0 c3_1 f3_1
  obtain ⟨c3_0, f3_0, c3_1, f3_1⟩ := cells2 h3
  try clear c4_0 f4_0 c4_1 f4_1
  obtain ⟨c4_0, f4_0, c4_1, f4_1⟩ := cells2 h4
  go_wp2_with fail
  try clear c0_0 f0_0 c0_1 f0_1 c0_2 f0_2
  try clear c1_0 f1_0 c1_1 f1_1 c1_2 f1_2 c1_3 f1_3
  try clear c2_0 f2_0 c2_1 f2_1 c2_2 f2_2
  try clear c3_0 f3_0 c3_1 f3_1
  try clear c4_0 f4_0 c4_1 f4_1
  refine wp_region_class (fun w' => Below w4.heap.size w4 w') 13 (by kernel_rfl) (by kernel_rfl) (Below.refl _ w4).drew ?_
  simp only [List.take_succ_cons, List.take_zero, List.drop_succ_cons, List.drop_zero]
  refine quiet_load_mid rfl _ _ rfl _ _ rfl [.int .i64 l.a, .int .i64 l.b, .int .i64 l.c] _ (fun w' h => range_of_heap (hb_below h h0 (by first | omega | (simp; omega) | (simp; done)))) Tryd.underlying23 rfl (by kernel_rfl) ?_
  simp only [Act.put, List.setIfInBounds_toArray, List.set_cons_zero, List.set_cons_succ]
  refine quiet_load_mid rfl _ _ rfl _ _ rfl [.int .i64 m.a, .int .i64 m.c] _ (fun w' h => range_of_heap (hb_below h h3 (by first | omega | (simp; omega) | (simp; done)))) Tryd.underlying25 rfl (by kernel_rfl) ?_
  simp only [Act.put, List.setIfInBounds_toArray, List.set_cons_zero, List.set_cons_succ]
  refine quiet_load_mid rfl _ _ rfl _ _ rfl [.int .i64 m.a, .int .i64 m.c] _ (fun w' h => range_of_heap (hb_below h h3 (by first | omega | (simp; omega) | (simp; done)))) Tryd.underlying25 rfl (by kernel_rfl) ?_
  simp only [Act.put, List.setIfInBounds_toArray, List.set_cons_zero, List.set_cons_succ]
  refine quiet_call rfl 47 _ _ rfl (enter_of Tryd.func47 (by decide) (by intro h; cases h)) _ (in_class_b H3.out) ?_
  simp only [Act.put, List.setIfInBounds_toArray, List.set_cons_zero, List.set_cons_succ]
  refine quiet_load_mid rfl _ _ rfl _ _ rfl [.int .i64 l.a, .int .i64 l.b, .int .i64 l.c] _ (fun w' h => range_of_heap (hb_below h h0 (by first | omega | (simp; omega) | (simp; done)))) Tryd.underlying23 rfl (by kernel_rfl) ?_
  simp only [Act.put, List.setIfInBounds_toArray, List.set_cons_zero, List.set_cons_succ]
  refine quiet_load_mid rfl _ _ rfl _ _ rfl [.int .i64 m.a, .int .i64 m.c] _ (fun w' h => range_of_heap (hb_below h h3 (by first | omega | (simp; omega) | (simp; done)))) Tryd.underlying25 rfl (by kernel_rfl) ?_
  simp only [Act.put, List.setIfInBounds_toArray, List.set_cons_zero, List.set_cons_succ]
  refine quiet_load_mid rfl _ _ rfl _ _ rfl [.int .i64 m.b, .int .i64 m.d] _ (fun w' h => range_of_heap (hb_below h h4 (by first | omega | (simp; omega) | (simp; done)))) Tryd.underlying25 rfl (by kernel_rfl) ?_
  simp only [Act.put, List.setIfInBounds_toArray, List.set_cons_zero, List.set_cons_succ]
  refine quiet_call rfl 47 _ _ rfl (enter_of Tryd.func47 (by decide) (by intro h; cases h)) _ (in_class_b H4.out) ?_
  simp only [Act.put, List.setIfInBounds_toArray, List.set_cons_zero, List.set_cons_succ]
  refine quiet_load_mid rfl _ _ rfl _ _ rfl [.int .i64 l.a, .int .i64 l.b, .int .i64 l.c] _ (fun w' h => range_of_heap (hb_below h h0 (by first | omega | (simp; omega) | (simp; done)))) Tryd.underlying23 rfl (by kernel_rfl) ?_
  simp only [Act.put, List.setIfInBounds_toArray, List.set_cons_zero, List.set_cons_succ]
  refine quiet_load_mid rfl _ _ rfl _ _ rfl [.int .i64 m.b, .int .i64 m.d] _ (fun w' h => range_of_heap (hb_below h h4 (by first | omega | (simp; omega) | (simp; done)))) Tryd.underlying25 rfl (by kernel_rfl) ?_
  simp only [Act.put, List.setIfInBounds_toArray, List.set_cons_zero, List.set_cons_succ]
  refine quiet_load_mid rfl _ _ rfl _ _ rfl [.int .i64 m.b, .int .i64 m.d] _ (fun w' h => range_of_heap (hb_below h h4 (by first | omega | (simp; omega) | (simp; done)))) Tryd.underlying25 rfl (by kernel_rfl) ?_
  simp only [Act.put, List.setIfInBounds_toArray, List.set_cons_zero, List.set_cons_succ]
  refine quiet_call rfl 47 _ _ rfl (enter_of Tryd.func47 (by decide) (by intro h; cases h)) _ (in_class_b H5.out) ?_
  simp only [Act.put, List.setIfInBounds_toArray, List.set_cons_zero, List.set_cons_succ]
  refine quiet_still rfl _ (fun w _ => by go_simp; rfl) ?_
  simp only [Act.put, List.setIfInBounds_toArray, List.set_cons_zero, List.set_cons_succ]
  intro w5 hb
  replace h0 : w5.heap[w.heap.size]? = some (.cells #[.int .i64 l.a, .int .i64 l.b, .int .i64 l.c] 23 (0, 0)) := hb_below hb (by repeat (first | exact h0 | (refine hb_new ?_; (first | omega | (simp; omega) | (simp; done))) | (refine hb_old ?_ ?_; rotate_left; focus (first | omega | (simp; omega) | (simp; done))) | refine hb_drew ?_)) (by first | omega | (simp; omega) | (simp; done))
  replace h1 : w5.heap[w.heap.size + 1]? = some (.cells #[.int .i64 m.a, .int .i64 m.b, .int .i64 m.c, .int .i64 m.d] 40 (0, 0)) := hb_below hb (by repeat (first | exact h1 | (refine hb_new ?_; (first | omega | (simp; omega) | (simp; done))) | (refine hb_old ?_ ?_; rotate_left; focus (first | omega | (simp; omega) | (simp; done))) | refine hb_drew ?_)) (by first | omega | (simp; omega) | (simp; done))
  replace h2 : w5.heap[w.heap.size + 1 + 1]? = some (.cells #[.int .i64 0, .int .i64 0, .int .i64 0] 23 (0, 0)) := hb_below hb (by repeat (first | exact h2 | (refine hb_new ?_; (first | omega | (simp; omega) | (simp; done))) | (refine hb_old ?_ ?_; rotate_left; focus (first | omega | (simp; omega) | (simp; done))) | refine hb_drew ?_)) (by first | omega | (simp; omega) | (simp; done))
  replace h3 : w5.heap[b3]? = some (.cells #[.int .i64 m.a, .int .i64 m.c] 25 (0, 0)) := hb_below hb (by repeat (first | exact h3 | (refine hb_new ?_; (first | omega | (simp; omega) | (simp; done))) | (refine hb_old ?_ ?_; rotate_left; focus (first | omega | (simp; omega) | (simp; done))) | refine hb_drew ?_)) (by first | omega | (simp; omega) | (simp; done))
  replace h4 : w5.heap[b4]? = some (.cells #[.int .i64 m.b, .int .i64 m.d] 25 (0, 0)) := hb_below hb (by repeat (first | exact h4 | (refine hb_new ?_; (first | omega | (simp; omega) | (simp; done))) | (refine hb_old ?_ ?_; rotate_left; focus (first | omega | (simp; omega) | (simp; done))) | refine hb_drew ?_)) (by first | omega | (simp; omega) | (simp; done))
  have y5 := Below.size hb
  try simp only [World.size_alloc, World.size_drew] at y5
  have D5 := Lib.hid (show Below w.heap.size w w5 from Below.trans (by repeat (first | exact D4.out | exact Below.refl _ _ | refine Below.alloc ?_ (by first | omega | (simp; omega) | (simp; done)) _)) (Below.mono hb (by first | omega | (simp; omega) | (simp; done))))
  have z5 := D5.out.size
  clear hb
  try clear c0_0 f0_0 c0_1 f0_1 c0_2 f0_2
  obtain ⟨c0_0, f0_0, c0_1, f0_1, c0_2, f0_2⟩ := cells3 h0
  try clear c1_0 f1_0 c1_1 f1_1 c1_2 f1_2 c1_3 f1_3
  obtain ⟨c1_0, f1_0, c1_1, f1_1, c1_2, f1_2, c1_3, f1_3⟩ := cells4 h1
  try clear c2_0 f2_0 c2_1 f2_1 c2_2 f2_2
  obtain ⟨c2_0, f2_0, c2_1, f2_1, c2_2, f2_2⟩ := cells3 h2
  try clear c3_0 f3_0 c3_1 f3_1
  obtain ⟨c3_0, f3_0, c3_1, f3_1⟩ := cells2 h3
  try clear c4_0 f4_0 c4_1 f4_1
  obtain ⟨c4_0, f4_0, c4_1, f4_1⟩ := cells2 h4
  go_wp2_with fail
  have q1 := (Below.heap_setCell w5 ⟨w.heap.size + 1 + 1, 0, none⟩ (.int .i64 x) (w.heap.size) (by first | omega | assumption | (apply Ne.symm; assumption) | (simp; done) | (simp; omega))).trans h0
  have q2 := (Below.heap_setCell w5 ⟨w.heap.size + 1 + 1, 0, none⟩ (.int .i64 x) (w.heap.size + 1) (by first | omega | assumption | (apply Ne.symm; assumption) | (simp; done) | (simp; omega))).trans h1
  have q3 := heap_setCell_same w5 (w.heap.size + 1 + 1) 0 _ _ (.int .i64 x) h2
  have q4 := (Below.heap_setCell w5 ⟨w.heap.size + 1 + 1, 0, none⟩ (.int .i64 x) (b3) (by first | omega | assumption | (apply Ne.symm; assumption) | (simp; done) | (simp; omega))).trans h3
  have q5 := (Below.heap_setCell w5 ⟨w.heap.size + 1 + 1, 0, none⟩ (.int .i64 x) (b4) (by first | omega | assumption | (apply Ne.symm; assumption) | (simp; done) | (simp; omega))).trans h4
  have q6 := (Below.heap_setCell (w5.setCell ⟨w.heap.size + 1 + 1, 0, none⟩ (.int .i64 x)) ⟨w.heap.size + 1 + 1, 1, none⟩ (.int .i64 y) (w.heap.size) (by first | omega | assumption | (apply Ne.symm; assumption) | (simp; done) | (simp; omega))).trans q1
  have q7 := (Below.heap_setCell (w5.setCell ⟨w.heap.size + 1 + 1, 0, none⟩ (.int .i64 x)) ⟨w.heap.size + 1 + 1, 1, none⟩ (.int .i64 y) (w.heap.size + 1) (by first | omega | assumption | (apply Ne.symm; assumption) | (simp; done) | (simp; omega))).trans q2
  have q8 := heap_setCell_same (w5.setCell ⟨w.heap.size + 1 + 1, 0, none⟩ (.int .i64 x)) (w.heap.size + 1 + 1) 1 _ _ (.int .i64 y) q3
  have q9 := (Below.heap_setCell (w5.setCell ⟨w.heap.size + 1 + 1, 0, none⟩ (.int .i64 x)) ⟨w.heap.size + 1 + 1, 1, none⟩ (.int .i64 y) (b3) (by first | omega | assumption | (apply Ne.symm; assumption) | (simp; done) | (simp; omega))).trans q4
  have q10 := (Below.heap_setCell (w5.setCell ⟨w.heap.size + 1 + 1, 0, none⟩ (.int .i64 x)) ⟨w.heap.size + 1 + 1, 1, none⟩ (.int .i64 y) (b4) (by first | omega | assumption | (apply Ne.symm; assumption) | (simp; done) | (simp; omega))).trans q5
  have q11 := (Below.heap_setCell ((w5.setCell ⟨w.heap.size + 1 + 1, 0, none⟩ (.int .i64 x)).setCell ⟨w.heap.size + 1 + 1, 1, none⟩ (.int .i64 y)) ⟨w.heap.size + 1 + 1, 2, none⟩ (.int .i64 z) (w.heap.size) (by first | omega | assumption | (apply Ne.symm; assumption) | (simp; done) | (simp; omega))).trans q6
  have q12 := (Below.heap_setCell ((w5.setCell ⟨w.heap.size + 1 + 1, 0, none⟩ (.int .i64 x)).setCell ⟨w.heap.size + 1 + 1, 1, none⟩ (.int .i64 y)) ⟨w.heap.size + 1 + 1, 2, none⟩ (.int .i64 z) (w.heap.size + 1) (by first | omega | assumption | (apply Ne.symm; assumption) | (simp; done) | (simp; omega))).trans q7
  have q13 := heap_setCell_same ((w5.setCell ⟨w.heap.size + 1 + 1, 0, none⟩ (.int .i64 x)).setCell ⟨w.heap.size + 1 + 1, 1, none⟩ (.int .i64 y)) (w.heap.size + 1 + 1) 2 _ _ (.int .i64 z) q8
  have q14 := (Below.heap_setCell ((w5.setCell ⟨w.heap.size + 1 + 1, 0, none⟩ (.int .i64 x)).setCell ⟨w.heap.size + 1 + 1, 1, none⟩ (.int .i64 y)) ⟨w.heap.size + 1 + 1, 2, none⟩ (.int .i64 z) (b3) (by first | omega | assumption | (apply Ne.symm; assumption) | (simp; done) | (simp; omega))).trans q9
  have q15 := (Below.heap_setCell ((w5.setCell ⟨w.heap.size + 1 + 1, 0, none⟩ (.int .i64 x)).setCell ⟨w.heap.size + 1 + 1, 1, none⟩ (.int .i64 y)) ⟨w.heap.size + 1 + 1, 2, none⟩ (.int .i64 z) (b4) (by first | omega | assumption | (apply Ne.symm; assumption) | (simp; done) | (simp; omega))).trans q10
  obtain ⟨w6, hw6⟩ : ∃ W, W = (((w5.setCell ⟨w.heap.size + 1 + 1, 0, none⟩ (.int .i64 x)).setCell ⟨w.heap.size + 1 + 1, 1, none⟩ (.int .i64 y)).setCell ⟨w.heap.size + 1 + 1, 2, none⟩ (.int .i64 z)) := ⟨_, rfl⟩
  rw [← hw6]
  replace h0 : w6.heap[w.heap.size]? = some (.cells #[.int .i64 l.a, .int .i64 l.b, .int .i64 l.c] 23 (0, 0)) := by rw [hw6]; exact q11
  replace h1 : w6.heap[w.heap.size + 1]? = some (.cells #[.int .i64 m.a, .int .i64 m.b, .int .i64 m.c, .int .i64 m.d] 40 (0, 0)) := by rw [hw6]; exact q12
  replace h2 : w6.heap[w.heap.size + 1 + 1]? = some (.cells #[.int .i64 x, .int .i64 y, .int .i64 z] 23 (0, 0)) := by rw [hw6]; exact q13
  replace h3 : w6.heap[b3]? = some (.cells #[.int .i64 m.a, .int .i64 m.c] 25 (0, 0)) := by rw [hw6]; exact q14
  replace h4 : w6.heap[b4]? = some (.cells #[.int .i64 m.b, .int .i64 m.d] 25 (0, 0)) := by rw [hw6]; exact q15
  have D6 := Lib.hid (show Below w.heap.size w w6 by rw [hw6]; exact (Below.setCell (Below.setCell (Below.setCell D5.out (p := ⟨w.heap.size + 1 + 1, 0, none⟩) (by first | omega | (simp; done) | (simp; omega)) (.int .i64 x)) (p := ⟨w.heap.size + 1 + 1, 1, none⟩) (by first | omega | (simp; done) | (simp; omega)) (.int .i64 y)) (p := ⟨w.heap.size + 1 + 1, 2, none⟩) (by first | omega | (simp; done) | (simp; omega)) (.int .i64 z)))
  have z6 := D6.out.size
  have y6 : w6.heap.size = w5.heap.size := by rw [hw6]; simp
  clear q15 q14 q13 q12 q11 q10 q9 q8 q7 q6 q5 q4 q3 q2 q1 hw6
  try clear c0_0 f0_0 c0_1 f0_1 c0_2 f0_2
  obtain ⟨c0_0, f0_0, c0_1, f0_1, c0_2, f0_2⟩ := cells3 h0
  try clear c1_0 f1_0 c1_1 f1_1 c1_2 f1_2 c1_3 f1_3
  obtain ⟨c1_0, f1_0, c1_1, f1_1, c1_2, f1_2, c1_3, f1_3⟩ := cells4 h1
  try clear c2_0 f2_0 c2_1 f2_1 c2_2 f2_2
  obtain ⟨c2_0, f2_0, c2_1, f2_1, c2_2, f2_2⟩ := cells3 h2
  try clear c3_0 f3_0 c3_1 f3_1
  obtain ⟨c3_0, f3_0, c3_1, f3_1⟩ := cells2 h3
  try clear c4_0 f4_0 c4_1 f4_1
  obtain ⟨c4_0, f4_0, c4_1, f4_1⟩ := cells2 h4
  refine bodyPost_ret (results_cell_row rfl _ _ (w.heap.size + 1 + 1) _ _ (0, 0) _ rfl h2 Tryd.underlying23 rfl (by kernel_rfl)) rfl ⟨rfl, D6.out⟩
set_option maxHeartbeats 4000000 in
set_option maxRecDepth 100000 in
theorem reduced_bad (l : Lat) (m : Mat) (hl : okL l = false) (w : World) (g : Glob w) : Calls Tryd.prog 9 #[l.val, m.val] w fun e w' => e = .returned (.bool true) ∧ Below w.heap.size w w' := by
  have HG := Lib.hid g
  clear g
  have C1 := fun W => Reduce_bad l hl W
  have C2 := fun W => Check_any l W
  rw [okL_check hl] at C2
  have C7 := fun W g => awake_any W g
  unfold Lat.val Mat.val at *
  have H1 := Lib.hid C1
  have H2 := Lib.hid C2
  have H7 := Lib.hid C7
  clear C1 C2 C7 hl
  go_enter Tryd.func9, Tryd.ntmps9
  go_wp2_with fail
  refine (H1.out _).mono ?_
  rintro e w1 ⟨rfl, hb⟩
  have h0 : w1.heap[w.heap.size]? = some (.cells #[.int .i64 l.a, .int .i64 l.b, .int .i64 l.c] 23 (0, 0)) := hb_below hb (by repeat (first | (refine hb_new ?_; (first | omega | (simp; omega) | (simp; done))) | (refine hb_old ?_ ?_; rotate_left; focus (first | omega | (simp; omega) | (simp; done))) | refine hb_drew ?_)) (by first | omega | (simp; omega) | (simp; done))
  have h1 : w1.heap[w.heap.size + 1]? = some (.cells #[.int .i64 m.a, .int .i64 m.b, .int .i64 m.c, .int .i64 m.d] 40 (0, 0)) := hb_below hb (by repeat (first | (refine hb_new ?_; (first | omega | (simp; omega) | (simp; done))) | (refine hb_old ?_ ?_; rotate_left; focus (first | omega | (simp; omega) | (simp; done))) | refine hb_drew ?_)) (by first | omega | (simp; omega) | (simp; done))
  have y1 := Below.size hb
  try simp only [World.size_alloc, World.size_drew] at y1
  have D1 := Lib.hid (show Below w.heap.size w w1 from Below.trans (by repeat (first | exact Below.refl _ _ | refine Below.alloc ?_ (by first | omega | (simp; omega) | (simp; done)) _)) (Below.mono hb (by first | omega | (simp; omega) | (simp; done))))
  have z1 := D1.out.size
  clear hb
  try clear c0_0 f0_0 c0_1 f0_1 c0_2 f0_2
  obtain ⟨c0_0, f0_0, c0_1, f0_1, c0_2, f0_2⟩ := cells3 h0
  try clear c1_0 f1_0 c1_1 f1_1 c1_2 f1_2 c1_3 f1_3
  obtain ⟨c1_0, f1_0, c1_1, f1_1, c1_2, f1_2, c1_3, f1_3⟩ := cells4 h1
  have ha0 : ((w1.alloc (.cells #[.int .i64 0, .int .i64 0, .int .i64 0] 23)).alloc (.cells #[.int .i64 0, .int .i64 0, .int .i64 0, .int .i64 0] 40)).heap[w.heap.size]? = some (.cells #[.int .i64 l.a, .int .i64 l.b, .int .i64 l.c] 23 (0, 0)) := (by repeat (first | exact h0 | (refine hb_new ?_; (first | omega | (simp; omega) | (simp; done))) | (refine hb_old ?_ ?_; rotate_left; focus (first | omega | (simp; omega) | (simp; done))) | refine hb_drew ?_))
  obtain ⟨ca0_0, fa0_0, ca0_1, fa0_1, ca0_2, fa0_2⟩ := cells3 ha0
  have ha1 : ((w1.alloc (.cells #[.int .i64 0, .int .i64 0, .int .i64 0] 23)).alloc (.cells #[.int .i64 0, .int .i64 0, .int .i64 0, .int .i64 0] 40)).heap[w.heap.size + 1]? = some (.cells #[.int .i64 m.a, .int .i64 m.b, .int .i64 m.c, .int .i64 m.d] 40 (0, 0)) := (by repeat (first | exact h1 | (refine hb_new ?_; (first | omega | (simp; omega) | (simp; done))) | (refine hb_old ?_ ?_; rotate_left; focus (first | omega | (simp; omega) | (simp; done))) | refine hb_drew ?_))
  obtain ⟨ca1_0, fa1_0, ca1_1, fa1_1, ca1_2, fa1_2, ca1_3, fa1_3⟩ := cells4 ha1
  go_wp2_with fail
  obtain ⟨w2, hw2⟩ : ∃ W, W = ((w1.alloc (.cells #[.int .i64 0, .int .i64 0, .int .i64 0] 23)).alloc (.cells #[.int .i64 0, .int .i64 0, .int .i64 0, .int .i64 0] 40)) := ⟨_, rfl⟩
  rw [← hw2]
  replace h0 : w2.heap[w.heap.size]? = some (.cells #[.int .i64 l.a, .int .i64 l.b, .int .i64 l.c] 23 (0, 0)) := by rw [hw2]; exact (by repeat (first | exact h0 | (refine hb_new ?_; (first | omega | (simp; omega) | (simp; done))) | (refine hb_old ?_ ?_; rotate_left; focus (first | omega | (simp; omega) | (simp; done))) | refine hb_drew ?_))
  replace h1 : w2.heap[w.heap.size + 1]? = some (.cells #[.int .i64 m.a, .int .i64 m.b, .int .i64 m.c, .int .i64 m.d] 40 (0, 0)) := by rw [hw2]; exact (by repeat (first | exact h1 | (refine hb_new ?_; (first | omega | (simp; omega) | (simp; done))) | (refine hb_old ?_ ?_; rotate_left; focus (first | omega | (simp; omega) | (simp; done))) | refine hb_drew ?_))
  have h2 : w2.heap[w1.heap.size]? = some (.cells #[.int .i64 0, .int .i64 0, .int .i64 0] 23 (0, 0)) := by rw [hw2]; exact (by repeat (first | (refine hb_new ?_; (first | omega | (simp; omega) | (simp; done))) | (refine hb_old ?_ ?_; rotate_left; focus (first | omega | (simp; omega) | (simp; done))) | refine hb_drew ?_))
  have h3 : w2.heap[w1.heap.size + 1]? = some (.cells #[.int .i64 0, .int .i64 0, .int .i64 0, .int .i64 0] 40 (0, 0)) := by rw [hw2]; exact (by repeat (first | (refine hb_new ?_; (first | omega | (simp; omega) | (simp; done))) | (refine hb_old ?_ ?_; rotate_left; focus (first | omega | (simp; omega) | (simp; done))) | refine hb_drew ?_))
  have hb : Below w1.heap.size w1 w2 := by rw [hw2]; exact (by repeat (first | exact Below.refl _ _ | refine Below.alloc ?_ (by first | omega | (simp; omega) | (simp; done)) _ | refine Below.drew ?_))
  have s2 : w1.heap.size + 1 + 1 ≤ w2.heap.size := by rw [hw2]; simp
  have y2 := Below.size hb
  try simp only [World.size_alloc, World.size_drew] at y2
  have D2 := Lib.hid (show Below w.heap.size w w2 from Below.trans (by repeat (first | exact D1.out | exact Below.refl _ _ | refine Below.alloc ?_ (by first | omega | (simp; omega) | (simp; done)) _)) (Below.mono hb (by first | omega | (simp; omega) | (simp; done))))
  have z2 := D2.out.size
  clear hb hw2
  try clear c0_0 f0_0 c0_1 f0_1 c0_2 f0_2
  obtain ⟨c0_0, f0_0, c0_1, f0_1, c0_2, f0_2⟩ := cells3 h0
  try clear c1_0 f1_0 c1_1 f1_1 c1_2 f1_2 c1_3 f1_3
  obtain ⟨c1_0, f1_0, c1_1, f1_1, c1_2, f1_2, c1_3, f1_3⟩ := cells4 h1
  try clear c2_0 f2_0 c2_1 f2_1 c2_2 f2_2
  obtain ⟨c2_0, f2_0, c2_1, f2_1, c2_2, f2_2⟩ := cells3 h2
  try clear c3_0 f3_0 c3_1 f3_1 c3_2 f3_2 c3_3 f3_3
  obtain ⟨c3_0, f3_0, c3_1, f3_1, c3_2, f3_2, c3_3, f3_3⟩ := cells4 h3
  clear ha0 ca0_0 fa0_0 ca0_1 fa0_1 ca0_2 fa0_2
  clear ha1 ca1_0 fa1_0 ca1_1 fa1_1 ca1_2 fa1_2 ca1_3 fa1_3
  refine (H2.out _).mono ?_
  rintro e w3 ⟨rfl, hb⟩
  replace h0 : w3.heap[w.heap.size]? = some (.cells #[.int .i64 l.a, .int .i64 l.b, .int .i64 l.c] 23 (0, 0)) := hb_below hb (by repeat (first | exact h0 | (refine hb_new ?_; (first | omega | (simp; omega) | (simp; done))) | (refine hb_old ?_ ?_; rotate_left; focus (first | omega | (simp; omega) | (simp; done))) | refine hb_drew ?_)) (by first | omega | (simp; omega) | (simp; done))
  replace h1 : w3.heap[w.heap.size + 1]? = some (.cells #[.int .i64 m.a, .int .i64 m.b, .int .i64 m.c, .int .i64 m.d] 40 (0, 0)) := hb_below hb (by repeat (first | exact h1 | (refine hb_new ?_; (first | omega | (simp; omega) | (simp; done))) | (refine hb_old ?_ ?_; rotate_left; focus (first | omega | (simp; omega) | (simp; done))) | refine hb_drew ?_)) (by first | omega | (simp; omega) | (simp; done))
  replace h2 : w3.heap[w1.heap.size]? = some (.cells #[.int .i64 0, .int .i64 0, .int .i64 0] 23 (0, 0)) := hb_below hb (by repeat (first | exact h2 | (refine hb_new ?_; (first | omega | (simp; omega) | (simp; done))) | (refine hb_old ?_ ?_; rotate_left; focus (first | omega | (simp; omega) | (simp; done))) | refine hb_drew ?_)) (by first | omega | (simp; omega) | (simp; done))
  replace h3 : w3.heap[w1.heap.size + 1]? = some (.cells #[.int .i64 0, .int .i64 0, .int .i64 0, .int .i64 0] 40 (0, 0)) := hb_below hb (by repeat (first | exact h3 | (refine hb_new ?_; (first | omega | (simp; omega) | (simp; done))) | (refine hb_old ?_ ?_; rotate_left; focus (first | omega | (simp; omega) | (simp; done))) | refine hb_drew ?_)) (by first | omega | (simp; omega) | (simp; done))
  have y3 := Below.size hb
  try simp only [World.size_alloc, World.size_drew] at y3
  have D3 := Lib.hid (show Below w.heap.size w w3 from Below.trans (by repeat (first | exact D2.out | exact Below.refl _ _ | refine Below.alloc ?_ (by first | omega | (simp; omega) | (simp; done)) _)) (Below.mono hb (by first | omega | (simp; omega) | (simp; done))))
  have z3 := D3.out.size
  clear hb
  try clear c0_0 f0_0 c0_1 f0_1 c0_2 f0_2
  obtain ⟨c0_0, f0_0, c0_1, f0_1, c0_2, f0_2⟩ := cells3 h0
  try clear c1_0 f1_0 c1_1 f1_1 c1_2 f1_2 c1_3 f1_3
  obtain ⟨c1_0, f1_0, c1_1, f1_1, c1_2, f1_2, c1_3, f1_3⟩ := cells4 h1
  try clear c2_0 f2_0 c2_1 f2_1 c2_2 f2_2
  obtain ⟨c2_0, f2_0, c2_1, f2_1, c2_2, f2_2⟩ := cells3 h2
  try clear c3_0 f3_0 c3_1 f3_1 c3_2 f3_2 c3_3 f3_3
  obtain ⟨c3_0, f3_0, c3_1, f3_1, c3_2, f3_2, c3_3, f3_3⟩ := cells4 h3
  go_wp2_with fail
  refine (H7.out _ (HG.out.next (Below.trans D3.out (by repeat (first | exact Below.refl _ _ | refine Below.alloc ?_ (by first | omega | (simp; omega) | (simp; done)) _))))).mono ?_
  rintro e w4 ⟨rfl, hb⟩
  replace h0 : w4.heap[w.heap.size]? = some (.cells #[.int .i64 l.a, .int .i64 l.b, .int .i64 l.c] 23 (0, 0)) := hb_below hb (by repeat (first | exact h0 | (refine hb_new ?_; (first | omega | (simp; omega) | (simp; done))) | (refine hb_old ?_ ?_; rotate_left; focus (first | omega | (simp; omega) | (simp; done))) | refine hb_drew ?_)) (by first | omega | (simp; omega) | (simp; done))
  replace h1 : w4.heap[w.heap.size + 1]? = some (.cells #[.int .i64 m.a, .int .i64 m.b, .int .i64 m.c, .int .i64 m.d] 40 (0, 0)) := hb_below hb (by repeat (first | exact h1 | (refine hb_new ?_; (first | omega | (simp; omega) | (simp; done))) | (refine hb_old ?_ ?_; rotate_left; focus (first | omega | (simp; omega) | (simp; done))) | refine hb_drew ?_)) (by first | omega | (simp; omega) | (simp; done))
  replace h2 : w4.heap[w1.heap.size]? = some (.cells #[.int .i64 0, .int .i64 0, .int .i64 0] 23 (0, 0)) := hb_below hb (by repeat (first | exact h2 | (refine hb_new ?_; (first | omega | (simp; omega) | (simp; done))) | (refine hb_old ?_ ?_; rotate_left; focus (first | omega | (simp; omega) | (simp; done))) | refine hb_drew ?_)) (by first | omega | (simp; omega) | (simp; done))
  replace h3 : w4.heap[w1.heap.size + 1]? = some (.cells #[.int .i64 0, .int .i64 0, .int .i64 0, .int .i64 0] 40 (0, 0)) := hb_below hb (by repeat (first | exact h3 | (refine hb_new ?_; (first | omega | (simp; omega) | (simp; done))) | (refine hb_old ?_ ?_; rotate_left; focus (first | omega | (simp; omega) | (simp; done))) | refine hb_drew ?_)) (by first | omega | (simp; omega) | (simp; done))
  have y4 := Below.size hb
  try simp only [World.size_alloc, World.size_drew] at y4
  have D4 := Lib.hid (show Below w.heap.size w w4 from Below.trans (by repeat (first | exact D3.out | exact Below.refl _ _ | refine Below.alloc ?_ (by first | omega | (simp; omega) | (simp; done)) _)) (Below.mono hb (by first | omega | (simp; omega) | (simp; done))))
  have z4 := D4.out.size
  clear hb
  try clear c0_0 f0_0 c0_1 f0_1 c0_2 f0_2
  obtain ⟨c0_0, f0_0, c0_1, f0_1, c0_2, f0_2⟩ := cells3 h0
  try clear c1_0 f1_0 c1_1 f1_1 c1_2 f1_2 c1_3 f1_3
  obtain ⟨c1_0, f1_0, c1_1, f1_1, c1_2, f1_2, c1_3, f1_3⟩ := cells4 h1
  try clear c2_0 f2_0 c2_1 f2_1 c2_2 f2_2
  obtain ⟨c2_0, f2_0, c2_1, f2_1, c2_2, f2_2⟩ := cells3 h2
  try clear c3_0 f3_0 c3_1 f3_1 c3_2 f3_2 c3_3 f3_3
  obtain ⟨c3_0, f3_0, c3_1, f3_1, c3_2, f3_2, c3_3, f3_3⟩ := cells4 h3
  go_wp2_with fail
  go_ret
  exact ⟨by first | rfl | (simp [*]; done) | (simp; omega), D4.out⟩
attribute [local irreducible] wpQuiet
set_option maxHeartbeats 4000000 in
set_option maxRecDepth 100000 in
theorem reduced_okl (l : Lat) (m : Mat) (hl : Ok l) (w : World) (g : Glob w) : Calls Tryd.prog 9 #[l.val, m.val] w fun e w' => e = .returned (.bool true) ∧ Below w.heap.size w w' := by
  have HG := Lib.hid g
  clear g
  have C1 := fun W g => Reduce_ok l hl W g
  have C7 := fun W g => awake_any W g
  have Hl := Lib.hid hl
  obtain ⟨ka, hka⟩ : ∃ x, m.a.tmod 4 = x := ⟨_, rfl⟩
  obtain ⟨kb, hkb⟩ : ∃ x, m.b.tmod 4 = x := ⟨_, rfl⟩
  obtain ⟨kc, hkc⟩ : ∃ x, m.c.tmod 4 = x := ⟨_, rfl⟩
  obtain ⟨kd, hkd⟩ : ∃ x, m.d.tmod 4 = x := ⟨_, rfl⟩
  have ra := four_rng m.a
  have rb := four_rng m.b
  have rc := four_rng m.c
  have rd := four_rng m.d
  rw [hka] at ra
  rw [hkb] at rb
  rw [hkc] at rc
  rw [hkd] at rd
  have hmk : Mok ⟨ka, kb, kc, kd⟩ := by unfold Mok; dsimp only; omega
  have C5 := fun W => lMat_any ka kb kc kd W
  have C6 := fun W => llead_any l ⟨ka, kb, kc, kd⟩ hl hmk W
  have C8 := fun W => Check_any (led l ⟨ka, kb, kc, kd⟩) W
  have C9 := fun (h : okL (led l ⟨ka, kb, kc, kd⟩) = true) W g => Reduce_ok (led l ⟨ka, kb, kc, kd⟩) ((okL_iff _).1 h) W g
  have ed : wrap64 (wrap64 (ka * kd) - wrap64 (kb * kc)) = Mat.det ⟨ka, kb, kc, kd⟩ := by
    have := det_mok hmk
    rw [wrap64_sl, wrap64_sr]; exact this
  have hsame := fun (L S : Lat) (x y : Mat) hL hS ux uy eL eS um => red_same (l := l) (L := L) (S := S) (m := ⟨ka, kb, kc, kd⟩) (x := x) (y := y) hL hS um ux uy eL eS
  have hun : Unit1 ⟨ka, kb, kc, kd⟩ ↔ (Mat.det ⟨ka, kb, kc, kd⟩ = 1 ∨ Mat.det ⟨ka, kb, kc, kd⟩ = -1) := Iff.rfl
  generalize led l ⟨ka, kb, kc, kd⟩ = ol at *
  generalize Mat.det ⟨ka, kb, kc, kd⟩ = kdet at *
  clear hmk ra rb rc rd hl
  unfold Lat.val Mat.val at *
  have HM := Lib.hid hsame
  have HU := Lib.hid hun
  have H1 := Lib.hid C1
  have H5 := Lib.hid C5
  have H6 := Lib.hid C6
  have H7 := Lib.hid C7
  have H8 := Lib.hid C8
  have H9 := Lib.hid C9
  clear C1 C5 C6 C7 C8 C9 hsame hun
  go_enter Tryd.func9, Tryd.ntmps9
  go_wp2_with fail
  refine (H1.out _ (HG.out.next (by repeat (first | exact Below.refl _ _ | refine Below.alloc ?_ (by first | omega | (simp; omega) | (simp; done)) _)))).mono ?_
  rintro e w1 ⟨L, x, rfl, hR, hb⟩
  have h0 : w1.heap[w.heap.size]? = some (.cells #[.int .i64 l.a, .int .i64 l.b, .int .i64 l.c] 23 (0, 0)) := hb_below hb (by repeat (first | (refine hb_new ?_; (first | omega | (simp; omega) | (simp; done))) | (refine hb_old ?_ ?_; rotate_left; focus (first | omega | (simp; omega) | (simp; done))) | refine hb_drew ?_)) (by first | omega | (simp; omega) | (simp; done))
  have h1 : w1.heap[w.heap.size + 1]? = some (.cells #[.int .i64 m.a, .int .i64 m.b, .int .i64 m.c, .int .i64 m.d] 40 (0, 0)) := hb_below hb (by repeat (first | (refine hb_new ?_; (first | omega | (simp; omega) | (simp; done))) | (refine hb_old ?_ ?_; rotate_left; focus (first | omega | (simp; omega) | (simp; done))) | refine hb_drew ?_)) (by first | omega | (simp; omega) | (simp; done))
  have y1 := Below.size hb
  try simp only [World.size_alloc, World.size_drew] at y1
  have D1 := Lib.hid (show Below w.heap.size w w1 from Below.trans (by repeat (first | exact Below.refl _ _ | refine Below.alloc ?_ (by first | omega | (simp; omega) | (simp; done)) _)) (Below.mono hb (by first | omega | (simp; omega) | (simp; done))))
  have z1 := D1.out.size
  clear hb
  try clear c0_0 f0_0 c0_1 f0_1 c0_2 f0_2
  obtain ⟨c0_0, f0_0, c0_1, f0_1, c0_2, f0_2⟩ := cells3 h0
  try clear c1_0 f1_0 c1_1 f1_1 c1_2 f1_2 c1_3 f1_3
  obtain ⟨c1_0, f1_0, c1_1, f1_1, c1_2, f1_2, c1_3, f1_3⟩ := cells4 h1
  have HR := Lib.hid hR
  obtain ⟨⟨r1, r2, r3, r4⟩, hLo, ux, hxo, ex, _⟩ := hR
  have C2 := fun W => Check_any L W
  rw [show errIf (okL L) = 0 by rw [(okL_iff L).2 hLo]; rfl] at C2
  have C3 := fun W => rMatrix_any x W
  rw [(okM_iff x).2 hxo] at C3
  have C4 := fun W => llead_any l x Hl.out hxo W
  rw [ex] at C4
  have ed2 : wrap64 (wrap64 (x.a * x.d) - wrap64 (x.b * x.c)) = x.det := by
    have := det_mok hxo
    rw [wrap64_sl, wrap64_sr]; exact this
  have eb : wrap64 (2 * L.b) = 2 * L.b := wrap64_id (by obtain ⟨h1, h2, h3, h4, h5, h6, _⟩ := hLo; omega)
  have eb2 : IntKind.i64.wrap (2 * L.b) = 2 * L.b := IntWalk.i64_in _ (by obtain ⟨h1, h2, h3, h4, h5, h6, _⟩ := hLo; omega)
  have n1 : ¬ L.b < 0 := by omega
  have n2 : ¬ L.a < 2 * L.b := by omega
  have n3 : ¬ L.c < L.a := by omega
  unfold Unit1 at ux
  generalize hxd : x.det = xd at *
  unfold Lat.val at C2
  unfold Mat.val at C3
  unfold Lat.val Mat.val at C4
  have H2 := Lib.hid C2
  have H3 := Lib.hid C3
  have H4 := Lib.hid C4
  clear C2 C3 C4 hxo ex hLo hxd r1 r2 r3 r4
  have ha0 : ((w1.alloc (.cells #[.int .i64 L.a, .int .i64 L.b, .int .i64 L.c] 23)).alloc (.cells #[.int .i64 x.a, .int .i64 x.b, .int .i64 x.c, .int .i64 x.d] 40)).heap[w.heap.size]? = some (.cells #[.int .i64 l.a, .int .i64 l.b, .int .i64 l.c] 23 (0, 0)) := (by repeat (first | exact h0 | (refine hb_new ?_; (first | omega | (simp; omega) | (simp; done))) | (refine hb_old ?_ ?_; rotate_left; focus (first | omega | (simp; omega) | (simp; done))) | refine hb_drew ?_))
  obtain ⟨ca0_0, fa0_0, ca0_1, fa0_1, ca0_2, fa0_2⟩ := cells3 ha0
  have ha1 : ((w1.alloc (.cells #[.int .i64 L.a, .int .i64 L.b, .int .i64 L.c] 23)).alloc (.cells #[.int .i64 x.a, .int .i64 x.b, .int .i64 x.c, .int .i64 x.d] 40)).heap[w.heap.size + 1]? = some (.cells #[.int .i64 m.a, .int .i64 m.b, .int .i64 m.c, .int .i64 m.d] 40 (0, 0)) := (by repeat (first | exact h1 | (refine hb_new ?_; (first | omega | (simp; omega) | (simp; done))) | (refine hb_old ?_ ?_; rotate_left; focus (first | omega | (simp; omega) | (simp; done))) | refine hb_drew ?_))
  obtain ⟨ca1_0, fa1_0, ca1_1, fa1_1, ca1_2, fa1_2, ca1_3, fa1_3⟩ := cells4 ha1
  go_wp2_with fail
  obtain ⟨w2, hw2⟩ : ∃ W, W = ((w1.alloc (.cells #[.int .i64 L.a, .int .i64 L.b, .int .i64 L.c] 23)).alloc (.cells #[.int .i64 x.a, .int .i64 x.b, .int .i64 x.c, .int .i64 x.d] 40)) := ⟨_, rfl⟩
  rw [← hw2]
  replace h0 : w2.heap[w.heap.size]? = some (.cells #[.int .i64 l.a, .int .i64 l.b, .int .i64 l.c] 23 (0, 0)) := by rw [hw2]; exact (by repeat (first | exact h0 | (refine hb_new ?_; (first | omega | (simp; omega) | (simp; done))) | (refine hb_old ?_ ?_; rotate_left; focus (first | omega | (simp; omega) | (simp; done))) | refine hb_drew ?_))
  replace h1 : w2.heap[w.heap.size + 1]? = some (.cells #[.int .i64 m.a, .int .i64 m.b, .int .i64 m.c, .int .i64 m.d] 40 (0, 0)) := by rw [hw2]; exact (by repeat (first | exact h1 | (refine hb_new ?_; (first | omega | (simp; omega) | (simp; done))) | (refine hb_old ?_ ?_; rotate_left; focus (first | omega | (simp; omega) | (simp; done))) | refine hb_drew ?_))
  have h2 : w2.heap[w1.heap.size]? = some (.cells #[.int .i64 L.a, .int .i64 L.b, .int .i64 L.c] 23 (0, 0)) := by rw [hw2]; exact (by repeat (first | (refine hb_new ?_; (first | omega | (simp; omega) | (simp; done))) | (refine hb_old ?_ ?_; rotate_left; focus (first | omega | (simp; omega) | (simp; done))) | refine hb_drew ?_))
  have h3 : w2.heap[w1.heap.size + 1]? = some (.cells #[.int .i64 x.a, .int .i64 x.b, .int .i64 x.c, .int .i64 x.d] 40 (0, 0)) := by rw [hw2]; exact (by repeat (first | (refine hb_new ?_; (first | omega | (simp; omega) | (simp; done))) | (refine hb_old ?_ ?_; rotate_left; focus (first | omega | (simp; omega) | (simp; done))) | refine hb_drew ?_))
  have hb : Below w1.heap.size w1 w2 := by rw [hw2]; exact (by repeat (first | exact Below.refl _ _ | refine Below.alloc ?_ (by first | omega | (simp; omega) | (simp; done)) _ | refine Below.drew ?_))
  have s2 : w1.heap.size + 1 + 1 ≤ w2.heap.size := by rw [hw2]; simp
  have y2 := Below.size hb
  try simp only [World.size_alloc, World.size_drew] at y2
  have D2 := Lib.hid (show Below w.heap.size w w2 from Below.trans (by repeat (first | exact D1.out | exact Below.refl _ _ | refine Below.alloc ?_ (by first | omega | (simp; omega) | (simp; done)) _)) (Below.mono hb (by first | omega | (simp; omega) | (simp; done))))
  have z2 := D2.out.size
  clear hb hw2
  try clear c0_0 f0_0 c0_1 f0_1 c0_2 f0_2
  obtain ⟨c0_0, f0_0, c0_1, f0_1, c0_2, f0_2⟩ := cells3 h0
  try clear c1_0 f1_0 c1_1 f1_1 c1_2 f1_2 c1_3 f1_3
  obtain ⟨c1_0, f1_0, c1_1, f1_1, c1_2, f1_2, c1_3, f1_3⟩ := cells4 h1
  try clear c2_0 f2_0 c2_1 f2_1 c2_2 f2_2
  obtain ⟨c2_0, f2_0, c2_1, f2_1, c2_2, f2_2⟩ := cells3 h2
  try clear c3_0 f3_0 c3_1 f3_1 c3_2 f3_2 c3_3 f3_3
  obtain ⟨c3_0, f3_0, c3_1, f3_1, c3_2, f3_2, c3_3, f3_3⟩ := cells4 h3
  clear ha0 ca0_0 ha1 ca1_0
  try clear c0_0 f0_0 c0_1 f0_1 c0_2 f0_2
  try clear c1_0 f1_0 c1_1 f1_1 c1_2 f1_2 c1_3 f1_3
  try clear c2_0 f2_0 c2_1 f2_1 c2_2 f2_2
  try clear c3_0 f3_0 c3_1 f3_1 c3_2 f3_2 c3_3 f3_3
  refine wp_region_class (fun w' => Below w2.heap.size w2 w') 34 (by kernel_rfl) (by kernel_rfl) (Below.refl _ w2).drew ?_
  simp only [List.take_succ_cons, List.take_zero, List.drop_succ_cons, List.drop_zero]
  refine quiet_load_mid rfl _ _ rfl _ _ rfl [.int .i64 L.a, .int .i64 L.b, .int .i64 L.c] _ (fun w' h => range_of_heap (hb_below h h2 (by first | omega | (simp; omega) | (simp; done)))) Tryd.underlying23 rfl (by kernel_rfl) ?_
  simp only [Act.put, List.setIfInBounds_toArray, List.set_cons_zero, List.set_cons_succ]
  refine quiet_call rfl 17 _ _ rfl (enter_of Tryd.func17 (by decide) (by intro h; cases h)) _ (in_class_b H2.out) ?_
  simp only [Act.put, List.setIfInBounds_toArray, List.set_cons_zero, List.set_cons_succ]
  refine quiet_still rfl (.bool false) (fun w _ => by go_simp) ?_
  simp only [Act.put, List.setIfInBounds_toArray, List.set_cons_zero, List.set_cons_succ]
  refine quiet_moveV rfl _ rfl (.bool false) rfl ?_
  simp only [Act.put, List.setIfInBounds_toArray, List.set_cons_zero, List.set_cons_succ]
  refine quietW_still (by kernel_rfl) _ (fun w _ => by go_simp; rfl) ?_
  simp only [Act.put, List.setIfInBounds_toArray, List.set_cons_zero, List.set_cons_succ]
  refine quietW_load1 (by kernel_rfl) _ _ rfl _ (by first | rfl | (go_simp; rfl)) _ (load_i64 _ _) (fun w' h => cell_of_heap (hb_below h h2 (by first | omega | (simp; omega) | (simp; done))) (j := 1) rfl) ?_
  simp only [Act.put, List.setIfInBounds_toArray, List.set_cons_zero, List.set_cons_succ]
  refine quietW_still (by kernel_rfl) (.bool false) (fun w _ => by first | (go_simp; done) | (go_simp; simp; omega) | (go_simp; omega)) ?_
  simp only [Act.put, List.setIfInBounds_toArray, List.set_cons_zero, List.set_cons_succ]
  refine quiet_still rfl (.bool false) (fun w _ => by go_simp) ?_
  simp only [Act.put, List.setIfInBounds_toArray, List.set_cons_zero, List.set_cons_succ]
  refine quiet_moveV rfl _ rfl (.bool false) rfl ?_
  simp only [Act.put, List.setIfInBounds_toArray, List.set_cons_zero, List.set_cons_succ]
  refine quietW_still (by kernel_rfl) _ (fun w _ => by go_simp; rfl) ?_
  simp only [Act.put, List.setIfInBounds_toArray, List.set_cons_zero, List.set_cons_succ]
  refine quietW_load1 (by kernel_rfl) _ _ rfl _ (by first | rfl | (go_simp; rfl)) _ (load_i64 _ _) (fun w' h => cell_of_heap (hb_below h h2 (by first | omega | (simp; omega) | (simp; done))) (j := 1) rfl) ?_
  simp only [Act.put, List.setIfInBounds_toArray, List.set_cons_zero, List.set_cons_succ]
  refine quietW_still (by kernel_rfl) (.int .i64 (2 * L.b)) (fun w _ => by first | (go_simp; done) | (go_simp; exact eb2)) ?_
  simp only [Act.put, List.setIfInBounds_toArray, List.set_cons_zero, List.set_cons_succ]
  refine quietW_still (by kernel_rfl) _ (fun w _ => by go_simp; rfl) ?_
  simp only [Act.put, List.setIfInBounds_toArray, List.set_cons_zero, List.set_cons_succ]
  refine quietW_load1 (by kernel_rfl) _ _ rfl _ (by first | rfl | (go_simp; rfl)) _ (load_i64 _ _) (fun w' h => cell_of_heap (hb_below h h2 (by first | omega | (simp; omega) | (simp; done))) (j := 0) rfl) ?_
  simp only [Act.put, List.setIfInBounds_toArray, List.set_cons_zero, List.set_cons_succ]
  refine quietW_still (by kernel_rfl) (.bool false) (fun w _ => by first | (go_simp; done) | (go_simp; simp; omega) | (go_simp; omega)) ?_
  simp only [Act.put, List.setIfInBounds_toArray, List.set_cons_zero, List.set_cons_succ]
  refine quiet_still rfl (.bool false) (fun w _ => by go_simp) ?_
  simp only [Act.put, List.setIfInBounds_toArray, List.set_cons_zero, List.set_cons_succ]
  refine quiet_moveV rfl _ rfl (.bool false) rfl ?_
  simp only [Act.put, List.setIfInBounds_toArray, List.set_cons_zero, List.set_cons_succ]
  refine quietW_still (by kernel_rfl) _ (fun w _ => by go_simp; rfl) ?_
  simp only [Act.put, List.setIfInBounds_toArray, List.set_cons_zero, List.set_cons_succ]
  refine quietW_load1 (by kernel_rfl) _ _ rfl _ (by first | rfl | (go_simp; rfl)) _ (load_i64 _ _) (fun w' h => cell_of_heap (hb_below h h2 (by first | omega | (simp; omega) | (simp; done))) (j := 0) rfl) ?_
  simp only [Act.put, List.setIfInBounds_toArray, List.set_cons_zero, List.set_cons_succ]
  refine quietW_still (by kernel_rfl) _ (fun w _ => by go_simp; rfl) ?_
  simp only [Act.put, List.setIfInBounds_toArray, List.set_cons_zero, List.set_cons_succ]
  refine quietW_load1 (by kernel_rfl) _ _ rfl _ (by first | rfl | (go_simp; rfl)) _ (load_i64 _ _) (fun w' h => cell_of_heap (hb_below h h2 (by first | omega | (simp; omega) | (simp; done))) (j := 2) rfl) ?_
  simp only [Act.put, List.setIfInBounds_toArray, List.set_cons_zero, List.set_cons_succ]
  refine quietW_still (by kernel_rfl) (.bool false) (fun w _ => by first | (go_simp; done) | (go_simp; simp; omega) | (go_simp; omega)) ?_
  simp only [Act.put, List.setIfInBounds_toArray, List.set_cons_zero, List.set_cons_succ]
  refine quiet_still rfl (.bool false) (fun w _ => by go_simp) ?_
  simp only [Act.put, List.setIfInBounds_toArray, List.set_cons_zero, List.set_cons_succ]
  refine quiet_moveV rfl _ rfl (.bool false) rfl ?_
  simp only [Act.put, List.setIfInBounds_toArray, List.set_cons_zero, List.set_cons_succ]
  refine quietW_load_mid (by kernel_rfl) _ _ rfl _ _ rfl [.int .i64 x.a, .int .i64 x.b, .int .i64 x.c, .int .i64 x.d] _ (fun w' h => range_of_heap (hb_below h h3 (by first | omega | (simp; omega) | (simp; done)))) Tryd.underlying40 rfl (by kernel_rfl) ?_
  simp only [Act.put, List.setIfInBounds_toArray, List.set_cons_zero, List.set_cons_succ]
  refine quietW_call (by kernel_rfl) 40 _ _ rfl (enter_of Tryd.func40 (by decide) (by intro h; cases h)) _ (in_class_b H3.out) ?_
  simp only [Act.put, List.setIfInBounds_toArray, List.set_cons_zero, List.set_cons_succ]
  refine quietW_still (by kernel_rfl) (.bool false) (fun w _ => by go_simp) ?_
  simp only [Act.put, List.setIfInBounds_toArray, List.set_cons_zero, List.set_cons_succ]
  refine quiet_still rfl (.bool false) (fun w _ => by go_simp) ?_
  simp only [Act.put, List.setIfInBounds_toArray, List.set_cons_zero, List.set_cons_succ]
  refine quiet_moveV rfl _ rfl (.bool false) rfl ?_
  simp only [Act.put, List.setIfInBounds_toArray, List.set_cons_zero, List.set_cons_succ]
  refine quietW_load_mid (by kernel_rfl) _ _ rfl _ _ rfl [.int .i64 l.a, .int .i64 l.b, .int .i64 l.c] _ (fun w' h => range_of_heap (hb_below h h0 (by first | omega | (simp; omega) | (simp; done)))) Tryd.underlying23 rfl (by kernel_rfl) ?_
  simp only [Act.put, List.setIfInBounds_toArray, List.set_cons_zero, List.set_cons_succ]
  refine quietW_load_mid (by kernel_rfl) _ _ rfl _ _ rfl [.int .i64 x.a, .int .i64 x.b, .int .i64 x.c, .int .i64 x.d] _ (fun w' h => range_of_heap (hb_below h h3 (by first | omega | (simp; omega) | (simp; done)))) Tryd.underlying40 rfl (by kernel_rfl) ?_
  simp only [Act.put, List.setIfInBounds_toArray, List.set_cons_zero, List.set_cons_succ]
  refine quietW_call (by kernel_rfl) 43 _ _ rfl (enter_of Tryd.func43 (by decide) (by intro h; cases h)) _ (in_class_b H4.out) ?_
  simp only [Act.put, List.setIfInBounds_toArray, List.set_cons_zero, List.set_cons_succ]
  refine quietW_load_mid (by kernel_rfl) _ _ rfl _ _ rfl [.int .i64 L.a, .int .i64 L.b, .int .i64 L.c] _ (fun w' h => range_of_heap (hb_below h h2 (by first | omega | (simp; omega) | (simp; done)))) Tryd.underlying23 rfl (by kernel_rfl) ?_
  simp only [Act.put, List.setIfInBounds_toArray, List.set_cons_zero, List.set_cons_succ]
  refine quietW_still (by kernel_rfl) (.bool false) (fun w _ => by go_simp) ?_
  simp only [Act.put, List.setIfInBounds_toArray, List.set_cons_zero, List.set_cons_succ]
  unfold wpQuiet
  intro w3 hb
  replace h0 : w3.heap[w.heap.size]? = some (.cells #[.int .i64 l.a, .int .i64 l.b, .int .i64 l.c] 23 (0, 0)) := hb_below hb (by repeat (first | exact h0 | (refine hb_new ?_; (first | omega | (simp; omega) | (simp; done))) | (refine hb_old ?_ ?_; rotate_left; focus (first | omega | (simp; omega) | (simp; done))) | refine hb_drew ?_)) (by first | omega | (simp; omega) | (simp; done))
  replace h1 : w3.heap[w.heap.size + 1]? = some (.cells #[.int .i64 m.a, .int .i64 m.b, .int .i64 m.c, .int .i64 m.d] 40 (0, 0)) := hb_below hb (by repeat (first | exact h1 | (refine hb_new ?_; (first | omega | (simp; omega) | (simp; done))) | (refine hb_old ?_ ?_; rotate_left; focus (first | omega | (simp; omega) | (simp; done))) | refine hb_drew ?_)) (by first | omega | (simp; omega) | (simp; done))
  replace h2 : w3.heap[w1.heap.size]? = some (.cells #[.int .i64 L.a, .int .i64 L.b, .int .i64 L.c] 23 (0, 0)) := hb_below hb (by repeat (first | exact h2 | (refine hb_new ?_; (first | omega | (simp; omega) | (simp; done))) | (refine hb_old ?_ ?_; rotate_left; focus (first | omega | (simp; omega) | (simp; done))) | refine hb_drew ?_)) (by first | omega | (simp; omega) | (simp; done))
  replace h3 : w3.heap[w1.heap.size + 1]? = some (.cells #[.int .i64 x.a, .int .i64 x.b, .int .i64 x.c, .int .i64 x.d] 40 (0, 0)) := hb_below hb (by repeat (first | exact h3 | (refine hb_new ?_; (first | omega | (simp; omega) | (simp; done))) | (refine hb_old ?_ ?_; rotate_left; focus (first | omega | (simp; omega) | (simp; done))) | refine hb_drew ?_)) (by first | omega | (simp; omega) | (simp; done))
  have y3 := Below.size hb
  try simp only [World.size_alloc, World.size_drew] at y3
  have D3 := Lib.hid (show Below w.heap.size w w3 from Below.trans (by repeat (first | exact D2.out | exact Below.refl _ _ | refine Below.alloc ?_ (by first | omega | (simp; omega) | (simp; done)) _)) (Below.mono hb (by first | omega | (simp; omega) | (simp; done))))
  have z3 := D3.out.size
  clear hb
  try clear c0_0 f0_0 c0_1 f0_1 c0_2 f0_2
  obtain ⟨c0_0, f0_0, c0_1, f0_1, c0_2, f0_2⟩ := cells3 h0
  try clear c1_0 f1_0 c1_1 f1_1 c1_2 f1_2 c1_3 f1_3
  obtain ⟨c1_0, f1_0, c1_1, f1_1, c1_2, f1_2, c1_3, f1_3⟩ := cells4 h1
  try clear c2_0 f2_0 c2_1 f2_1 c2_2 f2_2
  obtain ⟨c2_0, f2_0, c2_1, f2_1, c2_2, f2_2⟩ := cells3 h2
  try clear c3_0 f3_0 c3_1 f3_1 c3_2 f3_2 c3_3 f3_3
  obtain ⟨c3_0, f3_0, c3_1, f3_1, c3_2, f3_2, c3_3, f3_3⟩ := cells4 h3
  rcases ux with ux | ux <;> subst ux
  all_goals (
    go_wp2_with fail
    refine (H5.out _).mono ?_
    rintro e w4 ⟨rfl, hb⟩
    replace h0 : w4.heap[w.heap.size]? = some (.cells #[.int .i64 l.a, .int .i64 l.b, .int .i64 l.c] 23 (0, 0)) := hb_below hb (by repeat (first | exact h0 | (refine hb_new ?_; (first | omega | (simp; omega) | (simp; done))) | (refine hb_old ?_ ?_; rotate_left; focus (first | omega | (simp; omega) | (simp; done))) | refine hb_drew ?_)) (by first | omega | (simp; omega) | (simp; done))
    replace h1 : w4.heap[w.heap.size + 1]? = some (.cells #[.int .i64 m.a, .int .i64 m.b, .int .i64 m.c, .int .i64 m.d] 40 (0, 0)) := hb_below hb (by repeat (first | exact h1 | (refine hb_new ?_; (first | omega | (simp; omega) | (simp; done))) | (refine hb_old ?_ ?_; rotate_left; focus (first | omega | (simp; omega) | (simp; done))) | refine hb_drew ?_)) (by first | omega | (simp; omega) | (simp; done))
    replace h2 : w4.heap[w1.heap.size]? = some (.cells #[.int .i64 L.a, .int .i64 L.b, .int .i64 L.c] 23 (0, 0)) := hb_below hb (by repeat (first | exact h2 | (refine hb_new ?_; (first | omega | (simp; omega) | (simp; done))) | (refine hb_old ?_ ?_; rotate_left; focus (first | omega | (simp; omega) | (simp; done))) | refine hb_drew ?_)) (by first | omega | (simp; omega) | (simp; done))
    replace h3 : w4.heap[w1.heap.size + 1]? = some (.cells #[.int .i64 x.a, .int .i64 x.b, .int .i64 x.c, .int .i64 x.d] 40 (0, 0)) := hb_below hb (by repeat (first | exact h3 | (refine hb_new ?_; (first | omega | (simp; omega) | (simp; done))) | (refine hb_old ?_ ?_; rotate_left; focus (first | omega | (simp; omega) | (simp; done))) | refine hb_drew ?_)) (by first | omega | (simp; omega) | (simp; done))
    have y4 := Below.size hb
    try simp only [World.size_alloc, World.size_drew] at y4
    have D4 := Lib.hid (show Below w.heap.size w w4 from Below.trans (by repeat (first | exact D3.out | exact Below.refl _ _ | refine Below.alloc ?_ (by first | omega | (simp; omega) | (simp; done)) _)) (Below.mono hb (by first | omega | (simp; omega) | (simp; done))))
    have z4 := D4.out.size
    clear hb
    try clear c0_0 f0_0 c0_1 f0_1 c0_2 f0_2
    obtain ⟨c0_0, f0_0, c0_1, f0_1, c0_2, f0_2⟩ := cells3 h0
    try clear c1_0 f1_0 c1_1 f1_1 c1_2 f1_2 c1_3 f1_3
    obtain ⟨c1_0, f1_0, c1_1, f1_1, c1_2, f1_2, c1_3, f1_3⟩ := cells4 h1
    try clear c2_0 f2_0 c2_1 f2_1 c2_2 f2_2
    obtain ⟨c2_0, f2_0, c2_1, f2_1, c2_2, f2_2⟩ := cells3 h2
    try clear c3_0 f3_0 c3_1 f3_1 c3_2 f3_2 c3_3 f3_3
    obtain ⟨c3_0, f3_0, c3_1, f3_1, c3_2, f3_2, c3_3, f3_3⟩ := cells4 h3
    go_wp2_with fail
    have q1 := (Below.heap_setCell w4 ⟨w.heap.size + 1, 0, none⟩ (.int .i64 ka) (w.heap.size) (by first | omega | assumption | (apply Ne.symm; assumption) | (simp; done) | (simp; omega))).trans h0
    have q2 := heap_setCell_same w4 (w.heap.size + 1) 0 _ _ (.int .i64 ka) h1
    have q3 := (Below.heap_setCell w4 ⟨w.heap.size + 1, 0, none⟩ (.int .i64 ka) (w1.heap.size) (by first | omega | assumption | (apply Ne.symm; assumption) | (simp; done) | (simp; omega))).trans h2
    have q4 := (Below.heap_setCell w4 ⟨w.heap.size + 1, 0, none⟩ (.int .i64 ka) (w1.heap.size + 1) (by first | omega | assumption | (apply Ne.symm; assumption) | (simp; done) | (simp; omega))).trans h3
    have q5 := (Below.heap_setCell (w4.setCell ⟨w.heap.size + 1, 0, none⟩ (.int .i64 ka)) ⟨w.heap.size + 1, 1, none⟩ (.int .i64 kb) (w.heap.size) (by first | omega | assumption | (apply Ne.symm; assumption) | (simp; done) | (simp; omega))).trans q1
    have q6 := heap_setCell_same (w4.setCell ⟨w.heap.size + 1, 0, none⟩ (.int .i64 ka)) (w.heap.size + 1) 1 _ _ (.int .i64 kb) q2
    have q7 := (Below.heap_setCell (w4.setCell ⟨w.heap.size + 1, 0, none⟩ (.int .i64 ka)) ⟨w.heap.size + 1, 1, none⟩ (.int .i64 kb) (w1.heap.size) (by first | omega | assumption | (apply Ne.symm; assumption) | (simp; done) | (simp; omega))).trans q3
    have q8 := (Below.heap_setCell (w4.setCell ⟨w.heap.size + 1, 0, none⟩ (.int .i64 ka)) ⟨w.heap.size + 1, 1, none⟩ (.int .i64 kb) (w1.heap.size + 1) (by first | omega | assumption | (apply Ne.symm; assumption) | (simp; done) | (simp; omega))).trans q4
    have q9 := (Below.heap_setCell ((w4.setCell ⟨w.heap.size + 1, 0, none⟩ (.int .i64 ka)).setCell ⟨w.heap.size + 1, 1, none⟩ (.int .i64 kb)) ⟨w.heap.size + 1, 2, none⟩ (.int .i64 kc) (w.heap.size) (by first | omega | assumption | (apply Ne.symm; assumption) | (simp; done) | (simp; omega))).trans q5
    have q10 := heap_setCell_same ((w4.setCell ⟨w.heap.size + 1, 0, none⟩ (.int .i64 ka)).setCell ⟨w.heap.size + 1, 1, none⟩ (.int .i64 kb)) (w.heap.size + 1) 2 _ _ (.int .i64 kc) q6
    have q11 := (Below.heap_setCell ((w4.setCell ⟨w.heap.size + 1, 0, none⟩ (.int .i64 ka)).setCell ⟨w.heap.size + 1, 1, none⟩ (.int .i64 kb)) ⟨w.heap.size + 1, 2, none⟩ (.int .i64 kc) (w1.heap.size) (by first | omega | assumption | (apply Ne.symm; assumption) | (simp; done) | (simp; omega))).trans q7
    have q12 := (Below.heap_setCell ((w4.setCell ⟨w.heap.size + 1, 0, none⟩ (.int .i64 ka)).setCell ⟨w.heap.size + 1, 1, none⟩ (.int .i64 kb)) ⟨w.heap.size + 1, 2, none⟩ (.int .i64 kc) (w1.heap.size + 1) (by first | omega | assumption | (apply Ne.symm; assumption) | (simp; done) | (simp; omega))).trans q8
    have q13 := (Below.heap_setCell (((w4.setCell ⟨w.heap.size + 1, 0, none⟩ (.int .i64 ka)).setCell ⟨w.heap.size + 1, 1, none⟩ (.int .i64 kb)).setCell ⟨w.heap.size + 1, 2, none⟩ (.int .i64 kc)) ⟨w.heap.size + 1, 3, none⟩ (.int .i64 kd) (w.heap.size) (by first | omega | assumption | (apply Ne.symm; assumption) | (simp; done) | (simp; omega))).trans q9
    have q14 := heap_setCell_same (((w4.setCell ⟨w.heap.size + 1, 0, none⟩ (.int .i64 ka)).setCell ⟨w.heap.size + 1, 1, none⟩ (.int .i64 kb)).setCell ⟨w.heap.size + 1, 2, none⟩ (.int .i64 kc)) (w.heap.size + 1) 3 _ _ (.int .i64 kd) q10
    have q15 := (Below.heap_setCell (((w4.setCell ⟨w.heap.size + 1, 0, none⟩ (.int .i64 ka)).setCell ⟨w.heap.size + 1, 1, none⟩ (.int .i64 kb)).setCell ⟨w.heap.size + 1, 2, none⟩ (.int .i64 kc)) ⟨w.heap.size + 1, 3, none⟩ (.int .i64 kd) (w1.heap.size) (by first | omega | assumption | (apply Ne.symm; assumption) | (simp; done) | (simp; omega))).trans q11
    have q16 := (Below.heap_setCell (((w4.setCell ⟨w.heap.size + 1, 0, none⟩ (.int .i64 ka)).setCell ⟨w.heap.size + 1, 1, none⟩ (.int .i64 kb)).setCell ⟨w.heap.size + 1, 2, none⟩ (.int .i64 kc)) ⟨w.heap.size + 1, 3, none⟩ (.int .i64 kd) (w1.heap.size + 1) (by first | omega | assumption | (apply Ne.symm; assumption) | (simp; done) | (simp; omega))).trans q12
    obtain ⟨w5, hw5⟩ : ∃ W, W = ((((w4.setCell ⟨w.heap.size + 1, 0, none⟩ (.int .i64 ka)).setCell ⟨w.heap.size + 1, 1, none⟩ (.int .i64 kb)).setCell ⟨w.heap.size + 1, 2, none⟩ (.int .i64 kc)).setCell ⟨w.heap.size + 1, 3, none⟩ (.int .i64 kd)) := ⟨_, rfl⟩
    rw [← hw5]
    replace h0 : w5.heap[w.heap.size]? = some (.cells #[.int .i64 l.a, .int .i64 l.b, .int .i64 l.c] 23 (0, 0)) := by rw [hw5]; exact q13
    replace h1 : w5.heap[w.heap.size + 1]? = some (.cells #[.int .i64 ka, .int .i64 kb, .int .i64 kc, .int .i64 kd] 40 (0, 0)) := by rw [hw5]; exact q14
    replace h2 : w5.heap[w1.heap.size]? = some (.cells #[.int .i64 L.a, .int .i64 L.b, .int .i64 L.c] 23 (0, 0)) := by rw [hw5]; exact q15
    replace h3 : w5.heap[w1.heap.size + 1]? = some (.cells #[.int .i64 x.a, .int .i64 x.b, .int .i64 x.c, .int .i64 x.d] 40 (0, 0)) := by rw [hw5]; exact q16
    have D5 := Lib.hid (show Below w.heap.size w w5 by rw [hw5]; exact (Below.setCell (Below.setCell (Below.setCell (Below.setCell D4.out (p := ⟨w.heap.size + 1, 0, none⟩) (by first | omega | (simp; done) | (simp; omega)) (.int .i64 ka)) (p := ⟨w.heap.size + 1, 1, none⟩) (by first | omega | (simp; done) | (simp; omega)) (.int .i64 kb)) (p := ⟨w.heap.size + 1, 2, none⟩) (by first | omega | (simp; done) | (simp; omega)) (.int .i64 kc)) (p := ⟨w.heap.size + 1, 3, none⟩) (by first | omega | (simp; done) | (simp; omega)) (.int .i64 kd)))
    have z5 := D5.out.size
    have y5 : w5.heap.size = w4.heap.size := by rw [hw5]; simp
    clear q16 q15 q14 q13 q12 q11 q10 q9 q8 q7 q6 q5 q4 q3 q2 q1 hw5
    try clear c0_0 f0_0 c0_1 f0_1 c0_2 f0_2
    obtain ⟨c0_0, f0_0, c0_1, f0_1, c0_2, f0_2⟩ := cells3 h0
    try clear c1_0 f1_0 c1_1 f1_1 c1_2 f1_2 c1_3 f1_3
    obtain ⟨c1_0, f1_0, c1_1, f1_1, c1_2, f1_2, c1_3, f1_3⟩ := cells4 h1
    try clear c2_0 f2_0 c2_1 f2_1 c2_2 f2_2
    obtain ⟨c2_0, f2_0, c2_1, f2_1, c2_2, f2_2⟩ := cells3 h2
    try clear c3_0 f3_0 c3_1 f3_1 c3_2 f3_2 c3_3 f3_3
    obtain ⟨c3_0, f3_0, c3_1, f3_1, c3_2, f3_2, c3_3, f3_3⟩ := cells4 h3
    refine (H6.out _).mono ?_
    rintro e w6 ⟨rfl, hb⟩
    replace h0 : w6.heap[w.heap.size]? = some (.cells #[.int .i64 l.a, .int .i64 l.b, .int .i64 l.c] 23 (0, 0)) := hb_below hb (by repeat (first | exact h0 | (refine hb_new ?_; (first | omega | (simp; omega) | (simp; done))) | (refine hb_old ?_ ?_; rotate_left; focus (first | omega | (simp; omega) | (simp; done))) | refine hb_drew ?_)) (by first | omega | (simp; omega) | (simp; done))
    replace h1 : w6.heap[w.heap.size + 1]? = some (.cells #[.int .i64 ka, .int .i64 kb, .int .i64 kc, .int .i64 kd] 40 (0, 0)) := hb_below hb (by repeat (first | exact h1 | (refine hb_new ?_; (first | omega | (simp; omega) | (simp; done))) | (refine hb_old ?_ ?_; rotate_left; focus (first | omega | (simp; omega) | (simp; done))) | refine hb_drew ?_)) (by first | omega | (simp; omega) | (simp; done))
    replace h2 : w6.heap[w1.heap.size]? = some (.cells #[.int .i64 L.a, .int .i64 L.b, .int .i64 L.c] 23 (0, 0)) := hb_below hb (by repeat (first | exact h2 | (refine hb_new ?_; (first | omega | (simp; omega) | (simp; done))) | (refine hb_old ?_ ?_; rotate_left; focus (first | omega | (simp; omega) | (simp; done))) | refine hb_drew ?_)) (by first | omega | (simp; omega) | (simp; done))
    replace h3 : w6.heap[w1.heap.size + 1]? = some (.cells #[.int .i64 x.a, .int .i64 x.b, .int .i64 x.c, .int .i64 x.d] 40 (0, 0)) := hb_below hb (by repeat (first | exact h3 | (refine hb_new ?_; (first | omega | (simp; omega) | (simp; done))) | (refine hb_old ?_ ?_; rotate_left; focus (first | omega | (simp; omega) | (simp; done))) | refine hb_drew ?_)) (by first | omega | (simp; omega) | (simp; done))
    have y6 := Below.size hb
    try simp only [World.size_alloc, World.size_drew] at y6
    have D6 := Lib.hid (show Below w.heap.size w w6 from Below.trans (by repeat (first | exact D5.out | exact Below.refl _ _ | refine Below.alloc ?_ (by first | omega | (simp; omega) | (simp; done)) _)) (Below.mono hb (by first | omega | (simp; omega) | (simp; done))))
    have z6 := D6.out.size
    clear hb
    try clear c0_0 f0_0 c0_1 f0_1 c0_2 f0_2
    obtain ⟨c0_0, f0_0, c0_1, f0_1, c0_2, f0_2⟩ := cells3 h0
    try clear c1_0 f1_0 c1_1 f1_1 c1_2 f1_2 c1_3 f1_3
    obtain ⟨c1_0, f1_0, c1_1, f1_1, c1_2, f1_2, c1_3, f1_3⟩ := cells4 h1
    try clear c2_0 f2_0 c2_1 f2_1 c2_2 f2_2
    obtain ⟨c2_0, f2_0, c2_1, f2_1, c2_2, f2_2⟩ := cells3 h2
    try clear c3_0 f3_0 c3_1 f3_1 c3_2 f3_2 c3_3 f3_3
    obtain ⟨c3_0, f3_0, c3_1, f3_1, c3_2, f3_2, c3_3, f3_3⟩ := cells4 h3
    by_cases hk : kdet = 1 ∨ kdet = -1
    · have um := HU.out.2 hk
      cases hko : okL ol
      · have C8 := H8.out
        rw [hko] at C8
        simp only [errIf, Bool.false_eq_true, if_false] at C8
        replace H8 := Lib.hid C8
        clear C8 hko um
        rcases hk with hk | hk <;> subst hk
        all_goals (
          go_wp2_with fail
          obtain ⟨w7, hw7⟩ : ∃ W, W = (w6.alloc (.cells #[.int .i64 ol.a, .int .i64 ol.b, .int .i64 ol.c] 23)) := ⟨_, rfl⟩
          rw [← hw7]
          replace h0 : w7.heap[w.heap.size]? = some (.cells #[.int .i64 l.a, .int .i64 l.b, .int .i64 l.c] 23 (0, 0)) := by rw [hw7]; exact (by repeat (first | exact h0 | (refine hb_new ?_; (first | omega | (simp; omega) | (simp; done))) | (refine hb_old ?_ ?_; rotate_left; focus (first | omega | (simp; omega) | (simp; done))) | refine hb_drew ?_))
          replace h1 : w7.heap[w.heap.size + 1]? = some (.cells #[.int .i64 ka, .int .i64 kb, .int .i64 kc, .int .i64 kd] 40 (0, 0)) := by rw [hw7]; exact (by repeat (first | exact h1 | (refine hb_new ?_; (first | omega | (simp; omega) | (simp; done))) | (refine hb_old ?_ ?_; rotate_left; focus (first | omega | (simp; omega) | (simp; done))) | refine hb_drew ?_))
          replace h2 : w7.heap[w1.heap.size]? = some (.cells #[.int .i64 L.a, .int .i64 L.b, .int .i64 L.c] 23 (0, 0)) := by rw [hw7]; exact (by repeat (first | exact h2 | (refine hb_new ?_; (first | omega | (simp; omega) | (simp; done))) | (refine hb_old ?_ ?_; rotate_left; focus (first | omega | (simp; omega) | (simp; done))) | refine hb_drew ?_))
          replace h3 : w7.heap[w1.heap.size + 1]? = some (.cells #[.int .i64 x.a, .int .i64 x.b, .int .i64 x.c, .int .i64 x.d] 40 (0, 0)) := by rw [hw7]; exact (by repeat (first | exact h3 | (refine hb_new ?_; (first | omega | (simp; omega) | (simp; done))) | (refine hb_old ?_ ?_; rotate_left; focus (first | omega | (simp; omega) | (simp; done))) | refine hb_drew ?_))
          have h4 : w7.heap[w6.heap.size]? = some (.cells #[.int .i64 ol.a, .int .i64 ol.b, .int .i64 ol.c] 23 (0, 0)) := by rw [hw7]; exact (by repeat (first | (refine hb_new ?_; (first | omega | (simp; omega) | (simp; done))) | (refine hb_old ?_ ?_; rotate_left; focus (first | omega | (simp; omega) | (simp; done))) | refine hb_drew ?_))
          have hb : Below w6.heap.size w6 w7 := by rw [hw7]; exact (by repeat (first | exact Below.refl _ _ | refine Below.alloc ?_ (by first | omega | (simp; omega) | (simp; done)) _ | refine Below.drew ?_))
          have s7 : w6.heap.size + 1 ≤ w7.heap.size := by rw [hw7]; simp
          have y7 := Below.size hb
          try simp only [World.size_alloc, World.size_drew] at y7
          have D7 := Lib.hid (show Below w.heap.size w w7 from Below.trans (by repeat (first | exact D6.out | exact Below.refl _ _ | refine Below.alloc ?_ (by first | omega | (simp; omega) | (simp; done)) _)) (Below.mono hb (by first | omega | (simp; omega) | (simp; done))))
          have z7 := D7.out.size
          clear hb hw7
          try clear c0_0 f0_0 c0_1 f0_1 c0_2 f0_2
          obtain ⟨c0_0, f0_0, c0_1, f0_1, c0_2, f0_2⟩ := cells3 h0
          try clear c1_0 f1_0 c1_1 f1_1 c1_2 f1_2 c1_3 f1_3
          obtain ⟨c1_0, f1_0, c1_1, f1_1, c1_2, f1_2, c1_3, f1_3⟩ := cells4 h1
          try clear c2_0 f2_0 c2_1 f2_1 c2_2 f2_2
          obtain ⟨c2_0, f2_0, c2_1, f2_1, c2_2, f2_2⟩ := cells3 h2
          try clear c3_0 f3_0 c3_1 f3_1 c3_2 f3_2 c3_3 f3_3
          obtain ⟨c3_0, f3_0, c3_1, f3_1, c3_2, f3_2, c3_3, f3_3⟩ := cells4 h3
          try clear c4_0 f4_0 c4_1 f4_1 c4_2 f4_2
          obtain ⟨c4_0, f4_0, c4_1, f4_1, c4_2, f4_2⟩ := cells3 h4
          refine (H8.out _).mono ?_
          rintro e w8 ⟨rfl, hb⟩
          replace h0 : w8.heap[w.heap.size]? = some (.cells #[.int .i64 l.a, .int .i64 l.b, .int .i64 l.c] 23 (0, 0)) := hb_below hb (by repeat (first | exact h0 | (refine hb_new ?_; (first | omega | (simp; omega) | (simp; done))) | (refine hb_old ?_ ?_; rotate_left; focus (first | omega | (simp; omega) | (simp; done))) | refine hb_drew ?_)) (by first | omega | (simp; omega) | (simp; done))
          replace h1 : w8.heap[w.heap.size + 1]? = some (.cells #[.int .i64 ka, .int .i64 kb, .int .i64 kc, .int .i64 kd] 40 (0, 0)) := hb_below hb (by repeat (first | exact h1 | (refine hb_new ?_; (first | omega | (simp; omega) | (simp; done))) | (refine hb_old ?_ ?_; rotate_left; focus (first | omega | (simp; omega) | (simp; done))) | refine hb_drew ?_)) (by first | omega | (simp; omega) | (simp; done))
          replace h2 : w8.heap[w1.heap.size]? = some (.cells #[.int .i64 L.a, .int .i64 L.b, .int .i64 L.c] 23 (0, 0)) := hb_below hb (by repeat (first | exact h2 | (refine hb_new ?_; (first | omega | (simp; omega) | (simp; done))) | (refine hb_old ?_ ?_; rotate_left; focus (first | omega | (simp; omega) | (simp; done))) | refine hb_drew ?_)) (by first | omega | (simp; omega) | (simp; done))
          replace h3 : w8.heap[w1.heap.size + 1]? = some (.cells #[.int .i64 x.a, .int .i64 x.b, .int .i64 x.c, .int .i64 x.d] 40 (0, 0)) := hb_below hb (by repeat (first | exact h3 | (refine hb_new ?_; (first | omega | (simp; omega) | (simp; done))) | (refine hb_old ?_ ?_; rotate_left; focus (first | omega | (simp; omega) | (simp; done))) | refine hb_drew ?_)) (by first | omega | (simp; omega) | (simp; done))
          replace h4 : w8.heap[w6.heap.size]? = some (.cells #[.int .i64 ol.a, .int .i64 ol.b, .int .i64 ol.c] 23 (0, 0)) := hb_below hb (by repeat (first | exact h4 | (refine hb_new ?_; (first | omega | (simp; omega) | (simp; done))) | (refine hb_old ?_ ?_; rotate_left; focus (first | omega | (simp; omega) | (simp; done))) | refine hb_drew ?_)) (by first | omega | (simp; omega) | (simp; done))
          have y8 := Below.size hb
          try simp only [World.size_alloc, World.size_drew] at y8
          have D8 := Lib.hid (show Below w.heap.size w w8 from Below.trans (by repeat (first | exact D7.out | exact Below.refl _ _ | refine Below.alloc ?_ (by first | omega | (simp; omega) | (simp; done)) _)) (Below.mono hb (by first | omega | (simp; omega) | (simp; done))))
          have z8 := D8.out.size
          clear hb
          try clear c0_0 f0_0 c0_1 f0_1 c0_2 f0_2
          obtain ⟨c0_0, f0_0, c0_1, f0_1, c0_2, f0_2⟩ := cells3 h0
          try clear c1_0 f1_0 c1_1 f1_1 c1_2 f1_2 c1_3 f1_3
          obtain ⟨c1_0, f1_0, c1_1, f1_1, c1_2, f1_2, c1_3, f1_3⟩ := cells4 h1
          try clear c2_0 f2_0 c2_1 f2_1 c2_2 f2_2
          obtain ⟨c2_0, f2_0, c2_1, f2_1, c2_2, f2_2⟩ := cells3 h2
          try clear c3_0 f3_0 c3_1 f3_1 c3_2 f3_2 c3_3 f3_3
          obtain ⟨c3_0, f3_0, c3_1, f3_1, c3_2, f3_2, c3_3, f3_3⟩ := cells4 h3
          try clear c4_0 f4_0 c4_1 f4_1 c4_2 f4_2
          obtain ⟨c4_0, f4_0, c4_1, f4_1, c4_2, f4_2⟩ := cells3 h4
          go_wp2_with fail
          refine (H7.out _ (HG.out.next (Below.trans D8.out (by repeat (first | exact Below.refl _ _ | refine Below.alloc ?_ (by first | omega | (simp; omega) | (simp; done)) _))))).mono ?_
          rintro e w9 ⟨rfl, hb⟩
          replace h0 : w9.heap[w.heap.size]? = some (.cells #[.int .i64 l.a, .int .i64 l.b, .int .i64 l.c] 23 (0, 0)) := hb_below hb (by repeat (first | exact h0 | (refine hb_new ?_; (first | omega | (simp; omega) | (simp; done))) | (refine hb_old ?_ ?_; rotate_left; focus (first | omega | (simp; omega) | (simp; done))) | refine hb_drew ?_)) (by first | omega | (simp; omega) | (simp; done))
          replace h1 : w9.heap[w.heap.size + 1]? = some (.cells #[.int .i64 ka, .int .i64 kb, .int .i64 kc, .int .i64 kd] 40 (0, 0)) := hb_below hb (by repeat (first | exact h1 | (refine hb_new ?_; (first | omega | (simp; omega) | (simp; done))) | (refine hb_old ?_ ?_; rotate_left; focus (first | omega | (simp; omega) | (simp; done))) | refine hb_drew ?_)) (by first | omega | (simp; omega) | (simp; done))
          replace h2 : w9.heap[w1.heap.size]? = some (.cells #[.int .i64 L.a, .int .i64 L.b, .int .i64 L.c] 23 (0, 0)) := hb_below hb (by repeat (first | exact h2 | (refine hb_new ?_; (first | omega | (simp; omega) | (simp; done))) | (refine hb_old ?_ ?_; rotate_left; focus (first | omega | (simp; omega) | (simp; done))) | refine hb_drew ?_)) (by first | omega | (simp; omega) | (simp; done))
          replace h3 : w9.heap[w1.heap.size + 1]? = some (.cells #[.int .i64 x.a, .int .i64 x.b, .int .i64 x.c, .int .i64 x.d] 40 (0, 0)) := hb_below hb (by repeat (first | exact h3 | (refine hb_new ?_; (first | omega | (simp; omega) | (simp; done))) | (refine hb_old ?_ ?_; rotate_left; focus (first | omega | (simp; omega) | (simp; done))) | refine hb_drew ?_)) (by first | omega | (simp; omega) | (simp; done))
          replace h4 : w9.heap[w6.heap.size]? = some (.cells #[.int .i64 ol.a, .int .i64 ol.b, .int .i64 ol.c] 23 (0, 0)) := hb_below hb (by repeat (first | exact h4 | (refine hb_new ?_; (first | omega | (simp; omega) | (simp; done))) | (refine hb_old ?_ ?_; rotate_left; focus (first | omega | (simp; omega) | (simp; done))) | refine hb_drew ?_)) (by first | omega | (simp; omega) | (simp; done))
          have y9 := Below.size hb
          try simp only [World.size_alloc, World.size_drew] at y9
          have D9 := Lib.hid (show Below w.heap.size w w9 from Below.trans (by repeat (first | exact D8.out | exact Below.refl _ _ | refine Below.alloc ?_ (by first | omega | (simp; omega) | (simp; done)) _)) (Below.mono hb (by first | omega | (simp; omega) | (simp; done))))
          have z9 := D9.out.size
          clear hb
          try clear c0_0 f0_0 c0_1 f0_1 c0_2 f0_2
          obtain ⟨c0_0, f0_0, c0_1, f0_1, c0_2, f0_2⟩ := cells3 h0
          try clear c1_0 f1_0 c1_1 f1_1 c1_2 f1_2 c1_3 f1_3
          obtain ⟨c1_0, f1_0, c1_1, f1_1, c1_2, f1_2, c1_3, f1_3⟩ := cells4 h1
          try clear c2_0 f2_0 c2_1 f2_1 c2_2 f2_2
          obtain ⟨c2_0, f2_0, c2_1, f2_1, c2_2, f2_2⟩ := cells3 h2
          try clear c3_0 f3_0 c3_1 f3_1 c3_2 f3_2 c3_3 f3_3
          obtain ⟨c3_0, f3_0, c3_1, f3_1, c3_2, f3_2, c3_3, f3_3⟩ := cells4 h3
          try clear c4_0 f4_0 c4_1 f4_1 c4_2 f4_2
          obtain ⟨c4_0, f4_0, c4_1, f4_1, c4_2, f4_2⟩ := cells3 h4
          go_wp2_with fail
          go_ret
          exact ⟨by first | rfl | (simp [*]; done) | (simp; omega), D9.out⟩)
      · have C8 := H8.out
        rw [hko] at C8
        simp only [errIf, if_true] at C8
        replace H8 := Lib.hid C8
        have C9 := fun W g => H9.out hko W g
        replace H9 := Lib.hid C9
        clear C8 C9 hko
        rcases hk with hk | hk <;> subst hk
        all_goals (
          go_wp2_with fail
          obtain ⟨w7, hw7⟩ : ∃ W, W = (w6.alloc (.cells #[.int .i64 ol.a, .int .i64 ol.b, .int .i64 ol.c] 23)) := ⟨_, rfl⟩
          rw [← hw7]
          replace h0 : w7.heap[w.heap.size]? = some (.cells #[.int .i64 l.a, .int .i64 l.b, .int .i64 l.c] 23 (0, 0)) := by rw [hw7]; exact (by repeat (first | exact h0 | (refine hb_new ?_; (first | omega | (simp; omega) | (simp; done))) | (refine hb_old ?_ ?_; rotate_left; focus (first | omega | (simp; omega) | (simp; done))) | refine hb_drew ?_))
          replace h1 : w7.heap[w.heap.size + 1]? = some (.cells #[.int .i64 ka, .int .i64 kb, .int .i64 kc, .int .i64 kd] 40 (0, 0)) := by rw [hw7]; exact (by repeat (first | exact h1 | (refine hb_new ?_; (first | omega | (simp; omega) | (simp; done))) | (refine hb_old ?_ ?_; rotate_left; focus (first | omega | (simp; omega) | (simp; done))) | refine hb_drew ?_))
          replace h2 : w7.heap[w1.heap.size]? = some (.cells #[.int .i64 L.a, .int .i64 L.b, .int .i64 L.c] 23 (0, 0)) := by rw [hw7]; exact (by repeat (first | exact h2 | (refine hb_new ?_; (first | omega | (simp; omega) | (simp; done))) | (refine hb_old ?_ ?_; rotate_left; focus (first | omega | (simp; omega) | (simp; done))) | refine hb_drew ?_))
          replace h3 : w7.heap[w1.heap.size + 1]? = some (.cells #[.int .i64 x.a, .int .i64 x.b, .int .i64 x.c, .int .i64 x.d] 40 (0, 0)) := by rw [hw7]; exact (by repeat (first | exact h3 | (refine hb_new ?_; (first | omega | (simp; omega) | (simp; done))) | (refine hb_old ?_ ?_; rotate_left; focus (first | omega | (simp; omega) | (simp; done))) | refine hb_drew ?_))
          have h4 : w7.heap[w6.heap.size]? = some (.cells #[.int .i64 ol.a, .int .i64 ol.b, .int .i64 ol.c] 23 (0, 0)) := by rw [hw7]; exact (by repeat (first | (refine hb_new ?_; (first | omega | (simp; omega) | (simp; done))) | (refine hb_old ?_ ?_; rotate_left; focus (first | omega | (simp; omega) | (simp; done))) | refine hb_drew ?_))
          have hb : Below w6.heap.size w6 w7 := by rw [hw7]; exact (by repeat (first | exact Below.refl _ _ | refine Below.alloc ?_ (by first | omega | (simp; omega) | (simp; done)) _ | refine Below.drew ?_))
          have s7 : w6.heap.size + 1 ≤ w7.heap.size := by rw [hw7]; simp
          have y7 := Below.size hb
          try simp only [World.size_alloc, World.size_drew] at y7
          have D7 := Lib.hid (show Below w.heap.size w w7 from Below.trans (by repeat (first | exact D6.out | exact Below.refl _ _ | refine Below.alloc ?_ (by first | omega | (simp; omega) | (simp; done)) _)) (Below.mono hb (by first | omega | (simp; omega) | (simp; done))))
          have z7 := D7.out.size
          clear hb hw7
          try clear c0_0 f0_0 c0_1 f0_1 c0_2 f0_2
          obtain ⟨c0_0, f0_0, c0_1, f0_1, c0_2, f0_2⟩ := cells3 h0
          try clear c1_0 f1_0 c1_1 f1_1 c1_2 f1_2 c1_3 f1_3
          obtain ⟨c1_0, f1_0, c1_1, f1_1, c1_2, f1_2, c1_3, f1_3⟩ := cells4 h1
          try clear c2_0 f2_0 c2_1 f2_1 c2_2 f2_2
          obtain ⟨c2_0, f2_0, c2_1, f2_1, c2_2, f2_2⟩ := cells3 h2
          try clear c3_0 f3_0 c3_1 f3_1 c3_2 f3_2 c3_3 f3_3
          obtain ⟨c3_0, f3_0, c3_1, f3_1, c3_2, f3_2, c3_3, f3_3⟩ := cells4 h3
          try clear c4_0 f4_0 c4_1 f4_1 c4_2 f4_2
          obtain ⟨c4_0, f4_0, c4_1, f4_1, c4_2, f4_2⟩ := cells3 h4
          refine (H8.out _).mono ?_
          rintro e w8 ⟨rfl, hb⟩
          replace h0 : w8.heap[w.heap.size]? = some (.cells #[.int .i64 l.a, .int .i64 l.b, .int .i64 l.c] 23 (0, 0)) := hb_below hb (by repeat (first | exact h0 | (refine hb_new ?_; (first | omega | (simp; omega) | (simp; done))) | (refine hb_old ?_ ?_; rotate_left; focus (first | omega | (simp; omega) | (simp; done))) | refine hb_drew ?_)) (by first | omega | (simp; omega) | (simp; done))
          replace h1 : w8.heap[w.heap.size + 1]? = some (.cells #[.int .i64 ka, .int .i64 kb, .int .i64 kc, .int .i64 kd] 40 (0, 0)) := hb_below hb (by repeat (first | exact h1 | (refine hb_new ?_; (first | omega | (simp; omega) | (simp; done))) | (refine hb_old ?_ ?_; rotate_left; focus (first | omega | (simp; omega) | (simp; done))) | refine hb_drew ?_)) (by first | omega | (simp; omega) | (simp; done))
          replace h2 : w8.heap[w1.heap.size]? = some (.cells #[.int .i64 L.a, .int .i64 L.b, .int .i64 L.c] 23 (0, 0)) := hb_below hb (by repeat (first | exact h2 | (refine hb_new ?_; (first | omega | (simp; omega) | (simp; done))) | (refine hb_old ?_ ?_; rotate_left; focus (first | omega | (simp; omega) | (simp; done))) | refine hb_drew ?_)) (by first | omega | (simp; omega) | (simp; done))
          replace h3 : w8.heap[w1.heap.size + 1]? = some (.cells #[.int .i64 x.a, .int .i64 x.b, .int .i64 x.c, .int .i64 x.d] 40 (0, 0)) := hb_below hb (by repeat (first | exact h3 | (refine hb_new ?_; (first | omega | (simp; omega) | (simp; done))) | (refine hb_old ?_ ?_; rotate_left; focus (first | omega | (simp; omega) | (simp; done))) | refine hb_drew ?_)) (by first | omega | (simp; omega) | (simp; done))
          replace h4 : w8.heap[w6.heap.size]? = some (.cells #[.int .i64 ol.a, .int .i64 ol.b, .int .i64 ol.c] 23 (0, 0)) := hb_below hb (by repeat (first | exact h4 | (refine hb_new ?_; (first | omega | (simp; omega) | (simp; done))) | (refine hb_old ?_ ?_; rotate_left; focus (first | omega | (simp; omega) | (simp; done))) | refine hb_drew ?_)) (by first | omega | (simp; omega) | (simp; done))
          have y8 := Below.size hb
          try simp only [World.size_alloc, World.size_drew] at y8
          have D8 := Lib.hid (show Below w.heap.size w w8 from Below.trans (by repeat (first | exact D7.out | exact Below.refl _ _ | refine Below.alloc ?_ (by first | omega | (simp; omega) | (simp; done)) _)) (Below.mono hb (by first | omega | (simp; omega) | (simp; done))))
          have z8 := D8.out.size
          clear hb
          try clear c0_0 f0_0 c0_1 f0_1 c0_2 f0_2
          obtain ⟨c0_0, f0_0, c0_1, f0_1, c0_2, f0_2⟩ := cells3 h0
          try clear c1_0 f1_0 c1_1 f1_1 c1_2 f1_2 c1_3 f1_3
          obtain ⟨c1_0, f1_0, c1_1, f1_1, c1_2, f1_2, c1_3, f1_3⟩ := cells4 h1
          try clear c2_0 f2_0 c2_1 f2_1 c2_2 f2_2
          obtain ⟨c2_0, f2_0, c2_1, f2_1, c2_2, f2_2⟩ := cells3 h2
          try clear c3_0 f3_0 c3_1 f3_1 c3_2 f3_2 c3_3 f3_3
          obtain ⟨c3_0, f3_0, c3_1, f3_1, c3_2, f3_2, c3_3, f3_3⟩ := cells4 h3
          try clear c4_0 f4_0 c4_1 f4_1 c4_2 f4_2
          obtain ⟨c4_0, f4_0, c4_1, f4_1, c4_2, f4_2⟩ := cells3 h4
          go_wp2_with fail
          refine (H9.out _ (HG.out.next (Below.trans D8.out (by repeat (first | exact Below.refl _ _ | refine Below.alloc ?_ (by first | omega | (simp; omega) | (simp; done)) _))))).mono ?_
          rintro e w9 ⟨S, y, rfl, hR2, hb⟩
          replace h0 : w9.heap[w.heap.size]? = some (.cells #[.int .i64 l.a, .int .i64 l.b, .int .i64 l.c] 23 (0, 0)) := hb_below hb (by repeat (first | exact h0 | (refine hb_new ?_; (first | omega | (simp; omega) | (simp; done))) | (refine hb_old ?_ ?_; rotate_left; focus (first | omega | (simp; omega) | (simp; done))) | refine hb_drew ?_)) (by first | omega | (simp; omega) | (simp; done))
          replace h1 : w9.heap[w.heap.size + 1]? = some (.cells #[.int .i64 ka, .int .i64 kb, .int .i64 kc, .int .i64 kd] 40 (0, 0)) := hb_below hb (by repeat (first | exact h1 | (refine hb_new ?_; (first | omega | (simp; omega) | (simp; done))) | (refine hb_old ?_ ?_; rotate_left; focus (first | omega | (simp; omega) | (simp; done))) | refine hb_drew ?_)) (by first | omega | (simp; omega) | (simp; done))
          replace h2 : w9.heap[w1.heap.size]? = some (.cells #[.int .i64 L.a, .int .i64 L.b, .int .i64 L.c] 23 (0, 0)) := hb_below hb (by repeat (first | exact h2 | (refine hb_new ?_; (first | omega | (simp; omega) | (simp; done))) | (refine hb_old ?_ ?_; rotate_left; focus (first | omega | (simp; omega) | (simp; done))) | refine hb_drew ?_)) (by first | omega | (simp; omega) | (simp; done))
          replace h3 : w9.heap[w1.heap.size + 1]? = some (.cells #[.int .i64 x.a, .int .i64 x.b, .int .i64 x.c, .int .i64 x.d] 40 (0, 0)) := hb_below hb (by repeat (first | exact h3 | (refine hb_new ?_; (first | omega | (simp; omega) | (simp; done))) | (refine hb_old ?_ ?_; rotate_left; focus (first | omega | (simp; omega) | (simp; done))) | refine hb_drew ?_)) (by first | omega | (simp; omega) | (simp; done))
          replace h4 : w9.heap[w6.heap.size]? = some (.cells #[.int .i64 ol.a, .int .i64 ol.b, .int .i64 ol.c] 23 (0, 0)) := hb_below hb (by repeat (first | exact h4 | (refine hb_new ?_; (first | omega | (simp; omega) | (simp; done))) | (refine hb_old ?_ ?_; rotate_left; focus (first | omega | (simp; omega) | (simp; done))) | refine hb_drew ?_)) (by first | omega | (simp; omega) | (simp; done))
          have y9 := Below.size hb
          try simp only [World.size_alloc, World.size_drew] at y9
          have D9 := Lib.hid (show Below w.heap.size w w9 from Below.trans (by repeat (first | exact D8.out | exact Below.refl _ _ | refine Below.alloc ?_ (by first | omega | (simp; omega) | (simp; done)) _)) (Below.mono hb (by first | omega | (simp; omega) | (simp; done))))
          have z9 := D9.out.size
          clear hb
          try clear c0_0 f0_0 c0_1 f0_1 c0_2 f0_2
          obtain ⟨c0_0, f0_0, c0_1, f0_1, c0_2, f0_2⟩ := cells3 h0
          try clear c1_0 f1_0 c1_1 f1_1 c1_2 f1_2 c1_3 f1_3
          obtain ⟨c1_0, f1_0, c1_1, f1_1, c1_2, f1_2, c1_3, f1_3⟩ := cells4 h1
          try clear c2_0 f2_0 c2_1 f2_1 c2_2 f2_2
          obtain ⟨c2_0, f2_0, c2_1, f2_1, c2_2, f2_2⟩ := cells3 h2
          try clear c3_0 f3_0 c3_1 f3_1 c3_2 f3_2 c3_3 f3_3
          obtain ⟨c3_0, f3_0, c3_1, f3_1, c3_2, f3_2, c3_3, f3_3⟩ := cells4 h3
          try clear c4_0 f4_0 c4_1 f4_1 c4_2 f4_2
          obtain ⟨c4_0, f4_0, c4_1, f4_1, c4_2, f4_2⟩ := cells3 h4
          have es := HM.out L S x y HR.out.1 hR2.1 HR.out.2.2.1 hR2.2.2.1 HR.out.2.2.2.2.1 hR2.2.2.2.2.1 um
          subst es
          clear hR2 um
          try clear c0_0 f0_0 c0_1 f0_1 c0_2 f0_2
          obtain ⟨c0_0, f0_0, c0_1, f0_1, c0_2, f0_2⟩ := cells3 h0
          try clear c1_0 f1_0 c1_1 f1_1 c1_2 f1_2 c1_3 f1_3
          obtain ⟨c1_0, f1_0, c1_1, f1_1, c1_2, f1_2, c1_3, f1_3⟩ := cells4 h1
          try clear c2_0 f2_0 c2_1 f2_1 c2_2 f2_2
          obtain ⟨c2_0, f2_0, c2_1, f2_1, c2_2, f2_2⟩ := cells3 h2
          try clear c3_0 f3_0 c3_1 f3_1 c3_2 f3_2 c3_3 f3_3
          obtain ⟨c3_0, f3_0, c3_1, f3_1, c3_2, f3_2, c3_3, f3_3⟩ := cells4 h3
          try clear c4_0 f4_0 c4_1 f4_1 c4_2 f4_2
          obtain ⟨c4_0, f4_0, c4_1, f4_1, c4_2, f4_2⟩ := cells3 h4
          have ha2 : ((w9.alloc (.cells #[.int .i64 S.a, .int .i64 S.b, .int .i64 S.c] 23)).alloc (.cells #[.int .i64 y.a, .int .i64 y.b, .int .i64 y.c, .int .i64 y.d] 40)).heap[w1.heap.size]? = some (.cells #[.int .i64 S.a, .int .i64 S.b, .int .i64 S.c] 23 (0, 0)) := (by repeat (first | exact h2 | (refine hb_new ?_; (first | omega | (simp; omega) | (simp; done))) | (refine hb_old ?_ ?_; rotate_left; focus (first | omega | (simp; omega) | (simp; done))) | refine hb_drew ?_))
          obtain ⟨ca2_0, fa2_0, ca2_1, fa2_1, ca2_2, fa2_2⟩ := cells3 ha2
          go_wp2_with fail
          obtain ⟨w10, hw10⟩ : ∃ W, W = ((w9.alloc (.cells #[.int .i64 S.a, .int .i64 S.b, .int .i64 S.c] 23)).alloc (.cells #[.int .i64 y.a, .int .i64 y.b, .int .i64 y.c, .int .i64 y.d] 40)) := ⟨_, rfl⟩
          rw [← hw10]
          replace h0 : w10.heap[w.heap.size]? = some (.cells #[.int .i64 l.a, .int .i64 l.b, .int .i64 l.c] 23 (0, 0)) := by rw [hw10]; exact (by repeat (first | exact h0 | (refine hb_new ?_; (first | omega | (simp; omega) | (simp; done))) | (refine hb_old ?_ ?_; rotate_left; focus (first | omega | (simp; omega) | (simp; done))) | refine hb_drew ?_))
          replace h1 : w10.heap[w.heap.size + 1]? = some (.cells #[.int .i64 ka, .int .i64 kb, .int .i64 kc, .int .i64 kd] 40 (0, 0)) := by rw [hw10]; exact (by repeat (first | exact h1 | (refine hb_new ?_; (first | omega | (simp; omega) | (simp; done))) | (refine hb_old ?_ ?_; rotate_left; focus (first | omega | (simp; omega) | (simp; done))) | refine hb_drew ?_))
          replace h2 : w10.heap[w1.heap.size]? = some (.cells #[.int .i64 S.a, .int .i64 S.b, .int .i64 S.c] 23 (0, 0)) := by rw [hw10]; exact (by repeat (first | exact h2 | (refine hb_new ?_; (first | omega | (simp; omega) | (simp; done))) | (refine hb_old ?_ ?_; rotate_left; focus (first | omega | (simp; omega) | (simp; done))) | refine hb_drew ?_))
          replace h3 : w10.heap[w1.heap.size + 1]? = some (.cells #[.int .i64 x.a, .int .i64 x.b, .int .i64 x.c, .int .i64 x.d] 40 (0, 0)) := by rw [hw10]; exact (by repeat (first | exact h3 | (refine hb_new ?_; (first | omega | (simp; omega) | (simp; done))) | (refine hb_old ?_ ?_; rotate_left; focus (first | omega | (simp; omega) | (simp; done))) | refine hb_drew ?_))
          replace h4 : w10.heap[w6.heap.size]? = some (.cells #[.int .i64 ol.a, .int .i64 ol.b, .int .i64 ol.c] 23 (0, 0)) := by rw [hw10]; exact (by repeat (first | exact h4 | (refine hb_new ?_; (first | omega | (simp; omega) | (simp; done))) | (refine hb_old ?_ ?_; rotate_left; focus (first | omega | (simp; omega) | (simp; done))) | refine hb_drew ?_))
          have h5 : w10.heap[w9.heap.size]? = some (.cells #[.int .i64 S.a, .int .i64 S.b, .int .i64 S.c] 23 (0, 0)) := by rw [hw10]; exact (by repeat (first | (refine hb_new ?_; (first | omega | (simp; omega) | (simp; done))) | (refine hb_old ?_ ?_; rotate_left; focus (first | omega | (simp; omega) | (simp; done))) | refine hb_drew ?_))
          have h6 : w10.heap[w9.heap.size + 1]? = some (.cells #[.int .i64 y.a, .int .i64 y.b, .int .i64 y.c, .int .i64 y.d] 40 (0, 0)) := by rw [hw10]; exact (by repeat (first | (refine hb_new ?_; (first | omega | (simp; omega) | (simp; done))) | (refine hb_old ?_ ?_; rotate_left; focus (first | omega | (simp; omega) | (simp; done))) | refine hb_drew ?_))
          have hb : Below w9.heap.size w9 w10 := by rw [hw10]; exact (by repeat (first | exact Below.refl _ _ | refine Below.alloc ?_ (by first | omega | (simp; omega) | (simp; done)) _ | refine Below.drew ?_))
          have s10 : w9.heap.size + 1 + 1 ≤ w10.heap.size := by rw [hw10]; simp
          have y10 := Below.size hb
          try simp only [World.size_alloc, World.size_drew] at y10
          have D10 := Lib.hid (show Below w.heap.size w w10 from Below.trans (by repeat (first | exact D9.out | exact Below.refl _ _ | refine Below.alloc ?_ (by first | omega | (simp; omega) | (simp; done)) _)) (Below.mono hb (by first | omega | (simp; omega) | (simp; done))))
          have z10 := D10.out.size
          clear hb hw10
          try clear c0_0 f0_0 c0_1 f0_1 c0_2 f0_2
          obtain ⟨c0_0, f0_0, c0_1, f0_1, c0_2, f0_2⟩ := cells3 h0
          try clear c1_0 f1_0 c1_1 f1_1 c1_2 f1_2 c1_3 f1_3
          obtain ⟨c1_0, f1_0, c1_1, f1_1, c1_2, f1_2, c1_3, f1_3⟩ := cells4 h1
          try clear c2_0 f2_0 c2_1 f2_1 c2_2 f2_2
          obtain ⟨c2_0, f2_0, c2_1, f2_1, c2_2, f2_2⟩ := cells3 h2
          try clear c3_0 f3_0 c3_1 f3_1 c3_2 f3_2 c3_3 f3_3
          obtain ⟨c3_0, f3_0, c3_1, f3_1, c3_2, f3_2, c3_3, f3_3⟩ := cells4 h3
          try clear c4_0 f4_0 c4_1 f4_1 c4_2 f4_2
          obtain ⟨c4_0, f4_0, c4_1, f4_1, c4_2, f4_2⟩ := cells3 h4
          try clear c5_0 f5_0 c5_1 f5_1 c5_2 f5_2
          obtain ⟨c5_0, f5_0, c5_1, f5_1, c5_2, f5_2⟩ := cells3 h5
          try clear c6_0 f6_0 c6_1 f6_1 c6_2 f6_2 c6_3 f6_3
          obtain ⟨c6_0, f6_0, c6_1, f6_1, c6_2, f6_2, c6_3, f6_3⟩ := cells4 h6
          refine (H7.out _ (HG.out.next (Below.trans D10.out (by repeat (first | exact Below.refl _ _ | refine Below.alloc ?_ (by first | omega | (simp; omega) | (simp; done)) _))))).mono ?_
          rintro e w11 ⟨rfl, hb⟩
          replace h0 : w11.heap[w.heap.size]? = some (.cells #[.int .i64 l.a, .int .i64 l.b, .int .i64 l.c] 23 (0, 0)) := hb_below hb (by repeat (first | exact h0 | (refine hb_new ?_; (first | omega | (simp; omega) | (simp; done))) | (refine hb_old ?_ ?_; rotate_left; focus (first | omega | (simp; omega) | (simp; done))) | refine hb_drew ?_)) (by first | omega | (simp; omega) | (simp; done))
          replace h1 : w11.heap[w.heap.size + 1]? = some (.cells #[.int .i64 ka, .int .i64 kb, .int .i64 kc, .int .i64 kd] 40 (0, 0)) := hb_below hb (by repeat (first | exact h1 | (refine hb_new ?_; (first | omega | (simp; omega) | (simp; done))) | (refine hb_old ?_ ?_; rotate_left; focus (first | omega | (simp; omega) | (simp; done))) | refine hb_drew ?_)) (by first | omega | (simp; omega) | (simp; done))
          replace h2 : w11.heap[w1.heap.size]? = some (.cells #[.int .i64 S.a, .int .i64 S.b, .int .i64 S.c] 23 (0, 0)) := hb_below hb (by repeat (first | exact h2 | (refine hb_new ?_; (first | omega | (simp; omega) | (simp; done))) | (refine hb_old ?_ ?_; rotate_left; focus (first | omega | (simp; omega) | (simp; done))) | refine hb_drew ?_)) (by first | omega | (simp; omega) | (simp; done))
          replace h3 : w11.heap[w1.heap.size + 1]? = some (.cells #[.int .i64 x.a, .int .i64 x.b, .int .i64 x.c, .int .i64 x.d] 40 (0, 0)) := hb_below hb (by repeat (first | exact h3 | (refine hb_new ?_; (first | omega | (simp; omega) | (simp; done))) | (refine hb_old ?_ ?_; rotate_left; focus (first | omega | (simp; omega) | (simp; done))) | refine hb_drew ?_)) (by first | omega | (simp; omega) | (simp; done))
          replace h4 : w11.heap[w6.heap.size]? = some (.cells #[.int .i64 ol.a, .int .i64 ol.b, .int .i64 ol.c] 23 (0, 0)) := hb_below hb (by repeat (first | exact h4 | (refine hb_new ?_; (first | omega | (simp; omega) | (simp; done))) | (refine hb_old ?_ ?_; rotate_left; focus (first | omega | (simp; omega) | (simp; done))) | refine hb_drew ?_)) (by first | omega | (simp; omega) | (simp; done))
          replace h5 : w11.heap[w9.heap.size]? = some (.cells #[.int .i64 S.a, .int .i64 S.b, .int .i64 S.c] 23 (0, 0)) := hb_below hb (by repeat (first | exact h5 | (refine hb_new ?_; (first | omega | (simp; omega) | (simp; done))) | (refine hb_old ?_ ?_; rotate_left; focus (first | omega | (simp; omega) | (simp; done))) | refine hb_drew ?_)) (by first | omega | (simp; omega) | (simp; done))
          replace h6 : w11.heap[w9.heap.size + 1]? = some (.cells #[.int .i64 y.a, .int .i64 y.b, .int .i64 y.c, .int .i64 y.d] 40 (0, 0)) := hb_below hb (by repeat (first | exact h6 | (refine hb_new ?_; (first | omega | (simp; omega) | (simp; done))) | (refine hb_old ?_ ?_; rotate_left; focus (first | omega | (simp; omega) | (simp; done))) | refine hb_drew ?_)) (by first | omega | (simp; omega) | (simp; done))
          have y11 := Below.size hb
          try simp only [World.size_alloc, World.size_drew] at y11
          have D11 := Lib.hid (show Below w.heap.size w w11 from Below.trans (by repeat (first | exact D10.out | exact Below.refl _ _ | refine Below.alloc ?_ (by first | omega | (simp; omega) | (simp; done)) _)) (Below.mono hb (by first | omega | (simp; omega) | (simp; done))))
          have z11 := D11.out.size
          clear hb
          try clear c0_0 f0_0 c0_1 f0_1 c0_2 f0_2
          obtain ⟨c0_0, f0_0, c0_1, f0_1, c0_2, f0_2⟩ := cells3 h0
          try clear c1_0 f1_0 c1_1 f1_1 c1_2 f1_2 c1_3 f1_3
          obtain ⟨c1_0, f1_0, c1_1, f1_1, c1_2, f1_2, c1_3, f1_3⟩ := cells4 h1
          try clear c2_0 f2_0 c2_1 f2_1 c2_2 f2_2
          obtain ⟨c2_0, f2_0, c2_1, f2_1, c2_2, f2_2⟩ := cells3 h2
          try clear c3_0 f3_0 c3_1 f3_1 c3_2 f3_2 c3_3 f3_3
          obtain ⟨c3_0, f3_0, c3_1, f3_1, c3_2, f3_2, c3_3, f3_3⟩ := cells4 h3
          try clear c4_0 f4_0 c4_1 f4_1 c4_2 f4_2
          obtain ⟨c4_0, f4_0, c4_1, f4_1, c4_2, f4_2⟩ := cells3 h4
          try clear c5_0 f5_0 c5_1 f5_1 c5_2 f5_2
          obtain ⟨c5_0, f5_0, c5_1, f5_1, c5_2, f5_2⟩ := cells3 h5
          try clear c6_0 f6_0 c6_1 f6_1 c6_2 f6_2 c6_3 f6_3
          obtain ⟨c6_0, f6_0, c6_1, f6_1, c6_2, f6_2, c6_3, f6_3⟩ := cells4 h6
          go_wp2_with fail
          go_ret
          exact ⟨by first | rfl | (simp [*]; done) | (simp; omega), D11.out⟩)
    · have hq1 : (kdet != 1) = true := by simp only [bne_iff_ne, ne_eq]; exact fun h => hk (.inl h)
      have hq2 : (kdet != -1) = true := by simp only [bne_iff_ne, ne_eq]; exact fun h => hk (.inr h)
      go_wp2_with fail
      obtain ⟨w7, hw7⟩ : ∃ W, W = (w6.alloc (.cells #[.int .i64 ol.a, .int .i64 ol.b, .int .i64 ol.c] 23)) := ⟨_, rfl⟩
      rw [← hw7]
      replace h0 : w7.heap[w.heap.size]? = some (.cells #[.int .i64 l.a, .int .i64 l.b, .int .i64 l.c] 23 (0, 0)) := by rw [hw7]; exact (by repeat (first | exact h0 | (refine hb_new ?_; (first | omega | (simp; omega) | (simp; done))) | (refine hb_old ?_ ?_; rotate_left; focus (first | omega | (simp; omega) | (simp; done))) | refine hb_drew ?_))
      replace h1 : w7.heap[w.heap.size + 1]? = some (.cells #[.int .i64 ka, .int .i64 kb, .int .i64 kc, .int .i64 kd] 40 (0, 0)) := by rw [hw7]; exact (by repeat (first | exact h1 | (refine hb_new ?_; (first | omega | (simp; omega) | (simp; done))) | (refine hb_old ?_ ?_; rotate_left; focus (first | omega | (simp; omega) | (simp; done))) | refine hb_drew ?_))
      replace h2 : w7.heap[w1.heap.size]? = some (.cells #[.int .i64 L.a, .int .i64 L.b, .int .i64 L.c] 23 (0, 0)) := by rw [hw7]; exact (by repeat (first | exact h2 | (refine hb_new ?_; (first | omega | (simp; omega) | (simp; done))) | (refine hb_old ?_ ?_; rotate_left; focus (first | omega | (simp; omega) | (simp; done))) | refine hb_drew ?_))
      replace h3 : w7.heap[w1.heap.size + 1]? = some (.cells #[.int .i64 x.a, .int .i64 x.b, .int .i64 x.c, .int .i64 x.d] 40 (0, 0)) := by rw [hw7]; exact (by repeat (first | exact h3 | (refine hb_new ?_; (first | omega | (simp; omega) | (simp; done))) | (refine hb_old ?_ ?_; rotate_left; focus (first | omega | (simp; omega) | (simp; done))) | refine hb_drew ?_))
      have h4 : w7.heap[w6.heap.size]? = some (.cells #[.int .i64 ol.a, .int .i64 ol.b, .int .i64 ol.c] 23 (0, 0)) := by rw [hw7]; exact (by repeat (first | (refine hb_new ?_; (first | omega | (simp; omega) | (simp; done))) | (refine hb_old ?_ ?_; rotate_left; focus (first | omega | (simp; omega) | (simp; done))) | refine hb_drew ?_))
      have hb : Below w6.heap.size w6 w7 := by rw [hw7]; exact (by repeat (first | exact Below.refl _ _ | refine Below.alloc ?_ (by first | omega | (simp; omega) | (simp; done)) _ | refine Below.drew ?_))
      have s7 : w6.heap.size + 1 ≤ w7.heap.size := by rw [hw7]; simp
      have y7 := Below.size hb
      try simp only [World.size_alloc, World.size_drew] at y7
      have D7 := Lib.hid (show Below w.heap.size w w7 from Below.trans (by repeat (first | exact D6.out | exact Below.refl _ _ | refine Below.alloc ?_ (by first | omega | (simp; omega) | (simp; done)) _)) (Below.mono hb (by first | omega | (simp; omega) | (simp; done))))
      have z7 := D7.out.size
      clear hb hw7
      try clear c0_0 f0_0 c0_1 f0_1 c0_2 f0_2
      obtain ⟨c0_0, f0_0, c0_1, f0_1, c0_2, f0_2⟩ := cells3 h0
      try clear c1_0 f1_0 c1_1 f1_1 c1_2 f1_2 c1_3 f1_3
      obtain ⟨c1_0, f1_0, c1_1, f1_1, c1_2, f1_2, c1_3, f1_3⟩ := cells4 h1
      try clear c2_0 f2_0 c2_1 f2_1 c2_2 f2_2
      obtain ⟨c2_0, f2_0, c2_1, f2_1, c2_2, f2_2⟩ := cells3 h2
      try clear c3_0 f3_0 c3_1 f3_1 c3_2 f3_2 c3_3 f3_3
      obtain ⟨c3_0, f3_0, c3_1, f3_1, c3_2, f3_2, c3_3, f3_3⟩ := cells4 h3
      try clear c4_0 f4_0 c4_1 f4_1 c4_2 f4_2
      obtain ⟨c4_0, f4_0, c4_1, f4_1, c4_2, f4_2⟩ := cells3 h4
      refine (H7.out _ (HG.out.next (Below.trans D7.out (by repeat (first | exact Below.refl _ _ | refine Below.alloc ?_ (by first | omega | (simp; omega) | (simp; done)) _))))).mono ?_
      rintro e w8 ⟨rfl, hb⟩
      replace h0 : w8.heap[w.heap.size]? = some (.cells #[.int .i64 l.a, .int .i64 l.b, .int .i64 l.c] 23 (0, 0)) := hb_below hb (by repeat (first | exact h0 | (refine hb_new ?_; (first | omega | (simp; omega) | (simp; done))) | (refine hb_old ?_ ?_; rotate_left; focus (first | omega | (simp; omega) | (simp; done))) | refine hb_drew ?_)) (by first | omega | (simp; omega) | (simp; done))
      replace h1 : w8.heap[w.heap.size + 1]? = some (.cells #[.int .i64 ka, .int .i64 kb, .int .i64 kc, .int .i64 kd] 40 (0, 0)) := hb_below hb (by repeat (first | exact h1 | (refine hb_new ?_; (first | omega | (simp; omega) | (simp; done))) | (refine hb_old ?_ ?_; rotate_left; focus (first | omega | (simp; omega) | (simp; done))) | refine hb_drew ?_)) (by first | omega | (simp; omega) | (simp; done))
      replace h2 : w8.heap[w1.heap.size]? = some (.cells #[.int .i64 L.a, .int .i64 L.b, .int .i64 L.c] 23 (0, 0)) := hb_below hb (by repeat (first | exact h2 | (refine hb_new ?_; (first | omega | (simp; omega) | (simp; done))) | (refine hb_old ?_ ?_; rotate_left; focus (first | omega | (simp; omega) | (simp; done))) | refine hb_drew ?_)) (by first | omega | (simp; omega) | (simp; done))
      replace h3 : w8.heap[w1.heap.size + 1]? = some (.cells #[.int .i64 x.a, .int .i64 x.b, .int .i64 x.c, .int .i64 x.d] 40 (0, 0)) := hb_below hb (by repeat (first | exact h3 | (refine hb_new ?_; (first | omega | (simp; omega) | (simp; done))) | (refine hb_old ?_ ?_; rotate_left; focus (first | omega | (simp; omega) | (simp; done))) | refine hb_drew ?_)) (by first | omega | (simp; omega) | (simp; done))
      replace h4 : w8.heap[w6.heap.size]? = some (.cells #[.int .i64 ol.a, .int .i64 ol.b, .int .i64 ol.c] 23 (0, 0)) := hb_below hb (by repeat (first | exact h4 | (refine hb_new ?_; (first | omega | (simp; omega) | (simp; done))) | (refine hb_old ?_ ?_; rotate_left; focus (first | omega | (simp; omega) | (simp; done))) | refine hb_drew ?_)) (by first | omega | (simp; omega) | (simp; done))
      have y8 := Below.size hb
      try simp only [World.size_alloc, World.size_drew] at y8
      have D8 := Lib.hid (show Below w.heap.size w w8 from Below.trans (by repeat (first | exact D7.out | exact Below.refl _ _ | refine Below.alloc ?_ (by first | omega | (simp; omega) | (simp; done)) _)) (Below.mono hb (by first | omega | (simp; omega) | (simp; done))))
      have z8 := D8.out.size
      clear hb
      try clear c0_0 f0_0 c0_1 f0_1 c0_2 f0_2
      obtain ⟨c0_0, f0_0, c0_1, f0_1, c0_2, f0_2⟩ := cells3 h0
      try clear c1_0 f1_0 c1_1 f1_1 c1_2 f1_2 c1_3 f1_3
      obtain ⟨c1_0, f1_0, c1_1, f1_1, c1_2, f1_2, c1_3, f1_3⟩ := cells4 h1
      try clear c2_0 f2_0 c2_1 f2_1 c2_2 f2_2
      obtain ⟨c2_0, f2_0, c2_1, f2_1, c2_2, f2_2⟩ := cells3 h2
      try clear c3_0 f3_0 c3_1 f3_1 c3_2 f3_2 c3_3 f3_3
      obtain ⟨c3_0, f3_0, c3_1, f3_1, c3_2, f3_2, c3_3, f3_3⟩ := cells4 h3
      try clear c4_0 f4_0 c4_1 f4_1 c4_2 f4_2
      obtain ⟨c4_0, f4_0, c4_1, f4_1, c4_2, f4_2⟩ := cells3 h4
      go_wp2_with fail
      go_ret
      exact ⟨by first | rfl | (simp [*]; done) | (simp; omega), D8.out⟩)
theorem reduced_any_law (l : Lat) (m : Mat) (w : World) (g : Glob w) : Calls Tryd.prog 9 #[l.val, m.val] w fun e w' => e = .returned (.bool true) ∧ Below w.heap.size w w' := by
  cases h : okL l
  · exact reduced_bad l m h w g
  · exact reduced_okl l m ((okL_iff l).1 h) w g
end Go.Proofs.YtjekfkmcgfnkaaaDoor
