/- in and near of the law. -/
import Derived.Test.YtjekfkmcgfnkaaaDoorJE
namespace Go.Proofs.YtjekfkmcgfnkaaaDoor
open Go.RowKit Go.Lib
set_option linter.unusedSimpArgs false
set_option linter.unusedVariables false
set_option maxHeartbeats 1000000 in
set_option maxRecDepth 100000 in
theorem near_any (p : Pt) (w : World) : Calls Tryd.prog 39 #[p.val] w fun e w' => e = .returned (.agg #[.int .i64 (p.x.tmod 11), .int .i64 (p.y.tmod 11)]) ∧ Below w.heap.size w w' := by
  have C1 := fun a b W => lPt_any a b W
  unfold Pt.val at *
  have H1 := Lib.hid C1
  clear C1
  go_enter Tryd.func39, Tryd.ntmps39
  go_wp2_with fail
  refine (H1.out _ _ _).mono ?_
  rintro e w1 ⟨rfl, hb⟩
  have h0 : w1.heap[w.heap.size]? = some (.cells #[.int .i64 p.x, .int .i64 p.y] 25 (0, 0)) := hb_below hb (by repeat (first | (refine hb_new ?_; (first | omega | (simp; omega) | (simp; done))) | (refine hb_old ?_ ?_; rotate_left; focus (first | omega | (simp; omega) | (simp; done))) | refine hb_drew ?_)) (by first | omega | (simp; omega) | (simp; done))
  have h1 : w1.heap[w.heap.size + 1]? = some (.cells #[.int .i64 0, .int .i64 0] 25 (0, 0)) := hb_below hb (by repeat (first | (refine hb_new ?_; (first | omega | (simp; omega) | (simp; done))) | (refine hb_old ?_ ?_; rotate_left; focus (first | omega | (simp; omega) | (simp; done))) | refine hb_drew ?_)) (by first | omega | (simp; omega) | (simp; done))
  have y1 := Below.size hb
  try simp only [World.size_alloc, World.size_drew] at y1
  have D1 := Lib.hid (show Below w.heap.size w w1 from Below.trans (by repeat (first | exact Below.refl _ _ | refine Below.alloc ?_ (by first | omega | (simp; omega) | (simp; done)) _)) (Below.mono hb (by first | omega | (simp; omega) | (simp; done))))
  have z1 := D1.out.size
  clear hb
  try clear c0_0 f0_0 c0_1 f0_1
  obtain ⟨c0_0, f0_0, c0_1, f0_1⟩ := cells2 h0
  try clear c1_0 f1_0 c1_1 f1_1
  obtain ⟨c1_0, f1_0, c1_1, f1_1⟩ := cells2 h1
  go_wp2_with fail
  have q1 := (Below.heap_setCell w1 ⟨w.heap.size + 1, 0, none⟩ (.int .i64 (p.x.tmod 11)) (w.heap.size) (by first | omega | assumption | (apply Ne.symm; assumption) | (simp; done) | (simp; omega))).trans h0
  have q2 := heap_setCell_same w1 (w.heap.size + 1) 0 _ _ (.int .i64 (p.x.tmod 11)) h1
  have q3 := (Below.heap_setCell (w1.setCell ⟨w.heap.size + 1, 0, none⟩ (.int .i64 (p.x.tmod 11))) ⟨w.heap.size + 1, 1, none⟩ (.int .i64 (p.y.tmod 11)) (w.heap.size) (by first | omega | assumption | (apply Ne.symm; assumption) | (simp; done) | (simp; omega))).trans q1
  have q4 := heap_setCell_same (w1.setCell ⟨w.heap.size + 1, 0, none⟩ (.int .i64 (p.x.tmod 11))) (w.heap.size + 1) 1 _ _ (.int .i64 (p.y.tmod 11)) q2
  obtain ⟨w2, hw2⟩ : ∃ W, W = ((w1.setCell ⟨w.heap.size + 1, 0, none⟩ (.int .i64 (p.x.tmod 11))).setCell ⟨w.heap.size + 1, 1, none⟩ (.int .i64 (p.y.tmod 11))) := ⟨_, rfl⟩
  rw [← hw2]
  replace h0 : w2.heap[w.heap.size]? = some (.cells #[.int .i64 p.x, .int .i64 p.y] 25 (0, 0)) := by rw [hw2]; exact q3
  replace h1 : w2.heap[w.heap.size + 1]? = some (.cells #[.int .i64 (p.x.tmod 11), .int .i64 (p.y.tmod 11)] 25 (0, 0)) := by rw [hw2]; exact q4
  have D2 := Lib.hid (show Below w.heap.size w w2 by rw [hw2]; exact (Below.setCell (Below.setCell D1.out (p := ⟨w.heap.size + 1, 0, none⟩) (by first | omega | (simp; done) | (simp; omega)) (.int .i64 (p.x.tmod 11))) (p := ⟨w.heap.size + 1, 1, none⟩) (by first | omega | (simp; done) | (simp; omega)) (.int .i64 (p.y.tmod 11))))
  have z2 := D2.out.size
  have y2 : w2.heap.size = w1.heap.size := by rw [hw2]; simp
  clear q4 q3 q2 q1 hw2
  try clear c0_0 f0_0 c0_1 f0_1
  obtain ⟨c0_0, f0_0, c0_1, f0_1⟩ := cells2 h0
  try clear c1_0 f1_0 c1_1 f1_1
  obtain ⟨c1_0, f1_0, c1_1, f1_1⟩ := cells2 h1
  refine bodyPost_ret (results_cell_row rfl _ _ (w.heap.size + 1) _ _ (0, 0) _ rfl h1 Tryd.underlying25 rfl (by kernel_rfl)) rfl ⟨rfl, D2.out⟩
set_option maxHeartbeats 2000000 in
set_option maxRecDepth 100000 in
theorem in_any {b off cap : Nat} {ob : Obj} {G : List Mat} {w0 : World} (h0 : w0.heap[b]? = some ob) (hr0 : ∀ k m, G[k]? = some m → w0.rangeAt b (off + k * 4) (ml m)) (hn : G.length ≤ 100) (m : Mat) (w : World) (hb0 : w.heap[b]? = some ob) :
    Calls Tryd.prog 41 #[.slice (some ⟨b, off, none⟩) G.length cap, m.val] w fun e w' => e = .returned (.bool (decide (m ∈ G))) ∧ Below w.heap.size w w' := by
  have HB0 := Lib.hid h0
  have HR0 := Lib.hid hr0
  have hlt0 : b < w.heap.size := (Array.getElem?_eq_some_iff.1 hb0).1
  unfold Mat.val
  generalize hv : decide (m ∈ G) = v
  have HV := Lib.hid hv
  clear hv h0 hr0
  go_enter Tryd.func41, Tryd.ntmps41
  go_wp2_with fail
  obtain ⟨w1, hw1⟩ : ∃ W, W = (w.alloc (.cells #[.int .i64 m.a, .int .i64 m.b, .int .i64 m.c, .int .i64 m.d] 40)) := ⟨_, rfl⟩
  rw [← hw1]
  have h0 : w1.heap[w.heap.size]? = some (.cells #[.int .i64 m.a, .int .i64 m.b, .int .i64 m.c, .int .i64 m.d] 40 (0, 0)) := by rw [hw1]; exact (by repeat (first | (refine hb_new ?_; (first | omega | (simp; omega) | (simp; done))) | (refine hb_old ?_ ?_; rotate_left; focus (first | omega | (simp; omega) | (simp; done))) | refine hb_drew ?_))
  have hb : Below w.heap.size w w1 := by rw [hw1]; exact (by repeat (first | exact Below.refl _ _ | refine Below.alloc ?_ (by first | omega | (simp; omega) | (simp; done)) _ | refine Below.drew ?_))
  have s1 : w.heap.size + 1 ≤ w1.heap.size := by rw [hw1]; simp
  have y1 := Below.size hb
  try simp only [World.size_alloc, World.size_drew] at y1
  have D1 := Lib.hid (show Below w.heap.size w w1 from Below.trans (by repeat (first | exact Below.refl _ _ | refine Below.alloc ?_ (by first | omega | (simp; omega) | (simp; done)) _)) (Below.mono hb (by first | omega | (simp; omega) | (simp; done))))
  have z1 := D1.out.size
  clear hb hw1
  try clear c0_0 f0_0 c0_1 f0_1 c0_2 f0_2 c0_3 f0_3
  obtain ⟨c0_0, f0_0, c0_1, f0_1, c0_2, f0_2, c0_3, f0_3⟩ := cells4 h0
  have hg1 : w1.heap[b]? = some ob := hb_below D1.out hb0 hlt0
  clear hb0
  go_loopg [5] G.length (fun kk s wr => ∃ i : Nat, i ≤ G.length ∧ G.length - i ≤ kk ∧ s = .int .i64 i ∧ (∀ j, j < i → G[j]? ≠ some m) ∧ wr.heap[w.heap.size]? = some (.cells #[.int .i64 m.a, .int .i64 m.b, .int .i64 m.c, .int .i64 m.d] 40 (0, 0)) ∧ wr.heap[b]? = some ob ∧ w1.heap.size ≤ wr.heap.size ∧ Below w.heap.size w wr)
  case atStart => exact ⟨0, by omega, by omega, rfl, fun j h => absurd h (by omega), h0, hg1, Nat.le_refl _, D1.out⟩
  case round =>
    rename World => w50
    obtain ⟨i, hi, hkk, rfl, hno, g0, gb, y50, hb⟩ := hrel
    try clear c0_0 f0_0 c0_1 f0_1 c0_2 f0_2 c0_3 f0_3
    clear h0 hg1
    have h0 := g0
    clear g0
    have D50 := Lib.hid hb
    have z50 := D50.out.size
    have HN := Lib.hid hno
    clear hb hno
    try clear c0_0 f0_0 c0_1 f0_1 c0_2 f0_2 c0_3 f0_3
    obtain ⟨c0_0, f0_0, c0_1, f0_1, c0_2, f0_2, c0_3, f0_3⟩ := cells4 h0
    by_cases hlt : i < G.length
    · obtain ⟨x, hx⟩ : ∃ x, G[i]? = some x := ⟨_, List.getElem?_eq_getElem hlt⟩
      have hr := range_obj HB0.out gb (HR0.out i x hx)
      have hbl : b < w50.heap.size := (Array.getElem?_eq_some_iff.1 gb).1
      have i0 : (0 : Int) ≤ (i : Int) := by omega
      have i1 : (i : Int) < ((G.length : Nat) : Int) := by omega
      have HX := Lib.hid hx
      have HR := Lib.hid hr
      clear hx hr
      go_wp2_with fail
      try clear c0_0 f0_0 c0_1 f0_1 c0_2 f0_2 c0_3 f0_3
      refine wp_region_class (fun w' => Below w50.heap.size w50 w') 5 (by kernel_rfl) (by kernel_rfl) (Below.refl _ w50).drew ?_
      simp only [List.take_succ_cons, List.take_zero, List.drop_succ_cons, List.drop_zero]
      refine quiet_move rfl _ rfl ?_
      simp only [Act.put, List.setIfInBounds_toArray, List.set_cons_zero, List.set_cons_succ]
      refine quiet_move rfl _ rfl ?_
      simp only [Act.put, List.setIfInBounds_toArray, List.set_cons_zero, List.set_cons_succ]
      refine quiet_still rfl (.pointer (some ⟨b, off + i * 4, none⟩)) (fun w _ => by go_simp) ?_
      simp only [Act.put, List.setIfInBounds_toArray, List.set_cons_zero, List.set_cons_succ]
      refine quiet_load_mid rfl _ _ rfl b (off + i * 4) rfl [.int .i64 x.a, .int .i64 x.b, .int .i64 x.c, .int .i64 x.d] _ (fun w' h => range_belowM HR.out h hbl) Tryd.underlying40 rfl (by kernel_rfl) ?_
      simp only [Act.put, List.setIfInBounds_toArray, List.set_cons_zero, List.set_cons_succ]
      refine quiet_load_mid rfl _ _ rfl _ _ rfl _ _ (fun w' h => range_of_heap (hb_below h h0 (by omega))) Tryd.underlying40 rfl (by kernel_rfl) ?_
      simp only [Act.put, List.setIfInBounds_toArray, List.set_cons_zero, List.set_cons_succ]
      intro w51 hb
      have gb2 : w51.heap[b]? = some ob := hb_below hb gb hbl
      replace h0 : w51.heap[w.heap.size]? = some (.cells #[.int .i64 m.a, .int .i64 m.b, .int .i64 m.c, .int .i64 m.d] 40 (0, 0)) := hb_below hb (by repeat (first | exact h0 | (refine hb_new ?_; (first | omega | (simp; omega) | (simp; done))) | (refine hb_old ?_ ?_; rotate_left; focus (first | omega | (simp; omega) | (simp; done))) | refine hb_drew ?_)) (by first | omega | (simp; omega) | (simp; done))
      have y51 := Below.size hb
      try simp only [World.size_alloc, World.size_drew] at y51
      have D51 := Lib.hid (show Below w.heap.size w w51 from Below.trans (by repeat (first | exact D50.out | exact Below.refl _ _ | refine Below.alloc ?_ (by first | omega | (simp; omega) | (simp; done)) _)) (Below.mono hb (by first | omega | (simp; omega) | (simp; done))))
      have z51 := D51.out.size
      clear hb gb
      try clear c0_0 f0_0 c0_1 f0_1 c0_2 f0_2 c0_3 f0_3
      obtain ⟨c0_0, f0_0, c0_1, f0_1, c0_2, f0_2, c0_3, f0_3⟩ := cells4 h0
      by_cases he : x = m
      · have hV : v = true := by rw [← HV.out]; exact decide_eq_true (he ▸ List.mem_of_getElem? HX.out)
        subst hV
        subst he
        skip
        go_wp2_with fail
        go_ret
        exact ⟨rfl, D51.out⟩
      · have hne : ¬ (x.a = m.a ∧ x.b = m.b ∧ x.c = m.c ∧ x.d = m.d) := fun h => he (by cases x; cases m; simp only [Mat.mk.injEq]; exact h)
        have hno2 : ∀ j, j < i + 1 → G[j]? ≠ some m := fun j hj => by
          rcases Nat.lt_or_ge j i with h | h
          · exact HN.out j h
          · obtain rfl : j = i := by omega
            rw [HX.out]; exact fun h => he (Option.some.inj h)
        have HN2 := Lib.hid hno2
        clear hno2 he
        go_wp2_with fail
        all_goals (
          go_roundg (G.length - (i + 1))
          case measure => omega
          case rel => exact ⟨i + 1, hlt, Nat.le_refl _, by go_num, HN2.out, h0, gb2, by omega, D51.out⟩)
    · obtain rfl : i = G.length := by omega
      have hV : v = false := by
        rw [← HV.out]
        refine decide_eq_false fun hm => ?_
        obtain ⟨j, hj, he⟩ := List.mem_iff_getElem.1 hm
        exact HN.out j hj (by rw [List.getElem?_eq_getElem hj, he])
      subst hV
      go_wp2_with fail
      go_ret
      exact ⟨rfl, D50.out⟩
end Go.Proofs.YtjekfkmcgfnkaaaDoor
