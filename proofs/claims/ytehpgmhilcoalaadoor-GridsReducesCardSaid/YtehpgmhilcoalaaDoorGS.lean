/- reduced. -/
import Derived.Test.YtehpgmhilcoalaaDoorGR
import Derived.Deep.LoopGhost
namespace Go.Proofs.YtehpgmhilcoalaaDoor
open Go.RowKit Go.Lib
set_option linter.unusedSimpArgs false
set_option linter.unusedVariables false
theorem cell_of_heapF {W : World} {b j : Nat} {vs : List Value} {v : Value} {T : TypeId} {fr : Nat × Nat} (h : W.heap[b]? = some (.cells vs.toArray T fr)) (hv : vs[j]? = some v) : W.cell? ⟨b, j, none⟩ = some v := by
  rw [cell_of_row _ _ j _ _ _ h, List.getElem?_toArray, hv]
/-- What the listed variable holds. -/
structure Glob (w : World) : Prop where
  one : ∃ t fr, w.heap[0]? = some (.cells #[.int .i64 1, .int .i64 0, .int .i64 0, .int .i64 1] t fr)
  sz : 1 ≤ w.heap.size
theorem Glob.next {w w' : World} (g : Glob w) (h : Below w.heap.size w w') : Glob w' :=
  ⟨by rw [h.block _ g.sz]; exact g.one, Nat.le_trans g.sz h.size⟩
def RedI (l : Lat) (w : World) (L : Lat) (M : Mat) (wr : World) : Prop :=
  Ok L ∧ Unit1 M ∧ led l M = L ∧ wr.heap[w.heap.size]? = some (.cells #[.int .i64 L.a, .int .i64 L.b, .int .i64 L.c] 23 (0, 0)) ∧
  wr.heap[w.heap.size + 1]? = some (.cells #[.int .i64 0, .int .i64 0, .int .i64 0] 23 (0, 0)) ∧
  wr.heap[w.heap.size + 1 + 1]? = some (.cells #[.int .i64 0, .int .i64 0, .int .i64 0, .int .i64 0] 40 (0, 0)) ∧
  wr.heap[w.heap.size + 1 + 1 + 1]? = some (.cells #[.int .i64 M.a, .int .i64 M.b, .int .i64 M.c, .int .i64 M.d] 40 (0, 0)) ∧
  w.heap.size + 1 + 1 + 1 + 1 ≤ wr.heap.size ∧ Below w.heap.size w wr
set_option maxHeartbeats 4000000 in
set_option maxRecDepth 100000 in
theorem reduced_any (l : Lat) (hl : Ok l) (w : World) (g : Glob w) : Calls Tryd.prog 84 #[l.val] w fun e w' => ∃ L M, e = .returned (.tuple #[L.val, M.val]) ∧ (Red L ∧ Ok L ∧ Unit1 M ∧ led l M = L) ∧ Below w.heap.size w w' := by
  have Hl := Lib.hid hl
  clear hl
  unfold Lat.val Mat.val
  obtain ⟨t1, fr1, h1g⟩ := g.one
  have g0 : 0 < w.heap.size := g.sz
  have c0 : w.cell? ⟨0, 0, none⟩ = some (.int .i64 1) := cell_of_heapF h1g (j := 0) rfl
  have c1 : w.cell? ⟨0, 1, none⟩ = some (.int .i64 0) := cell_of_heapF h1g (j := 1) rfl
  have c2 : w.cell? ⟨0, 2, none⟩ = some (.int .i64 0) := cell_of_heapF h1g (j := 2) rfl
  have c3 : w.cell? ⟨0, 3, none⟩ = some (.int .i64 1) := cell_of_heapF h1g (j := 3) rfl
  clear g h1g
  go_enter Tryd.func84, Tryd.ntmps84
  go_wp2_with fail
  go_wp2_with fail
  go_loopg [5, 6] (mu l) (fun k s5 s6 wr => ∃ (L : Lat) (M : Mat), mu L ≤ k ∧ RedI l w L M wr)
  case atStart =>
    refine ⟨l, Mat.one, Nat.le_refl _, Hl.out, .inl rfl, led_one l, ?_, ?_, ?_, ?_, ?_, ?_⟩
    · exact (by repeat (first | (refine hb_new ?_; (first | omega | (simp; omega) | (simp; done))) | (refine hb_old ?_ ?_; rotate_left; focus (first | omega | (simp; omega) | (simp; done))) | refine hb_drew ?_))
    · exact (by repeat (first | (refine hb_new ?_; (first | omega | (simp; omega) | (simp; done))) | (refine hb_old ?_ ?_; rotate_left; focus (first | omega | (simp; omega) | (simp; done))) | refine hb_drew ?_))
    · exact (by repeat (first | (refine hb_new ?_; (first | omega | (simp; omega) | (simp; done))) | (refine hb_old ?_ ?_; rotate_left; focus (first | omega | (simp; omega) | (simp; done))) | refine hb_drew ?_))
    · exact (by repeat (first | (refine hb_new ?_; (first | omega | (simp; omega) | (simp; done))) | (refine hb_old ?_ ?_; rotate_left; focus (first | omega | (simp; omega) | (simp; done))) | refine hb_drew ?_))
    · simp
    · exact (by repeat (first | exact Below.refl _ _ | refine Below.alloc ?_ (by first | omega | (simp; omega) | (simp; done)) _))
  case round =>
    rename World => w10
    obtain ⟨L, M, hmu, hOk, hU, hled, h0, h1, h2, h3, y10, hb⟩ := hrel
    have D10 := Lib.hid hb
    have HO := Lib.hid hOk
    have HU := Lib.hid hU
    have HE := Lib.hid hled
    have z10 := D10.out.size
    clear hb hOk hU hled c0 c1 c2 c3
    try clear c0_0
    have c0_0 := cell_of_heap h0 (j := 0) rfl
    try clear f0_0
    have f0_0 := frozen_of_heap h0 0
    try clear c0_1
    have c0_1 := cell_of_heap h0 (j := 1) rfl
    try clear f0_1
    have f0_1 := frozen_of_heap h0 1
    try clear c0_2
    have c0_2 := cell_of_heap h0 (j := 2) rfl
    try clear f0_2
    have f0_2 := frozen_of_heap h0 2
    try clear c1_0
    have c1_0 := cell_of_heap h1 (j := 0) rfl
    try clear f1_0
    have f1_0 := frozen_of_heap h1 0
    try clear c1_1
    have c1_1 := cell_of_heap h1 (j := 1) rfl
    try clear f1_1
    have f1_1 := frozen_of_heap h1 1
    try clear c1_2
    have c1_2 := cell_of_heap h1 (j := 2) rfl
    try clear f1_2
    have f1_2 := frozen_of_heap h1 2
    try clear c2_0
    have c2_0 := cell_of_heap h2 (j := 0) rfl
    try clear f2_0
    have f2_0 := frozen_of_heap h2 0
    try clear c2_1
    have c2_1 := cell_of_heap h2 (j := 1) rfl
    try clear f2_1
    have f2_1 := frozen_of_heap h2 1
    try clear c2_2
    have c2_2 := cell_of_heap h2 (j := 2) rfl
    try clear f2_2
    have f2_2 := frozen_of_heap h2 2
    try clear c2_3
    have c2_3 := cell_of_heap h2 (j := 3) rfl
    try clear f2_3
    have f2_3 := frozen_of_heap h2 3
    try clear c3_0
    have c3_0 := cell_of_heap h3 (j := 0) rfl
    try clear f3_0
    have f3_0 := frozen_of_heap h3 0
    try clear c3_1
    have c3_1 := cell_of_heap h3 (j := 1) rfl
    try clear f3_1
    have f3_1 := frozen_of_heap h3 1
    try clear c3_2
    have c3_2 := cell_of_heap h3 (j := 2) rfl
    try clear f3_2
    have f3_2 := frozen_of_heap h3 2
    try clear c3_3
    have c3_3 := cell_of_heap h3 (j := 3) rfl
    try clear f3_3
    have f3_3 := frozen_of_heap h3 3
    cases hbet : BetV L with
    | none =>
      have CB := fun W => better_any L HO.out W
      simp only [hbet, Option.isSome, Mat.val, Lat.val] at CB
      have H1 := Lib.hid CB
      have HR := Lib.hid (bet_red hbet HO.out)
      clear CB hbet
      go_wp2_with fail
      refine (H1.out _).mono ?_
      rintro e w11 ⟨rfl, hb⟩
      replace h0 : w11.heap[w.heap.size]? = some (.cells #[.int .i64 L.a, .int .i64 L.b, .int .i64 L.c] 23 (0, 0)) := hb_below hb (by repeat (first | exact h0 | (refine hb_new ?_; (first | omega | (simp; omega) | (simp; done))) | (refine hb_old ?_ ?_; rotate_left; focus (first | omega | (simp; omega) | (simp; done))) | refine hb_drew ?_)) (by first | omega | (simp; omega) | (simp; done))
      replace h1 : w11.heap[w.heap.size + 1]? = some (.cells #[.int .i64 0, .int .i64 0, .int .i64 0] 23 (0, 0)) := hb_below hb (by repeat (first | exact h1 | (refine hb_new ?_; (first | omega | (simp; omega) | (simp; done))) | (refine hb_old ?_ ?_; rotate_left; focus (first | omega | (simp; omega) | (simp; done))) | refine hb_drew ?_)) (by first | omega | (simp; omega) | (simp; done))
      replace h2 : w11.heap[w.heap.size + 1 + 1]? = some (.cells #[.int .i64 0, .int .i64 0, .int .i64 0, .int .i64 0] 40 (0, 0)) := hb_below hb (by repeat (first | exact h2 | (refine hb_new ?_; (first | omega | (simp; omega) | (simp; done))) | (refine hb_old ?_ ?_; rotate_left; focus (first | omega | (simp; omega) | (simp; done))) | refine hb_drew ?_)) (by first | omega | (simp; omega) | (simp; done))
      replace h3 : w11.heap[w.heap.size + 1 + 1 + 1]? = some (.cells #[.int .i64 M.a, .int .i64 M.b, .int .i64 M.c, .int .i64 M.d] 40 (0, 0)) := hb_below hb (by repeat (first | exact h3 | (refine hb_new ?_; (first | omega | (simp; omega) | (simp; done))) | (refine hb_old ?_ ?_; rotate_left; focus (first | omega | (simp; omega) | (simp; done))) | refine hb_drew ?_)) (by first | omega | (simp; omega) | (simp; done))
      have y11 := Below.size hb
      try simp only [World.size_alloc, World.size_drew] at y11
      have D11 := Lib.hid (show Below w.heap.size w w11 from Below.trans (by repeat (first | exact D10.out | exact Below.refl _ _ | refine Below.alloc ?_ (by first | omega | (simp; omega) | (simp; done)) _)) (Below.mono hb (by first | omega | (simp; omega) | (simp; done))))
      have z11 := D11.out.size
      clear hb
      try clear c0_0
      have c0_0 := cell_of_heap h0 (j := 0) rfl
      try clear f0_0
      have f0_0 := frozen_of_heap h0 0
      try clear c0_1
      have c0_1 := cell_of_heap h0 (j := 1) rfl
      try clear f0_1
      have f0_1 := frozen_of_heap h0 1
      try clear c0_2
      have c0_2 := cell_of_heap h0 (j := 2) rfl
      try clear f0_2
      have f0_2 := frozen_of_heap h0 2
      try clear c1_0
      have c1_0 := cell_of_heap h1 (j := 0) rfl
      try clear f1_0
      have f1_0 := frozen_of_heap h1 0
      try clear c1_1
      have c1_1 := cell_of_heap h1 (j := 1) rfl
      try clear f1_1
      have f1_1 := frozen_of_heap h1 1
      try clear c1_2
      have c1_2 := cell_of_heap h1 (j := 2) rfl
      try clear f1_2
      have f1_2 := frozen_of_heap h1 2
      try clear c2_0
      have c2_0 := cell_of_heap h2 (j := 0) rfl
      try clear f2_0
      have f2_0 := frozen_of_heap h2 0
      try clear c2_1
      have c2_1 := cell_of_heap h2 (j := 1) rfl
      try clear f2_1
      have f2_1 := frozen_of_heap h2 1
      try clear c2_2
      have c2_2 := cell_of_heap h2 (j := 2) rfl
      try clear f2_2
      have f2_2 := frozen_of_heap h2 2
      try clear c2_3
      have c2_3 := cell_of_heap h2 (j := 3) rfl
      try clear f2_3
      have f2_3 := frozen_of_heap h2 3
      try clear c3_0
      have c3_0 := cell_of_heap h3 (j := 0) rfl
      try clear f3_0
      have f3_0 := frozen_of_heap h3 0
      try clear c3_1
      have c3_1 := cell_of_heap h3 (j := 1) rfl
      try clear f3_1
      have f3_1 := frozen_of_heap h3 1
      try clear c3_2
      have c3_2 := cell_of_heap h3 (j := 2) rfl
      try clear f3_2
      have f3_2 := frozen_of_heap h3 2
      try clear c3_3
      have c3_3 := cell_of_heap h3 (j := 3) rfl
      try clear f3_3
      have f3_3 := frozen_of_heap h3 3
      go_wp2_with fail
      obtain ⟨w12, hw12⟩ : ∃ W, W = (w11.alloc (.cells #[.int .i64 0, .int .i64 0, .int .i64 0, .int .i64 0] 40)) := ⟨_, rfl⟩
      rw [← hw12]
      replace h0 : w12.heap[w.heap.size]? = some (.cells #[.int .i64 L.a, .int .i64 L.b, .int .i64 L.c] 23 (0, 0)) := by rw [hw12]; exact (by repeat (first | exact h0 | (refine hb_new ?_; (first | omega | (simp; omega) | (simp; done))) | (refine hb_old ?_ ?_; rotate_left; focus (first | omega | (simp; omega) | (simp; done))) | refine hb_drew ?_))
      replace h1 : w12.heap[w.heap.size + 1]? = some (.cells #[.int .i64 0, .int .i64 0, .int .i64 0] 23 (0, 0)) := by rw [hw12]; exact (by repeat (first | exact h1 | (refine hb_new ?_; (first | omega | (simp; omega) | (simp; done))) | (refine hb_old ?_ ?_; rotate_left; focus (first | omega | (simp; omega) | (simp; done))) | refine hb_drew ?_))
      replace h2 : w12.heap[w.heap.size + 1 + 1]? = some (.cells #[.int .i64 0, .int .i64 0, .int .i64 0, .int .i64 0] 40 (0, 0)) := by rw [hw12]; exact (by repeat (first | exact h2 | (refine hb_new ?_; (first | omega | (simp; omega) | (simp; done))) | (refine hb_old ?_ ?_; rotate_left; focus (first | omega | (simp; omega) | (simp; done))) | refine hb_drew ?_))
      replace h3 : w12.heap[w.heap.size + 1 + 1 + 1]? = some (.cells #[.int .i64 M.a, .int .i64 M.b, .int .i64 M.c, .int .i64 M.d] 40 (0, 0)) := by rw [hw12]; exact (by repeat (first | exact h3 | (refine hb_new ?_; (first | omega | (simp; omega) | (simp; done))) | (refine hb_old ?_ ?_; rotate_left; focus (first | omega | (simp; omega) | (simp; done))) | refine hb_drew ?_))
      have h4 : w12.heap[w11.heap.size]? = some (.cells #[.int .i64 0, .int .i64 0, .int .i64 0, .int .i64 0] 40 (0, 0)) := by rw [hw12]; exact (by repeat (first | (refine hb_new ?_; (first | omega | (simp; omega) | (simp; done))) | (refine hb_old ?_ ?_; rotate_left; focus (first | omega | (simp; omega) | (simp; done))) | refine hb_drew ?_))
      have hb : Below w11.heap.size w11 w12 := by rw [hw12]; exact (by repeat (first | exact Below.refl _ _ | refine Below.alloc ?_ (by first | omega | (simp; omega) | (simp; done)) _ | refine Below.drew ?_))
      have s12 : w11.heap.size + 1 ≤ w12.heap.size := by rw [hw12]; simp
      have y12 := Below.size hb
      try simp only [World.size_alloc, World.size_drew] at y12
      have D12 := Lib.hid (show Below w.heap.size w w12 from Below.trans (by repeat (first | exact D11.out | exact Below.refl _ _ | refine Below.alloc ?_ (by first | omega | (simp; omega) | (simp; done)) _)) (Below.mono hb (by first | omega | (simp; omega) | (simp; done))))
      have z12 := D12.out.size
      clear hb hw12
      try clear c0_0
      have c0_0 := cell_of_heap h0 (j := 0) rfl
      try clear f0_0
      have f0_0 := frozen_of_heap h0 0
      try clear c0_1
      have c0_1 := cell_of_heap h0 (j := 1) rfl
      try clear f0_1
      have f0_1 := frozen_of_heap h0 1
      try clear c0_2
      have c0_2 := cell_of_heap h0 (j := 2) rfl
      try clear f0_2
      have f0_2 := frozen_of_heap h0 2
      try clear c1_0
      have c1_0 := cell_of_heap h1 (j := 0) rfl
      try clear f1_0
      have f1_0 := frozen_of_heap h1 0
      try clear c1_1
      have c1_1 := cell_of_heap h1 (j := 1) rfl
      try clear f1_1
      have f1_1 := frozen_of_heap h1 1
      try clear c1_2
      have c1_2 := cell_of_heap h1 (j := 2) rfl
      try clear f1_2
      have f1_2 := frozen_of_heap h1 2
      try clear c2_0
      have c2_0 := cell_of_heap h2 (j := 0) rfl
      try clear f2_0
      have f2_0 := frozen_of_heap h2 0
      try clear c2_1
      have c2_1 := cell_of_heap h2 (j := 1) rfl
      try clear f2_1
      have f2_1 := frozen_of_heap h2 1
      try clear c2_2
      have c2_2 := cell_of_heap h2 (j := 2) rfl
      try clear f2_2
      have f2_2 := frozen_of_heap h2 2
      try clear c2_3
      have c2_3 := cell_of_heap h2 (j := 3) rfl
      try clear f2_3
      have f2_3 := frozen_of_heap h2 3
      try clear c3_0
      have c3_0 := cell_of_heap h3 (j := 0) rfl
      try clear f3_0
      have f3_0 := frozen_of_heap h3 0
      try clear c3_1
      have c3_1 := cell_of_heap h3 (j := 1) rfl
      try clear f3_1
      have f3_1 := frozen_of_heap h3 1
      try clear c3_2
      have c3_2 := cell_of_heap h3 (j := 2) rfl
      try clear f3_2
      have f3_2 := frozen_of_heap h3 2
      try clear c3_3
      have c3_3 := cell_of_heap h3 (j := 3) rfl
      try clear f3_3
      have f3_3 := frozen_of_heap h3 3
      try clear c4_0
      have c4_0 := cell_of_heap h4 (j := 0) rfl
      try clear f4_0
      have f4_0 := frozen_of_heap h4 0
      try clear c4_1
      have c4_1 := cell_of_heap h4 (j := 1) rfl
      try clear f4_1
      have f4_1 := frozen_of_heap h4 1
      try clear c4_2
      have c4_2 := cell_of_heap h4 (j := 2) rfl
      try clear f4_2
      have f4_2 := frozen_of_heap h4 2
      try clear c4_3
      have c4_3 := cell_of_heap h4 (j := 3) rfl
      try clear f4_3
      have f4_3 := frozen_of_heap h4 3
      go_region
      have q1 := (Below.heap_setCell w12 ⟨w.heap.size + 1, 0, none⟩ (.int .i64 L.a) (w.heap.size) (by first | omega | assumption | (apply Ne.symm; assumption) | (simp; done) | (simp; omega))).trans h0
      have q2 := heap_setCell_same w12 (w.heap.size + 1) 0 _ _ (.int .i64 L.a) h1
      have q3 := (Below.heap_setCell w12 ⟨w.heap.size + 1, 0, none⟩ (.int .i64 L.a) (w.heap.size + 1 + 1) (by first | omega | assumption | (apply Ne.symm; assumption) | (simp; done) | (simp; omega))).trans h2
      have q4 := (Below.heap_setCell w12 ⟨w.heap.size + 1, 0, none⟩ (.int .i64 L.a) (w.heap.size + 1 + 1 + 1) (by first | omega | assumption | (apply Ne.symm; assumption) | (simp; done) | (simp; omega))).trans h3
      have q5 := (Below.heap_setCell w12 ⟨w.heap.size + 1, 0, none⟩ (.int .i64 L.a) (w11.heap.size) (by first | omega | assumption | (apply Ne.symm; assumption) | (simp; done) | (simp; omega))).trans h4
      have q6 := (Below.heap_setCell (w12.setCell ⟨w.heap.size + 1, 0, none⟩ (.int .i64 L.a)) ⟨w.heap.size + 1, 1, none⟩ (.int .i64 L.b) (w.heap.size) (by first | omega | assumption | (apply Ne.symm; assumption) | (simp; done) | (simp; omega))).trans q1
      have q7 := heap_setCell_same (w12.setCell ⟨w.heap.size + 1, 0, none⟩ (.int .i64 L.a)) (w.heap.size + 1) 1 _ _ (.int .i64 L.b) q2
      have q8 := (Below.heap_setCell (w12.setCell ⟨w.heap.size + 1, 0, none⟩ (.int .i64 L.a)) ⟨w.heap.size + 1, 1, none⟩ (.int .i64 L.b) (w.heap.size + 1 + 1) (by first | omega | assumption | (apply Ne.symm; assumption) | (simp; done) | (simp; omega))).trans q3
      have q9 := (Below.heap_setCell (w12.setCell ⟨w.heap.size + 1, 0, none⟩ (.int .i64 L.a)) ⟨w.heap.size + 1, 1, none⟩ (.int .i64 L.b) (w.heap.size + 1 + 1 + 1) (by first | omega | assumption | (apply Ne.symm; assumption) | (simp; done) | (simp; omega))).trans q4
      have q10 := (Below.heap_setCell (w12.setCell ⟨w.heap.size + 1, 0, none⟩ (.int .i64 L.a)) ⟨w.heap.size + 1, 1, none⟩ (.int .i64 L.b) (w11.heap.size) (by first | omega | assumption | (apply Ne.symm; assumption) | (simp; done) | (simp; omega))).trans q5
      have q11 := (Below.heap_setCell ((w12.setCell ⟨w.heap.size + 1, 0, none⟩ (.int .i64 L.a)).setCell ⟨w.heap.size + 1, 1, none⟩ (.int .i64 L.b)) ⟨w.heap.size + 1, 2, none⟩ (.int .i64 L.c) (w.heap.size) (by first | omega | assumption | (apply Ne.symm; assumption) | (simp; done) | (simp; omega))).trans q6
      have q12 := heap_setCell_same ((w12.setCell ⟨w.heap.size + 1, 0, none⟩ (.int .i64 L.a)).setCell ⟨w.heap.size + 1, 1, none⟩ (.int .i64 L.b)) (w.heap.size + 1) 2 _ _ (.int .i64 L.c) q7
      have q13 := (Below.heap_setCell ((w12.setCell ⟨w.heap.size + 1, 0, none⟩ (.int .i64 L.a)).setCell ⟨w.heap.size + 1, 1, none⟩ (.int .i64 L.b)) ⟨w.heap.size + 1, 2, none⟩ (.int .i64 L.c) (w.heap.size + 1 + 1) (by first | omega | assumption | (apply Ne.symm; assumption) | (simp; done) | (simp; omega))).trans q8
      have q14 := (Below.heap_setCell ((w12.setCell ⟨w.heap.size + 1, 0, none⟩ (.int .i64 L.a)).setCell ⟨w.heap.size + 1, 1, none⟩ (.int .i64 L.b)) ⟨w.heap.size + 1, 2, none⟩ (.int .i64 L.c) (w.heap.size + 1 + 1 + 1) (by first | omega | assumption | (apply Ne.symm; assumption) | (simp; done) | (simp; omega))).trans q9
      have q15 := (Below.heap_setCell ((w12.setCell ⟨w.heap.size + 1, 0, none⟩ (.int .i64 L.a)).setCell ⟨w.heap.size + 1, 1, none⟩ (.int .i64 L.b)) ⟨w.heap.size + 1, 2, none⟩ (.int .i64 L.c) (w11.heap.size) (by first | omega | assumption | (apply Ne.symm; assumption) | (simp; done) | (simp; omega))).trans q10
      have q16 := (Below.heap_setCell (((w12.setCell ⟨w.heap.size + 1, 0, none⟩ (.int .i64 L.a)).setCell ⟨w.heap.size + 1, 1, none⟩ (.int .i64 L.b)).setCell ⟨w.heap.size + 1, 2, none⟩ (.int .i64 L.c)) ⟨w.heap.size + 1 + 1, 0, none⟩ (.int .i64 M.a) (w.heap.size) (by first | omega | assumption | (apply Ne.symm; assumption) | (simp; done) | (simp; omega))).trans q11
      have q17 := (Below.heap_setCell (((w12.setCell ⟨w.heap.size + 1, 0, none⟩ (.int .i64 L.a)).setCell ⟨w.heap.size + 1, 1, none⟩ (.int .i64 L.b)).setCell ⟨w.heap.size + 1, 2, none⟩ (.int .i64 L.c)) ⟨w.heap.size + 1 + 1, 0, none⟩ (.int .i64 M.a) (w.heap.size + 1) (by first | omega | assumption | (apply Ne.symm; assumption) | (simp; done) | (simp; omega))).trans q12
      have q18 := heap_setCell_same (((w12.setCell ⟨w.heap.size + 1, 0, none⟩ (.int .i64 L.a)).setCell ⟨w.heap.size + 1, 1, none⟩ (.int .i64 L.b)).setCell ⟨w.heap.size + 1, 2, none⟩ (.int .i64 L.c)) (w.heap.size + 1 + 1) 0 _ _ (.int .i64 M.a) q13
      have q19 := (Below.heap_setCell (((w12.setCell ⟨w.heap.size + 1, 0, none⟩ (.int .i64 L.a)).setCell ⟨w.heap.size + 1, 1, none⟩ (.int .i64 L.b)).setCell ⟨w.heap.size + 1, 2, none⟩ (.int .i64 L.c)) ⟨w.heap.size + 1 + 1, 0, none⟩ (.int .i64 M.a) (w.heap.size + 1 + 1 + 1) (by first | omega | assumption | (apply Ne.symm; assumption) | (simp; done) | (simp; omega))).trans q14
      have q20 := (Below.heap_setCell (((w12.setCell ⟨w.heap.size + 1, 0, none⟩ (.int .i64 L.a)).setCell ⟨w.heap.size + 1, 1, none⟩ (.int .i64 L.b)).setCell ⟨w.heap.size + 1, 2, none⟩ (.int .i64 L.c)) ⟨w.heap.size + 1 + 1, 0, none⟩ (.int .i64 M.a) (w11.heap.size) (by first | omega | assumption | (apply Ne.symm; assumption) | (simp; done) | (simp; omega))).trans q15
      have q21 := (Below.heap_setCell ((((w12.setCell ⟨w.heap.size + 1, 0, none⟩ (.int .i64 L.a)).setCell ⟨w.heap.size + 1, 1, none⟩ (.int .i64 L.b)).setCell ⟨w.heap.size + 1, 2, none⟩ (.int .i64 L.c)).setCell ⟨w.heap.size + 1 + 1, 0, none⟩ (.int .i64 M.a)) ⟨w.heap.size + 1 + 1, 1, none⟩ (.int .i64 M.b) (w.heap.size) (by first | omega | assumption | (apply Ne.symm; assumption) | (simp; done) | (simp; omega))).trans q16
      have q22 := (Below.heap_setCell ((((w12.setCell ⟨w.heap.size + 1, 0, none⟩ (.int .i64 L.a)).setCell ⟨w.heap.size + 1, 1, none⟩ (.int .i64 L.b)).setCell ⟨w.heap.size + 1, 2, none⟩ (.int .i64 L.c)).setCell ⟨w.heap.size + 1 + 1, 0, none⟩ (.int .i64 M.a)) ⟨w.heap.size + 1 + 1, 1, none⟩ (.int .i64 M.b) (w.heap.size + 1) (by first | omega | assumption | (apply Ne.symm; assumption) | (simp; done) | (simp; omega))).trans q17
      have q23 := heap_setCell_same ((((w12.setCell ⟨w.heap.size + 1, 0, none⟩ (.int .i64 L.a)).setCell ⟨w.heap.size + 1, 1, none⟩ (.int .i64 L.b)).setCell ⟨w.heap.size + 1, 2, none⟩ (.int .i64 L.c)).setCell ⟨w.heap.size + 1 + 1, 0, none⟩ (.int .i64 M.a)) (w.heap.size + 1 + 1) 1 _ _ (.int .i64 M.b) q18
      have q24 := (Below.heap_setCell ((((w12.setCell ⟨w.heap.size + 1, 0, none⟩ (.int .i64 L.a)).setCell ⟨w.heap.size + 1, 1, none⟩ (.int .i64 L.b)).setCell ⟨w.heap.size + 1, 2, none⟩ (.int .i64 L.c)).setCell ⟨w.heap.size + 1 + 1, 0, none⟩ (.int .i64 M.a)) ⟨w.heap.size + 1 + 1, 1, none⟩ (.int .i64 M.b) (w.heap.size + 1 + 1 + 1) (by first | omega | assumption | (apply Ne.symm; assumption) | (simp; done) | (simp; omega))).trans q19
      have q25 := (Below.heap_setCell ((((w12.setCell ⟨w.heap.size + 1, 0, none⟩ (.int .i64 L.a)).setCell ⟨w.heap.size + 1, 1, none⟩ (.int .i64 L.b)).setCell ⟨w.heap.size + 1, 2, none⟩ (.int .i64 L.c)).setCell ⟨w.heap.size + 1 + 1, 0, none⟩ (.int .i64 M.a)) ⟨w.heap.size + 1 + 1, 1, none⟩ (.int .i64 M.b) (w11.heap.size) (by first | omega | assumption | (apply Ne.symm; assumption) | (simp; done) | (simp; omega))).trans q20
      have q26 := (Below.heap_setCell (((((w12.setCell ⟨w.heap.size + 1, 0, none⟩ (.int .i64 L.a)).setCell ⟨w.heap.size + 1, 1, none⟩ (.int .i64 L.b)).setCell ⟨w.heap.size + 1, 2, none⟩ (.int .i64 L.c)).setCell ⟨w.heap.size + 1 + 1, 0, none⟩ (.int .i64 M.a)).setCell ⟨w.heap.size + 1 + 1, 1, none⟩ (.int .i64 M.b)) ⟨w.heap.size + 1 + 1, 2, none⟩ (.int .i64 M.c) (w.heap.size) (by first | omega | assumption | (apply Ne.symm; assumption) | (simp; done) | (simp; omega))).trans q21
      have q27 := (Below.heap_setCell (((((w12.setCell ⟨w.heap.size + 1, 0, none⟩ (.int .i64 L.a)).setCell ⟨w.heap.size + 1, 1, none⟩ (.int .i64 L.b)).setCell ⟨w.heap.size + 1, 2, none⟩ (.int .i64 L.c)).setCell ⟨w.heap.size + 1 + 1, 0, none⟩ (.int .i64 M.a)).setCell ⟨w.heap.size + 1 + 1, 1, none⟩ (.int .i64 M.b)) ⟨w.heap.size + 1 + 1, 2, none⟩ (.int .i64 M.c) (w.heap.size + 1) (by first | omega | assumption | (apply Ne.symm; assumption) | (simp; done) | (simp; omega))).trans q22
      have q28 := heap_setCell_same (((((w12.setCell ⟨w.heap.size + 1, 0, none⟩ (.int .i64 L.a)).setCell ⟨w.heap.size + 1, 1, none⟩ (.int .i64 L.b)).setCell ⟨w.heap.size + 1, 2, none⟩ (.int .i64 L.c)).setCell ⟨w.heap.size + 1 + 1, 0, none⟩ (.int .i64 M.a)).setCell ⟨w.heap.size + 1 + 1, 1, none⟩ (.int .i64 M.b)) (w.heap.size + 1 + 1) 2 _ _ (.int .i64 M.c) q23
      have q29 := (Below.heap_setCell (((((w12.setCell ⟨w.heap.size + 1, 0, none⟩ (.int .i64 L.a)).setCell ⟨w.heap.size + 1, 1, none⟩ (.int .i64 L.b)).setCell ⟨w.heap.size + 1, 2, none⟩ (.int .i64 L.c)).setCell ⟨w.heap.size + 1 + 1, 0, none⟩ (.int .i64 M.a)).setCell ⟨w.heap.size + 1 + 1, 1, none⟩ (.int .i64 M.b)) ⟨w.heap.size + 1 + 1, 2, none⟩ (.int .i64 M.c) (w.heap.size + 1 + 1 + 1) (by first | omega | assumption | (apply Ne.symm; assumption) | (simp; done) | (simp; omega))).trans q24
      have q30 := (Below.heap_setCell (((((w12.setCell ⟨w.heap.size + 1, 0, none⟩ (.int .i64 L.a)).setCell ⟨w.heap.size + 1, 1, none⟩ (.int .i64 L.b)).setCell ⟨w.heap.size + 1, 2, none⟩ (.int .i64 L.c)).setCell ⟨w.heap.size + 1 + 1, 0, none⟩ (.int .i64 M.a)).setCell ⟨w.heap.size + 1 + 1, 1, none⟩ (.int .i64 M.b)) ⟨w.heap.size + 1 + 1, 2, none⟩ (.int .i64 M.c) (w11.heap.size) (by first | omega | assumption | (apply Ne.symm; assumption) | (simp; done) | (simp; omega))).trans q25
      have q31 := (Below.heap_setCell ((((((w12.setCell ⟨w.heap.size + 1, 0, none⟩ (.int .i64 L.a)).setCell ⟨w.heap.size + 1, 1, none⟩ (.int .i64 L.b)).setCell ⟨w.heap.size + 1, 2, none⟩ (.int .i64 L.c)).setCell ⟨w.heap.size + 1 + 1, 0, none⟩ (.int .i64 M.a)).setCell ⟨w.heap.size + 1 + 1, 1, none⟩ (.int .i64 M.b)).setCell ⟨w.heap.size + 1 + 1, 2, none⟩ (.int .i64 M.c)) ⟨w.heap.size + 1 + 1, 3, none⟩ (.int .i64 M.d) (w.heap.size) (by first | omega | assumption | (apply Ne.symm; assumption) | (simp; done) | (simp; omega))).trans q26
      have q32 := (Below.heap_setCell ((((((w12.setCell ⟨w.heap.size + 1, 0, none⟩ (.int .i64 L.a)).setCell ⟨w.heap.size + 1, 1, none⟩ (.int .i64 L.b)).setCell ⟨w.heap.size + 1, 2, none⟩ (.int .i64 L.c)).setCell ⟨w.heap.size + 1 + 1, 0, none⟩ (.int .i64 M.a)).setCell ⟨w.heap.size + 1 + 1, 1, none⟩ (.int .i64 M.b)).setCell ⟨w.heap.size + 1 + 1, 2, none⟩ (.int .i64 M.c)) ⟨w.heap.size + 1 + 1, 3, none⟩ (.int .i64 M.d) (w.heap.size + 1) (by first | omega | assumption | (apply Ne.symm; assumption) | (simp; done) | (simp; omega))).trans q27
      have q33 := heap_setCell_same ((((((w12.setCell ⟨w.heap.size + 1, 0, none⟩ (.int .i64 L.a)).setCell ⟨w.heap.size + 1, 1, none⟩ (.int .i64 L.b)).setCell ⟨w.heap.size + 1, 2, none⟩ (.int .i64 L.c)).setCell ⟨w.heap.size + 1 + 1, 0, none⟩ (.int .i64 M.a)).setCell ⟨w.heap.size + 1 + 1, 1, none⟩ (.int .i64 M.b)).setCell ⟨w.heap.size + 1 + 1, 2, none⟩ (.int .i64 M.c)) (w.heap.size + 1 + 1) 3 _ _ (.int .i64 M.d) q28
      have q34 := (Below.heap_setCell ((((((w12.setCell ⟨w.heap.size + 1, 0, none⟩ (.int .i64 L.a)).setCell ⟨w.heap.size + 1, 1, none⟩ (.int .i64 L.b)).setCell ⟨w.heap.size + 1, 2, none⟩ (.int .i64 L.c)).setCell ⟨w.heap.size + 1 + 1, 0, none⟩ (.int .i64 M.a)).setCell ⟨w.heap.size + 1 + 1, 1, none⟩ (.int .i64 M.b)).setCell ⟨w.heap.size + 1 + 1, 2, none⟩ (.int .i64 M.c)) ⟨w.heap.size + 1 + 1, 3, none⟩ (.int .i64 M.d) (w.heap.size + 1 + 1 + 1) (by first | omega | assumption | (apply Ne.symm; assumption) | (simp; done) | (simp; omega))).trans q29
      have q35 := (Below.heap_setCell ((((((w12.setCell ⟨w.heap.size + 1, 0, none⟩ (.int .i64 L.a)).setCell ⟨w.heap.size + 1, 1, none⟩ (.int .i64 L.b)).setCell ⟨w.heap.size + 1, 2, none⟩ (.int .i64 L.c)).setCell ⟨w.heap.size + 1 + 1, 0, none⟩ (.int .i64 M.a)).setCell ⟨w.heap.size + 1 + 1, 1, none⟩ (.int .i64 M.b)).setCell ⟨w.heap.size + 1 + 1, 2, none⟩ (.int .i64 M.c)) ⟨w.heap.size + 1 + 1, 3, none⟩ (.int .i64 M.d) (w11.heap.size) (by first | omega | assumption | (apply Ne.symm; assumption) | (simp; done) | (simp; omega))).trans q30
      obtain ⟨w13, hw13⟩ : ∃ W, W = (((((((w12.setCell ⟨w.heap.size + 1, 0, none⟩ (.int .i64 L.a)).setCell ⟨w.heap.size + 1, 1, none⟩ (.int .i64 L.b)).setCell ⟨w.heap.size + 1, 2, none⟩ (.int .i64 L.c)).setCell ⟨w.heap.size + 1 + 1, 0, none⟩ (.int .i64 M.a)).setCell ⟨w.heap.size + 1 + 1, 1, none⟩ (.int .i64 M.b)).setCell ⟨w.heap.size + 1 + 1, 2, none⟩ (.int .i64 M.c)).setCell ⟨w.heap.size + 1 + 1, 3, none⟩ (.int .i64 M.d)).drew := ⟨_, rfl⟩
      rw [← hw13]
      replace h0 : w13.heap[w.heap.size]? = some (.cells #[.int .i64 L.a, .int .i64 L.b, .int .i64 L.c] 23 (0, 0)) := by rw [hw13]; exact hb_drew q31
      replace h1 : w13.heap[w.heap.size + 1]? = some (.cells #[.int .i64 L.a, .int .i64 L.b, .int .i64 L.c] 23 (0, 0)) := by rw [hw13]; exact hb_drew q32
      replace h2 : w13.heap[w.heap.size + 1 + 1]? = some (.cells #[.int .i64 M.a, .int .i64 M.b, .int .i64 M.c, .int .i64 M.d] 40 (0, 0)) := by rw [hw13]; exact hb_drew q33
      replace h3 : w13.heap[w.heap.size + 1 + 1 + 1]? = some (.cells #[.int .i64 M.a, .int .i64 M.b, .int .i64 M.c, .int .i64 M.d] 40 (0, 0)) := by rw [hw13]; exact hb_drew q34
      replace h4 : w13.heap[w11.heap.size]? = some (.cells #[.int .i64 0, .int .i64 0, .int .i64 0, .int .i64 0] 40 (0, 0)) := by rw [hw13]; exact hb_drew q35
      have D13 := Lib.hid (show Below w.heap.size w w13 by rw [hw13]; exact (Below.drew (Below.setCell (Below.setCell (Below.setCell (Below.setCell (Below.setCell (Below.setCell (Below.setCell D12.out (p := ⟨w.heap.size + 1, 0, none⟩) (by first | omega | (simp; done) | (simp; omega)) (.int .i64 L.a)) (p := ⟨w.heap.size + 1, 1, none⟩) (by first | omega | (simp; done) | (simp; omega)) (.int .i64 L.b)) (p := ⟨w.heap.size + 1, 2, none⟩) (by first | omega | (simp; done) | (simp; omega)) (.int .i64 L.c)) (p := ⟨w.heap.size + 1 + 1, 0, none⟩) (by first | omega | (simp; done) | (simp; omega)) (.int .i64 M.a)) (p := ⟨w.heap.size + 1 + 1, 1, none⟩) (by first | omega | (simp; done) | (simp; omega)) (.int .i64 M.b)) (p := ⟨w.heap.size + 1 + 1, 2, none⟩) (by first | omega | (simp; done) | (simp; omega)) (.int .i64 M.c)) (p := ⟨w.heap.size + 1 + 1, 3, none⟩) (by first | omega | (simp; done) | (simp; omega)) (.int .i64 M.d))))
      have z13 := D13.out.size
      have y13 : w13.heap.size = w12.heap.size := by rw [hw13]; simp
      clear q35 q34 q33 q32 q31 q30 q29 q28 q27 q26 q25 q24 q23 q22 q21 q20 q19 q18 q17 q16 q15 q14 q13 q12 q11 q10 q9 q8 q7 q6 q5 q4 q3 q2 q1 hw13
      try clear c0_0
      have c0_0 := cell_of_heap h0 (j := 0) rfl
      try clear f0_0
      have f0_0 := frozen_of_heap h0 0
      try clear c0_1
      have c0_1 := cell_of_heap h0 (j := 1) rfl
      try clear f0_1
      have f0_1 := frozen_of_heap h0 1
      try clear c0_2
      have c0_2 := cell_of_heap h0 (j := 2) rfl
      try clear f0_2
      have f0_2 := frozen_of_heap h0 2
      try clear c1_0
      have c1_0 := cell_of_heap h1 (j := 0) rfl
      try clear f1_0
      have f1_0 := frozen_of_heap h1 0
      try clear c1_1
      have c1_1 := cell_of_heap h1 (j := 1) rfl
      try clear f1_1
      have f1_1 := frozen_of_heap h1 1
      try clear c1_2
      have c1_2 := cell_of_heap h1 (j := 2) rfl
      try clear f1_2
      have f1_2 := frozen_of_heap h1 2
      try clear c2_0
      have c2_0 := cell_of_heap h2 (j := 0) rfl
      try clear f2_0
      have f2_0 := frozen_of_heap h2 0
      try clear c2_1
      have c2_1 := cell_of_heap h2 (j := 1) rfl
      try clear f2_1
      have f2_1 := frozen_of_heap h2 1
      try clear c2_2
      have c2_2 := cell_of_heap h2 (j := 2) rfl
      try clear f2_2
      have f2_2 := frozen_of_heap h2 2
      try clear c2_3
      have c2_3 := cell_of_heap h2 (j := 3) rfl
      try clear f2_3
      have f2_3 := frozen_of_heap h2 3
      try clear c3_0
      have c3_0 := cell_of_heap h3 (j := 0) rfl
      try clear f3_0
      have f3_0 := frozen_of_heap h3 0
      try clear c3_1
      have c3_1 := cell_of_heap h3 (j := 1) rfl
      try clear f3_1
      have f3_1 := frozen_of_heap h3 1
      try clear c3_2
      have c3_2 := cell_of_heap h3 (j := 2) rfl
      try clear f3_2
      have f3_2 := frozen_of_heap h3 2
      try clear c3_3
      have c3_3 := cell_of_heap h3 (j := 3) rfl
      try clear f3_3
      have f3_3 := frozen_of_heap h3 3
      try clear c4_0
      have c4_0 := cell_of_heap h4 (j := 0) rfl
      try clear f4_0
      have f4_0 := frozen_of_heap h4 0
      try clear c4_1
      have c4_1 := cell_of_heap h4 (j := 1) rfl
      try clear f4_1
      have f4_1 := frozen_of_heap h4 1
      try clear c4_2
      have c4_2 := cell_of_heap h4 (j := 2) rfl
      try clear f4_2
      have f4_2 := frozen_of_heap h4 2
      try clear c4_3
      have c4_3 := cell_of_heap h4 (j := 3) rfl
      try clear f4_3
      have f4_3 := frozen_of_heap h4 3
      go_wp2_with fail
      refine bodyPost_ret (results_bb rfl _ _ (w.heap.size + 1) (w.heap.size + 1 + 1) rfl rfl h1 h2 Tryd.underlying23 rfl (by kernel_rfl) Tryd.underlying40 rfl (by kernel_rfl)) rfl ⟨L, M, rfl, ⟨HR.out, HO.out, HU.out, HE.out⟩, D13.out⟩
    | some m =>
      have CB := fun W => better_any L HO.out W
      simp only [hbet, Option.isSome, Mat.val, Lat.val] at CB
      have H1 := Lib.hid CB
      obtain ⟨hOk2, hmu2⟩ := bet_step HO.out hbet
      have hU2 := unit_times HU.out (bet_unit hbet)
      have hled2 : led l (M.times m) = led L m := by rw [led_times, HE.out]
      have CL := fun W => led_any L m W
      rw [led_w hOk2] at CL
      have CT := fun W => times_any M m W
      rw [mok_w (lead_ok Hl.out ⟨hOk2.2.1, hOk2.2.2.2.2.2.1⟩ hled2)] at CT
      generalize led L m = L2 at *
      generalize M.times m = M2 at *
      unfold Lat.val Mat.val at *
      have H2 := Lib.hid CL
      have H3 := Lib.hid CT
      have HO2 := Lib.hid hOk2
      have HU2 := Lib.hid hU2
      have HE2 := Lib.hid hled2
      clear CB hbet CL CT hOk2 hU2 hled2
      go_wp2_with fail
      refine (H1.out _).mono ?_
      rintro e w11 ⟨rfl, hb⟩
      replace h0 : w11.heap[w.heap.size]? = some (.cells #[.int .i64 L.a, .int .i64 L.b, .int .i64 L.c] 23 (0, 0)) := hb_below hb (by repeat (first | exact h0 | (refine hb_new ?_; (first | omega | (simp; omega) | (simp; done))) | (refine hb_old ?_ ?_; rotate_left; focus (first | omega | (simp; omega) | (simp; done))) | refine hb_drew ?_)) (by first | omega | (simp; omega) | (simp; done))
      replace h1 : w11.heap[w.heap.size + 1]? = some (.cells #[.int .i64 0, .int .i64 0, .int .i64 0] 23 (0, 0)) := hb_below hb (by repeat (first | exact h1 | (refine hb_new ?_; (first | omega | (simp; omega) | (simp; done))) | (refine hb_old ?_ ?_; rotate_left; focus (first | omega | (simp; omega) | (simp; done))) | refine hb_drew ?_)) (by first | omega | (simp; omega) | (simp; done))
      replace h2 : w11.heap[w.heap.size + 1 + 1]? = some (.cells #[.int .i64 0, .int .i64 0, .int .i64 0, .int .i64 0] 40 (0, 0)) := hb_below hb (by repeat (first | exact h2 | (refine hb_new ?_; (first | omega | (simp; omega) | (simp; done))) | (refine hb_old ?_ ?_; rotate_left; focus (first | omega | (simp; omega) | (simp; done))) | refine hb_drew ?_)) (by first | omega | (simp; omega) | (simp; done))
      replace h3 : w11.heap[w.heap.size + 1 + 1 + 1]? = some (.cells #[.int .i64 M.a, .int .i64 M.b, .int .i64 M.c, .int .i64 M.d] 40 (0, 0)) := hb_below hb (by repeat (first | exact h3 | (refine hb_new ?_; (first | omega | (simp; omega) | (simp; done))) | (refine hb_old ?_ ?_; rotate_left; focus (first | omega | (simp; omega) | (simp; done))) | refine hb_drew ?_)) (by first | omega | (simp; omega) | (simp; done))
      have y11 := Below.size hb
      try simp only [World.size_alloc, World.size_drew] at y11
      have D11 := Lib.hid (show Below w.heap.size w w11 from Below.trans (by repeat (first | exact D10.out | exact Below.refl _ _ | refine Below.alloc ?_ (by first | omega | (simp; omega) | (simp; done)) _)) (Below.mono hb (by first | omega | (simp; omega) | (simp; done))))
      have z11 := D11.out.size
      clear hb
      try clear c0_0
      have c0_0 := cell_of_heap h0 (j := 0) rfl
      try clear f0_0
      have f0_0 := frozen_of_heap h0 0
      try clear c0_1
      have c0_1 := cell_of_heap h0 (j := 1) rfl
      try clear f0_1
      have f0_1 := frozen_of_heap h0 1
      try clear c0_2
      have c0_2 := cell_of_heap h0 (j := 2) rfl
      try clear f0_2
      have f0_2 := frozen_of_heap h0 2
      try clear c1_0
      have c1_0 := cell_of_heap h1 (j := 0) rfl
      try clear f1_0
      have f1_0 := frozen_of_heap h1 0
      try clear c1_1
      have c1_1 := cell_of_heap h1 (j := 1) rfl
      try clear f1_1
      have f1_1 := frozen_of_heap h1 1
      try clear c1_2
      have c1_2 := cell_of_heap h1 (j := 2) rfl
      try clear f1_2
      have f1_2 := frozen_of_heap h1 2
      try clear c2_0
      have c2_0 := cell_of_heap h2 (j := 0) rfl
      try clear f2_0
      have f2_0 := frozen_of_heap h2 0
      try clear c2_1
      have c2_1 := cell_of_heap h2 (j := 1) rfl
      try clear f2_1
      have f2_1 := frozen_of_heap h2 1
      try clear c2_2
      have c2_2 := cell_of_heap h2 (j := 2) rfl
      try clear f2_2
      have f2_2 := frozen_of_heap h2 2
      try clear c2_3
      have c2_3 := cell_of_heap h2 (j := 3) rfl
      try clear f2_3
      have f2_3 := frozen_of_heap h2 3
      try clear c3_0
      have c3_0 := cell_of_heap h3 (j := 0) rfl
      try clear f3_0
      have f3_0 := frozen_of_heap h3 0
      try clear c3_1
      have c3_1 := cell_of_heap h3 (j := 1) rfl
      try clear f3_1
      have f3_1 := frozen_of_heap h3 1
      try clear c3_2
      have c3_2 := cell_of_heap h3 (j := 2) rfl
      try clear f3_2
      have f3_2 := frozen_of_heap h3 2
      try clear c3_3
      have c3_3 := cell_of_heap h3 (j := 3) rfl
      try clear f3_3
      have f3_3 := frozen_of_heap h3 3
      go_wp2_with fail
      obtain ⟨w12, hw12⟩ : ∃ W, W = (w11.alloc (.cells #[.int .i64 m.a, .int .i64 m.b, .int .i64 m.c, .int .i64 m.d] 40)) := ⟨_, rfl⟩
      rw [← hw12]
      replace h0 : w12.heap[w.heap.size]? = some (.cells #[.int .i64 L.a, .int .i64 L.b, .int .i64 L.c] 23 (0, 0)) := by rw [hw12]; exact (by repeat (first | exact h0 | (refine hb_new ?_; (first | omega | (simp; omega) | (simp; done))) | (refine hb_old ?_ ?_; rotate_left; focus (first | omega | (simp; omega) | (simp; done))) | refine hb_drew ?_))
      replace h1 : w12.heap[w.heap.size + 1]? = some (.cells #[.int .i64 0, .int .i64 0, .int .i64 0] 23 (0, 0)) := by rw [hw12]; exact (by repeat (first | exact h1 | (refine hb_new ?_; (first | omega | (simp; omega) | (simp; done))) | (refine hb_old ?_ ?_; rotate_left; focus (first | omega | (simp; omega) | (simp; done))) | refine hb_drew ?_))
      replace h2 : w12.heap[w.heap.size + 1 + 1]? = some (.cells #[.int .i64 0, .int .i64 0, .int .i64 0, .int .i64 0] 40 (0, 0)) := by rw [hw12]; exact (by repeat (first | exact h2 | (refine hb_new ?_; (first | omega | (simp; omega) | (simp; done))) | (refine hb_old ?_ ?_; rotate_left; focus (first | omega | (simp; omega) | (simp; done))) | refine hb_drew ?_))
      replace h3 : w12.heap[w.heap.size + 1 + 1 + 1]? = some (.cells #[.int .i64 M.a, .int .i64 M.b, .int .i64 M.c, .int .i64 M.d] 40 (0, 0)) := by rw [hw12]; exact (by repeat (first | exact h3 | (refine hb_new ?_; (first | omega | (simp; omega) | (simp; done))) | (refine hb_old ?_ ?_; rotate_left; focus (first | omega | (simp; omega) | (simp; done))) | refine hb_drew ?_))
      have h4 : w12.heap[w11.heap.size]? = some (.cells #[.int .i64 m.a, .int .i64 m.b, .int .i64 m.c, .int .i64 m.d] 40 (0, 0)) := by rw [hw12]; exact (by repeat (first | (refine hb_new ?_; (first | omega | (simp; omega) | (simp; done))) | (refine hb_old ?_ ?_; rotate_left; focus (first | omega | (simp; omega) | (simp; done))) | refine hb_drew ?_))
      have hb : Below w11.heap.size w11 w12 := by rw [hw12]; exact (by repeat (first | exact Below.refl _ _ | refine Below.alloc ?_ (by first | omega | (simp; omega) | (simp; done)) _ | refine Below.drew ?_))
      have s12 : w11.heap.size + 1 ≤ w12.heap.size := by rw [hw12]; simp
      have y12 := Below.size hb
      try simp only [World.size_alloc, World.size_drew] at y12
      have D12 := Lib.hid (show Below w.heap.size w w12 from Below.trans (by repeat (first | exact D11.out | exact Below.refl _ _ | refine Below.alloc ?_ (by first | omega | (simp; omega) | (simp; done)) _)) (Below.mono hb (by first | omega | (simp; omega) | (simp; done))))
      have z12 := D12.out.size
      clear hb hw12
      try clear c0_0
      have c0_0 := cell_of_heap h0 (j := 0) rfl
      try clear f0_0
      have f0_0 := frozen_of_heap h0 0
      try clear c0_1
      have c0_1 := cell_of_heap h0 (j := 1) rfl
      try clear f0_1
      have f0_1 := frozen_of_heap h0 1
      try clear c0_2
      have c0_2 := cell_of_heap h0 (j := 2) rfl
      try clear f0_2
      have f0_2 := frozen_of_heap h0 2
      try clear c1_0
      have c1_0 := cell_of_heap h1 (j := 0) rfl
      try clear f1_0
      have f1_0 := frozen_of_heap h1 0
      try clear c1_1
      have c1_1 := cell_of_heap h1 (j := 1) rfl
      try clear f1_1
      have f1_1 := frozen_of_heap h1 1
      try clear c1_2
      have c1_2 := cell_of_heap h1 (j := 2) rfl
      try clear f1_2
      have f1_2 := frozen_of_heap h1 2
      try clear c2_0
      have c2_0 := cell_of_heap h2 (j := 0) rfl
      try clear f2_0
      have f2_0 := frozen_of_heap h2 0
      try clear c2_1
      have c2_1 := cell_of_heap h2 (j := 1) rfl
      try clear f2_1
      have f2_1 := frozen_of_heap h2 1
      try clear c2_2
      have c2_2 := cell_of_heap h2 (j := 2) rfl
      try clear f2_2
      have f2_2 := frozen_of_heap h2 2
      try clear c2_3
      have c2_3 := cell_of_heap h2 (j := 3) rfl
      try clear f2_3
      have f2_3 := frozen_of_heap h2 3
      try clear c3_0
      have c3_0 := cell_of_heap h3 (j := 0) rfl
      try clear f3_0
      have f3_0 := frozen_of_heap h3 0
      try clear c3_1
      have c3_1 := cell_of_heap h3 (j := 1) rfl
      try clear f3_1
      have f3_1 := frozen_of_heap h3 1
      try clear c3_2
      have c3_2 := cell_of_heap h3 (j := 2) rfl
      try clear f3_2
      have f3_2 := frozen_of_heap h3 2
      try clear c3_3
      have c3_3 := cell_of_heap h3 (j := 3) rfl
      try clear f3_3
      have f3_3 := frozen_of_heap h3 3
      try clear c4_0
      have c4_0 := cell_of_heap h4 (j := 0) rfl
      try clear f4_0
      have f4_0 := frozen_of_heap h4 0
      try clear c4_1
      have c4_1 := cell_of_heap h4 (j := 1) rfl
      try clear f4_1
      have f4_1 := frozen_of_heap h4 1
      try clear c4_2
      have c4_2 := cell_of_heap h4 (j := 2) rfl
      try clear f4_2
      have f4_2 := frozen_of_heap h4 2
      try clear c4_3
      have c4_3 := cell_of_heap h4 (j := 3) rfl
      try clear f4_3
      have f4_3 := frozen_of_heap h4 3
      go_wp2_with fail
      try clear c0_0
      try clear f0_0
      try clear c0_1
      try clear f0_1
      try clear c0_2
      try clear f0_2
      try clear c1_0
      try clear f1_0
      try clear c1_1
      try clear f1_1
      try clear c1_2
      try clear f1_2
      try clear c2_0
      try clear f2_0
      try clear c2_1
      try clear f2_1
      try clear c2_2
      try clear f2_2
      try clear c2_3
      try clear f2_3
      try clear c3_0
      try clear f3_0
      try clear c3_1
      try clear f3_1
      try clear c3_2
      try clear f3_2
      try clear c3_3
      try clear f3_3
      try clear c4_0
      try clear f4_0
      try clear c4_1
      try clear f4_1
      try clear c4_2
      try clear f4_2
      try clear c4_3
      try clear f4_3
      refine wp_region_class (fun w' => Below w12.heap.size w12 w') 6 (by kernel_rfl) (by kernel_rfl) (Below.refl _ w12).drew ?_
      simp only [List.take_succ_cons, List.take_zero, List.drop_succ_cons, List.drop_zero]
      refine quiet_load_mid rfl _ _ rfl _ _ rfl _ _ (fun w' h => range_of_heap (hb_below h h0 (by first | omega | (simp; omega) | (simp; done)))) Tryd.underlying23 rfl (by kernel_rfl) ?_
      simp only [Act.put, List.setIfInBounds_toArray, List.set_cons_zero, List.set_cons_succ]
      refine quiet_load_mid rfl _ _ rfl _ _ rfl _ _ (fun w' h => range_of_heap (hb_below h h4 (by first | omega | (simp; omega) | (simp; done)))) Tryd.underlying40 rfl (by kernel_rfl) ?_
      simp only [Act.put, List.setIfInBounds_toArray, List.set_cons_zero, List.set_cons_succ]
      refine quiet_call rfl 69 _ _ rfl (enter_of Tryd.func69 (by decide) (by intro h; cases h)) _ (in_class_b H2.out) ?_
      simp only [Act.put, List.setIfInBounds_toArray, List.set_cons_zero, List.set_cons_succ]
      refine quiet_load_mid rfl _ _ rfl _ _ rfl _ _ (fun w' h => range_of_heap (hb_below h h3 (by first | omega | (simp; omega) | (simp; done)))) Tryd.underlying40 rfl (by kernel_rfl) ?_
      simp only [Act.put, List.setIfInBounds_toArray, List.set_cons_zero, List.set_cons_succ]
      refine quiet_load_mid rfl _ _ rfl _ _ rfl _ _ (fun w' h => range_of_heap (hb_below h h4 (by first | omega | (simp; omega) | (simp; done)))) Tryd.underlying40 rfl (by kernel_rfl) ?_
      simp only [Act.put, List.setIfInBounds_toArray, List.set_cons_zero, List.set_cons_succ]
      refine quiet_call rfl 64 _ _ rfl (enter_of Tryd.func64 (by decide) (by intro h; cases h)) _ (in_class_b H3.out) ?_
      simp only [Act.put, List.setIfInBounds_toArray, List.set_cons_zero, List.set_cons_succ]
      intro w13 hb
      replace h0 : w13.heap[w.heap.size]? = some (.cells #[.int .i64 L.a, .int .i64 L.b, .int .i64 L.c] 23 (0, 0)) := hb_below hb (by repeat (first | exact h0 | (refine hb_new ?_; (first | omega | (simp; omega) | (simp; done))) | (refine hb_old ?_ ?_; rotate_left; focus (first | omega | (simp; omega) | (simp; done))) | refine hb_drew ?_)) (by first | omega | (simp; omega) | (simp; done))
      replace h1 : w13.heap[w.heap.size + 1]? = some (.cells #[.int .i64 0, .int .i64 0, .int .i64 0] 23 (0, 0)) := hb_below hb (by repeat (first | exact h1 | (refine hb_new ?_; (first | omega | (simp; omega) | (simp; done))) | (refine hb_old ?_ ?_; rotate_left; focus (first | omega | (simp; omega) | (simp; done))) | refine hb_drew ?_)) (by first | omega | (simp; omega) | (simp; done))
      replace h2 : w13.heap[w.heap.size + 1 + 1]? = some (.cells #[.int .i64 0, .int .i64 0, .int .i64 0, .int .i64 0] 40 (0, 0)) := hb_below hb (by repeat (first | exact h2 | (refine hb_new ?_; (first | omega | (simp; omega) | (simp; done))) | (refine hb_old ?_ ?_; rotate_left; focus (first | omega | (simp; omega) | (simp; done))) | refine hb_drew ?_)) (by first | omega | (simp; omega) | (simp; done))
      replace h3 : w13.heap[w.heap.size + 1 + 1 + 1]? = some (.cells #[.int .i64 M.a, .int .i64 M.b, .int .i64 M.c, .int .i64 M.d] 40 (0, 0)) := hb_below hb (by repeat (first | exact h3 | (refine hb_new ?_; (first | omega | (simp; omega) | (simp; done))) | (refine hb_old ?_ ?_; rotate_left; focus (first | omega | (simp; omega) | (simp; done))) | refine hb_drew ?_)) (by first | omega | (simp; omega) | (simp; done))
      replace h4 : w13.heap[w11.heap.size]? = some (.cells #[.int .i64 m.a, .int .i64 m.b, .int .i64 m.c, .int .i64 m.d] 40 (0, 0)) := hb_below hb (by repeat (first | exact h4 | (refine hb_new ?_; (first | omega | (simp; omega) | (simp; done))) | (refine hb_old ?_ ?_; rotate_left; focus (first | omega | (simp; omega) | (simp; done))) | refine hb_drew ?_)) (by first | omega | (simp; omega) | (simp; done))
      have y13 := Below.size hb
      try simp only [World.size_alloc, World.size_drew] at y13
      have D13 := Lib.hid (show Below w.heap.size w w13 from Below.trans (by repeat (first | exact D12.out | exact Below.refl _ _ | refine Below.alloc ?_ (by first | omega | (simp; omega) | (simp; done)) _)) (Below.mono hb (by first | omega | (simp; omega) | (simp; done))))
      have z13 := D13.out.size
      clear hb
      try clear c0_0
      have c0_0 := cell_of_heap h0 (j := 0) rfl
      try clear f0_0
      have f0_0 := frozen_of_heap h0 0
      try clear c0_1
      have c0_1 := cell_of_heap h0 (j := 1) rfl
      try clear f0_1
      have f0_1 := frozen_of_heap h0 1
      try clear c0_2
      have c0_2 := cell_of_heap h0 (j := 2) rfl
      try clear f0_2
      have f0_2 := frozen_of_heap h0 2
      try clear c1_0
      have c1_0 := cell_of_heap h1 (j := 0) rfl
      try clear f1_0
      have f1_0 := frozen_of_heap h1 0
      try clear c1_1
      have c1_1 := cell_of_heap h1 (j := 1) rfl
      try clear f1_1
      have f1_1 := frozen_of_heap h1 1
      try clear c1_2
      have c1_2 := cell_of_heap h1 (j := 2) rfl
      try clear f1_2
      have f1_2 := frozen_of_heap h1 2
      try clear c2_0
      have c2_0 := cell_of_heap h2 (j := 0) rfl
      try clear f2_0
      have f2_0 := frozen_of_heap h2 0
      try clear c2_1
      have c2_1 := cell_of_heap h2 (j := 1) rfl
      try clear f2_1
      have f2_1 := frozen_of_heap h2 1
      try clear c2_2
      have c2_2 := cell_of_heap h2 (j := 2) rfl
      try clear f2_2
      have f2_2 := frozen_of_heap h2 2
      try clear c2_3
      have c2_3 := cell_of_heap h2 (j := 3) rfl
      try clear f2_3
      have f2_3 := frozen_of_heap h2 3
      try clear c3_0
      have c3_0 := cell_of_heap h3 (j := 0) rfl
      try clear f3_0
      have f3_0 := frozen_of_heap h3 0
      try clear c3_1
      have c3_1 := cell_of_heap h3 (j := 1) rfl
      try clear f3_1
      have f3_1 := frozen_of_heap h3 1
      try clear c3_2
      have c3_2 := cell_of_heap h3 (j := 2) rfl
      try clear f3_2
      have f3_2 := frozen_of_heap h3 2
      try clear c3_3
      have c3_3 := cell_of_heap h3 (j := 3) rfl
      try clear f3_3
      have f3_3 := frozen_of_heap h3 3
      try clear c4_0
      have c4_0 := cell_of_heap h4 (j := 0) rfl
      try clear f4_0
      have f4_0 := frozen_of_heap h4 0
      try clear c4_1
      have c4_1 := cell_of_heap h4 (j := 1) rfl
      try clear f4_1
      have f4_1 := frozen_of_heap h4 1
      try clear c4_2
      have c4_2 := cell_of_heap h4 (j := 2) rfl
      try clear f4_2
      have f4_2 := frozen_of_heap h4 2
      try clear c4_3
      have c4_3 := cell_of_heap h4 (j := 3) rfl
      try clear f4_3
      have f4_3 := frozen_of_heap h4 3
      refine store_row rfl _ _ _ rfl (w.heap.size) _ rfl rfl _ _ h0 (by kernel_rfl) rfl (by kernel_rfl) ?_
      intro w14 hn hk hz hB
      simp only [Act.put, List.setIfInBounds_toArray, List.set_cons_zero, List.set_cons_succ]
      replace h0 : w14.heap[w.heap.size]? = some (.cells #[.int .i64 L2.a, .int .i64 L2.b, .int .i64 L2.c] 23 (0, 0)) := hn
      replace h1 := hk _ _ h1 (by first | omega | assumption | (apply Ne.symm; assumption) | (simp; done) | (simp; omega))
      replace h2 := hk _ _ h2 (by first | omega | assumption | (apply Ne.symm; assumption) | (simp; done) | (simp; omega))
      replace h3 := hk _ _ h3 (by first | omega | assumption | (apply Ne.symm; assumption) | (simp; done) | (simp; omega))
      replace h4 := hk _ _ h4 (by first | omega | assumption | (apply Ne.symm; assumption) | (simp; done) | (simp; omega))
      have D14 := Lib.hid (hB _ _ D13.out (by first | omega | (simp; omega)))
      have z14 := D14.out.size
      have y14 : w14.heap.size = w13.heap.size := hz
      clear hn hk hz hB
      refine store_row rfl _ _ _ rfl (w.heap.size + 1 + 1 + 1) _ rfl rfl _ _ h3 (by kernel_rfl) rfl (by kernel_rfl) ?_
      intro w15 hn hk hz hB
      simp only [Act.put, List.setIfInBounds_toArray, List.set_cons_zero, List.set_cons_succ]
      replace h0 := hk _ _ h0 (by first | omega | assumption | (apply Ne.symm; assumption) | (simp; done) | (simp; omega))
      replace h1 := hk _ _ h1 (by first | omega | assumption | (apply Ne.symm; assumption) | (simp; done) | (simp; omega))
      replace h2 := hk _ _ h2 (by first | omega | assumption | (apply Ne.symm; assumption) | (simp; done) | (simp; omega))
      replace h3 : w15.heap[w.heap.size + 1 + 1 + 1]? = some (.cells #[.int .i64 M2.a, .int .i64 M2.b, .int .i64 M2.c, .int .i64 M2.d] 40 (0, 0)) := hn
      replace h4 := hk _ _ h4 (by first | omega | assumption | (apply Ne.symm; assumption) | (simp; done) | (simp; omega))
      have D15 := Lib.hid (hB _ _ D14.out (by first | omega | (simp; omega)))
      have z15 := D15.out.size
      have y15 : w15.heap.size = w14.heap.size := hz
      clear hn hk hz hB
      go_wp2_with fail
      go_roundg (mu L2)
      case measure => omega
      case rel => exact ⟨L2, M2, Nat.le_refl _, HO2.out, HU2.out, HE2.out, h0, h1, h2, h3, by omega, D15.out⟩
end Go.Proofs.YtehpgmhilcoalaaDoor
