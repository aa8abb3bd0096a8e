/- leaders. -/
import Derived.Test.YtehpgmhilcoalaaDoorGU
namespace Go.Proofs.YtehpgmhilcoalaaDoor
open Go.RowKit Go.Lib
set_option linter.unusedSimpArgs false
set_option linter.unusedVariables false
theorem heap_setCells_other {k b : Nat} (hne : k ≠ b) : ∀ (vs : List Value) (o : Nat) (w : World), (w.setCells b o vs).heap[k]? = w.heap[k]?
  | [], _, _ => rfl
  | v :: r, o, w => by
    rw [World.setCells, heap_setCells_other hne r (o + 1)]
    exact Below.heap_setCell _ _ _ _ hne
theorem FR.keep {B : Nat} {w w' : World} {ao : Option Addr} {cap : Nat} {L : List Mat} (h : FR B w ao cap L) (hs : w.heap.size ≤ w'.heap.size) (hk : ∀ b, B ≤ b → w'.heap[b]? = w.heap[b]?) : FR B w' ao cap L :=
  ⟨h.le, h.mx, fun hc => by
    obtain ⟨b, off, e, h1, h2, h3, h4⟩ := h.row hc
    refine ⟨b, off, e, h1, by omega, fun k a ha j v hv => ?_, fun j hj => ?_⟩
    · rw [World.cell?_of_block (w := w) (a := ⟨b, off + k * 4 + j, none⟩) (hk b h1)]; exact h3 k a ha j v hv
    · obtain ⟨p, q⟩ := h4 j hj
      exact ⟨by rw [World.cell?_of_block (w := w) (a := ⟨b, off + j, none⟩) (hk b h1)]; exact p, by rw [World.frozen?_of_block (w := w) (a := ⟨b, off + j, none⟩) (hk b h1)]; exact q⟩⟩
theorem ls_set {f : Mat → Mat} : ∀ {L : List Mat} {j : Nat} {x : Mat}, L[j]? = some x → ((L.take j).map f ++ L.drop j).set j (f x) = (L.take (j + 1)).map f ++ L.drop (j + 1)
  | [], j, x, h => by simp at h
  | a :: L, 0, x, h => by
    obtain rfl : a = x := by simpa using h
    simp
  | a :: L, j + 1, x, h => by
    have := ls_set (f := f) (L := L) (j := j) (x := x) (by simpa using h)
    simpa using this
theorem ls_get {f : Mat → Mat} : ∀ {L : List Mat} {j : Nat} {x : Mat}, L[j]? = some x → ((L.take j).map f ++ L.drop j)[j]? = some x
  | [], j, x, h => by simp at h
  | a :: L, 0, x, h => by simpa using h
  | a :: L, j + 1, x, h => by
    have := ls_get (f := f) (L := L) (j := j) (x := x) (by simpa using h)
    simpa using this
theorem ls_len {f : Mat → Mat} (L : List Mat) (j : Nat) (h : j ≤ L.length) : ((L.take j).map f ++ L.drop j).length = L.length := by simp; omega
set_option maxHeartbeats 2000000 in
set_option maxRecDepth 100000 in
theorem leaders_any (l : Lat) (hl : Ok l) (w : World) (g : Glob w) : Calls Tryd.prog 62 #[l.val] w fun e w' => ∃ L M ao cap, e = .returned (.tuple #[L.val, .slice ao (keepL L 81).length cap]) ∧ (Red L ∧ Ok L ∧ Unit1 M ∧ led l M = L) ∧ FR w.heap.size w' ao cap ((keepL L 81).map (fun k => M.times k)) ∧ Below w.heap.size w w' := by
  have C1 := fun W g => reduced_any l hl W g
  have Hl := Lib.hid hl
  have HG := Lib.hid g
  clear hl g
  unfold Lat.val Mat.val at *
  have H1 := Lib.hid C1
  clear C1
  go_enter Tryd.func62, Tryd.ntmps62
  go_wp2_with fail
  go_wp2_with fail
  refine (H1.out _ (HG.out.next (by repeat (first | exact Below.refl _ _ | refine Below.alloc ?_ (by first | omega | (simp; omega) | (simp; done)) _)))).mono ?_
  rintro e w1 ⟨L, M, rfl, hL, hb⟩
  have h0 : w1.heap[w.heap.size]? = some (.cells #[.int .i64 l.a, .int .i64 l.b, .int .i64 l.c] 23 (0, 0)) := hb_below hb (by repeat (first | (refine hb_new ?_; (first | omega | (simp; omega) | (simp; done))) | (refine hb_old ?_ ?_; rotate_left; focus (first | omega | (simp; omega) | (simp; done))) | refine hb_drew ?_)) (by first | omega | (simp; omega) | (simp; done))
  have h1 : w1.heap[w.heap.size + 1]? = some (.cells #[.int .i64 0, .int .i64 0, .int .i64 0] 23 (0, 0)) := hb_below hb (by repeat (first | (refine hb_new ?_; (first | omega | (simp; omega) | (simp; done))) | (refine hb_old ?_ ?_; rotate_left; focus (first | omega | (simp; omega) | (simp; done))) | refine hb_drew ?_)) (by first | omega | (simp; omega) | (simp; done))
  have y1 := Below.size hb
  try simp only [World.size_alloc, World.size_drew] at y1
  have D1 := Lib.hid (show Below w.heap.size w w1 from Below.trans (by repeat (first | exact Below.refl _ _ | refine Below.alloc ?_ (by first | omega | (simp; omega) | (simp; done)) _)) (Below.mono hb (by first | omega | (simp; omega) | (simp; done))))
  have z1 := D1.out.size
  clear hb
  try clear c0_0
  have c0_0 := cell_of_heap h0 (j := 0) rfl
  try clear f0_0
  have f0_0 := frozen_of_heap h0 0
  try clear c0_1
  have c0_1 := cell_of_heap h0 (j := 1) rfl
  try clear f0_1
  have f0_1 := frozen_of_heap h0 1
  try clear c0_2
  have c0_2 := cell_of_heap h0 (j := 2) rfl
  try clear f0_2
  have f0_2 := frozen_of_heap h0 2
  try clear c1_0
  have c1_0 := cell_of_heap h1 (j := 0) rfl
  try clear f1_0
  have f1_0 := frozen_of_heap h1 0
  try clear c1_1
  have c1_1 := cell_of_heap h1 (j := 1) rfl
  try clear f1_1
  have f1_1 := frozen_of_heap h1 1
  try clear c1_2
  have c1_2 := cell_of_heap h1 (j := 2) rfl
  try clear f1_2
  have f1_2 := frozen_of_heap h1 2
  have HL := Lib.hid hL
  clear hL
  have ha0 : (w1.alloc (.cells #[.int .i64 0, .int .i64 0, .int .i64 0, .int .i64 0] 40)).heap[w.heap.size]? = some (.cells #[.int .i64 l.a, .int .i64 l.b, .int .i64 l.c] 23 (0, 0)) := (by repeat (first | exact h0 | (refine hb_new ?_; (first | omega | (simp; omega) | (simp; done))) | (refine hb_old ?_ ?_; rotate_left; focus (first | omega | (simp; omega) | (simp; done))) | refine hb_drew ?_))
  have ca0_0 := cell_of_heap ha0 (j := 0) rfl
  have fa0_0 := frozen_of_heap ha0 0
  have ca0_1 := cell_of_heap ha0 (j := 1) rfl
  have fa0_1 := frozen_of_heap ha0 1
  have ca0_2 := cell_of_heap ha0 (j := 2) rfl
  have fa0_2 := frozen_of_heap ha0 2
  have CK := fun W => keepers_any L HL.out.2.1 W
  unfold Lat.val at CK
  have H2 := Lib.hid CK
  clear CK
  go_wp2_with fail
  clear ca0_0 fa0_0
  clear ca0_1 fa0_1
  clear ca0_2 fa0_2
  clear ha0
  obtain ⟨w2, hw2⟩ : ∃ W, W = (w1.alloc (.cells #[.int .i64 0, .int .i64 0, .int .i64 0, .int .i64 0] 40)) := ⟨_, rfl⟩
  rw [← hw2]
  replace h0 : w2.heap[w.heap.size]? = some (.cells #[.int .i64 l.a, .int .i64 l.b, .int .i64 l.c] 23 (0, 0)) := by rw [hw2]; exact (by repeat (first | exact h0 | (refine hb_new ?_; (first | omega | (simp; omega) | (simp; done))) | (refine hb_old ?_ ?_; rotate_left; focus (first | omega | (simp; omega) | (simp; done))) | refine hb_drew ?_))
  replace h1 : w2.heap[w.heap.size + 1]? = some (.cells #[.int .i64 0, .int .i64 0, .int .i64 0] 23 (0, 0)) := by rw [hw2]; exact (by repeat (first | exact h1 | (refine hb_new ?_; (first | omega | (simp; omega) | (simp; done))) | (refine hb_old ?_ ?_; rotate_left; focus (first | omega | (simp; omega) | (simp; done))) | refine hb_drew ?_))
  have h2 : w2.heap[w1.heap.size]? = some (.cells #[.int .i64 0, .int .i64 0, .int .i64 0, .int .i64 0] 40 (0, 0)) := by rw [hw2]; exact (by repeat (first | (refine hb_new ?_; (first | omega | (simp; omega) | (simp; done))) | (refine hb_old ?_ ?_; rotate_left; focus (first | omega | (simp; omega) | (simp; done))) | refine hb_drew ?_))
  have hb : Below w1.heap.size w1 w2 := by rw [hw2]; exact (by repeat (first | exact Below.refl _ _ | refine Below.alloc ?_ (by first | omega | (simp; omega) | (simp; done)) _ | refine Below.drew ?_))
  have s2 : w1.heap.size + 1 ≤ w2.heap.size := by rw [hw2]; simp
  have y2 := Below.size hb
  try simp only [World.size_alloc, World.size_drew] at y2
  have D2 := Lib.hid (show Below w.heap.size w w2 from Below.trans (by repeat (first | exact D1.out | exact Below.refl _ _ | refine Below.alloc ?_ (by first | omega | (simp; omega) | (simp; done)) _)) (Below.mono hb (by first | omega | (simp; omega) | (simp; done))))
  have z2 := D2.out.size
  clear hb hw2
  try clear c0_0
  have c0_0 := cell_of_heap h0 (j := 0) rfl
  try clear f0_0
  have f0_0 := frozen_of_heap h0 0
  try clear c0_1
  have c0_1 := cell_of_heap h0 (j := 1) rfl
  try clear f0_1
  have f0_1 := frozen_of_heap h0 1
  try clear c0_2
  have c0_2 := cell_of_heap h0 (j := 2) rfl
  try clear f0_2
  have f0_2 := frozen_of_heap h0 2
  try clear c1_0
  have c1_0 := cell_of_heap h1 (j := 0) rfl
  try clear f1_0
  have f1_0 := frozen_of_heap h1 0
  try clear c1_1
  have c1_1 := cell_of_heap h1 (j := 1) rfl
  try clear f1_1
  have f1_1 := frozen_of_heap h1 1
  try clear c1_2
  have c1_2 := cell_of_heap h1 (j := 2) rfl
  try clear f1_2
  have f1_2 := frozen_of_heap h1 2
  try clear c2_0
  have c2_0 := cell_of_heap h2 (j := 0) rfl
  try clear f2_0
  have f2_0 := frozen_of_heap h2 0
  try clear c2_1
  have c2_1 := cell_of_heap h2 (j := 1) rfl
  try clear f2_1
  have f2_1 := frozen_of_heap h2 1
  try clear c2_2
  have c2_2 := cell_of_heap h2 (j := 2) rfl
  try clear f2_2
  have f2_2 := frozen_of_heap h2 2
  try clear c2_3
  have c2_3 := cell_of_heap h2 (j := 3) rfl
  try clear f2_3
  have f2_3 := frozen_of_heap h2 3
  have q1 := heap_setCell_same w2 (w.heap.size) 0 _ _ (.int .i64 L.a) h0
  have q2 := (Below.heap_setCell w2 ⟨w.heap.size, 0, none⟩ (.int .i64 L.a) (w.heap.size + 1) (by first | omega | assumption | (apply Ne.symm; assumption) | (simp; done) | (simp; omega))).trans h1
  have q3 := (Below.heap_setCell w2 ⟨w.heap.size, 0, none⟩ (.int .i64 L.a) (w1.heap.size) (by first | omega | assumption | (apply Ne.symm; assumption) | (simp; done) | (simp; omega))).trans h2
  have q4 := heap_setCell_same (w2.setCell ⟨w.heap.size, 0, none⟩ (.int .i64 L.a)) (w.heap.size) 1 _ _ (.int .i64 L.b) q1
  have q5 := (Below.heap_setCell (w2.setCell ⟨w.heap.size, 0, none⟩ (.int .i64 L.a)) ⟨w.heap.size, 1, none⟩ (.int .i64 L.b) (w.heap.size + 1) (by first | omega | assumption | (apply Ne.symm; assumption) | (simp; done) | (simp; omega))).trans q2
  have q6 := (Below.heap_setCell (w2.setCell ⟨w.heap.size, 0, none⟩ (.int .i64 L.a)) ⟨w.heap.size, 1, none⟩ (.int .i64 L.b) (w1.heap.size) (by first | omega | assumption | (apply Ne.symm; assumption) | (simp; done) | (simp; omega))).trans q3
  have q7 := heap_setCell_same ((w2.setCell ⟨w.heap.size, 0, none⟩ (.int .i64 L.a)).setCell ⟨w.heap.size, 1, none⟩ (.int .i64 L.b)) (w.heap.size) 2 _ _ (.int .i64 L.c) q4
  have q8 := (Below.heap_setCell ((w2.setCell ⟨w.heap.size, 0, none⟩ (.int .i64 L.a)).setCell ⟨w.heap.size, 1, none⟩ (.int .i64 L.b)) ⟨w.heap.size, 2, none⟩ (.int .i64 L.c) (w.heap.size + 1) (by first | omega | assumption | (apply Ne.symm; assumption) | (simp; done) | (simp; omega))).trans q5
  have q9 := (Below.heap_setCell ((w2.setCell ⟨w.heap.size, 0, none⟩ (.int .i64 L.a)).setCell ⟨w.heap.size, 1, none⟩ (.int .i64 L.b)) ⟨w.heap.size, 2, none⟩ (.int .i64 L.c) (w1.heap.size) (by first | omega | assumption | (apply Ne.symm; assumption) | (simp; done) | (simp; omega))).trans q6
  have q10 := (Below.heap_setCell (((w2.setCell ⟨w.heap.size, 0, none⟩ (.int .i64 L.a)).setCell ⟨w.heap.size, 1, none⟩ (.int .i64 L.b)).setCell ⟨w.heap.size, 2, none⟩ (.int .i64 L.c)) ⟨w1.heap.size, 0, none⟩ (.int .i64 M.a) (w.heap.size) (by first | omega | assumption | (apply Ne.symm; assumption) | (simp; done) | (simp; omega))).trans q7
  have q11 := (Below.heap_setCell (((w2.setCell ⟨w.heap.size, 0, none⟩ (.int .i64 L.a)).setCell ⟨w.heap.size, 1, none⟩ (.int .i64 L.b)).setCell ⟨w.heap.size, 2, none⟩ (.int .i64 L.c)) ⟨w1.heap.size, 0, none⟩ (.int .i64 M.a) (w.heap.size + 1) (by first | omega | assumption | (apply Ne.symm; assumption) | (simp; done) | (simp; omega))).trans q8
  have q12 := heap_setCell_same (((w2.setCell ⟨w.heap.size, 0, none⟩ (.int .i64 L.a)).setCell ⟨w.heap.size, 1, none⟩ (.int .i64 L.b)).setCell ⟨w.heap.size, 2, none⟩ (.int .i64 L.c)) (w1.heap.size) 0 _ _ (.int .i64 M.a) q9
  have q13 := (Below.heap_setCell ((((w2.setCell ⟨w.heap.size, 0, none⟩ (.int .i64 L.a)).setCell ⟨w.heap.size, 1, none⟩ (.int .i64 L.b)).setCell ⟨w.heap.size, 2, none⟩ (.int .i64 L.c)).setCell ⟨w1.heap.size, 0, none⟩ (.int .i64 M.a)) ⟨w1.heap.size, 1, none⟩ (.int .i64 M.b) (w.heap.size) (by first | omega | assumption | (apply Ne.symm; assumption) | (simp; done) | (simp; omega))).trans q10
  have q14 := (Below.heap_setCell ((((w2.setCell ⟨w.heap.size, 0, none⟩ (.int .i64 L.a)).setCell ⟨w.heap.size, 1, none⟩ (.int .i64 L.b)).setCell ⟨w.heap.size, 2, none⟩ (.int .i64 L.c)).setCell ⟨w1.heap.size, 0, none⟩ (.int .i64 M.a)) ⟨w1.heap.size, 1, none⟩ (.int .i64 M.b) (w.heap.size + 1) (by first | omega | assumption | (apply Ne.symm; assumption) | (simp; done) | (simp; omega))).trans q11
  have q15 := heap_setCell_same ((((w2.setCell ⟨w.heap.size, 0, none⟩ (.int .i64 L.a)).setCell ⟨w.heap.size, 1, none⟩ (.int .i64 L.b)).setCell ⟨w.heap.size, 2, none⟩ (.int .i64 L.c)).setCell ⟨w1.heap.size, 0, none⟩ (.int .i64 M.a)) (w1.heap.size) 1 _ _ (.int .i64 M.b) q12
  have q16 := (Below.heap_setCell (((((w2.setCell ⟨w.heap.size, 0, none⟩ (.int .i64 L.a)).setCell ⟨w.heap.size, 1, none⟩ (.int .i64 L.b)).setCell ⟨w.heap.size, 2, none⟩ (.int .i64 L.c)).setCell ⟨w1.heap.size, 0, none⟩ (.int .i64 M.a)).setCell ⟨w1.heap.size, 1, none⟩ (.int .i64 M.b)) ⟨w1.heap.size, 2, none⟩ (.int .i64 M.c) (w.heap.size) (by first | omega | assumption | (apply Ne.symm; assumption) | (simp; done) | (simp; omega))).trans q13
  have q17 := (Below.heap_setCell (((((w2.setCell ⟨w.heap.size, 0, none⟩ (.int .i64 L.a)).setCell ⟨w.heap.size, 1, none⟩ (.int .i64 L.b)).setCell ⟨w.heap.size, 2, none⟩ (.int .i64 L.c)).setCell ⟨w1.heap.size, 0, none⟩ (.int .i64 M.a)).setCell ⟨w1.heap.size, 1, none⟩ (.int .i64 M.b)) ⟨w1.heap.size, 2, none⟩ (.int .i64 M.c) (w.heap.size + 1) (by first | omega | assumption | (apply Ne.symm; assumption) | (simp; done) | (simp; omega))).trans q14
  have q18 := heap_setCell_same (((((w2.setCell ⟨w.heap.size, 0, none⟩ (.int .i64 L.a)).setCell ⟨w.heap.size, 1, none⟩ (.int .i64 L.b)).setCell ⟨w.heap.size, 2, none⟩ (.int .i64 L.c)).setCell ⟨w1.heap.size, 0, none⟩ (.int .i64 M.a)).setCell ⟨w1.heap.size, 1, none⟩ (.int .i64 M.b)) (w1.heap.size) 2 _ _ (.int .i64 M.c) q15
  have q19 := (Below.heap_setCell ((((((w2.setCell ⟨w.heap.size, 0, none⟩ (.int .i64 L.a)).setCell ⟨w.heap.size, 1, none⟩ (.int .i64 L.b)).setCell ⟨w.heap.size, 2, none⟩ (.int .i64 L.c)).setCell ⟨w1.heap.size, 0, none⟩ (.int .i64 M.a)).setCell ⟨w1.heap.size, 1, none⟩ (.int .i64 M.b)).setCell ⟨w1.heap.size, 2, none⟩ (.int .i64 M.c)) ⟨w1.heap.size, 3, none⟩ (.int .i64 M.d) (w.heap.size) (by first | omega | assumption | (apply Ne.symm; assumption) | (simp; done) | (simp; omega))).trans q16
  have q20 := (Below.heap_setCell ((((((w2.setCell ⟨w.heap.size, 0, none⟩ (.int .i64 L.a)).setCell ⟨w.heap.size, 1, none⟩ (.int .i64 L.b)).setCell ⟨w.heap.size, 2, none⟩ (.int .i64 L.c)).setCell ⟨w1.heap.size, 0, none⟩ (.int .i64 M.a)).setCell ⟨w1.heap.size, 1, none⟩ (.int .i64 M.b)).setCell ⟨w1.heap.size, 2, none⟩ (.int .i64 M.c)) ⟨w1.heap.size, 3, none⟩ (.int .i64 M.d) (w.heap.size + 1) (by first | omega | assumption | (apply Ne.symm; assumption) | (simp; done) | (simp; omega))).trans q17
  have q21 := heap_setCell_same ((((((w2.setCell ⟨w.heap.size, 0, none⟩ (.int .i64 L.a)).setCell ⟨w.heap.size, 1, none⟩ (.int .i64 L.b)).setCell ⟨w.heap.size, 2, none⟩ (.int .i64 L.c)).setCell ⟨w1.heap.size, 0, none⟩ (.int .i64 M.a)).setCell ⟨w1.heap.size, 1, none⟩ (.int .i64 M.b)).setCell ⟨w1.heap.size, 2, none⟩ (.int .i64 M.c)) (w1.heap.size) 3 _ _ (.int .i64 M.d) q18
  obtain ⟨w3, hw3⟩ : ∃ W, W = (((((((w2.setCell ⟨w.heap.size, 0, none⟩ (.int .i64 L.a)).setCell ⟨w.heap.size, 1, none⟩ (.int .i64 L.b)).setCell ⟨w.heap.size, 2, none⟩ (.int .i64 L.c)).setCell ⟨w1.heap.size, 0, none⟩ (.int .i64 M.a)).setCell ⟨w1.heap.size, 1, none⟩ (.int .i64 M.b)).setCell ⟨w1.heap.size, 2, none⟩ (.int .i64 M.c)).setCell ⟨w1.heap.size, 3, none⟩ (.int .i64 M.d)) := ⟨_, rfl⟩
  rw [← hw3]
  replace h0 : w3.heap[w.heap.size]? = some (.cells #[.int .i64 L.a, .int .i64 L.b, .int .i64 L.c] 23 (0, 0)) := by rw [hw3]; exact q19
  replace h1 : w3.heap[w.heap.size + 1]? = some (.cells #[.int .i64 0, .int .i64 0, .int .i64 0] 23 (0, 0)) := by rw [hw3]; exact q20
  replace h2 : w3.heap[w1.heap.size]? = some (.cells #[.int .i64 M.a, .int .i64 M.b, .int .i64 M.c, .int .i64 M.d] 40 (0, 0)) := by rw [hw3]; exact q21
  have D3 := Lib.hid (show Below w.heap.size w w3 by rw [hw3]; exact (Below.setCell (Below.setCell (Below.setCell (Below.setCell (Below.setCell (Below.setCell (Below.setCell D2.out (p := ⟨w.heap.size, 0, none⟩) (by first | omega | (simp; done) | (simp; omega)) (.int .i64 L.a)) (p := ⟨w.heap.size, 1, none⟩) (by first | omega | (simp; done) | (simp; omega)) (.int .i64 L.b)) (p := ⟨w.heap.size, 2, none⟩) (by first | omega | (simp; done) | (simp; omega)) (.int .i64 L.c)) (p := ⟨w1.heap.size, 0, none⟩) (by first | omega | (simp; done) | (simp; omega)) (.int .i64 M.a)) (p := ⟨w1.heap.size, 1, none⟩) (by first | omega | (simp; done) | (simp; omega)) (.int .i64 M.b)) (p := ⟨w1.heap.size, 2, none⟩) (by first | omega | (simp; done) | (simp; omega)) (.int .i64 M.c)) (p := ⟨w1.heap.size, 3, none⟩) (by first | omega | (simp; done) | (simp; omega)) (.int .i64 M.d)))
  have z3 := D3.out.size
  have y3 : w3.heap.size = w2.heap.size := by rw [hw3]; simp
  clear q21 q20 q19 q18 q17 q16 q15 q14 q13 q12 q11 q10 q9 q8 q7 q6 q5 q4 q3 q2 q1 hw3
  try clear c0_0
  have c0_0 := cell_of_heap h0 (j := 0) rfl
  try clear f0_0
  have f0_0 := frozen_of_heap h0 0
  try clear c0_1
  have c0_1 := cell_of_heap h0 (j := 1) rfl
  try clear f0_1
  have f0_1 := frozen_of_heap h0 1
  try clear c0_2
  have c0_2 := cell_of_heap h0 (j := 2) rfl
  try clear f0_2
  have f0_2 := frozen_of_heap h0 2
  try clear c1_0
  have c1_0 := cell_of_heap h1 (j := 0) rfl
  try clear f1_0
  have f1_0 := frozen_of_heap h1 0
  try clear c1_1
  have c1_1 := cell_of_heap h1 (j := 1) rfl
  try clear f1_1
  have f1_1 := frozen_of_heap h1 1
  try clear c1_2
  have c1_2 := cell_of_heap h1 (j := 2) rfl
  try clear f1_2
  have f1_2 := frozen_of_heap h1 2
  try clear c2_0
  have c2_0 := cell_of_heap h2 (j := 0) rfl
  try clear f2_0
  have f2_0 := frozen_of_heap h2 0
  try clear c2_1
  have c2_1 := cell_of_heap h2 (j := 1) rfl
  try clear f2_1
  have f2_1 := frozen_of_heap h2 1
  try clear c2_2
  have c2_2 := cell_of_heap h2 (j := 2) rfl
  try clear f2_2
  have f2_2 := frozen_of_heap h2 2
  try clear c2_3
  have c2_3 := cell_of_heap h2 (j := 3) rfl
  try clear f2_3
  have f2_3 := frozen_of_heap h2 3
  refine (H2.out _).mono ?_
  rintro e w4 ⟨ao, cap, rfl, hfr, hb⟩
  replace h0 : w4.heap[w.heap.size]? = some (.cells #[.int .i64 L.a, .int .i64 L.b, .int .i64 L.c] 23 (0, 0)) := hb_below hb (by repeat (first | exact h0 | (refine hb_new ?_; (first | omega | (simp; omega) | (simp; done))) | (refine hb_old ?_ ?_; rotate_left; focus (first | omega | (simp; omega) | (simp; done))) | refine hb_drew ?_)) (by first | omega | (simp; omega) | (simp; done))
  replace h1 : w4.heap[w.heap.size + 1]? = some (.cells #[.int .i64 0, .int .i64 0, .int .i64 0] 23 (0, 0)) := hb_below hb (by repeat (first | exact h1 | (refine hb_new ?_; (first | omega | (simp; omega) | (simp; done))) | (refine hb_old ?_ ?_; rotate_left; focus (first | omega | (simp; omega) | (simp; done))) | refine hb_drew ?_)) (by first | omega | (simp; omega) | (simp; done))
  replace h2 : w4.heap[w1.heap.size]? = some (.cells #[.int .i64 M.a, .int .i64 M.b, .int .i64 M.c, .int .i64 M.d] 40 (0, 0)) := hb_below hb (by repeat (first | exact h2 | (refine hb_new ?_; (first | omega | (simp; omega) | (simp; done))) | (refine hb_old ?_ ?_; rotate_left; focus (first | omega | (simp; omega) | (simp; done))) | refine hb_drew ?_)) (by first | omega | (simp; omega) | (simp; done))
  have HF := Lib.hid hfr
  clear hfr
  have y4 := Below.size hb
  try simp only [World.size_alloc, World.size_drew] at y4
  have D4 := Lib.hid (show Below w.heap.size w w4 from Below.trans (by repeat (first | exact D3.out | exact Below.refl _ _ | refine Below.alloc ?_ (by first | omega | (simp; omega) | (simp; done)) _)) (Below.mono hb (by first | omega | (simp; omega) | (simp; done))))
  have z4 := D4.out.size
  clear hb
  try clear c0_0
  have c0_0 := cell_of_heap h0 (j := 0) rfl
  try clear f0_0
  have f0_0 := frozen_of_heap h0 0
  try clear c0_1
  have c0_1 := cell_of_heap h0 (j := 1) rfl
  try clear f0_1
  have f0_1 := frozen_of_heap h0 1
  try clear c0_2
  have c0_2 := cell_of_heap h0 (j := 2) rfl
  try clear f0_2
  have f0_2 := frozen_of_heap h0 2
  try clear c1_0
  have c1_0 := cell_of_heap h1 (j := 0) rfl
  try clear f1_0
  have f1_0 := frozen_of_heap h1 0
  try clear c1_1
  have c1_1 := cell_of_heap h1 (j := 1) rfl
  try clear f1_1
  have f1_1 := frozen_of_heap h1 1
  try clear c1_2
  have c1_2 := cell_of_heap h1 (j := 2) rfl
  try clear f1_2
  have f1_2 := frozen_of_heap h1 2
  try clear c2_0
  have c2_0 := cell_of_heap h2 (j := 0) rfl
  try clear f2_0
  have f2_0 := frozen_of_heap h2 0
  try clear c2_1
  have c2_1 := cell_of_heap h2 (j := 1) rfl
  try clear f2_1
  have f2_1 := frozen_of_heap h2 1
  try clear c2_2
  have c2_2 := cell_of_heap h2 (j := 2) rfl
  try clear f2_2
  have f2_2 := frozen_of_heap h2 2
  try clear c2_3
  have c2_3 := cell_of_heap h2 (j := 3) rfl
  try clear f2_3
  have f2_3 := frozen_of_heap h2 3
  have hnl := keepL_le L 81
  generalize hn : keepL L 81 = R at *
  have HN := Lib.hid hn
  clear hn
  have hm : ∀ x ∈ R, Mok ((fun k => M.times k) x) := fun x hx => lead_ok Hl.out (r := L) ⟨HL.out.2.1.2.1, HL.out.2.1.2.2.2.2.2.1⟩ (by rw [led_times, HL.out.2.2.2]; rw [← HN.out] at hx; exact (mem_keepL HL.out.1 x).1 hx)
  have HM := Lib.hid hm
  clear hm
  have z4_B : w3.heap.size ≤ w4.heap.size := by omega
  go_wp2_with fail
  go_loopg [17] R.length (fun kk s wr => ∃ j : Nat, j ≤ R.length ∧ R.length - j ≤ kk ∧ s = .int .i64 j ∧ FR w3.heap.size wr ao cap ((R.take j).map (fun k => M.times k) ++ R.drop j) ∧ wr.heap[w.heap.size]? = some (.cells #[.int .i64 L.a, .int .i64 L.b, .int .i64 L.c] 23 (0, 0)) ∧ wr.heap[w.heap.size + 1]? = some (.cells #[.int .i64 0, .int .i64 0, .int .i64 0] 23 (0, 0)) ∧ wr.heap[w1.heap.size]? = some (.cells #[.int .i64 M.a, .int .i64 M.b, .int .i64 M.c, .int .i64 M.d] 40 (0, 0)) ∧ w3.heap.size ≤ wr.heap.size ∧ Below w.heap.size w wr)
  case atStart => exact ⟨0, Nat.zero_le _, by omega, rfl, by simpa using HF.out, h0, h1, h2, z4_B, D4.out⟩
  case round =>
    rename World => w50
    obtain ⟨j, hj, hkk, rfl, hfr, g0, g1, g2, y50, hb⟩ := hrel
    clear h0
    clear h1
    clear h2
    try clear c0_0
    try clear f0_0
    try clear c0_1
    try clear f0_1
    try clear c0_2
    try clear f0_2
    try clear c1_0
    try clear f1_0
    try clear c1_1
    try clear f1_1
    try clear c1_2
    try clear f1_2
    try clear c2_0
    try clear f2_0
    try clear c2_1
    try clear f2_1
    try clear c2_2
    try clear f2_2
    try clear c2_3
    try clear f2_3
    have h0 := g0
    clear g0
    have h1 := g1
    clear g1
    have h2 := g2
    clear g2
    have D50 := Lib.hid hb
    have z50 := D50.out.size
    replace HF := Lib.hid hfr
    clear hb hfr
    try clear c0_0
    have c0_0 := cell_of_heap h0 (j := 0) rfl
    try clear f0_0
    have f0_0 := frozen_of_heap h0 0
    try clear c0_1
    have c0_1 := cell_of_heap h0 (j := 1) rfl
    try clear f0_1
    have f0_1 := frozen_of_heap h0 1
    try clear c0_2
    have c0_2 := cell_of_heap h0 (j := 2) rfl
    try clear f0_2
    have f0_2 := frozen_of_heap h0 2
    try clear c1_0
    have c1_0 := cell_of_heap h1 (j := 0) rfl
    try clear f1_0
    have f1_0 := frozen_of_heap h1 0
    try clear c1_1
    have c1_1 := cell_of_heap h1 (j := 1) rfl
    try clear f1_1
    have f1_1 := frozen_of_heap h1 1
    try clear c1_2
    have c1_2 := cell_of_heap h1 (j := 2) rfl
    try clear f1_2
    have f1_2 := frozen_of_heap h1 2
    try clear c2_0
    have c2_0 := cell_of_heap h2 (j := 0) rfl
    try clear f2_0
    have f2_0 := frozen_of_heap h2 0
    try clear c2_1
    have c2_1 := cell_of_heap h2 (j := 1) rfl
    try clear f2_1
    have f2_1 := frozen_of_heap h2 1
    try clear c2_2
    have c2_2 := cell_of_heap h2 (j := 2) rfl
    try clear f2_2
    have f2_2 := frozen_of_heap h2 2
    try clear c2_3
    have c2_3 := cell_of_heap h2 (j := 3) rfl
    try clear f2_3
    have f2_3 := frozen_of_heap h2 3
    by_cases hlt : j < R.length
    · obtain ⟨x, hx⟩ : ∃ x, R[j]? = some x := ⟨_, List.getElem?_eq_getElem hlt⟩
      have j0 : (0 : Int) ≤ (j : Int) := by omega
      have j1 : (j : Int) < ((R.length : Nat) : Int) := by omega
      obtain ⟨b, off, hao, hBb, hbs, hr, _⟩ := HF.out.at (ls_get (f := (fun k => M.times k)) hx)
      cases hao
      have e0 : w50.cell? ⟨b, off + j * 4, none⟩ = some (.int .i64 x.a) := hr 0 _ rfl
      have e1 : w50.cell? ⟨b, off + j * 4 + 1, none⟩ = some (.int .i64 x.b) := hr 1 _ rfl
      have e2 : w50.cell? ⟨b, off + j * 4 + 2, none⟩ = some (.int .i64 x.c) := hr 2 _ rfl
      have e3 : w50.cell? ⟨b, off + j * 4 + 3, none⟩ = some (.int .i64 x.d) := hr 3 _ rfl
      have CT := fun W => times_any M x W
      rw [mok_w (HM.out x (List.mem_of_getElem? hx))] at CT
      unfold Mat.val at CT
      generalize hx2 : M.times x = x2 at *
      have HT := Lib.hid CT
      have HX := Lib.hid hx
      have HX2 := Lib.hid hx2
      clear CT hx hx2 hr
      have ha2 : (w50.alloc (.cells #[.int .i64 x.a, .int .i64 x.b, .int .i64 x.c, .int .i64 x.d] 40)).heap[w1.heap.size]? = some (.cells #[.int .i64 M.a, .int .i64 M.b, .int .i64 M.c, .int .i64 M.d] 40 (0, 0)) := (by repeat (first | exact h2 | (refine hb_new ?_; (first | omega | (simp; omega) | (simp; done))) | (refine hb_old ?_ ?_; rotate_left; focus (first | omega | (simp; omega) | (simp; done))) | refine hb_drew ?_))
      have ca2_0 := cell_of_heap ha2 (j := 0) rfl
      have fa2_0 := frozen_of_heap ha2 0
      have ca2_1 := cell_of_heap ha2 (j := 1) rfl
      have fa2_1 := frozen_of_heap ha2 1
      have ca2_2 := cell_of_heap ha2 (j := 2) rfl
      have fa2_2 := frozen_of_heap ha2 2
      have ca2_3 := cell_of_heap ha2 (j := 3) rfl
      have fa2_3 := frozen_of_heap ha2 3
      go_wp2_with fail
      obtain ⟨w51, hw51⟩ : ∃ W, W = (w50.alloc (.cells #[.int .i64 x.a, .int .i64 x.b, .int .i64 x.c, .int .i64 x.d] 40)) := ⟨_, rfl⟩
      rw [← hw51]
      replace h0 : w51.heap[w.heap.size]? = some (.cells #[.int .i64 L.a, .int .i64 L.b, .int .i64 L.c] 23 (0, 0)) := by rw [hw51]; exact (by repeat (first | exact h0 | (refine hb_new ?_; (first | omega | (simp; omega) | (simp; done))) | (refine hb_old ?_ ?_; rotate_left; focus (first | omega | (simp; omega) | (simp; done))) | refine hb_drew ?_))
      replace h1 : w51.heap[w.heap.size + 1]? = some (.cells #[.int .i64 0, .int .i64 0, .int .i64 0] 23 (0, 0)) := by rw [hw51]; exact (by repeat (first | exact h1 | (refine hb_new ?_; (first | omega | (simp; omega) | (simp; done))) | (refine hb_old ?_ ?_; rotate_left; focus (first | omega | (simp; omega) | (simp; done))) | refine hb_drew ?_))
      replace h2 : w51.heap[w1.heap.size]? = some (.cells #[.int .i64 M.a, .int .i64 M.b, .int .i64 M.c, .int .i64 M.d] 40 (0, 0)) := by rw [hw51]; exact (by repeat (first | exact h2 | (refine hb_new ?_; (first | omega | (simp; omega) | (simp; done))) | (refine hb_old ?_ ?_; rotate_left; focus (first | omega | (simp; omega) | (simp; done))) | refine hb_drew ?_))
      have h3 : w51.heap[w50.heap.size]? = some (.cells #[.int .i64 x.a, .int .i64 x.b, .int .i64 x.c, .int .i64 x.d] 40 (0, 0)) := by rw [hw51]; exact (by repeat (first | (refine hb_new ?_; (first | omega | (simp; omega) | (simp; done))) | (refine hb_old ?_ ?_; rotate_left; focus (first | omega | (simp; omega) | (simp; done))) | refine hb_drew ?_))
      have hb : Below w50.heap.size w50 w51 := by rw [hw51]; exact (by repeat (first | exact Below.refl _ _ | refine Below.alloc ?_ (by first | omega | (simp; omega) | (simp; done)) _ | refine Below.drew ?_))
      replace HF := Lib.hid (FR.below HF.out hb)
      have s51 : w50.heap.size + 1 ≤ w51.heap.size := by rw [hw51]; simp
      have y51 := Below.size hb
      try simp only [World.size_alloc, World.size_drew] at y51
      have D51 := Lib.hid (show Below w.heap.size w w51 from Below.trans (by repeat (first | exact D50.out | exact Below.refl _ _ | refine Below.alloc ?_ (by first | omega | (simp; omega) | (simp; done)) _)) (Below.mono hb (by first | omega | (simp; omega) | (simp; done))))
      have z51 := D51.out.size
      clear hb hw51
      try clear c0_0
      have c0_0 := cell_of_heap h0 (j := 0) rfl
      try clear f0_0
      have f0_0 := frozen_of_heap h0 0
      try clear c0_1
      have c0_1 := cell_of_heap h0 (j := 1) rfl
      try clear f0_1
      have f0_1 := frozen_of_heap h0 1
      try clear c0_2
      have c0_2 := cell_of_heap h0 (j := 2) rfl
      try clear f0_2
      have f0_2 := frozen_of_heap h0 2
      try clear c1_0
      have c1_0 := cell_of_heap h1 (j := 0) rfl
      try clear f1_0
      have f1_0 := frozen_of_heap h1 0
      try clear c1_1
      have c1_1 := cell_of_heap h1 (j := 1) rfl
      try clear f1_1
      have f1_1 := frozen_of_heap h1 1
      try clear c1_2
      have c1_2 := cell_of_heap h1 (j := 2) rfl
      try clear f1_2
      have f1_2 := frozen_of_heap h1 2
      try clear c2_0
      have c2_0 := cell_of_heap h2 (j := 0) rfl
      try clear f2_0
      have f2_0 := frozen_of_heap h2 0
      try clear c2_1
      have c2_1 := cell_of_heap h2 (j := 1) rfl
      try clear f2_1
      have f2_1 := frozen_of_heap h2 1
      try clear c2_2
      have c2_2 := cell_of_heap h2 (j := 2) rfl
      try clear f2_2
      have f2_2 := frozen_of_heap h2 2
      try clear c2_3
      have c2_3 := cell_of_heap h2 (j := 3) rfl
      try clear f2_3
      have f2_3 := frozen_of_heap h2 3
      try clear c3_0
      have c3_0 := cell_of_heap h3 (j := 0) rfl
      try clear f3_0
      have f3_0 := frozen_of_heap h3 0
      try clear c3_1
      have c3_1 := cell_of_heap h3 (j := 1) rfl
      try clear f3_1
      have f3_1 := frozen_of_heap h3 1
      try clear c3_2
      have c3_2 := cell_of_heap h3 (j := 2) rfl
      try clear f3_2
      have f3_2 := frozen_of_heap h3 2
      try clear c3_3
      have c3_3 := cell_of_heap h3 (j := 3) rfl
      try clear f3_3
      have f3_3 := frozen_of_heap h3 3
      refine (HT.out _).mono ?_
      rintro e w52 ⟨rfl, hb⟩
      replace h0 : w52.heap[w.heap.size]? = some (.cells #[.int .i64 L.a, .int .i64 L.b, .int .i64 L.c] 23 (0, 0)) := hb_below hb (by repeat (first | exact h0 | (refine hb_new ?_; (first | omega | (simp; omega) | (simp; done))) | (refine hb_old ?_ ?_; rotate_left; focus (first | omega | (simp; omega) | (simp; done))) | refine hb_drew ?_)) (by first | omega | (simp; omega) | (simp; done))
      replace h1 : w52.heap[w.heap.size + 1]? = some (.cells #[.int .i64 0, .int .i64 0, .int .i64 0] 23 (0, 0)) := hb_below hb (by repeat (first | exact h1 | (refine hb_new ?_; (first | omega | (simp; omega) | (simp; done))) | (refine hb_old ?_ ?_; rotate_left; focus (first | omega | (simp; omega) | (simp; done))) | refine hb_drew ?_)) (by first | omega | (simp; omega) | (simp; done))
      replace h2 : w52.heap[w1.heap.size]? = some (.cells #[.int .i64 M.a, .int .i64 M.b, .int .i64 M.c, .int .i64 M.d] 40 (0, 0)) := hb_below hb (by repeat (first | exact h2 | (refine hb_new ?_; (first | omega | (simp; omega) | (simp; done))) | (refine hb_old ?_ ?_; rotate_left; focus (first | omega | (simp; omega) | (simp; done))) | refine hb_drew ?_)) (by first | omega | (simp; omega) | (simp; done))
      replace h3 : w52.heap[w50.heap.size]? = some (.cells #[.int .i64 x.a, .int .i64 x.b, .int .i64 x.c, .int .i64 x.d] 40 (0, 0)) := hb_below hb (by repeat (first | exact h3 | (refine hb_new ?_; (first | omega | (simp; omega) | (simp; done))) | (refine hb_old ?_ ?_; rotate_left; focus (first | omega | (simp; omega) | (simp; done))) | refine hb_drew ?_)) (by first | omega | (simp; omega) | (simp; done))
      replace HF := Lib.hid (FR.below (FR.below HF.out (by repeat (first | exact Below.refl _ _ | refine Below.alloc ?_ (by first | omega | (simp; omega) | (simp; done)) _ | refine Below.drew ?_))) (Below.mono hb (by first | exact Nat.le_refl _ | (simp; done))))
      have y52 := Below.size hb
      try simp only [World.size_alloc, World.size_drew] at y52
      have D52 := Lib.hid (show Below w.heap.size w w52 from Below.trans (by repeat (first | exact D51.out | exact Below.refl _ _ | refine Below.alloc ?_ (by first | omega | (simp; omega) | (simp; done)) _)) (Below.mono hb (by first | omega | (simp; omega) | (simp; done))))
      have z52 := D52.out.size
      clear hb
      try clear c0_0
      have c0_0 := cell_of_heap h0 (j := 0) rfl
      try clear f0_0
      have f0_0 := frozen_of_heap h0 0
      try clear c0_1
      have c0_1 := cell_of_heap h0 (j := 1) rfl
      try clear f0_1
      have f0_1 := frozen_of_heap h0 1
      try clear c0_2
      have c0_2 := cell_of_heap h0 (j := 2) rfl
      try clear f0_2
      have f0_2 := frozen_of_heap h0 2
      try clear c1_0
      have c1_0 := cell_of_heap h1 (j := 0) rfl
      try clear f1_0
      have f1_0 := frozen_of_heap h1 0
      try clear c1_1
      have c1_1 := cell_of_heap h1 (j := 1) rfl
      try clear f1_1
      have f1_1 := frozen_of_heap h1 1
      try clear c1_2
      have c1_2 := cell_of_heap h1 (j := 2) rfl
      try clear f1_2
      have f1_2 := frozen_of_heap h1 2
      try clear c2_0
      have c2_0 := cell_of_heap h2 (j := 0) rfl
      try clear f2_0
      have f2_0 := frozen_of_heap h2 0
      try clear c2_1
      have c2_1 := cell_of_heap h2 (j := 1) rfl
      try clear f2_1
      have f2_1 := frozen_of_heap h2 1
      try clear c2_2
      have c2_2 := cell_of_heap h2 (j := 2) rfl
      try clear f2_2
      have f2_2 := frozen_of_heap h2 2
      try clear c2_3
      have c2_3 := cell_of_heap h2 (j := 3) rfl
      try clear f2_3
      have f2_3 := frozen_of_heap h2 3
      try clear c3_0
      have c3_0 := cell_of_heap h3 (j := 0) rfl
      try clear f3_0
      have f3_0 := frozen_of_heap h3 0
      try clear c3_1
      have c3_1 := cell_of_heap h3 (j := 1) rfl
      try clear f3_1
      have f3_1 := frozen_of_heap h3 1
      try clear c3_2
      have c3_2 := cell_of_heap h3 (j := 2) rfl
      try clear f3_2
      have f3_2 := frozen_of_heap h3 2
      try clear c3_3
      have c3_3 := cell_of_heap h3 (j := 3) rfl
      try clear f3_3
      have f3_3 := frozen_of_heap h3 3
      obtain ⟨b', off', hao, _, hbs2, hr, ht⟩ := HF.out.at (ls_get (f := (fun k => M.times k)) HX.out)
      cases hao
      replace e0 : w52.cell? ⟨b, off + j * 4, none⟩ = some (.int .i64 x.a) := hr 0 _ rfl
      have f0 : w52.frozen? ⟨b, off + j * 4, none⟩ = false := (ht 0 (by omega)).2
      replace e1 : w52.cell? ⟨b, off + j * 4 + 1, none⟩ = some (.int .i64 x.b) := hr 1 _ rfl
      have f1 : w52.frozen? ⟨b, off + j * 4 + 1, none⟩ = false := (ht 1 (by omega)).2
      replace e2 : w52.cell? ⟨b, off + j * 4 + 2, none⟩ = some (.int .i64 x.c) := hr 2 _ rfl
      have f2 : w52.frozen? ⟨b, off + j * 4 + 2, none⟩ = false := (ht 2 (by omega)).2
      replace e3 : w52.cell? ⟨b, off + j * 4 + 3, none⟩ = some (.int .i64 x.d) := hr 3 _ rfl
      have f3 : w52.frozen? ⟨b, off + j * 4 + 3, none⟩ = false := (ht 3 (by omega)).2
      clear hr ht
      go_wp2_with fail
      have hset := HF.out.set (k := j) (by rw [ls_len _ _ hj]; exact hlt) x2
      have hls : ((R.take j).map (fun k => M.times k) ++ R.drop j).set j x2 = (R.take (j + 1)).map (fun k => M.times k) ++ R.drop (j + 1) := by rw [← HX2.out]; exact ls_set (f := (fun k => M.times k)) HX.out
      rw [hls] at hset
      have hbS := below_setCells (Below.refl w3.heap.size w52) hBb (off + j * 4) (ml x2)
      have hk0 : (w52.setCells b (off + j * 4) (ml x2)).heap[w.heap.size]? = some (.cells #[.int .i64 L.a, .int .i64 L.b, .int .i64 L.c] 23 (0, 0)) := hb_below hbS h0 (by omega)
      have hk1 : (w52.setCells b (off + j * 4) (ml x2)).heap[w.heap.size + 1]? = some (.cells #[.int .i64 0, .int .i64 0, .int .i64 0] 23 (0, 0)) := hb_below hbS h1 (by omega)
      have hk2 : (w52.setCells b (off + j * 4) (ml x2)).heap[w1.heap.size]? = some (.cells #[.int .i64 M.a, .int .i64 M.b, .int .i64 M.c, .int .i64 M.d] 40 (0, 0)) := hb_below hbS h2 (by omega)
      go_roundg (R.length - (j + 1))
      case measure => omega
      case rel => exact ⟨j + 1, hlt, Nat.le_refl _, by go_num, hset, hk0, hk1, hk2, Nat.le_trans (by omega) hbS.size, D52.out.trans (hbS.mono (by omega))⟩
    · obtain rfl : j = R.length := by omega
      go_wp2_with fail
      have hfr := HF.out
      rw [List.take_length, List.drop_length, List.append_nil] at hfr
      have hfr2 : FR w3.heap.size (((w50.setCell ⟨w.heap.size + 1, 0, none⟩ (.int .i64 L.a)).setCell ⟨w.heap.size + 1, 1, none⟩ (.int .i64 L.b)).setCell ⟨w.heap.size + 1, 2, none⟩ (.int .i64 L.c)) ao cap (R.map fun k => M.times k) := hfr.keep (by simp) (fun b hb => by rw [Below.heap_setCell _ _ _ _ (by show b ≠ w.heap.size + 1; omega), Below.heap_setCell _ _ _ _ (by show b ≠ w.heap.size + 1; omega), Below.heap_setCell _ _ _ _ (by show b ≠ w.heap.size + 1; omega)])
      clear hfr
      clear HF
      have q1 := (Below.heap_setCell w50 ⟨w.heap.size + 1, 0, none⟩ (.int .i64 L.a) (w.heap.size) (by first | omega | assumption | (apply Ne.symm; assumption) | (simp; done) | (simp; omega))).trans h0
      have q2 := heap_setCell_same w50 (w.heap.size + 1) 0 _ _ (.int .i64 L.a) h1
      have q3 := (Below.heap_setCell w50 ⟨w.heap.size + 1, 0, none⟩ (.int .i64 L.a) (w1.heap.size) (by first | omega | assumption | (apply Ne.symm; assumption) | (simp; done) | (simp; omega))).trans h2
      have q4 := (Below.heap_setCell (w50.setCell ⟨w.heap.size + 1, 0, none⟩ (.int .i64 L.a)) ⟨w.heap.size + 1, 1, none⟩ (.int .i64 L.b) (w.heap.size) (by first | omega | assumption | (apply Ne.symm; assumption) | (simp; done) | (simp; omega))).trans q1
      have q5 := heap_setCell_same (w50.setCell ⟨w.heap.size + 1, 0, none⟩ (.int .i64 L.a)) (w.heap.size + 1) 1 _ _ (.int .i64 L.b) q2
      have q6 := (Below.heap_setCell (w50.setCell ⟨w.heap.size + 1, 0, none⟩ (.int .i64 L.a)) ⟨w.heap.size + 1, 1, none⟩ (.int .i64 L.b) (w1.heap.size) (by first | omega | assumption | (apply Ne.symm; assumption) | (simp; done) | (simp; omega))).trans q3
      have q7 := (Below.heap_setCell ((w50.setCell ⟨w.heap.size + 1, 0, none⟩ (.int .i64 L.a)).setCell ⟨w.heap.size + 1, 1, none⟩ (.int .i64 L.b)) ⟨w.heap.size + 1, 2, none⟩ (.int .i64 L.c) (w.heap.size) (by first | omega | assumption | (apply Ne.symm; assumption) | (simp; done) | (simp; omega))).trans q4
      have q8 := heap_setCell_same ((w50.setCell ⟨w.heap.size + 1, 0, none⟩ (.int .i64 L.a)).setCell ⟨w.heap.size + 1, 1, none⟩ (.int .i64 L.b)) (w.heap.size + 1) 2 _ _ (.int .i64 L.c) q5
      have q9 := (Below.heap_setCell ((w50.setCell ⟨w.heap.size + 1, 0, none⟩ (.int .i64 L.a)).setCell ⟨w.heap.size + 1, 1, none⟩ (.int .i64 L.b)) ⟨w.heap.size + 1, 2, none⟩ (.int .i64 L.c) (w1.heap.size) (by first | omega | assumption | (apply Ne.symm; assumption) | (simp; done) | (simp; omega))).trans q6
      obtain ⟨w51, hw51⟩ : ∃ W, W = (((w50.setCell ⟨w.heap.size + 1, 0, none⟩ (.int .i64 L.a)).setCell ⟨w.heap.size + 1, 1, none⟩ (.int .i64 L.b)).setCell ⟨w.heap.size + 1, 2, none⟩ (.int .i64 L.c)) := ⟨_, rfl⟩
      rw [← hw51] at hfr2 ⊢
      replace h0 : w51.heap[w.heap.size]? = some (.cells #[.int .i64 L.a, .int .i64 L.b, .int .i64 L.c] 23 (0, 0)) := by rw [hw51]; exact q7
      replace h1 : w51.heap[w.heap.size + 1]? = some (.cells #[.int .i64 L.a, .int .i64 L.b, .int .i64 L.c] 23 (0, 0)) := by rw [hw51]; exact q8
      replace h2 : w51.heap[w1.heap.size]? = some (.cells #[.int .i64 M.a, .int .i64 M.b, .int .i64 M.c, .int .i64 M.d] 40 (0, 0)) := by rw [hw51]; exact q9
      have D51 := Lib.hid (show Below w.heap.size w w51 by rw [hw51]; exact (Below.setCell (Below.setCell (Below.setCell D50.out (p := ⟨w.heap.size + 1, 0, none⟩) (by first | omega | (simp; done) | (simp; omega)) (.int .i64 L.a)) (p := ⟨w.heap.size + 1, 1, none⟩) (by first | omega | (simp; done) | (simp; omega)) (.int .i64 L.b)) (p := ⟨w.heap.size + 1, 2, none⟩) (by first | omega | (simp; done) | (simp; omega)) (.int .i64 L.c)))
      have z51 := D51.out.size
      have y51 : w51.heap.size = w50.heap.size := by rw [hw51]; simp
      clear q9 q8 q7 q6 q5 q4 q3 q2 q1 hw51
      try clear c0_0
      have c0_0 := cell_of_heap h0 (j := 0) rfl
      try clear f0_0
      have f0_0 := frozen_of_heap h0 0
      try clear c0_1
      have c0_1 := cell_of_heap h0 (j := 1) rfl
      try clear f0_1
      have f0_1 := frozen_of_heap h0 1
      try clear c0_2
      have c0_2 := cell_of_heap h0 (j := 2) rfl
      try clear f0_2
      have f0_2 := frozen_of_heap h0 2
      try clear c1_0
      have c1_0 := cell_of_heap h1 (j := 0) rfl
      try clear f1_0
      have f1_0 := frozen_of_heap h1 0
      try clear c1_1
      have c1_1 := cell_of_heap h1 (j := 1) rfl
      try clear f1_1
      have f1_1 := frozen_of_heap h1 1
      try clear c1_2
      have c1_2 := cell_of_heap h1 (j := 2) rfl
      try clear f1_2
      have f1_2 := frozen_of_heap h1 2
      try clear c2_0
      have c2_0 := cell_of_heap h2 (j := 0) rfl
      try clear f2_0
      have f2_0 := frozen_of_heap h2 0
      try clear c2_1
      have c2_1 := cell_of_heap h2 (j := 1) rfl
      try clear f2_1
      have f2_1 := frozen_of_heap h2 1
      try clear c2_2
      have c2_2 := cell_of_heap h2 (j := 2) rfl
      try clear f2_2
      have f2_2 := frozen_of_heap h2 2
      try clear c2_3
      have c2_3 := cell_of_heap h2 (j := 3) rfl
      try clear f2_3
      have f2_3 := frozen_of_heap h2 3
      refine bodyPost_ret (results_bt rfl _ _ (w.heap.size + 1) rfl rfl h1 Tryd.underlying23 rfl (by kernel_rfl)) rfl ⟨L, M, ao, cap, by rw [HN.out]; rfl, HL.out, by rw [HN.out]; exact hfr2.mono (by omega), D51.out⟩
end Go.Proofs.YtehpgmhilcoalaaDoor
