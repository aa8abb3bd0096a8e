/- Order of the reference. -/
import Derived.Test.YtjekfkmcgfnkaaaDoorIA
namespace Go.Proofs.YtjekfkmcgfnkaaaDoor
open Go.RowKit Go.Lib
set_option linter.unusedSimpArgs false
set_option linter.unusedVariables false
theorem okS_of {m : Mat} (h : Mok m) : okS m = true := by
  obtain ⟨⟨h1, h2⟩, ⟨h3, h4⟩, ⟨h5, h6⟩, h7, h8⟩ := h
  unfold okS inB
  simp
  omega
theorem okS_iff (m : Mat) : okS m = true ↔ (-1000000 ≤ m.a ∧ m.a ≤ 1000000) ∧ (-1000000 ≤ m.b ∧ m.b ≤ 1000000) ∧ (-1000000 ≤ m.c ∧ m.c ≤ 1000000) ∧ -1000000 ≤ m.d ∧ m.d ≤ 1000000 := by
  unfold okS inB
  simp
  omega
theorem times_s {m n : Mat} (hm : Mok m) (hn : okS n = true) : (m.times n).w = m.times n := by
  obtain ⟨h1, h2, h3, h4⟩ := hm
  obtain ⟨k1, k2, k3, k4⟩ := (okS_iff n).1 hn
  have e1 := mul_bound h1 k1
  have e2 := mul_bound h2 k3
  have e3 := mul_bound h1 k2
  have e4 := mul_bound h2 k4
  have e5 := mul_bound h3 k1
  have e6 := mul_bound h4 k3
  have e7 := mul_bound h3 k2
  have e8 := mul_bound h4 k4
  simp only [Mat.w, Mat.times, Mat.mk.injEq]
  exact ⟨wrap64_id (by omega), wrap64_id (by omega), wrap64_id (by omega), wrap64_id (by omega)⟩
set_option maxHeartbeats 1000000 in
set_option maxRecDepth 100000 in
theorem rOrder_bad (m : Mat) (hm : okM m = false) (w : World) : Calls Tryd.prog 36 #[m.val] w fun e w' => e = .returned (.tuple #[.int .i64 0, .int .i64 2]) ∧ Below w.heap.size w w' := by
  have C1 := fun W => rMatrix_any m W
  rw [hm] at C1
  unfold Mat.val at *
  have H1 := Lib.hid C1
  clear C1
  go_enter Tryd.func36, Tryd.ntmps36
  go_wp2_with fail
  refine (H1.out _).mono ?_
  rintro e w1 ⟨rfl, hb⟩
  have h0 : w1.heap[w.heap.size]? = some (.cells #[.int .i64 m.a, .int .i64 m.b, .int .i64 m.c, .int .i64 m.d] 40 (0, 0)) := hb_below hb (by repeat (first | (refine hb_new ?_; (first | omega | (simp; omega) | (simp; done))) | (refine hb_old ?_ ?_; rotate_left; focus (first | omega | (simp; omega) | (simp; done))) | refine hb_drew ?_)) (by first | omega | (simp; omega) | (simp; done))
  have y1 := Below.size hb
  try simp only [World.size_alloc, World.size_drew] at y1
  have D1 := Lib.hid (show Below w.heap.size w w1 from Below.trans (by repeat (first | exact Below.refl _ _ | refine Below.alloc ?_ (by first | omega | (simp; omega) | (simp; done)) _)) (Below.mono hb (by first | omega | (simp; omega) | (simp; done))))
  have z1 := D1.out.size
  clear hb
  try clear c0_0
  have c0_0 := cell_of_heap h0 (j := 0) rfl
  try clear f0_0
  have f0_0 := frozen_of_heap h0 0
  try clear c0_1
  have c0_1 := cell_of_heap h0 (j := 1) rfl
  try clear f0_1
  have f0_1 := frozen_of_heap h0 1
  try clear c0_2
  have c0_2 := cell_of_heap h0 (j := 2) rfl
  try clear f0_2
  have f0_2 := frozen_of_heap h0 2
  try clear c0_3
  have c0_3 := cell_of_heap h0 (j := 3) rfl
  try clear f0_3
  have f0_3 := frozen_of_heap h0 3
  go_wp2_with fail
  go_ret2
  exact ⟨rfl, (by repeat (first | exact D1.out | exact Below.refl _ _ | refine Below.alloc ?_ (by first | omega | (simp; omega) | (simp; done)) _))⟩
set_option maxHeartbeats 4000000 in
set_option maxRecDepth 100000 in
theorem rOrder_ok (m : Mat) (hm : Mok m) (w : World) : Calls Tryd.prog 36 #[m.val] w fun e w' => e = .returned (.tuple #[.int .i64 (ordV m), .int .i64 0]) ∧ Below w.heap.size w w' := by
  have C1 := fun W => rMatrix_any m W
  rw [(okM_iff m).2 hm] at C1
  unfold Mat.val at *
  have H1 := Lib.hid C1
  have HM := Lib.hid hm
  clear C1 hm
  generalize hv : ordV m = v at *
  have HV := Lib.hid hv
  clear hv
  go_enter Tryd.func36, Tryd.ntmps36
  go_wp2_with fail
  refine (H1.out _).mono ?_
  rintro e w1 ⟨rfl, hb⟩
  have h0 : w1.heap[w.heap.size]? = some (.cells #[.int .i64 m.a, .int .i64 m.b, .int .i64 m.c, .int .i64 m.d] 40 (0, 0)) := hb_below hb (by repeat (first | (refine hb_new ?_; (first | omega | (simp; omega) | (simp; done))) | (refine hb_old ?_ ?_; rotate_left; focus (first | omega | (simp; omega) | (simp; done))) | refine hb_drew ?_)) (by first | omega | (simp; omega) | (simp; done))
  have y1 := Below.size hb
  try simp only [World.size_alloc, World.size_drew] at y1
  have D1 := Lib.hid (show Below w.heap.size w w1 from Below.trans (by repeat (first | exact Below.refl _ _ | refine Below.alloc ?_ (by first | omega | (simp; omega) | (simp; done)) _)) (Below.mono hb (by first | omega | (simp; omega) | (simp; done))))
  have z1 := D1.out.size
  clear hb
  try clear c0_0
  have c0_0 := cell_of_heap h0 (j := 0) rfl
  try clear f0_0
  have f0_0 := frozen_of_heap h0 0
  try clear c0_1
  have c0_1 := cell_of_heap h0 (j := 1) rfl
  try clear f0_1
  have f0_1 := frozen_of_heap h0 1
  try clear c0_2
  have c0_2 := cell_of_heap h0 (j := 2) rfl
  try clear f0_2
  have f0_2 := frozen_of_heap h0 2
  try clear c0_3
  have c0_3 := cell_of_heap h0 (j := 3) rfl
  try clear f0_3
  have f0_3 := frozen_of_heap h0 3
  go_wp2_with fail
  obtain ⟨w2, hw2⟩ : ∃ W, W = (w1.alloc (.cells #[.int .i64 m.a, .int .i64 m.b, .int .i64 m.c, .int .i64 m.d] 40)) := ⟨_, rfl⟩
  rw [← hw2]
  replace h0 : w2.heap[w.heap.size]? = some (.cells #[.int .i64 m.a, .int .i64 m.b, .int .i64 m.c, .int .i64 m.d] 40 (0, 0)) := by rw [hw2]; exact (by repeat (first | exact h0 | (refine hb_new ?_; (first | omega | (simp; omega) | (simp; done))) | (refine hb_old ?_ ?_; rotate_left; focus (first | omega | (simp; omega) | (simp; done))) | refine hb_drew ?_))
  have h1 : w2.heap[w1.heap.size]? = some (.cells #[.int .i64 m.a, .int .i64 m.b, .int .i64 m.c, .int .i64 m.d] 40 (0, 0)) := by rw [hw2]; exact (by repeat (first | (refine hb_new ?_; (first | omega | (simp; omega) | (simp; done))) | (refine hb_old ?_ ?_; rotate_left; focus (first | omega | (simp; omega) | (simp; done))) | refine hb_drew ?_))
  have hb : Below w1.heap.size w1 w2 := by rw [hw2]; exact (by repeat (first | exact Below.refl _ _ | refine Below.alloc ?_ (by first | omega | (simp; omega) | (simp; done)) _ | refine Below.drew ?_))
  have s2 : w1.heap.size + 1 ≤ w2.heap.size := by rw [hw2]; simp
  have y2 := Below.size hb
  try simp only [World.size_alloc, World.size_drew] at y2
  have D2 := Lib.hid (show Below w.heap.size w w2 from Below.trans (by repeat (first | exact D1.out | exact Below.refl _ _ | refine Below.alloc ?_ (by first | omega | (simp; omega) | (simp; done)) _)) (Below.mono hb (by first | omega | (simp; omega) | (simp; done))))
  have z2 := D2.out.size
  clear hb hw2
  try clear c0_0
  have c0_0 := cell_of_heap h0 (j := 0) rfl
  try clear f0_0
  have f0_0 := frozen_of_heap h0 0
  try clear c0_1
  have c0_1 := cell_of_heap h0 (j := 1) rfl
  try clear f0_1
  have f0_1 := frozen_of_heap h0 1
  try clear c0_2
  have c0_2 := cell_of_heap h0 (j := 2) rfl
  try clear f0_2
  have f0_2 := frozen_of_heap h0 2
  try clear c0_3
  have c0_3 := cell_of_heap h0 (j := 3) rfl
  try clear f0_3
  have f0_3 := frozen_of_heap h0 3
  try clear c1_0
  have c1_0 := cell_of_heap h1 (j := 0) rfl
  try clear f1_0
  have f1_0 := frozen_of_heap h1 0
  try clear c1_1
  have c1_1 := cell_of_heap h1 (j := 1) rfl
  try clear f1_1
  have f1_1 := frozen_of_heap h1 1
  try clear c1_2
  have c1_2 := cell_of_heap h1 (j := 2) rfl
  try clear f1_2
  have f1_2 := frozen_of_heap h1 2
  try clear c1_3
  have c1_3 := cell_of_heap h1 (j := 3) rfl
  try clear f1_3
  have f1_3 := frozen_of_heap h1 3
  go_loopg [5] 13 (fun kk s wr => ∃ (i : Nat) (p : Mat), i ≤ 12 ∧ 12 - i ≤ kk ∧ s = .int .i64 ((i : Int) + 1) ∧ p = powm m (i + 1) ∧ (∀ j, j < i → powm m (j + 1) ≠ Mat.one) ∧ wr.heap[w.heap.size]? = some (.cells #[.int .i64 m.a, .int .i64 m.b, .int .i64 m.c, .int .i64 m.d] 40 (0, 0)) ∧ wr.heap[w1.heap.size]? = some (.cells #[.int .i64 p.a, .int .i64 p.b, .int .i64 p.c, .int .i64 p.d] 40 (0, 0)) ∧ w2.heap.size ≤ wr.heap.size ∧ Below w.heap.size w wr)
  case atStart => exact ⟨0, m, by omega, by omega, rfl, (times_one m).symm, fun j h => absurd h (by omega), h0, h1, Nat.le_refl _, D2.out⟩
  case round =>
    rename World => w50
    obtain ⟨i, p, hi, hkk, rfl, hp, hno, g0, g1, y50, hb⟩ := hrel
    try clear c0_0
    try clear f0_0
    try clear c0_1
    try clear f0_1
    try clear c0_2
    try clear f0_2
    try clear c0_3
    try clear f0_3
    try clear c1_0
    try clear f1_0
    try clear c1_1
    try clear f1_1
    try clear c1_2
    try clear f1_2
    try clear c1_3
    try clear f1_3
    clear h0 h1
    have h0 := g0
    have h1 := g1
    clear g0 g1
    have D50 := Lib.hid hb
    have z50 := D50.out.size
    have HP := Lib.hid hp
    have HN := Lib.hid hno
    clear hb hp hno
    try clear c0_0
    have c0_0 := cell_of_heap h0 (j := 0) rfl
    try clear f0_0
    have f0_0 := frozen_of_heap h0 0
    try clear c0_1
    have c0_1 := cell_of_heap h0 (j := 1) rfl
    try clear f0_1
    have f0_1 := frozen_of_heap h0 1
    try clear c0_2
    have c0_2 := cell_of_heap h0 (j := 2) rfl
    try clear f0_2
    have f0_2 := frozen_of_heap h0 2
    try clear c0_3
    have c0_3 := cell_of_heap h0 (j := 3) rfl
    try clear f0_3
    have f0_3 := frozen_of_heap h0 3
    try clear c1_0
    have c1_0 := cell_of_heap h1 (j := 0) rfl
    try clear f1_0
    have f1_0 := frozen_of_heap h1 0
    try clear c1_1
    have c1_1 := cell_of_heap h1 (j := 1) rfl
    try clear f1_1
    have f1_1 := frozen_of_heap h1 1
    try clear c1_2
    have c1_2 := cell_of_heap h1 (j := 2) rfl
    try clear f1_2
    have f1_2 := frozen_of_heap h1 2
    try clear c1_3
    have c1_3 := cell_of_heap h1 (j := 3) rfl
    try clear f1_3
    have f1_3 := frozen_of_heap h1 3
    by_cases hlt : i < 12
    · have i1 : (i : Int) + 1 ≤ 12 := by omega
      have C2 := fun W => rSmall_any p W
      cases hs : okS p
      · rw [hs] at C2
        have hV : v = 0 := by
          rw [← HV.out]
          refine ordV_none fun j hj he => ?_
          have := okS_of (fin_ok HM.out he (i + 1))
          rw [← HP.out, hs] at this
          cases this
        subst hV
        unfold Mat.val at C2
        have H2 := Lib.hid C2
        clear C2 hs
        go_wp2_with fail
        refine (H2.out _).mono ?_
        rintro e w51 ⟨rfl, hb⟩
        replace h0 : w51.heap[w.heap.size]? = some (.cells #[.int .i64 m.a, .int .i64 m.b, .int .i64 m.c, .int .i64 m.d] 40 (0, 0)) := hb_below hb (by repeat (first | exact h0 | (refine hb_new ?_; (first | omega | (simp; omega) | (simp; done))) | (refine hb_old ?_ ?_; rotate_left; focus (first | omega | (simp; omega) | (simp; done))) | refine hb_drew ?_)) (by first | omega | (simp; omega) | (simp; done))
        replace h1 : w51.heap[w1.heap.size]? = some (.cells #[.int .i64 p.a, .int .i64 p.b, .int .i64 p.c, .int .i64 p.d] 40 (0, 0)) := hb_below hb (by repeat (first | exact h1 | (refine hb_new ?_; (first | omega | (simp; omega) | (simp; done))) | (refine hb_old ?_ ?_; rotate_left; focus (first | omega | (simp; omega) | (simp; done))) | refine hb_drew ?_)) (by first | omega | (simp; omega) | (simp; done))
        have y51 := Below.size hb
        try simp only [World.size_alloc, World.size_drew] at y51
        have D51 := Lib.hid (show Below w.heap.size w w51 from Below.trans (by repeat (first | exact D50.out | exact Below.refl _ _ | refine Below.alloc ?_ (by first | omega | (simp; omega) | (simp; done)) _)) (Below.mono hb (by first | omega | (simp; omega) | (simp; done))))
        have z51 := D51.out.size
        clear hb
        try clear c0_0
        have c0_0 := cell_of_heap h0 (j := 0) rfl
        try clear f0_0
        have f0_0 := frozen_of_heap h0 0
        try clear c0_1
        have c0_1 := cell_of_heap h0 (j := 1) rfl
        try clear f0_1
        have f0_1 := frozen_of_heap h0 1
        try clear c0_2
        have c0_2 := cell_of_heap h0 (j := 2) rfl
        try clear f0_2
        have f0_2 := frozen_of_heap h0 2
        try clear c0_3
        have c0_3 := cell_of_heap h0 (j := 3) rfl
        try clear f0_3
        have f0_3 := frozen_of_heap h0 3
        try clear c1_0
        have c1_0 := cell_of_heap h1 (j := 0) rfl
        try clear f1_0
        have f1_0 := frozen_of_heap h1 0
        try clear c1_1
        have c1_1 := cell_of_heap h1 (j := 1) rfl
        try clear f1_1
        have f1_1 := frozen_of_heap h1 1
        try clear c1_2
        have c1_2 := cell_of_heap h1 (j := 2) rfl
        try clear f1_2
        have f1_2 := frozen_of_heap h1 2
        try clear c1_3
        have c1_3 := cell_of_heap h1 (j := 3) rfl
        try clear f1_3
        have f1_3 := frozen_of_heap h1 3
        go_wp2_with fail
        go_ret2
        exact ⟨rfl, D51.out⟩
      · rw [hs] at C2
        have HS := Lib.hid hs
        unfold Mat.val at C2
        have H2 := Lib.hid C2
        clear C2 hs
        by_cases hone : p = Mat.one
        · have hV : v = (i : Int) + 1 := by rw [← HV.out]; exact ordV_found hlt HN.out (by rw [← HP.out]; exact hone)
          subst hV
          subst hone
          go_wp2_with fail
          refine (H2.out _).mono ?_
          rintro e w51 ⟨rfl, hb⟩
          replace h0 : w51.heap[w.heap.size]? = some (.cells #[.int .i64 m.a, .int .i64 m.b, .int .i64 m.c, .int .i64 m.d] 40 (0, 0)) := hb_below hb (by repeat (first | exact h0 | (refine hb_new ?_; (first | omega | (simp; omega) | (simp; done))) | (refine hb_old ?_ ?_; rotate_left; focus (first | omega | (simp; omega) | (simp; done))) | refine hb_drew ?_)) (by first | omega | (simp; omega) | (simp; done))
          replace h1 : w51.heap[w1.heap.size]? = some (.cells #[.int .i64 1, .int .i64 0, .int .i64 0, .int .i64 1] 40 (0, 0)) := hb_below hb (by repeat (first | exact h1 | (refine hb_new ?_; (first | omega | (simp; omega) | (simp; done))) | (refine hb_old ?_ ?_; rotate_left; focus (first | omega | (simp; omega) | (simp; done))) | refine hb_drew ?_)) (by first | omega | (simp; omega) | (simp; done))
          have y51 := Below.size hb
          try simp only [World.size_alloc, World.size_drew] at y51
          have D51 := Lib.hid (show Below w.heap.size w w51 from Below.trans (by repeat (first | exact D50.out | exact Below.refl _ _ | refine Below.alloc ?_ (by first | omega | (simp; omega) | (simp; done)) _)) (Below.mono hb (by first | omega | (simp; omega) | (simp; done))))
          have z51 := D51.out.size
          clear hb
          try clear c0_0
          have c0_0 := cell_of_heap h0 (j := 0) rfl
          try clear f0_0
          have f0_0 := frozen_of_heap h0 0
          try clear c0_1
          have c0_1 := cell_of_heap h0 (j := 1) rfl
          try clear f0_1
          have f0_1 := frozen_of_heap h0 1
          try clear c0_2
          have c0_2 := cell_of_heap h0 (j := 2) rfl
          try clear f0_2
          have f0_2 := frozen_of_heap h0 2
          try clear c0_3
          have c0_3 := cell_of_heap h0 (j := 3) rfl
          try clear f0_3
          have f0_3 := frozen_of_heap h0 3
          try clear c1_0
          have c1_0 := cell_of_heap h1 (j := 0) rfl
          try clear f1_0
          have f1_0 := frozen_of_heap h1 0
          try clear c1_1
          have c1_1 := cell_of_heap h1 (j := 1) rfl
          try clear f1_1
          have f1_1 := frozen_of_heap h1 1
          try clear c1_2
          have c1_2 := cell_of_heap h1 (j := 2) rfl
          try clear f1_2
          have f1_2 := frozen_of_heap h1 2
          try clear c1_3
          have c1_3 := cell_of_heap h1 (j := 3) rfl
          try clear f1_3
          have f1_3 := frozen_of_heap h1 3
          go_wp2_with fail
          go_ret2
          exact ⟨by first | rfl | (congr 3; go_num), D51.out⟩
        · obtain ⟨pa, pb, pc, pd⟩ := p
          simp only at h1 c1_0 c1_1 c1_2 c1_3 H2
          have hne : ¬ (pa = 1 ∧ pb = 0 ∧ pc = 0 ∧ pd = 1) := fun h => hone (by simp only [Mat.one, Mat.mk.injEq]; exact h)
          have hno2 : ∀ j, j < i + 1 → powm m (j + 1) ≠ Mat.one := fun j hj => by
            rcases Nat.lt_or_ge j i with h | h
            · exact HN.out j h
            · obtain rfl : j = i := by omega
              rw [← HP.out]; exact hone
          have CT := fun W => rTimes_any m ⟨pa, pb, pc, pd⟩ W
          rw [times_s HM.out HS.out] at CT
          have hq : m.times ⟨pa, pb, pc, pd⟩ = powm m (i + 1 + 1) := by rw [HP.out]; rfl
          generalize m.times ⟨pa, pb, pc, pd⟩ = q at *
          unfold Mat.val at CT
          have HT := Lib.hid CT
          have HQ := Lib.hid hq
          have HN2 := Lib.hid hno2
          clear CT hq hno2 hone
          go_wp2_with fail
          refine (H2.out _).mono ?_
          rintro e w51 ⟨rfl, hb⟩
          replace h0 : w51.heap[w.heap.size]? = some (.cells #[.int .i64 m.a, .int .i64 m.b, .int .i64 m.c, .int .i64 m.d] 40 (0, 0)) := hb_below hb (by repeat (first | exact h0 | (refine hb_new ?_; (first | omega | (simp; omega) | (simp; done))) | (refine hb_old ?_ ?_; rotate_left; focus (first | omega | (simp; omega) | (simp; done))) | refine hb_drew ?_)) (by first | omega | (simp; omega) | (simp; done))
          replace h1 : w51.heap[w1.heap.size]? = some (.cells #[.int .i64 pa, .int .i64 pb, .int .i64 pc, .int .i64 pd] 40 (0, 0)) := hb_below hb (by repeat (first | exact h1 | (refine hb_new ?_; (first | omega | (simp; omega) | (simp; done))) | (refine hb_old ?_ ?_; rotate_left; focus (first | omega | (simp; omega) | (simp; done))) | refine hb_drew ?_)) (by first | omega | (simp; omega) | (simp; done))
          have y51 := Below.size hb
          try simp only [World.size_alloc, World.size_drew] at y51
          have D51 := Lib.hid (show Below w.heap.size w w51 from Below.trans (by repeat (first | exact D50.out | exact Below.refl _ _ | refine Below.alloc ?_ (by first | omega | (simp; omega) | (simp; done)) _)) (Below.mono hb (by first | omega | (simp; omega) | (simp; done))))
          have z51 := D51.out.size
          clear hb
          try clear c0_0
          have c0_0 := cell_of_heap h0 (j := 0) rfl
          try clear f0_0
          have f0_0 := frozen_of_heap h0 0
          try clear c0_1
          have c0_1 := cell_of_heap h0 (j := 1) rfl
          try clear f0_1
          have f0_1 := frozen_of_heap h0 1
          try clear c0_2
          have c0_2 := cell_of_heap h0 (j := 2) rfl
          try clear f0_2
          have f0_2 := frozen_of_heap h0 2
          try clear c0_3
          have c0_3 := cell_of_heap h0 (j := 3) rfl
          try clear f0_3
          have f0_3 := frozen_of_heap h0 3
          try clear c1_0
          have c1_0 := cell_of_heap h1 (j := 0) rfl
          try clear f1_0
          have f1_0 := frozen_of_heap h1 0
          try clear c1_1
          have c1_1 := cell_of_heap h1 (j := 1) rfl
          try clear f1_1
          have f1_1 := frozen_of_heap h1 1
          try clear c1_2
          have c1_2 := cell_of_heap h1 (j := 2) rfl
          try clear f1_2
          have f1_2 := frozen_of_heap h1 2
          try clear c1_3
          have c1_3 := cell_of_heap h1 (j := 3) rfl
          try clear f1_3
          have f1_3 := frozen_of_heap h1 3
          go_wp2_with fail
          all_goals (
            try subst pa
            try subst pb
            try subst pc
            refine (HT.out _).mono ?_
            rintro e w52 ⟨rfl, hb⟩
            replace h0 : w52.heap[w.heap.size]? = some (.cells #[.int .i64 m.a, .int .i64 m.b, .int .i64 m.c, .int .i64 m.d] 40 (0, 0)) := hb_below hb (by repeat (first | exact h0 | (refine hb_new ?_; (first | omega | (simp; omega) | (simp; done))) | (refine hb_old ?_ ?_; rotate_left; focus (first | omega | (simp; omega) | (simp; done))) | refine hb_drew ?_)) (by first | omega | (simp; omega) | (simp; done))
            replace h1 := hb_below hb h1 (by omega)
            have y52 := Below.size hb
            try simp only [World.size_alloc, World.size_drew] at y52
            have D52 := Lib.hid (show Below w.heap.size w w52 from Below.trans (by repeat (first | exact D51.out | exact Below.refl _ _ | refine Below.alloc ?_ (by first | omega | (simp; omega) | (simp; done)) _)) (Below.mono hb (by first | omega | (simp; omega) | (simp; done))))
            have z52 := D52.out.size
            clear hb
            try clear c0_0
            have c0_0 := cell_of_heap h0 (j := 0) rfl
            try clear f0_0
            have f0_0 := frozen_of_heap h0 0
            try clear c0_1
            have c0_1 := cell_of_heap h0 (j := 1) rfl
            try clear f0_1
            have f0_1 := frozen_of_heap h0 1
            try clear c0_2
            have c0_2 := cell_of_heap h0 (j := 2) rfl
            try clear f0_2
            have f0_2 := frozen_of_heap h0 2
            try clear c0_3
            have c0_3 := cell_of_heap h0 (j := 3) rfl
            try clear f0_3
            have f0_3 := frozen_of_heap h0 3
            try clear c1_0
            try clear f1_0
            have c1_0 := cell_of_heap h1 (j := 0) rfl
            have f1_0 := frozen_of_heap h1 0
            try clear c1_1
            try clear f1_1
            have c1_1 := cell_of_heap h1 (j := 1) rfl
            have f1_1 := frozen_of_heap h1 1
            try clear c1_2
            try clear f1_2
            have c1_2 := cell_of_heap h1 (j := 2) rfl
            have f1_2 := frozen_of_heap h1 2
            try clear c1_3
            try clear f1_3
            have c1_3 := cell_of_heap h1 (j := 3) rfl
            have f1_3 := frozen_of_heap h1 3
            go_wp2_with fail
            have q1 := (Below.heap_setCell w52 ⟨w1.heap.size, 0, none⟩ (.int .i64 q.a) (w.heap.size) (by first | omega | assumption | (apply Ne.symm; assumption) | (simp; done) | (simp; omega))).trans h0
            have q2 := heap_setCell_same w52 (w1.heap.size) 0 _ _ (.int .i64 q.a) h1
            have q3 := (Below.heap_setCell (w52.setCell ⟨w1.heap.size, 0, none⟩ (.int .i64 q.a)) ⟨w1.heap.size, 1, none⟩ (.int .i64 q.b) (w.heap.size) (by first | omega | assumption | (apply Ne.symm; assumption) | (simp; done) | (simp; omega))).trans q1
            have q4 := heap_setCell_same (w52.setCell ⟨w1.heap.size, 0, none⟩ (.int .i64 q.a)) (w1.heap.size) 1 _ _ (.int .i64 q.b) q2
            have q5 := (Below.heap_setCell ((w52.setCell ⟨w1.heap.size, 0, none⟩ (.int .i64 q.a)).setCell ⟨w1.heap.size, 1, none⟩ (.int .i64 q.b)) ⟨w1.heap.size, 2, none⟩ (.int .i64 q.c) (w.heap.size) (by first | omega | assumption | (apply Ne.symm; assumption) | (simp; done) | (simp; omega))).trans q3
            have q6 := heap_setCell_same ((w52.setCell ⟨w1.heap.size, 0, none⟩ (.int .i64 q.a)).setCell ⟨w1.heap.size, 1, none⟩ (.int .i64 q.b)) (w1.heap.size) 2 _ _ (.int .i64 q.c) q4
            have q7 := (Below.heap_setCell (((w52.setCell ⟨w1.heap.size, 0, none⟩ (.int .i64 q.a)).setCell ⟨w1.heap.size, 1, none⟩ (.int .i64 q.b)).setCell ⟨w1.heap.size, 2, none⟩ (.int .i64 q.c)) ⟨w1.heap.size, 3, none⟩ (.int .i64 q.d) (w.heap.size) (by first | omega | assumption | (apply Ne.symm; assumption) | (simp; done) | (simp; omega))).trans q5
            have q8 := heap_setCell_same (((w52.setCell ⟨w1.heap.size, 0, none⟩ (.int .i64 q.a)).setCell ⟨w1.heap.size, 1, none⟩ (.int .i64 q.b)).setCell ⟨w1.heap.size, 2, none⟩ (.int .i64 q.c)) (w1.heap.size) 3 _ _ (.int .i64 q.d) q6
            obtain ⟨w53, hw53⟩ : ∃ W, W = ((((w52.setCell ⟨w1.heap.size, 0, none⟩ (.int .i64 q.a)).setCell ⟨w1.heap.size, 1, none⟩ (.int .i64 q.b)).setCell ⟨w1.heap.size, 2, none⟩ (.int .i64 q.c)).setCell ⟨w1.heap.size, 3, none⟩ (.int .i64 q.d)) := ⟨_, rfl⟩
            rw [← hw53]
            replace h0 : w53.heap[w.heap.size]? = some (.cells #[.int .i64 m.a, .int .i64 m.b, .int .i64 m.c, .int .i64 m.d] 40 (0, 0)) := by rw [hw53]; exact q7
            replace h1 : w53.heap[w1.heap.size]? = some (.cells #[.int .i64 q.a, .int .i64 q.b, .int .i64 q.c, .int .i64 q.d] 40 (0, 0)) := by rw [hw53]; exact q8
            have D53 := Lib.hid (show Below w.heap.size w w53 by rw [hw53]; exact (Below.setCell (Below.setCell (Below.setCell (Below.setCell D52.out (p := ⟨w1.heap.size, 0, none⟩) (by first | omega | (simp; done) | (simp; omega)) (.int .i64 q.a)) (p := ⟨w1.heap.size, 1, none⟩) (by first | omega | (simp; done) | (simp; omega)) (.int .i64 q.b)) (p := ⟨w1.heap.size, 2, none⟩) (by first | omega | (simp; done) | (simp; omega)) (.int .i64 q.c)) (p := ⟨w1.heap.size, 3, none⟩) (by first | omega | (simp; done) | (simp; omega)) (.int .i64 q.d)))
            have z53 := D53.out.size
            have y53 : w53.heap.size = w52.heap.size := by rw [hw53]; simp
            clear q8 q7 q6 q5 q4 q3 q2 q1 hw53
            try clear c0_0
            have c0_0 := cell_of_heap h0 (j := 0) rfl
            try clear f0_0
            have f0_0 := frozen_of_heap h0 0
            try clear c0_1
            have c0_1 := cell_of_heap h0 (j := 1) rfl
            try clear f0_1
            have f0_1 := frozen_of_heap h0 1
            try clear c0_2
            have c0_2 := cell_of_heap h0 (j := 2) rfl
            try clear f0_2
            have f0_2 := frozen_of_heap h0 2
            try clear c0_3
            have c0_3 := cell_of_heap h0 (j := 3) rfl
            try clear f0_3
            have f0_3 := frozen_of_heap h0 3
            try clear c1_0
            have c1_0 := cell_of_heap h1 (j := 0) rfl
            try clear f1_0
            have f1_0 := frozen_of_heap h1 0
            try clear c1_1
            have c1_1 := cell_of_heap h1 (j := 1) rfl
            try clear f1_1
            have f1_1 := frozen_of_heap h1 1
            try clear c1_2
            have c1_2 := cell_of_heap h1 (j := 2) rfl
            try clear f1_2
            have f1_2 := frozen_of_heap h1 2
            try clear c1_3
            have c1_3 := cell_of_heap h1 (j := 3) rfl
            try clear f1_3
            have f1_3 := frozen_of_heap h1 3
            go_wp2_with fail
            go_roundg (12 - (i + 1))
            case measure => omega
            case rel => exact ⟨i + 1, q, by omega, Nat.le_refl _, by go_num, HQ.out, HN2.out, h0, h1, by omega, D53.out⟩)
    · obtain rfl : i = 12 := by omega
      have hV : v = 0 := by rw [← HV.out]; exact ordV_none HN.out
      subst hV
      go_wp2_with fail
      go_ret2
      exact ⟨rfl, D50.out⟩
end Go.Proofs.YtjekfkmcgfnkaaaDoor
