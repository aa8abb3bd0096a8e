/- Less and Reduced of the reference. -/
import Derived.Test.YtehpgmhilcoalaaDoorIU
import Derived.Test.YtehpgmhilcoalaaDoorIB
namespace Go.Proofs.YtehpgmhilcoalaaDoor
open Go.RowKit Go.Lib
set_option linter.unusedSimpArgs false
set_option linter.unusedVariables false
set_option maxHeartbeats 1000000 in
set_option maxRecDepth 100000 in
theorem rLess_any (m n : Mat) (w : World) : Calls Tryd.prog 90 #[m.val, n.val] w fun e w' => e = .returned (.bool (mlt m n)) ∧ Below w.heap.size w w' := by
  obtain ⟨ma, mb, mc, md⟩ := m
  obtain ⟨na, nb, nc, nd⟩ := n
  have e : mlt ⟨ma, mb, mc, md⟩ ⟨na, nb, nc, nd⟩ = (decide (ma < na) || (ma == na && (decide (mb < nb) || (mb == nb && (decide (mc < nc) || (mc == nc && decide (md < nd))))))) := rfl
  rw [e]
  clear e
  unfold Mat.val
  simp only
  by_cases ha : ma = na
  · subst ha
    by_cases hb : mb = nb
    · subst hb
      by_cases hc : mc = nc
      · subst hc
        go_enter Tryd.func90, Tryd.ntmps90
        go_wp2_with fail
        go_ret
        exact ⟨by simp, (by repeat (first | exact Below.refl _ _ | refine Below.alloc ?_ (by first | omega | (simp; omega) | (simp; done)) _))⟩
      · have h2 : (mc != nc) = true := by simpa using hc
        go_enter Tryd.func90, Tryd.ntmps90
        go_wp2_with fail
        go_ret
        exact ⟨by simp [hc], (by repeat (first | exact Below.refl _ _ | refine Below.alloc ?_ (by first | omega | (simp; omega) | (simp; done)) _))⟩
    · have h2 : (mb != nb) = true := by simpa using hb
      go_enter Tryd.func90, Tryd.ntmps90
      go_wp2_with fail
      go_ret
      exact ⟨by simp [hb], (by repeat (first | exact Below.refl _ _ | refine Below.alloc ?_ (by first | omega | (simp; omega) | (simp; done)) _))⟩
  · have h2 : (ma != na) = true := by simpa using ha
    go_enter Tryd.func90, Tryd.ntmps90
    go_wp2_with fail
    go_ret
    exact ⟨by simp [ha], (by repeat (first | exact Below.refl _ _ | refine Below.alloc ?_ (by first | omega | (simp; omega) | (simp; done)) _))⟩
set_option maxHeartbeats 4000000 in
set_option maxRecDepth 100000 in
theorem rReduced_any (l : Lat) (hl : Ok l) (w : World) : Calls Tryd.prog 80 #[l.val] w fun e w' => ∃ x : Lat, e = .returned x.val ∧ (RI l x ∧ 0 ≤ x.b ∧ 2 * x.b ≤ x.a ∧ x.a ≤ x.c) ∧ Below w.heap.size w w' := by
  have Hl := Lib.hid hl
  unfold Lat.val
  clear hl
  go_enter Tryd.func80, Tryd.ntmps80
  go_wp2_with fail
  obtain ⟨w1, hw1⟩ : ∃ W, W = ((w.alloc (.cells #[.int .i64 l.a, .int .i64 l.b, .int .i64 l.c] 23)).alloc (.cells #[.int .i64 0, .int .i64 0, .int .i64 0] 23)) := ⟨_, rfl⟩
  rw [← hw1]
  have h0 : w1.heap[w.heap.size]? = some (.cells #[.int .i64 l.a, .int .i64 l.b, .int .i64 l.c] 23 (0, 0)) := by rw [hw1]; exact (by repeat (first | (refine hb_new ?_; (first | omega | (simp; omega) | (simp; done))) | (refine hb_old ?_ ?_; rotate_left; focus (first | omega | (simp; omega) | (simp; done))) | refine hb_drew ?_))
  have h1 : w1.heap[w.heap.size + 1]? = some (.cells #[.int .i64 0, .int .i64 0, .int .i64 0] 23 (0, 0)) := by rw [hw1]; exact (by repeat (first | (refine hb_new ?_; (first | omega | (simp; omega) | (simp; done))) | (refine hb_old ?_ ?_; rotate_left; focus (first | omega | (simp; omega) | (simp; done))) | refine hb_drew ?_))
  have hb : Below w.heap.size w w1 := by rw [hw1]; exact (by repeat (first | exact Below.refl _ _ | refine Below.alloc ?_ (by first | omega | (simp; omega) | (simp; done)) _ | refine Below.drew ?_))
  have s1 : w.heap.size + 1 + 1 ≤ w1.heap.size := by rw [hw1]; simp
  have y1 := Below.size hb
  try simp only [World.size_alloc, World.size_drew] at y1
  have D1 := Lib.hid (show Below w.heap.size w w1 from Below.trans (by repeat (first | exact Below.refl _ _ | refine Below.alloc ?_ (by first | omega | (simp; omega) | (simp; done)) _)) (Below.mono hb (by first | omega | (simp; omega) | (simp; done))))
  have z1 := D1.out.size
  clear hb hw1
  try clear c0_0 f0_0 c0_1 f0_1 c0_2 f0_2
  obtain ⟨c0_0, f0_0, c0_1, f0_1, c0_2, f0_2⟩ := cells3 h0
  try clear c1_0 f1_0 c1_1 f1_1 c1_2 f1_2
  obtain ⟨c1_0, f1_0, c1_1, f1_1, c1_2, f1_2⟩ := cells3 h1
  go_loopg [] (rmu l) (fun kk wr => ∃ x : Lat, rmu x ≤ kk ∧ RI l x ∧ wr.heap[w.heap.size]? = some (.cells #[.int .i64 x.a, .int .i64 x.b, .int .i64 x.c] 23 (0, 0)) ∧ wr.heap[w.heap.size + 1]? = some (.cells #[.int .i64 0, .int .i64 0, .int .i64 0] 23 (0, 0)) ∧ w1.heap.size ≤ wr.heap.size ∧ Below w.heap.size w wr)
  case atStart => exact ⟨l, Nat.le_refl _, ri_start Hl.out, h0, h1, Nat.le_refl _, D1.out⟩
  case round =>
    rename World => w50
    obtain ⟨⟨xa, xb, xc⟩, hkk, hx, g0, g1, y50, hb⟩ := hrel
    simp only at g0
    try clear c0_0 f0_0 c0_1 f0_1 c0_2 f0_2
    try clear c1_0 f1_0 c1_1 f1_1 c1_2 f1_2
    clear h0 h1
    have h0 := g0
    have h1 := g1
    clear g0 g1
    have D50 := Lib.hid hb
    have z50 := D50.out.size
    have HX := Lib.hid hx
    clear hb hx
    try clear c0_0 f0_0 c0_1 f0_1 c0_2 f0_2
    obtain ⟨c0_0, f0_0, c0_1, f0_1, c0_2, f0_2⟩ := cells3 h0
    try clear c1_0 f1_0 c1_1 f1_1 c1_2 f1_2
    obtain ⟨c1_0, f1_0, c1_1, f1_1, c1_2, f1_2⟩ := cells3 h1
    have q := HX.out
    obtain ⟨q1, q2, q3, q4, q5, q6, _⟩ := q
    dsimp only at q1 q2 q3 q4 q5 q6
    have e1 : wrap64 (2 * xb) = 2 * xb := wrap64_id (by omega)
    have e2 : wrap64 (-xb) = -xb := wrap64_id (by omega)
    have e3 : wrap64 (xc - 2 * xb) = xc - 2 * xb := wrap64_id (by omega)
    have e4 : wrap64 (xc - 2 * xb + xa) = xc - 2 * xb + xa := wrap64_id (by omega)
    have e5 : wrap64 (xb - xa) = xb - xa := wrap64_id (by omega)
    by_cases hr : 0 ≤ xb ∧ 2 * xb ≤ xa ∧ xa ≤ xc
    · obtain ⟨r1, r2, r3⟩ := hr
      go_wp2_with fail
      have q1 := (Below.heap_setCell w50 ⟨w.heap.size + 1, 0, none⟩ (.int .i64 xa) (w.heap.size) (by first | omega | assumption | (apply Ne.symm; assumption) | (simp; done) | (simp; omega))).trans h0
      have q2 := heap_setCell_same w50 (w.heap.size + 1) 0 _ _ (.int .i64 xa) h1
      have q3 := (Below.heap_setCell (w50.setCell ⟨w.heap.size + 1, 0, none⟩ (.int .i64 xa)) ⟨w.heap.size + 1, 1, none⟩ (.int .i64 xb) (w.heap.size) (by first | omega | assumption | (apply Ne.symm; assumption) | (simp; done) | (simp; omega))).trans q1
      have q4 := heap_setCell_same (w50.setCell ⟨w.heap.size + 1, 0, none⟩ (.int .i64 xa)) (w.heap.size + 1) 1 _ _ (.int .i64 xb) q2
      have q5 := (Below.heap_setCell ((w50.setCell ⟨w.heap.size + 1, 0, none⟩ (.int .i64 xa)).setCell ⟨w.heap.size + 1, 1, none⟩ (.int .i64 xb)) ⟨w.heap.size + 1, 2, none⟩ (.int .i64 xc) (w.heap.size) (by first | omega | assumption | (apply Ne.symm; assumption) | (simp; done) | (simp; omega))).trans q3
      have q6 := heap_setCell_same ((w50.setCell ⟨w.heap.size + 1, 0, none⟩ (.int .i64 xa)).setCell ⟨w.heap.size + 1, 1, none⟩ (.int .i64 xb)) (w.heap.size + 1) 2 _ _ (.int .i64 xc) q4
      obtain ⟨w51, hw51⟩ : ∃ W, W = (((w50.setCell ⟨w.heap.size + 1, 0, none⟩ (.int .i64 xa)).setCell ⟨w.heap.size + 1, 1, none⟩ (.int .i64 xb)).setCell ⟨w.heap.size + 1, 2, none⟩ (.int .i64 xc)) := ⟨_, rfl⟩
      rw [← hw51]
      replace h0 : w51.heap[w.heap.size]? = some (.cells #[.int .i64 xa, .int .i64 xb, .int .i64 xc] 23 (0, 0)) := by rw [hw51]; exact q5
      replace h1 : w51.heap[w.heap.size + 1]? = some (.cells #[.int .i64 xa, .int .i64 xb, .int .i64 xc] 23 (0, 0)) := by rw [hw51]; exact q6
      have D51 := Lib.hid (show Below w.heap.size w w51 by rw [hw51]; exact (Below.setCell (Below.setCell (Below.setCell D50.out (p := ⟨w.heap.size + 1, 0, none⟩) (by first | omega | (simp; done) | (simp; omega)) (.int .i64 xa)) (p := ⟨w.heap.size + 1, 1, none⟩) (by first | omega | (simp; done) | (simp; omega)) (.int .i64 xb)) (p := ⟨w.heap.size + 1, 2, none⟩) (by first | omega | (simp; done) | (simp; omega)) (.int .i64 xc)))
      have z51 := D51.out.size
      have y51 : w51.heap.size = w50.heap.size := by rw [hw51]; simp
      clear q6 q5 q4 q3 q2 q1 hw51
      try clear c0_0 f0_0 c0_1 f0_1 c0_2 f0_2
      obtain ⟨c0_0, f0_0, c0_1, f0_1, c0_2, f0_2⟩ := cells3 h0
      try clear c1_0 f1_0 c1_1 f1_1 c1_2 f1_2
      obtain ⟨c1_0, f1_0, c1_1, f1_1, c1_2, f1_2⟩ := cells3 h1
      refine bodyPost_ret (results_cell_row rfl _ _ (w.heap.size + 1) _ _ (0, 0) _ rfl h1 Tryd.underlying23 rfl (by kernel_rfl)) rfl ⟨⟨xa, xb, xc⟩, rfl, ⟨HX.out, r1, r2, r3⟩, D51.out⟩
    · obtain ⟨hri, hmu⟩ := rstep_ri Hl.out HX.out hr
      have HR := Lib.hid hri
      have HM := Lib.hid hmu
      clear hri hmu
      by_cases hca : xc < xa
      · have n1 : ¬ xa ≤ xc := by omega
        have hs : rstep ⟨xa, xb, xc⟩ = ⟨xc, xb, xa⟩ := by unfold rstep; rw [if_pos hca]
        have hm := HM.out
        have hi := HR.out
        rw [hs] at hm hi
        replace HM := Lib.hid hm
        replace HR := Lib.hid hi
        clear hm hi hs hr
        go_wp2_with fail
        all_goals (
          have q1 := heap_setCell_same w50 (w.heap.size) 0 _ _ (.int .i64 xc) h0
          have q2 := (Below.heap_setCell w50 ⟨w.heap.size, 0, none⟩ (.int .i64 xc) (w.heap.size + 1) (by first | omega | assumption | (apply Ne.symm; assumption) | (simp; done) | (simp; omega))).trans h1
          have q3 := heap_setCell_same (w50.setCell ⟨w.heap.size, 0, none⟩ (.int .i64 xc)) (w.heap.size) 2 _ _ (.int .i64 xa) q1
          have q4 := (Below.heap_setCell (w50.setCell ⟨w.heap.size, 0, none⟩ (.int .i64 xc)) ⟨w.heap.size, 2, none⟩ (.int .i64 xa) (w.heap.size + 1) (by first | omega | assumption | (apply Ne.symm; assumption) | (simp; done) | (simp; omega))).trans q2
          obtain ⟨w51, hw51⟩ : ∃ W, W = ((w50.setCell ⟨w.heap.size, 0, none⟩ (.int .i64 xc)).setCell ⟨w.heap.size, 2, none⟩ (.int .i64 xa)) := ⟨_, rfl⟩
          rw [← hw51]
          replace h0 : w51.heap[w.heap.size]? = some (.cells #[.int .i64 xc, .int .i64 xb, .int .i64 xa] 23 (0, 0)) := by rw [hw51]; exact q3
          replace h1 : w51.heap[w.heap.size + 1]? = some (.cells #[.int .i64 0, .int .i64 0, .int .i64 0] 23 (0, 0)) := by rw [hw51]; exact q4
          have D51 := Lib.hid (show Below w.heap.size w w51 by rw [hw51]; exact (Below.setCell (Below.setCell D50.out (p := ⟨w.heap.size, 0, none⟩) (by first | omega | (simp; done) | (simp; omega)) (.int .i64 xc)) (p := ⟨w.heap.size, 2, none⟩) (by first | omega | (simp; done) | (simp; omega)) (.int .i64 xa)))
          have z51 := D51.out.size
          have y51 : w51.heap.size = w50.heap.size := by rw [hw51]; simp
          clear q4 q3 q2 q1 hw51
          try clear c0_0 f0_0 c0_1 f0_1 c0_2 f0_2
          obtain ⟨c0_0, f0_0, c0_1, f0_1, c0_2, f0_2⟩ := cells3 h0
          try clear c1_0 f1_0 c1_1 f1_1 c1_2 f1_2
          obtain ⟨c1_0, f1_0, c1_1, f1_1, c1_2, f1_2⟩ := cells3 h1
          go_roundg (rmu ⟨xc, xb, xa⟩)
          case measure => exact Nat.lt_of_lt_of_le HM.out hkk
          case rel => exact ⟨⟨xc, xb, xa⟩, Nat.le_refl _, HR.out, h0, h1, by omega, D51.out⟩)
      · by_cases hb : xb < 0
        · have n1 : ¬ 0 ≤ xb := by omega
          have hs : rstep ⟨xa, xb, xc⟩ = ⟨xa, -xb, xc⟩ := by unfold rstep; rw [if_neg hca, if_pos hb]
          have hm := HM.out
          have hi := HR.out
          rw [hs] at hm hi
          replace HM := Lib.hid hm
          replace HR := Lib.hid hi
          clear hm hi hs hr
          go_wp2_with fail
          all_goals (
            have q1 := heap_setCell_same w50 (w.heap.size) 1 _ _ (.int .i64 (-xb)) h0
            have q2 := (Below.heap_setCell w50 ⟨w.heap.size, 1, none⟩ (.int .i64 (-xb)) (w.heap.size + 1) (by first | omega | assumption | (apply Ne.symm; assumption) | (simp; done) | (simp; omega))).trans h1
            obtain ⟨w51, hw51⟩ : ∃ W, W = (w50.setCell ⟨w.heap.size, 1, none⟩ (.int .i64 (-xb))) := ⟨_, rfl⟩
            rw [← hw51]
            replace h0 : w51.heap[w.heap.size]? = some (.cells #[.int .i64 xa, .int .i64 (-xb), .int .i64 xc] 23 (0, 0)) := by rw [hw51]; exact q1
            replace h1 : w51.heap[w.heap.size + 1]? = some (.cells #[.int .i64 0, .int .i64 0, .int .i64 0] 23 (0, 0)) := by rw [hw51]; exact q2
            have D51 := Lib.hid (show Below w.heap.size w w51 by rw [hw51]; exact (Below.setCell D50.out (p := ⟨w.heap.size, 1, none⟩) (by first | omega | (simp; done) | (simp; omega)) (.int .i64 (-xb))))
            have z51 := D51.out.size
            have y51 : w51.heap.size = w50.heap.size := by rw [hw51]; simp
            clear q2 q1 hw51
            try clear c0_0 f0_0 c0_1 f0_1 c0_2 f0_2
            obtain ⟨c0_0, f0_0, c0_1, f0_1, c0_2, f0_2⟩ := cells3 h0
            try clear c1_0 f1_0 c1_1 f1_1 c1_2 f1_2
            obtain ⟨c1_0, f1_0, c1_1, f1_1, c1_2, f1_2⟩ := cells3 h1
            go_roundg (rmu ⟨xa, -xb, xc⟩)
            case measure => exact Nat.lt_of_lt_of_le HM.out hkk
            case rel => exact ⟨⟨xa, -xb, xc⟩, Nat.le_refl _, HR.out, h0, h1, by omega, D51.out⟩)
        · have n1 : 0 ≤ xb := by omega
          have n2 : ¬ 2 * xb ≤ xa := by omega
          have hs : rstep ⟨xa, xb, xc⟩ = ⟨xa, xb - xa, xc - 2 * xb + xa⟩ := by unfold rstep; rw [if_neg hca, if_neg hb]
          have hm := HM.out
          have hi := HR.out
          rw [hs] at hm hi
          replace HM := Lib.hid hm
          replace HR := Lib.hid hi
          clear hm hi hs hr
          go_wp2_with fail
          all_goals (
            have q1 := heap_setCell_same w50 (w.heap.size) 2 _ _ (.int .i64 (xc - 2 * xb + xa)) h0
            have q2 := (Below.heap_setCell w50 ⟨w.heap.size, 2, none⟩ (.int .i64 (xc - 2 * xb + xa)) (w.heap.size + 1) (by first | omega | assumption | (apply Ne.symm; assumption) | (simp; done) | (simp; omega))).trans h1
            have q3 := heap_setCell_same (w50.setCell ⟨w.heap.size, 2, none⟩ (.int .i64 (xc - 2 * xb + xa))) (w.heap.size) 1 _ _ (.int .i64 (xb - xa)) q1
            have q4 := (Below.heap_setCell (w50.setCell ⟨w.heap.size, 2, none⟩ (.int .i64 (xc - 2 * xb + xa))) ⟨w.heap.size, 1, none⟩ (.int .i64 (xb - xa)) (w.heap.size + 1) (by first | omega | assumption | (apply Ne.symm; assumption) | (simp; done) | (simp; omega))).trans q2
            obtain ⟨w51, hw51⟩ : ∃ W, W = ((w50.setCell ⟨w.heap.size, 2, none⟩ (.int .i64 (xc - 2 * xb + xa))).setCell ⟨w.heap.size, 1, none⟩ (.int .i64 (xb - xa))) := ⟨_, rfl⟩
            rw [← hw51]
            replace h0 : w51.heap[w.heap.size]? = some (.cells #[.int .i64 xa, .int .i64 (xb - xa), .int .i64 (xc - 2 * xb + xa)] 23 (0, 0)) := by rw [hw51]; exact q3
            replace h1 : w51.heap[w.heap.size + 1]? = some (.cells #[.int .i64 0, .int .i64 0, .int .i64 0] 23 (0, 0)) := by rw [hw51]; exact q4
            have D51 := Lib.hid (show Below w.heap.size w w51 by rw [hw51]; exact (Below.setCell (Below.setCell D50.out (p := ⟨w.heap.size, 2, none⟩) (by first | omega | (simp; done) | (simp; omega)) (.int .i64 (xc - 2 * xb + xa))) (p := ⟨w.heap.size, 1, none⟩) (by first | omega | (simp; done) | (simp; omega)) (.int .i64 (xb - xa))))
            have z51 := D51.out.size
            have y51 : w51.heap.size = w50.heap.size := by rw [hw51]; simp
            clear q4 q3 q2 q1 hw51
            try clear c0_0 f0_0 c0_1 f0_1 c0_2 f0_2
            obtain ⟨c0_0, f0_0, c0_1, f0_1, c0_2, f0_2⟩ := cells3 h0
            try clear c1_0 f1_0 c1_1 f1_1 c1_2 f1_2
            obtain ⟨c1_0, f1_0, c1_1, f1_1, c1_2, f1_2⟩ := cells3 h1
            go_roundg (rmu ⟨xa, xb - xa, xc - 2 * xb + xa⟩)
            case measure => exact Nat.lt_of_lt_of_le HM.out hkk
            case rel => exact ⟨⟨xa, xb - xa, xc - 2 * xb + xa⟩, Nat.le_refl _, HR.out, h0, h1, by omega, D51.out⟩)
end Go.Proofs.YtehpgmhilcoalaaDoor
