/- Order. -/
import Derived.Test.YtehpgmhilcoalaaDoorGH
import Derived.Test.YtehpgmhilcoalaaDoorGS
namespace Go.Proofs.YtehpgmhilcoalaaDoor
open Go.RowKit Go.Lib
set_option linter.unusedSimpArgs false
set_option linter.unusedVariables false
theorem ordV_found {m : Mat} {i : Nat} (hi : i < 12) (h0 : ∀ j, j < i → powm m (j + 1) ≠ Mat.one) (h : powm m (i + 1) = Mat.one) : ordV m = (i : Int) + 1 := by
  unfold ordV
  have : (List.range 12).find? (fun k => decide (powm m (k + 1) = Mat.one)) = some i := by
    rw [List.find?_eq_some_iff_append]
    refine ⟨by simpa using h, List.range i, (List.range 12).drop (i + 1), ?_, fun a ha => ?_⟩
    · apply List.ext_getElem?
      intro k
      rcases Nat.lt_trichotomy k i with hk | rfl | hk
      · rw [List.getElem?_append_left (by simpa using hk), List.getElem?_range (by omega), List.getElem?_range hk]
      · rw [List.getElem?_append_right (by simp), List.getElem?_range hi]; simp
      · rw [List.getElem?_append_right (by simp; omega), List.length_range, List.getElem?_cons, if_neg (by omega), List.getElem?_drop]
        congr 1; omega
    · have := h0 a (by simpa using ha)
      simpa using this
  rw [this]
theorem ordV_none {m : Mat} (h : ∀ j, j < 12 → powm m (j + 1) ≠ Mat.one) : ordV m = 0 := by
  unfold ordV
  have : (List.range 12).find? (fun k => decide (powm m (k + 1) = Mat.one)) = none := by
    rw [List.find?_eq_none]
    intro k hk
    simpa using h k (by simpa using hk)
  rw [this]
theorem times_w {m n : Mat} (hm : Mok m) (hn : Mok n) : (m.times n).w = m.times n := by
  obtain ⟨h1, h2, h3, h4⟩ := hm
  obtain ⟨k1, k2, k3, k4⟩ := hn
  have e1 := mul_bound h1 k1
  have e2 := mul_bound h2 k3
  have e3 := mul_bound h1 k2
  have e4 := mul_bound h2 k4
  have e5 := mul_bound h3 k1
  have e6 := mul_bound h4 k3
  have e7 := mul_bound h3 k2
  have e8 := mul_bound h4 k4
  simp only [Mat.w, Mat.times, Mat.mk.injEq]
  exact ⟨wrap64_id (by omega), wrap64_id (by omega), wrap64_id (by omega), wrap64_id (by omega)⟩
set_option maxHeartbeats 1000000 in
set_option maxRecDepth 100000 in
theorem Order_bad (m : Mat) (hm : okM m = false) (w : World) : Calls Tryd.prog 35 #[m.val] w fun e w' => e = .returned (.tuple #[.int .i64 0, .int .i64 2]) ∧ Below w.heap.size w w' := by
  have C1 := fun W => validMatrix_any m W
  rw [hm] at C1
  unfold Mat.val at *
  have H1 := Lib.hid C1
  clear C1
  go_enter Tryd.func35, Tryd.ntmps35
  go_wp2_with fail
  go_wp2_with fail
  refine (H1.out _).mono ?_
  rintro e w1 ⟨rfl, hb⟩
  have h0 : w1.heap[w.heap.size]? = some (.cells #[.int .i64 m.a, .int .i64 m.b, .int .i64 m.c, .int .i64 m.d] 40 (0, 0)) := hb_below hb (by repeat (first | (refine hb_new ?_; (first | omega | (simp; omega) | (simp; done))) | (refine hb_old ?_ ?_; rotate_left; focus (first | omega | (simp; omega) | (simp; done))) | refine hb_drew ?_)) (by first | omega | (simp; omega) | (simp; done))
  have y1 := Below.size hb
  try simp only [World.size_alloc, World.size_drew] at y1
  have D1 := Lib.hid (show Below w.heap.size w w1 from Below.trans (by repeat (first | exact Below.refl _ _ | refine Below.alloc ?_ (by first | omega | (simp; omega) | (simp; done)) _)) (Below.mono hb (by first | omega | (simp; omega) | (simp; done))))
  have z1 := D1.out.size
  clear hb
  try clear c0_0
  have c0_0 := cell_of_heap h0 (j := 0) rfl
  try clear f0_0
  have f0_0 := frozen_of_heap h0 0
  try clear c0_1
  have c0_1 := cell_of_heap h0 (j := 1) rfl
  try clear f0_1
  have f0_1 := frozen_of_heap h0 1
  try clear c0_2
  have c0_2 := cell_of_heap h0 (j := 2) rfl
  try clear f0_2
  have f0_2 := frozen_of_heap h0 2
  try clear c0_3
  have c0_3 := cell_of_heap h0 (j := 3) rfl
  try clear f0_3
  have f0_3 := frozen_of_heap h0 3
  go_wp2_with fail
  go_ret2
  exact ⟨rfl, (by repeat (first | exact D1.out | exact Below.refl _ _ | refine Below.alloc ?_ (by first | omega | (simp; omega) | (simp; done)) _))⟩
set_option maxHeartbeats 4000000 in
set_option maxRecDepth 100000 in
theorem Order_ok (m : Mat) (hm : Mok m) (w : World) (g : Glob w) : Calls Tryd.prog 35 #[m.val] w fun e w' => e = .returned (.tuple #[.int .i64 (ordV m), .int .i64 0]) ∧ Below w.heap.size w w' := by
  have C1 := fun W => validMatrix_any m W
  rw [(okM_iff m).2 hm] at C1
  unfold Mat.val at *
  have H1 := Lib.hid C1
  have HM := Lib.hid hm
  obtain ⟨t1, fr1, h1⟩ := g.one
  have gs : 0 < w.heap.size := g.sz
  clear C1 hm g
  generalize hv : ordV m = v at *
  have HV := Lib.hid hv
  clear hv
  go_enter Tryd.func35, Tryd.ntmps35
  go_wp2_with fail
  go_wp2_with fail
  refine (H1.out _).mono ?_
  rintro e w1 ⟨rfl, hb⟩
  have h0 : w1.heap[w.heap.size]? = some (.cells #[.int .i64 m.a, .int .i64 m.b, .int .i64 m.c, .int .i64 m.d] 40 (0, 0)) := hb_below hb (by repeat (first | (refine hb_new ?_; (first | omega | (simp; omega) | (simp; done))) | (refine hb_old ?_ ?_; rotate_left; focus (first | omega | (simp; omega) | (simp; done))) | refine hb_drew ?_)) (by first | omega | (simp; omega) | (simp; done))
  replace h1 : w1.heap[0]? = some (.cells #[.int .i64 1, .int .i64 0, .int .i64 0, .int .i64 1] t1 fr1) := hb_below hb (by repeat (first | exact h1 | (refine hb_new ?_; (first | omega | (simp; omega) | (simp; done))) | (refine hb_old ?_ ?_; rotate_left; focus (first | omega | (simp; omega) | (simp; done))) | refine hb_drew ?_)) (by first | omega | (simp; omega) | (simp; done))
  have y1 := Below.size hb
  try simp only [World.size_alloc, World.size_drew] at y1
  have D1 := Lib.hid (show Below w.heap.size w w1 from Below.trans (by repeat (first | exact Below.refl _ _ | refine Below.alloc ?_ (by first | omega | (simp; omega) | (simp; done)) _)) (Below.mono hb (by first | omega | (simp; omega) | (simp; done))))
  have z1 := D1.out.size
  clear hb
  try clear c0_0
  have c0_0 := cell_of_heap h0 (j := 0) rfl
  try clear f0_0
  have f0_0 := frozen_of_heap h0 0
  try clear c0_1
  have c0_1 := cell_of_heap h0 (j := 1) rfl
  try clear f0_1
  have f0_1 := frozen_of_heap h0 1
  try clear c0_2
  have c0_2 := cell_of_heap h0 (j := 2) rfl
  try clear f0_2
  have f0_2 := frozen_of_heap h0 2
  try clear c0_3
  have c0_3 := cell_of_heap h0 (j := 3) rfl
  try clear f0_3
  have f0_3 := frozen_of_heap h0 3
  try clear c1_0
  have c1_0 := cell_of_heapF h1 (j := 0) rfl
  try clear c1_1
  have c1_1 := cell_of_heapF h1 (j := 1) rfl
  try clear c1_2
  have c1_2 := cell_of_heapF h1 (j := 2) rfl
  try clear c1_3
  have c1_3 := cell_of_heapF h1 (j := 3) rfl
  go_wp2_with fail
  obtain ⟨w2, hw2⟩ : ∃ W, W = (w1.alloc (.cells #[.int .i64 m.a, .int .i64 m.b, .int .i64 m.c, .int .i64 m.d] 40)) := ⟨_, rfl⟩
  rw [← hw2]
  replace h0 : w2.heap[w.heap.size]? = some (.cells #[.int .i64 m.a, .int .i64 m.b, .int .i64 m.c, .int .i64 m.d] 40 (0, 0)) := by rw [hw2]; exact (by repeat (first | exact h0 | (refine hb_new ?_; (first | omega | (simp; omega) | (simp; done))) | (refine hb_old ?_ ?_; rotate_left; focus (first | omega | (simp; omega) | (simp; done))) | refine hb_drew ?_))
  replace h1 : w2.heap[0]? = some (.cells #[.int .i64 1, .int .i64 0, .int .i64 0, .int .i64 1] t1 fr1) := by rw [hw2]; exact (by repeat (first | exact h1 | (refine hb_new ?_; (first | omega | (simp; omega) | (simp; done))) | (refine hb_old ?_ ?_; rotate_left; focus (first | omega | (simp; omega) | (simp; done))) | refine hb_drew ?_))
  have h2 : w2.heap[w1.heap.size]? = some (.cells #[.int .i64 m.a, .int .i64 m.b, .int .i64 m.c, .int .i64 m.d] 40 (0, 0)) := by rw [hw2]; exact (by repeat (first | (refine hb_new ?_; (first | omega | (simp; omega) | (simp; done))) | (refine hb_old ?_ ?_; rotate_left; focus (first | omega | (simp; omega) | (simp; done))) | refine hb_drew ?_))
  have hb : Below w1.heap.size w1 w2 := by rw [hw2]; exact (by repeat (first | exact Below.refl _ _ | refine Below.alloc ?_ (by first | omega | (simp; omega) | (simp; done)) _ | refine Below.drew ?_))
  have s2 : w1.heap.size + 1 ≤ w2.heap.size := by rw [hw2]; simp
  have y2 := Below.size hb
  try simp only [World.size_alloc, World.size_drew] at y2
  have D2 := Lib.hid (show Below w.heap.size w w2 from Below.trans (by repeat (first | exact D1.out | exact Below.refl _ _ | refine Below.alloc ?_ (by first | omega | (simp; omega) | (simp; done)) _)) (Below.mono hb (by first | omega | (simp; omega) | (simp; done))))
  have z2 := D2.out.size
  clear hb hw2
  try clear c0_0
  have c0_0 := cell_of_heap h0 (j := 0) rfl
  try clear f0_0
  have f0_0 := frozen_of_heap h0 0
  try clear c0_1
  have c0_1 := cell_of_heap h0 (j := 1) rfl
  try clear f0_1
  have f0_1 := frozen_of_heap h0 1
  try clear c0_2
  have c0_2 := cell_of_heap h0 (j := 2) rfl
  try clear f0_2
  have f0_2 := frozen_of_heap h0 2
  try clear c0_3
  have c0_3 := cell_of_heap h0 (j := 3) rfl
  try clear f0_3
  have f0_3 := frozen_of_heap h0 3
  try clear c1_0
  have c1_0 := cell_of_heapF h1 (j := 0) rfl
  try clear c1_1
  have c1_1 := cell_of_heapF h1 (j := 1) rfl
  try clear c1_2
  have c1_2 := cell_of_heapF h1 (j := 2) rfl
  try clear c1_3
  have c1_3 := cell_of_heapF h1 (j := 3) rfl
  try clear c2_0
  have c2_0 := cell_of_heap h2 (j := 0) rfl
  try clear f2_0
  have f2_0 := frozen_of_heap h2 0
  try clear c2_1
  have c2_1 := cell_of_heap h2 (j := 1) rfl
  try clear f2_1
  have f2_1 := frozen_of_heap h2 1
  try clear c2_2
  have c2_2 := cell_of_heap h2 (j := 2) rfl
  try clear f2_2
  have f2_2 := frozen_of_heap h2 2
  try clear c2_3
  have c2_3 := cell_of_heap h2 (j := 3) rfl
  try clear f2_3
  have f2_3 := frozen_of_heap h2 3
  go_loopg [10] 12 (fun kk s wr => ∃ (i : Nat) (p : Mat), i ≤ 12 ∧ 12 - i ≤ kk ∧ s = .int .i64 i ∧ p = powm m (i + 1) ∧ Mok p ∧ (∀ j, j < i → powm m (j + 1) ≠ Mat.one) ∧ wr.heap[w.heap.size]? = some (.cells #[.int .i64 m.a, .int .i64 m.b, .int .i64 m.c, .int .i64 m.d] 40 (0, 0)) ∧ wr.heap[0]? = some (.cells #[.int .i64 1, .int .i64 0, .int .i64 0, .int .i64 1] t1 fr1) ∧ wr.heap[w1.heap.size]? = some (.cells #[.int .i64 p.a, .int .i64 p.b, .int .i64 p.c, .int .i64 p.d] 40 (0, 0)) ∧ w2.heap.size ≤ wr.heap.size ∧ Below w.heap.size w wr)
  case atStart => exact ⟨0, m, by omega, by omega, rfl, (times_one m).symm, HM.out, fun j h => absurd h (by omega), h0, h1, h2, Nat.le_refl _, D2.out⟩
  case round =>
    rename World => w50
    obtain ⟨i, p, hi, hkk, rfl, hp, hok, hno, g0, g1, g2, y50, hb⟩ := hrel
    try clear c0_0
    try clear f0_0
    try clear c0_1
    try clear f0_1
    try clear c0_2
    try clear f0_2
    try clear c0_3
    try clear f0_3
    try clear c1_0
    try clear f1_0
    try clear c1_1
    try clear f1_1
    try clear c1_2
    try clear f1_2
    try clear c1_3
    try clear f1_3
    try clear c2_0
    try clear f2_0
    try clear c2_1
    try clear f2_1
    try clear c2_2
    try clear f2_2
    try clear c2_3
    try clear f2_3
    clear h0 h1 h2
    have h0 := g0
    have h1 := g1
    have h2 := g2
    clear g0 g1 g2
    have D50 := Lib.hid hb
    have z50 := D50.out.size
    have HP := Lib.hid hp
    have HO := Lib.hid hok
    have HN := Lib.hid hno
    clear hb hp hok hno
    try clear c0_0
    have c0_0 := cell_of_heap h0 (j := 0) rfl
    try clear f0_0
    have f0_0 := frozen_of_heap h0 0
    try clear c0_1
    have c0_1 := cell_of_heap h0 (j := 1) rfl
    try clear f0_1
    have f0_1 := frozen_of_heap h0 1
    try clear c0_2
    have c0_2 := cell_of_heap h0 (j := 2) rfl
    try clear f0_2
    have f0_2 := frozen_of_heap h0 2
    try clear c0_3
    have c0_3 := cell_of_heap h0 (j := 3) rfl
    try clear f0_3
    have f0_3 := frozen_of_heap h0 3
    try clear c1_0
    have c1_0 := cell_of_heapF h1 (j := 0) rfl
    try clear c1_1
    have c1_1 := cell_of_heapF h1 (j := 1) rfl
    try clear c1_2
    have c1_2 := cell_of_heapF h1 (j := 2) rfl
    try clear c1_3
    have c1_3 := cell_of_heapF h1 (j := 3) rfl
    try clear c2_0
    have c2_0 := cell_of_heap h2 (j := 0) rfl
    try clear f2_0
    have f2_0 := frozen_of_heap h2 0
    try clear c2_1
    have c2_1 := cell_of_heap h2 (j := 1) rfl
    try clear f2_1
    have f2_1 := frozen_of_heap h2 1
    try clear c2_2
    have c2_2 := cell_of_heap h2 (j := 2) rfl
    try clear f2_2
    have f2_2 := frozen_of_heap h2 2
    try clear c2_3
    have c2_3 := cell_of_heap h2 (j := 3) rfl
    try clear f2_3
    have f2_3 := frozen_of_heap h2 3
    by_cases hlt : i < 12
    · have i1 : (i : Int) < 12 := by omega
      by_cases hone : p = Mat.one
      · have hV : v = (i : Int) + 1 := by rw [← HV.out]; exact ordV_found hlt HN.out (by rw [← HP.out]; exact hone)
        subst hV
        subst hone
        have b0 : w50.cell? ⟨w1.heap.size, 0, none⟩ = some (.int .i64 1) := cell_of_heap h2 (j := 0) rfl
        have b1 : w50.cell? ⟨w1.heap.size, 1, none⟩ = some (.int .i64 0) := cell_of_heap h2 (j := 1) rfl
        have b2 : w50.cell? ⟨w1.heap.size, 2, none⟩ = some (.int .i64 0) := cell_of_heap h2 (j := 2) rfl
        have b3 : w50.cell? ⟨w1.heap.size, 3, none⟩ = some (.int .i64 1) := cell_of_heap h2 (j := 3) rfl
        clear c2_0 c2_1 c2_2 c2_3
        go_wp2_with fail
        go_ret2
        exact ⟨by first | rfl | (congr 3; go_num), D50.out⟩
      · obtain ⟨pa, pb, pc, pd⟩ := p
        simp only at h2 c2_0 c2_1 c2_2 c2_3
        have hne : ¬ (pa = 1 ∧ pb = 0 ∧ pc = 0 ∧ pd = 1) := fun h => hone (by simp only [Mat.one, Mat.mk.injEq]; exact h)
        have hno2 : ∀ j, j < i + 1 → powm m (j + 1) ≠ Mat.one := fun j hj => by
          rcases Nat.lt_or_ge j i with h | h
          · exact HN.out j h
          · obtain rfl : j = i := by omega
            rw [← HP.out]; exact hone
        have CT := fun W => times_any m ⟨pa, pb, pc, pd⟩ W
        rw [times_w HM.out HO.out] at CT
        have hq : m.times ⟨pa, pb, pc, pd⟩ = powm m (i + 1 + 1) := by rw [HP.out]; rfl
        generalize m.times ⟨pa, pb, pc, pd⟩ = q at *
        have CV := fun W => validMatrix_any q W
        unfold Mat.val at CT CV
        have HT := Lib.hid CT
        have HQ := Lib.hid hq
        have HN2 := Lib.hid hno2
        clear CT hq hno2 hone
        cases hv : okM q
        · rw [hv] at CV
          have HVM := Lib.hid CV
          clear CV
          have hV : v = 0 := by
                      rw [← HV.out]
                      refine ordV_none fun j hj he => ?_
                      have := fin_ok HM.out he (i + 1 + 1)
                      rw [← HQ.out, ← okM_iff, hv] at this
                      cases this
          subst hV
          clear hv
          go_wp2_with fail
          all_goals (
            try subst pa
            try subst pb
            try subst pc
            refine (HT.out _).mono ?_
            rintro e w51 ⟨rfl, hb⟩
            replace h0 : w51.heap[w.heap.size]? = some (.cells #[.int .i64 m.a, .int .i64 m.b, .int .i64 m.c, .int .i64 m.d] 40 (0, 0)) := hb_below hb (by repeat (first | exact h0 | (refine hb_new ?_; (first | omega | (simp; omega) | (simp; done))) | (refine hb_old ?_ ?_; rotate_left; focus (first | omega | (simp; omega) | (simp; done))) | refine hb_drew ?_)) (by first | omega | (simp; omega) | (simp; done))
            replace h1 : w51.heap[0]? = some (.cells #[.int .i64 1, .int .i64 0, .int .i64 0, .int .i64 1] t1 fr1) := hb_below hb (by repeat (first | exact h1 | (refine hb_new ?_; (first | omega | (simp; omega) | (simp; done))) | (refine hb_old ?_ ?_; rotate_left; focus (first | omega | (simp; omega) | (simp; done))) | refine hb_drew ?_)) (by first | omega | (simp; omega) | (simp; done))
            replace h2 := hb_below hb h2 (by omega)
            have y51 := Below.size hb
            try simp only [World.size_alloc, World.size_drew] at y51
            have D51 := Lib.hid (show Below w.heap.size w w51 from Below.trans (by repeat (first | exact D50.out | exact Below.refl _ _ | refine Below.alloc ?_ (by first | omega | (simp; omega) | (simp; done)) _)) (Below.mono hb (by first | omega | (simp; omega) | (simp; done))))
            have z51 := D51.out.size
            clear hb
            try clear c0_0
            have c0_0 := cell_of_heap h0 (j := 0) rfl
            try clear f0_0
            have f0_0 := frozen_of_heap h0 0
            try clear c0_1
            have c0_1 := cell_of_heap h0 (j := 1) rfl
            try clear f0_1
            have f0_1 := frozen_of_heap h0 1
            try clear c0_2
            have c0_2 := cell_of_heap h0 (j := 2) rfl
            try clear f0_2
            have f0_2 := frozen_of_heap h0 2
            try clear c0_3
            have c0_3 := cell_of_heap h0 (j := 3) rfl
            try clear f0_3
            have f0_3 := frozen_of_heap h0 3
            try clear c1_0
            have c1_0 := cell_of_heapF h1 (j := 0) rfl
            try clear c1_1
            have c1_1 := cell_of_heapF h1 (j := 1) rfl
            try clear c1_2
            have c1_2 := cell_of_heapF h1 (j := 2) rfl
            try clear c1_3
            have c1_3 := cell_of_heapF h1 (j := 3) rfl
            try clear c2_0
            try clear f2_0
            have c2_0 := cell_of_heap h2 (j := 0) rfl
            have f2_0 := frozen_of_heap h2 0
            try clear c2_1
            try clear f2_1
            have c2_1 := cell_of_heap h2 (j := 1) rfl
            have f2_1 := frozen_of_heap h2 1
            try clear c2_2
            try clear f2_2
            have c2_2 := cell_of_heap h2 (j := 2) rfl
            have f2_2 := frozen_of_heap h2 2
            try clear c2_3
            try clear f2_3
            have c2_3 := cell_of_heap h2 (j := 3) rfl
            have f2_3 := frozen_of_heap h2 3
            go_wp2_with fail
            have q1 := (Below.heap_setCell w51 ⟨w1.heap.size, 0, none⟩ (.int .i64 q.a) (w.heap.size) (by first | omega | assumption | (apply Ne.symm; assumption) | (simp; done) | (simp; omega))).trans h0
            have q2 := (Below.heap_setCell w51 ⟨w1.heap.size, 0, none⟩ (.int .i64 q.a) (0) (by first | omega | assumption | (apply Ne.symm; assumption) | (simp; done) | (simp; omega))).trans h1
            have q3 := heap_setCell_same w51 (w1.heap.size) 0 _ _ (.int .i64 q.a) h2
            have q4 := (Below.heap_setCell (w51.setCell ⟨w1.heap.size, 0, none⟩ (.int .i64 q.a)) ⟨w1.heap.size, 1, none⟩ (.int .i64 q.b) (w.heap.size) (by first | omega | assumption | (apply Ne.symm; assumption) | (simp; done) | (simp; omega))).trans q1
            have q5 := (Below.heap_setCell (w51.setCell ⟨w1.heap.size, 0, none⟩ (.int .i64 q.a)) ⟨w1.heap.size, 1, none⟩ (.int .i64 q.b) (0) (by first | omega | assumption | (apply Ne.symm; assumption) | (simp; done) | (simp; omega))).trans q2
            have q6 := heap_setCell_same (w51.setCell ⟨w1.heap.size, 0, none⟩ (.int .i64 q.a)) (w1.heap.size) 1 _ _ (.int .i64 q.b) q3
            have q7 := (Below.heap_setCell ((w51.setCell ⟨w1.heap.size, 0, none⟩ (.int .i64 q.a)).setCell ⟨w1.heap.size, 1, none⟩ (.int .i64 q.b)) ⟨w1.heap.size, 2, none⟩ (.int .i64 q.c) (w.heap.size) (by first | omega | assumption | (apply Ne.symm; assumption) | (simp; done) | (simp; omega))).trans q4
            have q8 := (Below.heap_setCell ((w51.setCell ⟨w1.heap.size, 0, none⟩ (.int .i64 q.a)).setCell ⟨w1.heap.size, 1, none⟩ (.int .i64 q.b)) ⟨w1.heap.size, 2, none⟩ (.int .i64 q.c) (0) (by first | omega | assumption | (apply Ne.symm; assumption) | (simp; done) | (simp; omega))).trans q5
            have q9 := heap_setCell_same ((w51.setCell ⟨w1.heap.size, 0, none⟩ (.int .i64 q.a)).setCell ⟨w1.heap.size, 1, none⟩ (.int .i64 q.b)) (w1.heap.size) 2 _ _ (.int .i64 q.c) q6
            have q10 := (Below.heap_setCell (((w51.setCell ⟨w1.heap.size, 0, none⟩ (.int .i64 q.a)).setCell ⟨w1.heap.size, 1, none⟩ (.int .i64 q.b)).setCell ⟨w1.heap.size, 2, none⟩ (.int .i64 q.c)) ⟨w1.heap.size, 3, none⟩ (.int .i64 q.d) (w.heap.size) (by first | omega | assumption | (apply Ne.symm; assumption) | (simp; done) | (simp; omega))).trans q7
            have q11 := (Below.heap_setCell (((w51.setCell ⟨w1.heap.size, 0, none⟩ (.int .i64 q.a)).setCell ⟨w1.heap.size, 1, none⟩ (.int .i64 q.b)).setCell ⟨w1.heap.size, 2, none⟩ (.int .i64 q.c)) ⟨w1.heap.size, 3, none⟩ (.int .i64 q.d) (0) (by first | omega | assumption | (apply Ne.symm; assumption) | (simp; done) | (simp; omega))).trans q8
            have q12 := heap_setCell_same (((w51.setCell ⟨w1.heap.size, 0, none⟩ (.int .i64 q.a)).setCell ⟨w1.heap.size, 1, none⟩ (.int .i64 q.b)).setCell ⟨w1.heap.size, 2, none⟩ (.int .i64 q.c)) (w1.heap.size) 3 _ _ (.int .i64 q.d) q9
            obtain ⟨w52, hw52⟩ : ∃ W, W = ((((w51.setCell ⟨w1.heap.size, 0, none⟩ (.int .i64 q.a)).setCell ⟨w1.heap.size, 1, none⟩ (.int .i64 q.b)).setCell ⟨w1.heap.size, 2, none⟩ (.int .i64 q.c)).setCell ⟨w1.heap.size, 3, none⟩ (.int .i64 q.d)) := ⟨_, rfl⟩
            rw [← hw52]
            replace h0 : w52.heap[w.heap.size]? = some (.cells #[.int .i64 m.a, .int .i64 m.b, .int .i64 m.c, .int .i64 m.d] 40 (0, 0)) := by rw [hw52]; exact q10
            replace h1 : w52.heap[0]? = some (.cells #[.int .i64 1, .int .i64 0, .int .i64 0, .int .i64 1] t1 fr1) := by rw [hw52]; exact q11
            replace h2 : w52.heap[w1.heap.size]? = some (.cells #[.int .i64 q.a, .int .i64 q.b, .int .i64 q.c, .int .i64 q.d] 40 (0, 0)) := by rw [hw52]; exact q12
            have D52 := Lib.hid (show Below w.heap.size w w52 by rw [hw52]; exact (Below.setCell (Below.setCell (Below.setCell (Below.setCell D51.out (p := ⟨w1.heap.size, 0, none⟩) (by first | omega | (simp; done) | (simp; omega)) (.int .i64 q.a)) (p := ⟨w1.heap.size, 1, none⟩) (by first | omega | (simp; done) | (simp; omega)) (.int .i64 q.b)) (p := ⟨w1.heap.size, 2, none⟩) (by first | omega | (simp; done) | (simp; omega)) (.int .i64 q.c)) (p := ⟨w1.heap.size, 3, none⟩) (by first | omega | (simp; done) | (simp; omega)) (.int .i64 q.d)))
            have z52 := D52.out.size
            have y52 : w52.heap.size = w51.heap.size := by rw [hw52]; simp
            clear q12 q11 q10 q9 q8 q7 q6 q5 q4 q3 q2 q1 hw52
            try clear c0_0
            have c0_0 := cell_of_heap h0 (j := 0) rfl
            try clear f0_0
            have f0_0 := frozen_of_heap h0 0
            try clear c0_1
            have c0_1 := cell_of_heap h0 (j := 1) rfl
            try clear f0_1
            have f0_1 := frozen_of_heap h0 1
            try clear c0_2
            have c0_2 := cell_of_heap h0 (j := 2) rfl
            try clear f0_2
            have f0_2 := frozen_of_heap h0 2
            try clear c0_3
            have c0_3 := cell_of_heap h0 (j := 3) rfl
            try clear f0_3
            have f0_3 := frozen_of_heap h0 3
            try clear c1_0
            have c1_0 := cell_of_heapF h1 (j := 0) rfl
            try clear c1_1
            have c1_1 := cell_of_heapF h1 (j := 1) rfl
            try clear c1_2
            have c1_2 := cell_of_heapF h1 (j := 2) rfl
            try clear c1_3
            have c1_3 := cell_of_heapF h1 (j := 3) rfl
            try clear c2_0
            have c2_0 := cell_of_heap h2 (j := 0) rfl
            try clear f2_0
            have f2_0 := frozen_of_heap h2 0
            try clear c2_1
            have c2_1 := cell_of_heap h2 (j := 1) rfl
            try clear f2_1
            have f2_1 := frozen_of_heap h2 1
            try clear c2_2
            have c2_2 := cell_of_heap h2 (j := 2) rfl
            try clear f2_2
            have f2_2 := frozen_of_heap h2 2
            try clear c2_3
            have c2_3 := cell_of_heap h2 (j := 3) rfl
            try clear f2_3
            have f2_3 := frozen_of_heap h2 3
            refine (HVM.out _).mono ?_
            rintro e w53 ⟨rfl, hb⟩
            replace h0 : w53.heap[w.heap.size]? = some (.cells #[.int .i64 m.a, .int .i64 m.b, .int .i64 m.c, .int .i64 m.d] 40 (0, 0)) := hb_below hb (by repeat (first | exact h0 | (refine hb_new ?_; (first | omega | (simp; omega) | (simp; done))) | (refine hb_old ?_ ?_; rotate_left; focus (first | omega | (simp; omega) | (simp; done))) | refine hb_drew ?_)) (by first | omega | (simp; omega) | (simp; done))
            replace h1 : w53.heap[0]? = some (.cells #[.int .i64 1, .int .i64 0, .int .i64 0, .int .i64 1] t1 fr1) := hb_below hb (by repeat (first | exact h1 | (refine hb_new ?_; (first | omega | (simp; omega) | (simp; done))) | (refine hb_old ?_ ?_; rotate_left; focus (first | omega | (simp; omega) | (simp; done))) | refine hb_drew ?_)) (by first | omega | (simp; omega) | (simp; done))
            replace h2 : w53.heap[w1.heap.size]? = some (.cells #[.int .i64 q.a, .int .i64 q.b, .int .i64 q.c, .int .i64 q.d] 40 (0, 0)) := hb_below hb (by repeat (first | exact h2 | (refine hb_new ?_; (first | omega | (simp; omega) | (simp; done))) | (refine hb_old ?_ ?_; rotate_left; focus (first | omega | (simp; omega) | (simp; done))) | refine hb_drew ?_)) (by first | omega | (simp; omega) | (simp; done))
            have y53 := Below.size hb
            try simp only [World.size_alloc, World.size_drew] at y53
            have D53 := Lib.hid (show Below w.heap.size w w53 from Below.trans (by repeat (first | exact D52.out | exact Below.refl _ _ | refine Below.alloc ?_ (by first | omega | (simp; omega) | (simp; done)) _)) (Below.mono hb (by first | omega | (simp; omega) | (simp; done))))
            have z53 := D53.out.size
            clear hb
            try clear c0_0
            have c0_0 := cell_of_heap h0 (j := 0) rfl
            try clear f0_0
            have f0_0 := frozen_of_heap h0 0
            try clear c0_1
            have c0_1 := cell_of_heap h0 (j := 1) rfl
            try clear f0_1
            have f0_1 := frozen_of_heap h0 1
            try clear c0_2
            have c0_2 := cell_of_heap h0 (j := 2) rfl
            try clear f0_2
            have f0_2 := frozen_of_heap h0 2
            try clear c0_3
            have c0_3 := cell_of_heap h0 (j := 3) rfl
            try clear f0_3
            have f0_3 := frozen_of_heap h0 3
            try clear c1_0
            have c1_0 := cell_of_heapF h1 (j := 0) rfl
            try clear c1_1
            have c1_1 := cell_of_heapF h1 (j := 1) rfl
            try clear c1_2
            have c1_2 := cell_of_heapF h1 (j := 2) rfl
            try clear c1_3
            have c1_3 := cell_of_heapF h1 (j := 3) rfl
            try clear c2_0
            have c2_0 := cell_of_heap h2 (j := 0) rfl
            try clear f2_0
            have f2_0 := frozen_of_heap h2 0
            try clear c2_1
            have c2_1 := cell_of_heap h2 (j := 1) rfl
            try clear f2_1
            have f2_1 := frozen_of_heap h2 1
            try clear c2_2
            have c2_2 := cell_of_heap h2 (j := 2) rfl
            try clear f2_2
            have f2_2 := frozen_of_heap h2 2
            try clear c2_3
            have c2_3 := cell_of_heap h2 (j := 3) rfl
            try clear f2_3
            have f2_3 := frozen_of_heap h2 3
            go_wp2_with fail
            go_ret2
            exact ⟨rfl, D53.out⟩)
        · rw [hv] at CV
          have HVM := Lib.hid CV
          clear CV
          have HOQ := Lib.hid ((okM_iff q).1 hv)
          clear hv
          go_wp2_with fail
          all_goals (
            try subst pa
            try subst pb
            try subst pc
            refine (HT.out _).mono ?_
            rintro e w51 ⟨rfl, hb⟩
            replace h0 : w51.heap[w.heap.size]? = some (.cells #[.int .i64 m.a, .int .i64 m.b, .int .i64 m.c, .int .i64 m.d] 40 (0, 0)) := hb_below hb (by repeat (first | exact h0 | (refine hb_new ?_; (first | omega | (simp; omega) | (simp; done))) | (refine hb_old ?_ ?_; rotate_left; focus (first | omega | (simp; omega) | (simp; done))) | refine hb_drew ?_)) (by first | omega | (simp; omega) | (simp; done))
            replace h1 : w51.heap[0]? = some (.cells #[.int .i64 1, .int .i64 0, .int .i64 0, .int .i64 1] t1 fr1) := hb_below hb (by repeat (first | exact h1 | (refine hb_new ?_; (first | omega | (simp; omega) | (simp; done))) | (refine hb_old ?_ ?_; rotate_left; focus (first | omega | (simp; omega) | (simp; done))) | refine hb_drew ?_)) (by first | omega | (simp; omega) | (simp; done))
            replace h2 := hb_below hb h2 (by omega)
            have y51 := Below.size hb
            try simp only [World.size_alloc, World.size_drew] at y51
            have D51 := Lib.hid (show Below w.heap.size w w51 from Below.trans (by repeat (first | exact D50.out | exact Below.refl _ _ | refine Below.alloc ?_ (by first | omega | (simp; omega) | (simp; done)) _)) (Below.mono hb (by first | omega | (simp; omega) | (simp; done))))
            have z51 := D51.out.size
            clear hb
            try clear c0_0
            have c0_0 := cell_of_heap h0 (j := 0) rfl
            try clear f0_0
            have f0_0 := frozen_of_heap h0 0
            try clear c0_1
            have c0_1 := cell_of_heap h0 (j := 1) rfl
            try clear f0_1
            have f0_1 := frozen_of_heap h0 1
            try clear c0_2
            have c0_2 := cell_of_heap h0 (j := 2) rfl
            try clear f0_2
            have f0_2 := frozen_of_heap h0 2
            try clear c0_3
            have c0_3 := cell_of_heap h0 (j := 3) rfl
            try clear f0_3
            have f0_3 := frozen_of_heap h0 3
            try clear c1_0
            have c1_0 := cell_of_heapF h1 (j := 0) rfl
            try clear c1_1
            have c1_1 := cell_of_heapF h1 (j := 1) rfl
            try clear c1_2
            have c1_2 := cell_of_heapF h1 (j := 2) rfl
            try clear c1_3
            have c1_3 := cell_of_heapF h1 (j := 3) rfl
            try clear c2_0
            try clear f2_0
            have c2_0 := cell_of_heap h2 (j := 0) rfl
            have f2_0 := frozen_of_heap h2 0
            try clear c2_1
            try clear f2_1
            have c2_1 := cell_of_heap h2 (j := 1) rfl
            have f2_1 := frozen_of_heap h2 1
            try clear c2_2
            try clear f2_2
            have c2_2 := cell_of_heap h2 (j := 2) rfl
            have f2_2 := frozen_of_heap h2 2
            try clear c2_3
            try clear f2_3
            have c2_3 := cell_of_heap h2 (j := 3) rfl
            have f2_3 := frozen_of_heap h2 3
            go_wp2_with fail
            have q1 := (Below.heap_setCell w51 ⟨w1.heap.size, 0, none⟩ (.int .i64 q.a) (w.heap.size) (by first | omega | assumption | (apply Ne.symm; assumption) | (simp; done) | (simp; omega))).trans h0
            have q2 := (Below.heap_setCell w51 ⟨w1.heap.size, 0, none⟩ (.int .i64 q.a) (0) (by first | omega | assumption | (apply Ne.symm; assumption) | (simp; done) | (simp; omega))).trans h1
            have q3 := heap_setCell_same w51 (w1.heap.size) 0 _ _ (.int .i64 q.a) h2
            have q4 := (Below.heap_setCell (w51.setCell ⟨w1.heap.size, 0, none⟩ (.int .i64 q.a)) ⟨w1.heap.size, 1, none⟩ (.int .i64 q.b) (w.heap.size) (by first | omega | assumption | (apply Ne.symm; assumption) | (simp; done) | (simp; omega))).trans q1
            have q5 := (Below.heap_setCell (w51.setCell ⟨w1.heap.size, 0, none⟩ (.int .i64 q.a)) ⟨w1.heap.size, 1, none⟩ (.int .i64 q.b) (0) (by first | omega | assumption | (apply Ne.symm; assumption) | (simp; done) | (simp; omega))).trans q2
            have q6 := heap_setCell_same (w51.setCell ⟨w1.heap.size, 0, none⟩ (.int .i64 q.a)) (w1.heap.size) 1 _ _ (.int .i64 q.b) q3
            have q7 := (Below.heap_setCell ((w51.setCell ⟨w1.heap.size, 0, none⟩ (.int .i64 q.a)).setCell ⟨w1.heap.size, 1, none⟩ (.int .i64 q.b)) ⟨w1.heap.size, 2, none⟩ (.int .i64 q.c) (w.heap.size) (by first | omega | assumption | (apply Ne.symm; assumption) | (simp; done) | (simp; omega))).trans q4
            have q8 := (Below.heap_setCell ((w51.setCell ⟨w1.heap.size, 0, none⟩ (.int .i64 q.a)).setCell ⟨w1.heap.size, 1, none⟩ (.int .i64 q.b)) ⟨w1.heap.size, 2, none⟩ (.int .i64 q.c) (0) (by first | omega | assumption | (apply Ne.symm; assumption) | (simp; done) | (simp; omega))).trans q5
            have q9 := heap_setCell_same ((w51.setCell ⟨w1.heap.size, 0, none⟩ (.int .i64 q.a)).setCell ⟨w1.heap.size, 1, none⟩ (.int .i64 q.b)) (w1.heap.size) 2 _ _ (.int .i64 q.c) q6
            have q10 := (Below.heap_setCell (((w51.setCell ⟨w1.heap.size, 0, none⟩ (.int .i64 q.a)).setCell ⟨w1.heap.size, 1, none⟩ (.int .i64 q.b)).setCell ⟨w1.heap.size, 2, none⟩ (.int .i64 q.c)) ⟨w1.heap.size, 3, none⟩ (.int .i64 q.d) (w.heap.size) (by first | omega | assumption | (apply Ne.symm; assumption) | (simp; done) | (simp; omega))).trans q7
            have q11 := (Below.heap_setCell (((w51.setCell ⟨w1.heap.size, 0, none⟩ (.int .i64 q.a)).setCell ⟨w1.heap.size, 1, none⟩ (.int .i64 q.b)).setCell ⟨w1.heap.size, 2, none⟩ (.int .i64 q.c)) ⟨w1.heap.size, 3, none⟩ (.int .i64 q.d) (0) (by first | omega | assumption | (apply Ne.symm; assumption) | (simp; done) | (simp; omega))).trans q8
            have q12 := heap_setCell_same (((w51.setCell ⟨w1.heap.size, 0, none⟩ (.int .i64 q.a)).setCell ⟨w1.heap.size, 1, none⟩ (.int .i64 q.b)).setCell ⟨w1.heap.size, 2, none⟩ (.int .i64 q.c)) (w1.heap.size) 3 _ _ (.int .i64 q.d) q9
            obtain ⟨w52, hw52⟩ : ∃ W, W = ((((w51.setCell ⟨w1.heap.size, 0, none⟩ (.int .i64 q.a)).setCell ⟨w1.heap.size, 1, none⟩ (.int .i64 q.b)).setCell ⟨w1.heap.size, 2, none⟩ (.int .i64 q.c)).setCell ⟨w1.heap.size, 3, none⟩ (.int .i64 q.d)) := ⟨_, rfl⟩
            rw [← hw52]
            replace h0 : w52.heap[w.heap.size]? = some (.cells #[.int .i64 m.a, .int .i64 m.b, .int .i64 m.c, .int .i64 m.d] 40 (0, 0)) := by rw [hw52]; exact q10
            replace h1 : w52.heap[0]? = some (.cells #[.int .i64 1, .int .i64 0, .int .i64 0, .int .i64 1] t1 fr1) := by rw [hw52]; exact q11
            replace h2 : w52.heap[w1.heap.size]? = some (.cells #[.int .i64 q.a, .int .i64 q.b, .int .i64 q.c, .int .i64 q.d] 40 (0, 0)) := by rw [hw52]; exact q12
            have D52 := Lib.hid (show Below w.heap.size w w52 by rw [hw52]; exact (Below.setCell (Below.setCell (Below.setCell (Below.setCell D51.out (p := ⟨w1.heap.size, 0, none⟩) (by first | omega | (simp; done) | (simp; omega)) (.int .i64 q.a)) (p := ⟨w1.heap.size, 1, none⟩) (by first | omega | (simp; done) | (simp; omega)) (.int .i64 q.b)) (p := ⟨w1.heap.size, 2, none⟩) (by first | omega | (simp; done) | (simp; omega)) (.int .i64 q.c)) (p := ⟨w1.heap.size, 3, none⟩) (by first | omega | (simp; done) | (simp; omega)) (.int .i64 q.d)))
            have z52 := D52.out.size
            have y52 : w52.heap.size = w51.heap.size := by rw [hw52]; simp
            clear q12 q11 q10 q9 q8 q7 q6 q5 q4 q3 q2 q1 hw52
            try clear c0_0
            have c0_0 := cell_of_heap h0 (j := 0) rfl
            try clear f0_0
            have f0_0 := frozen_of_heap h0 0
            try clear c0_1
            have c0_1 := cell_of_heap h0 (j := 1) rfl
            try clear f0_1
            have f0_1 := frozen_of_heap h0 1
            try clear c0_2
            have c0_2 := cell_of_heap h0 (j := 2) rfl
            try clear f0_2
            have f0_2 := frozen_of_heap h0 2
            try clear c0_3
            have c0_3 := cell_of_heap h0 (j := 3) rfl
            try clear f0_3
            have f0_3 := frozen_of_heap h0 3
            try clear c1_0
            have c1_0 := cell_of_heapF h1 (j := 0) rfl
            try clear c1_1
            have c1_1 := cell_of_heapF h1 (j := 1) rfl
            try clear c1_2
            have c1_2 := cell_of_heapF h1 (j := 2) rfl
            try clear c1_3
            have c1_3 := cell_of_heapF h1 (j := 3) rfl
            try clear c2_0
            have c2_0 := cell_of_heap h2 (j := 0) rfl
            try clear f2_0
            have f2_0 := frozen_of_heap h2 0
            try clear c2_1
            have c2_1 := cell_of_heap h2 (j := 1) rfl
            try clear f2_1
            have f2_1 := frozen_of_heap h2 1
            try clear c2_2
            have c2_2 := cell_of_heap h2 (j := 2) rfl
            try clear f2_2
            have f2_2 := frozen_of_heap h2 2
            try clear c2_3
            have c2_3 := cell_of_heap h2 (j := 3) rfl
            try clear f2_3
            have f2_3 := frozen_of_heap h2 3
            refine (HVM.out _).mono ?_
            rintro e w53 ⟨rfl, hb⟩
            replace h0 : w53.heap[w.heap.size]? = some (.cells #[.int .i64 m.a, .int .i64 m.b, .int .i64 m.c, .int .i64 m.d] 40 (0, 0)) := hb_below hb (by repeat (first | exact h0 | (refine hb_new ?_; (first | omega | (simp; omega) | (simp; done))) | (refine hb_old ?_ ?_; rotate_left; focus (first | omega | (simp; omega) | (simp; done))) | refine hb_drew ?_)) (by first | omega | (simp; omega) | (simp; done))
            replace h1 : w53.heap[0]? = some (.cells #[.int .i64 1, .int .i64 0, .int .i64 0, .int .i64 1] t1 fr1) := hb_below hb (by repeat (first | exact h1 | (refine hb_new ?_; (first | omega | (simp; omega) | (simp; done))) | (refine hb_old ?_ ?_; rotate_left; focus (first | omega | (simp; omega) | (simp; done))) | refine hb_drew ?_)) (by first | omega | (simp; omega) | (simp; done))
            replace h2 : w53.heap[w1.heap.size]? = some (.cells #[.int .i64 q.a, .int .i64 q.b, .int .i64 q.c, .int .i64 q.d] 40 (0, 0)) := hb_below hb (by repeat (first | exact h2 | (refine hb_new ?_; (first | omega | (simp; omega) | (simp; done))) | (refine hb_old ?_ ?_; rotate_left; focus (first | omega | (simp; omega) | (simp; done))) | refine hb_drew ?_)) (by first | omega | (simp; omega) | (simp; done))
            have y53 := Below.size hb
            try simp only [World.size_alloc, World.size_drew] at y53
            have D53 := Lib.hid (show Below w.heap.size w w53 from Below.trans (by repeat (first | exact D52.out | exact Below.refl _ _ | refine Below.alloc ?_ (by first | omega | (simp; omega) | (simp; done)) _)) (Below.mono hb (by first | omega | (simp; omega) | (simp; done))))
            have z53 := D53.out.size
            clear hb
            try clear c0_0
            have c0_0 := cell_of_heap h0 (j := 0) rfl
            try clear f0_0
            have f0_0 := frozen_of_heap h0 0
            try clear c0_1
            have c0_1 := cell_of_heap h0 (j := 1) rfl
            try clear f0_1
            have f0_1 := frozen_of_heap h0 1
            try clear c0_2
            have c0_2 := cell_of_heap h0 (j := 2) rfl
            try clear f0_2
            have f0_2 := frozen_of_heap h0 2
            try clear c0_3
            have c0_3 := cell_of_heap h0 (j := 3) rfl
            try clear f0_3
            have f0_3 := frozen_of_heap h0 3
            try clear c1_0
            have c1_0 := cell_of_heapF h1 (j := 0) rfl
            try clear c1_1
            have c1_1 := cell_of_heapF h1 (j := 1) rfl
            try clear c1_2
            have c1_2 := cell_of_heapF h1 (j := 2) rfl
            try clear c1_3
            have c1_3 := cell_of_heapF h1 (j := 3) rfl
            try clear c2_0
            have c2_0 := cell_of_heap h2 (j := 0) rfl
            try clear f2_0
            have f2_0 := frozen_of_heap h2 0
            try clear c2_1
            have c2_1 := cell_of_heap h2 (j := 1) rfl
            try clear f2_1
            have f2_1 := frozen_of_heap h2 1
            try clear c2_2
            have c2_2 := cell_of_heap h2 (j := 2) rfl
            try clear f2_2
            have f2_2 := frozen_of_heap h2 2
            try clear c2_3
            have c2_3 := cell_of_heap h2 (j := 3) rfl
            try clear f2_3
            have f2_3 := frozen_of_heap h2 3
            go_wp2_with fail
            go_roundg (12 - (i + 1))
            case measure => omega
            case rel => exact ⟨i + 1, q, by omega, Nat.le_refl _, by go_num, HQ.out, HOQ.out, HN2.out, h0, h1, h2, by omega, D53.out⟩)
    · obtain rfl : i = 12 := by omega
      have hV : v = 0 := by rw [← HV.out]; exact ordV_none HN.out
      subst hV
      go_wp2_with fail
      go_ret2
      exact ⟨rfl, D50.out⟩
end Go.Proofs.YtehpgmhilcoalaaDoor
