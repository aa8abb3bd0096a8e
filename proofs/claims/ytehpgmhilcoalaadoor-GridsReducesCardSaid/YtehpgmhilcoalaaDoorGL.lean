/- Turn on both sides. -/
import Derived.Test.YtehpgmhilcoalaaDoorGK
import Derived.Test.YtehpgmhilcoalaaDoorGO
namespace Go.Proofs.YtehpgmhilcoalaaDoor
open Go.RowKit Go.Lib
set_option linter.unusedSimpArgs false
set_option linter.unusedVariables false
theorem keyLaw {G T : Prop} (main : (∀ n : Nat, n = 0 → G) → T) (pf : G) : T := main fun _ _ => pf
def okT (o f p q : Pt) : Bool := okP o && okP f && okP p && okP q && !decide (f = o) && !decide (p = o) && !decide (q = o)
def turnV (f s t : Pt) : Int := if cmpI (partV f s) (partV f t) ≠ 0 then cmpI (partV f s) (partV f t) else cmpI 0 (wrap64 (crossP s t))
set_option maxHeartbeats 8000000 in
set_option maxRecDepth 100000 in
theorem Turn_any (o f p q : Pt) (w : World) : Calls Tryd.prog 22 #[o.val, f.val, p.val, q.val] w fun e w' => e = .returned (.tuple #[.int .i64 (gv (okT o f p q) (turnV (stepP o f).w (stepP o p).w (stepP o q).w)), .int .i64 (errIf (okT o f p q))]) ∧ Below w.heap.size w w' := by
  have C2 := fun W T B hB => vpts4 o f p q W T B hB
  have C3 := fun W => step_any o f W
  have C4 := fun W => step_any o p W
  have C5 := fun W => step_any o q W
  generalize hs1 : (stepP o f).w = s1 at *
  generalize hs2 : (stepP o p).w = s2 at *
  generalize hs3 : (stepP o q).w = s3 at *
  clear hs1 hs2 hs3
  have C6 := fun W => part_any s1 s2 W
  have C7 := fun W => part_any s1 s3 W
  have C8 := fun W => across_any s2 s3 W
  have hk : okT o f p q = (okP o && okP f && okP p && okP q && !decide (f = o) && !decide (p = o) && !decide (q = o)) := rfl
  generalize okT o f p q = k at *
  generalize (okP o && okP f && okP p && okP q) = b2 at *
  generalize hv : turnV s1 s2 s3 = v at *
  unfold turnV at hv
  generalize partV s1 s2 = p1 at *
  generalize partV s1 s3 = p2 at *
  generalize wrap64 (crossP s2 s3) = c at *
  have C9 := fun W => Compare_any p1 p2 W
  have CA := fun W => Compare64_any 0 c W
  unfold gv errIf at *
  have H2 := Lib.hid C2
  have H3 := Lib.hid C3
  have H4 := Lib.hid C4
  have H5 := Lib.hid C5
  have H6 := Lib.hid C6
  have H7 := Lib.hid C7
  have H8 := Lib.hid C8
  have H9 := Lib.hid C9
  have HA := Lib.hid CA
  have Hv := Lib.hid hv
  clear C2 C3 C4 C5 C6 C7 C8 C9 CA hv
  obtain ⟨ox, oy⟩ := o
  obtain ⟨fx, fy⟩ := f
  obtain ⟨px, py⟩ := p
  obtain ⟨qx, qy⟩ := q
  unfold Pt.val at *
  simp only [Pt.mk.injEq] at *
  have Hk := Lib.hid hk
  clear hk
  cases b2
  · obtain rfl : k = false := Hk.out
    go_enter Tryd.func22, Tryd.ntmps22
    go_wp2_with fail
    refine (H2.out _ _ _ (by simp)).mono ?_
    rintro e w1 ⟨rfl, hb⟩
    have h0 : w1.heap[w.heap.size]? = some (.cells #[.int .i64 ox, .int .i64 oy] 25 (0, 0)) := hb_below hb (by repeat (first | (refine hb_new ?_; (first | omega | (simp; omega) | (simp; done))) | (refine hb_old ?_ ?_; rotate_left; focus (first | omega | (simp; omega) | (simp; done))) | refine hb_drew ?_)) (by first | omega | (simp; omega) | (simp; done))
    have h1 : w1.heap[w.heap.size + 1]? = some (.cells #[.int .i64 fx, .int .i64 fy] 25 (0, 0)) := hb_below hb (by repeat (first | (refine hb_new ?_; (first | omega | (simp; omega) | (simp; done))) | (refine hb_old ?_ ?_; rotate_left; focus (first | omega | (simp; omega) | (simp; done))) | refine hb_drew ?_)) (by first | omega | (simp; omega) | (simp; done))
    have h2 : w1.heap[w.heap.size + 1 + 1]? = some (.cells #[.int .i64 px, .int .i64 py] 25 (0, 0)) := hb_below hb (by repeat (first | (refine hb_new ?_; (first | omega | (simp; omega) | (simp; done))) | (refine hb_old ?_ ?_; rotate_left; focus (first | omega | (simp; omega) | (simp; done))) | refine hb_drew ?_)) (by first | omega | (simp; omega) | (simp; done))
    have h3 : w1.heap[w.heap.size + 1 + 1 + 1]? = some (.cells #[.int .i64 qx, .int .i64 qy] 25 (0, 0)) := hb_below hb (by repeat (first | (refine hb_new ?_; (first | omega | (simp; omega) | (simp; done))) | (refine hb_old ?_ ?_; rotate_left; focus (first | omega | (simp; omega) | (simp; done))) | refine hb_drew ?_)) (by first | omega | (simp; omega) | (simp; done))
    have y1 := Below.size hb
    try simp only [World.size_alloc, World.size_drew] at y1
    have D1 := Lib.hid (show Below w.heap.size w w1 from Below.trans (by repeat (first | exact Below.refl _ _ | refine Below.alloc ?_ (by first | omega | (simp; omega) | (simp; done)) _)) (Below.mono hb (by first | omega | (simp; omega) | (simp; done))))
    have z1 := D1.out.size
    clear hb
    try clear c0_0
    have c0_0 := cell_of_heap h0 (j := 0) rfl
    try clear f0_0
    have f0_0 := frozen_of_heap h0 0
    try clear c0_1
    have c0_1 := cell_of_heap h0 (j := 1) rfl
    try clear f0_1
    have f0_1 := frozen_of_heap h0 1
    try clear c1_0
    have c1_0 := cell_of_heap h1 (j := 0) rfl
    try clear f1_0
    have f1_0 := frozen_of_heap h1 0
    try clear c1_1
    have c1_1 := cell_of_heap h1 (j := 1) rfl
    try clear f1_1
    have f1_1 := frozen_of_heap h1 1
    try clear c2_0
    have c2_0 := cell_of_heap h2 (j := 0) rfl
    try clear f2_0
    have f2_0 := frozen_of_heap h2 0
    try clear c2_1
    have c2_1 := cell_of_heap h2 (j := 1) rfl
    try clear f2_1
    have f2_1 := frozen_of_heap h2 1
    try clear c3_0
    have c3_0 := cell_of_heap h3 (j := 0) rfl
    try clear f3_0
    have f3_0 := frozen_of_heap h3 0
    try clear c3_1
    have c3_1 := cell_of_heap h3 (j := 1) rfl
    try clear f3_1
    have f3_1 := frozen_of_heap h3 1
    go_wp2_with fail
    all_goals (
      go_ret2
      exact ⟨rfl, (by repeat (first | exact D1.out | exact Below.refl _ _ | refine Below.alloc ?_ (by first | omega | (simp; omega) | (simp; done)) _))⟩)
  · by_cases q1 : fx = ox ∧ fy = oy
    · obtain rfl : k = false := by rw [Hk.out]; simp [q1]
      obtain ⟨e1, e2⟩ := q1
      subst fx
      subst fy
      go_enter Tryd.func22, Tryd.ntmps22
      go_wp2_with fail
      refine (H2.out _ _ _ (by simp)).mono ?_
      rintro e w1 ⟨rfl, hb⟩
      have h0 : w1.heap[w.heap.size]? = some (.cells #[.int .i64 ox, .int .i64 oy] 25 (0, 0)) := hb_below hb (by repeat (first | (refine hb_new ?_; (first | omega | (simp; omega) | (simp; done))) | (refine hb_old ?_ ?_; rotate_left; focus (first | omega | (simp; omega) | (simp; done))) | refine hb_drew ?_)) (by first | omega | (simp; omega) | (simp; done))
      have h1 : w1.heap[w.heap.size + 1]? = some (.cells #[.int .i64 ox, .int .i64 oy] 25 (0, 0)) := hb_below hb (by repeat (first | (refine hb_new ?_; (first | omega | (simp; omega) | (simp; done))) | (refine hb_old ?_ ?_; rotate_left; focus (first | omega | (simp; omega) | (simp; done))) | refine hb_drew ?_)) (by first | omega | (simp; omega) | (simp; done))
      have h2 : w1.heap[w.heap.size + 1 + 1]? = some (.cells #[.int .i64 px, .int .i64 py] 25 (0, 0)) := hb_below hb (by repeat (first | (refine hb_new ?_; (first | omega | (simp; omega) | (simp; done))) | (refine hb_old ?_ ?_; rotate_left; focus (first | omega | (simp; omega) | (simp; done))) | refine hb_drew ?_)) (by first | omega | (simp; omega) | (simp; done))
      have h3 : w1.heap[w.heap.size + 1 + 1 + 1]? = some (.cells #[.int .i64 qx, .int .i64 qy] 25 (0, 0)) := hb_below hb (by repeat (first | (refine hb_new ?_; (first | omega | (simp; omega) | (simp; done))) | (refine hb_old ?_ ?_; rotate_left; focus (first | omega | (simp; omega) | (simp; done))) | refine hb_drew ?_)) (by first | omega | (simp; omega) | (simp; done))
      have y1 := Below.size hb
      try simp only [World.size_alloc, World.size_drew] at y1
      have D1 := Lib.hid (show Below w.heap.size w w1 from Below.trans (by repeat (first | exact Below.refl _ _ | refine Below.alloc ?_ (by first | omega | (simp; omega) | (simp; done)) _)) (Below.mono hb (by first | omega | (simp; omega) | (simp; done))))
      have z1 := D1.out.size
      clear hb
      try clear c0_0
      have c0_0 := cell_of_heap h0 (j := 0) rfl
      try clear f0_0
      have f0_0 := frozen_of_heap h0 0
      try clear c0_1
      have c0_1 := cell_of_heap h0 (j := 1) rfl
      try clear f0_1
      have f0_1 := frozen_of_heap h0 1
      try clear c1_0
      have c1_0 := cell_of_heap h1 (j := 0) rfl
      try clear f1_0
      have f1_0 := frozen_of_heap h1 0
      try clear c1_1
      have c1_1 := cell_of_heap h1 (j := 1) rfl
      try clear f1_1
      have f1_1 := frozen_of_heap h1 1
      try clear c2_0
      have c2_0 := cell_of_heap h2 (j := 0) rfl
      try clear f2_0
      have f2_0 := frozen_of_heap h2 0
      try clear c2_1
      have c2_1 := cell_of_heap h2 (j := 1) rfl
      try clear f2_1
      have f2_1 := frozen_of_heap h2 1
      try clear c3_0
      have c3_0 := cell_of_heap h3 (j := 0) rfl
      try clear f3_0
      have f3_0 := frozen_of_heap h3 0
      try clear c3_1
      have c3_1 := cell_of_heap h3 (j := 1) rfl
      try clear f3_1
      have f3_1 := frozen_of_heap h3 1
      go_wp2_with fail
      all_goals (
        go_ret2
        exact ⟨rfl, (by repeat (first | exact D1.out | exact Below.refl _ _ | refine Below.alloc ?_ (by first | omega | (simp; omega) | (simp; done)) _))⟩)
    · by_cases q2 : px = ox ∧ py = oy
      · obtain rfl : k = false := by rw [Hk.out]; simp [q2]
        obtain ⟨e1, e2⟩ := q2
        subst px
        subst py
        go_enter Tryd.func22, Tryd.ntmps22
        go_wp2_with fail
        refine (H2.out _ _ _ (by simp)).mono ?_
        rintro e w1 ⟨rfl, hb⟩
        have h0 : w1.heap[w.heap.size]? = some (.cells #[.int .i64 ox, .int .i64 oy] 25 (0, 0)) := hb_below hb (by repeat (first | (refine hb_new ?_; (first | omega | (simp; omega) | (simp; done))) | (refine hb_old ?_ ?_; rotate_left; focus (first | omega | (simp; omega) | (simp; done))) | refine hb_drew ?_)) (by first | omega | (simp; omega) | (simp; done))
        have h1 : w1.heap[w.heap.size + 1]? = some (.cells #[.int .i64 fx, .int .i64 fy] 25 (0, 0)) := hb_below hb (by repeat (first | (refine hb_new ?_; (first | omega | (simp; omega) | (simp; done))) | (refine hb_old ?_ ?_; rotate_left; focus (first | omega | (simp; omega) | (simp; done))) | refine hb_drew ?_)) (by first | omega | (simp; omega) | (simp; done))
        have h2 : w1.heap[w.heap.size + 1 + 1]? = some (.cells #[.int .i64 ox, .int .i64 oy] 25 (0, 0)) := hb_below hb (by repeat (first | (refine hb_new ?_; (first | omega | (simp; omega) | (simp; done))) | (refine hb_old ?_ ?_; rotate_left; focus (first | omega | (simp; omega) | (simp; done))) | refine hb_drew ?_)) (by first | omega | (simp; omega) | (simp; done))
        have h3 : w1.heap[w.heap.size + 1 + 1 + 1]? = some (.cells #[.int .i64 qx, .int .i64 qy] 25 (0, 0)) := hb_below hb (by repeat (first | (refine hb_new ?_; (first | omega | (simp; omega) | (simp; done))) | (refine hb_old ?_ ?_; rotate_left; focus (first | omega | (simp; omega) | (simp; done))) | refine hb_drew ?_)) (by first | omega | (simp; omega) | (simp; done))
        have y1 := Below.size hb
        try simp only [World.size_alloc, World.size_drew] at y1
        have D1 := Lib.hid (show Below w.heap.size w w1 from Below.trans (by repeat (first | exact Below.refl _ _ | refine Below.alloc ?_ (by first | omega | (simp; omega) | (simp; done)) _)) (Below.mono hb (by first | omega | (simp; omega) | (simp; done))))
        have z1 := D1.out.size
        clear hb
        try clear c0_0
        have c0_0 := cell_of_heap h0 (j := 0) rfl
        try clear f0_0
        have f0_0 := frozen_of_heap h0 0
        try clear c0_1
        have c0_1 := cell_of_heap h0 (j := 1) rfl
        try clear f0_1
        have f0_1 := frozen_of_heap h0 1
        try clear c1_0
        have c1_0 := cell_of_heap h1 (j := 0) rfl
        try clear f1_0
        have f1_0 := frozen_of_heap h1 0
        try clear c1_1
        have c1_1 := cell_of_heap h1 (j := 1) rfl
        try clear f1_1
        have f1_1 := frozen_of_heap h1 1
        try clear c2_0
        have c2_0 := cell_of_heap h2 (j := 0) rfl
        try clear f2_0
        have f2_0 := frozen_of_heap h2 0
        try clear c2_1
        have c2_1 := cell_of_heap h2 (j := 1) rfl
        try clear f2_1
        have f2_1 := frozen_of_heap h2 1
        try clear c3_0
        have c3_0 := cell_of_heap h3 (j := 0) rfl
        try clear f3_0
        have f3_0 := frozen_of_heap h3 0
        try clear c3_1
        have c3_1 := cell_of_heap h3 (j := 1) rfl
        try clear f3_1
        have f3_1 := frozen_of_heap h3 1
        go_wp2_with fail
        all_goals (
          go_ret2
          exact ⟨rfl, (by repeat (first | exact D1.out | exact Below.refl _ _ | refine Below.alloc ?_ (by first | omega | (simp; omega) | (simp; done)) _))⟩)
      · by_cases q3 : qx = ox ∧ qy = oy
        · obtain rfl : k = false := by rw [Hk.out]; simp [q3]
          obtain ⟨e1, e2⟩ := q3
          subst qx
          subst qy
          go_enter Tryd.func22, Tryd.ntmps22
          go_wp2_with fail
          refine (H2.out _ _ _ (by simp)).mono ?_
          rintro e w1 ⟨rfl, hb⟩
          have h0 : w1.heap[w.heap.size]? = some (.cells #[.int .i64 ox, .int .i64 oy] 25 (0, 0)) := hb_below hb (by repeat (first | (refine hb_new ?_; (first | omega | (simp; omega) | (simp; done))) | (refine hb_old ?_ ?_; rotate_left; focus (first | omega | (simp; omega) | (simp; done))) | refine hb_drew ?_)) (by first | omega | (simp; omega) | (simp; done))
          have h1 : w1.heap[w.heap.size + 1]? = some (.cells #[.int .i64 fx, .int .i64 fy] 25 (0, 0)) := hb_below hb (by repeat (first | (refine hb_new ?_; (first | omega | (simp; omega) | (simp; done))) | (refine hb_old ?_ ?_; rotate_left; focus (first | omega | (simp; omega) | (simp; done))) | refine hb_drew ?_)) (by first | omega | (simp; omega) | (simp; done))
          have h2 : w1.heap[w.heap.size + 1 + 1]? = some (.cells #[.int .i64 px, .int .i64 py] 25 (0, 0)) := hb_below hb (by repeat (first | (refine hb_new ?_; (first | omega | (simp; omega) | (simp; done))) | (refine hb_old ?_ ?_; rotate_left; focus (first | omega | (simp; omega) | (simp; done))) | refine hb_drew ?_)) (by first | omega | (simp; omega) | (simp; done))
          have h3 : w1.heap[w.heap.size + 1 + 1 + 1]? = some (.cells #[.int .i64 ox, .int .i64 oy] 25 (0, 0)) := hb_below hb (by repeat (first | (refine hb_new ?_; (first | omega | (simp; omega) | (simp; done))) | (refine hb_old ?_ ?_; rotate_left; focus (first | omega | (simp; omega) | (simp; done))) | refine hb_drew ?_)) (by first | omega | (simp; omega) | (simp; done))
          have y1 := Below.size hb
          try simp only [World.size_alloc, World.size_drew] at y1
          have D1 := Lib.hid (show Below w.heap.size w w1 from Below.trans (by repeat (first | exact Below.refl _ _ | refine Below.alloc ?_ (by first | omega | (simp; omega) | (simp; done)) _)) (Below.mono hb (by first | omega | (simp; omega) | (simp; done))))
          have z1 := D1.out.size
          clear hb
          try clear c0_0
          have c0_0 := cell_of_heap h0 (j := 0) rfl
          try clear f0_0
          have f0_0 := frozen_of_heap h0 0
          try clear c0_1
          have c0_1 := cell_of_heap h0 (j := 1) rfl
          try clear f0_1
          have f0_1 := frozen_of_heap h0 1
          try clear c1_0
          have c1_0 := cell_of_heap h1 (j := 0) rfl
          try clear f1_0
          have f1_0 := frozen_of_heap h1 0
          try clear c1_1
          have c1_1 := cell_of_heap h1 (j := 1) rfl
          try clear f1_1
          have f1_1 := frozen_of_heap h1 1
          try clear c2_0
          have c2_0 := cell_of_heap h2 (j := 0) rfl
          try clear f2_0
          have f2_0 := frozen_of_heap h2 0
          try clear c2_1
          have c2_1 := cell_of_heap h2 (j := 1) rfl
          try clear f2_1
          have f2_1 := frozen_of_heap h2 1
          try clear c3_0
          have c3_0 := cell_of_heap h3 (j := 0) rfl
          try clear f3_0
          have f3_0 := frozen_of_heap h3 0
          try clear c3_1
          have c3_1 := cell_of_heap h3 (j := 1) rfl
          try clear f3_1
          have f3_1 := frozen_of_heap h3 1
          go_wp2_with fail
          all_goals (
            go_ret2
            exact ⟨rfl, (by repeat (first | exact D1.out | exact Below.refl _ _ | refine Below.alloc ?_ (by first | omega | (simp; omega) | (simp; done)) _))⟩)
        · obtain rfl : k = true := by rw [Hk.out]; simp [q1, q2, q3]
          go_enter Tryd.func22, Tryd.ntmps22
          go_wp2_with fail
          refine (H2.out _ _ _ (by simp)).mono ?_
          rintro e w1 ⟨rfl, hb⟩
          have h0 : w1.heap[w.heap.size]? = some (.cells #[.int .i64 ox, .int .i64 oy] 25 (0, 0)) := hb_below hb (by repeat (first | (refine hb_new ?_; (first | omega | (simp; omega) | (simp; done))) | (refine hb_old ?_ ?_; rotate_left; focus (first | omega | (simp; omega) | (simp; done))) | refine hb_drew ?_)) (by first | omega | (simp; omega) | (simp; done))
          have h1 : w1.heap[w.heap.size + 1]? = some (.cells #[.int .i64 fx, .int .i64 fy] 25 (0, 0)) := hb_below hb (by repeat (first | (refine hb_new ?_; (first | omega | (simp; omega) | (simp; done))) | (refine hb_old ?_ ?_; rotate_left; focus (first | omega | (simp; omega) | (simp; done))) | refine hb_drew ?_)) (by first | omega | (simp; omega) | (simp; done))
          have h2 : w1.heap[w.heap.size + 1 + 1]? = some (.cells #[.int .i64 px, .int .i64 py] 25 (0, 0)) := hb_below hb (by repeat (first | (refine hb_new ?_; (first | omega | (simp; omega) | (simp; done))) | (refine hb_old ?_ ?_; rotate_left; focus (first | omega | (simp; omega) | (simp; done))) | refine hb_drew ?_)) (by first | omega | (simp; omega) | (simp; done))
          have h3 : w1.heap[w.heap.size + 1 + 1 + 1]? = some (.cells #[.int .i64 qx, .int .i64 qy] 25 (0, 0)) := hb_below hb (by repeat (first | (refine hb_new ?_; (first | omega | (simp; omega) | (simp; done))) | (refine hb_old ?_ ?_; rotate_left; focus (first | omega | (simp; omega) | (simp; done))) | refine hb_drew ?_)) (by first | omega | (simp; omega) | (simp; done))
          have y1 := Below.size hb
          try simp only [World.size_alloc, World.size_drew] at y1
          have D1 := Lib.hid (show Below w.heap.size w w1 from Below.trans (by repeat (first | exact Below.refl _ _ | refine Below.alloc ?_ (by first | omega | (simp; omega) | (simp; done)) _)) (Below.mono hb (by first | omega | (simp; omega) | (simp; done))))
          have z1 := D1.out.size
          clear hb
          try clear c0_0
          have c0_0 := cell_of_heap h0 (j := 0) rfl
          try clear f0_0
          have f0_0 := frozen_of_heap h0 0
          try clear c0_1
          have c0_1 := cell_of_heap h0 (j := 1) rfl
          try clear f0_1
          have f0_1 := frozen_of_heap h0 1
          try clear c1_0
          have c1_0 := cell_of_heap h1 (j := 0) rfl
          try clear f1_0
          have f1_0 := frozen_of_heap h1 0
          try clear c1_1
          have c1_1 := cell_of_heap h1 (j := 1) rfl
          try clear f1_1
          have f1_1 := frozen_of_heap h1 1
          try clear c2_0
          have c2_0 := cell_of_heap h2 (j := 0) rfl
          try clear f2_0
          have f2_0 := frozen_of_heap h2 0
          try clear c2_1
          have c2_1 := cell_of_heap h2 (j := 1) rfl
          try clear f2_1
          have f2_1 := frozen_of_heap h2 1
          try clear c3_0
          have c3_0 := cell_of_heap h3 (j := 0) rfl
          try clear f3_0
          have f3_0 := frozen_of_heap h3 0
          try clear c3_1
          have c3_1 := cell_of_heap h3 (j := 1) rfl
          try clear f3_1
          have f3_1 := frozen_of_heap h3 1
          go_wp2_with fail
          all_goals (
            clear q1 q2 q3
            try clear c0_0
            try clear f0_0
            try clear c0_1
            try clear f0_1
            try clear c1_0
            try clear f1_0
            try clear c1_1
            try clear f1_1
            try clear c2_0
            try clear f2_0
            try clear c2_1
            try clear f2_1
            try clear c3_0
            try clear f3_0
            try clear c3_1
            try clear f3_1
            refine wp_region_alloc 9 12 [9, 10, 11] (fun _ => .cells #[.int .i64 0, .int .i64 0] 25 (0, 0)) (by kernel_rfl) (by kernel_rfl) ?_ ?_
            · intro i o h1 h2 ho
              have hi : i = 9 ∨ i = 10 ∨ i = 11 := by omega
              rcases hi with rfl | rfl | rfl <;> (simp only [List.getElem?_toArray, List.getElem?_cons_succ, List.getElem?_cons_zero, Option.some.injEq] at ho; subst ho; exact ⟨rfl, fun a w => by go_simp; try rfl⟩)
            simp only [List.take_succ_cons, List.take_zero, List.drop_succ_cons, List.drop_zero]
            refine lex_load rfl _ _ rfl _ _ rfl _ _ (fun w' h => range_of_heap (hb_below h h0 (by first | omega | (simp; omega) | (simp; done)))) Tryd.underlying25 rfl (by kernel_rfl) ?_
            simp only [Act.put, List.setIfInBounds_toArray, List.set_cons_zero, List.set_cons_succ]
            refine lex_load rfl _ _ rfl _ _ rfl _ _ (fun w' h => range_of_heap (hb_below h h1 (by first | omega | (simp; omega) | (simp; done)))) Tryd.underlying25 rfl (by kernel_rfl) ?_
            simp only [Act.put, List.setIfInBounds_toArray, List.set_cons_zero, List.set_cons_succ]
            refine lex_call rfl 52 _ _ rfl (enter_of Tryd.func52 (by decide) (by intro h; cases h)) _ (H3.out) ?_
            simp only [Act.put, List.setIfInBounds_toArray, List.set_cons_zero, List.set_cons_succ]
            refine lex_load rfl _ _ rfl _ _ rfl _ _ (fun w' h => range_of_heap (hb_below h h0 (by first | omega | (simp; omega) | (simp; done)))) Tryd.underlying25 rfl (by kernel_rfl) ?_
            simp only [Act.put, List.setIfInBounds_toArray, List.set_cons_zero, List.set_cons_succ]
            refine lex_load rfl _ _ rfl _ _ rfl _ _ (fun w' h => range_of_heap (hb_below h h2 (by first | omega | (simp; omega) | (simp; done)))) Tryd.underlying25 rfl (by kernel_rfl) ?_
            simp only [Act.put, List.setIfInBounds_toArray, List.set_cons_zero, List.set_cons_succ]
            refine lex_call rfl 52 _ _ rfl (enter_of Tryd.func52 (by decide) (by intro h; cases h)) _ (H4.out) ?_
            simp only [Act.put, List.setIfInBounds_toArray, List.set_cons_zero, List.set_cons_succ]
            refine lex_load rfl _ _ rfl _ _ rfl _ _ (fun w' h => range_of_heap (hb_below h h0 (by first | omega | (simp; omega) | (simp; done)))) Tryd.underlying25 rfl (by kernel_rfl) ?_
            simp only [Act.put, List.setIfInBounds_toArray, List.set_cons_zero, List.set_cons_succ]
            refine lex_load rfl _ _ rfl _ _ rfl _ _ (fun w' h => range_of_heap (hb_below h h3 (by first | omega | (simp; omega) | (simp; done)))) Tryd.underlying25 rfl (by kernel_rfl) ?_
            simp only [Act.put, List.setIfInBounds_toArray, List.set_cons_zero, List.set_cons_succ]
            refine lex_call rfl 52 _ _ rfl (enter_of Tryd.func52 (by decide) (by intro h; cases h)) _ (H5.out) ?_
            simp only [Act.put, List.setIfInBounds_toArray, List.set_cons_zero, List.set_cons_succ]
            refine aph3' 9 10 11 10 11 12 rfl rfl rfl (by decide) (by decide) (by decide) (by decide) (by decide) (by decide) ?_
            intro b4 b5 b6 w2 hb hF hD
            simp only [List.drop_succ_cons, List.drop_zero]
            simp only [Act.put, List.setIfInBounds_toArray, List.set_cons_zero, List.set_cons_succ]
            replace h0 : w2.heap[w.heap.size]? = some (.cells #[.int .i64 ox, .int .i64 oy] 25 (0, 0)) := hb_below hb (by repeat (first | exact h0 | (refine hb_new ?_; (first | omega | (simp; omega) | (simp; done))) | (refine hb_old ?_ ?_; rotate_left; focus (first | omega | (simp; omega) | (simp; done))) | refine hb_drew ?_)) (by first | omega | (simp; omega) | (simp; done))
            replace h1 : w2.heap[w.heap.size + 1]? = some (.cells #[.int .i64 fx, .int .i64 fy] 25 (0, 0)) := hb_below hb (by repeat (first | exact h1 | (refine hb_new ?_; (first | omega | (simp; omega) | (simp; done))) | (refine hb_old ?_ ?_; rotate_left; focus (first | omega | (simp; omega) | (simp; done))) | refine hb_drew ?_)) (by first | omega | (simp; omega) | (simp; done))
            replace h2 : w2.heap[w.heap.size + 1 + 1]? = some (.cells #[.int .i64 px, .int .i64 py] 25 (0, 0)) := hb_below hb (by repeat (first | exact h2 | (refine hb_new ?_; (first | omega | (simp; omega) | (simp; done))) | (refine hb_old ?_ ?_; rotate_left; focus (first | omega | (simp; omega) | (simp; done))) | refine hb_drew ?_)) (by first | omega | (simp; omega) | (simp; done))
            replace h3 : w2.heap[w.heap.size + 1 + 1 + 1]? = some (.cells #[.int .i64 qx, .int .i64 qy] 25 (0, 0)) := hb_below hb (by repeat (first | exact h3 | (refine hb_new ?_; (first | omega | (simp; omega) | (simp; done))) | (refine hb_old ?_ ?_; rotate_left; focus (first | omega | (simp; omega) | (simp; done))) | refine hb_drew ?_)) (by first | omega | (simp; omega) | (simp; done))
            have g4 : w1.heap.size ≤ b4 := (hF 9 (by decide) (by decide)).1
            have l4 : b4 < w2.heap.size := (hF 9 (by decide) (by decide)).2.1
            have h4 : w2.heap[b4]? = some (.cells #[.int .i64 0, .int .i64 0] 25 (0, 0)) := (hF 9 (by decide) (by decide)).2.2
            have g5 : w1.heap.size ≤ b5 := (hF 10 (by decide) (by decide)).1
            have l5 : b5 < w2.heap.size := (hF 10 (by decide) (by decide)).2.1
            have h5 : w2.heap[b5]? = some (.cells #[.int .i64 0, .int .i64 0] 25 (0, 0)) := (hF 10 (by decide) (by decide)).2.2
            have g6 : w1.heap.size ≤ b6 := (hF 11 (by decide) (by decide)).1
            have l6 : b6 < w2.heap.size := (hF 11 (by decide) (by decide)).2.1
            have h6 : w2.heap[b6]? = some (.cells #[.int .i64 0, .int .i64 0] 25 (0, 0)) := (hF 11 (by decide) (by decide)).2.2
            have n4_5 : b4 ≠ b5 := hD 9 10 (by decide) (by decide) (by decide) (by decide) (by decide)
            have n4_6 : b4 ≠ b6 := hD 9 11 (by decide) (by decide) (by decide) (by decide) (by decide)
            have n5_6 : b5 ≠ b6 := hD 10 11 (by decide) (by decide) (by decide) (by decide) (by decide)
            clear hF hD
            have y2 := Below.size hb
            try simp only [World.size_alloc, World.size_drew] at y2
            have D2 := Lib.hid (show Below w.heap.size w w2 from Below.trans (by repeat (first | exact D1.out | exact Below.refl _ _ | refine Below.alloc ?_ (by first | omega | (simp; omega) | (simp; done)) _)) (Below.mono hb (by first | omega | (simp; omega) | (simp; done))))
            have z2 := D2.out.size
            clear hb
            refine store_row rfl _ _ _ rfl (b4) _ rfl rfl _ _ h4 (by kernel_rfl) rfl (by kernel_rfl) ?_
            intro w3 hn hk hz hB
            simp only [Act.put, List.setIfInBounds_toArray, List.set_cons_zero, List.set_cons_succ]
            replace h0 := hk _ _ h0 (by first | omega | assumption | (apply Ne.symm; assumption) | (simp; omega))
            replace h1 := hk _ _ h1 (by first | omega | assumption | (apply Ne.symm; assumption) | (simp; omega))
            replace h2 := hk _ _ h2 (by first | omega | assumption | (apply Ne.symm; assumption) | (simp; omega))
            replace h3 := hk _ _ h3 (by first | omega | assumption | (apply Ne.symm; assumption) | (simp; omega))
            replace h4 : w3.heap[b4]? = some (.cells #[.int .i64 s1.x, .int .i64 s1.y] 25 (0, 0)) := hn
            replace h5 := hk _ _ h5 (by first | omega | assumption | (apply Ne.symm; assumption) | (simp; omega))
            replace h6 := hk _ _ h6 (by first | omega | assumption | (apply Ne.symm; assumption) | (simp; omega))
            have D3 := Lib.hid (hB _ _ D2.out (by first | omega | (simp; omega)))
            have z3 := D3.out.size
            have y3 : w3.heap.size = w2.heap.size := hz
            clear hn hk hz hB
            refine store_row rfl _ _ _ rfl (b5) _ rfl rfl _ _ h5 (by kernel_rfl) rfl (by kernel_rfl) ?_
            intro w4 hn hk hz hB
            simp only [Act.put, List.setIfInBounds_toArray, List.set_cons_zero, List.set_cons_succ]
            replace h0 := hk _ _ h0 (by first | omega | assumption | (apply Ne.symm; assumption) | (simp; omega))
            replace h1 := hk _ _ h1 (by first | omega | assumption | (apply Ne.symm; assumption) | (simp; omega))
            replace h2 := hk _ _ h2 (by first | omega | assumption | (apply Ne.symm; assumption) | (simp; omega))
            replace h3 := hk _ _ h3 (by first | omega | assumption | (apply Ne.symm; assumption) | (simp; omega))
            replace h4 := hk _ _ h4 (by first | omega | assumption | (apply Ne.symm; assumption) | (simp; omega))
            replace h5 : w4.heap[b5]? = some (.cells #[.int .i64 s2.x, .int .i64 s2.y] 25 (0, 0)) := hn
            replace h6 := hk _ _ h6 (by first | omega | assumption | (apply Ne.symm; assumption) | (simp; omega))
            have D4 := Lib.hid (hB _ _ D3.out (by first | omega | (simp; omega)))
            have z4 := D4.out.size
            have y4 : w4.heap.size = w3.heap.size := hz
            clear hn hk hz hB
            refine store_row rfl _ _ _ rfl (b6) _ rfl rfl _ _ h6 (by kernel_rfl) rfl (by kernel_rfl) ?_
            intro w5 hn hk hz hB
            simp only [Act.put, List.setIfInBounds_toArray, List.set_cons_zero, List.set_cons_succ]
            replace h0 := hk _ _ h0 (by first | omega | assumption | (apply Ne.symm; assumption) | (simp; omega))
            replace h1 := hk _ _ h1 (by first | omega | assumption | (apply Ne.symm; assumption) | (simp; omega))
            replace h2 := hk _ _ h2 (by first | omega | assumption | (apply Ne.symm; assumption) | (simp; omega))
            replace h3 := hk _ _ h3 (by first | omega | assumption | (apply Ne.symm; assumption) | (simp; omega))
            replace h4 := hk _ _ h4 (by first | omega | assumption | (apply Ne.symm; assumption) | (simp; omega))
            replace h5 := hk _ _ h5 (by first | omega | assumption | (apply Ne.symm; assumption) | (simp; omega))
            replace h6 : w5.heap[b6]? = some (.cells #[.int .i64 s3.x, .int .i64 s3.y] 25 (0, 0)) := hn
            have D5 := Lib.hid (hB _ _ D4.out (by first | omega | (simp; omega)))
            have z5 := D5.out.size
            have y5 : w5.heap.size = w4.heap.size := hz
            clear hn hk hz hB
            try clear c0_0
            have c0_0 := cell_of_heap h0 (j := 0) rfl
            try clear f0_0
            have f0_0 := frozen_of_heap h0 0
            try clear c0_1
            have c0_1 := cell_of_heap h0 (j := 1) rfl
            try clear f0_1
            have f0_1 := frozen_of_heap h0 1
            try clear c1_0
            have c1_0 := cell_of_heap h1 (j := 0) rfl
            try clear f1_0
            have f1_0 := frozen_of_heap h1 0
            try clear c1_1
            have c1_1 := cell_of_heap h1 (j := 1) rfl
            try clear f1_1
            have f1_1 := frozen_of_heap h1 1
            try clear c2_0
            have c2_0 := cell_of_heap h2 (j := 0) rfl
            try clear f2_0
            have f2_0 := frozen_of_heap h2 0
            try clear c2_1
            have c2_1 := cell_of_heap h2 (j := 1) rfl
            try clear f2_1
            have f2_1 := frozen_of_heap h2 1
            try clear c3_0
            have c3_0 := cell_of_heap h3 (j := 0) rfl
            try clear f3_0
            have f3_0 := frozen_of_heap h3 0
            try clear c3_1
            have c3_1 := cell_of_heap h3 (j := 1) rfl
            try clear f3_1
            have f3_1 := frozen_of_heap h3 1
            try clear c4_0
            have c4_0 := cell_of_heap h4 (j := 0) rfl
            try clear f4_0
            have f4_0 := frozen_of_heap h4 0
            try clear c4_1
            have c4_1 := cell_of_heap h4 (j := 1) rfl
            try clear f4_1
            have f4_1 := frozen_of_heap h4 1
            try clear c5_0
            have c5_0 := cell_of_heap h5 (j := 0) rfl
            try clear f5_0
            have f5_0 := frozen_of_heap h5 0
            try clear c5_1
            have c5_1 := cell_of_heap h5 (j := 1) rfl
            try clear f5_1
            have f5_1 := frozen_of_heap h5 1
            try clear c6_0
            have c6_0 := cell_of_heap h6 (j := 0) rfl
            try clear f6_0
            have f6_0 := frozen_of_heap h6 0
            try clear c6_1
            have c6_1 := cell_of_heap h6 (j := 1) rfl
            try clear f6_1
            have f6_1 := frozen_of_heap h6 1
            go_wp2_with fail
            try clear c0_0
            try clear f0_0
            try clear c0_1
            try clear f0_1
            try clear c1_0
            try clear f1_0
            try clear c1_1
            try clear f1_1
            try clear c2_0
            try clear f2_0
            try clear c2_1
            try clear f2_1
            try clear c3_0
            try clear f3_0
            try clear c3_1
            try clear f3_1
            try clear c4_0
            try clear f4_0
            try clear c4_1
            try clear f4_1
            try clear c5_0
            try clear f5_0
            try clear c5_1
            try clear f5_1
            try clear c6_0
            try clear f6_0
            try clear c6_1
            try clear f6_1
            refine wp_region_class (fun w' => Below w5.heap.size w5 w') 7 (by kernel_rfl) (by kernel_rfl) (Below.refl _ w5).drew ?_
            simp only [List.take_succ_cons, List.take_zero, List.drop_succ_cons, List.drop_zero]
            refine quiet_load_mid rfl _ _ rfl _ _ rfl _ _ (fun w' h => range_of_heap (hb_below h h4 (by first | omega | (simp; omega) | (simp; done)))) Tryd.underlying25 rfl (by kernel_rfl) ?_
            simp only [Act.put, List.setIfInBounds_toArray, List.set_cons_zero, List.set_cons_succ]
            refine quiet_load_mid rfl _ _ rfl _ _ rfl _ _ (fun w' h => range_of_heap (hb_below h h5 (by first | omega | (simp; omega) | (simp; done)))) Tryd.underlying25 rfl (by kernel_rfl) ?_
            simp only [Act.put, List.setIfInBounds_toArray, List.set_cons_zero, List.set_cons_succ]
            refine quiet_call rfl 60 _ _ rfl (enter_of Tryd.func60 (by decide) (by intro h; cases h)) _ (in_class_b H6.out) ?_
            simp only [Act.put, List.setIfInBounds_toArray, List.set_cons_zero, List.set_cons_succ]
            refine quiet_load_mid rfl _ _ rfl _ _ rfl _ _ (fun w' h => range_of_heap (hb_below h h4 (by first | omega | (simp; omega) | (simp; done)))) Tryd.underlying25 rfl (by kernel_rfl) ?_
            simp only [Act.put, List.setIfInBounds_toArray, List.set_cons_zero, List.set_cons_succ]
            refine quiet_load_mid rfl _ _ rfl _ _ rfl _ _ (fun w' h => range_of_heap (hb_below h h6 (by first | omega | (simp; omega) | (simp; done)))) Tryd.underlying25 rfl (by kernel_rfl) ?_
            simp only [Act.put, List.setIfInBounds_toArray, List.set_cons_zero, List.set_cons_succ]
            refine quiet_call rfl 60 _ _ rfl (enter_of Tryd.func60 (by decide) (by intro h; cases h)) _ (in_class_b H7.out) ?_
            simp only [Act.put, List.setIfInBounds_toArray, List.set_cons_zero, List.set_cons_succ]
            refine quiet_call rfl 59 _ _ rfl (enter_of Tryd.func59 (by decide) (by intro h; cases h)) _ (in_class_e H9.out) ?_
            simp only [Act.put, List.setIfInBounds_toArray, List.set_cons_zero, List.set_cons_succ]
            intro w6 hb
            replace h0 : w6.heap[w.heap.size]? = some (.cells #[.int .i64 ox, .int .i64 oy] 25 (0, 0)) := hb_below hb (by repeat (first | exact h0 | (refine hb_new ?_; (first | omega | (simp; omega) | (simp; done))) | (refine hb_old ?_ ?_; rotate_left; focus (first | omega | (simp; omega) | (simp; done))) | refine hb_drew ?_)) (by first | omega | (simp; omega) | (simp; done))
            replace h1 : w6.heap[w.heap.size + 1]? = some (.cells #[.int .i64 fx, .int .i64 fy] 25 (0, 0)) := hb_below hb (by repeat (first | exact h1 | (refine hb_new ?_; (first | omega | (simp; omega) | (simp; done))) | (refine hb_old ?_ ?_; rotate_left; focus (first | omega | (simp; omega) | (simp; done))) | refine hb_drew ?_)) (by first | omega | (simp; omega) | (simp; done))
            replace h2 : w6.heap[w.heap.size + 1 + 1]? = some (.cells #[.int .i64 px, .int .i64 py] 25 (0, 0)) := hb_below hb (by repeat (first | exact h2 | (refine hb_new ?_; (first | omega | (simp; omega) | (simp; done))) | (refine hb_old ?_ ?_; rotate_left; focus (first | omega | (simp; omega) | (simp; done))) | refine hb_drew ?_)) (by first | omega | (simp; omega) | (simp; done))
            replace h3 : w6.heap[w.heap.size + 1 + 1 + 1]? = some (.cells #[.int .i64 qx, .int .i64 qy] 25 (0, 0)) := hb_below hb (by repeat (first | exact h3 | (refine hb_new ?_; (first | omega | (simp; omega) | (simp; done))) | (refine hb_old ?_ ?_; rotate_left; focus (first | omega | (simp; omega) | (simp; done))) | refine hb_drew ?_)) (by first | omega | (simp; omega) | (simp; done))
            replace h4 : w6.heap[b4]? = some (.cells #[.int .i64 s1.x, .int .i64 s1.y] 25 (0, 0)) := hb_below hb (by repeat (first | exact h4 | (refine hb_new ?_; (first | omega | (simp; omega) | (simp; done))) | (refine hb_old ?_ ?_; rotate_left; focus (first | omega | (simp; omega) | (simp; done))) | refine hb_drew ?_)) (by first | omega | (simp; omega) | (simp; done))
            replace h5 : w6.heap[b5]? = some (.cells #[.int .i64 s2.x, .int .i64 s2.y] 25 (0, 0)) := hb_below hb (by repeat (first | exact h5 | (refine hb_new ?_; (first | omega | (simp; omega) | (simp; done))) | (refine hb_old ?_ ?_; rotate_left; focus (first | omega | (simp; omega) | (simp; done))) | refine hb_drew ?_)) (by first | omega | (simp; omega) | (simp; done))
            replace h6 : w6.heap[b6]? = some (.cells #[.int .i64 s3.x, .int .i64 s3.y] 25 (0, 0)) := hb_below hb (by repeat (first | exact h6 | (refine hb_new ?_; (first | omega | (simp; omega) | (simp; done))) | (refine hb_old ?_ ?_; rotate_left; focus (first | omega | (simp; omega) | (simp; done))) | refine hb_drew ?_)) (by first | omega | (simp; omega) | (simp; done))
            have y6 := Below.size hb
            try simp only [World.size_alloc, World.size_drew] at y6
            have D6 := Lib.hid (show Below w.heap.size w w6 from Below.trans (by repeat (first | exact D5.out | exact Below.refl _ _ | refine Below.alloc ?_ (by first | omega | (simp; omega) | (simp; done)) _)) (Below.mono hb (by first | omega | (simp; omega) | (simp; done))))
            have z6 := D6.out.size
            clear hb
            try clear c0_0
            have c0_0 := cell_of_heap h0 (j := 0) rfl
            try clear f0_0
            have f0_0 := frozen_of_heap h0 0
            try clear c0_1
            have c0_1 := cell_of_heap h0 (j := 1) rfl
            try clear f0_1
            have f0_1 := frozen_of_heap h0 1
            try clear c1_0
            have c1_0 := cell_of_heap h1 (j := 0) rfl
            try clear f1_0
            have f1_0 := frozen_of_heap h1 0
            try clear c1_1
            have c1_1 := cell_of_heap h1 (j := 1) rfl
            try clear f1_1
            have f1_1 := frozen_of_heap h1 1
            try clear c2_0
            have c2_0 := cell_of_heap h2 (j := 0) rfl
            try clear f2_0
            have f2_0 := frozen_of_heap h2 0
            try clear c2_1
            have c2_1 := cell_of_heap h2 (j := 1) rfl
            try clear f2_1
            have f2_1 := frozen_of_heap h2 1
            try clear c3_0
            have c3_0 := cell_of_heap h3 (j := 0) rfl
            try clear f3_0
            have f3_0 := frozen_of_heap h3 0
            try clear c3_1
            have c3_1 := cell_of_heap h3 (j := 1) rfl
            try clear f3_1
            have f3_1 := frozen_of_heap h3 1
            try clear c4_0
            have c4_0 := cell_of_heap h4 (j := 0) rfl
            try clear f4_0
            have f4_0 := frozen_of_heap h4 0
            try clear c4_1
            have c4_1 := cell_of_heap h4 (j := 1) rfl
            try clear f4_1
            have f4_1 := frozen_of_heap h4 1
            try clear c5_0
            have c5_0 := cell_of_heap h5 (j := 0) rfl
            try clear f5_0
            have f5_0 := frozen_of_heap h5 0
            try clear c5_1
            have c5_1 := cell_of_heap h5 (j := 1) rfl
            try clear f5_1
            have f5_1 := frozen_of_heap h5 1
            try clear c6_0
            have c6_0 := cell_of_heap h6 (j := 0) rfl
            try clear f6_0
            have f6_0 := frozen_of_heap h6 0
            try clear c6_1
            have c6_1 := cell_of_heap h6 (j := 1) rfl
            try clear f6_1
            have f6_1 := frozen_of_heap h6 1
            by_cases qc : cmpI p1 p2 = 0
            · have Hv2 : cmpI 0 c = v := by have h := Hv.out; rw [qc] at h; simpa using h
              rw [Hv2] at HA
              rw [qc]
              clear Hv qc Hv2
              go_wp2_with fail
              refine (H8.out _).mono ?_
              rintro e w7 ⟨rfl, hb⟩
              replace h0 : w7.heap[w.heap.size]? = some (.cells #[.int .i64 ox, .int .i64 oy] 25 (0, 0)) := hb_below hb (by repeat (first | exact h0 | (refine hb_new ?_; (first | omega | (simp; omega) | (simp; done))) | (refine hb_old ?_ ?_; rotate_left; focus (first | omega | (simp; omega) | (simp; done))) | refine hb_drew ?_)) (by first | omega | (simp; omega) | (simp; done))
              replace h1 : w7.heap[w.heap.size + 1]? = some (.cells #[.int .i64 fx, .int .i64 fy] 25 (0, 0)) := hb_below hb (by repeat (first | exact h1 | (refine hb_new ?_; (first | omega | (simp; omega) | (simp; done))) | (refine hb_old ?_ ?_; rotate_left; focus (first | omega | (simp; omega) | (simp; done))) | refine hb_drew ?_)) (by first | omega | (simp; omega) | (simp; done))
              replace h2 : w7.heap[w.heap.size + 1 + 1]? = some (.cells #[.int .i64 px, .int .i64 py] 25 (0, 0)) := hb_below hb (by repeat (first | exact h2 | (refine hb_new ?_; (first | omega | (simp; omega) | (simp; done))) | (refine hb_old ?_ ?_; rotate_left; focus (first | omega | (simp; omega) | (simp; done))) | refine hb_drew ?_)) (by first | omega | (simp; omega) | (simp; done))
              replace h3 : w7.heap[w.heap.size + 1 + 1 + 1]? = some (.cells #[.int .i64 qx, .int .i64 qy] 25 (0, 0)) := hb_below hb (by repeat (first | exact h3 | (refine hb_new ?_; (first | omega | (simp; omega) | (simp; done))) | (refine hb_old ?_ ?_; rotate_left; focus (first | omega | (simp; omega) | (simp; done))) | refine hb_drew ?_)) (by first | omega | (simp; omega) | (simp; done))
              replace h4 : w7.heap[b4]? = some (.cells #[.int .i64 s1.x, .int .i64 s1.y] 25 (0, 0)) := hb_below hb (by repeat (first | exact h4 | (refine hb_new ?_; (first | omega | (simp; omega) | (simp; done))) | (refine hb_old ?_ ?_; rotate_left; focus (first | omega | (simp; omega) | (simp; done))) | refine hb_drew ?_)) (by first | omega | (simp; omega) | (simp; done))
              replace h5 : w7.heap[b5]? = some (.cells #[.int .i64 s2.x, .int .i64 s2.y] 25 (0, 0)) := hb_below hb (by repeat (first | exact h5 | (refine hb_new ?_; (first | omega | (simp; omega) | (simp; done))) | (refine hb_old ?_ ?_; rotate_left; focus (first | omega | (simp; omega) | (simp; done))) | refine hb_drew ?_)) (by first | omega | (simp; omega) | (simp; done))
              replace h6 : w7.heap[b6]? = some (.cells #[.int .i64 s3.x, .int .i64 s3.y] 25 (0, 0)) := hb_below hb (by repeat (first | exact h6 | (refine hb_new ?_; (first | omega | (simp; omega) | (simp; done))) | (refine hb_old ?_ ?_; rotate_left; focus (first | omega | (simp; omega) | (simp; done))) | refine hb_drew ?_)) (by first | omega | (simp; omega) | (simp; done))
              have y7 := Below.size hb
              try simp only [World.size_alloc, World.size_drew] at y7
              have D7 := Lib.hid (show Below w.heap.size w w7 from Below.trans (by repeat (first | exact D6.out | exact Below.refl _ _ | refine Below.alloc ?_ (by first | omega | (simp; omega) | (simp; done)) _)) (Below.mono hb (by first | omega | (simp; omega) | (simp; done))))
              have z7 := D7.out.size
              clear hb
              try clear c0_0
              have c0_0 := cell_of_heap h0 (j := 0) rfl
              try clear f0_0
              have f0_0 := frozen_of_heap h0 0
              try clear c0_1
              have c0_1 := cell_of_heap h0 (j := 1) rfl
              try clear f0_1
              have f0_1 := frozen_of_heap h0 1
              try clear c1_0
              have c1_0 := cell_of_heap h1 (j := 0) rfl
              try clear f1_0
              have f1_0 := frozen_of_heap h1 0
              try clear c1_1
              have c1_1 := cell_of_heap h1 (j := 1) rfl
              try clear f1_1
              have f1_1 := frozen_of_heap h1 1
              try clear c2_0
              have c2_0 := cell_of_heap h2 (j := 0) rfl
              try clear f2_0
              have f2_0 := frozen_of_heap h2 0
              try clear c2_1
              have c2_1 := cell_of_heap h2 (j := 1) rfl
              try clear f2_1
              have f2_1 := frozen_of_heap h2 1
              try clear c3_0
              have c3_0 := cell_of_heap h3 (j := 0) rfl
              try clear f3_0
              have f3_0 := frozen_of_heap h3 0
              try clear c3_1
              have c3_1 := cell_of_heap h3 (j := 1) rfl
              try clear f3_1
              have f3_1 := frozen_of_heap h3 1
              try clear c4_0
              have c4_0 := cell_of_heap h4 (j := 0) rfl
              try clear f4_0
              have f4_0 := frozen_of_heap h4 0
              try clear c4_1
              have c4_1 := cell_of_heap h4 (j := 1) rfl
              try clear f4_1
              have f4_1 := frozen_of_heap h4 1
              try clear c5_0
              have c5_0 := cell_of_heap h5 (j := 0) rfl
              try clear f5_0
              have f5_0 := frozen_of_heap h5 0
              try clear c5_1
              have c5_1 := cell_of_heap h5 (j := 1) rfl
              try clear f5_1
              have f5_1 := frozen_of_heap h5 1
              try clear c6_0
              have c6_0 := cell_of_heap h6 (j := 0) rfl
              try clear f6_0
              have f6_0 := frozen_of_heap h6 0
              try clear c6_1
              have c6_1 := cell_of_heap h6 (j := 1) rfl
              try clear f6_1
              have f6_1 := frozen_of_heap h6 1
              go_wp2_with fail
              refine (HA.out _).mono ?_
              rintro e w' ⟨rfl, rfl⟩
              go_wp2_with fail
              go_ret2
              exact ⟨rfl, (by repeat (first | exact D7.out | exact Below.refl _ _ | refine Below.alloc ?_ (by first | omega | (simp; omega) | (simp; done)) _))⟩
            · have Hv2 : cmpI p1 p2 = v := by have h := Hv.out; simpa [qc] using h
              rw [Hv2] at qc ⊢
              clear Hv Hv2
              have qd : ¬ v = 0 := qc
              go_wp2_with fail
              go_ret2
              exact ⟨rfl, (by repeat (first | exact D6.out | exact Below.refl _ _ | refine Below.alloc ?_ (by first | omega | (simp; omega) | (simp; done)) _))⟩)
end Go.Proofs.YtehpgmhilcoalaaDoor
