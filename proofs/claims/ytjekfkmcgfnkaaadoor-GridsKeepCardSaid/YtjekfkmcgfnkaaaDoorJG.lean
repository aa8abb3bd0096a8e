/- The law of kept distances. -/
import Derived.Test.YtjekfkmcgfnkaaaDoorJF
import Derived.Test.YtjekfkmcgfnkaaaDoorHD
import Derived.Deep.CutRange
import Derived.Test.YtjekfkmcgfnkaaaDoorJH
namespace Go.Proofs.YtjekfkmcgfnkaaaDoor
open Go.RowKit Go.Lib
set_option linter.unusedSimpArgs false
set_option linter.unusedVariables false
set_option maxHeartbeats 2000000 in
set_option maxRecDepth 100000 in
theorem keep_bad (l : Lat) (f : Four) (m : Mat) (hl : okL l = false) (w : World) (g : Glob w) : Calls Tryd.prog 8 #[l.val, f.val, m.val] w fun e w' => e = .returned (.bool true) ∧ Below w.heap.size w w' := by
  have HG := Lib.hid g
  clear g
  have C1 := fun W => Group_bad l hl W
  have C2 := fun W => Check_any l W
  rw [show errIf (okL l) = 2 by rw [hl]; rfl] at C2
  have C7 := fun W g => awake_any W g
  unfold Four.val
  unfold Lat.val Mat.val at *
  have H1 := Lib.hid C1
  have H2 := Lib.hid C2
  have H7 := Lib.hid C7
  clear C1 C2 C7 hl
  go_enter Tryd.func8, Tryd.ntmps8
  go_wp2_with fail
  refine (H1.out _).mono ?_
  rintro e w1 ⟨rfl, hb⟩
  have h0 : w1.heap[w.heap.size]? = some (.cells #[.int .i64 l.a, .int .i64 l.b, .int .i64 l.c] 23 (0, 0)) := hb_below hb (by repeat (first | (refine hb_new ?_; (first | omega | (simp; omega) | (simp; done))) | (refine hb_old ?_ ?_; rotate_left; focus (first | omega | (simp; omega) | (simp; done))) | refine hb_drew ?_)) (by first | omega | (simp; omega) | (simp; done))
  have h1 : w1.heap[w.heap.size + 1]? = some (.cells #[.int .i64 f.o.x, .int .i64 f.o.y, .int .i64 f.p.x, .int .i64 f.p.y, .int .i64 f.q.x, .int .i64 f.q.y, .int .i64 f.r.x, .int .i64 f.r.y] 27 (0, 0)) := hb_below hb (by repeat (first | (refine hb_new ?_; (first | omega | (simp; omega) | (simp; done))) | (refine hb_old ?_ ?_; rotate_left; focus (first | omega | (simp; omega) | (simp; done))) | refine hb_drew ?_)) (by first | omega | (simp; omega) | (simp; done))
  have h2 : w1.heap[w.heap.size + 1 + 1]? = some (.cells #[.int .i64 m.a, .int .i64 m.b, .int .i64 m.c, .int .i64 m.d] 40 (0, 0)) := hb_below hb (by repeat (first | (refine hb_new ?_; (first | omega | (simp; omega) | (simp; done))) | (refine hb_old ?_ ?_; rotate_left; focus (first | omega | (simp; omega) | (simp; done))) | refine hb_drew ?_)) (by first | omega | (simp; omega) | (simp; done))
  have y1 := Below.size hb
  try simp only [World.size_alloc, World.size_drew] at y1
  have D1 := Lib.hid (show Below w.heap.size w w1 from Below.trans (by repeat (first | exact Below.refl _ _ | refine Below.alloc ?_ (by first | omega | (simp; omega) | (simp; done)) _)) (Below.mono hb (by first | omega | (simp; omega) | (simp; done))))
  have z1 := D1.out.size
  clear hb
  try clear c0_0 f0_0 c0_1 f0_1 c0_2 f0_2
  obtain ⟨c0_0, f0_0, c0_1, f0_1, c0_2, f0_2⟩ := cells3 h0
  try clear c1_0 f1_0 c1_1 f1_1 c1_2 f1_2 c1_3 f1_3 c1_4 f1_4 c1_5 f1_5 c1_6 f1_6 c1_7 f1_7
  obtain ⟨c1_0, f1_0, c1_1, f1_1, c1_2, f1_2, c1_3, f1_3, c1_4, f1_4, c1_5, f1_5, c1_6, f1_6, c1_7, f1_7⟩ := cells8 h1
  try clear c2_0 f2_0 c2_1 f2_1 c2_2 f2_2 c2_3 f2_3
  obtain ⟨c2_0, f2_0, c2_1, f2_1, c2_2, f2_2, c2_3, f2_3⟩ := cells4 h2
  go_wp2_with fail
  refine (H2.out _).mono ?_
  rintro e w2 ⟨rfl, hb⟩
  replace h0 : w2.heap[w.heap.size]? = some (.cells #[.int .i64 l.a, .int .i64 l.b, .int .i64 l.c] 23 (0, 0)) := hb_below hb (by repeat (first | exact h0 | (refine hb_new ?_; (first | omega | (simp; omega) | (simp; done))) | (refine hb_old ?_ ?_; rotate_left; focus (first | omega | (simp; omega) | (simp; done))) | refine hb_drew ?_)) (by first | omega | (simp; omega) | (simp; done))
  replace h1 : w2.heap[w.heap.size + 1]? = some (.cells #[.int .i64 f.o.x, .int .i64 f.o.y, .int .i64 f.p.x, .int .i64 f.p.y, .int .i64 f.q.x, .int .i64 f.q.y, .int .i64 f.r.x, .int .i64 f.r.y] 27 (0, 0)) := hb_below hb (by repeat (first | exact h1 | (refine hb_new ?_; (first | omega | (simp; omega) | (simp; done))) | (refine hb_old ?_ ?_; rotate_left; focus (first | omega | (simp; omega) | (simp; done))) | refine hb_drew ?_)) (by first | omega | (simp; omega) | (simp; done))
  replace h2 : w2.heap[w.heap.size + 1 + 1]? = some (.cells #[.int .i64 m.a, .int .i64 m.b, .int .i64 m.c, .int .i64 m.d] 40 (0, 0)) := hb_below hb (by repeat (first | exact h2 | (refine hb_new ?_; (first | omega | (simp; omega) | (simp; done))) | (refine hb_old ?_ ?_; rotate_left; focus (first | omega | (simp; omega) | (simp; done))) | refine hb_drew ?_)) (by first | omega | (simp; omega) | (simp; done))
  have y2 := Below.size hb
  try simp only [World.size_alloc, World.size_drew] at y2
  have D2 := Lib.hid (show Below w.heap.size w w2 from Below.trans (by repeat (first | exact D1.out | exact Below.refl _ _ | refine Below.alloc ?_ (by first | omega | (simp; omega) | (simp; done)) _)) (Below.mono hb (by first | omega | (simp; omega) | (simp; done))))
  have z2 := D2.out.size
  clear hb
  try clear c0_0 f0_0 c0_1 f0_1 c0_2 f0_2
  obtain ⟨c0_0, f0_0, c0_1, f0_1, c0_2, f0_2⟩ := cells3 h0
  try clear c1_0 f1_0 c1_1 f1_1 c1_2 f1_2 c1_3 f1_3 c1_4 f1_4 c1_5 f1_5 c1_6 f1_6 c1_7 f1_7
  obtain ⟨c1_0, f1_0, c1_1, f1_1, c1_2, f1_2, c1_3, f1_3, c1_4, f1_4, c1_5, f1_5, c1_6, f1_6, c1_7, f1_7⟩ := cells8 h1
  try clear c2_0 f2_0 c2_1 f2_1 c2_2 f2_2 c2_3 f2_3
  obtain ⟨c2_0, f2_0, c2_1, f2_1, c2_2, f2_2, c2_3, f2_3⟩ := cells4 h2
  go_wp2_with fail
  refine (H7.out _ (HG.out.next (Below.trans D2.out (by repeat (first | exact Below.refl _ _ | refine Below.alloc ?_ (by first | omega | (simp; omega) | (simp; done)) _))))).mono ?_
  rintro e w3 ⟨rfl, hb⟩
  replace h0 : w3.heap[w.heap.size]? = some (.cells #[.int .i64 l.a, .int .i64 l.b, .int .i64 l.c] 23 (0, 0)) := hb_below hb (by repeat (first | exact h0 | (refine hb_new ?_; (first | omega | (simp; omega) | (simp; done))) | (refine hb_old ?_ ?_; rotate_left; focus (first | omega | (simp; omega) | (simp; done))) | refine hb_drew ?_)) (by first | omega | (simp; omega) | (simp; done))
  replace h1 : w3.heap[w.heap.size + 1]? = some (.cells #[.int .i64 f.o.x, .int .i64 f.o.y, .int .i64 f.p.x, .int .i64 f.p.y, .int .i64 f.q.x, .int .i64 f.q.y, .int .i64 f.r.x, .int .i64 f.r.y] 27 (0, 0)) := hb_below hb (by repeat (first | exact h1 | (refine hb_new ?_; (first | omega | (simp; omega) | (simp; done))) | (refine hb_old ?_ ?_; rotate_left; focus (first | omega | (simp; omega) | (simp; done))) | refine hb_drew ?_)) (by first | omega | (simp; omega) | (simp; done))
  replace h2 : w3.heap[w.heap.size + 1 + 1]? = some (.cells #[.int .i64 m.a, .int .i64 m.b, .int .i64 m.c, .int .i64 m.d] 40 (0, 0)) := hb_below hb (by repeat (first | exact h2 | (refine hb_new ?_; (first | omega | (simp; omega) | (simp; done))) | (refine hb_old ?_ ?_; rotate_left; focus (first | omega | (simp; omega) | (simp; done))) | refine hb_drew ?_)) (by first | omega | (simp; omega) | (simp; done))
  have y3 := Below.size hb
  try simp only [World.size_alloc, World.size_drew] at y3
  have D3 := Lib.hid (show Below w.heap.size w w3 from Below.trans (by repeat (first | exact D2.out | exact Below.refl _ _ | refine Below.alloc ?_ (by first | omega | (simp; omega) | (simp; done)) _)) (Below.mono hb (by first | omega | (simp; omega) | (simp; done))))
  have z3 := D3.out.size
  clear hb
  try clear c0_0 f0_0 c0_1 f0_1 c0_2 f0_2
  obtain ⟨c0_0, f0_0, c0_1, f0_1, c0_2, f0_2⟩ := cells3 h0
  try clear c1_0 f1_0 c1_1 f1_1 c1_2 f1_2 c1_3 f1_3 c1_4 f1_4 c1_5 f1_5 c1_6 f1_6 c1_7 f1_7
  obtain ⟨c1_0, f1_0, c1_1, f1_1, c1_2, f1_2, c1_3, f1_3, c1_4, f1_4, c1_5, f1_5, c1_6, f1_6, c1_7, f1_7⟩ := cells8 h1
  try clear c2_0 f2_0 c2_1 f2_1 c2_2 f2_2 c2_3 f2_3
  obtain ⟨c2_0, f2_0, c2_1, f2_1, c2_2, f2_2, c2_3, f2_3⟩ := cells4 h2
  go_wp2_with fail
  go_ret
  exact ⟨by first | rfl | (simp [*]; done) | (simp; omega), D3.out⟩
set_option maxHeartbeats 8000000 in
set_option maxRecDepth 100000 in
theorem keep_okl (l : Lat) (f : Four) (m : Mat) (hl : Ok l) (w : World) (g : Glob w) : Calls Tryd.prog 8 #[l.val, f.val, m.val] w fun e w' => e = .returned (.bool true) ∧ Below w.heap.size w w' := by
  have HG := Lib.hid g
  clear g
  have Hl := Lib.hid hl
  have C1 := fun W g => Group_ok l hl W g
  have C7 := fun W g => awake_any W g
  obtain ⟨P, hp1, hp2, Np⟩ : ∃ P : Pt, f.p.x.tmod 11 = P.x ∧ f.p.y.tmod 11 = P.y ∧ Nr P := ⟨⟨_, _⟩, rfl, rfl, near_rng _, near_rng _⟩
  have Mp := fun W => near_any f.p W
  rw [hp1, hp2] at Mp
  obtain ⟨Q, hq1, hq2, Nq⟩ : ∃ P : Pt, f.q.x.tmod 11 = P.x ∧ f.q.y.tmod 11 = P.y ∧ Nr P := ⟨⟨_, _⟩, rfl, rfl, near_rng _, near_rng _⟩
  have Mq := fun W => near_any f.q W
  rw [hq1, hq2] at Mq
  obtain ⟨R, hr1, hr2, Nrr⟩ : ∃ P : Pt, f.r.x.tmod 11 = P.x ∧ f.r.y.tmod 11 = P.y ∧ Nr P := ⟨⟨_, _⟩, rfl, rfl, near_rng _, near_rng _⟩
  have Mr := fun W => near_any f.r W
  rw [hr1, hr2] at Mr
  have C2 : ∀ W, Calls Tryd.prog 13 #[l.val, P.val, Q.val] W fun e w' => e = .returned (.tuple #[.int .i64 (sqv l P Q), .int .i64 (sqe l P Q)]) ∧ Below W.heap.size W w' := fun W => Square_any l P Q W
  have C3 : ∀ W, Calls Tryd.prog 20 #[P.val, Q.val, R.val] W fun e w' => e = .returned (.tuple #[.int .i64 (sdv P Q R), .int .i64 (sde P Q R)]) ∧ Below W.heap.size W w' := fun W => Side_any P Q R W
  rw [(sq_near hl Np Nq).2] at C2
  rw [(sd_near Np Nq Nrr).2] at C3
  have hSr := sdv_rng Np Nq Nrr
  have C4 := fun W => Keeps_any l m W
  have C5 := fun W => rMatrix_any m W
  clear hp1 hp2 hq1 hq2 hr1 hr2 hl
  unfold Four.val
  unfold Lat.val Mat.val Pt.val at *
  have HC1 := Lib.hid C1
  have HC2 := Lib.hid C2
  have HC3 := Lib.hid C3
  have HC4 := Lib.hid C4
  have HC5 := Lib.hid C5
  have HC7 := Lib.hid C7
  have HMp := Lib.hid Mp
  have HMq := Lib.hid Mq
  have HMr := Lib.hid Mr
  have HNp := Lib.hid Np
  have HNq := Lib.hid Nq
  have HNrr := Lib.hid Nrr
  have HhSr := Lib.hid hSr
  clear C1 C2 C3 C4 C5 C7 Mp Mq Mr Np Nq Nrr hSr
  go_enter Tryd.func8, Tryd.ntmps8
  go_wp2_with fail
  refine (HC1.out _ (HG.out.next (by repeat (first | exact Below.refl _ _ | refine Below.alloc ?_ (by first | omega | (simp; omega) | (simp; done)) _)))).mono ?_
  rintro e w1 ⟨ao, cap, G, rfl, hms, hig, hb⟩
  have h0 : w1.heap[w.heap.size]? = some (.cells #[.int .i64 l.a, .int .i64 l.b, .int .i64 l.c] 23 (0, 0)) := hb_below hb (by repeat (first | (refine hb_new ?_; (first | omega | (simp; omega) | (simp; done))) | (refine hb_old ?_ ?_; rotate_left; focus (first | omega | (simp; omega) | (simp; done))) | refine hb_drew ?_)) (by first | omega | (simp; omega) | (simp; done))
  have h1 : w1.heap[w.heap.size + 1]? = some (.cells #[.int .i64 f.o.x, .int .i64 f.o.y, .int .i64 f.p.x, .int .i64 f.p.y, .int .i64 f.q.x, .int .i64 f.q.y, .int .i64 f.r.x, .int .i64 f.r.y] 27 (0, 0)) := hb_below hb (by repeat (first | (refine hb_new ?_; (first | omega | (simp; omega) | (simp; done))) | (refine hb_old ?_ ?_; rotate_left; focus (first | omega | (simp; omega) | (simp; done))) | refine hb_drew ?_)) (by first | omega | (simp; omega) | (simp; done))
  have h2 : w1.heap[w.heap.size + 1 + 1]? = some (.cells #[.int .i64 m.a, .int .i64 m.b, .int .i64 m.c, .int .i64 m.d] 40 (0, 0)) := hb_below hb (by repeat (first | (refine hb_new ?_; (first | omega | (simp; omega) | (simp; done))) | (refine hb_old ?_ ?_; rotate_left; focus (first | omega | (simp; omega) | (simp; done))) | refine hb_drew ?_)) (by first | omega | (simp; omega) | (simp; done))
  have y1 := Below.size hb
  try simp only [World.size_alloc, World.size_drew] at y1
  have D1 := Lib.hid (show Below w.heap.size w w1 from Below.trans (by repeat (first | exact Below.refl _ _ | refine Below.alloc ?_ (by first | omega | (simp; omega) | (simp; done)) _)) (Below.mono hb (by first | omega | (simp; omega) | (simp; done))))
  have z1 := D1.out.size
  clear hb
  try clear c0_0 f0_0 c0_1 f0_1 c0_2 f0_2
  obtain ⟨c0_0, f0_0, c0_1, f0_1, c0_2, f0_2⟩ := cells3 h0
  try clear c1_0 f1_0 c1_1 f1_1 c1_2 f1_2 c1_3 f1_3 c1_4 f1_4 c1_5 f1_5 c1_6 f1_6 c1_7 f1_7
  obtain ⟨c1_0, f1_0, c1_1, f1_1, c1_2, f1_2, c1_3, f1_3, c1_4, f1_4, c1_5, f1_5, c1_6, f1_6, c1_7, f1_7⟩ := cells8 h1
  try clear c2_0 f2_0 c2_1 f2_1 c2_2 f2_2 c2_3 f2_3
  obtain ⟨c2_0, f2_0, c2_1, f2_1, c2_2, f2_2, c2_3, f2_3⟩ := cells4 h2
  have hlen := hig.2.2
  have hpos : 0 < G.length := by omega
  have hmax : G.length ≤ 12 := by omega
  obtain ⟨b, off, og, hao, hbl, h3, hrows⟩ := ms_block hms hpos
  subst hao
  have HB := Lib.hid h3
  have HR := Lib.hid hrows
  have HI := Lib.hid hig
  have HIN := Lib.hid (fun m hm W hW => by have := in_any (cap := cap) h3 hrows (by omega) m W hW; rw [decide_eq_true hm] at this; exact this : ∀ m : Mat, m ∈ G → ∀ W : World, W.heap[b]? = some og → Calls Tryd.prog 41 #[.slice (some ⟨b, off, none⟩) G.length cap, m.val] W fun e w' => e = .returned (.bool true) ∧ Below W.heap.size W w')
  have HIA := Lib.hid (fun m W hW => in_any (cap := cap) h3 hrows (by omega) m W hW : ∀ (m : Mat) (W : World), W.heap[b]? = some og → Calls Tryd.prog 41 #[.slice (some ⟨b, off, none⟩) G.length cap, m.val] W fun e w' => e = .returned (.bool (decide (m ∈ G))) ∧ Below W.heap.size W w')
  clear hms hig hrows
  obtain ⟨n, hn⟩ : ∃ n, n = G.length := ⟨_, rfl⟩
  rw [← hn] at HIN HIA hlen hpos hmax ⊢
  have HN := Lib.hid hn
  clear hn
  go_upto_region 5 with fail
  go_cut [67] from 54 to 67 (fun s wc => s = .bool false ∧ wc = w1)
  case first =>
    rcases hlen with h | h | h | h <;> subst h <;> (go_wp2_with fail; go_meet; exact ⟨rfl, rfl⟩)
  case rest =>
    obtain ⟨rfl, hwc⟩ := hcut
    rw [hwc]
    clear hwc
    go_wp2_with fail
    try clear c0_0 f0_0 c0_1 f0_1 c0_2 f0_2
    try clear c1_0 f1_0 c1_1 f1_1 c1_2 f1_2 c1_3 f1_3 c1_4 f1_4 c1_5 f1_5 c1_6 f1_6 c1_7 f1_7
    try clear c2_0 f2_0 c2_1 f2_1 c2_2 f2_2 c2_3 f2_3
    refine wp_region_alloc 9 12 [9, 10, 11] (fun _ => .cells #[.int .i64 0, .int .i64 0] 25 (0, 0)) (by kernel_rfl) (by kernel_rfl) ?_ ?_
    · intro i o h1 h2 ho
      have hi : i = 9 ∨ i = 10 ∨ i = 11 := by omega
      rcases hi with rfl | rfl | rfl <;> (simp only [List.getElem?_toArray, List.getElem?_cons_succ, List.getElem?_cons_zero, Option.some.injEq] at ho; subst ho; exact ⟨rfl, fun a w => by go_simp; try rfl⟩)
    simp only [List.take_succ_cons, List.take_zero, List.drop_succ_cons, List.drop_zero]
    refine lex_still rfl _ (fun w => by go_simp; rfl) ?_
    simp only [Act.put, List.setIfInBounds_toArray, List.set_cons_zero, List.set_cons_succ]
    refine lex_load rfl _ _ rfl _ _ rfl [.int .i64 f.p.x, .int .i64 f.p.y] _ (fun w' h => range_part (range_of_heap (hb_below h h1 (by first | omega | (simp; omega) | (simp; done)))) 2 2) Tryd.underlying25 rfl (by kernel_rfl) ?_
    simp only [Act.put, List.setIfInBounds_toArray, List.set_cons_zero, List.set_cons_succ]
    refine lex_call rfl 39 _ _ rfl (enter_of Tryd.func39 (by decide) (by intro h; cases h)) _ (HMp.out) ?_
    simp only [Act.put, List.setIfInBounds_toArray, List.set_cons_zero, List.set_cons_succ]
    refine lex_still rfl _ (fun w => by go_simp; rfl) ?_
    simp only [Act.put, List.setIfInBounds_toArray, List.set_cons_zero, List.set_cons_succ]
    refine lex_load rfl _ _ rfl _ _ rfl [.int .i64 f.q.x, .int .i64 f.q.y] _ (fun w' h => range_part (range_of_heap (hb_below h h1 (by first | omega | (simp; omega) | (simp; done)))) 4 2) Tryd.underlying25 rfl (by kernel_rfl) ?_
    simp only [Act.put, List.setIfInBounds_toArray, List.set_cons_zero, List.set_cons_succ]
    refine lex_call rfl 39 _ _ rfl (enter_of Tryd.func39 (by decide) (by intro h; cases h)) _ (HMq.out) ?_
    simp only [Act.put, List.setIfInBounds_toArray, List.set_cons_zero, List.set_cons_succ]
    refine lex_still rfl _ (fun w => by go_simp; rfl) ?_
    simp only [Act.put, List.setIfInBounds_toArray, List.set_cons_zero, List.set_cons_succ]
    refine lex_load rfl _ _ rfl _ _ rfl [.int .i64 f.r.x, .int .i64 f.r.y] _ (fun w' h => range_part (range_of_heap (hb_below h h1 (by first | omega | (simp; omega) | (simp; done)))) 6 2) Tryd.underlying25 rfl (by kernel_rfl) ?_
    simp only [Act.put, List.setIfInBounds_toArray, List.set_cons_zero, List.set_cons_succ]
    refine lex_call rfl 39 _ _ rfl (enter_of Tryd.func39 (by decide) (by intro h; cases h)) _ (HMr.out) ?_
    simp only [Act.put, List.setIfInBounds_toArray, List.set_cons_zero, List.set_cons_succ]
    refine aph3' 9 10 11 10 11 12 rfl rfl rfl (by decide) (by decide) (by decide) (by decide) (by decide) (by decide) ?_
    intro b4 b5 b6 w2 hb hF hD
    simp only [List.drop_succ_cons, List.drop_zero]
    simp only [Act.put, List.setIfInBounds_toArray, List.set_cons_zero, List.set_cons_succ]
    replace h0 : w2.heap[w.heap.size]? = some (.cells #[.int .i64 l.a, .int .i64 l.b, .int .i64 l.c] 23 (0, 0)) := hb_below hb (by repeat (first | exact h0 | (refine hb_new ?_; (first | omega | (simp; omega) | (simp; done))) | (refine hb_old ?_ ?_; rotate_left; focus (first | omega | (simp; omega) | (simp; done))) | refine hb_drew ?_)) (by first | omega | (simp; omega) | (simp; done))
    replace h1 : w2.heap[w.heap.size + 1]? = some (.cells #[.int .i64 f.o.x, .int .i64 f.o.y, .int .i64 f.p.x, .int .i64 f.p.y, .int .i64 f.q.x, .int .i64 f.q.y, .int .i64 f.r.x, .int .i64 f.r.y] 27 (0, 0)) := hb_below hb (by repeat (first | exact h1 | (refine hb_new ?_; (first | omega | (simp; omega) | (simp; done))) | (refine hb_old ?_ ?_; rotate_left; focus (first | omega | (simp; omega) | (simp; done))) | refine hb_drew ?_)) (by first | omega | (simp; omega) | (simp; done))
    replace h2 : w2.heap[w.heap.size + 1 + 1]? = some (.cells #[.int .i64 m.a, .int .i64 m.b, .int .i64 m.c, .int .i64 m.d] 40 (0, 0)) := hb_below hb (by repeat (first | exact h2 | (refine hb_new ?_; (first | omega | (simp; omega) | (simp; done))) | (refine hb_old ?_ ?_; rotate_left; focus (first | omega | (simp; omega) | (simp; done))) | refine hb_drew ?_)) (by first | omega | (simp; omega) | (simp; done))
    replace h3 : w2.heap[b]? = some og := hb_below hb (by repeat (first | exact h3 | (refine hb_new ?_; (first | omega | (simp; omega) | (simp; done))) | (refine hb_old ?_ ?_; rotate_left; focus (first | omega | (simp; omega) | (simp; done))) | refine hb_drew ?_)) (by first | omega | (simp; omega) | (simp; done))
    have g4 : w1.heap.size ≤ b4 := (hF 9 (by decide) (by decide)).1
    have l4 : b4 < w2.heap.size := (hF 9 (by decide) (by decide)).2.1
    have h4 : w2.heap[b4]? = some (.cells #[.int .i64 0, .int .i64 0] 25 (0, 0)) := (hF 9 (by decide) (by decide)).2.2
    have g5 : w1.heap.size ≤ b5 := (hF 10 (by decide) (by decide)).1
    have l5 : b5 < w2.heap.size := (hF 10 (by decide) (by decide)).2.1
    have h5 : w2.heap[b5]? = some (.cells #[.int .i64 0, .int .i64 0] 25 (0, 0)) := (hF 10 (by decide) (by decide)).2.2
    have g6 : w1.heap.size ≤ b6 := (hF 11 (by decide) (by decide)).1
    have l6 : b6 < w2.heap.size := (hF 11 (by decide) (by decide)).2.1
    have h6 : w2.heap[b6]? = some (.cells #[.int .i64 0, .int .i64 0] 25 (0, 0)) := (hF 11 (by decide) (by decide)).2.2
    have n4_5 : b4 ≠ b5 := hD 9 10 (by decide) (by decide) (by decide) (by decide) (by decide)
    have n4_6 : b4 ≠ b6 := hD 9 11 (by decide) (by decide) (by decide) (by decide) (by decide)
    have n5_6 : b5 ≠ b6 := hD 10 11 (by decide) (by decide) (by decide) (by decide) (by decide)
    clear hF hD
    have y2 := Below.size hb
    try simp only [World.size_alloc, World.size_drew] at y2
    have D2 := Lib.hid (show Below w.heap.size w w2 from Below.trans (by repeat (first | exact D1.out | exact Below.refl _ _ | refine Below.alloc ?_ (by first | omega | (simp; omega) | (simp; done)) _)) (Below.mono hb (by first | omega | (simp; omega) | (simp; done))))
    have z2 := D2.out.size
    clear hb
    refine store_row rfl _ _ _ rfl (b4) _ rfl rfl _ _ h4 (by kernel_rfl) rfl (by kernel_rfl) ?_
    intro w3 hn hk hz hB
    simp only [Act.put, List.setIfInBounds_toArray, List.set_cons_zero, List.set_cons_succ]
    replace h0 := hk _ _ h0 (by first | omega | assumption | (apply Ne.symm; assumption) | (simp; done) | (simp; omega))
    replace h1 := hk _ _ h1 (by first | omega | assumption | (apply Ne.symm; assumption) | (simp; done) | (simp; omega))
    replace h2 := hk _ _ h2 (by first | omega | assumption | (apply Ne.symm; assumption) | (simp; done) | (simp; omega))
    replace h3 := hk _ _ h3 (by first | omega | assumption | (apply Ne.symm; assumption) | (simp; done) | (simp; omega))
    replace h4 : w3.heap[b4]? = some (.cells #[.int .i64 P.x, .int .i64 P.y] 25 (0, 0)) := hn
    replace h5 := hk _ _ h5 (by first | omega | assumption | (apply Ne.symm; assumption) | (simp; done) | (simp; omega))
    replace h6 := hk _ _ h6 (by first | omega | assumption | (apply Ne.symm; assumption) | (simp; done) | (simp; omega))
    have D3 := Lib.hid (hB _ _ D2.out (by first | omega | (simp; omega)))
    have z3 := D3.out.size
    have y3 : w3.heap.size = w2.heap.size := hz
    clear hn hk hz hB
    refine store_row rfl _ _ _ rfl (b5) _ rfl rfl _ _ h5 (by kernel_rfl) rfl (by kernel_rfl) ?_
    intro w4 hn hk hz hB
    simp only [Act.put, List.setIfInBounds_toArray, List.set_cons_zero, List.set_cons_succ]
    replace h0 := hk _ _ h0 (by first | omega | assumption | (apply Ne.symm; assumption) | (simp; done) | (simp; omega))
    replace h1 := hk _ _ h1 (by first | omega | assumption | (apply Ne.symm; assumption) | (simp; done) | (simp; omega))
    replace h2 := hk _ _ h2 (by first | omega | assumption | (apply Ne.symm; assumption) | (simp; done) | (simp; omega))
    replace h3 := hk _ _ h3 (by first | omega | assumption | (apply Ne.symm; assumption) | (simp; done) | (simp; omega))
    replace h4 := hk _ _ h4 (by first | omega | assumption | (apply Ne.symm; assumption) | (simp; done) | (simp; omega))
    replace h5 : w4.heap[b5]? = some (.cells #[.int .i64 Q.x, .int .i64 Q.y] 25 (0, 0)) := hn
    replace h6 := hk _ _ h6 (by first | omega | assumption | (apply Ne.symm; assumption) | (simp; done) | (simp; omega))
    have D4 := Lib.hid (hB _ _ D3.out (by first | omega | (simp; omega)))
    have z4 := D4.out.size
    have y4 : w4.heap.size = w3.heap.size := hz
    clear hn hk hz hB
    refine store_row rfl _ _ _ rfl (b6) _ rfl rfl _ _ h6 (by kernel_rfl) rfl (by kernel_rfl) ?_
    intro w5 hn hk hz hB
    simp only [Act.put, List.setIfInBounds_toArray, List.set_cons_zero, List.set_cons_succ]
    replace h0 := hk _ _ h0 (by first | omega | assumption | (apply Ne.symm; assumption) | (simp; done) | (simp; omega))
    replace h1 := hk _ _ h1 (by first | omega | assumption | (apply Ne.symm; assumption) | (simp; done) | (simp; omega))
    replace h2 := hk _ _ h2 (by first | omega | assumption | (apply Ne.symm; assumption) | (simp; done) | (simp; omega))
    replace h3 := hk _ _ h3 (by first | omega | assumption | (apply Ne.symm; assumption) | (simp; done) | (simp; omega))
    replace h4 := hk _ _ h4 (by first | omega | assumption | (apply Ne.symm; assumption) | (simp; done) | (simp; omega))
    replace h5 := hk _ _ h5 (by first | omega | assumption | (apply Ne.symm; assumption) | (simp; done) | (simp; omega))
    replace h6 : w5.heap[b6]? = some (.cells #[.int .i64 R.x, .int .i64 R.y] 25 (0, 0)) := hn
    have D5 := Lib.hid (hB _ _ D4.out (by first | omega | (simp; omega)))
    have z5 := D5.out.size
    have y5 : w5.heap.size = w4.heap.size := hz
    clear hn hk hz hB
    try clear c0_0 f0_0 c0_1 f0_1 c0_2 f0_2
    obtain ⟨c0_0, f0_0, c0_1, f0_1, c0_2, f0_2⟩ := cells3 h0
    try clear c1_0 f1_0 c1_1 f1_1 c1_2 f1_2 c1_3 f1_3 c1_4 f1_4 c1_5 f1_5 c1_6 f1_6 c1_7 f1_7
    obtain ⟨c1_0, f1_0, c1_1, f1_1, c1_2, f1_2, c1_3, f1_3, c1_4, f1_4, c1_5, f1_5, c1_6, f1_6, c1_7, f1_7⟩ := cells8 h1
    try clear c2_0 f2_0 c2_1 f2_1 c2_2 f2_2 c2_3 f2_3
    obtain ⟨c2_0, f2_0, c2_1, f2_1, c2_2, f2_2, c2_3, f2_3⟩ := cells4 h2
    try clear c4_0 f4_0 c4_1 f4_1
    obtain ⟨c4_0, f4_0, c4_1, f4_1⟩ := cells2 h4
    try clear c5_0 f5_0 c5_1 f5_1
    obtain ⟨c5_0, f5_0, c5_1, f5_1⟩ := cells2 h5
    try clear c6_0 f6_0 c6_1 f6_1
    obtain ⟨c6_0, f6_0, c6_1, f6_1⟩ := cells2 h6
    go_wp2_with fail
    refine (HC2.out _).mono ?_
    rintro e w6 ⟨rfl, hb⟩
    replace h0 : w6.heap[w.heap.size]? = some (.cells #[.int .i64 l.a, .int .i64 l.b, .int .i64 l.c] 23 (0, 0)) := hb_below hb (by repeat (first | exact h0 | (refine hb_new ?_; (first | omega | (simp; omega) | (simp; done))) | (refine hb_old ?_ ?_; rotate_left; focus (first | omega | (simp; omega) | (simp; done))) | refine hb_drew ?_)) (by first | omega | (simp; omega) | (simp; done))
    replace h1 : w6.heap[w.heap.size + 1]? = some (.cells #[.int .i64 f.o.x, .int .i64 f.o.y, .int .i64 f.p.x, .int .i64 f.p.y, .int .i64 f.q.x, .int .i64 f.q.y, .int .i64 f.r.x, .int .i64 f.r.y] 27 (0, 0)) := hb_below hb (by repeat (first | exact h1 | (refine hb_new ?_; (first | omega | (simp; omega) | (simp; done))) | (refine hb_old ?_ ?_; rotate_left; focus (first | omega | (simp; omega) | (simp; done))) | refine hb_drew ?_)) (by first | omega | (simp; omega) | (simp; done))
    replace h2 : w6.heap[w.heap.size + 1 + 1]? = some (.cells #[.int .i64 m.a, .int .i64 m.b, .int .i64 m.c, .int .i64 m.d] 40 (0, 0)) := hb_below hb (by repeat (first | exact h2 | (refine hb_new ?_; (first | omega | (simp; omega) | (simp; done))) | (refine hb_old ?_ ?_; rotate_left; focus (first | omega | (simp; omega) | (simp; done))) | refine hb_drew ?_)) (by first | omega | (simp; omega) | (simp; done))
    replace h3 : w6.heap[b]? = some og := hb_below hb (by repeat (first | exact h3 | (refine hb_new ?_; (first | omega | (simp; omega) | (simp; done))) | (refine hb_old ?_ ?_; rotate_left; focus (first | omega | (simp; omega) | (simp; done))) | refine hb_drew ?_)) (by first | omega | (simp; omega) | (simp; done))
    replace h4 : w6.heap[b4]? = some (.cells #[.int .i64 P.x, .int .i64 P.y] 25 (0, 0)) := hb_below hb (by repeat (first | exact h4 | (refine hb_new ?_; (first | omega | (simp; omega) | (simp; done))) | (refine hb_old ?_ ?_; rotate_left; focus (first | omega | (simp; omega) | (simp; done))) | refine hb_drew ?_)) (by first | omega | (simp; omega) | (simp; done))
    replace h5 : w6.heap[b5]? = some (.cells #[.int .i64 Q.x, .int .i64 Q.y] 25 (0, 0)) := hb_below hb (by repeat (first | exact h5 | (refine hb_new ?_; (first | omega | (simp; omega) | (simp; done))) | (refine hb_old ?_ ?_; rotate_left; focus (first | omega | (simp; omega) | (simp; done))) | refine hb_drew ?_)) (by first | omega | (simp; omega) | (simp; done))
    replace h6 : w6.heap[b6]? = some (.cells #[.int .i64 R.x, .int .i64 R.y] 25 (0, 0)) := hb_below hb (by repeat (first | exact h6 | (refine hb_new ?_; (first | omega | (simp; omega) | (simp; done))) | (refine hb_old ?_ ?_; rotate_left; focus (first | omega | (simp; omega) | (simp; done))) | refine hb_drew ?_)) (by first | omega | (simp; omega) | (simp; done))
    have y6 := Below.size hb
    try simp only [World.size_alloc, World.size_drew] at y6
    have D6 := Lib.hid (show Below w.heap.size w w6 from Below.trans (by repeat (first | exact D5.out | exact Below.refl _ _ | refine Below.alloc ?_ (by first | omega | (simp; omega) | (simp; done)) _)) (Below.mono hb (by first | omega | (simp; omega) | (simp; done))))
    have z6 := D6.out.size
    clear hb
    try clear c0_0 f0_0 c0_1 f0_1 c0_2 f0_2
    obtain ⟨c0_0, f0_0, c0_1, f0_1, c0_2, f0_2⟩ := cells3 h0
    try clear c1_0 f1_0 c1_1 f1_1 c1_2 f1_2 c1_3 f1_3 c1_4 f1_4 c1_5 f1_5 c1_6 f1_6 c1_7 f1_7
    obtain ⟨c1_0, f1_0, c1_1, f1_1, c1_2, f1_2, c1_3, f1_3, c1_4, f1_4, c1_5, f1_5, c1_6, f1_6, c1_7, f1_7⟩ := cells8 h1
    try clear c2_0 f2_0 c2_1 f2_1 c2_2 f2_2 c2_3 f2_3
    obtain ⟨c2_0, f2_0, c2_1, f2_1, c2_2, f2_2, c2_3, f2_3⟩ := cells4 h2
    try clear c4_0 f4_0 c4_1 f4_1
    obtain ⟨c4_0, f4_0, c4_1, f4_1⟩ := cells2 h4
    try clear c5_0 f5_0 c5_1 f5_1
    obtain ⟨c5_0, f5_0, c5_1, f5_1⟩ := cells2 h5
    try clear c6_0 f6_0 c6_1 f6_1
    obtain ⟨c6_0, f6_0, c6_1, f6_1⟩ := cells2 h6
    go_wp2_with fail
    refine (HC3.out _).mono ?_
    rintro e w7 ⟨rfl, hb⟩
    replace h0 : w7.heap[w.heap.size]? = some (.cells #[.int .i64 l.a, .int .i64 l.b, .int .i64 l.c] 23 (0, 0)) := hb_below hb (by repeat (first | exact h0 | (refine hb_new ?_; (first | omega | (simp; omega) | (simp; done))) | (refine hb_old ?_ ?_; rotate_left; focus (first | omega | (simp; omega) | (simp; done))) | refine hb_drew ?_)) (by first | omega | (simp; omega) | (simp; done))
    replace h1 : w7.heap[w.heap.size + 1]? = some (.cells #[.int .i64 f.o.x, .int .i64 f.o.y, .int .i64 f.p.x, .int .i64 f.p.y, .int .i64 f.q.x, .int .i64 f.q.y, .int .i64 f.r.x, .int .i64 f.r.y] 27 (0, 0)) := hb_below hb (by repeat (first | exact h1 | (refine hb_new ?_; (first | omega | (simp; omega) | (simp; done))) | (refine hb_old ?_ ?_; rotate_left; focus (first | omega | (simp; omega) | (simp; done))) | refine hb_drew ?_)) (by first | omega | (simp; omega) | (simp; done))
    replace h2 : w7.heap[w.heap.size + 1 + 1]? = some (.cells #[.int .i64 m.a, .int .i64 m.b, .int .i64 m.c, .int .i64 m.d] 40 (0, 0)) := hb_below hb (by repeat (first | exact h2 | (refine hb_new ?_; (first | omega | (simp; omega) | (simp; done))) | (refine hb_old ?_ ?_; rotate_left; focus (first | omega | (simp; omega) | (simp; done))) | refine hb_drew ?_)) (by first | omega | (simp; omega) | (simp; done))
    replace h3 : w7.heap[b]? = some og := hb_below hb (by repeat (first | exact h3 | (refine hb_new ?_; (first | omega | (simp; omega) | (simp; done))) | (refine hb_old ?_ ?_; rotate_left; focus (first | omega | (simp; omega) | (simp; done))) | refine hb_drew ?_)) (by first | omega | (simp; omega) | (simp; done))
    replace h4 : w7.heap[b4]? = some (.cells #[.int .i64 P.x, .int .i64 P.y] 25 (0, 0)) := hb_below hb (by repeat (first | exact h4 | (refine hb_new ?_; (first | omega | (simp; omega) | (simp; done))) | (refine hb_old ?_ ?_; rotate_left; focus (first | omega | (simp; omega) | (simp; done))) | refine hb_drew ?_)) (by first | omega | (simp; omega) | (simp; done))
    replace h5 : w7.heap[b5]? = some (.cells #[.int .i64 Q.x, .int .i64 Q.y] 25 (0, 0)) := hb_below hb (by repeat (first | exact h5 | (refine hb_new ?_; (first | omega | (simp; omega) | (simp; done))) | (refine hb_old ?_ ?_; rotate_left; focus (first | omega | (simp; omega) | (simp; done))) | refine hb_drew ?_)) (by first | omega | (simp; omega) | (simp; done))
    replace h6 : w7.heap[b6]? = some (.cells #[.int .i64 R.x, .int .i64 R.y] 25 (0, 0)) := hb_below hb (by repeat (first | exact h6 | (refine hb_new ?_; (first | omega | (simp; omega) | (simp; done))) | (refine hb_old ?_ ?_; rotate_left; focus (first | omega | (simp; omega) | (simp; done))) | refine hb_drew ?_)) (by first | omega | (simp; omega) | (simp; done))
    have y7 := Below.size hb
    try simp only [World.size_alloc, World.size_drew] at y7
    have D7 := Lib.hid (show Below w.heap.size w w7 from Below.trans (by repeat (first | exact D6.out | exact Below.refl _ _ | refine Below.alloc ?_ (by first | omega | (simp; omega) | (simp; done)) _)) (Below.mono hb (by first | omega | (simp; omega) | (simp; done))))
    have z7 := D7.out.size
    clear hb
    try clear c0_0 f0_0 c0_1 f0_1 c0_2 f0_2
    obtain ⟨c0_0, f0_0, c0_1, f0_1, c0_2, f0_2⟩ := cells3 h0
    try clear c1_0 f1_0 c1_1 f1_1 c1_2 f1_2 c1_3 f1_3 c1_4 f1_4 c1_5 f1_5 c1_6 f1_6 c1_7 f1_7
    obtain ⟨c1_0, f1_0, c1_1, f1_1, c1_2, f1_2, c1_3, f1_3, c1_4, f1_4, c1_5, f1_5, c1_6, f1_6, c1_7, f1_7⟩ := cells8 h1
    try clear c2_0 f2_0 c2_1 f2_1 c2_2 f2_2 c2_3 f2_3
    obtain ⟨c2_0, f2_0, c2_1, f2_1, c2_2, f2_2, c2_3, f2_3⟩ := cells4 h2
    try clear c4_0 f4_0 c4_1 f4_1
    obtain ⟨c4_0, f4_0, c4_1, f4_1⟩ := cells2 h4
    try clear c5_0 f5_0 c5_1 f5_1
    obtain ⟨c5_0, f5_0, c5_1, f5_1⟩ := cells2 h5
    try clear c6_0 f6_0 c6_1 f6_1
    obtain ⟨c6_0, f6_0, c6_1, f6_1⟩ := cells2 h6
    obtain ⟨sd, hsd⟩ : ∃ z, z = sdv P Q R := ⟨_, rfl⟩
    obtain ⟨sq, hsq⟩ : ∃ z, z = sqv l P Q := ⟨_, rfl⟩
    rw [← hsd]
    try rw [← hsq]
    have HSD := Lib.hid hsd
    have HSQ := Lib.hid hsq
    clear hsd hsq
    go_wp2_with fail
    go_loopg [17] n (fun kk s wr => ∃ i : Nat, i ≤ n ∧ n - i ≤ kk ∧ s = .int .i64 i ∧ wr.heap[w.heap.size]? = some (.cells #[.int .i64 l.a, .int .i64 l.b, .int .i64 l.c] 23 (0, 0)) ∧ wr.heap[w.heap.size + 1]? = some (.cells #[.int .i64 f.o.x, .int .i64 f.o.y, .int .i64 f.p.x, .int .i64 f.p.y, .int .i64 f.q.x, .int .i64 f.q.y, .int .i64 f.r.x, .int .i64 f.r.y] 27 (0, 0)) ∧ wr.heap[w.heap.size + 1 + 1]? = some (.cells #[.int .i64 m.a, .int .i64 m.b, .int .i64 m.c, .int .i64 m.d] 40 (0, 0)) ∧ wr.heap[b]? = some og ∧ wr.heap[b4]? = some (.cells #[.int .i64 P.x, .int .i64 P.y] 25 (0, 0)) ∧ wr.heap[b5]? = some (.cells #[.int .i64 Q.x, .int .i64 Q.y] 25 (0, 0)) ∧ wr.heap[b6]? = some (.cells #[.int .i64 R.x, .int .i64 R.y] 25 (0, 0)) ∧ w7.heap.size ≤ wr.heap.size ∧ Below w.heap.size w wr)
    case atStart => exact ⟨0, by omega, by omega, rfl, h0, h1, h2, h3, h4, h5, h6, Nat.le_refl _, D7.out⟩
    case round =>
      rename World => w50
      obtain ⟨i, hi, hkk, rfl, g0', g1', g2', g3', g4', g5', g6', y50, hb⟩ := hrel
      try clear c0_0 f0_0 c0_1 f0_1 c0_2 f0_2
      try clear c1_0 f1_0 c1_1 f1_1 c1_2 f1_2 c1_3 f1_3 c1_4 f1_4 c1_5 f1_5 c1_6 f1_6 c1_7 f1_7
      try clear c2_0 f2_0 c2_1 f2_1 c2_2 f2_2 c2_3 f2_3
      try clear c4_0 f4_0 c4_1 f4_1
      try clear c5_0 f5_0 c5_1 f5_1
      try clear c6_0 f6_0 c6_1 f6_1
      clear h0 h1 h2 h3 h4 h5 h6
      have h0 := g0'
      have h1 := g1'
      have h2 := g2'
      have h3 := g3'
      have h4 := g4'
      have h5 := g5'
      have h6 := g6'
      clear g0' g1' g2' g3' g4' g5' g6'
      have D50 := Lib.hid hb
      have z50 := D50.out.size
      clear hb
      try clear c0_0 f0_0 c0_1 f0_1 c0_2 f0_2
      obtain ⟨c0_0, f0_0, c0_1, f0_1, c0_2, f0_2⟩ := cells3 h0
      try clear c1_0 f1_0 c1_1 f1_1 c1_2 f1_2 c1_3 f1_3 c1_4 f1_4 c1_5 f1_5 c1_6 f1_6 c1_7 f1_7
      obtain ⟨c1_0, f1_0, c1_1, f1_1, c1_2, f1_2, c1_3, f1_3, c1_4, f1_4, c1_5, f1_5, c1_6, f1_6, c1_7, f1_7⟩ := cells8 h1
      try clear c2_0 f2_0 c2_1 f2_1 c2_2 f2_2 c2_3 f2_3
      obtain ⟨c2_0, f2_0, c2_1, f2_1, c2_2, f2_2, c2_3, f2_3⟩ := cells4 h2
      try clear c4_0 f4_0 c4_1 f4_1
      obtain ⟨c4_0, f4_0, c4_1, f4_1⟩ := cells2 h4
      try clear c5_0 f5_0 c5_1 f5_1
      obtain ⟨c5_0, f5_0, c5_1, f5_1⟩ := cells2 h5
      try clear c6_0 f6_0 c6_1 f6_1
      obtain ⟨c6_0, f6_0, c6_1, f6_1⟩ := cells2 h6
      by_cases hlt : i < n
      · obtain ⟨x, hx⟩ : ∃ x, G[i]? = some x := ⟨_, List.getElem?_eq_getElem (by rw [← HN.out]; exact hlt)⟩
        have ex : led l x = l := (HI.out.1 x).1 (List.mem_of_getElem? hx)
        have hri := HR.out i x hx
        have hxo := keep_ok Hl.out ex
        have ux := unit_keeps Hl.out ex
        unfold Unit1 at ux
        have A1 := fun W => Apply_any ⟨x, ⟨0, 0⟩⟩ P W
        have A2 := fun W => Apply_any ⟨x, ⟨0, 0⟩⟩ Q W
        have A3 := fun W => Apply_any ⟨x, ⟨0, 0⟩⟩ R W
        rw [(app_lin hxo HNp.out).1, (app_lin hxo HNp.out).2.1] at A1
        rw [(app_lin hxo HNq.out).1, (app_lin hxo HNq.out).2.1] at A2
        rw [(app_lin hxo HNrr.out).1, (app_lin hxo HNrr.out).2.1] at A3
        have A4 : ∀ W, Calls Tryd.prog 13 #[l.val, (image x P).val, (image x Q).val] W fun e w' => e = .returned (.tuple #[.int .i64 (sqv l (image x P) (image x Q)), .int .i64 (sqe l (image x P) (image x Q))]) ∧ Below W.heap.size W w' := fun W => Square_any l (image x P) (image x Q) W
        have A5 : ∀ W, Calls Tryd.prog 20 #[(image x P).val, (image x Q).val, (image x R).val] W fun e w' => e = .returned (.tuple #[.int .i64 (sdv (image x P) (image x Q) (image x R)), .int .i64 (sde (image x P) (image x Q) (image x R))]) ∧ Below W.heap.size W w' := fun W => Side_any (image x P) (image x Q) (image x R) W
        rw [(sq_kept Hl.out ex HNp.out HNq.out).1, (sq_kept Hl.out ex HNp.out HNq.out).2, ← HSQ.out] at A4
        rw [(sd_kept Hl.out ex HNp.out HNq.out HNrr.out).1, (sd_kept Hl.out ex HNp.out HNq.out HNrr.out).2, ← HSD.out] at A5
        have A6 := fun W => Invert_any ⟨x, ⟨0, 0⟩⟩ W
        rw [(inv_lin Hl.out ex).1, (inv_lin Hl.out ex).2] at A6
        have A7 := fun W => rMatrix_any x W
        rw [(okM_iff x).2 hxo] at A7
        have A8 := fun W hW => HIN.out x.inv ((HI.out.1 _).2 (inv_in Hl.out ex)) W hW
        have ed : wrap64 (wrap64 (x.a * x.d) - wrap64 (x.b * x.c)) = x.det := by
          have := det_mok hxo
          rw [wrap64_sl, wrap64_sr]; exact this
        have es : wrap64 (x.det * sd) = x.det * sd := wrap64_id (by have := HhSr.out; rw [← HSD.out] at this; rcases ux with h | h <;> rw [h] <;> omega)
        generalize image x P = PA at *
        generalize image x Q = QA at *
        generalize image x R = RA at *
        generalize x.inv = xi at *
        generalize x.det = dt at *
        unfold Mov.val at A1 A2 A3 A6
        unfold Pt.val at A1 A2 A3 A4 A5
        unfold Lat.val at A4
        unfold Mat.val at A7 A8
        have i0 : (0 : Int) ≤ (i : Int) := by omega
        have i1 : (i : Int) < (n : Int) := by omega
        have HEX := Lib.hid ex
        have HXO := Lib.hid hxo
        have HA1 := Lib.hid A1
        have HA2 := Lib.hid A2
        have HA3 := Lib.hid A3
        have HA4 := Lib.hid A4
        have HA5 := Lib.hid A5
        have HA6 := Lib.hid A6
        have HA7 := Lib.hid A7
        have HA8 := Lib.hid A8
        clear A1 A2 A3 A4 A5 A6 A7 A8 ux ex hxo hx
        have r0 : w50.cell? ⟨b, off + i * 4, none⟩ = some (.int .i64 x.a) := (range_obj HB.out h3 hri) 0 _ rfl
        have r1 : w50.cell? ⟨b, off + i * 4 + 1, none⟩ = some (.int .i64 x.b) := (range_obj HB.out h3 hri) 1 _ rfl
        have r2 : w50.cell? ⟨b, off + i * 4 + 2, none⟩ = some (.int .i64 x.c) := (range_obj HB.out h3 hri) 2 _ rfl
        have r3 : w50.cell? ⟨b, off + i * 4 + 3, none⟩ = some (.int .i64 x.d) := (range_obj HB.out h3 hri) 3 _ rfl
        go_wp2_with fail
        refine (HA7.out _).mono ?_
        rintro e w51 ⟨rfl, hb⟩
        replace h0 : w51.heap[w.heap.size]? = some (.cells #[.int .i64 l.a, .int .i64 l.b, .int .i64 l.c] 23 (0, 0)) := hb_below hb (by repeat (first | exact h0 | (refine hb_new ?_; (first | omega | (simp; omega) | (simp; done))) | (refine hb_old ?_ ?_; rotate_left; focus (first | omega | (simp; omega) | (simp; done))) | refine hb_drew ?_)) (by first | omega | (simp; omega) | (simp; done))
        replace h1 : w51.heap[w.heap.size + 1]? = some (.cells #[.int .i64 f.o.x, .int .i64 f.o.y, .int .i64 f.p.x, .int .i64 f.p.y, .int .i64 f.q.x, .int .i64 f.q.y, .int .i64 f.r.x, .int .i64 f.r.y] 27 (0, 0)) := hb_below hb (by repeat (first | exact h1 | (refine hb_new ?_; (first | omega | (simp; omega) | (simp; done))) | (refine hb_old ?_ ?_; rotate_left; focus (first | omega | (simp; omega) | (simp; done))) | refine hb_drew ?_)) (by first | omega | (simp; omega) | (simp; done))
        replace h2 : w51.heap[w.heap.size + 1 + 1]? = some (.cells #[.int .i64 m.a, .int .i64 m.b, .int .i64 m.c, .int .i64 m.d] 40 (0, 0)) := hb_below hb (by repeat (first | exact h2 | (refine hb_new ?_; (first | omega | (simp; omega) | (simp; done))) | (refine hb_old ?_ ?_; rotate_left; focus (first | omega | (simp; omega) | (simp; done))) | refine hb_drew ?_)) (by first | omega | (simp; omega) | (simp; done))
        replace h3 : w51.heap[b]? = some og := hb_below hb (by repeat (first | exact h3 | (refine hb_new ?_; (first | omega | (simp; omega) | (simp; done))) | (refine hb_old ?_ ?_; rotate_left; focus (first | omega | (simp; omega) | (simp; done))) | refine hb_drew ?_)) (by first | omega | (simp; omega) | (simp; done))
        replace h4 : w51.heap[b4]? = some (.cells #[.int .i64 P.x, .int .i64 P.y] 25 (0, 0)) := hb_below hb (by repeat (first | exact h4 | (refine hb_new ?_; (first | omega | (simp; omega) | (simp; done))) | (refine hb_old ?_ ?_; rotate_left; focus (first | omega | (simp; omega) | (simp; done))) | refine hb_drew ?_)) (by first | omega | (simp; omega) | (simp; done))
        replace h5 : w51.heap[b5]? = some (.cells #[.int .i64 Q.x, .int .i64 Q.y] 25 (0, 0)) := hb_below hb (by repeat (first | exact h5 | (refine hb_new ?_; (first | omega | (simp; omega) | (simp; done))) | (refine hb_old ?_ ?_; rotate_left; focus (first | omega | (simp; omega) | (simp; done))) | refine hb_drew ?_)) (by first | omega | (simp; omega) | (simp; done))
        replace h6 : w51.heap[b6]? = some (.cells #[.int .i64 R.x, .int .i64 R.y] 25 (0, 0)) := hb_below hb (by repeat (first | exact h6 | (refine hb_new ?_; (first | omega | (simp; omega) | (simp; done))) | (refine hb_old ?_ ?_; rotate_left; focus (first | omega | (simp; omega) | (simp; done))) | refine hb_drew ?_)) (by first | omega | (simp; omega) | (simp; done))
        have y51 := Below.size hb
        try simp only [World.size_alloc, World.size_drew] at y51
        have D51 := Lib.hid (show Below w.heap.size w w51 from Below.trans (by repeat (first | exact D50.out | exact Below.refl _ _ | refine Below.alloc ?_ (by first | omega | (simp; omega) | (simp; done)) _)) (Below.mono hb (by first | omega | (simp; omega) | (simp; done))))
        have z51 := D51.out.size
        clear hb
        try clear c0_0 f0_0 c0_1 f0_1 c0_2 f0_2
        obtain ⟨c0_0, f0_0, c0_1, f0_1, c0_2, f0_2⟩ := cells3 h0
        try clear c1_0 f1_0 c1_1 f1_1 c1_2 f1_2 c1_3 f1_3 c1_4 f1_4 c1_5 f1_5 c1_6 f1_6 c1_7 f1_7
        obtain ⟨c1_0, f1_0, c1_1, f1_1, c1_2, f1_2, c1_3, f1_3, c1_4, f1_4, c1_5, f1_5, c1_6, f1_6, c1_7, f1_7⟩ := cells8 h1
        try clear c2_0 f2_0 c2_1 f2_1 c2_2 f2_2 c2_3 f2_3
        obtain ⟨c2_0, f2_0, c2_1, f2_1, c2_2, f2_2, c2_3, f2_3⟩ := cells4 h2
        try clear c4_0 f4_0 c4_1 f4_1
        obtain ⟨c4_0, f4_0, c4_1, f4_1⟩ := cells2 h4
        try clear c5_0 f5_0 c5_1 f5_1
        obtain ⟨c5_0, f5_0, c5_1, f5_1⟩ := cells2 h5
        try clear c6_0 f6_0 c6_1 f6_1
        obtain ⟨c6_0, f6_0, c6_1, f6_1⟩ := cells2 h6
        go_wp2_with fail
        clear r0 r1 r2 r3
        try clear c0_0 f0_0 c0_1 f0_1 c0_2 f0_2
        try clear c1_0 f1_0 c1_1 f1_1 c1_2 f1_2 c1_3 f1_3 c1_4 f1_4 c1_5 f1_5 c1_6 f1_6 c1_7 f1_7
        try clear c2_0 f2_0 c2_1 f2_1 c2_2 f2_2 c2_3 f2_3
        try clear c4_0 f4_0 c4_1 f4_1
        try clear c5_0 f5_0 c5_1 f5_1
        try clear c6_0 f6_0 c6_1 f6_1
        refine wp_region_as 10 (.cells #[.int .i64 0, .int .i64 0] 25 (0, 0)) (.cells #[.int .i64 PA.x, .int .i64 PA.y] 25 (0, 0)) (by kernel_rfl) (by kernel_rfl) ?_ ?_
        · intro o ho
          simp only [List.getElem?_toArray, List.getElem?_cons_succ, List.getElem?_cons_zero, Option.some.injEq] at ho; subst ho; exact ⟨rfl, fun a w => by go_simp; try rfl⟩
        simp only [List.take_succ_cons, List.take_zero, List.drop_succ_cons, List.drop_zero]
        refine lex_still rfl _ (fun w => by go_simp; rfl) ?_
        simp only [Act.put, List.setIfInBounds_toArray, List.set_cons_zero, List.set_cons_succ]
        refine lex_still rfl _ (fun w => by go_simp; rfl) ?_
        simp only [Act.put, List.setIfInBounds_toArray, List.set_cons_zero, List.set_cons_succ]
        refine lex_still rfl (.pointer (some ⟨b, off + i * 4, none⟩)) (fun w => by go_simp) ?_
        simp only [Act.put, List.setIfInBounds_toArray, List.set_cons_zero, List.set_cons_succ]
        refine lex_load rfl _ _ rfl b (off + i * 4) rfl [.int .i64 x.a, .int .i64 x.b, .int .i64 x.c, .int .i64 x.d] _ (fun w' h => range_obj HB.out (hb_below h h3 (by first | omega | (simp; omega) | (simp; done))) (hri)) Tryd.underlying40 rfl (by kernel_rfl) ?_
        simp only [Act.put, List.setIfInBounds_toArray, List.set_cons_zero, List.set_cons_succ]
        refine lex_still rfl _ (fun w => by go_simp; rfl) ?_
        simp only [Act.put, List.setIfInBounds_toArray, List.set_cons_zero, List.set_cons_succ]
        refine lex_load rfl _ _ rfl _ _ rfl [.int .i64 P.x, .int .i64 P.y] _ (fun w' h => range_of_heap (hb_below h h4 (by first | omega | (simp; omega) | (simp; done)))) Tryd.underlying25 rfl (by kernel_rfl) ?_
        simp only [Act.put, List.setIfInBounds_toArray, List.set_cons_zero, List.set_cons_succ]
        refine lex_call rfl 29 _ _ rfl (enter_of Tryd.func29 (by decide) (by intro h; cases h)) _ (HA1.out) ?_
        simp only [Act.put, List.setIfInBounds_toArray, List.set_cons_zero, List.set_cons_succ]
        refine lex_still rfl _ (fun w => by go_simp; rfl) ?_
        simp only [Act.put, List.setIfInBounds_toArray, List.set_cons_zero, List.set_cons_succ]
        refine lex_still rfl _ (fun w => by go_simp; rfl) ?_
        simp only [Act.put, List.setIfInBounds_toArray, List.set_cons_zero, List.set_cons_succ]
        refine lex_still rfl _ (fun w => by go_simp; rfl) ?_
        simp only [Act.put, List.setIfInBounds_toArray, List.set_cons_zero, List.set_cons_succ]
        refine ⟨_, _, rfl, rfl, fun b7 => ⟨sr_row rfl _ _ _ rfl _ rfl rfl _ _ rfl (by kernel_rfl) rfl (by kernel_rfl), ?_⟩⟩
        intro w52 hb g7 l7 h7
        try simp only [List.drop_succ_cons, List.drop_zero]
        try simp only [Act.put, List.setIfInBounds_toArray, List.set_cons_zero, List.set_cons_succ]
        replace h0 : w52.heap[w.heap.size]? = some (.cells #[.int .i64 l.a, .int .i64 l.b, .int .i64 l.c] 23 (0, 0)) := hb_below hb (by repeat (first | exact h0 | (refine hb_new ?_; (first | omega | (simp; omega) | (simp; done))) | (refine hb_old ?_ ?_; rotate_left; focus (first | omega | (simp; omega) | (simp; done))) | refine hb_drew ?_)) (by first | omega | (simp; omega) | (simp; done))
        replace h1 : w52.heap[w.heap.size + 1]? = some (.cells #[.int .i64 f.o.x, .int .i64 f.o.y, .int .i64 f.p.x, .int .i64 f.p.y, .int .i64 f.q.x, .int .i64 f.q.y, .int .i64 f.r.x, .int .i64 f.r.y] 27 (0, 0)) := hb_below hb (by repeat (first | exact h1 | (refine hb_new ?_; (first | omega | (simp; omega) | (simp; done))) | (refine hb_old ?_ ?_; rotate_left; focus (first | omega | (simp; omega) | (simp; done))) | refine hb_drew ?_)) (by first | omega | (simp; omega) | (simp; done))
        replace h2 : w52.heap[w.heap.size + 1 + 1]? = some (.cells #[.int .i64 m.a, .int .i64 m.b, .int .i64 m.c, .int .i64 m.d] 40 (0, 0)) := hb_below hb (by repeat (first | exact h2 | (refine hb_new ?_; (first | omega | (simp; omega) | (simp; done))) | (refine hb_old ?_ ?_; rotate_left; focus (first | omega | (simp; omega) | (simp; done))) | refine hb_drew ?_)) (by first | omega | (simp; omega) | (simp; done))
        replace h3 : w52.heap[b]? = some og := hb_below hb (by repeat (first | exact h3 | (refine hb_new ?_; (first | omega | (simp; omega) | (simp; done))) | (refine hb_old ?_ ?_; rotate_left; focus (first | omega | (simp; omega) | (simp; done))) | refine hb_drew ?_)) (by first | omega | (simp; omega) | (simp; done))
        replace h4 : w52.heap[b4]? = some (.cells #[.int .i64 P.x, .int .i64 P.y] 25 (0, 0)) := hb_below hb (by repeat (first | exact h4 | (refine hb_new ?_; (first | omega | (simp; omega) | (simp; done))) | (refine hb_old ?_ ?_; rotate_left; focus (first | omega | (simp; omega) | (simp; done))) | refine hb_drew ?_)) (by first | omega | (simp; omega) | (simp; done))
        replace h5 : w52.heap[b5]? = some (.cells #[.int .i64 Q.x, .int .i64 Q.y] 25 (0, 0)) := hb_below hb (by repeat (first | exact h5 | (refine hb_new ?_; (first | omega | (simp; omega) | (simp; done))) | (refine hb_old ?_ ?_; rotate_left; focus (first | omega | (simp; omega) | (simp; done))) | refine hb_drew ?_)) (by first | omega | (simp; omega) | (simp; done))
        replace h6 : w52.heap[b6]? = some (.cells #[.int .i64 R.x, .int .i64 R.y] 25 (0, 0)) := hb_below hb (by repeat (first | exact h6 | (refine hb_new ?_; (first | omega | (simp; omega) | (simp; done))) | (refine hb_old ?_ ?_; rotate_left; focus (first | omega | (simp; omega) | (simp; done))) | refine hb_drew ?_)) (by first | omega | (simp; omega) | (simp; done))
        have y52 := Below.size hb
        try simp only [World.size_alloc, World.size_drew] at y52
        have D52 := Lib.hid (show Below w.heap.size w w52 from Below.trans (by repeat (first | exact D51.out | exact Below.refl _ _ | refine Below.alloc ?_ (by first | omega | (simp; omega) | (simp; done)) _)) (Below.mono hb (by first | omega | (simp; omega) | (simp; done))))
        have z52 := D52.out.size
        clear hb
        try clear c0_0 f0_0 c0_1 f0_1 c0_2 f0_2
        obtain ⟨c0_0, f0_0, c0_1, f0_1, c0_2, f0_2⟩ := cells3 h0
        try clear c1_0 f1_0 c1_1 f1_1 c1_2 f1_2 c1_3 f1_3 c1_4 f1_4 c1_5 f1_5 c1_6 f1_6 c1_7 f1_7
        obtain ⟨c1_0, f1_0, c1_1, f1_1, c1_2, f1_2, c1_3, f1_3, c1_4, f1_4, c1_5, f1_5, c1_6, f1_6, c1_7, f1_7⟩ := cells8 h1
        try clear c2_0 f2_0 c2_1 f2_1 c2_2 f2_2 c2_3 f2_3
        obtain ⟨c2_0, f2_0, c2_1, f2_1, c2_2, f2_2, c2_3, f2_3⟩ := cells4 h2
        try clear c4_0 f4_0 c4_1 f4_1
        obtain ⟨c4_0, f4_0, c4_1, f4_1⟩ := cells2 h4
        try clear c5_0 f5_0 c5_1 f5_1
        obtain ⟨c5_0, f5_0, c5_1, f5_1⟩ := cells2 h5
        try clear c6_0 f6_0 c6_1 f6_1
        obtain ⟨c6_0, f6_0, c6_1, f6_1⟩ := cells2 h6
        try clear c7_0 f7_0 c7_1 f7_1
        obtain ⟨c7_0, f7_0, c7_1, f7_1⟩ := cells2 h7
        go_wp2_with fail
        try clear c0_0 f0_0 c0_1 f0_1 c0_2 f0_2
        try clear c1_0 f1_0 c1_1 f1_1 c1_2 f1_2 c1_3 f1_3 c1_4 f1_4 c1_5 f1_5 c1_6 f1_6 c1_7 f1_7
        try clear c2_0 f2_0 c2_1 f2_1 c2_2 f2_2 c2_3 f2_3
        try clear c4_0 f4_0 c4_1 f4_1
        try clear c5_0 f5_0 c5_1 f5_1
        try clear c6_0 f6_0 c6_1 f6_1
        try clear c7_0 f7_0 c7_1 f7_1
        refine wp_region_as 10 (.cells #[.int .i64 0, .int .i64 0] 25 (0, 0)) (.cells #[.int .i64 QA.x, .int .i64 QA.y] 25 (0, 0)) (by kernel_rfl) (by kernel_rfl) ?_ ?_
        · intro o ho
          simp only [List.getElem?_toArray, List.getElem?_cons_succ, List.getElem?_cons_zero, Option.some.injEq] at ho; subst ho; exact ⟨rfl, fun a w => by go_simp; try rfl⟩
        simp only [List.take_succ_cons, List.take_zero, List.drop_succ_cons, List.drop_zero]
        refine lex_still rfl _ (fun w => by go_simp; rfl) ?_
        simp only [Act.put, List.setIfInBounds_toArray, List.set_cons_zero, List.set_cons_succ]
        refine lex_still rfl _ (fun w => by go_simp; rfl) ?_
        simp only [Act.put, List.setIfInBounds_toArray, List.set_cons_zero, List.set_cons_succ]
        refine lex_still rfl (.pointer (some ⟨b, off + i * 4, none⟩)) (fun w => by go_simp) ?_
        simp only [Act.put, List.setIfInBounds_toArray, List.set_cons_zero, List.set_cons_succ]
        refine lex_load rfl _ _ rfl b (off + i * 4) rfl [.int .i64 x.a, .int .i64 x.b, .int .i64 x.c, .int .i64 x.d] _ (fun w' h => range_obj HB.out (hb_below h h3 (by first | omega | (simp; omega) | (simp; done))) (hri)) Tryd.underlying40 rfl (by kernel_rfl) ?_
        simp only [Act.put, List.setIfInBounds_toArray, List.set_cons_zero, List.set_cons_succ]
        refine lex_still rfl _ (fun w => by go_simp; rfl) ?_
        simp only [Act.put, List.setIfInBounds_toArray, List.set_cons_zero, List.set_cons_succ]
        refine lex_load rfl _ _ rfl _ _ rfl [.int .i64 Q.x, .int .i64 Q.y] _ (fun w' h => range_of_heap (hb_below h h5 (by first | omega | (simp; omega) | (simp; done)))) Tryd.underlying25 rfl (by kernel_rfl) ?_
        simp only [Act.put, List.setIfInBounds_toArray, List.set_cons_zero, List.set_cons_succ]
        refine lex_call rfl 29 _ _ rfl (enter_of Tryd.func29 (by decide) (by intro h; cases h)) _ (HA2.out) ?_
        simp only [Act.put, List.setIfInBounds_toArray, List.set_cons_zero, List.set_cons_succ]
        refine lex_still rfl _ (fun w => by go_simp; rfl) ?_
        simp only [Act.put, List.setIfInBounds_toArray, List.set_cons_zero, List.set_cons_succ]
        refine lex_still rfl _ (fun w => by go_simp; rfl) ?_
        simp only [Act.put, List.setIfInBounds_toArray, List.set_cons_zero, List.set_cons_succ]
        refine lex_still rfl _ (fun w => by go_simp; rfl) ?_
        simp only [Act.put, List.setIfInBounds_toArray, List.set_cons_zero, List.set_cons_succ]
        refine ⟨_, _, rfl, rfl, fun b8 => ⟨sr_row rfl _ _ _ rfl _ rfl rfl _ _ rfl (by kernel_rfl) rfl (by kernel_rfl), ?_⟩⟩
        intro w53 hb g8 l8 h8
        try simp only [List.drop_succ_cons, List.drop_zero]
        try simp only [Act.put, List.setIfInBounds_toArray, List.set_cons_zero, List.set_cons_succ]
        replace h0 : w53.heap[w.heap.size]? = some (.cells #[.int .i64 l.a, .int .i64 l.b, .int .i64 l.c] 23 (0, 0)) := hb_below hb (by repeat (first | exact h0 | (refine hb_new ?_; (first | omega | (simp; omega) | (simp; done))) | (refine hb_old ?_ ?_; rotate_left; focus (first | omega | (simp; omega) | (simp; done))) | refine hb_drew ?_)) (by first | omega | (simp; omega) | (simp; done))
        replace h1 : w53.heap[w.heap.size + 1]? = some (.cells #[.int .i64 f.o.x, .int .i64 f.o.y, .int .i64 f.p.x, .int .i64 f.p.y, .int .i64 f.q.x, .int .i64 f.q.y, .int .i64 f.r.x, .int .i64 f.r.y] 27 (0, 0)) := hb_below hb (by repeat (first | exact h1 | (refine hb_new ?_; (first | omega | (simp; omega) | (simp; done))) | (refine hb_old ?_ ?_; rotate_left; focus (first | omega | (simp; omega) | (simp; done))) | refine hb_drew ?_)) (by first | omega | (simp; omega) | (simp; done))
        replace h2 : w53.heap[w.heap.size + 1 + 1]? = some (.cells #[.int .i64 m.a, .int .i64 m.b, .int .i64 m.c, .int .i64 m.d] 40 (0, 0)) := hb_below hb (by repeat (first | exact h2 | (refine hb_new ?_; (first | omega | (simp; omega) | (simp; done))) | (refine hb_old ?_ ?_; rotate_left; focus (first | omega | (simp; omega) | (simp; done))) | refine hb_drew ?_)) (by first | omega | (simp; omega) | (simp; done))
        replace h3 : w53.heap[b]? = some og := hb_below hb (by repeat (first | exact h3 | (refine hb_new ?_; (first | omega | (simp; omega) | (simp; done))) | (refine hb_old ?_ ?_; rotate_left; focus (first | omega | (simp; omega) | (simp; done))) | refine hb_drew ?_)) (by first | omega | (simp; omega) | (simp; done))
        replace h4 : w53.heap[b4]? = some (.cells #[.int .i64 P.x, .int .i64 P.y] 25 (0, 0)) := hb_below hb (by repeat (first | exact h4 | (refine hb_new ?_; (first | omega | (simp; omega) | (simp; done))) | (refine hb_old ?_ ?_; rotate_left; focus (first | omega | (simp; omega) | (simp; done))) | refine hb_drew ?_)) (by first | omega | (simp; omega) | (simp; done))
        replace h5 : w53.heap[b5]? = some (.cells #[.int .i64 Q.x, .int .i64 Q.y] 25 (0, 0)) := hb_below hb (by repeat (first | exact h5 | (refine hb_new ?_; (first | omega | (simp; omega) | (simp; done))) | (refine hb_old ?_ ?_; rotate_left; focus (first | omega | (simp; omega) | (simp; done))) | refine hb_drew ?_)) (by first | omega | (simp; omega) | (simp; done))
        replace h6 : w53.heap[b6]? = some (.cells #[.int .i64 R.x, .int .i64 R.y] 25 (0, 0)) := hb_below hb (by repeat (first | exact h6 | (refine hb_new ?_; (first | omega | (simp; omega) | (simp; done))) | (refine hb_old ?_ ?_; rotate_left; focus (first | omega | (simp; omega) | (simp; done))) | refine hb_drew ?_)) (by first | omega | (simp; omega) | (simp; done))
        replace h7 : w53.heap[b7]? = some (.cells #[.int .i64 PA.x, .int .i64 PA.y] 25 (0, 0)) := hb_below hb (by repeat (first | exact h7 | (refine hb_new ?_; (first | omega | (simp; omega) | (simp; done))) | (refine hb_old ?_ ?_; rotate_left; focus (first | omega | (simp; omega) | (simp; done))) | refine hb_drew ?_)) (by first | omega | (simp; omega) | (simp; done))
        have y53 := Below.size hb
        try simp only [World.size_alloc, World.size_drew] at y53
        have D53 := Lib.hid (show Below w.heap.size w w53 from Below.trans (by repeat (first | exact D52.out | exact Below.refl _ _ | refine Below.alloc ?_ (by first | omega | (simp; omega) | (simp; done)) _)) (Below.mono hb (by first | omega | (simp; omega) | (simp; done))))
        have z53 := D53.out.size
        clear hb
        try clear c0_0 f0_0 c0_1 f0_1 c0_2 f0_2
        obtain ⟨c0_0, f0_0, c0_1, f0_1, c0_2, f0_2⟩ := cells3 h0
        try clear c1_0 f1_0 c1_1 f1_1 c1_2 f1_2 c1_3 f1_3 c1_4 f1_4 c1_5 f1_5 c1_6 f1_6 c1_7 f1_7
        obtain ⟨c1_0, f1_0, c1_1, f1_1, c1_2, f1_2, c1_3, f1_3, c1_4, f1_4, c1_5, f1_5, c1_6, f1_6, c1_7, f1_7⟩ := cells8 h1
        try clear c2_0 f2_0 c2_1 f2_1 c2_2 f2_2 c2_3 f2_3
        obtain ⟨c2_0, f2_0, c2_1, f2_1, c2_2, f2_2, c2_3, f2_3⟩ := cells4 h2
        try clear c4_0 f4_0 c4_1 f4_1
        obtain ⟨c4_0, f4_0, c4_1, f4_1⟩ := cells2 h4
        try clear c5_0 f5_0 c5_1 f5_1
        obtain ⟨c5_0, f5_0, c5_1, f5_1⟩ := cells2 h5
        try clear c6_0 f6_0 c6_1 f6_1
        obtain ⟨c6_0, f6_0, c6_1, f6_1⟩ := cells2 h6
        try clear c7_0 f7_0 c7_1 f7_1
        obtain ⟨c7_0, f7_0, c7_1, f7_1⟩ := cells2 h7
        try clear c8_0 f8_0 c8_1 f8_1
        obtain ⟨c8_0, f8_0, c8_1, f8_1⟩ := cells2 h8
        go_wp2_with fail
        try clear c0_0 f0_0 c0_1 f0_1 c0_2 f0_2
        try clear c1_0 f1_0 c1_1 f1_1 c1_2 f1_2 c1_3 f1_3 c1_4 f1_4 c1_5 f1_5 c1_6 f1_6 c1_7 f1_7
        try clear c2_0 f2_0 c2_1 f2_1 c2_2 f2_2 c2_3 f2_3
        try clear c4_0 f4_0 c4_1 f4_1
        try clear c5_0 f5_0 c5_1 f5_1
        try clear c6_0 f6_0 c6_1 f6_1
        try clear c7_0 f7_0 c7_1 f7_1
        try clear c8_0 f8_0 c8_1 f8_1
        refine wp_region_as 10 (.cells #[.int .i64 0, .int .i64 0] 25 (0, 0)) (.cells #[.int .i64 RA.x, .int .i64 RA.y] 25 (0, 0)) (by kernel_rfl) (by kernel_rfl) ?_ ?_
        · intro o ho
          simp only [List.getElem?_toArray, List.getElem?_cons_succ, List.getElem?_cons_zero, Option.some.injEq] at ho; subst ho; exact ⟨rfl, fun a w => by go_simp; try rfl⟩
        simp only [List.take_succ_cons, List.take_zero, List.drop_succ_cons, List.drop_zero]
        refine lex_still rfl _ (fun w => by go_simp; rfl) ?_
        simp only [Act.put, List.setIfInBounds_toArray, List.set_cons_zero, List.set_cons_succ]
        refine lex_still rfl _ (fun w => by go_simp; rfl) ?_
        simp only [Act.put, List.setIfInBounds_toArray, List.set_cons_zero, List.set_cons_succ]
        refine lex_still rfl (.pointer (some ⟨b, off + i * 4, none⟩)) (fun w => by go_simp) ?_
        simp only [Act.put, List.setIfInBounds_toArray, List.set_cons_zero, List.set_cons_succ]
        refine lex_load rfl _ _ rfl b (off + i * 4) rfl [.int .i64 x.a, .int .i64 x.b, .int .i64 x.c, .int .i64 x.d] _ (fun w' h => range_obj HB.out (hb_below h h3 (by first | omega | (simp; omega) | (simp; done))) (hri)) Tryd.underlying40 rfl (by kernel_rfl) ?_
        simp only [Act.put, List.setIfInBounds_toArray, List.set_cons_zero, List.set_cons_succ]
        refine lex_still rfl _ (fun w => by go_simp; rfl) ?_
        simp only [Act.put, List.setIfInBounds_toArray, List.set_cons_zero, List.set_cons_succ]
        refine lex_load rfl _ _ rfl _ _ rfl [.int .i64 R.x, .int .i64 R.y] _ (fun w' h => range_of_heap (hb_below h h6 (by first | omega | (simp; omega) | (simp; done)))) Tryd.underlying25 rfl (by kernel_rfl) ?_
        simp only [Act.put, List.setIfInBounds_toArray, List.set_cons_zero, List.set_cons_succ]
        refine lex_call rfl 29 _ _ rfl (enter_of Tryd.func29 (by decide) (by intro h; cases h)) _ (HA3.out) ?_
        simp only [Act.put, List.setIfInBounds_toArray, List.set_cons_zero, List.set_cons_succ]
        refine lex_still rfl _ (fun w => by go_simp; rfl) ?_
        simp only [Act.put, List.setIfInBounds_toArray, List.set_cons_zero, List.set_cons_succ]
        refine lex_still rfl _ (fun w => by go_simp; rfl) ?_
        simp only [Act.put, List.setIfInBounds_toArray, List.set_cons_zero, List.set_cons_succ]
        refine lex_still rfl _ (fun w => by go_simp; rfl) ?_
        simp only [Act.put, List.setIfInBounds_toArray, List.set_cons_zero, List.set_cons_succ]
        refine ⟨_, _, rfl, rfl, fun b9 => ⟨sr_row rfl _ _ _ rfl _ rfl rfl _ _ rfl (by kernel_rfl) rfl (by kernel_rfl), ?_⟩⟩
        intro w54 hb g9 l9 h9
        try simp only [List.drop_succ_cons, List.drop_zero]
        try simp only [Act.put, List.setIfInBounds_toArray, List.set_cons_zero, List.set_cons_succ]
        replace h0 : w54.heap[w.heap.size]? = some (.cells #[.int .i64 l.a, .int .i64 l.b, .int .i64 l.c] 23 (0, 0)) := hb_below hb (by repeat (first | exact h0 | (refine hb_new ?_; (first | omega | (simp; omega) | (simp; done))) | (refine hb_old ?_ ?_; rotate_left; focus (first | omega | (simp; omega) | (simp; done))) | refine hb_drew ?_)) (by first | omega | (simp; omega) | (simp; done))
        replace h1 : w54.heap[w.heap.size + 1]? = some (.cells #[.int .i64 f.o.x, .int .i64 f.o.y, .int .i64 f.p.x, .int .i64 f.p.y, .int .i64 f.q.x, .int .i64 f.q.y, .int .i64 f.r.x, .int .i64 f.r.y] 27 (0, 0)) := hb_below hb (by repeat (first | exact h1 | (refine hb_new ?_; (first | omega | (simp; omega) | (simp; done))) | (refine hb_old ?_ ?_; rotate_left; focus (first | omega | (simp; omega) | (simp; done))) | refine hb_drew ?_)) (by first | omega | (simp; omega) | (simp; done))
        replace h2 : w54.heap[w.heap.size + 1 + 1]? = some (.cells #[.int .i64 m.a, .int .i64 m.b, .int .i64 m.c, .int .i64 m.d] 40 (0, 0)) := hb_below hb (by repeat (first | exact h2 | (refine hb_new ?_; (first | omega | (simp; omega) | (simp; done))) | (refine hb_old ?_ ?_; rotate_left; focus (first | omega | (simp; omega) | (simp; done))) | refine hb_drew ?_)) (by first | omega | (simp; omega) | (simp; done))
        replace h3 : w54.heap[b]? = some og := hb_below hb (by repeat (first | exact h3 | (refine hb_new ?_; (first | omega | (simp; omega) | (simp; done))) | (refine hb_old ?_ ?_; rotate_left; focus (first | omega | (simp; omega) | (simp; done))) | refine hb_drew ?_)) (by first | omega | (simp; omega) | (simp; done))
        replace h4 : w54.heap[b4]? = some (.cells #[.int .i64 P.x, .int .i64 P.y] 25 (0, 0)) := hb_below hb (by repeat (first | exact h4 | (refine hb_new ?_; (first | omega | (simp; omega) | (simp; done))) | (refine hb_old ?_ ?_; rotate_left; focus (first | omega | (simp; omega) | (simp; done))) | refine hb_drew ?_)) (by first | omega | (simp; omega) | (simp; done))
        replace h5 : w54.heap[b5]? = some (.cells #[.int .i64 Q.x, .int .i64 Q.y] 25 (0, 0)) := hb_below hb (by repeat (first | exact h5 | (refine hb_new ?_; (first | omega | (simp; omega) | (simp; done))) | (refine hb_old ?_ ?_; rotate_left; focus (first | omega | (simp; omega) | (simp; done))) | refine hb_drew ?_)) (by first | omega | (simp; omega) | (simp; done))
        replace h6 : w54.heap[b6]? = some (.cells #[.int .i64 R.x, .int .i64 R.y] 25 (0, 0)) := hb_below hb (by repeat (first | exact h6 | (refine hb_new ?_; (first | omega | (simp; omega) | (simp; done))) | (refine hb_old ?_ ?_; rotate_left; focus (first | omega | (simp; omega) | (simp; done))) | refine hb_drew ?_)) (by first | omega | (simp; omega) | (simp; done))
        replace h7 : w54.heap[b7]? = some (.cells #[.int .i64 PA.x, .int .i64 PA.y] 25 (0, 0)) := hb_below hb (by repeat (first | exact h7 | (refine hb_new ?_; (first | omega | (simp; omega) | (simp; done))) | (refine hb_old ?_ ?_; rotate_left; focus (first | omega | (simp; omega) | (simp; done))) | refine hb_drew ?_)) (by first | omega | (simp; omega) | (simp; done))
        replace h8 : w54.heap[b8]? = some (.cells #[.int .i64 QA.x, .int .i64 QA.y] 25 (0, 0)) := hb_below hb (by repeat (first | exact h8 | (refine hb_new ?_; (first | omega | (simp; omega) | (simp; done))) | (refine hb_old ?_ ?_; rotate_left; focus (first | omega | (simp; omega) | (simp; done))) | refine hb_drew ?_)) (by first | omega | (simp; omega) | (simp; done))
        have y54 := Below.size hb
        try simp only [World.size_alloc, World.size_drew] at y54
        have D54 := Lib.hid (show Below w.heap.size w w54 from Below.trans (by repeat (first | exact D53.out | exact Below.refl _ _ | refine Below.alloc ?_ (by first | omega | (simp; omega) | (simp; done)) _)) (Below.mono hb (by first | omega | (simp; omega) | (simp; done))))
        have z54 := D54.out.size
        clear hb
        try clear c0_0 f0_0 c0_1 f0_1 c0_2 f0_2
        obtain ⟨c0_0, f0_0, c0_1, f0_1, c0_2, f0_2⟩ := cells3 h0
        try clear c1_0 f1_0 c1_1 f1_1 c1_2 f1_2 c1_3 f1_3 c1_4 f1_4 c1_5 f1_5 c1_6 f1_6 c1_7 f1_7
        obtain ⟨c1_0, f1_0, c1_1, f1_1, c1_2, f1_2, c1_3, f1_3, c1_4, f1_4, c1_5, f1_5, c1_6, f1_6, c1_7, f1_7⟩ := cells8 h1
        try clear c2_0 f2_0 c2_1 f2_1 c2_2 f2_2 c2_3 f2_3
        obtain ⟨c2_0, f2_0, c2_1, f2_1, c2_2, f2_2, c2_3, f2_3⟩ := cells4 h2
        try clear c4_0 f4_0 c4_1 f4_1
        obtain ⟨c4_0, f4_0, c4_1, f4_1⟩ := cells2 h4
        try clear c5_0 f5_0 c5_1 f5_1
        obtain ⟨c5_0, f5_0, c5_1, f5_1⟩ := cells2 h5
        try clear c6_0 f6_0 c6_1 f6_1
        obtain ⟨c6_0, f6_0, c6_1, f6_1⟩ := cells2 h6
        try clear c7_0 f7_0 c7_1 f7_1
        obtain ⟨c7_0, f7_0, c7_1, f7_1⟩ := cells2 h7
        try clear c8_0 f8_0 c8_1 f8_1
        obtain ⟨c8_0, f8_0, c8_1, f8_1⟩ := cells2 h8
        try clear c9_0 f9_0 c9_1 f9_1
        obtain ⟨c9_0, f9_0, c9_1, f9_1⟩ := cells2 h9
        go_wp2_with fail
        try clear c0_0 f0_0 c0_1 f0_1 c0_2 f0_2
        try clear c1_0 f1_0 c1_1 f1_1 c1_2 f1_2 c1_3 f1_3 c1_4 f1_4 c1_5 f1_5 c1_6 f1_6 c1_7 f1_7
        try clear c2_0 f2_0 c2_1 f2_1 c2_2 f2_2 c2_3 f2_3
        try clear c4_0 f4_0 c4_1 f4_1
        try clear c5_0 f5_0 c5_1 f5_1
        try clear c6_0 f6_0 c6_1 f6_1
        try clear c7_0 f7_0 c7_1 f7_1
        try clear c8_0 f8_0 c8_1 f8_1
        try clear c9_0 f9_0 c9_1 f9_1
        refine wp_region_class (fun w' => Below w54.heap.size w54 w') 23 (by kernel_rfl) (by kernel_rfl) (Below.refl _ w54).drew ?_
        simp only [List.take_succ_cons, List.take_zero, List.drop_succ_cons, List.drop_zero]
        refine quiet_moveV rfl _ rfl _ rfl ?_
        simp only [Act.put, List.setIfInBounds_toArray, List.set_cons_zero, List.set_cons_succ]
        refine quiet_moveV rfl _ rfl _ rfl ?_
        simp only [Act.put, List.setIfInBounds_toArray, List.set_cons_zero, List.set_cons_succ]
        refine quiet_still rfl (.pointer (some ⟨b, off + i * 4, none⟩)) (fun w _ => by go_simp) ?_
        simp only [Act.put, List.setIfInBounds_toArray, List.set_cons_zero, List.set_cons_succ]
        refine quiet_still rfl (.pointer (some ⟨b, off + i * 4, none⟩)) (fun w _ => by go_simp) ?_
        simp only [Act.put, List.setIfInBounds_toArray, List.set_cons_zero, List.set_cons_succ]
        refine quiet_load1 rfl _ _ rfl ⟨b, off + i * 4, none⟩ rfl (.int .i64 x.a) (load_i64 _ _) (fun w' h => (range_obj HB.out (hb_below h h3 (by first | omega | (simp; omega) | (simp; done))) (hri)) 0 _ rfl) ?_
        simp only [Act.put, List.setIfInBounds_toArray, List.set_cons_zero, List.set_cons_succ]
        refine quiet_moveV rfl _ rfl _ rfl ?_
        simp only [Act.put, List.setIfInBounds_toArray, List.set_cons_zero, List.set_cons_succ]
        refine quiet_moveV rfl _ rfl _ rfl ?_
        simp only [Act.put, List.setIfInBounds_toArray, List.set_cons_zero, List.set_cons_succ]
        refine quiet_still rfl (.pointer (some ⟨b, off + i * 4, none⟩)) (fun w _ => by go_simp) ?_
        simp only [Act.put, List.setIfInBounds_toArray, List.set_cons_zero, List.set_cons_succ]
        refine quiet_still rfl (.pointer (some ⟨b, off + i * 4 + 3, none⟩)) (fun w _ => by go_simp) ?_
        simp only [Act.put, List.setIfInBounds_toArray, List.set_cons_zero, List.set_cons_succ]
        refine quiet_load1 rfl _ _ rfl ⟨b, off + i * 4 + 3, none⟩ rfl (.int .i64 x.d) (load_i64 _ _) (fun w' h => (range_obj HB.out (hb_below h h3 (by first | omega | (simp; omega) | (simp; done))) (hri)) 3 _ rfl) ?_
        simp only [Act.put, List.setIfInBounds_toArray, List.set_cons_zero, List.set_cons_succ]
        refine quiet_still rfl _ (fun w _ => by go_simp; rfl) ?_
        simp only [Act.put, List.setIfInBounds_toArray, List.set_cons_zero, List.set_cons_succ]
        refine quiet_moveV rfl _ rfl _ rfl ?_
        simp only [Act.put, List.setIfInBounds_toArray, List.set_cons_zero, List.set_cons_succ]
        refine quiet_moveV rfl _ rfl _ rfl ?_
        simp only [Act.put, List.setIfInBounds_toArray, List.set_cons_zero, List.set_cons_succ]
        refine quiet_still rfl (.pointer (some ⟨b, off + i * 4, none⟩)) (fun w _ => by go_simp) ?_
        simp only [Act.put, List.setIfInBounds_toArray, List.set_cons_zero, List.set_cons_succ]
        refine quiet_still rfl (.pointer (some ⟨b, off + i * 4 + 1, none⟩)) (fun w _ => by go_simp) ?_
        simp only [Act.put, List.setIfInBounds_toArray, List.set_cons_zero, List.set_cons_succ]
        refine quiet_load1 rfl _ _ rfl ⟨b, off + i * 4 + 1, none⟩ rfl (.int .i64 x.b) (load_i64 _ _) (fun w' h => (range_obj HB.out (hb_below h h3 (by first | omega | (simp; omega) | (simp; done))) (hri)) 1 _ rfl) ?_
        simp only [Act.put, List.setIfInBounds_toArray, List.set_cons_zero, List.set_cons_succ]
        refine quiet_moveV rfl _ rfl _ rfl ?_
        simp only [Act.put, List.setIfInBounds_toArray, List.set_cons_zero, List.set_cons_succ]
        refine quiet_moveV rfl _ rfl _ rfl ?_
        simp only [Act.put, List.setIfInBounds_toArray, List.set_cons_zero, List.set_cons_succ]
        refine quiet_still rfl (.pointer (some ⟨b, off + i * 4, none⟩)) (fun w _ => by go_simp) ?_
        simp only [Act.put, List.setIfInBounds_toArray, List.set_cons_zero, List.set_cons_succ]
        refine quiet_still rfl (.pointer (some ⟨b, off + i * 4 + 2, none⟩)) (fun w _ => by go_simp) ?_
        simp only [Act.put, List.setIfInBounds_toArray, List.set_cons_zero, List.set_cons_succ]
        refine quiet_load1 rfl _ _ rfl ⟨b, off + i * 4 + 2, none⟩ rfl (.int .i64 x.c) (load_i64 _ _) (fun w' h => (range_obj HB.out (hb_below h h3 (by first | omega | (simp; omega) | (simp; done))) (hri)) 2 _ rfl) ?_
        simp only [Act.put, List.setIfInBounds_toArray, List.set_cons_zero, List.set_cons_succ]
        refine quiet_still rfl _ (fun w _ => by go_simp; rfl) ?_
        simp only [Act.put, List.setIfInBounds_toArray, List.set_cons_zero, List.set_cons_succ]
        refine quiet_still rfl _ (fun w _ => by go_simp; rfl) ?_
        simp only [Act.put, List.setIfInBounds_toArray, List.set_cons_zero, List.set_cons_succ]
        intro w55 hb
        replace h0 : w55.heap[w.heap.size]? = some (.cells #[.int .i64 l.a, .int .i64 l.b, .int .i64 l.c] 23 (0, 0)) := hb_below hb (by repeat (first | exact h0 | (refine hb_new ?_; (first | omega | (simp; omega) | (simp; done))) | (refine hb_old ?_ ?_; rotate_left; focus (first | omega | (simp; omega) | (simp; done))) | refine hb_drew ?_)) (by first | omega | (simp; omega) | (simp; done))
        replace h1 : w55.heap[w.heap.size + 1]? = some (.cells #[.int .i64 f.o.x, .int .i64 f.o.y, .int .i64 f.p.x, .int .i64 f.p.y, .int .i64 f.q.x, .int .i64 f.q.y, .int .i64 f.r.x, .int .i64 f.r.y] 27 (0, 0)) := hb_below hb (by repeat (first | exact h1 | (refine hb_new ?_; (first | omega | (simp; omega) | (simp; done))) | (refine hb_old ?_ ?_; rotate_left; focus (first | omega | (simp; omega) | (simp; done))) | refine hb_drew ?_)) (by first | omega | (simp; omega) | (simp; done))
        replace h2 : w55.heap[w.heap.size + 1 + 1]? = some (.cells #[.int .i64 m.a, .int .i64 m.b, .int .i64 m.c, .int .i64 m.d] 40 (0, 0)) := hb_below hb (by repeat (first | exact h2 | (refine hb_new ?_; (first | omega | (simp; omega) | (simp; done))) | (refine hb_old ?_ ?_; rotate_left; focus (first | omega | (simp; omega) | (simp; done))) | refine hb_drew ?_)) (by first | omega | (simp; omega) | (simp; done))
        replace h3 : w55.heap[b]? = some og := hb_below hb (by repeat (first | exact h3 | (refine hb_new ?_; (first | omega | (simp; omega) | (simp; done))) | (refine hb_old ?_ ?_; rotate_left; focus (first | omega | (simp; omega) | (simp; done))) | refine hb_drew ?_)) (by first | omega | (simp; omega) | (simp; done))
        replace h4 : w55.heap[b4]? = some (.cells #[.int .i64 P.x, .int .i64 P.y] 25 (0, 0)) := hb_below hb (by repeat (first | exact h4 | (refine hb_new ?_; (first | omega | (simp; omega) | (simp; done))) | (refine hb_old ?_ ?_; rotate_left; focus (first | omega | (simp; omega) | (simp; done))) | refine hb_drew ?_)) (by first | omega | (simp; omega) | (simp; done))
        replace h5 : w55.heap[b5]? = some (.cells #[.int .i64 Q.x, .int .i64 Q.y] 25 (0, 0)) := hb_below hb (by repeat (first | exact h5 | (refine hb_new ?_; (first | omega | (simp; omega) | (simp; done))) | (refine hb_old ?_ ?_; rotate_left; focus (first | omega | (simp; omega) | (simp; done))) | refine hb_drew ?_)) (by first | omega | (simp; omega) | (simp; done))
        replace h6 : w55.heap[b6]? = some (.cells #[.int .i64 R.x, .int .i64 R.y] 25 (0, 0)) := hb_below hb (by repeat (first | exact h6 | (refine hb_new ?_; (first | omega | (simp; omega) | (simp; done))) | (refine hb_old ?_ ?_; rotate_left; focus (first | omega | (simp; omega) | (simp; done))) | refine hb_drew ?_)) (by first | omega | (simp; omega) | (simp; done))
        replace h7 : w55.heap[b7]? = some (.cells #[.int .i64 PA.x, .int .i64 PA.y] 25 (0, 0)) := hb_below hb (by repeat (first | exact h7 | (refine hb_new ?_; (first | omega | (simp; omega) | (simp; done))) | (refine hb_old ?_ ?_; rotate_left; focus (first | omega | (simp; omega) | (simp; done))) | refine hb_drew ?_)) (by first | omega | (simp; omega) | (simp; done))
        replace h8 : w55.heap[b8]? = some (.cells #[.int .i64 QA.x, .int .i64 QA.y] 25 (0, 0)) := hb_below hb (by repeat (first | exact h8 | (refine hb_new ?_; (first | omega | (simp; omega) | (simp; done))) | (refine hb_old ?_ ?_; rotate_left; focus (first | omega | (simp; omega) | (simp; done))) | refine hb_drew ?_)) (by first | omega | (simp; omega) | (simp; done))
        replace h9 : w55.heap[b9]? = some (.cells #[.int .i64 RA.x, .int .i64 RA.y] 25 (0, 0)) := hb_below hb (by repeat (first | exact h9 | (refine hb_new ?_; (first | omega | (simp; omega) | (simp; done))) | (refine hb_old ?_ ?_; rotate_left; focus (first | omega | (simp; omega) | (simp; done))) | refine hb_drew ?_)) (by first | omega | (simp; omega) | (simp; done))
        have y55 := Below.size hb
        try simp only [World.size_alloc, World.size_drew] at y55
        have D55 := Lib.hid (show Below w.heap.size w w55 from Below.trans (by repeat (first | exact D54.out | exact Below.refl _ _ | refine Below.alloc ?_ (by first | omega | (simp; omega) | (simp; done)) _)) (Below.mono hb (by first | omega | (simp; omega) | (simp; done))))
        have z55 := D55.out.size
        clear hb
        try clear c0_0 f0_0 c0_1 f0_1 c0_2 f0_2
        obtain ⟨c0_0, f0_0, c0_1, f0_1, c0_2, f0_2⟩ := cells3 h0
        try clear c1_0 f1_0 c1_1 f1_1 c1_2 f1_2 c1_3 f1_3 c1_4 f1_4 c1_5 f1_5 c1_6 f1_6 c1_7 f1_7
        obtain ⟨c1_0, f1_0, c1_1, f1_1, c1_2, f1_2, c1_3, f1_3, c1_4, f1_4, c1_5, f1_5, c1_6, f1_6, c1_7, f1_7⟩ := cells8 h1
        try clear c2_0 f2_0 c2_1 f2_1 c2_2 f2_2 c2_3 f2_3
        obtain ⟨c2_0, f2_0, c2_1, f2_1, c2_2, f2_2, c2_3, f2_3⟩ := cells4 h2
        try clear c4_0 f4_0 c4_1 f4_1
        obtain ⟨c4_0, f4_0, c4_1, f4_1⟩ := cells2 h4
        try clear c5_0 f5_0 c5_1 f5_1
        obtain ⟨c5_0, f5_0, c5_1, f5_1⟩ := cells2 h5
        try clear c6_0 f6_0 c6_1 f6_1
        obtain ⟨c6_0, f6_0, c6_1, f6_1⟩ := cells2 h6
        try clear c7_0 f7_0 c7_1 f7_1
        obtain ⟨c7_0, f7_0, c7_1, f7_1⟩ := cells2 h7
        try clear c8_0 f8_0 c8_1 f8_1
        obtain ⟨c8_0, f8_0, c8_1, f8_1⟩ := cells2 h8
        try clear c9_0 f9_0 c9_1 f9_1
        obtain ⟨c9_0, f9_0, c9_1, f9_1⟩ := cells2 h9
        go_wp2_with fail
        refine (HA4.out _).mono ?_
        rintro e w56 ⟨rfl, hb⟩
        replace h0 : w56.heap[w.heap.size]? = some (.cells #[.int .i64 l.a, .int .i64 l.b, .int .i64 l.c] 23 (0, 0)) := hb_below hb (by repeat (first | exact h0 | (refine hb_new ?_; (first | omega | (simp; omega) | (simp; done))) | (refine hb_old ?_ ?_; rotate_left; focus (first | omega | (simp; omega) | (simp; done))) | refine hb_drew ?_)) (by first | omega | (simp; omega) | (simp; done))
        replace h1 : w56.heap[w.heap.size + 1]? = some (.cells #[.int .i64 f.o.x, .int .i64 f.o.y, .int .i64 f.p.x, .int .i64 f.p.y, .int .i64 f.q.x, .int .i64 f.q.y, .int .i64 f.r.x, .int .i64 f.r.y] 27 (0, 0)) := hb_below hb (by repeat (first | exact h1 | (refine hb_new ?_; (first | omega | (simp; omega) | (simp; done))) | (refine hb_old ?_ ?_; rotate_left; focus (first | omega | (simp; omega) | (simp; done))) | refine hb_drew ?_)) (by first | omega | (simp; omega) | (simp; done))
        replace h2 : w56.heap[w.heap.size + 1 + 1]? = some (.cells #[.int .i64 m.a, .int .i64 m.b, .int .i64 m.c, .int .i64 m.d] 40 (0, 0)) := hb_below hb (by repeat (first | exact h2 | (refine hb_new ?_; (first | omega | (simp; omega) | (simp; done))) | (refine hb_old ?_ ?_; rotate_left; focus (first | omega | (simp; omega) | (simp; done))) | refine hb_drew ?_)) (by first | omega | (simp; omega) | (simp; done))
        replace h3 : w56.heap[b]? = some og := hb_below hb (by repeat (first | exact h3 | (refine hb_new ?_; (first | omega | (simp; omega) | (simp; done))) | (refine hb_old ?_ ?_; rotate_left; focus (first | omega | (simp; omega) | (simp; done))) | refine hb_drew ?_)) (by first | omega | (simp; omega) | (simp; done))
        replace h4 : w56.heap[b4]? = some (.cells #[.int .i64 P.x, .int .i64 P.y] 25 (0, 0)) := hb_below hb (by repeat (first | exact h4 | (refine hb_new ?_; (first | omega | (simp; omega) | (simp; done))) | (refine hb_old ?_ ?_; rotate_left; focus (first | omega | (simp; omega) | (simp; done))) | refine hb_drew ?_)) (by first | omega | (simp; omega) | (simp; done))
        replace h5 : w56.heap[b5]? = some (.cells #[.int .i64 Q.x, .int .i64 Q.y] 25 (0, 0)) := hb_below hb (by repeat (first | exact h5 | (refine hb_new ?_; (first | omega | (simp; omega) | (simp; done))) | (refine hb_old ?_ ?_; rotate_left; focus (first | omega | (simp; omega) | (simp; done))) | refine hb_drew ?_)) (by first | omega | (simp; omega) | (simp; done))
        replace h6 : w56.heap[b6]? = some (.cells #[.int .i64 R.x, .int .i64 R.y] 25 (0, 0)) := hb_below hb (by repeat (first | exact h6 | (refine hb_new ?_; (first | omega | (simp; omega) | (simp; done))) | (refine hb_old ?_ ?_; rotate_left; focus (first | omega | (simp; omega) | (simp; done))) | refine hb_drew ?_)) (by first | omega | (simp; omega) | (simp; done))
        replace h7 : w56.heap[b7]? = some (.cells #[.int .i64 PA.x, .int .i64 PA.y] 25 (0, 0)) := hb_below hb (by repeat (first | exact h7 | (refine hb_new ?_; (first | omega | (simp; omega) | (simp; done))) | (refine hb_old ?_ ?_; rotate_left; focus (first | omega | (simp; omega) | (simp; done))) | refine hb_drew ?_)) (by first | omega | (simp; omega) | (simp; done))
        replace h8 : w56.heap[b8]? = some (.cells #[.int .i64 QA.x, .int .i64 QA.y] 25 (0, 0)) := hb_below hb (by repeat (first | exact h8 | (refine hb_new ?_; (first | omega | (simp; omega) | (simp; done))) | (refine hb_old ?_ ?_; rotate_left; focus (first | omega | (simp; omega) | (simp; done))) | refine hb_drew ?_)) (by first | omega | (simp; omega) | (simp; done))
        replace h9 : w56.heap[b9]? = some (.cells #[.int .i64 RA.x, .int .i64 RA.y] 25 (0, 0)) := hb_below hb (by repeat (first | exact h9 | (refine hb_new ?_; (first | omega | (simp; omega) | (simp; done))) | (refine hb_old ?_ ?_; rotate_left; focus (first | omega | (simp; omega) | (simp; done))) | refine hb_drew ?_)) (by first | omega | (simp; omega) | (simp; done))
        have y56 := Below.size hb
        try simp only [World.size_alloc, World.size_drew] at y56
        have D56 := Lib.hid (show Below w.heap.size w w56 from Below.trans (by repeat (first | exact D55.out | exact Below.refl _ _ | refine Below.alloc ?_ (by first | omega | (simp; omega) | (simp; done)) _)) (Below.mono hb (by first | omega | (simp; omega) | (simp; done))))
        have z56 := D56.out.size
        clear hb
        try clear c0_0 f0_0 c0_1 f0_1 c0_2 f0_2
        obtain ⟨c0_0, f0_0, c0_1, f0_1, c0_2, f0_2⟩ := cells3 h0
        try clear c1_0 f1_0 c1_1 f1_1 c1_2 f1_2 c1_3 f1_3 c1_4 f1_4 c1_5 f1_5 c1_6 f1_6 c1_7 f1_7
        obtain ⟨c1_0, f1_0, c1_1, f1_1, c1_2, f1_2, c1_3, f1_3, c1_4, f1_4, c1_5, f1_5, c1_6, f1_6, c1_7, f1_7⟩ := cells8 h1
        try clear c2_0 f2_0 c2_1 f2_1 c2_2 f2_2 c2_3 f2_3
        obtain ⟨c2_0, f2_0, c2_1, f2_1, c2_2, f2_2, c2_3, f2_3⟩ := cells4 h2
        try clear c4_0 f4_0 c4_1 f4_1
        obtain ⟨c4_0, f4_0, c4_1, f4_1⟩ := cells2 h4
        try clear c5_0 f5_0 c5_1 f5_1
        obtain ⟨c5_0, f5_0, c5_1, f5_1⟩ := cells2 h5
        try clear c6_0 f6_0 c6_1 f6_1
        obtain ⟨c6_0, f6_0, c6_1, f6_1⟩ := cells2 h6
        try clear c7_0 f7_0 c7_1 f7_1
        obtain ⟨c7_0, f7_0, c7_1, f7_1⟩ := cells2 h7
        try clear c8_0 f8_0 c8_1 f8_1
        obtain ⟨c8_0, f8_0, c8_1, f8_1⟩ := cells2 h8
        try clear c9_0 f9_0 c9_1 f9_1
        obtain ⟨c9_0, f9_0, c9_1, f9_1⟩ := cells2 h9
        go_wp2_with fail
        refine (HA5.out _).mono ?_
        rintro e w57 ⟨rfl, hb⟩
        replace h0 : w57.heap[w.heap.size]? = some (.cells #[.int .i64 l.a, .int .i64 l.b, .int .i64 l.c] 23 (0, 0)) := hb_below hb (by repeat (first | exact h0 | (refine hb_new ?_; (first | omega | (simp; omega) | (simp; done))) | (refine hb_old ?_ ?_; rotate_left; focus (first | omega | (simp; omega) | (simp; done))) | refine hb_drew ?_)) (by first | omega | (simp; omega) | (simp; done))
        replace h1 : w57.heap[w.heap.size + 1]? = some (.cells #[.int .i64 f.o.x, .int .i64 f.o.y, .int .i64 f.p.x, .int .i64 f.p.y, .int .i64 f.q.x, .int .i64 f.q.y, .int .i64 f.r.x, .int .i64 f.r.y] 27 (0, 0)) := hb_below hb (by repeat (first | exact h1 | (refine hb_new ?_; (first | omega | (simp; omega) | (simp; done))) | (refine hb_old ?_ ?_; rotate_left; focus (first | omega | (simp; omega) | (simp; done))) | refine hb_drew ?_)) (by first | omega | (simp; omega) | (simp; done))
        replace h2 : w57.heap[w.heap.size + 1 + 1]? = some (.cells #[.int .i64 m.a, .int .i64 m.b, .int .i64 m.c, .int .i64 m.d] 40 (0, 0)) := hb_below hb (by repeat (first | exact h2 | (refine hb_new ?_; (first | omega | (simp; omega) | (simp; done))) | (refine hb_old ?_ ?_; rotate_left; focus (first | omega | (simp; omega) | (simp; done))) | refine hb_drew ?_)) (by first | omega | (simp; omega) | (simp; done))
        replace h3 : w57.heap[b]? = some og := hb_below hb (by repeat (first | exact h3 | (refine hb_new ?_; (first | omega | (simp; omega) | (simp; done))) | (refine hb_old ?_ ?_; rotate_left; focus (first | omega | (simp; omega) | (simp; done))) | refine hb_drew ?_)) (by first | omega | (simp; omega) | (simp; done))
        replace h4 : w57.heap[b4]? = some (.cells #[.int .i64 P.x, .int .i64 P.y] 25 (0, 0)) := hb_below hb (by repeat (first | exact h4 | (refine hb_new ?_; (first | omega | (simp; omega) | (simp; done))) | (refine hb_old ?_ ?_; rotate_left; focus (first | omega | (simp; omega) | (simp; done))) | refine hb_drew ?_)) (by first | omega | (simp; omega) | (simp; done))
        replace h5 : w57.heap[b5]? = some (.cells #[.int .i64 Q.x, .int .i64 Q.y] 25 (0, 0)) := hb_below hb (by repeat (first | exact h5 | (refine hb_new ?_; (first | omega | (simp; omega) | (simp; done))) | (refine hb_old ?_ ?_; rotate_left; focus (first | omega | (simp; omega) | (simp; done))) | refine hb_drew ?_)) (by first | omega | (simp; omega) | (simp; done))
        replace h6 : w57.heap[b6]? = some (.cells #[.int .i64 R.x, .int .i64 R.y] 25 (0, 0)) := hb_below hb (by repeat (first | exact h6 | (refine hb_new ?_; (first | omega | (simp; omega) | (simp; done))) | (refine hb_old ?_ ?_; rotate_left; focus (first | omega | (simp; omega) | (simp; done))) | refine hb_drew ?_)) (by first | omega | (simp; omega) | (simp; done))
        replace h7 : w57.heap[b7]? = some (.cells #[.int .i64 PA.x, .int .i64 PA.y] 25 (0, 0)) := hb_below hb (by repeat (first | exact h7 | (refine hb_new ?_; (first | omega | (simp; omega) | (simp; done))) | (refine hb_old ?_ ?_; rotate_left; focus (first | omega | (simp; omega) | (simp; done))) | refine hb_drew ?_)) (by first | omega | (simp; omega) | (simp; done))
        replace h8 : w57.heap[b8]? = some (.cells #[.int .i64 QA.x, .int .i64 QA.y] 25 (0, 0)) := hb_below hb (by repeat (first | exact h8 | (refine hb_new ?_; (first | omega | (simp; omega) | (simp; done))) | (refine hb_old ?_ ?_; rotate_left; focus (first | omega | (simp; omega) | (simp; done))) | refine hb_drew ?_)) (by first | omega | (simp; omega) | (simp; done))
        replace h9 : w57.heap[b9]? = some (.cells #[.int .i64 RA.x, .int .i64 RA.y] 25 (0, 0)) := hb_below hb (by repeat (first | exact h9 | (refine hb_new ?_; (first | omega | (simp; omega) | (simp; done))) | (refine hb_old ?_ ?_; rotate_left; focus (first | omega | (simp; omega) | (simp; done))) | refine hb_drew ?_)) (by first | omega | (simp; omega) | (simp; done))
        have y57 := Below.size hb
        try simp only [World.size_alloc, World.size_drew] at y57
        have D57 := Lib.hid (show Below w.heap.size w w57 from Below.trans (by repeat (first | exact D56.out | exact Below.refl _ _ | refine Below.alloc ?_ (by first | omega | (simp; omega) | (simp; done)) _)) (Below.mono hb (by first | omega | (simp; omega) | (simp; done))))
        have z57 := D57.out.size
        clear hb
        try clear c0_0 f0_0 c0_1 f0_1 c0_2 f0_2
        obtain ⟨c0_0, f0_0, c0_1, f0_1, c0_2, f0_2⟩ := cells3 h0
        try clear c1_0 f1_0 c1_1 f1_1 c1_2 f1_2 c1_3 f1_3 c1_4 f1_4 c1_5 f1_5 c1_6 f1_6 c1_7 f1_7
        obtain ⟨c1_0, f1_0, c1_1, f1_1, c1_2, f1_2, c1_3, f1_3, c1_4, f1_4, c1_5, f1_5, c1_6, f1_6, c1_7, f1_7⟩ := cells8 h1
        try clear c2_0 f2_0 c2_1 f2_1 c2_2 f2_2 c2_3 f2_3
        obtain ⟨c2_0, f2_0, c2_1, f2_1, c2_2, f2_2, c2_3, f2_3⟩ := cells4 h2
        try clear c4_0 f4_0 c4_1 f4_1
        obtain ⟨c4_0, f4_0, c4_1, f4_1⟩ := cells2 h4
        try clear c5_0 f5_0 c5_1 f5_1
        obtain ⟨c5_0, f5_0, c5_1, f5_1⟩ := cells2 h5
        try clear c6_0 f6_0 c6_1 f6_1
        obtain ⟨c6_0, f6_0, c6_1, f6_1⟩ := cells2 h6
        try clear c7_0 f7_0 c7_1 f7_1
        obtain ⟨c7_0, f7_0, c7_1, f7_1⟩ := cells2 h7
        try clear c8_0 f8_0 c8_1 f8_1
        obtain ⟨c8_0, f8_0, c8_1, f8_1⟩ := cells2 h8
        try clear c9_0 f9_0 c9_1 f9_1
        obtain ⟨c9_0, f9_0, c9_1, f9_1⟩ := cells2 h9
        have r0 : w57.cell? ⟨b, off + i * 4, none⟩ = some (.int .i64 x.a) := (range_obj HB.out h3 hri) 0 _ rfl
        have r1 : w57.cell? ⟨b, off + i * 4 + 1, none⟩ = some (.int .i64 x.b) := (range_obj HB.out h3 hri) 1 _ rfl
        have r2 : w57.cell? ⟨b, off + i * 4 + 2, none⟩ = some (.int .i64 x.c) := (range_obj HB.out h3 hri) 2 _ rfl
        have r3 : w57.cell? ⟨b, off + i * 4 + 3, none⟩ = some (.int .i64 x.d) := (range_obj HB.out h3 hri) 3 _ rfl
        go_wp2_with fail
        refine (HA6.out _).mono ?_
        rintro e w58 ⟨rfl, hb⟩
        replace h0 : w58.heap[w.heap.size]? = some (.cells #[.int .i64 l.a, .int .i64 l.b, .int .i64 l.c] 23 (0, 0)) := hb_below hb (by repeat (first | exact h0 | (refine hb_new ?_; (first | omega | (simp; omega) | (simp; done))) | (refine hb_old ?_ ?_; rotate_left; focus (first | omega | (simp; omega) | (simp; done))) | refine hb_drew ?_)) (by first | omega | (simp; omega) | (simp; done))
        replace h1 : w58.heap[w.heap.size + 1]? = some (.cells #[.int .i64 f.o.x, .int .i64 f.o.y, .int .i64 f.p.x, .int .i64 f.p.y, .int .i64 f.q.x, .int .i64 f.q.y, .int .i64 f.r.x, .int .i64 f.r.y] 27 (0, 0)) := hb_below hb (by repeat (first | exact h1 | (refine hb_new ?_; (first | omega | (simp; omega) | (simp; done))) | (refine hb_old ?_ ?_; rotate_left; focus (first | omega | (simp; omega) | (simp; done))) | refine hb_drew ?_)) (by first | omega | (simp; omega) | (simp; done))
        replace h2 : w58.heap[w.heap.size + 1 + 1]? = some (.cells #[.int .i64 m.a, .int .i64 m.b, .int .i64 m.c, .int .i64 m.d] 40 (0, 0)) := hb_below hb (by repeat (first | exact h2 | (refine hb_new ?_; (first | omega | (simp; omega) | (simp; done))) | (refine hb_old ?_ ?_; rotate_left; focus (first | omega | (simp; omega) | (simp; done))) | refine hb_drew ?_)) (by first | omega | (simp; omega) | (simp; done))
        replace h3 : w58.heap[b]? = some og := hb_below hb (by repeat (first | exact h3 | (refine hb_new ?_; (first | omega | (simp; omega) | (simp; done))) | (refine hb_old ?_ ?_; rotate_left; focus (first | omega | (simp; omega) | (simp; done))) | refine hb_drew ?_)) (by first | omega | (simp; omega) | (simp; done))
        replace h4 : w58.heap[b4]? = some (.cells #[.int .i64 P.x, .int .i64 P.y] 25 (0, 0)) := hb_below hb (by repeat (first | exact h4 | (refine hb_new ?_; (first | omega | (simp; omega) | (simp; done))) | (refine hb_old ?_ ?_; rotate_left; focus (first | omega | (simp; omega) | (simp; done))) | refine hb_drew ?_)) (by first | omega | (simp; omega) | (simp; done))
        replace h5 : w58.heap[b5]? = some (.cells #[.int .i64 Q.x, .int .i64 Q.y] 25 (0, 0)) := hb_below hb (by repeat (first | exact h5 | (refine hb_new ?_; (first | omega | (simp; omega) | (simp; done))) | (refine hb_old ?_ ?_; rotate_left; focus (first | omega | (simp; omega) | (simp; done))) | refine hb_drew ?_)) (by first | omega | (simp; omega) | (simp; done))
        replace h6 : w58.heap[b6]? = some (.cells #[.int .i64 R.x, .int .i64 R.y] 25 (0, 0)) := hb_below hb (by repeat (first | exact h6 | (refine hb_new ?_; (first | omega | (simp; omega) | (simp; done))) | (refine hb_old ?_ ?_; rotate_left; focus (first | omega | (simp; omega) | (simp; done))) | refine hb_drew ?_)) (by first | omega | (simp; omega) | (simp; done))
        replace h7 : w58.heap[b7]? = some (.cells #[.int .i64 PA.x, .int .i64 PA.y] 25 (0, 0)) := hb_below hb (by repeat (first | exact h7 | (refine hb_new ?_; (first | omega | (simp; omega) | (simp; done))) | (refine hb_old ?_ ?_; rotate_left; focus (first | omega | (simp; omega) | (simp; done))) | refine hb_drew ?_)) (by first | omega | (simp; omega) | (simp; done))
        replace h8 : w58.heap[b8]? = some (.cells #[.int .i64 QA.x, .int .i64 QA.y] 25 (0, 0)) := hb_below hb (by repeat (first | exact h8 | (refine hb_new ?_; (first | omega | (simp; omega) | (simp; done))) | (refine hb_old ?_ ?_; rotate_left; focus (first | omega | (simp; omega) | (simp; done))) | refine hb_drew ?_)) (by first | omega | (simp; omega) | (simp; done))
        replace h9 : w58.heap[b9]? = some (.cells #[.int .i64 RA.x, .int .i64 RA.y] 25 (0, 0)) := hb_below hb (by repeat (first | exact h9 | (refine hb_new ?_; (first | omega | (simp; omega) | (simp; done))) | (refine hb_old ?_ ?_; rotate_left; focus (first | omega | (simp; omega) | (simp; done))) | refine hb_drew ?_)) (by first | omega | (simp; omega) | (simp; done))
        have y58 := Below.size hb
        try simp only [World.size_alloc, World.size_drew] at y58
        have D58 := Lib.hid (show Below w.heap.size w w58 from Below.trans (by repeat (first | exact D57.out | exact Below.refl _ _ | refine Below.alloc ?_ (by first | omega | (simp; omega) | (simp; done)) _)) (Below.mono hb (by first | omega | (simp; omega) | (simp; done))))
        have z58 := D58.out.size
        clear hb
        try clear c0_0 f0_0 c0_1 f0_1 c0_2 f0_2
        obtain ⟨c0_0, f0_0, c0_1, f0_1, c0_2, f0_2⟩ := cells3 h0
        try clear c1_0 f1_0 c1_1 f1_1 c1_2 f1_2 c1_3 f1_3 c1_4 f1_4 c1_5 f1_5 c1_6 f1_6 c1_7 f1_7
        obtain ⟨c1_0, f1_0, c1_1, f1_1, c1_2, f1_2, c1_3, f1_3, c1_4, f1_4, c1_5, f1_5, c1_6, f1_6, c1_7, f1_7⟩ := cells8 h1
        try clear c2_0 f2_0 c2_1 f2_1 c2_2 f2_2 c2_3 f2_3
        obtain ⟨c2_0, f2_0, c2_1, f2_1, c2_2, f2_2, c2_3, f2_3⟩ := cells4 h2
        try clear c4_0 f4_0 c4_1 f4_1
        obtain ⟨c4_0, f4_0, c4_1, f4_1⟩ := cells2 h4
        try clear c5_0 f5_0 c5_1 f5_1
        obtain ⟨c5_0, f5_0, c5_1, f5_1⟩ := cells2 h5
        try clear c6_0 f6_0 c6_1 f6_1
        obtain ⟨c6_0, f6_0, c6_1, f6_1⟩ := cells2 h6
        try clear c7_0 f7_0 c7_1 f7_1
        obtain ⟨c7_0, f7_0, c7_1, f7_1⟩ := cells2 h7
        try clear c8_0 f8_0 c8_1 f8_1
        obtain ⟨c8_0, f8_0, c8_1, f8_1⟩ := cells2 h8
        try clear c9_0 f9_0 c9_1 f9_1
        obtain ⟨c9_0, f9_0, c9_1, f9_1⟩ := cells2 h9
        clear r0 r1 r2 r3
        go_wp2_with fail
        obtain ⟨w59, hw59⟩ : ∃ W, W = (w58.alloc (.cells #[.int .i64 xi.a, .int .i64 xi.b, .int .i64 xi.c, .int .i64 xi.d, .int .i64 0, .int .i64 0] 49)) := ⟨_, rfl⟩
        rw [← hw59]
        replace h0 : w59.heap[w.heap.size]? = some (.cells #[.int .i64 l.a, .int .i64 l.b, .int .i64 l.c] 23 (0, 0)) := by rw [hw59]; exact (by repeat (first | exact h0 | (refine hb_new ?_; (first | omega | (simp; omega) | (simp; done))) | (refine hb_old ?_ ?_; rotate_left; focus (first | omega | (simp; omega) | (simp; done))) | refine hb_drew ?_))
        replace h1 : w59.heap[w.heap.size + 1]? = some (.cells #[.int .i64 f.o.x, .int .i64 f.o.y, .int .i64 f.p.x, .int .i64 f.p.y, .int .i64 f.q.x, .int .i64 f.q.y, .int .i64 f.r.x, .int .i64 f.r.y] 27 (0, 0)) := by rw [hw59]; exact (by repeat (first | exact h1 | (refine hb_new ?_; (first | omega | (simp; omega) | (simp; done))) | (refine hb_old ?_ ?_; rotate_left; focus (first | omega | (simp; omega) | (simp; done))) | refine hb_drew ?_))
        replace h2 : w59.heap[w.heap.size + 1 + 1]? = some (.cells #[.int .i64 m.a, .int .i64 m.b, .int .i64 m.c, .int .i64 m.d] 40 (0, 0)) := by rw [hw59]; exact (by repeat (first | exact h2 | (refine hb_new ?_; (first | omega | (simp; omega) | (simp; done))) | (refine hb_old ?_ ?_; rotate_left; focus (first | omega | (simp; omega) | (simp; done))) | refine hb_drew ?_))
        replace h3 : w59.heap[b]? = some og := by rw [hw59]; exact (by repeat (first | exact h3 | (refine hb_new ?_; (first | omega | (simp; omega) | (simp; done))) | (refine hb_old ?_ ?_; rotate_left; focus (first | omega | (simp; omega) | (simp; done))) | refine hb_drew ?_))
        replace h4 : w59.heap[b4]? = some (.cells #[.int .i64 P.x, .int .i64 P.y] 25 (0, 0)) := by rw [hw59]; exact (by repeat (first | exact h4 | (refine hb_new ?_; (first | omega | (simp; omega) | (simp; done))) | (refine hb_old ?_ ?_; rotate_left; focus (first | omega | (simp; omega) | (simp; done))) | refine hb_drew ?_))
        replace h5 : w59.heap[b5]? = some (.cells #[.int .i64 Q.x, .int .i64 Q.y] 25 (0, 0)) := by rw [hw59]; exact (by repeat (first | exact h5 | (refine hb_new ?_; (first | omega | (simp; omega) | (simp; done))) | (refine hb_old ?_ ?_; rotate_left; focus (first | omega | (simp; omega) | (simp; done))) | refine hb_drew ?_))
        replace h6 : w59.heap[b6]? = some (.cells #[.int .i64 R.x, .int .i64 R.y] 25 (0, 0)) := by rw [hw59]; exact (by repeat (first | exact h6 | (refine hb_new ?_; (first | omega | (simp; omega) | (simp; done))) | (refine hb_old ?_ ?_; rotate_left; focus (first | omega | (simp; omega) | (simp; done))) | refine hb_drew ?_))
        replace h7 : w59.heap[b7]? = some (.cells #[.int .i64 PA.x, .int .i64 PA.y] 25 (0, 0)) := by rw [hw59]; exact (by repeat (first | exact h7 | (refine hb_new ?_; (first | omega | (simp; omega) | (simp; done))) | (refine hb_old ?_ ?_; rotate_left; focus (first | omega | (simp; omega) | (simp; done))) | refine hb_drew ?_))
        replace h8 : w59.heap[b8]? = some (.cells #[.int .i64 QA.x, .int .i64 QA.y] 25 (0, 0)) := by rw [hw59]; exact (by repeat (first | exact h8 | (refine hb_new ?_; (first | omega | (simp; omega) | (simp; done))) | (refine hb_old ?_ ?_; rotate_left; focus (first | omega | (simp; omega) | (simp; done))) | refine hb_drew ?_))
        replace h9 : w59.heap[b9]? = some (.cells #[.int .i64 RA.x, .int .i64 RA.y] 25 (0, 0)) := by rw [hw59]; exact (by repeat (first | exact h9 | (refine hb_new ?_; (first | omega | (simp; omega) | (simp; done))) | (refine hb_old ?_ ?_; rotate_left; focus (first | omega | (simp; omega) | (simp; done))) | refine hb_drew ?_))
        have h10 : w59.heap[w58.heap.size]? = some (.cells #[.int .i64 xi.a, .int .i64 xi.b, .int .i64 xi.c, .int .i64 xi.d, .int .i64 0, .int .i64 0] 49 (0, 0)) := by rw [hw59]; exact (by repeat (first | (refine hb_new ?_; (first | omega | (simp; omega) | (simp; done))) | (refine hb_old ?_ ?_; rotate_left; focus (first | omega | (simp; omega) | (simp; done))) | refine hb_drew ?_))
        have hb : Below w58.heap.size w58 w59 := by rw [hw59]; exact (by repeat (first | exact Below.refl _ _ | refine Below.alloc ?_ (by first | omega | (simp; omega) | (simp; done)) _ | refine Below.drew ?_))
        have s59 : w58.heap.size + 1 ≤ w59.heap.size := by rw [hw59]; simp
        have y59 := Below.size hb
        try simp only [World.size_alloc, World.size_drew] at y59
        have D59 := Lib.hid (show Below w.heap.size w w59 from Below.trans (by repeat (first | exact D58.out | exact Below.refl _ _ | refine Below.alloc ?_ (by first | omega | (simp; omega) | (simp; done)) _)) (Below.mono hb (by first | omega | (simp; omega) | (simp; done))))
        have z59 := D59.out.size
        clear hb hw59
        try clear c0_0 f0_0 c0_1 f0_1 c0_2 f0_2
        obtain ⟨c0_0, f0_0, c0_1, f0_1, c0_2, f0_2⟩ := cells3 h0
        try clear c1_0 f1_0 c1_1 f1_1 c1_2 f1_2 c1_3 f1_3 c1_4 f1_4 c1_5 f1_5 c1_6 f1_6 c1_7 f1_7
        obtain ⟨c1_0, f1_0, c1_1, f1_1, c1_2, f1_2, c1_3, f1_3, c1_4, f1_4, c1_5, f1_5, c1_6, f1_6, c1_7, f1_7⟩ := cells8 h1
        try clear c2_0 f2_0 c2_1 f2_1 c2_2 f2_2 c2_3 f2_3
        obtain ⟨c2_0, f2_0, c2_1, f2_1, c2_2, f2_2, c2_3, f2_3⟩ := cells4 h2
        try clear c4_0 f4_0 c4_1 f4_1
        obtain ⟨c4_0, f4_0, c4_1, f4_1⟩ := cells2 h4
        try clear c5_0 f5_0 c5_1 f5_1
        obtain ⟨c5_0, f5_0, c5_1, f5_1⟩ := cells2 h5
        try clear c6_0 f6_0 c6_1 f6_1
        obtain ⟨c6_0, f6_0, c6_1, f6_1⟩ := cells2 h6
        try clear c7_0 f7_0 c7_1 f7_1
        obtain ⟨c7_0, f7_0, c7_1, f7_1⟩ := cells2 h7
        try clear c8_0 f8_0 c8_1 f8_1
        obtain ⟨c8_0, f8_0, c8_1, f8_1⟩ := cells2 h8
        try clear c9_0 f9_0 c9_1 f9_1
        obtain ⟨c9_0, f9_0, c9_1, f9_1⟩ := cells2 h9
        try clear c10_0 f10_0 c10_1 f10_1 c10_2 f10_2 c10_3 f10_3 c10_4 f10_4 c10_5 f10_5
        obtain ⟨c10_0, f10_0, c10_1, f10_1, c10_2, f10_2, c10_3, f10_3, c10_4, f10_4, c10_5, f10_5⟩ := cells6 h10
        refine (HA8.out _ h3).mono ?_
        rintro e w60 ⟨rfl, hb⟩
        replace h0 : w60.heap[w.heap.size]? = some (.cells #[.int .i64 l.a, .int .i64 l.b, .int .i64 l.c] 23 (0, 0)) := hb_below hb (by repeat (first | exact h0 | (refine hb_new ?_; (first | omega | (simp; omega) | (simp; done))) | (refine hb_old ?_ ?_; rotate_left; focus (first | omega | (simp; omega) | (simp; done))) | refine hb_drew ?_)) (by first | omega | (simp; omega) | (simp; done))
        replace h1 : w60.heap[w.heap.size + 1]? = some (.cells #[.int .i64 f.o.x, .int .i64 f.o.y, .int .i64 f.p.x, .int .i64 f.p.y, .int .i64 f.q.x, .int .i64 f.q.y, .int .i64 f.r.x, .int .i64 f.r.y] 27 (0, 0)) := hb_below hb (by repeat (first | exact h1 | (refine hb_new ?_; (first | omega | (simp; omega) | (simp; done))) | (refine hb_old ?_ ?_; rotate_left; focus (first | omega | (simp; omega) | (simp; done))) | refine hb_drew ?_)) (by first | omega | (simp; omega) | (simp; done))
        replace h2 : w60.heap[w.heap.size + 1 + 1]? = some (.cells #[.int .i64 m.a, .int .i64 m.b, .int .i64 m.c, .int .i64 m.d] 40 (0, 0)) := hb_below hb (by repeat (first | exact h2 | (refine hb_new ?_; (first | omega | (simp; omega) | (simp; done))) | (refine hb_old ?_ ?_; rotate_left; focus (first | omega | (simp; omega) | (simp; done))) | refine hb_drew ?_)) (by first | omega | (simp; omega) | (simp; done))
        replace h3 : w60.heap[b]? = some og := hb_below hb (by repeat (first | exact h3 | (refine hb_new ?_; (first | omega | (simp; omega) | (simp; done))) | (refine hb_old ?_ ?_; rotate_left; focus (first | omega | (simp; omega) | (simp; done))) | refine hb_drew ?_)) (by first | omega | (simp; omega) | (simp; done))
        replace h4 : w60.heap[b4]? = some (.cells #[.int .i64 P.x, .int .i64 P.y] 25 (0, 0)) := hb_below hb (by repeat (first | exact h4 | (refine hb_new ?_; (first | omega | (simp; omega) | (simp; done))) | (refine hb_old ?_ ?_; rotate_left; focus (first | omega | (simp; omega) | (simp; done))) | refine hb_drew ?_)) (by first | omega | (simp; omega) | (simp; done))
        replace h5 : w60.heap[b5]? = some (.cells #[.int .i64 Q.x, .int .i64 Q.y] 25 (0, 0)) := hb_below hb (by repeat (first | exact h5 | (refine hb_new ?_; (first | omega | (simp; omega) | (simp; done))) | (refine hb_old ?_ ?_; rotate_left; focus (first | omega | (simp; omega) | (simp; done))) | refine hb_drew ?_)) (by first | omega | (simp; omega) | (simp; done))
        replace h6 : w60.heap[b6]? = some (.cells #[.int .i64 R.x, .int .i64 R.y] 25 (0, 0)) := hb_below hb (by repeat (first | exact h6 | (refine hb_new ?_; (first | omega | (simp; omega) | (simp; done))) | (refine hb_old ?_ ?_; rotate_left; focus (first | omega | (simp; omega) | (simp; done))) | refine hb_drew ?_)) (by first | omega | (simp; omega) | (simp; done))
        replace h7 : w60.heap[b7]? = some (.cells #[.int .i64 PA.x, .int .i64 PA.y] 25 (0, 0)) := hb_below hb (by repeat (first | exact h7 | (refine hb_new ?_; (first | omega | (simp; omega) | (simp; done))) | (refine hb_old ?_ ?_; rotate_left; focus (first | omega | (simp; omega) | (simp; done))) | refine hb_drew ?_)) (by first | omega | (simp; omega) | (simp; done))
        replace h8 : w60.heap[b8]? = some (.cells #[.int .i64 QA.x, .int .i64 QA.y] 25 (0, 0)) := hb_below hb (by repeat (first | exact h8 | (refine hb_new ?_; (first | omega | (simp; omega) | (simp; done))) | (refine hb_old ?_ ?_; rotate_left; focus (first | omega | (simp; omega) | (simp; done))) | refine hb_drew ?_)) (by first | omega | (simp; omega) | (simp; done))
        replace h9 : w60.heap[b9]? = some (.cells #[.int .i64 RA.x, .int .i64 RA.y] 25 (0, 0)) := hb_below hb (by repeat (first | exact h9 | (refine hb_new ?_; (first | omega | (simp; omega) | (simp; done))) | (refine hb_old ?_ ?_; rotate_left; focus (first | omega | (simp; omega) | (simp; done))) | refine hb_drew ?_)) (by first | omega | (simp; omega) | (simp; done))
        replace h10 : w60.heap[w58.heap.size]? = some (.cells #[.int .i64 xi.a, .int .i64 xi.b, .int .i64 xi.c, .int .i64 xi.d, .int .i64 0, .int .i64 0] 49 (0, 0)) := hb_below hb (by repeat (first | exact h10 | (refine hb_new ?_; (first | omega | (simp; omega) | (simp; done))) | (refine hb_old ?_ ?_; rotate_left; focus (first | omega | (simp; omega) | (simp; done))) | refine hb_drew ?_)) (by first | omega | (simp; omega) | (simp; done))
        have y60 := Below.size hb
        try simp only [World.size_alloc, World.size_drew] at y60
        have D60 := Lib.hid (show Below w.heap.size w w60 from Below.trans (by repeat (first | exact D59.out | exact Below.refl _ _ | refine Below.alloc ?_ (by first | omega | (simp; omega) | (simp; done)) _)) (Below.mono hb (by first | omega | (simp; omega) | (simp; done))))
        have z60 := D60.out.size
        clear hb
        try clear c0_0 f0_0 c0_1 f0_1 c0_2 f0_2
        obtain ⟨c0_0, f0_0, c0_1, f0_1, c0_2, f0_2⟩ := cells3 h0
        try clear c1_0 f1_0 c1_1 f1_1 c1_2 f1_2 c1_3 f1_3 c1_4 f1_4 c1_5 f1_5 c1_6 f1_6 c1_7 f1_7
        obtain ⟨c1_0, f1_0, c1_1, f1_1, c1_2, f1_2, c1_3, f1_3, c1_4, f1_4, c1_5, f1_5, c1_6, f1_6, c1_7, f1_7⟩ := cells8 h1
        try clear c2_0 f2_0 c2_1 f2_1 c2_2 f2_2 c2_3 f2_3
        obtain ⟨c2_0, f2_0, c2_1, f2_1, c2_2, f2_2, c2_3, f2_3⟩ := cells4 h2
        try clear c4_0 f4_0 c4_1 f4_1
        obtain ⟨c4_0, f4_0, c4_1, f4_1⟩ := cells2 h4
        try clear c5_0 f5_0 c5_1 f5_1
        obtain ⟨c5_0, f5_0, c5_1, f5_1⟩ := cells2 h5
        try clear c6_0 f6_0 c6_1 f6_1
        obtain ⟨c6_0, f6_0, c6_1, f6_1⟩ := cells2 h6
        try clear c7_0 f7_0 c7_1 f7_1
        obtain ⟨c7_0, f7_0, c7_1, f7_1⟩ := cells2 h7
        try clear c8_0 f8_0 c8_1 f8_1
        obtain ⟨c8_0, f8_0, c8_1, f8_1⟩ := cells2 h8
        try clear c9_0 f9_0 c9_1 f9_1
        obtain ⟨c9_0, f9_0, c9_1, f9_1⟩ := cells2 h9
        try clear c10_0 f10_0 c10_1 f10_1 c10_2 f10_2 c10_3 f10_3 c10_4 f10_4 c10_5 f10_5
        obtain ⟨c10_0, f10_0, c10_1, f10_1, c10_2, f10_2, c10_3, f10_3, c10_4, f10_4, c10_5, f10_5⟩ := cells6 h10
        go_wp2_with fail
        try clear c0_0 f0_0 c0_1 f0_1 c0_2 f0_2
        try clear c1_0 f1_0 c1_1 f1_1 c1_2 f1_2 c1_3 f1_3 c1_4 f1_4 c1_5 f1_5 c1_6 f1_6 c1_7 f1_7
        try clear c2_0 f2_0 c2_1 f2_1 c2_2 f2_2 c2_3 f2_3
        try clear c4_0 f4_0 c4_1 f4_1
        try clear c5_0 f5_0 c5_1 f5_1
        try clear c6_0 f6_0 c6_1 f6_1
        go_loopg [31] n (fun kk s wr => ∃ j : Nat, j ≤ n ∧ n - j ≤ kk ∧ s = .int .i64 j ∧ wr.heap[w.heap.size]? = some (.cells #[.int .i64 l.a, .int .i64 l.b, .int .i64 l.c] 23 (0, 0)) ∧ wr.heap[w.heap.size + 1]? = some (.cells #[.int .i64 f.o.x, .int .i64 f.o.y, .int .i64 f.p.x, .int .i64 f.p.y, .int .i64 f.q.x, .int .i64 f.q.y, .int .i64 f.r.x, .int .i64 f.r.y] 27 (0, 0)) ∧ wr.heap[w.heap.size + 1 + 1]? = some (.cells #[.int .i64 m.a, .int .i64 m.b, .int .i64 m.c, .int .i64 m.d] 40 (0, 0)) ∧ wr.heap[b]? = some og ∧ wr.heap[b4]? = some (.cells #[.int .i64 P.x, .int .i64 P.y] 25 (0, 0)) ∧ wr.heap[b5]? = some (.cells #[.int .i64 Q.x, .int .i64 Q.y] 25 (0, 0)) ∧ wr.heap[b6]? = some (.cells #[.int .i64 R.x, .int .i64 R.y] 25 (0, 0)) ∧ w60.heap.size ≤ wr.heap.size ∧ Below w.heap.size w wr)
        case atStart => exact ⟨0, by omega, by omega, rfl, h0, h1, h2, h3, h4, h5, h6, Nat.le_refl _, D60.out⟩
        case round =>
          rename World => w80
          obtain ⟨j, hj, hkj, rfl, g0', g1', g2', g3', g4', g5', g6', y80, hb⟩ := hrel
          clear h0 h1 h2 h3 h4 h5 h6
          have h0 := g0'
          have h1 := g1'
          have h2 := g2'
          have h3 := g3'
          have h4 := g4'
          have h5 := g5'
          have h6 := g6'
          clear g0' g1' g2' g3' g4' g5' g6'
          have D80 := Lib.hid hb
          have z80 := D80.out.size
          clear hb
          try clear c0_0 f0_0 c0_1 f0_1 c0_2 f0_2
          obtain ⟨c0_0, f0_0, c0_1, f0_1, c0_2, f0_2⟩ := cells3 h0
          try clear c1_0 f1_0 c1_1 f1_1 c1_2 f1_2 c1_3 f1_3 c1_4 f1_4 c1_5 f1_5 c1_6 f1_6 c1_7 f1_7
          obtain ⟨c1_0, f1_0, c1_1, f1_1, c1_2, f1_2, c1_3, f1_3, c1_4, f1_4, c1_5, f1_5, c1_6, f1_6, c1_7, f1_7⟩ := cells8 h1
          try clear c2_0 f2_0 c2_1 f2_1 c2_2 f2_2 c2_3 f2_3
          obtain ⟨c2_0, f2_0, c2_1, f2_1, c2_2, f2_2, c2_3, f2_3⟩ := cells4 h2
          try clear c4_0 f4_0 c4_1 f4_1
          obtain ⟨c4_0, f4_0, c4_1, f4_1⟩ := cells2 h4
          try clear c5_0 f5_0 c5_1 f5_1
          obtain ⟨c5_0, f5_0, c5_1, f5_1⟩ := cells2 h5
          try clear c6_0 f6_0 c6_1 f6_1
          obtain ⟨c6_0, f6_0, c6_1, f6_1⟩ := cells2 h6
          by_cases hlj : j < n
          · obtain ⟨y, hy⟩ : ∃ y, G[j]? = some y := ⟨_, List.getElem?_eq_getElem (by rw [← HN.out]; exact hlj)⟩
            have ey : led l y = l := (HI.out.1 y).1 (List.mem_of_getElem? hy)
            have hrj := HR.out j y hy
            have B1 := fun W => rTimes_any x y W
            rw [times_w HXO.out (keep_ok Hl.out ey)] at B1
            have B2 := fun W hW => HIN.out (x.times y) ((HI.out.1 _).2 (times_in HEX.out ey)) W hW
            generalize x.times y = xy at *
            unfold Mat.val at B1 B2
            have j0 : (0 : Int) ≤ (j : Int) := by omega
            have j1 : (j : Int) < (n : Int) := by omega
            have HB1 := Lib.hid B1
            have HB2 := Lib.hid B2
            clear B1 B2 ey hy
            go_wp2_with fail
            try clear c0_0 f0_0 c0_1 f0_1 c0_2 f0_2
            try clear c1_0 f1_0 c1_1 f1_1 c1_2 f1_2 c1_3 f1_3 c1_4 f1_4 c1_5 f1_5 c1_6 f1_6 c1_7 f1_7
            try clear c2_0 f2_0 c2_1 f2_1 c2_2 f2_2 c2_3 f2_3
            try clear c4_0 f4_0 c4_1 f4_1
            try clear c5_0 f5_0 c5_1 f5_1
            try clear c6_0 f6_0 c6_1 f6_1
            refine wp_region_class (fun w' => Below w80.heap.size w80 w') 11 (by kernel_rfl) (by kernel_rfl) (Below.refl _ w80).drew ?_
            simp only [List.take_succ_cons, List.take_zero, List.drop_succ_cons, List.drop_zero]
            refine quiet_moveV rfl _ rfl _ rfl ?_
            simp only [Act.put, List.setIfInBounds_toArray, List.set_cons_zero, List.set_cons_succ]
            refine quiet_moveV rfl _ rfl _ rfl ?_
            simp only [Act.put, List.setIfInBounds_toArray, List.set_cons_zero, List.set_cons_succ]
            refine quiet_moveV rfl _ rfl _ rfl ?_
            simp only [Act.put, List.setIfInBounds_toArray, List.set_cons_zero, List.set_cons_succ]
            refine quiet_still rfl (.pointer (some ⟨b, off + i * 4, none⟩)) (fun w _ => by go_simp) ?_
            simp only [Act.put, List.setIfInBounds_toArray, List.set_cons_zero, List.set_cons_succ]
            refine quiet_load_mid rfl _ _ rfl b (off + i * 4) rfl [.int .i64 x.a, .int .i64 x.b, .int .i64 x.c, .int .i64 x.d] _ (fun w' h => range_obj HB.out (hb_below h h3 (by first | omega | (simp; omega) | (simp; done))) (hri)) Tryd.underlying40 rfl (by kernel_rfl) ?_
            simp only [Act.put, List.setIfInBounds_toArray, List.set_cons_zero, List.set_cons_succ]
            refine quiet_moveV rfl _ rfl _ rfl ?_
            simp only [Act.put, List.setIfInBounds_toArray, List.set_cons_zero, List.set_cons_succ]
            refine quiet_moveV rfl _ rfl _ rfl ?_
            simp only [Act.put, List.setIfInBounds_toArray, List.set_cons_zero, List.set_cons_succ]
            refine quiet_still rfl (.pointer (some ⟨b, off + j * 4, none⟩)) (fun w _ => by go_simp) ?_
            simp only [Act.put, List.setIfInBounds_toArray, List.set_cons_zero, List.set_cons_succ]
            refine quiet_load_mid rfl _ _ rfl b (off + j * 4) rfl [.int .i64 y.a, .int .i64 y.b, .int .i64 y.c, .int .i64 y.d] _ (fun w' h => range_obj HB.out (hb_below h h3 (by first | omega | (simp; omega) | (simp; done))) (hrj)) Tryd.underlying40 rfl (by kernel_rfl) ?_
            simp only [Act.put, List.setIfInBounds_toArray, List.set_cons_zero, List.set_cons_succ]
            refine quiet_call rfl 42 _ _ rfl (enter_of Tryd.func42 (by decide) (by intro h; cases h)) _ (in_class_b HB1.out) ?_
            simp only [Act.put, List.setIfInBounds_toArray, List.set_cons_zero, List.set_cons_succ]
            refine quiet_call rfl 41 _ _ rfl (enter_of Tryd.func41 (by decide) (by intro h; cases h)) _ ((fun w' h => (HB2.out w' (hb_below h h3 (by first | omega | (simp; omega) | (simp; done)))).mono fun e w2 ⟨he, hb⟩ => ⟨he, h.trans (hb.mono h.size)⟩)) ?_
            simp only [Act.put, List.setIfInBounds_toArray, List.set_cons_zero, List.set_cons_succ]
            intro w81 hb
            replace h0 : w81.heap[w.heap.size]? = some (.cells #[.int .i64 l.a, .int .i64 l.b, .int .i64 l.c] 23 (0, 0)) := hb_below hb (by repeat (first | exact h0 | (refine hb_new ?_; (first | omega | (simp; omega) | (simp; done))) | (refine hb_old ?_ ?_; rotate_left; focus (first | omega | (simp; omega) | (simp; done))) | refine hb_drew ?_)) (by first | omega | (simp; omega) | (simp; done))
            replace h1 : w81.heap[w.heap.size + 1]? = some (.cells #[.int .i64 f.o.x, .int .i64 f.o.y, .int .i64 f.p.x, .int .i64 f.p.y, .int .i64 f.q.x, .int .i64 f.q.y, .int .i64 f.r.x, .int .i64 f.r.y] 27 (0, 0)) := hb_below hb (by repeat (first | exact h1 | (refine hb_new ?_; (first | omega | (simp; omega) | (simp; done))) | (refine hb_old ?_ ?_; rotate_left; focus (first | omega | (simp; omega) | (simp; done))) | refine hb_drew ?_)) (by first | omega | (simp; omega) | (simp; done))
            replace h2 : w81.heap[w.heap.size + 1 + 1]? = some (.cells #[.int .i64 m.a, .int .i64 m.b, .int .i64 m.c, .int .i64 m.d] 40 (0, 0)) := hb_below hb (by repeat (first | exact h2 | (refine hb_new ?_; (first | omega | (simp; omega) | (simp; done))) | (refine hb_old ?_ ?_; rotate_left; focus (first | omega | (simp; omega) | (simp; done))) | refine hb_drew ?_)) (by first | omega | (simp; omega) | (simp; done))
            replace h3 : w81.heap[b]? = some og := hb_below hb (by repeat (first | exact h3 | (refine hb_new ?_; (first | omega | (simp; omega) | (simp; done))) | (refine hb_old ?_ ?_; rotate_left; focus (first | omega | (simp; omega) | (simp; done))) | refine hb_drew ?_)) (by first | omega | (simp; omega) | (simp; done))
            replace h4 : w81.heap[b4]? = some (.cells #[.int .i64 P.x, .int .i64 P.y] 25 (0, 0)) := hb_below hb (by repeat (first | exact h4 | (refine hb_new ?_; (first | omega | (simp; omega) | (simp; done))) | (refine hb_old ?_ ?_; rotate_left; focus (first | omega | (simp; omega) | (simp; done))) | refine hb_drew ?_)) (by first | omega | (simp; omega) | (simp; done))
            replace h5 : w81.heap[b5]? = some (.cells #[.int .i64 Q.x, .int .i64 Q.y] 25 (0, 0)) := hb_below hb (by repeat (first | exact h5 | (refine hb_new ?_; (first | omega | (simp; omega) | (simp; done))) | (refine hb_old ?_ ?_; rotate_left; focus (first | omega | (simp; omega) | (simp; done))) | refine hb_drew ?_)) (by first | omega | (simp; omega) | (simp; done))
            replace h6 : w81.heap[b6]? = some (.cells #[.int .i64 R.x, .int .i64 R.y] 25 (0, 0)) := hb_below hb (by repeat (first | exact h6 | (refine hb_new ?_; (first | omega | (simp; omega) | (simp; done))) | (refine hb_old ?_ ?_; rotate_left; focus (first | omega | (simp; omega) | (simp; done))) | refine hb_drew ?_)) (by first | omega | (simp; omega) | (simp; done))
            have y81 := Below.size hb
            try simp only [World.size_alloc, World.size_drew] at y81
            have D81 := Lib.hid (show Below w.heap.size w w81 from Below.trans (by repeat (first | exact D80.out | exact Below.refl _ _ | refine Below.alloc ?_ (by first | omega | (simp; omega) | (simp; done)) _)) (Below.mono hb (by first | omega | (simp; omega) | (simp; done))))
            have z81 := D81.out.size
            clear hb
            try clear c0_0 f0_0 c0_1 f0_1 c0_2 f0_2
            obtain ⟨c0_0, f0_0, c0_1, f0_1, c0_2, f0_2⟩ := cells3 h0
            try clear c1_0 f1_0 c1_1 f1_1 c1_2 f1_2 c1_3 f1_3 c1_4 f1_4 c1_5 f1_5 c1_6 f1_6 c1_7 f1_7
            obtain ⟨c1_0, f1_0, c1_1, f1_1, c1_2, f1_2, c1_3, f1_3, c1_4, f1_4, c1_5, f1_5, c1_6, f1_6, c1_7, f1_7⟩ := cells8 h1
            try clear c2_0 f2_0 c2_1 f2_1 c2_2 f2_2 c2_3 f2_3
            obtain ⟨c2_0, f2_0, c2_1, f2_1, c2_2, f2_2, c2_3, f2_3⟩ := cells4 h2
            try clear c4_0 f4_0 c4_1 f4_1
            obtain ⟨c4_0, f4_0, c4_1, f4_1⟩ := cells2 h4
            try clear c5_0 f5_0 c5_1 f5_1
            obtain ⟨c5_0, f5_0, c5_1, f5_1⟩ := cells2 h5
            try clear c6_0 f6_0 c6_1 f6_1
            obtain ⟨c6_0, f6_0, c6_1, f6_1⟩ := cells2 h6
            go_wp2_with fail
            go_roundg (n - (j + 1))
            case measure => omega
            case rel => exact ⟨j + 1, hlj, Nat.le_refl _, by go_num, h0, h1, h2, h3, h4, h5, h6, by omega, D81.out⟩
          · obtain rfl : j = n := by omega
            go_wp2_with fail
            go_roundg (j - (i + 1))
            case measure => omega
            case rel => exact ⟨i + 1, hlt, Nat.le_refl _, by go_num, h0, h1, h2, h3, h4, h5, h6, by omega, D80.out⟩
      · obtain rfl : i = n := by omega
        cases hm : okM m
        · have C4 := HC4.out
          have C5 := HC5.out
          rw [show keepV l m = false by unfold keepV; rw [hm]; simp, show errIf (okL l && okM m) = 2 by rw [hm]; simp [errIf]] at C4
          rw [hm] at C5
          have HD4 := Lib.hid C4
          have HD5 := Lib.hid C5
          clear C4 C5 hm
          go_wp2_with fail
          refine (HD4.out _).mono ?_
          rintro e w51 ⟨rfl, hb⟩
          replace h0 : w51.heap[w.heap.size]? = some (.cells #[.int .i64 l.a, .int .i64 l.b, .int .i64 l.c] 23 (0, 0)) := hb_below hb (by repeat (first | exact h0 | (refine hb_new ?_; (first | omega | (simp; omega) | (simp; done))) | (refine hb_old ?_ ?_; rotate_left; focus (first | omega | (simp; omega) | (simp; done))) | refine hb_drew ?_)) (by first | omega | (simp; omega) | (simp; done))
          replace h1 : w51.heap[w.heap.size + 1]? = some (.cells #[.int .i64 f.o.x, .int .i64 f.o.y, .int .i64 f.p.x, .int .i64 f.p.y, .int .i64 f.q.x, .int .i64 f.q.y, .int .i64 f.r.x, .int .i64 f.r.y] 27 (0, 0)) := hb_below hb (by repeat (first | exact h1 | (refine hb_new ?_; (first | omega | (simp; omega) | (simp; done))) | (refine hb_old ?_ ?_; rotate_left; focus (first | omega | (simp; omega) | (simp; done))) | refine hb_drew ?_)) (by first | omega | (simp; omega) | (simp; done))
          replace h2 : w51.heap[w.heap.size + 1 + 1]? = some (.cells #[.int .i64 m.a, .int .i64 m.b, .int .i64 m.c, .int .i64 m.d] 40 (0, 0)) := hb_below hb (by repeat (first | exact h2 | (refine hb_new ?_; (first | omega | (simp; omega) | (simp; done))) | (refine hb_old ?_ ?_; rotate_left; focus (first | omega | (simp; omega) | (simp; done))) | refine hb_drew ?_)) (by first | omega | (simp; omega) | (simp; done))
          replace h3 : w51.heap[b]? = some og := hb_below hb (by repeat (first | exact h3 | (refine hb_new ?_; (first | omega | (simp; omega) | (simp; done))) | (refine hb_old ?_ ?_; rotate_left; focus (first | omega | (simp; omega) | (simp; done))) | refine hb_drew ?_)) (by first | omega | (simp; omega) | (simp; done))
          replace h4 : w51.heap[b4]? = some (.cells #[.int .i64 P.x, .int .i64 P.y] 25 (0, 0)) := hb_below hb (by repeat (first | exact h4 | (refine hb_new ?_; (first | omega | (simp; omega) | (simp; done))) | (refine hb_old ?_ ?_; rotate_left; focus (first | omega | (simp; omega) | (simp; done))) | refine hb_drew ?_)) (by first | omega | (simp; omega) | (simp; done))
          replace h5 : w51.heap[b5]? = some (.cells #[.int .i64 Q.x, .int .i64 Q.y] 25 (0, 0)) := hb_below hb (by repeat (first | exact h5 | (refine hb_new ?_; (first | omega | (simp; omega) | (simp; done))) | (refine hb_old ?_ ?_; rotate_left; focus (first | omega | (simp; omega) | (simp; done))) | refine hb_drew ?_)) (by first | omega | (simp; omega) | (simp; done))
          replace h6 : w51.heap[b6]? = some (.cells #[.int .i64 R.x, .int .i64 R.y] 25 (0, 0)) := hb_below hb (by repeat (first | exact h6 | (refine hb_new ?_; (first | omega | (simp; omega) | (simp; done))) | (refine hb_old ?_ ?_; rotate_left; focus (first | omega | (simp; omega) | (simp; done))) | refine hb_drew ?_)) (by first | omega | (simp; omega) | (simp; done))
          have y51 := Below.size hb
          try simp only [World.size_alloc, World.size_drew] at y51
          have D51 := Lib.hid (show Below w.heap.size w w51 from Below.trans (by repeat (first | exact D50.out | exact Below.refl _ _ | refine Below.alloc ?_ (by first | omega | (simp; omega) | (simp; done)) _)) (Below.mono hb (by first | omega | (simp; omega) | (simp; done))))
          have z51 := D51.out.size
          clear hb
          try clear c0_0 f0_0 c0_1 f0_1 c0_2 f0_2
          obtain ⟨c0_0, f0_0, c0_1, f0_1, c0_2, f0_2⟩ := cells3 h0
          try clear c1_0 f1_0 c1_1 f1_1 c1_2 f1_2 c1_3 f1_3 c1_4 f1_4 c1_5 f1_5 c1_6 f1_6 c1_7 f1_7
          obtain ⟨c1_0, f1_0, c1_1, f1_1, c1_2, f1_2, c1_3, f1_3, c1_4, f1_4, c1_5, f1_5, c1_6, f1_6, c1_7, f1_7⟩ := cells8 h1
          try clear c2_0 f2_0 c2_1 f2_1 c2_2 f2_2 c2_3 f2_3
          obtain ⟨c2_0, f2_0, c2_1, f2_1, c2_2, f2_2, c2_3, f2_3⟩ := cells4 h2
          try clear c4_0 f4_0 c4_1 f4_1
          obtain ⟨c4_0, f4_0, c4_1, f4_1⟩ := cells2 h4
          try clear c5_0 f5_0 c5_1 f5_1
          obtain ⟨c5_0, f5_0, c5_1, f5_1⟩ := cells2 h5
          try clear c6_0 f6_0 c6_1 f6_1
          obtain ⟨c6_0, f6_0, c6_1, f6_1⟩ := cells2 h6
          go_wp2_with fail
          refine (HD5.out _).mono ?_
          rintro e w52 ⟨rfl, hb⟩
          replace h0 : w52.heap[w.heap.size]? = some (.cells #[.int .i64 l.a, .int .i64 l.b, .int .i64 l.c] 23 (0, 0)) := hb_below hb (by repeat (first | exact h0 | (refine hb_new ?_; (first | omega | (simp; omega) | (simp; done))) | (refine hb_old ?_ ?_; rotate_left; focus (first | omega | (simp; omega) | (simp; done))) | refine hb_drew ?_)) (by first | omega | (simp; omega) | (simp; done))
          replace h1 : w52.heap[w.heap.size + 1]? = some (.cells #[.int .i64 f.o.x, .int .i64 f.o.y, .int .i64 f.p.x, .int .i64 f.p.y, .int .i64 f.q.x, .int .i64 f.q.y, .int .i64 f.r.x, .int .i64 f.r.y] 27 (0, 0)) := hb_below hb (by repeat (first | exact h1 | (refine hb_new ?_; (first | omega | (simp; omega) | (simp; done))) | (refine hb_old ?_ ?_; rotate_left; focus (first | omega | (simp; omega) | (simp; done))) | refine hb_drew ?_)) (by first | omega | (simp; omega) | (simp; done))
          replace h2 : w52.heap[w.heap.size + 1 + 1]? = some (.cells #[.int .i64 m.a, .int .i64 m.b, .int .i64 m.c, .int .i64 m.d] 40 (0, 0)) := hb_below hb (by repeat (first | exact h2 | (refine hb_new ?_; (first | omega | (simp; omega) | (simp; done))) | (refine hb_old ?_ ?_; rotate_left; focus (first | omega | (simp; omega) | (simp; done))) | refine hb_drew ?_)) (by first | omega | (simp; omega) | (simp; done))
          replace h3 : w52.heap[b]? = some og := hb_below hb (by repeat (first | exact h3 | (refine hb_new ?_; (first | omega | (simp; omega) | (simp; done))) | (refine hb_old ?_ ?_; rotate_left; focus (first | omega | (simp; omega) | (simp; done))) | refine hb_drew ?_)) (by first | omega | (simp; omega) | (simp; done))
          replace h4 : w52.heap[b4]? = some (.cells #[.int .i64 P.x, .int .i64 P.y] 25 (0, 0)) := hb_below hb (by repeat (first | exact h4 | (refine hb_new ?_; (first | omega | (simp; omega) | (simp; done))) | (refine hb_old ?_ ?_; rotate_left; focus (first | omega | (simp; omega) | (simp; done))) | refine hb_drew ?_)) (by first | omega | (simp; omega) | (simp; done))
          replace h5 : w52.heap[b5]? = some (.cells #[.int .i64 Q.x, .int .i64 Q.y] 25 (0, 0)) := hb_below hb (by repeat (first | exact h5 | (refine hb_new ?_; (first | omega | (simp; omega) | (simp; done))) | (refine hb_old ?_ ?_; rotate_left; focus (first | omega | (simp; omega) | (simp; done))) | refine hb_drew ?_)) (by first | omega | (simp; omega) | (simp; done))
          replace h6 : w52.heap[b6]? = some (.cells #[.int .i64 R.x, .int .i64 R.y] 25 (0, 0)) := hb_below hb (by repeat (first | exact h6 | (refine hb_new ?_; (first | omega | (simp; omega) | (simp; done))) | (refine hb_old ?_ ?_; rotate_left; focus (first | omega | (simp; omega) | (simp; done))) | refine hb_drew ?_)) (by first | omega | (simp; omega) | (simp; done))
          have y52 := Below.size hb
          try simp only [World.size_alloc, World.size_drew] at y52
          have D52 := Lib.hid (show Below w.heap.size w w52 from Below.trans (by repeat (first | exact D51.out | exact Below.refl _ _ | refine Below.alloc ?_ (by first | omega | (simp; omega) | (simp; done)) _)) (Below.mono hb (by first | omega | (simp; omega) | (simp; done))))
          have z52 := D52.out.size
          clear hb
          try clear c0_0 f0_0 c0_1 f0_1 c0_2 f0_2
          obtain ⟨c0_0, f0_0, c0_1, f0_1, c0_2, f0_2⟩ := cells3 h0
          try clear c1_0 f1_0 c1_1 f1_1 c1_2 f1_2 c1_3 f1_3 c1_4 f1_4 c1_5 f1_5 c1_6 f1_6 c1_7 f1_7
          obtain ⟨c1_0, f1_0, c1_1, f1_1, c1_2, f1_2, c1_3, f1_3, c1_4, f1_4, c1_5, f1_5, c1_6, f1_6, c1_7, f1_7⟩ := cells8 h1
          try clear c2_0 f2_0 c2_1 f2_1 c2_2 f2_2 c2_3 f2_3
          obtain ⟨c2_0, f2_0, c2_1, f2_1, c2_2, f2_2, c2_3, f2_3⟩ := cells4 h2
          try clear c4_0 f4_0 c4_1 f4_1
          obtain ⟨c4_0, f4_0, c4_1, f4_1⟩ := cells2 h4
          try clear c5_0 f5_0 c5_1 f5_1
          obtain ⟨c5_0, f5_0, c5_1, f5_1⟩ := cells2 h5
          try clear c6_0 f6_0 c6_1 f6_1
          obtain ⟨c6_0, f6_0, c6_1, f6_1⟩ := cells2 h6
          go_wp2_with fail
          refine (HC7.out _ (HG.out.next (Below.trans D52.out (by repeat (first | exact Below.refl _ _ | refine Below.alloc ?_ (by first | omega | (simp; omega) | (simp; done)) _))))).mono ?_
          rintro e w53 ⟨rfl, hb⟩
          replace h0 : w53.heap[w.heap.size]? = some (.cells #[.int .i64 l.a, .int .i64 l.b, .int .i64 l.c] 23 (0, 0)) := hb_below hb (by repeat (first | exact h0 | (refine hb_new ?_; (first | omega | (simp; omega) | (simp; done))) | (refine hb_old ?_ ?_; rotate_left; focus (first | omega | (simp; omega) | (simp; done))) | refine hb_drew ?_)) (by first | omega | (simp; omega) | (simp; done))
          replace h1 : w53.heap[w.heap.size + 1]? = some (.cells #[.int .i64 f.o.x, .int .i64 f.o.y, .int .i64 f.p.x, .int .i64 f.p.y, .int .i64 f.q.x, .int .i64 f.q.y, .int .i64 f.r.x, .int .i64 f.r.y] 27 (0, 0)) := hb_below hb (by repeat (first | exact h1 | (refine hb_new ?_; (first | omega | (simp; omega) | (simp; done))) | (refine hb_old ?_ ?_; rotate_left; focus (first | omega | (simp; omega) | (simp; done))) | refine hb_drew ?_)) (by first | omega | (simp; omega) | (simp; done))
          replace h2 : w53.heap[w.heap.size + 1 + 1]? = some (.cells #[.int .i64 m.a, .int .i64 m.b, .int .i64 m.c, .int .i64 m.d] 40 (0, 0)) := hb_below hb (by repeat (first | exact h2 | (refine hb_new ?_; (first | omega | (simp; omega) | (simp; done))) | (refine hb_old ?_ ?_; rotate_left; focus (first | omega | (simp; omega) | (simp; done))) | refine hb_drew ?_)) (by first | omega | (simp; omega) | (simp; done))
          replace h3 : w53.heap[b]? = some og := hb_below hb (by repeat (first | exact h3 | (refine hb_new ?_; (first | omega | (simp; omega) | (simp; done))) | (refine hb_old ?_ ?_; rotate_left; focus (first | omega | (simp; omega) | (simp; done))) | refine hb_drew ?_)) (by first | omega | (simp; omega) | (simp; done))
          replace h4 : w53.heap[b4]? = some (.cells #[.int .i64 P.x, .int .i64 P.y] 25 (0, 0)) := hb_below hb (by repeat (first | exact h4 | (refine hb_new ?_; (first | omega | (simp; omega) | (simp; done))) | (refine hb_old ?_ ?_; rotate_left; focus (first | omega | (simp; omega) | (simp; done))) | refine hb_drew ?_)) (by first | omega | (simp; omega) | (simp; done))
          replace h5 : w53.heap[b5]? = some (.cells #[.int .i64 Q.x, .int .i64 Q.y] 25 (0, 0)) := hb_below hb (by repeat (first | exact h5 | (refine hb_new ?_; (first | omega | (simp; omega) | (simp; done))) | (refine hb_old ?_ ?_; rotate_left; focus (first | omega | (simp; omega) | (simp; done))) | refine hb_drew ?_)) (by first | omega | (simp; omega) | (simp; done))
          replace h6 : w53.heap[b6]? = some (.cells #[.int .i64 R.x, .int .i64 R.y] 25 (0, 0)) := hb_below hb (by repeat (first | exact h6 | (refine hb_new ?_; (first | omega | (simp; omega) | (simp; done))) | (refine hb_old ?_ ?_; rotate_left; focus (first | omega | (simp; omega) | (simp; done))) | refine hb_drew ?_)) (by first | omega | (simp; omega) | (simp; done))
          have y53 := Below.size hb
          try simp only [World.size_alloc, World.size_drew] at y53
          have D53 := Lib.hid (show Below w.heap.size w w53 from Below.trans (by repeat (first | exact D52.out | exact Below.refl _ _ | refine Below.alloc ?_ (by first | omega | (simp; omega) | (simp; done)) _)) (Below.mono hb (by first | omega | (simp; omega) | (simp; done))))
          have z53 := D53.out.size
          clear hb
          try clear c0_0 f0_0 c0_1 f0_1 c0_2 f0_2
          obtain ⟨c0_0, f0_0, c0_1, f0_1, c0_2, f0_2⟩ := cells3 h0
          try clear c1_0 f1_0 c1_1 f1_1 c1_2 f1_2 c1_3 f1_3 c1_4 f1_4 c1_5 f1_5 c1_6 f1_6 c1_7 f1_7
          obtain ⟨c1_0, f1_0, c1_1, f1_1, c1_2, f1_2, c1_3, f1_3, c1_4, f1_4, c1_5, f1_5, c1_6, f1_6, c1_7, f1_7⟩ := cells8 h1
          try clear c2_0 f2_0 c2_1 f2_1 c2_2 f2_2 c2_3 f2_3
          obtain ⟨c2_0, f2_0, c2_1, f2_1, c2_2, f2_2, c2_3, f2_3⟩ := cells4 h2
          try clear c4_0 f4_0 c4_1 f4_1
          obtain ⟨c4_0, f4_0, c4_1, f4_1⟩ := cells2 h4
          try clear c5_0 f5_0 c5_1 f5_1
          obtain ⟨c5_0, f5_0, c5_1, f5_1⟩ := cells2 h5
          try clear c6_0 f6_0 c6_1 f6_1
          obtain ⟨c6_0, f6_0, c6_1, f6_1⟩ := cells2 h6
          go_wp2_with fail
          go_ret
          exact ⟨by first | rfl | (simp [*]; done) | (simp; omega), D53.out⟩
        · have C4 := HC4.out
          have C5 := HC5.out
          have C6 := fun W hW => HIA.out m W hW
          rw [show keepV l m = decide (m ∈ G) by unfold keepV; rw [hm, (okL_iff l).2 Hl.out]; simp only [Bool.and_self, Bool.true_and]; exact decide_eq_decide.2 (HI.out.1 m).symm, show errIf (okL l && okM m) = 0 by rw [hm, (okL_iff l).2 Hl.out]; simp [errIf]] at C4
          rw [hm] at C5
          generalize decide (m ∈ G) = kv at *
          unfold Mat.val at C6
          have HD4 := Lib.hid C4
          have HD5 := Lib.hid C5
          have HD6 := Lib.hid C6
          clear C4 C5 C6 hm
          go_wp2_with fail
          refine (HD4.out _).mono ?_
          rintro e w51 ⟨rfl, hb⟩
          replace h0 : w51.heap[w.heap.size]? = some (.cells #[.int .i64 l.a, .int .i64 l.b, .int .i64 l.c] 23 (0, 0)) := hb_below hb (by repeat (first | exact h0 | (refine hb_new ?_; (first | omega | (simp; omega) | (simp; done))) | (refine hb_old ?_ ?_; rotate_left; focus (first | omega | (simp; omega) | (simp; done))) | refine hb_drew ?_)) (by first | omega | (simp; omega) | (simp; done))
          replace h1 : w51.heap[w.heap.size + 1]? = some (.cells #[.int .i64 f.o.x, .int .i64 f.o.y, .int .i64 f.p.x, .int .i64 f.p.y, .int .i64 f.q.x, .int .i64 f.q.y, .int .i64 f.r.x, .int .i64 f.r.y] 27 (0, 0)) := hb_below hb (by repeat (first | exact h1 | (refine hb_new ?_; (first | omega | (simp; omega) | (simp; done))) | (refine hb_old ?_ ?_; rotate_left; focus (first | omega | (simp; omega) | (simp; done))) | refine hb_drew ?_)) (by first | omega | (simp; omega) | (simp; done))
          replace h2 : w51.heap[w.heap.size + 1 + 1]? = some (.cells #[.int .i64 m.a, .int .i64 m.b, .int .i64 m.c, .int .i64 m.d] 40 (0, 0)) := hb_below hb (by repeat (first | exact h2 | (refine hb_new ?_; (first | omega | (simp; omega) | (simp; done))) | (refine hb_old ?_ ?_; rotate_left; focus (first | omega | (simp; omega) | (simp; done))) | refine hb_drew ?_)) (by first | omega | (simp; omega) | (simp; done))
          replace h3 : w51.heap[b]? = some og := hb_below hb (by repeat (first | exact h3 | (refine hb_new ?_; (first | omega | (simp; omega) | (simp; done))) | (refine hb_old ?_ ?_; rotate_left; focus (first | omega | (simp; omega) | (simp; done))) | refine hb_drew ?_)) (by first | omega | (simp; omega) | (simp; done))
          replace h4 : w51.heap[b4]? = some (.cells #[.int .i64 P.x, .int .i64 P.y] 25 (0, 0)) := hb_below hb (by repeat (first | exact h4 | (refine hb_new ?_; (first | omega | (simp; omega) | (simp; done))) | (refine hb_old ?_ ?_; rotate_left; focus (first | omega | (simp; omega) | (simp; done))) | refine hb_drew ?_)) (by first | omega | (simp; omega) | (simp; done))
          replace h5 : w51.heap[b5]? = some (.cells #[.int .i64 Q.x, .int .i64 Q.y] 25 (0, 0)) := hb_below hb (by repeat (first | exact h5 | (refine hb_new ?_; (first | omega | (simp; omega) | (simp; done))) | (refine hb_old ?_ ?_; rotate_left; focus (first | omega | (simp; omega) | (simp; done))) | refine hb_drew ?_)) (by first | omega | (simp; omega) | (simp; done))
          replace h6 : w51.heap[b6]? = some (.cells #[.int .i64 R.x, .int .i64 R.y] 25 (0, 0)) := hb_below hb (by repeat (first | exact h6 | (refine hb_new ?_; (first | omega | (simp; omega) | (simp; done))) | (refine hb_old ?_ ?_; rotate_left; focus (first | omega | (simp; omega) | (simp; done))) | refine hb_drew ?_)) (by first | omega | (simp; omega) | (simp; done))
          have y51 := Below.size hb
          try simp only [World.size_alloc, World.size_drew] at y51
          have D51 := Lib.hid (show Below w.heap.size w w51 from Below.trans (by repeat (first | exact D50.out | exact Below.refl _ _ | refine Below.alloc ?_ (by first | omega | (simp; omega) | (simp; done)) _)) (Below.mono hb (by first | omega | (simp; omega) | (simp; done))))
          have z51 := D51.out.size
          clear hb
          try clear c0_0 f0_0 c0_1 f0_1 c0_2 f0_2
          obtain ⟨c0_0, f0_0, c0_1, f0_1, c0_2, f0_2⟩ := cells3 h0
          try clear c1_0 f1_0 c1_1 f1_1 c1_2 f1_2 c1_3 f1_3 c1_4 f1_4 c1_5 f1_5 c1_6 f1_6 c1_7 f1_7
          obtain ⟨c1_0, f1_0, c1_1, f1_1, c1_2, f1_2, c1_3, f1_3, c1_4, f1_4, c1_5, f1_5, c1_6, f1_6, c1_7, f1_7⟩ := cells8 h1
          try clear c2_0 f2_0 c2_1 f2_1 c2_2 f2_2 c2_3 f2_3
          obtain ⟨c2_0, f2_0, c2_1, f2_1, c2_2, f2_2, c2_3, f2_3⟩ := cells4 h2
          try clear c4_0 f4_0 c4_1 f4_1
          obtain ⟨c4_0, f4_0, c4_1, f4_1⟩ := cells2 h4
          try clear c5_0 f5_0 c5_1 f5_1
          obtain ⟨c5_0, f5_0, c5_1, f5_1⟩ := cells2 h5
          try clear c6_0 f6_0 c6_1 f6_1
          obtain ⟨c6_0, f6_0, c6_1, f6_1⟩ := cells2 h6
          go_wp2_with fail
          refine (HD5.out _).mono ?_
          rintro e w52 ⟨rfl, hb⟩
          replace h0 : w52.heap[w.heap.size]? = some (.cells #[.int .i64 l.a, .int .i64 l.b, .int .i64 l.c] 23 (0, 0)) := hb_below hb (by repeat (first | exact h0 | (refine hb_new ?_; (first | omega | (simp; omega) | (simp; done))) | (refine hb_old ?_ ?_; rotate_left; focus (first | omega | (simp; omega) | (simp; done))) | refine hb_drew ?_)) (by first | omega | (simp; omega) | (simp; done))
          replace h1 : w52.heap[w.heap.size + 1]? = some (.cells #[.int .i64 f.o.x, .int .i64 f.o.y, .int .i64 f.p.x, .int .i64 f.p.y, .int .i64 f.q.x, .int .i64 f.q.y, .int .i64 f.r.x, .int .i64 f.r.y] 27 (0, 0)) := hb_below hb (by repeat (first | exact h1 | (refine hb_new ?_; (first | omega | (simp; omega) | (simp; done))) | (refine hb_old ?_ ?_; rotate_left; focus (first | omega | (simp; omega) | (simp; done))) | refine hb_drew ?_)) (by first | omega | (simp; omega) | (simp; done))
          replace h2 : w52.heap[w.heap.size + 1 + 1]? = some (.cells #[.int .i64 m.a, .int .i64 m.b, .int .i64 m.c, .int .i64 m.d] 40 (0, 0)) := hb_below hb (by repeat (first | exact h2 | (refine hb_new ?_; (first | omega | (simp; omega) | (simp; done))) | (refine hb_old ?_ ?_; rotate_left; focus (first | omega | (simp; omega) | (simp; done))) | refine hb_drew ?_)) (by first | omega | (simp; omega) | (simp; done))
          replace h3 : w52.heap[b]? = some og := hb_below hb (by repeat (first | exact h3 | (refine hb_new ?_; (first | omega | (simp; omega) | (simp; done))) | (refine hb_old ?_ ?_; rotate_left; focus (first | omega | (simp; omega) | (simp; done))) | refine hb_drew ?_)) (by first | omega | (simp; omega) | (simp; done))
          replace h4 : w52.heap[b4]? = some (.cells #[.int .i64 P.x, .int .i64 P.y] 25 (0, 0)) := hb_below hb (by repeat (first | exact h4 | (refine hb_new ?_; (first | omega | (simp; omega) | (simp; done))) | (refine hb_old ?_ ?_; rotate_left; focus (first | omega | (simp; omega) | (simp; done))) | refine hb_drew ?_)) (by first | omega | (simp; omega) | (simp; done))
          replace h5 : w52.heap[b5]? = some (.cells #[.int .i64 Q.x, .int .i64 Q.y] 25 (0, 0)) := hb_below hb (by repeat (first | exact h5 | (refine hb_new ?_; (first | omega | (simp; omega) | (simp; done))) | (refine hb_old ?_ ?_; rotate_left; focus (first | omega | (simp; omega) | (simp; done))) | refine hb_drew ?_)) (by first | omega | (simp; omega) | (simp; done))
          replace h6 : w52.heap[b6]? = some (.cells #[.int .i64 R.x, .int .i64 R.y] 25 (0, 0)) := hb_below hb (by repeat (first | exact h6 | (refine hb_new ?_; (first | omega | (simp; omega) | (simp; done))) | (refine hb_old ?_ ?_; rotate_left; focus (first | omega | (simp; omega) | (simp; done))) | refine hb_drew ?_)) (by first | omega | (simp; omega) | (simp; done))
          have y52 := Below.size hb
          try simp only [World.size_alloc, World.size_drew] at y52
          have D52 := Lib.hid (show Below w.heap.size w w52 from Below.trans (by repeat (first | exact D51.out | exact Below.refl _ _ | refine Below.alloc ?_ (by first | omega | (simp; omega) | (simp; done)) _)) (Below.mono hb (by first | omega | (simp; omega) | (simp; done))))
          have z52 := D52.out.size
          clear hb
          try clear c0_0 f0_0 c0_1 f0_1 c0_2 f0_2
          obtain ⟨c0_0, f0_0, c0_1, f0_1, c0_2, f0_2⟩ := cells3 h0
          try clear c1_0 f1_0 c1_1 f1_1 c1_2 f1_2 c1_3 f1_3 c1_4 f1_4 c1_5 f1_5 c1_6 f1_6 c1_7 f1_7
          obtain ⟨c1_0, f1_0, c1_1, f1_1, c1_2, f1_2, c1_3, f1_3, c1_4, f1_4, c1_5, f1_5, c1_6, f1_6, c1_7, f1_7⟩ := cells8 h1
          try clear c2_0 f2_0 c2_1 f2_1 c2_2 f2_2 c2_3 f2_3
          obtain ⟨c2_0, f2_0, c2_1, f2_1, c2_2, f2_2, c2_3, f2_3⟩ := cells4 h2
          try clear c4_0 f4_0 c4_1 f4_1
          obtain ⟨c4_0, f4_0, c4_1, f4_1⟩ := cells2 h4
          try clear c5_0 f5_0 c5_1 f5_1
          obtain ⟨c5_0, f5_0, c5_1, f5_1⟩ := cells2 h5
          try clear c6_0 f6_0 c6_1 f6_1
          obtain ⟨c6_0, f6_0, c6_1, f6_1⟩ := cells2 h6
          go_wp2_with fail
          refine (HD6.out _ h3).mono ?_
          rintro e w53 ⟨rfl, hb⟩
          replace h0 : w53.heap[w.heap.size]? = some (.cells #[.int .i64 l.a, .int .i64 l.b, .int .i64 l.c] 23 (0, 0)) := hb_below hb (by repeat (first | exact h0 | (refine hb_new ?_; (first | omega | (simp; omega) | (simp; done))) | (refine hb_old ?_ ?_; rotate_left; focus (first | omega | (simp; omega) | (simp; done))) | refine hb_drew ?_)) (by first | omega | (simp; omega) | (simp; done))
          replace h1 : w53.heap[w.heap.size + 1]? = some (.cells #[.int .i64 f.o.x, .int .i64 f.o.y, .int .i64 f.p.x, .int .i64 f.p.y, .int .i64 f.q.x, .int .i64 f.q.y, .int .i64 f.r.x, .int .i64 f.r.y] 27 (0, 0)) := hb_below hb (by repeat (first | exact h1 | (refine hb_new ?_; (first | omega | (simp; omega) | (simp; done))) | (refine hb_old ?_ ?_; rotate_left; focus (first | omega | (simp; omega) | (simp; done))) | refine hb_drew ?_)) (by first | omega | (simp; omega) | (simp; done))
          replace h2 : w53.heap[w.heap.size + 1 + 1]? = some (.cells #[.int .i64 m.a, .int .i64 m.b, .int .i64 m.c, .int .i64 m.d] 40 (0, 0)) := hb_below hb (by repeat (first | exact h2 | (refine hb_new ?_; (first | omega | (simp; omega) | (simp; done))) | (refine hb_old ?_ ?_; rotate_left; focus (first | omega | (simp; omega) | (simp; done))) | refine hb_drew ?_)) (by first | omega | (simp; omega) | (simp; done))
          replace h3 : w53.heap[b]? = some og := hb_below hb (by repeat (first | exact h3 | (refine hb_new ?_; (first | omega | (simp; omega) | (simp; done))) | (refine hb_old ?_ ?_; rotate_left; focus (first | omega | (simp; omega) | (simp; done))) | refine hb_drew ?_)) (by first | omega | (simp; omega) | (simp; done))
          replace h4 : w53.heap[b4]? = some (.cells #[.int .i64 P.x, .int .i64 P.y] 25 (0, 0)) := hb_below hb (by repeat (first | exact h4 | (refine hb_new ?_; (first | omega | (simp; omega) | (simp; done))) | (refine hb_old ?_ ?_; rotate_left; focus (first | omega | (simp; omega) | (simp; done))) | refine hb_drew ?_)) (by first | omega | (simp; omega) | (simp; done))
          replace h5 : w53.heap[b5]? = some (.cells #[.int .i64 Q.x, .int .i64 Q.y] 25 (0, 0)) := hb_below hb (by repeat (first | exact h5 | (refine hb_new ?_; (first | omega | (simp; omega) | (simp; done))) | (refine hb_old ?_ ?_; rotate_left; focus (first | omega | (simp; omega) | (simp; done))) | refine hb_drew ?_)) (by first | omega | (simp; omega) | (simp; done))
          replace h6 : w53.heap[b6]? = some (.cells #[.int .i64 R.x, .int .i64 R.y] 25 (0, 0)) := hb_below hb (by repeat (first | exact h6 | (refine hb_new ?_; (first | omega | (simp; omega) | (simp; done))) | (refine hb_old ?_ ?_; rotate_left; focus (first | omega | (simp; omega) | (simp; done))) | refine hb_drew ?_)) (by first | omega | (simp; omega) | (simp; done))
          have y53 := Below.size hb
          try simp only [World.size_alloc, World.size_drew] at y53
          have D53 := Lib.hid (show Below w.heap.size w w53 from Below.trans (by repeat (first | exact D52.out | exact Below.refl _ _ | refine Below.alloc ?_ (by first | omega | (simp; omega) | (simp; done)) _)) (Below.mono hb (by first | omega | (simp; omega) | (simp; done))))
          have z53 := D53.out.size
          clear hb
          try clear c0_0 f0_0 c0_1 f0_1 c0_2 f0_2
          obtain ⟨c0_0, f0_0, c0_1, f0_1, c0_2, f0_2⟩ := cells3 h0
          try clear c1_0 f1_0 c1_1 f1_1 c1_2 f1_2 c1_3 f1_3 c1_4 f1_4 c1_5 f1_5 c1_6 f1_6 c1_7 f1_7
          obtain ⟨c1_0, f1_0, c1_1, f1_1, c1_2, f1_2, c1_3, f1_3, c1_4, f1_4, c1_5, f1_5, c1_6, f1_6, c1_7, f1_7⟩ := cells8 h1
          try clear c2_0 f2_0 c2_1 f2_1 c2_2 f2_2 c2_3 f2_3
          obtain ⟨c2_0, f2_0, c2_1, f2_1, c2_2, f2_2, c2_3, f2_3⟩ := cells4 h2
          try clear c4_0 f4_0 c4_1 f4_1
          obtain ⟨c4_0, f4_0, c4_1, f4_1⟩ := cells2 h4
          try clear c5_0 f5_0 c5_1 f5_1
          obtain ⟨c5_0, f5_0, c5_1, f5_1⟩ := cells2 h5
          try clear c6_0 f6_0 c6_1 f6_1
          obtain ⟨c6_0, f6_0, c6_1, f6_1⟩ := cells2 h6
          go_wp2_with fail
          refine (HC7.out _ (HG.out.next (Below.trans D53.out (by repeat (first | exact Below.refl _ _ | refine Below.alloc ?_ (by first | omega | (simp; omega) | (simp; done)) _))))).mono ?_
          rintro e w54 ⟨rfl, hb⟩
          replace h0 : w54.heap[w.heap.size]? = some (.cells #[.int .i64 l.a, .int .i64 l.b, .int .i64 l.c] 23 (0, 0)) := hb_below hb (by repeat (first | exact h0 | (refine hb_new ?_; (first | omega | (simp; omega) | (simp; done))) | (refine hb_old ?_ ?_; rotate_left; focus (first | omega | (simp; omega) | (simp; done))) | refine hb_drew ?_)) (by first | omega | (simp; omega) | (simp; done))
          replace h1 : w54.heap[w.heap.size + 1]? = some (.cells #[.int .i64 f.o.x, .int .i64 f.o.y, .int .i64 f.p.x, .int .i64 f.p.y, .int .i64 f.q.x, .int .i64 f.q.y, .int .i64 f.r.x, .int .i64 f.r.y] 27 (0, 0)) := hb_below hb (by repeat (first | exact h1 | (refine hb_new ?_; (first | omega | (simp; omega) | (simp; done))) | (refine hb_old ?_ ?_; rotate_left; focus (first | omega | (simp; omega) | (simp; done))) | refine hb_drew ?_)) (by first | omega | (simp; omega) | (simp; done))
          replace h2 : w54.heap[w.heap.size + 1 + 1]? = some (.cells #[.int .i64 m.a, .int .i64 m.b, .int .i64 m.c, .int .i64 m.d] 40 (0, 0)) := hb_below hb (by repeat (first | exact h2 | (refine hb_new ?_; (first | omega | (simp; omega) | (simp; done))) | (refine hb_old ?_ ?_; rotate_left; focus (first | omega | (simp; omega) | (simp; done))) | refine hb_drew ?_)) (by first | omega | (simp; omega) | (simp; done))
          replace h3 : w54.heap[b]? = some og := hb_below hb (by repeat (first | exact h3 | (refine hb_new ?_; (first | omega | (simp; omega) | (simp; done))) | (refine hb_old ?_ ?_; rotate_left; focus (first | omega | (simp; omega) | (simp; done))) | refine hb_drew ?_)) (by first | omega | (simp; omega) | (simp; done))
          replace h4 : w54.heap[b4]? = some (.cells #[.int .i64 P.x, .int .i64 P.y] 25 (0, 0)) := hb_below hb (by repeat (first | exact h4 | (refine hb_new ?_; (first | omega | (simp; omega) | (simp; done))) | (refine hb_old ?_ ?_; rotate_left; focus (first | omega | (simp; omega) | (simp; done))) | refine hb_drew ?_)) (by first | omega | (simp; omega) | (simp; done))
          replace h5 : w54.heap[b5]? = some (.cells #[.int .i64 Q.x, .int .i64 Q.y] 25 (0, 0)) := hb_below hb (by repeat (first | exact h5 | (refine hb_new ?_; (first | omega | (simp; omega) | (simp; done))) | (refine hb_old ?_ ?_; rotate_left; focus (first | omega | (simp; omega) | (simp; done))) | refine hb_drew ?_)) (by first | omega | (simp; omega) | (simp; done))
          replace h6 : w54.heap[b6]? = some (.cells #[.int .i64 R.x, .int .i64 R.y] 25 (0, 0)) := hb_below hb (by repeat (first | exact h6 | (refine hb_new ?_; (first | omega | (simp; omega) | (simp; done))) | (refine hb_old ?_ ?_; rotate_left; focus (first | omega | (simp; omega) | (simp; done))) | refine hb_drew ?_)) (by first | omega | (simp; omega) | (simp; done))
          have y54 := Below.size hb
          try simp only [World.size_alloc, World.size_drew] at y54
          have D54 := Lib.hid (show Below w.heap.size w w54 from Below.trans (by repeat (first | exact D53.out | exact Below.refl _ _ | refine Below.alloc ?_ (by first | omega | (simp; omega) | (simp; done)) _)) (Below.mono hb (by first | omega | (simp; omega) | (simp; done))))
          have z54 := D54.out.size
          clear hb
          try clear c0_0 f0_0 c0_1 f0_1 c0_2 f0_2
          obtain ⟨c0_0, f0_0, c0_1, f0_1, c0_2, f0_2⟩ := cells3 h0
          try clear c1_0 f1_0 c1_1 f1_1 c1_2 f1_2 c1_3 f1_3 c1_4 f1_4 c1_5 f1_5 c1_6 f1_6 c1_7 f1_7
          obtain ⟨c1_0, f1_0, c1_1, f1_1, c1_2, f1_2, c1_3, f1_3, c1_4, f1_4, c1_5, f1_5, c1_6, f1_6, c1_7, f1_7⟩ := cells8 h1
          try clear c2_0 f2_0 c2_1 f2_1 c2_2 f2_2 c2_3 f2_3
          obtain ⟨c2_0, f2_0, c2_1, f2_1, c2_2, f2_2, c2_3, f2_3⟩ := cells4 h2
          try clear c4_0 f4_0 c4_1 f4_1
          obtain ⟨c4_0, f4_0, c4_1, f4_1⟩ := cells2 h4
          try clear c5_0 f5_0 c5_1 f5_1
          obtain ⟨c5_0, f5_0, c5_1, f5_1⟩ := cells2 h5
          try clear c6_0 f6_0 c6_1 f6_1
          obtain ⟨c6_0, f6_0, c6_1, f6_1⟩ := cells2 h6
          go_wp2_with fail
          go_ret
          exact ⟨by first | rfl | (simp [*]; done) | (simp; omega), D54.out⟩
theorem keep_any (l : Lat) (f : Four) (m : Mat) (w : World) (g : Glob w) : Calls Tryd.prog 8 #[l.val, f.val, m.val] w fun e w' => e = .returned (.bool true) ∧ Below w.heap.size w w' := by
  cases h : okL l
  · exact keep_bad l f m h w g
  · exact keep_okl l f m ((okL_iff l).1 h) w g
end Go.Proofs.YtjekfkmcgfnkaaaDoor
