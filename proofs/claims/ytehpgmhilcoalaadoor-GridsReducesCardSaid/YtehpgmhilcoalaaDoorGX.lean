/- Group. -/
import Derived.Test.YtehpgmhilcoalaaDoorGW
namespace Go.Proofs.YtehpgmhilcoalaaDoor
open Go.RowKit Go.Lib
set_option linter.unusedSimpArgs false
set_option linter.unusedVariables false
set_option maxHeartbeats 1000000 in
set_option maxRecDepth 100000 in
theorem Group_bad (l : Lat) (hl : okL l = false) (w : World) : Calls Tryd.prog 24 #[l.val] w fun e w' => e = .returned (.tuple #[.slice none 0 0, .int .i64 2]) ∧ Below w.heap.size w w' := by
  have C1 := fun W => validLattice_any l W
  rw [hl] at C1
  unfold Lat.val at *
  have H1 := Lib.hid C1
  clear C1
  go_enter Tryd.func24, Tryd.ntmps24
  go_wp2_with fail
  go_wp2_with fail
  refine (H1.out _).mono ?_
  rintro e w1 ⟨rfl, hb⟩
  have h0 : w1.heap[w.heap.size]? = some (.cells #[.int .i64 l.a, .int .i64 l.b, .int .i64 l.c] 23 (0, 0)) := hb_below hb (by repeat (first | (refine hb_new ?_; (first | omega | (simp; omega) | (simp; done))) | (refine hb_old ?_ ?_; rotate_left; focus (first | omega | (simp; omega) | (simp; done))) | refine hb_drew ?_)) (by first | omega | (simp; omega) | (simp; done))
  have y1 := Below.size hb
  try simp only [World.size_alloc, World.size_drew] at y1
  have D1 := Lib.hid (show Below w.heap.size w w1 from Below.trans (by repeat (first | exact Below.refl _ _ | refine Below.alloc ?_ (by first | omega | (simp; omega) | (simp; done)) _)) (Below.mono hb (by first | omega | (simp; omega) | (simp; done))))
  have z1 := D1.out.size
  clear hb
  try clear c0_0
  have c0_0 := cell_of_heap h0 (j := 0) rfl
  try clear f0_0
  have f0_0 := frozen_of_heap h0 0
  try clear c0_1
  have c0_1 := cell_of_heap h0 (j := 1) rfl
  try clear f0_1
  have f0_1 := frozen_of_heap h0 1
  try clear c0_2
  have c0_2 := cell_of_heap h0 (j := 2) rfl
  try clear f0_2
  have f0_2 := frozen_of_heap h0 2
  go_wp2_with fail
  go_ret2
  exact ⟨rfl, (by repeat (first | exact D1.out | exact Below.refl _ _ | refine Below.alloc ?_ (by first | omega | (simp; omega) | (simp; done)) _))⟩
/-- The group of a lattice as a list. -/
def IsGroup (l : Lat) (G : List Mat) : Prop := (∀ m, m ∈ G ↔ led l m = l) ∧ G.Pairwise (fun m n => mlt m n = true) ∧ (G.length = 2 ∨ G.length = 4 ∨ G.length = 8 ∨ G.length = 12)
theorem inv_ok {m : Mat} (h : Mok m) (u : Unit1 m) : Mok m.inv := by
  unfold Mok at *
  unfold Mat.inv
  rcases u with u | u <;> rw [u] <;> simp only <;> omega
set_option maxHeartbeats 4000000 in
set_option maxRecDepth 100000 in
theorem Group_ok (l : Lat) (hl : Ok l) (w : World) (g : Glob w) : Calls Tryd.prog 24 #[l.val] w fun e w' => ∃ ao cap G, e = .returned (.tuple #[.slice ao G.length cap, .int .i64 0]) ∧ MsAt w' ao G ∧ IsGroup l G ∧ Below w.heap.size w w' := by
  have C0 := fun W => validLattice_any l W
  rw [(okL_iff l).2 hl] at C0
  have C1 := fun W g => leaders_any l hl W g
  have Hl := Lib.hid hl
  have HG := Lib.hid g
  clear hl g
  unfold Lat.val at *
  have H0 := Lib.hid C0
  have H1 := Lib.hid C1
  clear C0 C1
  go_enter Tryd.func24, Tryd.ntmps24
  go_wp2_with fail
  go_wp2_with fail
  refine (H0.out _).mono ?_
  rintro e w1 ⟨rfl, hb⟩
  have h0 : w1.heap[w.heap.size]? = some (.cells #[.int .i64 l.a, .int .i64 l.b, .int .i64 l.c] 23 (0, 0)) := hb_below hb (by repeat (first | (refine hb_new ?_; (first | omega | (simp; omega) | (simp; done))) | (refine hb_old ?_ ?_; rotate_left; focus (first | omega | (simp; omega) | (simp; done))) | refine hb_drew ?_)) (by first | omega | (simp; omega) | (simp; done))
  have y1 := Below.size hb
  try simp only [World.size_alloc, World.size_drew] at y1
  have D1 := Lib.hid (show Below w.heap.size w w1 from Below.trans (by repeat (first | exact Below.refl _ _ | refine Below.alloc ?_ (by first | omega | (simp; omega) | (simp; done)) _)) (Below.mono hb (by first | omega | (simp; omega) | (simp; done))))
  have z1 := D1.out.size
  clear hb
  try clear c0_0
  have c0_0 := cell_of_heap h0 (j := 0) rfl
  try clear f0_0
  have f0_0 := frozen_of_heap h0 0
  try clear c0_1
  have c0_1 := cell_of_heap h0 (j := 1) rfl
  try clear f0_1
  have f0_1 := frozen_of_heap h0 1
  try clear c0_2
  have c0_2 := cell_of_heap h0 (j := 2) rfl
  try clear f0_2
  have f0_2 := frozen_of_heap h0 2
  go_wp2_with fail
  refine (H1.out _ (HG.out.next D1.out)).mono ?_
  rintro e w2 ⟨L, M, ao, cap, rfl, hL, hfr, hb⟩
  replace h0 : w2.heap[w.heap.size]? = some (.cells #[.int .i64 l.a, .int .i64 l.b, .int .i64 l.c] 23 (0, 0)) := hb_below hb (by repeat (first | exact h0 | (refine hb_new ?_; (first | omega | (simp; omega) | (simp; done))) | (refine hb_old ?_ ?_; rotate_left; focus (first | omega | (simp; omega) | (simp; done))) | refine hb_drew ?_)) (by first | omega | (simp; omega) | (simp; done))
  have y2 := Below.size hb
  try simp only [World.size_alloc, World.size_drew] at y2
  have D2 := Lib.hid (show Below w.heap.size w w2 from Below.trans (by repeat (first | exact D1.out | exact Below.refl _ _ | refine Below.alloc ?_ (by first | omega | (simp; omega) | (simp; done)) _)) (Below.mono hb (by first | omega | (simp; omega) | (simp; done))))
  have z2 := D2.out.size
  clear hb
  try clear c0_0
  have c0_0 := cell_of_heap h0 (j := 0) rfl
  try clear f0_0
  have f0_0 := frozen_of_heap h0 0
  try clear c0_1
  have c0_1 := cell_of_heap h0 (j := 1) rfl
  try clear f0_1
  have f0_1 := frozen_of_heap h0 1
  try clear c0_2
  have c0_2 := cell_of_heap h0 (j := 2) rfl
  try clear f0_2
  have f0_2 := frozen_of_heap h0 2
  have hmem : ∀ x ∈ keepL L 81, led l (M.times x) = L := fun x hx => by rw [led_times, hL.2.2.2]; exact (mem_keepL hL.1 x).1 hx
  have hlen := keepL_len hL.1
  obtain ⟨k0, hk0⟩ : ∃ k0, (keepL L 81)[0]? = some k0 := ⟨_, List.getElem?_eq_getElem (by omega)⟩
  have hk0m := List.mem_of_getElem? hk0
  have hk0L := (mem_keepL hL.1 k0).1 hk0m
  have hL7 := hL.2.1
  have hdL : 1 ≤ L.a * L.c - L.b * L.b := hL7.2.2.2.2.2.2
  have hu0 : Unit1 k0 := unit_of_led hdL rfl hk0L
  have hX0 : Mok (M.times k0) := lead_ok Hl.out (r := L) ⟨hL7.2.1, hL7.2.2.2.2.2.1⟩ (hmem k0 hk0m)
  have huX : Unit1 (M.times k0) := unit_times hL.2.2.1 hu0
  have hXi := inv_ok hX0 huX
  have hgm := fun m => group_mem hL.1 hL.2.2.1 hL.2.2.2 hk0L hu0 m
  have hgn := group_nodup L hL.2.2.1 hu0
  generalize hX : M.times k0 = X at *
  have CI := fun W => inverse_any X W
  rw [mok_w hXi] at CI
  generalize hY : X.inv = Y at *
  obtain ⟨R, hR⟩ : ∃ R, R = (keepL L 81).map fun k => M.times k := ⟨_, rfl⟩
  rw [← hR] at hfr
  have hRl : (keepL L 81).length = R.length := by rw [hR, List.length_map]
  have hR0 : R[0]? = some X := by rw [hR, List.getElem?_map, hk0]; exact congrArg some hX
  have hRm : R.map (fun k => k.times Y) = (keepL L 81).map fun k => (M.times k).times Y := by rw [hR, List.map_map]; rfl
  rw [hRl] at hlen ⊢
  rw [← hRm] at hgm hgn
  have hm : ∀ x ∈ R, Mok ((fun k => k.times Y) x) := fun x hx => lead_ok Hl.out (r := l) ⟨Hl.out.2.1, Hl.out.2.2.2.2.2.1⟩ ((hgm _).1 (List.mem_map.2 ⟨x, hx, rfl⟩))
  have HM := Lib.hid hm
  have HGM := Lib.hid hgm
  have HGN := Lib.hid hgn
  have HLN := Lib.hid hlen
  have hpos : 0 < R.length := by omega
  have hnl : R.length ≤ 12 := by omega
  obtain ⟨b, off, hao, hBb, hb2, hr, _⟩ := hfr.at hR0
  subst hao
  rw [Nat.zero_mul, Nat.add_zero] at hr
  unfold Lat.val Mat.val at *
  have HI := Lib.hid CI
  have HF := Lib.hid hfr
  clear hm hgm hgn hlen CI hfr hmem hk0 hk0m hk0L hL hL7 hdL hu0 hX0 huX hXi hX hY hR hRl hR0 hRm
  have q0 : (0 : Int) < ((R.length : Nat) : Int) := by omega
  have hr2 : (w2.alloc (.cells #[.int .i64 L.a, .int .i64 L.b, .int .i64 L.c] 23)).rangeAt b off (ml X) := range_belowM hr (below_alloc w2 _) hb2
  have e0 : (w2.alloc (.cells #[.int .i64 L.a, .int .i64 L.b, .int .i64 L.c] 23)).cell? ⟨b, off, none⟩ = some (.int .i64 X.a) := hr2 0 _ rfl
  have e1 : (w2.alloc (.cells #[.int .i64 L.a, .int .i64 L.b, .int .i64 L.c] 23)).cell? ⟨b, off + 1, none⟩ = some (.int .i64 X.b) := hr2 1 _ rfl
  have e2 : (w2.alloc (.cells #[.int .i64 L.a, .int .i64 L.b, .int .i64 L.c] 23)).cell? ⟨b, off + 2, none⟩ = some (.int .i64 X.c) := hr2 2 _ rfl
  have e3 : (w2.alloc (.cells #[.int .i64 L.a, .int .i64 L.b, .int .i64 L.c] 23)).cell? ⟨b, off + 3, none⟩ = some (.int .i64 X.d) := hr2 3 _ rfl
  clear hr hr2
  go_wp2_with fail
  clear e0
  clear e1
  clear e2
  clear e3
  obtain ⟨w3, hw3⟩ : ∃ W, W = (w2.alloc (.cells #[.int .i64 L.a, .int .i64 L.b, .int .i64 L.c] 23)) := ⟨_, rfl⟩
  rw [← hw3]
  replace h0 : w3.heap[w.heap.size]? = some (.cells #[.int .i64 l.a, .int .i64 l.b, .int .i64 l.c] 23 (0, 0)) := by rw [hw3]; exact (by repeat (first | exact h0 | (refine hb_new ?_; (first | omega | (simp; omega) | (simp; done))) | (refine hb_old ?_ ?_; rotate_left; focus (first | omega | (simp; omega) | (simp; done))) | refine hb_drew ?_))
  have h1 : w3.heap[w2.heap.size]? = some (.cells #[.int .i64 L.a, .int .i64 L.b, .int .i64 L.c] 23 (0, 0)) := by rw [hw3]; exact (by repeat (first | (refine hb_new ?_; (first | omega | (simp; omega) | (simp; done))) | (refine hb_old ?_ ?_; rotate_left; focus (first | omega | (simp; omega) | (simp; done))) | refine hb_drew ?_))
  have hb : Below w2.heap.size w2 w3 := by rw [hw3]; exact (by repeat (first | exact Below.refl _ _ | refine Below.alloc ?_ (by first | omega | (simp; omega) | (simp; done)) _ | refine Below.drew ?_))
  replace HF := Lib.hid (FR.below HF.out hb)
  have s3 : w2.heap.size + 1 ≤ w3.heap.size := by rw [hw3]; simp
  have y3 := Below.size hb
  try simp only [World.size_alloc, World.size_drew] at y3
  have D3 := Lib.hid (show Below w.heap.size w w3 from Below.trans (by repeat (first | exact D2.out | exact Below.refl _ _ | refine Below.alloc ?_ (by first | omega | (simp; omega) | (simp; done)) _)) (Below.mono hb (by first | omega | (simp; omega) | (simp; done))))
  have z3 := D3.out.size
  clear hb hw3
  try clear c0_0
  have c0_0 := cell_of_heap h0 (j := 0) rfl
  try clear f0_0
  have f0_0 := frozen_of_heap h0 0
  try clear c0_1
  have c0_1 := cell_of_heap h0 (j := 1) rfl
  try clear f0_1
  have f0_1 := frozen_of_heap h0 1
  try clear c0_2
  have c0_2 := cell_of_heap h0 (j := 2) rfl
  try clear f0_2
  have f0_2 := frozen_of_heap h0 2
  try clear c1_0
  have c1_0 := cell_of_heap h1 (j := 0) rfl
  try clear f1_0
  have f1_0 := frozen_of_heap h1 0
  try clear c1_1
  have c1_1 := cell_of_heap h1 (j := 1) rfl
  try clear f1_1
  have f1_1 := frozen_of_heap h1 1
  try clear c1_2
  have c1_2 := cell_of_heap h1 (j := 2) rfl
  try clear f1_2
  have f1_2 := frozen_of_heap h1 2
  refine (HI.out _).mono ?_
  rintro e w4 ⟨rfl, hb⟩
  replace h0 : w4.heap[w.heap.size]? = some (.cells #[.int .i64 l.a, .int .i64 l.b, .int .i64 l.c] 23 (0, 0)) := hb_below hb (by repeat (first | exact h0 | (refine hb_new ?_; (first | omega | (simp; omega) | (simp; done))) | (refine hb_old ?_ ?_; rotate_left; focus (first | omega | (simp; omega) | (simp; done))) | refine hb_drew ?_)) (by first | omega | (simp; omega) | (simp; done))
  replace h1 : w4.heap[w2.heap.size]? = some (.cells #[.int .i64 L.a, .int .i64 L.b, .int .i64 L.c] 23 (0, 0)) := hb_below hb (by repeat (first | exact h1 | (refine hb_new ?_; (first | omega | (simp; omega) | (simp; done))) | (refine hb_old ?_ ?_; rotate_left; focus (first | omega | (simp; omega) | (simp; done))) | refine hb_drew ?_)) (by first | omega | (simp; omega) | (simp; done))
  replace HF := Lib.hid (FR.below (FR.below HF.out (by repeat (first | exact Below.refl _ _ | refine Below.alloc ?_ (by first | omega | (simp; omega) | (simp; done)) _ | refine Below.drew ?_))) (Below.mono hb (by first | exact Nat.le_refl _ | (simp; done))))
  have y4 := Below.size hb
  try simp only [World.size_alloc, World.size_drew] at y4
  have D4 := Lib.hid (show Below w.heap.size w w4 from Below.trans (by repeat (first | exact D3.out | exact Below.refl _ _ | refine Below.alloc ?_ (by first | omega | (simp; omega) | (simp; done)) _)) (Below.mono hb (by first | omega | (simp; omega) | (simp; done))))
  have z4 := D4.out.size
  clear hb
  try clear c0_0
  have c0_0 := cell_of_heap h0 (j := 0) rfl
  try clear f0_0
  have f0_0 := frozen_of_heap h0 0
  try clear c0_1
  have c0_1 := cell_of_heap h0 (j := 1) rfl
  try clear f0_1
  have f0_1 := frozen_of_heap h0 1
  try clear c0_2
  have c0_2 := cell_of_heap h0 (j := 2) rfl
  try clear f0_2
  have f0_2 := frozen_of_heap h0 2
  try clear c1_0
  have c1_0 := cell_of_heap h1 (j := 0) rfl
  try clear f1_0
  have f1_0 := frozen_of_heap h1 0
  try clear c1_1
  have c1_1 := cell_of_heap h1 (j := 1) rfl
  try clear f1_1
  have f1_1 := frozen_of_heap h1 1
  try clear c1_2
  have c1_2 := cell_of_heap h1 (j := 2) rfl
  try clear f1_2
  have f1_2 := frozen_of_heap h1 2
  go_wp2_with fail
  obtain ⟨w5, hw5⟩ : ∃ W, W = (w4.alloc (.cells #[.int .i64 Y.a, .int .i64 Y.b, .int .i64 Y.c, .int .i64 Y.d] 40)) := ⟨_, rfl⟩
  rw [← hw5]
  replace h0 : w5.heap[w.heap.size]? = some (.cells #[.int .i64 l.a, .int .i64 l.b, .int .i64 l.c] 23 (0, 0)) := by rw [hw5]; exact (by repeat (first | exact h0 | (refine hb_new ?_; (first | omega | (simp; omega) | (simp; done))) | (refine hb_old ?_ ?_; rotate_left; focus (first | omega | (simp; omega) | (simp; done))) | refine hb_drew ?_))
  replace h1 : w5.heap[w2.heap.size]? = some (.cells #[.int .i64 L.a, .int .i64 L.b, .int .i64 L.c] 23 (0, 0)) := by rw [hw5]; exact (by repeat (first | exact h1 | (refine hb_new ?_; (first | omega | (simp; omega) | (simp; done))) | (refine hb_old ?_ ?_; rotate_left; focus (first | omega | (simp; omega) | (simp; done))) | refine hb_drew ?_))
  have h2 : w5.heap[w4.heap.size]? = some (.cells #[.int .i64 Y.a, .int .i64 Y.b, .int .i64 Y.c, .int .i64 Y.d] 40 (0, 0)) := by rw [hw5]; exact (by repeat (first | (refine hb_new ?_; (first | omega | (simp; omega) | (simp; done))) | (refine hb_old ?_ ?_; rotate_left; focus (first | omega | (simp; omega) | (simp; done))) | refine hb_drew ?_))
  have hb : Below w4.heap.size w4 w5 := by rw [hw5]; exact (by repeat (first | exact Below.refl _ _ | refine Below.alloc ?_ (by first | omega | (simp; omega) | (simp; done)) _ | refine Below.drew ?_))
  replace HF := Lib.hid (FR.below HF.out hb)
  have s5 : w4.heap.size + 1 ≤ w5.heap.size := by rw [hw5]; simp
  have y5 := Below.size hb
  try simp only [World.size_alloc, World.size_drew] at y5
  have D5 := Lib.hid (show Below w.heap.size w w5 from Below.trans (by repeat (first | exact D4.out | exact Below.refl _ _ | refine Below.alloc ?_ (by first | omega | (simp; omega) | (simp; done)) _)) (Below.mono hb (by first | omega | (simp; omega) | (simp; done))))
  have z5 := D5.out.size
  clear hb hw5
  try clear c0_0
  have c0_0 := cell_of_heap h0 (j := 0) rfl
  try clear f0_0
  have f0_0 := frozen_of_heap h0 0
  try clear c0_1
  have c0_1 := cell_of_heap h0 (j := 1) rfl
  try clear f0_1
  have f0_1 := frozen_of_heap h0 1
  try clear c0_2
  have c0_2 := cell_of_heap h0 (j := 2) rfl
  try clear f0_2
  have f0_2 := frozen_of_heap h0 2
  try clear c1_0
  have c1_0 := cell_of_heap h1 (j := 0) rfl
  try clear f1_0
  have f1_0 := frozen_of_heap h1 0
  try clear c1_1
  have c1_1 := cell_of_heap h1 (j := 1) rfl
  try clear f1_1
  have f1_1 := frozen_of_heap h1 1
  try clear c1_2
  have c1_2 := cell_of_heap h1 (j := 2) rfl
  try clear f1_2
  have f1_2 := frozen_of_heap h1 2
  try clear c2_0
  have c2_0 := cell_of_heap h2 (j := 0) rfl
  try clear f2_0
  have f2_0 := frozen_of_heap h2 0
  try clear c2_1
  have c2_1 := cell_of_heap h2 (j := 1) rfl
  try clear f2_1
  have f2_1 := frozen_of_heap h2 1
  try clear c2_2
  have c2_2 := cell_of_heap h2 (j := 2) rfl
  try clear f2_2
  have f2_2 := frozen_of_heap h2 2
  try clear c2_3
  have c2_3 := cell_of_heap h2 (j := 3) rfl
  try clear f2_3
  have f2_3 := frozen_of_heap h2 3
  have z5_B : w5.heap.size ≤ w5.heap.size := Nat.le_refl _
  go_loopg [23] R.length (fun kk s wr => ∃ j : Nat, j ≤ R.length ∧ R.length - j ≤ kk ∧ s = .int .i64 j ∧ FR w1.heap.size wr (some ⟨b, off, none⟩) cap ((R.take j).map (fun k => k.times Y) ++ R.drop j) ∧ wr.heap[w.heap.size]? = some (.cells #[.int .i64 l.a, .int .i64 l.b, .int .i64 l.c] 23 (0, 0)) ∧ wr.heap[w2.heap.size]? = some (.cells #[.int .i64 L.a, .int .i64 L.b, .int .i64 L.c] 23 (0, 0)) ∧ wr.heap[w4.heap.size]? = some (.cells #[.int .i64 Y.a, .int .i64 Y.b, .int .i64 Y.c, .int .i64 Y.d] 40 (0, 0)) ∧ w5.heap.size ≤ wr.heap.size ∧ Below w.heap.size w wr)
  case atStart => exact ⟨0, Nat.zero_le _, by omega, rfl, by simpa using HF.out, h0, h1, h2, z5_B, D5.out⟩
  case round =>
    rename World => w50
    obtain ⟨j, hj, hkk, rfl, hfr, g0, g1, g2, y50, hb⟩ := hrel
    clear h0
    clear h1
    clear h2
    try clear c0_0
    try clear f0_0
    try clear c0_1
    try clear f0_1
    try clear c0_2
    try clear f0_2
    try clear c1_0
    try clear f1_0
    try clear c1_1
    try clear f1_1
    try clear c1_2
    try clear f1_2
    try clear c2_0
    try clear f2_0
    try clear c2_1
    try clear f2_1
    try clear c2_2
    try clear f2_2
    try clear c2_3
    try clear f2_3
    have h0 := g0
    clear g0
    have h1 := g1
    clear g1
    have h2 := g2
    clear g2
    have D50 := Lib.hid hb
    have z50 := D50.out.size
    replace HF := Lib.hid hfr
    clear hb hfr
    try clear c0_0
    have c0_0 := cell_of_heap h0 (j := 0) rfl
    try clear f0_0
    have f0_0 := frozen_of_heap h0 0
    try clear c0_1
    have c0_1 := cell_of_heap h0 (j := 1) rfl
    try clear f0_1
    have f0_1 := frozen_of_heap h0 1
    try clear c0_2
    have c0_2 := cell_of_heap h0 (j := 2) rfl
    try clear f0_2
    have f0_2 := frozen_of_heap h0 2
    try clear c1_0
    have c1_0 := cell_of_heap h1 (j := 0) rfl
    try clear f1_0
    have f1_0 := frozen_of_heap h1 0
    try clear c1_1
    have c1_1 := cell_of_heap h1 (j := 1) rfl
    try clear f1_1
    have f1_1 := frozen_of_heap h1 1
    try clear c1_2
    have c1_2 := cell_of_heap h1 (j := 2) rfl
    try clear f1_2
    have f1_2 := frozen_of_heap h1 2
    try clear c2_0
    have c2_0 := cell_of_heap h2 (j := 0) rfl
    try clear f2_0
    have f2_0 := frozen_of_heap h2 0
    try clear c2_1
    have c2_1 := cell_of_heap h2 (j := 1) rfl
    try clear f2_1
    have f2_1 := frozen_of_heap h2 1
    try clear c2_2
    have c2_2 := cell_of_heap h2 (j := 2) rfl
    try clear f2_2
    have f2_2 := frozen_of_heap h2 2
    try clear c2_3
    have c2_3 := cell_of_heap h2 (j := 3) rfl
    try clear f2_3
    have f2_3 := frozen_of_heap h2 3
    by_cases hlt : j < R.length
    · obtain ⟨x, hx⟩ : ∃ x, R[j]? = some x := ⟨_, List.getElem?_eq_getElem hlt⟩
      have j0 : (0 : Int) ≤ (j : Int) := by omega
      have j1 : (j : Int) < ((R.length : Nat) : Int) := by omega
      obtain ⟨b, off, hao, hBb, hbs, hr, _⟩ := HF.out.at (ls_get (f := (fun k => k.times Y)) hx)
      cases hao
      have e0 : w50.cell? ⟨b, off + j * 4, none⟩ = some (.int .i64 x.a) := hr 0 _ rfl
      have e1 : w50.cell? ⟨b, off + j * 4 + 1, none⟩ = some (.int .i64 x.b) := hr 1 _ rfl
      have e2 : w50.cell? ⟨b, off + j * 4 + 2, none⟩ = some (.int .i64 x.c) := hr 2 _ rfl
      have e3 : w50.cell? ⟨b, off + j * 4 + 3, none⟩ = some (.int .i64 x.d) := hr 3 _ rfl
      have CT := fun W => times_any x Y W
      rw [mok_w (HM.out x (List.mem_of_getElem? hx))] at CT
      unfold Mat.val at CT
      generalize hx2 : x.times Y = x2 at *
      have HT := Lib.hid CT
      have HX := Lib.hid hx
      have HX2 := Lib.hid hx2
      clear CT hx hx2 hr
      have ha2 : (w50.alloc (.cells #[.int .i64 x.a, .int .i64 x.b, .int .i64 x.c, .int .i64 x.d] 40)).heap[w4.heap.size]? = some (.cells #[.int .i64 Y.a, .int .i64 Y.b, .int .i64 Y.c, .int .i64 Y.d] 40 (0, 0)) := (by repeat (first | exact h2 | (refine hb_new ?_; (first | omega | (simp; omega) | (simp; done))) | (refine hb_old ?_ ?_; rotate_left; focus (first | omega | (simp; omega) | (simp; done))) | refine hb_drew ?_))
      have ca2_0 := cell_of_heap ha2 (j := 0) rfl
      have fa2_0 := frozen_of_heap ha2 0
      have ca2_1 := cell_of_heap ha2 (j := 1) rfl
      have fa2_1 := frozen_of_heap ha2 1
      have ca2_2 := cell_of_heap ha2 (j := 2) rfl
      have fa2_2 := frozen_of_heap ha2 2
      have ca2_3 := cell_of_heap ha2 (j := 3) rfl
      have fa2_3 := frozen_of_heap ha2 3
      go_wp2_with fail
      obtain ⟨w51, hw51⟩ : ∃ W, W = (w50.alloc (.cells #[.int .i64 x.a, .int .i64 x.b, .int .i64 x.c, .int .i64 x.d] 40)) := ⟨_, rfl⟩
      rw [← hw51]
      replace h0 : w51.heap[w.heap.size]? = some (.cells #[.int .i64 l.a, .int .i64 l.b, .int .i64 l.c] 23 (0, 0)) := by rw [hw51]; exact (by repeat (first | exact h0 | (refine hb_new ?_; (first | omega | (simp; omega) | (simp; done))) | (refine hb_old ?_ ?_; rotate_left; focus (first | omega | (simp; omega) | (simp; done))) | refine hb_drew ?_))
      replace h1 : w51.heap[w2.heap.size]? = some (.cells #[.int .i64 L.a, .int .i64 L.b, .int .i64 L.c] 23 (0, 0)) := by rw [hw51]; exact (by repeat (first | exact h1 | (refine hb_new ?_; (first | omega | (simp; omega) | (simp; done))) | (refine hb_old ?_ ?_; rotate_left; focus (first | omega | (simp; omega) | (simp; done))) | refine hb_drew ?_))
      replace h2 : w51.heap[w4.heap.size]? = some (.cells #[.int .i64 Y.a, .int .i64 Y.b, .int .i64 Y.c, .int .i64 Y.d] 40 (0, 0)) := by rw [hw51]; exact (by repeat (first | exact h2 | (refine hb_new ?_; (first | omega | (simp; omega) | (simp; done))) | (refine hb_old ?_ ?_; rotate_left; focus (first | omega | (simp; omega) | (simp; done))) | refine hb_drew ?_))
      have h3 : w51.heap[w50.heap.size]? = some (.cells #[.int .i64 x.a, .int .i64 x.b, .int .i64 x.c, .int .i64 x.d] 40 (0, 0)) := by rw [hw51]; exact (by repeat (first | (refine hb_new ?_; (first | omega | (simp; omega) | (simp; done))) | (refine hb_old ?_ ?_; rotate_left; focus (first | omega | (simp; omega) | (simp; done))) | refine hb_drew ?_))
      have hb : Below w50.heap.size w50 w51 := by rw [hw51]; exact (by repeat (first | exact Below.refl _ _ | refine Below.alloc ?_ (by first | omega | (simp; omega) | (simp; done)) _ | refine Below.drew ?_))
      replace HF := Lib.hid (FR.below HF.out hb)
      have s51 : w50.heap.size + 1 ≤ w51.heap.size := by rw [hw51]; simp
      have y51 := Below.size hb
      try simp only [World.size_alloc, World.size_drew] at y51
      have D51 := Lib.hid (show Below w.heap.size w w51 from Below.trans (by repeat (first | exact D50.out | exact Below.refl _ _ | refine Below.alloc ?_ (by first | omega | (simp; omega) | (simp; done)) _)) (Below.mono hb (by first | omega | (simp; omega) | (simp; done))))
      have z51 := D51.out.size
      clear hb hw51
      try clear c0_0
      have c0_0 := cell_of_heap h0 (j := 0) rfl
      try clear f0_0
      have f0_0 := frozen_of_heap h0 0
      try clear c0_1
      have c0_1 := cell_of_heap h0 (j := 1) rfl
      try clear f0_1
      have f0_1 := frozen_of_heap h0 1
      try clear c0_2
      have c0_2 := cell_of_heap h0 (j := 2) rfl
      try clear f0_2
      have f0_2 := frozen_of_heap h0 2
      try clear c1_0
      have c1_0 := cell_of_heap h1 (j := 0) rfl
      try clear f1_0
      have f1_0 := frozen_of_heap h1 0
      try clear c1_1
      have c1_1 := cell_of_heap h1 (j := 1) rfl
      try clear f1_1
      have f1_1 := frozen_of_heap h1 1
      try clear c1_2
      have c1_2 := cell_of_heap h1 (j := 2) rfl
      try clear f1_2
      have f1_2 := frozen_of_heap h1 2
      try clear c2_0
      have c2_0 := cell_of_heap h2 (j := 0) rfl
      try clear f2_0
      have f2_0 := frozen_of_heap h2 0
      try clear c2_1
      have c2_1 := cell_of_heap h2 (j := 1) rfl
      try clear f2_1
      have f2_1 := frozen_of_heap h2 1
      try clear c2_2
      have c2_2 := cell_of_heap h2 (j := 2) rfl
      try clear f2_2
      have f2_2 := frozen_of_heap h2 2
      try clear c2_3
      have c2_3 := cell_of_heap h2 (j := 3) rfl
      try clear f2_3
      have f2_3 := frozen_of_heap h2 3
      try clear c3_0
      have c3_0 := cell_of_heap h3 (j := 0) rfl
      try clear f3_0
      have f3_0 := frozen_of_heap h3 0
      try clear c3_1
      have c3_1 := cell_of_heap h3 (j := 1) rfl
      try clear f3_1
      have f3_1 := frozen_of_heap h3 1
      try clear c3_2
      have c3_2 := cell_of_heap h3 (j := 2) rfl
      try clear f3_2
      have f3_2 := frozen_of_heap h3 2
      try clear c3_3
      have c3_3 := cell_of_heap h3 (j := 3) rfl
      try clear f3_3
      have f3_3 := frozen_of_heap h3 3
      refine (HT.out _).mono ?_
      rintro e w52 ⟨rfl, hb⟩
      replace h0 : w52.heap[w.heap.size]? = some (.cells #[.int .i64 l.a, .int .i64 l.b, .int .i64 l.c] 23 (0, 0)) := hb_below hb (by repeat (first | exact h0 | (refine hb_new ?_; (first | omega | (simp; omega) | (simp; done))) | (refine hb_old ?_ ?_; rotate_left; focus (first | omega | (simp; omega) | (simp; done))) | refine hb_drew ?_)) (by first | omega | (simp; omega) | (simp; done))
      replace h1 : w52.heap[w2.heap.size]? = some (.cells #[.int .i64 L.a, .int .i64 L.b, .int .i64 L.c] 23 (0, 0)) := hb_below hb (by repeat (first | exact h1 | (refine hb_new ?_; (first | omega | (simp; omega) | (simp; done))) | (refine hb_old ?_ ?_; rotate_left; focus (first | omega | (simp; omega) | (simp; done))) | refine hb_drew ?_)) (by first | omega | (simp; omega) | (simp; done))
      replace h2 : w52.heap[w4.heap.size]? = some (.cells #[.int .i64 Y.a, .int .i64 Y.b, .int .i64 Y.c, .int .i64 Y.d] 40 (0, 0)) := hb_below hb (by repeat (first | exact h2 | (refine hb_new ?_; (first | omega | (simp; omega) | (simp; done))) | (refine hb_old ?_ ?_; rotate_left; focus (first | omega | (simp; omega) | (simp; done))) | refine hb_drew ?_)) (by first | omega | (simp; omega) | (simp; done))
      replace h3 : w52.heap[w50.heap.size]? = some (.cells #[.int .i64 x.a, .int .i64 x.b, .int .i64 x.c, .int .i64 x.d] 40 (0, 0)) := hb_below hb (by repeat (first | exact h3 | (refine hb_new ?_; (first | omega | (simp; omega) | (simp; done))) | (refine hb_old ?_ ?_; rotate_left; focus (first | omega | (simp; omega) | (simp; done))) | refine hb_drew ?_)) (by first | omega | (simp; omega) | (simp; done))
      replace HF := Lib.hid (FR.below (FR.below HF.out (by repeat (first | exact Below.refl _ _ | refine Below.alloc ?_ (by first | omega | (simp; omega) | (simp; done)) _ | refine Below.drew ?_))) (Below.mono hb (by first | exact Nat.le_refl _ | (simp; done))))
      have y52 := Below.size hb
      try simp only [World.size_alloc, World.size_drew] at y52
      have D52 := Lib.hid (show Below w.heap.size w w52 from Below.trans (by repeat (first | exact D51.out | exact Below.refl _ _ | refine Below.alloc ?_ (by first | omega | (simp; omega) | (simp; done)) _)) (Below.mono hb (by first | omega | (simp; omega) | (simp; done))))
      have z52 := D52.out.size
      clear hb
      try clear c0_0
      have c0_0 := cell_of_heap h0 (j := 0) rfl
      try clear f0_0
      have f0_0 := frozen_of_heap h0 0
      try clear c0_1
      have c0_1 := cell_of_heap h0 (j := 1) rfl
      try clear f0_1
      have f0_1 := frozen_of_heap h0 1
      try clear c0_2
      have c0_2 := cell_of_heap h0 (j := 2) rfl
      try clear f0_2
      have f0_2 := frozen_of_heap h0 2
      try clear c1_0
      have c1_0 := cell_of_heap h1 (j := 0) rfl
      try clear f1_0
      have f1_0 := frozen_of_heap h1 0
      try clear c1_1
      have c1_1 := cell_of_heap h1 (j := 1) rfl
      try clear f1_1
      have f1_1 := frozen_of_heap h1 1
      try clear c1_2
      have c1_2 := cell_of_heap h1 (j := 2) rfl
      try clear f1_2
      have f1_2 := frozen_of_heap h1 2
      try clear c2_0
      have c2_0 := cell_of_heap h2 (j := 0) rfl
      try clear f2_0
      have f2_0 := frozen_of_heap h2 0
      try clear c2_1
      have c2_1 := cell_of_heap h2 (j := 1) rfl
      try clear f2_1
      have f2_1 := frozen_of_heap h2 1
      try clear c2_2
      have c2_2 := cell_of_heap h2 (j := 2) rfl
      try clear f2_2
      have f2_2 := frozen_of_heap h2 2
      try clear c2_3
      have c2_3 := cell_of_heap h2 (j := 3) rfl
      try clear f2_3
      have f2_3 := frozen_of_heap h2 3
      try clear c3_0
      have c3_0 := cell_of_heap h3 (j := 0) rfl
      try clear f3_0
      have f3_0 := frozen_of_heap h3 0
      try clear c3_1
      have c3_1 := cell_of_heap h3 (j := 1) rfl
      try clear f3_1
      have f3_1 := frozen_of_heap h3 1
      try clear c3_2
      have c3_2 := cell_of_heap h3 (j := 2) rfl
      try clear f3_2
      have f3_2 := frozen_of_heap h3 2
      try clear c3_3
      have c3_3 := cell_of_heap h3 (j := 3) rfl
      try clear f3_3
      have f3_3 := frozen_of_heap h3 3
      obtain ⟨b', off', hao, _, hbs2, hr, ht⟩ := HF.out.at (ls_get (f := (fun k => k.times Y)) HX.out)
      cases hao
      replace e0 : w52.cell? ⟨b, off + j * 4, none⟩ = some (.int .i64 x.a) := hr 0 _ rfl
      have f0 : w52.frozen? ⟨b, off + j * 4, none⟩ = false := (ht 0 (by omega)).2
      replace e1 : w52.cell? ⟨b, off + j * 4 + 1, none⟩ = some (.int .i64 x.b) := hr 1 _ rfl
      have f1 : w52.frozen? ⟨b, off + j * 4 + 1, none⟩ = false := (ht 1 (by omega)).2
      replace e2 : w52.cell? ⟨b, off + j * 4 + 2, none⟩ = some (.int .i64 x.c) := hr 2 _ rfl
      have f2 : w52.frozen? ⟨b, off + j * 4 + 2, none⟩ = false := (ht 2 (by omega)).2
      replace e3 : w52.cell? ⟨b, off + j * 4 + 3, none⟩ = some (.int .i64 x.d) := hr 3 _ rfl
      have f3 : w52.frozen? ⟨b, off + j * 4 + 3, none⟩ = false := (ht 3 (by omega)).2
      clear hr ht
      go_wp2_with fail
      have hset := HF.out.set (k := j) (by rw [ls_len _ _ hj]; exact hlt) x2
      have hls : ((R.take j).map (fun k => k.times Y) ++ R.drop j).set j x2 = (R.take (j + 1)).map (fun k => k.times Y) ++ R.drop (j + 1) := by rw [← HX2.out]; exact ls_set (f := (fun k => k.times Y)) HX.out
      rw [hls] at hset
      have hbS := below_setCells (Below.refl w1.heap.size w52) hBb (off + j * 4) (ml x2)
      have hk0 : (w52.setCells b (off + j * 4) (ml x2)).heap[w.heap.size]? = some (.cells #[.int .i64 l.a, .int .i64 l.b, .int .i64 l.c] 23 (0, 0)) := (heap_setCells_other (by omega) _ _ _).trans h0
      have hk1 : (w52.setCells b (off + j * 4) (ml x2)).heap[w2.heap.size]? = some (.cells #[.int .i64 L.a, .int .i64 L.b, .int .i64 L.c] 23 (0, 0)) := (heap_setCells_other (by omega) _ _ _).trans h1
      have hk2 : (w52.setCells b (off + j * 4) (ml x2)).heap[w4.heap.size]? = some (.cells #[.int .i64 Y.a, .int .i64 Y.b, .int .i64 Y.c, .int .i64 Y.d] 40 (0, 0)) := (heap_setCells_other (by omega) _ _ _).trans h2
      go_roundg (R.length - (j + 1))
      case measure => omega
      case rel => exact ⟨j + 1, hlt, Nat.le_refl _, by go_num, hset, hk0, hk1, hk2, Nat.le_trans (by omega) hbS.size, D52.out.trans (hbS.mono (by omega))⟩
    · obtain rfl : j = R.length := by omega
      have hfr := HF.out
      rw [List.take_length, List.drop_length, List.append_nil] at hfr
      have hRl : (R.map fun k => k.times Y).length = R.length := by simp
      have CS := sort_any hfr (by rw [hRl]; exact hpos) (by rw [hRl]; have := HLN.out; omega) HGN.out
      rw [hRl] at CS
      have HS := Lib.hid CS
      clear CS hfr HF
      go_wp2_with fail
      refine (HS.out).mono ?_
      rintro e w60 ⟨rfl, G, hperm, hsort, hms, hbs⟩
      have D60 := Lib.hid (hbs _ _ D50.out (by omega))
      have hGl : G.length = R.length := by rw [hperm.length_eq, hRl]
      go_wp2_with fail
      skip
      go_ret2
      exact ⟨_, cap, G, by rw [hGl]; rfl, hms, ⟨fun m => by rw [hperm.mem_iff]; exact HGM.out m, hsort, by rw [hGl]; exact HLN.out⟩, D60.out⟩
end Go.Proofs.YtehpgmhilcoalaaDoor
