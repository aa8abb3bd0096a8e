/- The results that every law of the grids asks for. -/
import Derived.Test.YtehpgmhilcoalaaDoorGL
import Derived.Test.YtehpgmhilcoalaaDoorGZ
import Derived.Test.YtehpgmhilcoalaaDoorHA
import Derived.Test.YtehpgmhilcoalaaDoorHB
namespace Go.Proofs.YtehpgmhilcoalaaDoor
open Go.RowKit Go.Lib
set_option linter.unusedSimpArgs false
set_option linter.unusedVariables false
theorem hex_len {G : List Mat} (h : IsGroup ⟨2, 1, 2⟩ G) : G.length = 12 := by
  have hr : Red ⟨2, 1, 2⟩ := by unfold Red; simp only; omega
  have hn : G.Nodup := List.Pairwise.imp (fun {a b} (hab : mlt a b = true) (e : a = b) => mlt_irrefl b (by rw [e] at hab; exact hab)) h.2.1
  have hp : G.Perm (keepL ⟨2, 1, 2⟩ 81) := (List.perm_ext_iff_of_nodup hn (keepL_nodup _)).2 fun m => by rw [h.1 m, mem_keepL hr m]
  rw [hp.length_eq]
  decide +kernel
theorem red_known {L : Lat} {m : Mat} (h : IsRed ⟨5, 7, 10⟩ L m) : L = ⟨1, 0, 1⟩ ∧ m = ⟨-3, -1, 2, 1⟩ := by
  obtain ⟨h1, h2, h3, h4, h5, h6⟩ := h
  have hg : Unit1 ⟨-3, -1, 2, 1⟩ := by unfold Unit1 Mat.det; simp only; omega
  have hgl : led ⟨5, 7, 10⟩ ⟨-3, -1, 2, 1⟩ = ⟨1, 0, 1⟩ := by decide +kernel
  have hr : Red ⟨1, 0, 1⟩ := by unfold Red; simp only; omega
  have hL : led ⟨1, 0, 1⟩ ((Mat.inv ⟨-3, -1, 2, 1⟩).times m) = L := by
    have e : led ⟨1, 0, 1⟩ (Mat.inv ⟨-3, -1, 2, 1⟩) = ⟨5, 7, 10⟩ := by rw [← hgl, ← led_times, times_inv hg, led_one]
    rw [led_times, e]; exact h5
  have hLe := red_unique hr h1 (unit_times (unit_inv hg) h3) hL
  subst hLe
  refine ⟨rfl, ?_⟩
  obtain ⟨k, hk, rfl⟩ := (lead_iff hg hgl m).1 h5
  have hm := (mem_keepL hr k).2 hk
  have hall : ∀ k ∈ keepL ⟨1, 0, 1⟩ 81, ¬ mlt (Mat.times ⟨-3, -1, 2, 1⟩ k) ⟨-3, -1, 2, 1⟩ = true := by decide +kernel
  rcases mlt_total (Mat.times ⟨-3, -1, 2, 1⟩ k) ⟨-3, -1, 2, 1⟩ with q | q | q
  · exact absurd q (hall k hm)
  · exact q
  · exact absurd q (h6 _ hgl)
set_option maxHeartbeats 4000000 in
set_option maxRecDepth 100000 in
theorem awake_any (w : World) (g : Glob w) : Calls Tryd.prog 19 #[] w fun e w' => e = .returned (.bool true) ∧ Below w.heap.size w w' := by
  have HG := Lib.hid g
  clear g
  have P00 := fun W => lPt_any 0 0 W
  have P11 := fun W => lPt_any 1 1 W
  have P10 := fun W => lPt_any 1 0 W
  have P01 := fun W => lPt_any 0 1 W
  have P1m := fun W => lPt_any 1 (-1) W
  have P34 := fun W => lPt_any 3 4 W
  have P12 := fun W => lPt_any 1 2 W
  have P15 := fun W => lPt_any 1 5 W
  have M1 := fun W => lMat_any 0 (-1) 1 0 W
  have M2 := fun W => lMat_any 1 (-1) 1 0 W
  have M3 := fun W => lMat_any (-3) (-1) 2 1 W
  have CS := fun W => Square_any ⟨2, 1, 2⟩ ⟨0, 0⟩ ⟨1, 1⟩ W
  rw [show gv (okL ⟨2, 1, 2⟩ && (okP ⟨0, 0⟩ && okP ⟨1, 1⟩ && okP ⟨1, 1⟩)) (wrap64 (prod ⟨2, 1, 2⟩ (stepP ⟨0, 0⟩ ⟨1, 1⟩).w (stepP ⟨0, 0⟩ ⟨1, 1⟩).w)) = 6 by decide +kernel, show errIf (okL ⟨2, 1, 2⟩ && (okP ⟨0, 0⟩ && okP ⟨1, 1⟩ && okP ⟨1, 1⟩)) = 0 by decide +kernel] at CS
  have CD := fun W => Side_any ⟨0, 0⟩ ⟨1, 0⟩ ⟨0, 1⟩ W
  rw [show gv (okP ⟨0, 0⟩ && okP ⟨1, 0⟩ && okP ⟨0, 1⟩) (cmpI (wrap64 (crossP (stepP ⟨0, 0⟩ ⟨1, 0⟩).w (stepP ⟨0, 0⟩ ⟨0, 1⟩).w)) 0) = 1 by decide +kernel, show errIf (okP ⟨0, 0⟩ && okP ⟨1, 0⟩ && okP ⟨0, 1⟩) = 0 by decide +kernel] at CD
  have CT := fun W => Turn_any ⟨0, 0⟩ ⟨1, 0⟩ ⟨1, -1⟩ ⟨0, 1⟩ W
  rw [show gv (okT ⟨0, 0⟩ ⟨1, 0⟩ ⟨1, -1⟩ ⟨0, 1⟩) (turnV (stepP ⟨0, 0⟩ ⟨1, 0⟩).w (stepP ⟨0, 0⟩ ⟨1, -1⟩).w (stepP ⟨0, 0⟩ ⟨0, 1⟩).w) = 1 by decide +kernel, show errIf (okT ⟨0, 0⟩ ⟨1, 0⟩ ⟨1, -1⟩ ⟨0, 1⟩) = 0 by decide +kernel] at CT
  have CG := fun W g => Group_ok ⟨2, 1, 2⟩ ((okL_iff _).1 (by decide +kernel)) W g
  have CA := fun W => Apply_any ⟨⟨0, -1, 1, 0⟩, ⟨3, 4⟩⟩ ⟨1, 2⟩ W
  rw [show appV ⟨⟨0, -1, 1, 0⟩, ⟨3, 4⟩⟩ ⟨1, 2⟩ = ⟨1, 5⟩ by decide +kernel, show appE ⟨⟨0, -1, 1, 0⟩, ⟨3, 4⟩⟩ ⟨1, 2⟩ = 0 by decide +kernel] at CA
  have CO := fun W g => Order_ok ⟨1, -1, 1, 0⟩ ((okM_iff _).1 (by decide +kernel)) W g
  rw [show ordV ⟨1, -1, 1, 0⟩ = 6 by decide +kernel] at CO
  have CR := fun W g => Reduce_ok ⟨5, 7, 10⟩ ((okL_iff _).1 (by decide +kernel)) W g
  simp only [Lat.val, Pt.val, Mat.val, Mov.val] at P00 P11 P10 P01 P1m P34 P12 P15 M1 M2 M3 CS CD CT CG CA CO CR
  have hP00 := Lib.hid P00
  have hP11 := Lib.hid P11
  have hP10 := Lib.hid P10
  have hP01 := Lib.hid P01
  have hP1m := Lib.hid P1m
  have hP34 := Lib.hid P34
  have hP12 := Lib.hid P12
  have hP15 := Lib.hid P15
  have hM1 := Lib.hid M1
  have hM2 := Lib.hid M2
  have hM3 := Lib.hid M3
  have hCS := Lib.hid CS
  have hCD := Lib.hid CD
  have hCT := Lib.hid CT
  have hCG := Lib.hid CG
  have hCA := Lib.hid CA
  have hCO := Lib.hid CO
  have hCR := Lib.hid CR
  clear P00 P11 P10 P01 P1m P34 P12 P15 M1 M2 M3 CS CD CT CG CA CO CR
  go_enter Tryd.func19, Tryd.ntmps19
  go_wp2_with fail
  go_wp2_with fail
  obtain ⟨w1, hw1⟩ : ∃ W, W = (w.alloc (.cells #[.int .i64 2, .int .i64 1, .int .i64 2] 23)) := ⟨_, rfl⟩
  rw [← hw1]
  have h0 : w1.heap[w.heap.size]? = some (.cells #[.int .i64 2, .int .i64 1, .int .i64 2] 23 (0, 0)) := by rw [hw1]; exact (by repeat (first | (refine hb_new ?_; (first | omega | (simp; omega) | (simp; done))) | (refine hb_old ?_ ?_; rotate_left; focus (first | omega | (simp; omega) | (simp; done))) | refine hb_drew ?_))
  have hb : Below w.heap.size w w1 := by rw [hw1]; exact (by repeat (first | exact Below.refl _ _ | refine Below.alloc ?_ (by first | omega | (simp; omega) | (simp; done)) _ | refine Below.drew ?_))
  have s1 : w.heap.size + 1 ≤ w1.heap.size := by rw [hw1]; simp
  have y1 := Below.size hb
  try simp only [World.size_alloc, World.size_drew] at y1
  have D1 := Lib.hid (show Below w.heap.size w w1 from Below.trans (by repeat (first | exact Below.refl _ _ | refine Below.alloc ?_ (by first | omega | (simp; omega) | (simp; done)) _)) (Below.mono hb (by first | omega | (simp; omega) | (simp; done))))
  have z1 := D1.out.size
  clear hb hw1
  try clear c0_0
  have c0_0 := cell_of_heap h0 (j := 0) rfl
  try clear f0_0
  have f0_0 := frozen_of_heap h0 0
  try clear c0_1
  have c0_1 := cell_of_heap h0 (j := 1) rfl
  try clear f0_1
  have f0_1 := frozen_of_heap h0 1
  try clear c0_2
  have c0_2 := cell_of_heap h0 (j := 2) rfl
  try clear f0_2
  have f0_2 := frozen_of_heap h0 2
  try clear c0_0
  try clear f0_0
  try clear c0_1
  try clear f0_1
  try clear c0_2
  try clear f0_2
  refine wp_region_class (fun w' => Below w1.heap.size w1 w') 8 (by kernel_rfl) (by kernel_rfl) (Below.refl _ w1).drew ?_
  simp only [List.take_succ_cons, List.take_zero, List.drop_succ_cons, List.drop_zero]
  refine quiet_load_mid rfl _ _ rfl _ _ rfl _ _ (fun w' h => range_of_heap (hb_below h h0 (by omega))) Tryd.underlying23 rfl (by kernel_rfl) ?_
  simp only [Act.put, List.setIfInBounds_toArray, List.set_cons_zero, List.set_cons_succ]
  refine quiet_call rfl 45 _ _ rfl (enter_of Tryd.func45 (by decide) (by intro h; cases h)) _ (in_class_b hP00.out) ?_
  simp only [Act.put, List.setIfInBounds_toArray, List.set_cons_zero, List.set_cons_succ]
  refine quiet_call rfl 45 _ _ rfl (enter_of Tryd.func45 (by decide) (by intro h; cases h)) _ (in_class_b hP11.out) ?_
  simp only [Act.put, List.setIfInBounds_toArray, List.set_cons_zero, List.set_cons_succ]
  refine quiet_call rfl 13 _ _ rfl (enter_of Tryd.func13 (by decide) (by intro h; cases h)) _ (in_class_b hCS.out) ?_
  simp only [Act.put, List.setIfInBounds_toArray, List.set_cons_zero, List.set_cons_succ]
  refine quiet_move rfl _ rfl ?_
  simp only [Act.put, List.setIfInBounds_toArray, List.set_cons_zero, List.set_cons_succ]
  refine quiet_still rfl (.int .i64 6) (fun w _ => by go_simp) ?_
  simp only [Act.put, List.setIfInBounds_toArray, List.set_cons_zero, List.set_cons_succ]
  refine quiet_still rfl (.int .i64 0) (fun w _ => by go_simp) ?_
  simp only [Act.put, List.setIfInBounds_toArray, List.set_cons_zero, List.set_cons_succ]
  refine quiet_still rfl (.int .i64 6) (fun w _ => by go_simp) ?_
  simp only [Act.put, List.setIfInBounds_toArray, List.set_cons_zero, List.set_cons_succ]
  intro w2 hb
  replace h0 : w2.heap[w.heap.size]? = some (.cells #[.int .i64 2, .int .i64 1, .int .i64 2] 23 (0, 0)) := hb_below hb (by repeat (first | exact h0 | (refine hb_new ?_; (first | omega | (simp; omega) | (simp; done))) | (refine hb_old ?_ ?_; rotate_left; focus (first | omega | (simp; omega) | (simp; done))) | refine hb_drew ?_)) (by first | omega | (simp; omega) | (simp; done))
  have y2 := Below.size hb
  try simp only [World.size_alloc, World.size_drew] at y2
  have D2 := Lib.hid (show Below w.heap.size w w2 from Below.trans (by repeat (first | exact D1.out | exact Below.refl _ _ | refine Below.alloc ?_ (by first | omega | (simp; omega) | (simp; done)) _)) (Below.mono hb (by first | omega | (simp; omega) | (simp; done))))
  have z2 := D2.out.size
  clear hb
  try clear c0_0
  have c0_0 := cell_of_heap h0 (j := 0) rfl
  try clear f0_0
  have f0_0 := frozen_of_heap h0 0
  try clear c0_1
  have c0_1 := cell_of_heap h0 (j := 1) rfl
  try clear f0_1
  have f0_1 := frozen_of_heap h0 1
  try clear c0_2
  have c0_2 := cell_of_heap h0 (j := 2) rfl
  try clear f0_2
  have f0_2 := frozen_of_heap h0 2
  go_wp2_with fail
  refine (hP00.out _).mono ?_
  rintro e w3 ⟨rfl, hb⟩
  replace h0 : w3.heap[w.heap.size]? = some (.cells #[.int .i64 2, .int .i64 1, .int .i64 2] 23 (0, 0)) := hb_below hb (by repeat (first | exact h0 | (refine hb_new ?_; (first | omega | (simp; omega) | (simp; done))) | (refine hb_old ?_ ?_; rotate_left; focus (first | omega | (simp; omega) | (simp; done))) | refine hb_drew ?_)) (by first | omega | (simp; omega) | (simp; done))
  have y3 := Below.size hb
  try simp only [World.size_alloc, World.size_drew] at y3
  have D3 := Lib.hid (show Below w.heap.size w w3 from Below.trans (by repeat (first | exact D2.out | exact Below.refl _ _ | refine Below.alloc ?_ (by first | omega | (simp; omega) | (simp; done)) _)) (Below.mono hb (by first | omega | (simp; omega) | (simp; done))))
  have z3 := D3.out.size
  clear hb
  try clear c0_0
  have c0_0 := cell_of_heap h0 (j := 0) rfl
  try clear f0_0
  have f0_0 := frozen_of_heap h0 0
  try clear c0_1
  have c0_1 := cell_of_heap h0 (j := 1) rfl
  try clear f0_1
  have f0_1 := frozen_of_heap h0 1
  try clear c0_2
  have c0_2 := cell_of_heap h0 (j := 2) rfl
  try clear f0_2
  have f0_2 := frozen_of_heap h0 2
  go_wp2_with fail
  refine (hP10.out _).mono ?_
  rintro e w4 ⟨rfl, hb⟩
  replace h0 : w4.heap[w.heap.size]? = some (.cells #[.int .i64 2, .int .i64 1, .int .i64 2] 23 (0, 0)) := hb_below hb (by repeat (first | exact h0 | (refine hb_new ?_; (first | omega | (simp; omega) | (simp; done))) | (refine hb_old ?_ ?_; rotate_left; focus (first | omega | (simp; omega) | (simp; done))) | refine hb_drew ?_)) (by first | omega | (simp; omega) | (simp; done))
  have y4 := Below.size hb
  try simp only [World.size_alloc, World.size_drew] at y4
  have D4 := Lib.hid (show Below w.heap.size w w4 from Below.trans (by repeat (first | exact D3.out | exact Below.refl _ _ | refine Below.alloc ?_ (by first | omega | (simp; omega) | (simp; done)) _)) (Below.mono hb (by first | omega | (simp; omega) | (simp; done))))
  have z4 := D4.out.size
  clear hb
  try clear c0_0
  have c0_0 := cell_of_heap h0 (j := 0) rfl
  try clear f0_0
  have f0_0 := frozen_of_heap h0 0
  try clear c0_1
  have c0_1 := cell_of_heap h0 (j := 1) rfl
  try clear f0_1
  have f0_1 := frozen_of_heap h0 1
  try clear c0_2
  have c0_2 := cell_of_heap h0 (j := 2) rfl
  try clear f0_2
  have f0_2 := frozen_of_heap h0 2
  go_wp2_with fail
  refine (hP01.out _).mono ?_
  rintro e w5 ⟨rfl, hb⟩
  replace h0 : w5.heap[w.heap.size]? = some (.cells #[.int .i64 2, .int .i64 1, .int .i64 2] 23 (0, 0)) := hb_below hb (by repeat (first | exact h0 | (refine hb_new ?_; (first | omega | (simp; omega) | (simp; done))) | (refine hb_old ?_ ?_; rotate_left; focus (first | omega | (simp; omega) | (simp; done))) | refine hb_drew ?_)) (by first | omega | (simp; omega) | (simp; done))
  have y5 := Below.size hb
  try simp only [World.size_alloc, World.size_drew] at y5
  have D5 := Lib.hid (show Below w.heap.size w w5 from Below.trans (by repeat (first | exact D4.out | exact Below.refl _ _ | refine Below.alloc ?_ (by first | omega | (simp; omega) | (simp; done)) _)) (Below.mono hb (by first | omega | (simp; omega) | (simp; done))))
  have z5 := D5.out.size
  clear hb
  try clear c0_0
  have c0_0 := cell_of_heap h0 (j := 0) rfl
  try clear f0_0
  have f0_0 := frozen_of_heap h0 0
  try clear c0_1
  have c0_1 := cell_of_heap h0 (j := 1) rfl
  try clear f0_1
  have f0_1 := frozen_of_heap h0 1
  try clear c0_2
  have c0_2 := cell_of_heap h0 (j := 2) rfl
  try clear f0_2
  have f0_2 := frozen_of_heap h0 2
  go_wp2_with fail
  refine (hCD.out _).mono ?_
  rintro e w6 ⟨rfl, hb⟩
  replace h0 : w6.heap[w.heap.size]? = some (.cells #[.int .i64 2, .int .i64 1, .int .i64 2] 23 (0, 0)) := hb_below hb (by repeat (first | exact h0 | (refine hb_new ?_; (first | omega | (simp; omega) | (simp; done))) | (refine hb_old ?_ ?_; rotate_left; focus (first | omega | (simp; omega) | (simp; done))) | refine hb_drew ?_)) (by first | omega | (simp; omega) | (simp; done))
  have y6 := Below.size hb
  try simp only [World.size_alloc, World.size_drew] at y6
  have D6 := Lib.hid (show Below w.heap.size w w6 from Below.trans (by repeat (first | exact D5.out | exact Below.refl _ _ | refine Below.alloc ?_ (by first | omega | (simp; omega) | (simp; done)) _)) (Below.mono hb (by first | omega | (simp; omega) | (simp; done))))
  have z6 := D6.out.size
  clear hb
  try clear c0_0
  have c0_0 := cell_of_heap h0 (j := 0) rfl
  try clear f0_0
  have f0_0 := frozen_of_heap h0 0
  try clear c0_1
  have c0_1 := cell_of_heap h0 (j := 1) rfl
  try clear f0_1
  have f0_1 := frozen_of_heap h0 1
  try clear c0_2
  have c0_2 := cell_of_heap h0 (j := 2) rfl
  try clear f0_2
  have f0_2 := frozen_of_heap h0 2
  go_wp2_with fail
  refine (hP00.out _).mono ?_
  rintro e w7 ⟨rfl, hb⟩
  replace h0 : w7.heap[w.heap.size]? = some (.cells #[.int .i64 2, .int .i64 1, .int .i64 2] 23 (0, 0)) := hb_below hb (by repeat (first | exact h0 | (refine hb_new ?_; (first | omega | (simp; omega) | (simp; done))) | (refine hb_old ?_ ?_; rotate_left; focus (first | omega | (simp; omega) | (simp; done))) | refine hb_drew ?_)) (by first | omega | (simp; omega) | (simp; done))
  have y7 := Below.size hb
  try simp only [World.size_alloc, World.size_drew] at y7
  have D7 := Lib.hid (show Below w.heap.size w w7 from Below.trans (by repeat (first | exact D6.out | exact Below.refl _ _ | refine Below.alloc ?_ (by first | omega | (simp; omega) | (simp; done)) _)) (Below.mono hb (by first | omega | (simp; omega) | (simp; done))))
  have z7 := D7.out.size
  clear hb
  try clear c0_0
  have c0_0 := cell_of_heap h0 (j := 0) rfl
  try clear f0_0
  have f0_0 := frozen_of_heap h0 0
  try clear c0_1
  have c0_1 := cell_of_heap h0 (j := 1) rfl
  try clear f0_1
  have f0_1 := frozen_of_heap h0 1
  try clear c0_2
  have c0_2 := cell_of_heap h0 (j := 2) rfl
  try clear f0_2
  have f0_2 := frozen_of_heap h0 2
  go_wp2_with fail
  refine (hP10.out _).mono ?_
  rintro e w8 ⟨rfl, hb⟩
  replace h0 : w8.heap[w.heap.size]? = some (.cells #[.int .i64 2, .int .i64 1, .int .i64 2] 23 (0, 0)) := hb_below hb (by repeat (first | exact h0 | (refine hb_new ?_; (first | omega | (simp; omega) | (simp; done))) | (refine hb_old ?_ ?_; rotate_left; focus (first | omega | (simp; omega) | (simp; done))) | refine hb_drew ?_)) (by first | omega | (simp; omega) | (simp; done))
  have y8 := Below.size hb
  try simp only [World.size_alloc, World.size_drew] at y8
  have D8 := Lib.hid (show Below w.heap.size w w8 from Below.trans (by repeat (first | exact D7.out | exact Below.refl _ _ | refine Below.alloc ?_ (by first | omega | (simp; omega) | (simp; done)) _)) (Below.mono hb (by first | omega | (simp; omega) | (simp; done))))
  have z8 := D8.out.size
  clear hb
  try clear c0_0
  have c0_0 := cell_of_heap h0 (j := 0) rfl
  try clear f0_0
  have f0_0 := frozen_of_heap h0 0
  try clear c0_1
  have c0_1 := cell_of_heap h0 (j := 1) rfl
  try clear f0_1
  have f0_1 := frozen_of_heap h0 1
  try clear c0_2
  have c0_2 := cell_of_heap h0 (j := 2) rfl
  try clear f0_2
  have f0_2 := frozen_of_heap h0 2
  go_wp2_with fail
  refine (hP1m.out _).mono ?_
  rintro e w9 ⟨rfl, hb⟩
  replace h0 : w9.heap[w.heap.size]? = some (.cells #[.int .i64 2, .int .i64 1, .int .i64 2] 23 (0, 0)) := hb_below hb (by repeat (first | exact h0 | (refine hb_new ?_; (first | omega | (simp; omega) | (simp; done))) | (refine hb_old ?_ ?_; rotate_left; focus (first | omega | (simp; omega) | (simp; done))) | refine hb_drew ?_)) (by first | omega | (simp; omega) | (simp; done))
  have y9 := Below.size hb
  try simp only [World.size_alloc, World.size_drew] at y9
  have D9 := Lib.hid (show Below w.heap.size w w9 from Below.trans (by repeat (first | exact D8.out | exact Below.refl _ _ | refine Below.alloc ?_ (by first | omega | (simp; omega) | (simp; done)) _)) (Below.mono hb (by first | omega | (simp; omega) | (simp; done))))
  have z9 := D9.out.size
  clear hb
  try clear c0_0
  have c0_0 := cell_of_heap h0 (j := 0) rfl
  try clear f0_0
  have f0_0 := frozen_of_heap h0 0
  try clear c0_1
  have c0_1 := cell_of_heap h0 (j := 1) rfl
  try clear f0_1
  have f0_1 := frozen_of_heap h0 1
  try clear c0_2
  have c0_2 := cell_of_heap h0 (j := 2) rfl
  try clear f0_2
  have f0_2 := frozen_of_heap h0 2
  go_wp2_with fail
  refine (hP01.out _).mono ?_
  rintro e w10 ⟨rfl, hb⟩
  replace h0 : w10.heap[w.heap.size]? = some (.cells #[.int .i64 2, .int .i64 1, .int .i64 2] 23 (0, 0)) := hb_below hb (by repeat (first | exact h0 | (refine hb_new ?_; (first | omega | (simp; omega) | (simp; done))) | (refine hb_old ?_ ?_; rotate_left; focus (first | omega | (simp; omega) | (simp; done))) | refine hb_drew ?_)) (by first | omega | (simp; omega) | (simp; done))
  have y10 := Below.size hb
  try simp only [World.size_alloc, World.size_drew] at y10
  have D10 := Lib.hid (show Below w.heap.size w w10 from Below.trans (by repeat (first | exact D9.out | exact Below.refl _ _ | refine Below.alloc ?_ (by first | omega | (simp; omega) | (simp; done)) _)) (Below.mono hb (by first | omega | (simp; omega) | (simp; done))))
  have z10 := D10.out.size
  clear hb
  try clear c0_0
  have c0_0 := cell_of_heap h0 (j := 0) rfl
  try clear f0_0
  have f0_0 := frozen_of_heap h0 0
  try clear c0_1
  have c0_1 := cell_of_heap h0 (j := 1) rfl
  try clear f0_1
  have f0_1 := frozen_of_heap h0 1
  try clear c0_2
  have c0_2 := cell_of_heap h0 (j := 2) rfl
  try clear f0_2
  have f0_2 := frozen_of_heap h0 2
  go_wp2_with fail
  refine (hCT.out _).mono ?_
  rintro e w11 ⟨rfl, hb⟩
  replace h0 : w11.heap[w.heap.size]? = some (.cells #[.int .i64 2, .int .i64 1, .int .i64 2] 23 (0, 0)) := hb_below hb (by repeat (first | exact h0 | (refine hb_new ?_; (first | omega | (simp; omega) | (simp; done))) | (refine hb_old ?_ ?_; rotate_left; focus (first | omega | (simp; omega) | (simp; done))) | refine hb_drew ?_)) (by first | omega | (simp; omega) | (simp; done))
  have y11 := Below.size hb
  try simp only [World.size_alloc, World.size_drew] at y11
  have D11 := Lib.hid (show Below w.heap.size w w11 from Below.trans (by repeat (first | exact D10.out | exact Below.refl _ _ | refine Below.alloc ?_ (by first | omega | (simp; omega) | (simp; done)) _)) (Below.mono hb (by first | omega | (simp; omega) | (simp; done))))
  have z11 := D11.out.size
  clear hb
  try clear c0_0
  have c0_0 := cell_of_heap h0 (j := 0) rfl
  try clear f0_0
  have f0_0 := frozen_of_heap h0 0
  try clear c0_1
  have c0_1 := cell_of_heap h0 (j := 1) rfl
  try clear f0_1
  have f0_1 := frozen_of_heap h0 1
  try clear c0_2
  have c0_2 := cell_of_heap h0 (j := 2) rfl
  try clear f0_2
  have f0_2 := frozen_of_heap h0 2
  go_wp2_with fail
  refine (hCG.out _ (HG.out.next D11.out)).mono ?_
  rintro e w12 ⟨ao, cap, G, rfl, hms, hig, hb⟩
  replace h0 : w12.heap[w.heap.size]? = some (.cells #[.int .i64 2, .int .i64 1, .int .i64 2] 23 (0, 0)) := hb_below hb (by repeat (first | exact h0 | (refine hb_new ?_; (first | omega | (simp; omega) | (simp; done))) | (refine hb_old ?_ ?_; rotate_left; focus (first | omega | (simp; omega) | (simp; done))) | refine hb_drew ?_)) (by first | omega | (simp; omega) | (simp; done))
  have y12 := Below.size hb
  try simp only [World.size_alloc, World.size_drew] at y12
  have D12 := Lib.hid (show Below w.heap.size w w12 from Below.trans (by repeat (first | exact D11.out | exact Below.refl _ _ | refine Below.alloc ?_ (by first | omega | (simp; omega) | (simp; done)) _)) (Below.mono hb (by first | omega | (simp; omega) | (simp; done))))
  have z12 := D12.out.size
  clear hb
  try clear c0_0
  have c0_0 := cell_of_heap h0 (j := 0) rfl
  try clear f0_0
  have f0_0 := frozen_of_heap h0 0
  try clear c0_1
  have c0_1 := cell_of_heap h0 (j := 1) rfl
  try clear f0_1
  have f0_1 := frozen_of_heap h0 1
  try clear c0_2
  have c0_2 := cell_of_heap h0 (j := 2) rfl
  try clear f0_2
  have f0_2 := frozen_of_heap h0 2
  have hGl := hex_len hig
  rw [hGl]
  clear hms hig hGl
  go_wp2_with fail
  refine (hM1.out _).mono ?_
  rintro e w13 ⟨rfl, hb⟩
  replace h0 : w13.heap[w.heap.size]? = some (.cells #[.int .i64 2, .int .i64 1, .int .i64 2] 23 (0, 0)) := hb_below hb (by repeat (first | exact h0 | (refine hb_new ?_; (first | omega | (simp; omega) | (simp; done))) | (refine hb_old ?_ ?_; rotate_left; focus (first | omega | (simp; omega) | (simp; done))) | refine hb_drew ?_)) (by first | omega | (simp; omega) | (simp; done))
  have y13 := Below.size hb
  try simp only [World.size_alloc, World.size_drew] at y13
  have D13 := Lib.hid (show Below w.heap.size w w13 from Below.trans (by repeat (first | exact D12.out | exact Below.refl _ _ | refine Below.alloc ?_ (by first | omega | (simp; omega) | (simp; done)) _)) (Below.mono hb (by first | omega | (simp; omega) | (simp; done))))
  have z13 := D13.out.size
  clear hb
  try clear c0_0
  have c0_0 := cell_of_heap h0 (j := 0) rfl
  try clear f0_0
  have f0_0 := frozen_of_heap h0 0
  try clear c0_1
  have c0_1 := cell_of_heap h0 (j := 1) rfl
  try clear f0_1
  have f0_1 := frozen_of_heap h0 1
  try clear c0_2
  have c0_2 := cell_of_heap h0 (j := 2) rfl
  try clear f0_2
  have f0_2 := frozen_of_heap h0 2
  go_wp2_with fail
  refine (hP34.out _).mono ?_
  rintro e w14 ⟨rfl, hb⟩
  replace h0 : w14.heap[w.heap.size]? = some (.cells #[.int .i64 2, .int .i64 1, .int .i64 2] 23 (0, 0)) := hb_below hb (by repeat (first | exact h0 | (refine hb_new ?_; (first | omega | (simp; omega) | (simp; done))) | (refine hb_old ?_ ?_; rotate_left; focus (first | omega | (simp; omega) | (simp; done))) | refine hb_drew ?_)) (by first | omega | (simp; omega) | (simp; done))
  have y14 := Below.size hb
  try simp only [World.size_alloc, World.size_drew] at y14
  have D14 := Lib.hid (show Below w.heap.size w w14 from Below.trans (by repeat (first | exact D13.out | exact Below.refl _ _ | refine Below.alloc ?_ (by first | omega | (simp; omega) | (simp; done)) _)) (Below.mono hb (by first | omega | (simp; omega) | (simp; done))))
  have z14 := D14.out.size
  clear hb
  try clear c0_0
  have c0_0 := cell_of_heap h0 (j := 0) rfl
  try clear f0_0
  have f0_0 := frozen_of_heap h0 0
  try clear c0_1
  have c0_1 := cell_of_heap h0 (j := 1) rfl
  try clear f0_1
  have f0_1 := frozen_of_heap h0 1
  try clear c0_2
  have c0_2 := cell_of_heap h0 (j := 2) rfl
  try clear f0_2
  have f0_2 := frozen_of_heap h0 2
  go_wp2_with fail
  refine (hP12.out _).mono ?_
  rintro e w15 ⟨rfl, hb⟩
  replace h0 : w15.heap[w.heap.size]? = some (.cells #[.int .i64 2, .int .i64 1, .int .i64 2] 23 (0, 0)) := hb_below hb (by repeat (first | exact h0 | (refine hb_new ?_; (first | omega | (simp; omega) | (simp; done))) | (refine hb_old ?_ ?_; rotate_left; focus (first | omega | (simp; omega) | (simp; done))) | refine hb_drew ?_)) (by first | omega | (simp; omega) | (simp; done))
  have y15 := Below.size hb
  try simp only [World.size_alloc, World.size_drew] at y15
  have D15 := Lib.hid (show Below w.heap.size w w15 from Below.trans (by repeat (first | exact D14.out | exact Below.refl _ _ | refine Below.alloc ?_ (by first | omega | (simp; omega) | (simp; done)) _)) (Below.mono hb (by first | omega | (simp; omega) | (simp; done))))
  have z15 := D15.out.size
  clear hb
  try clear c0_0
  have c0_0 := cell_of_heap h0 (j := 0) rfl
  try clear f0_0
  have f0_0 := frozen_of_heap h0 0
  try clear c0_1
  have c0_1 := cell_of_heap h0 (j := 1) rfl
  try clear f0_1
  have f0_1 := frozen_of_heap h0 1
  try clear c0_2
  have c0_2 := cell_of_heap h0 (j := 2) rfl
  try clear f0_2
  have f0_2 := frozen_of_heap h0 2
  go_wp2_with fail
  refine (hCA.out _).mono ?_
  rintro e w16 ⟨rfl, hb⟩
  replace h0 : w16.heap[w.heap.size]? = some (.cells #[.int .i64 2, .int .i64 1, .int .i64 2] 23 (0, 0)) := hb_below hb (by repeat (first | exact h0 | (refine hb_new ?_; (first | omega | (simp; omega) | (simp; done))) | (refine hb_old ?_ ?_; rotate_left; focus (first | omega | (simp; omega) | (simp; done))) | refine hb_drew ?_)) (by first | omega | (simp; omega) | (simp; done))
  have y16 := Below.size hb
  try simp only [World.size_alloc, World.size_drew] at y16
  have D16 := Lib.hid (show Below w.heap.size w w16 from Below.trans (by repeat (first | exact D15.out | exact Below.refl _ _ | refine Below.alloc ?_ (by first | omega | (simp; omega) | (simp; done)) _)) (Below.mono hb (by first | omega | (simp; omega) | (simp; done))))
  have z16 := D16.out.size
  clear hb
  try clear c0_0
  have c0_0 := cell_of_heap h0 (j := 0) rfl
  try clear f0_0
  have f0_0 := frozen_of_heap h0 0
  try clear c0_1
  have c0_1 := cell_of_heap h0 (j := 1) rfl
  try clear f0_1
  have f0_1 := frozen_of_heap h0 1
  try clear c0_2
  have c0_2 := cell_of_heap h0 (j := 2) rfl
  try clear f0_2
  have f0_2 := frozen_of_heap h0 2
  go_wp2_with fail
  obtain ⟨w17, hw17⟩ : ∃ W, W = (w16.alloc (.cells #[.int .i64 1, .int .i64 5] 25)) := ⟨_, rfl⟩
  rw [← hw17]
  replace h0 : w17.heap[w.heap.size]? = some (.cells #[.int .i64 2, .int .i64 1, .int .i64 2] 23 (0, 0)) := by rw [hw17]; exact (by repeat (first | exact h0 | (refine hb_new ?_; (first | omega | (simp; omega) | (simp; done))) | (refine hb_old ?_ ?_; rotate_left; focus (first | omega | (simp; omega) | (simp; done))) | refine hb_drew ?_))
  have h1 : w17.heap[w16.heap.size]? = some (.cells #[.int .i64 1, .int .i64 5] 25 (0, 0)) := by rw [hw17]; exact (by repeat (first | (refine hb_new ?_; (first | omega | (simp; omega) | (simp; done))) | (refine hb_old ?_ ?_; rotate_left; focus (first | omega | (simp; omega) | (simp; done))) | refine hb_drew ?_))
  have hb : Below w16.heap.size w16 w17 := by rw [hw17]; exact (by repeat (first | exact Below.refl _ _ | refine Below.alloc ?_ (by first | omega | (simp; omega) | (simp; done)) _ | refine Below.drew ?_))
  have s17 : w16.heap.size + 1 ≤ w17.heap.size := by rw [hw17]; simp
  have y17 := Below.size hb
  try simp only [World.size_alloc, World.size_drew] at y17
  have D17 := Lib.hid (show Below w.heap.size w w17 from Below.trans (by repeat (first | exact D16.out | exact Below.refl _ _ | refine Below.alloc ?_ (by first | omega | (simp; omega) | (simp; done)) _)) (Below.mono hb (by first | omega | (simp; omega) | (simp; done))))
  have z17 := D17.out.size
  clear hb hw17
  try clear c0_0
  have c0_0 := cell_of_heap h0 (j := 0) rfl
  try clear f0_0
  have f0_0 := frozen_of_heap h0 0
  try clear c0_1
  have c0_1 := cell_of_heap h0 (j := 1) rfl
  try clear f0_1
  have f0_1 := frozen_of_heap h0 1
  try clear c0_2
  have c0_2 := cell_of_heap h0 (j := 2) rfl
  try clear f0_2
  have f0_2 := frozen_of_heap h0 2
  try clear c1_0
  have c1_0 := cell_of_heap h1 (j := 0) rfl
  try clear f1_0
  have f1_0 := frozen_of_heap h1 0
  try clear c1_1
  have c1_1 := cell_of_heap h1 (j := 1) rfl
  try clear f1_1
  have f1_1 := frozen_of_heap h1 1
  refine (hM2.out _).mono ?_
  rintro e w18 ⟨rfl, hb⟩
  replace h0 : w18.heap[w.heap.size]? = some (.cells #[.int .i64 2, .int .i64 1, .int .i64 2] 23 (0, 0)) := hb_below hb (by repeat (first | exact h0 | (refine hb_new ?_; (first | omega | (simp; omega) | (simp; done))) | (refine hb_old ?_ ?_; rotate_left; focus (first | omega | (simp; omega) | (simp; done))) | refine hb_drew ?_)) (by first | omega | (simp; omega) | (simp; done))
  replace h1 : w18.heap[w16.heap.size]? = some (.cells #[.int .i64 1, .int .i64 5] 25 (0, 0)) := hb_below hb (by repeat (first | exact h1 | (refine hb_new ?_; (first | omega | (simp; omega) | (simp; done))) | (refine hb_old ?_ ?_; rotate_left; focus (first | omega | (simp; omega) | (simp; done))) | refine hb_drew ?_)) (by first | omega | (simp; omega) | (simp; done))
  have y18 := Below.size hb
  try simp only [World.size_alloc, World.size_drew] at y18
  have D18 := Lib.hid (show Below w.heap.size w w18 from Below.trans (by repeat (first | exact D17.out | exact Below.refl _ _ | refine Below.alloc ?_ (by first | omega | (simp; omega) | (simp; done)) _)) (Below.mono hb (by first | omega | (simp; omega) | (simp; done))))
  have z18 := D18.out.size
  clear hb
  try clear c0_0
  have c0_0 := cell_of_heap h0 (j := 0) rfl
  try clear f0_0
  have f0_0 := frozen_of_heap h0 0
  try clear c0_1
  have c0_1 := cell_of_heap h0 (j := 1) rfl
  try clear f0_1
  have f0_1 := frozen_of_heap h0 1
  try clear c0_2
  have c0_2 := cell_of_heap h0 (j := 2) rfl
  try clear f0_2
  have f0_2 := frozen_of_heap h0 2
  try clear c1_0
  have c1_0 := cell_of_heap h1 (j := 0) rfl
  try clear f1_0
  have f1_0 := frozen_of_heap h1 0
  try clear c1_1
  have c1_1 := cell_of_heap h1 (j := 1) rfl
  try clear f1_1
  have f1_1 := frozen_of_heap h1 1
  go_wp2_with fail
  refine (hCO.out _ (HG.out.next D18.out)).mono ?_
  rintro e w19 ⟨rfl, hb⟩
  replace h0 : w19.heap[w.heap.size]? = some (.cells #[.int .i64 2, .int .i64 1, .int .i64 2] 23 (0, 0)) := hb_below hb (by repeat (first | exact h0 | (refine hb_new ?_; (first | omega | (simp; omega) | (simp; done))) | (refine hb_old ?_ ?_; rotate_left; focus (first | omega | (simp; omega) | (simp; done))) | refine hb_drew ?_)) (by first | omega | (simp; omega) | (simp; done))
  replace h1 : w19.heap[w16.heap.size]? = some (.cells #[.int .i64 1, .int .i64 5] 25 (0, 0)) := hb_below hb (by repeat (first | exact h1 | (refine hb_new ?_; (first | omega | (simp; omega) | (simp; done))) | (refine hb_old ?_ ?_; rotate_left; focus (first | omega | (simp; omega) | (simp; done))) | refine hb_drew ?_)) (by first | omega | (simp; omega) | (simp; done))
  have y19 := Below.size hb
  try simp only [World.size_alloc, World.size_drew] at y19
  have D19 := Lib.hid (show Below w.heap.size w w19 from Below.trans (by repeat (first | exact D18.out | exact Below.refl _ _ | refine Below.alloc ?_ (by first | omega | (simp; omega) | (simp; done)) _)) (Below.mono hb (by first | omega | (simp; omega) | (simp; done))))
  have z19 := D19.out.size
  clear hb
  try clear c0_0
  have c0_0 := cell_of_heap h0 (j := 0) rfl
  try clear f0_0
  have f0_0 := frozen_of_heap h0 0
  try clear c0_1
  have c0_1 := cell_of_heap h0 (j := 1) rfl
  try clear f0_1
  have f0_1 := frozen_of_heap h0 1
  try clear c0_2
  have c0_2 := cell_of_heap h0 (j := 2) rfl
  try clear f0_2
  have f0_2 := frozen_of_heap h0 2
  try clear c1_0
  have c1_0 := cell_of_heap h1 (j := 0) rfl
  try clear f1_0
  have f1_0 := frozen_of_heap h1 0
  try clear c1_1
  have c1_1 := cell_of_heap h1 (j := 1) rfl
  try clear f1_1
  have f1_1 := frozen_of_heap h1 1
  go_wp2_with fail
  refine (hCR.out _ (HG.out.next D19.out)).mono ?_
  rintro e w20 ⟨L, m, rfl, hir, hb⟩
  replace h0 : w20.heap[w.heap.size]? = some (.cells #[.int .i64 2, .int .i64 1, .int .i64 2] 23 (0, 0)) := hb_below hb (by repeat (first | exact h0 | (refine hb_new ?_; (first | omega | (simp; omega) | (simp; done))) | (refine hb_old ?_ ?_; rotate_left; focus (first | omega | (simp; omega) | (simp; done))) | refine hb_drew ?_)) (by first | omega | (simp; omega) | (simp; done))
  replace h1 : w20.heap[w16.heap.size]? = some (.cells #[.int .i64 1, .int .i64 5] 25 (0, 0)) := hb_below hb (by repeat (first | exact h1 | (refine hb_new ?_; (first | omega | (simp; omega) | (simp; done))) | (refine hb_old ?_ ?_; rotate_left; focus (first | omega | (simp; omega) | (simp; done))) | refine hb_drew ?_)) (by first | omega | (simp; omega) | (simp; done))
  have y20 := Below.size hb
  try simp only [World.size_alloc, World.size_drew] at y20
  have D20 := Lib.hid (show Below w.heap.size w w20 from Below.trans (by repeat (first | exact D19.out | exact Below.refl _ _ | refine Below.alloc ?_ (by first | omega | (simp; omega) | (simp; done)) _)) (Below.mono hb (by first | omega | (simp; omega) | (simp; done))))
  have z20 := D20.out.size
  clear hb
  try clear c0_0
  have c0_0 := cell_of_heap h0 (j := 0) rfl
  try clear f0_0
  have f0_0 := frozen_of_heap h0 0
  try clear c0_1
  have c0_1 := cell_of_heap h0 (j := 1) rfl
  try clear f0_1
  have f0_1 := frozen_of_heap h0 1
  try clear c0_2
  have c0_2 := cell_of_heap h0 (j := 2) rfl
  try clear f0_2
  have f0_2 := frozen_of_heap h0 2
  try clear c1_0
  have c1_0 := cell_of_heap h1 (j := 0) rfl
  try clear f1_0
  have f1_0 := frozen_of_heap h1 0
  try clear c1_1
  have c1_1 := cell_of_heap h1 (j := 1) rfl
  try clear f1_1
  have f1_1 := frozen_of_heap h1 1
  obtain ⟨rfl, rfl⟩ := red_known hir
  clear hir
  go_wp2_with fail
  obtain ⟨w21, hw21⟩ : ∃ W, W = ((w20.alloc (.cells #[.int .i64 1, .int .i64 0, .int .i64 1] 23)).alloc (.cells #[.int .i64 (-3), .int .i64 (-1), .int .i64 2, .int .i64 1] 40)) := ⟨_, rfl⟩
  rw [← hw21]
  replace h0 : w21.heap[w.heap.size]? = some (.cells #[.int .i64 2, .int .i64 1, .int .i64 2] 23 (0, 0)) := by rw [hw21]; exact (by repeat (first | exact h0 | (refine hb_new ?_; (first | omega | (simp; omega) | (simp; done))) | (refine hb_old ?_ ?_; rotate_left; focus (first | omega | (simp; omega) | (simp; done))) | refine hb_drew ?_))
  replace h1 : w21.heap[w16.heap.size]? = some (.cells #[.int .i64 1, .int .i64 5] 25 (0, 0)) := by rw [hw21]; exact (by repeat (first | exact h1 | (refine hb_new ?_; (first | omega | (simp; omega) | (simp; done))) | (refine hb_old ?_ ?_; rotate_left; focus (first | omega | (simp; omega) | (simp; done))) | refine hb_drew ?_))
  have h2 : w21.heap[w20.heap.size]? = some (.cells #[.int .i64 1, .int .i64 0, .int .i64 1] 23 (0, 0)) := by rw [hw21]; exact (by repeat (first | (refine hb_new ?_; (first | omega | (simp; omega) | (simp; done))) | (refine hb_old ?_ ?_; rotate_left; focus (first | omega | (simp; omega) | (simp; done))) | refine hb_drew ?_))
  have h3 : w21.heap[w20.heap.size + 1]? = some (.cells #[.int .i64 (-3), .int .i64 (-1), .int .i64 2, .int .i64 1] 40 (0, 0)) := by rw [hw21]; exact (by repeat (first | (refine hb_new ?_; (first | omega | (simp; omega) | (simp; done))) | (refine hb_old ?_ ?_; rotate_left; focus (first | omega | (simp; omega) | (simp; done))) | refine hb_drew ?_))
  have hb : Below w20.heap.size w20 w21 := by rw [hw21]; exact (by repeat (first | exact Below.refl _ _ | refine Below.alloc ?_ (by first | omega | (simp; omega) | (simp; done)) _ | refine Below.drew ?_))
  have s21 : w20.heap.size + 1 + 1 ≤ w21.heap.size := by rw [hw21]; simp
  have y21 := Below.size hb
  try simp only [World.size_alloc, World.size_drew] at y21
  have D21 := Lib.hid (show Below w.heap.size w w21 from Below.trans (by repeat (first | exact D20.out | exact Below.refl _ _ | refine Below.alloc ?_ (by first | omega | (simp; omega) | (simp; done)) _)) (Below.mono hb (by first | omega | (simp; omega) | (simp; done))))
  have z21 := D21.out.size
  clear hb hw21
  try clear c0_0
  have c0_0 := cell_of_heap h0 (j := 0) rfl
  try clear f0_0
  have f0_0 := frozen_of_heap h0 0
  try clear c0_1
  have c0_1 := cell_of_heap h0 (j := 1) rfl
  try clear f0_1
  have f0_1 := frozen_of_heap h0 1
  try clear c0_2
  have c0_2 := cell_of_heap h0 (j := 2) rfl
  try clear f0_2
  have f0_2 := frozen_of_heap h0 2
  try clear c1_0
  have c1_0 := cell_of_heap h1 (j := 0) rfl
  try clear f1_0
  have f1_0 := frozen_of_heap h1 0
  try clear c1_1
  have c1_1 := cell_of_heap h1 (j := 1) rfl
  try clear f1_1
  have f1_1 := frozen_of_heap h1 1
  try clear c2_0
  have c2_0 := cell_of_heap h2 (j := 0) rfl
  try clear f2_0
  have f2_0 := frozen_of_heap h2 0
  try clear c2_1
  have c2_1 := cell_of_heap h2 (j := 1) rfl
  try clear f2_1
  have f2_1 := frozen_of_heap h2 1
  try clear c2_2
  have c2_2 := cell_of_heap h2 (j := 2) rfl
  try clear f2_2
  have f2_2 := frozen_of_heap h2 2
  try clear c3_0
  have c3_0 := cell_of_heap h3 (j := 0) rfl
  try clear f3_0
  have f3_0 := frozen_of_heap h3 0
  try clear c3_1
  have c3_1 := cell_of_heap h3 (j := 1) rfl
  try clear f3_1
  have f3_1 := frozen_of_heap h3 1
  try clear c3_2
  have c3_2 := cell_of_heap h3 (j := 2) rfl
  try clear f3_2
  have f3_2 := frozen_of_heap h3 2
  try clear c3_3
  have c3_3 := cell_of_heap h3 (j := 3) rfl
  try clear f3_3
  have f3_3 := frozen_of_heap h3 3
  go_wp2_with fail
  try clear c0_0
  try clear f0_0
  try clear c0_1
  try clear f0_1
  try clear c0_2
  try clear f0_2
  try clear c1_0
  try clear f1_0
  try clear c1_1
  try clear f1_1
  try clear c2_0
  try clear f2_0
  try clear c2_1
  try clear f2_1
  try clear c2_2
  try clear f2_2
  try clear c3_0
  try clear f3_0
  try clear c3_1
  try clear f3_1
  try clear c3_2
  try clear f3_2
  try clear c3_3
  try clear f3_3
  refine wp_region_class (fun w' => Below w21.heap.size w21 w') 34 (by kernel_rfl) (by kernel_rfl) (Below.refl _ w21).drew ?_
  simp only [List.take_succ_cons, List.take_zero, List.drop_succ_cons, List.drop_zero]
  refine quiet_moveV rfl _ rfl _ rfl ?_
  simp only [Act.put, List.setIfInBounds_toArray, List.set_cons_zero, List.set_cons_succ]
  refine quiet_still rfl (.bool true) (fun w _ => by go_simp) ?_
  simp only [Act.put, List.setIfInBounds_toArray, List.set_cons_zero, List.set_cons_succ]
  refine quiet_moveV rfl _ rfl _ rfl ?_
  simp only [Act.put, List.setIfInBounds_toArray, List.set_cons_zero, List.set_cons_succ]
  refine quietW_moveV (by kernel_rfl) _ rfl _ rfl ?_
  simp only [Act.put, List.setIfInBounds_toArray, List.set_cons_zero, List.set_cons_succ]
  refine quietW_still (by kernel_rfl) (.bool true) (fun w _ => by go_simp) ?_
  simp only [Act.put, List.setIfInBounds_toArray, List.set_cons_zero, List.set_cons_succ]
  refine quiet_still rfl (.bool true) (fun w _ => by go_simp) ?_
  simp only [Act.put, List.setIfInBounds_toArray, List.set_cons_zero, List.set_cons_succ]
  refine quiet_moveV rfl _ rfl _ rfl ?_
  simp only [Act.put, List.setIfInBounds_toArray, List.set_cons_zero, List.set_cons_succ]
  refine quietW_moveV (by kernel_rfl) _ rfl _ rfl ?_
  simp only [Act.put, List.setIfInBounds_toArray, List.set_cons_zero, List.set_cons_succ]
  refine quietW_still (by kernel_rfl) (.bool true) (fun w _ => by go_simp) ?_
  simp only [Act.put, List.setIfInBounds_toArray, List.set_cons_zero, List.set_cons_succ]
  refine quiet_still rfl (.bool true) (fun w _ => by go_simp) ?_
  simp only [Act.put, List.setIfInBounds_toArray, List.set_cons_zero, List.set_cons_succ]
  refine quiet_moveV rfl _ rfl _ rfl ?_
  simp only [Act.put, List.setIfInBounds_toArray, List.set_cons_zero, List.set_cons_succ]
  refine quietW_moveV (by kernel_rfl) _ rfl _ rfl ?_
  simp only [Act.put, List.setIfInBounds_toArray, List.set_cons_zero, List.set_cons_succ]
  refine quietW_still (by kernel_rfl) (.int .i64 12) (fun w _ => by go_simp) ?_
  simp only [Act.put, List.setIfInBounds_toArray, List.set_cons_zero, List.set_cons_succ]
  refine quietW_still (by kernel_rfl) (.bool true) (fun w _ => by go_simp) ?_
  simp only [Act.put, List.setIfInBounds_toArray, List.set_cons_zero, List.set_cons_succ]
  refine quiet_still rfl (.bool true) (fun w _ => by go_simp) ?_
  simp only [Act.put, List.setIfInBounds_toArray, List.set_cons_zero, List.set_cons_succ]
  refine quiet_moveV rfl _ rfl _ rfl ?_
  simp only [Act.put, List.setIfInBounds_toArray, List.set_cons_zero, List.set_cons_succ]
  refine quietW_load_mid (by kernel_rfl) _ _ rfl _ _ rfl _ _ (fun w' h => range_of_heap (hb_below h h1 (by omega))) Tryd.underlying25 rfl (by kernel_rfl) ?_
  simp only [Act.put, List.setIfInBounds_toArray, List.set_cons_zero, List.set_cons_succ]
  refine quietW_call (by kernel_rfl) 45 _ _ rfl (enter_of Tryd.func45 (by decide) (by intro h; cases h)) _ (in_class_b hP15.out) ?_
  simp only [Act.put, List.setIfInBounds_toArray, List.set_cons_zero, List.set_cons_succ]
  refine quietW_still (by kernel_rfl) (.bool true) (fun w _ => by go_simp) ?_
  simp only [Act.put, List.setIfInBounds_toArray, List.set_cons_zero, List.set_cons_succ]
  refine quiet_still rfl (.bool true) (fun w _ => by go_simp) ?_
  simp only [Act.put, List.setIfInBounds_toArray, List.set_cons_zero, List.set_cons_succ]
  refine quiet_moveV rfl _ rfl _ rfl ?_
  simp only [Act.put, List.setIfInBounds_toArray, List.set_cons_zero, List.set_cons_succ]
  refine quietW_moveV (by kernel_rfl) _ rfl _ rfl ?_
  simp only [Act.put, List.setIfInBounds_toArray, List.set_cons_zero, List.set_cons_succ]
  refine quietW_still (by kernel_rfl) (.bool true) (fun w _ => by go_simp) ?_
  simp only [Act.put, List.setIfInBounds_toArray, List.set_cons_zero, List.set_cons_succ]
  refine quiet_still rfl (.bool true) (fun w _ => by go_simp) ?_
  simp only [Act.put, List.setIfInBounds_toArray, List.set_cons_zero, List.set_cons_succ]
  refine quiet_moveV rfl _ rfl _ rfl ?_
  simp only [Act.put, List.setIfInBounds_toArray, List.set_cons_zero, List.set_cons_succ]
  refine quietW_load_mid (by kernel_rfl) _ _ rfl _ _ rfl _ _ (fun w' h => range_of_heap (hb_below h h2 (by omega))) Tryd.underlying23 rfl (by kernel_rfl) ?_
  simp only [Act.put, List.setIfInBounds_toArray, List.set_cons_zero, List.set_cons_succ]
  refine quietW_still (by kernel_rfl) (.agg #[.int .i64 1, .int .i64 0, .int .i64 1]) (fun w _ => by go_simp) ?_
  simp only [Act.put, List.setIfInBounds_toArray, List.set_cons_zero, List.set_cons_succ]
  refine quietW_still (by kernel_rfl) (.bool true) (fun w _ => by go_simp) ?_
  simp only [Act.put, List.setIfInBounds_toArray, List.set_cons_zero, List.set_cons_succ]
  refine quiet_still rfl (.bool true) (fun w _ => by go_simp) ?_
  simp only [Act.put, List.setIfInBounds_toArray, List.set_cons_zero, List.set_cons_succ]
  refine quiet_moveV rfl _ rfl _ rfl ?_
  simp only [Act.put, List.setIfInBounds_toArray, List.set_cons_zero, List.set_cons_succ]
  refine quietW_load_mid (by kernel_rfl) _ _ rfl _ _ rfl _ _ (fun w' h => range_of_heap (hb_below h h3 (by omega))) Tryd.underlying40 rfl (by kernel_rfl) ?_
  simp only [Act.put, List.setIfInBounds_toArray, List.set_cons_zero, List.set_cons_succ]
  refine quietW_call (by kernel_rfl) 44 _ _ rfl (enter_of Tryd.func44 (by decide) (by intro h; cases h)) _ (in_class_b hM3.out) ?_
  simp only [Act.put, List.setIfInBounds_toArray, List.set_cons_zero, List.set_cons_succ]
  refine quietW_still (by kernel_rfl) (.bool true) (fun w _ => by go_simp) ?_
  simp only [Act.put, List.setIfInBounds_toArray, List.set_cons_zero, List.set_cons_succ]
  refine quiet_still rfl (.bool true) (fun w _ => by go_simp) ?_
  simp only [Act.put, List.setIfInBounds_toArray, List.set_cons_zero, List.set_cons_succ]
  intro w22 hb
  replace h0 : w22.heap[w.heap.size]? = some (.cells #[.int .i64 2, .int .i64 1, .int .i64 2] 23 (0, 0)) := hb_below hb (by repeat (first | exact h0 | (refine hb_new ?_; (first | omega | (simp; omega) | (simp; done))) | (refine hb_old ?_ ?_; rotate_left; focus (first | omega | (simp; omega) | (simp; done))) | refine hb_drew ?_)) (by first | omega | (simp; omega) | (simp; done))
  replace h1 : w22.heap[w16.heap.size]? = some (.cells #[.int .i64 1, .int .i64 5] 25 (0, 0)) := hb_below hb (by repeat (first | exact h1 | (refine hb_new ?_; (first | omega | (simp; omega) | (simp; done))) | (refine hb_old ?_ ?_; rotate_left; focus (first | omega | (simp; omega) | (simp; done))) | refine hb_drew ?_)) (by first | omega | (simp; omega) | (simp; done))
  replace h2 : w22.heap[w20.heap.size]? = some (.cells #[.int .i64 1, .int .i64 0, .int .i64 1] 23 (0, 0)) := hb_below hb (by repeat (first | exact h2 | (refine hb_new ?_; (first | omega | (simp; omega) | (simp; done))) | (refine hb_old ?_ ?_; rotate_left; focus (first | omega | (simp; omega) | (simp; done))) | refine hb_drew ?_)) (by first | omega | (simp; omega) | (simp; done))
  replace h3 : w22.heap[w20.heap.size + 1]? = some (.cells #[.int .i64 (-3), .int .i64 (-1), .int .i64 2, .int .i64 1] 40 (0, 0)) := hb_below hb (by repeat (first | exact h3 | (refine hb_new ?_; (first | omega | (simp; omega) | (simp; done))) | (refine hb_old ?_ ?_; rotate_left; focus (first | omega | (simp; omega) | (simp; done))) | refine hb_drew ?_)) (by first | omega | (simp; omega) | (simp; done))
  have y22 := Below.size hb
  try simp only [World.size_alloc, World.size_drew] at y22
  have D22 := Lib.hid (show Below w.heap.size w w22 from Below.trans (by repeat (first | exact D21.out | exact Below.refl _ _ | refine Below.alloc ?_ (by first | omega | (simp; omega) | (simp; done)) _)) (Below.mono hb (by first | omega | (simp; omega) | (simp; done))))
  have z22 := D22.out.size
  clear hb
  try clear c0_0
  have c0_0 := cell_of_heap h0 (j := 0) rfl
  try clear f0_0
  have f0_0 := frozen_of_heap h0 0
  try clear c0_1
  have c0_1 := cell_of_heap h0 (j := 1) rfl
  try clear f0_1
  have f0_1 := frozen_of_heap h0 1
  try clear c0_2
  have c0_2 := cell_of_heap h0 (j := 2) rfl
  try clear f0_2
  have f0_2 := frozen_of_heap h0 2
  try clear c1_0
  have c1_0 := cell_of_heap h1 (j := 0) rfl
  try clear f1_0
  have f1_0 := frozen_of_heap h1 0
  try clear c1_1
  have c1_1 := cell_of_heap h1 (j := 1) rfl
  try clear f1_1
  have f1_1 := frozen_of_heap h1 1
  try clear c2_0
  have c2_0 := cell_of_heap h2 (j := 0) rfl
  try clear f2_0
  have f2_0 := frozen_of_heap h2 0
  try clear c2_1
  have c2_1 := cell_of_heap h2 (j := 1) rfl
  try clear f2_1
  have f2_1 := frozen_of_heap h2 1
  try clear c2_2
  have c2_2 := cell_of_heap h2 (j := 2) rfl
  try clear f2_2
  have f2_2 := frozen_of_heap h2 2
  try clear c3_0
  have c3_0 := cell_of_heap h3 (j := 0) rfl
  try clear f3_0
  have f3_0 := frozen_of_heap h3 0
  try clear c3_1
  have c3_1 := cell_of_heap h3 (j := 1) rfl
  try clear f3_1
  have f3_1 := frozen_of_heap h3 1
  try clear c3_2
  have c3_2 := cell_of_heap h3 (j := 2) rfl
  try clear f3_2
  have f3_2 := frozen_of_heap h3 2
  try clear c3_3
  have c3_3 := cell_of_heap h3 (j := 3) rfl
  try clear f3_3
  have f3_3 := frozen_of_heap h3 3
  go_wp2_with fail
  go_ret
  exact ⟨rfl, D22.out⟩
end Go.Proofs.YtehpgmhilcoalaaDoor
