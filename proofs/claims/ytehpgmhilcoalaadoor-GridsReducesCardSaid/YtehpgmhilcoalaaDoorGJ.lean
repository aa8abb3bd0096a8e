/- Square and Side on both sides; Dot of the reference. -/
import Derived.Test.YtehpgmhilcoalaaDoorGI
namespace Go.Proofs.YtehpgmhilcoalaaDoor
open Go.RowKit Go.Lib
set_option linter.unusedSimpArgs false
set_option linter.unusedVariables false
set_option maxHeartbeats 1000000 in
theorem Square_any (l : Lat) (p q : Pt) (w : World) : Calls Tryd.prog 13 #[l.val, p.val, q.val] w fun e w' => e = .returned (.tuple #[.int .i64 (gv (okL l && (okP p && okP q && okP q)) (wrap64 (prod l (stepP p q).w (stepP p q).w))), .int .i64 (errIf (okL l && (okP p && okP q && okP q)))]) ∧ Below w.heap.size w w' := by
  have C1 := fun W => Dot_any l p q q W
  generalize gv (okL l && (okP p && okP q && okP q)) (wrap64 (prod l (stepP p q).w (stepP p q).w)) = r1 at *
  generalize errIf (okL l && (okP p && okP q && okP q)) = r2 at *
  unfold Lat.val Pt.val at *
  have H1 := Lib.hid C1
  clear C1
  go_enter Tryd.func13, Tryd.ntmps13
  go_wp2_with fail
  refine (H1.out _).mono ?_
  rintro e w1 ⟨rfl, hb⟩
  have r0 := range_below hb (b := w.heap.size) (vs := [.int .i64 l.a, .int .i64 l.b, .int .i64 l.c]) (by repeat (first | exact range_new (by first | omega | (simp; omega) | simp) | refine range_old ?_ (by first | omega | (simp; omega) | simp) | refine range_drew ?_)) (by first | omega | (simp; omega) | simp)
  have r1 := range_below hb (b := w.heap.size + 1) (vs := [.int .i64 p.x, .int .i64 p.y]) (by repeat (first | exact range_new (by first | omega | (simp; omega) | simp) | refine range_old ?_ (by first | omega | (simp; omega) | simp) | refine range_drew ?_)) (by first | omega | (simp; omega) | simp)
  have r2 := range_below hb (b := w.heap.size + 1 + 1) (vs := [.int .i64 q.x, .int .i64 q.y]) (by repeat (first | exact range_new (by first | omega | (simp; omega) | simp) | refine range_old ?_ (by first | omega | (simp; omega) | simp) | refine range_drew ?_)) (by first | omega | (simp; omega) | simp)
  have y1 := Below.size hb
  try simp only [World.size_alloc, World.size_drew] at y1
  have D1 := Lib.hid (show Below w.heap.size w w1 from Below.trans (by repeat (first | exact Below.refl _ _ | refine Below.alloc ?_ (by first | omega | (simp; omega) | simp) _)) (Below.mono hb (by first | omega | (simp; omega) | simp)))
  have z1 := D1.out.size
  obtain ⟨hc1, hf1⟩ := bcell hb
  clear hb
  go_wp2_with fail
  go_ret2
  exact ⟨rfl, (by repeat (first | exact D1.out | exact Below.refl _ _ | refine Below.alloc ?_ (by first | omega | (simp; omega) | simp) _))⟩
set_option maxHeartbeats 1000000 in
set_option maxRecDepth 100000 in
theorem Side_any (p q r : Pt) (w : World) : Calls Tryd.prog 20 #[p.val, q.val, r.val] w fun e w' => e = .returned (.tuple #[.int .i64 (gv (okP p && okP q && okP r) (cmpI (wrap64 (crossP (stepP p q).w (stepP p r).w)) 0)), .int .i64 (errIf (okP p && okP q && okP r))]) ∧ Below w.heap.size w w' := by
  have C2 := fun W T B hB => vpts3 p q r W T B hB
  have C3 := fun W => step_any p q W
  have C4 := fun W => step_any p r W
  have C5 := fun W => across_any (stepP p q).w (stepP p r).w W
  have C6 := fun W => Compare64_any (wrap64 (crossP (stepP p q).w (stepP p r).w)) 0 W
  generalize (okP p && okP q && okP r) = b2 at *
  generalize wrap64 (crossP (stepP p q).w (stepP p r).w) = z at *
  generalize cmpI z 0 = y at *
  generalize (stepP p q).w = s1 at *
  generalize (stepP p r).w = s2 at *
  unfold Pt.val at *
  unfold gv errIf
  have H2 := Lib.hid C2
  have H3 := Lib.hid C3
  have H4 := Lib.hid C4
  have H5 := Lib.hid C5
  have H6 := Lib.hid C6
  clear C2 C3 C4 C5 C6
  cases b2
  · go_enter Tryd.func20, Tryd.ntmps20
    go_wp2_with fail
    refine (H2.out _ _ _ (by simp)).mono ?_
    rintro e w1 ⟨rfl, hb⟩
    have r0 := range_below hb (b := w.heap.size) (vs := [.int .i64 p.x, .int .i64 p.y]) (by repeat (first | exact range_new (by first | omega | (simp; omega) | simp) | refine range_old ?_ (by first | omega | (simp; omega) | simp) | refine range_drew ?_)) (by first | omega | (simp; omega) | simp)
    have r1 := range_below hb (b := w.heap.size + 1) (vs := [.int .i64 q.x, .int .i64 q.y]) (by repeat (first | exact range_new (by first | omega | (simp; omega) | simp) | refine range_old ?_ (by first | omega | (simp; omega) | simp) | refine range_drew ?_)) (by first | omega | (simp; omega) | simp)
    have r2 := range_below hb (b := w.heap.size + 1 + 1) (vs := [.int .i64 r.x, .int .i64 r.y]) (by repeat (first | exact range_new (by first | omega | (simp; omega) | simp) | refine range_old ?_ (by first | omega | (simp; omega) | simp) | refine range_drew ?_)) (by first | omega | (simp; omega) | simp)
    have y1 := Below.size hb
    try simp only [World.size_alloc, World.size_drew] at y1
    have D1 := Lib.hid (show Below w.heap.size w w1 from Below.trans (by repeat (first | exact Below.refl _ _ | refine Below.alloc ?_ (by first | omega | (simp; omega) | simp) _)) (Below.mono hb (by first | omega | (simp; omega) | simp)))
    have z1 := D1.out.size
    clear hb
    have c0_0 := range_cell0 r0 (j := 0) rfl
    have c0_1 := range_cell0 r0 (j := 1) rfl
    have c1_0 := range_cell0 r1 (j := 0) rfl
    have c1_1 := range_cell0 r1 (j := 1) rfl
    have c2_0 := range_cell0 r2 (j := 0) rfl
    have c2_1 := range_cell0 r2 (j := 1) rfl
    go_wp2_with fail
    go_ret2
    exact ⟨rfl, (by repeat (first | exact D1.out | exact Below.refl _ _ | refine Below.alloc ?_ (by first | omega | (simp; omega) | simp) _))⟩
  · go_enter Tryd.func20, Tryd.ntmps20
    go_wp2_with fail
    refine (H2.out _ _ _ (by simp)).mono ?_
    rintro e w1 ⟨rfl, hb⟩
    have r0 := range_below hb (b := w.heap.size) (vs := [.int .i64 p.x, .int .i64 p.y]) (by repeat (first | exact range_new (by first | omega | (simp; omega) | simp) | refine range_old ?_ (by first | omega | (simp; omega) | simp) | refine range_drew ?_)) (by first | omega | (simp; omega) | simp)
    have r1 := range_below hb (b := w.heap.size + 1) (vs := [.int .i64 q.x, .int .i64 q.y]) (by repeat (first | exact range_new (by first | omega | (simp; omega) | simp) | refine range_old ?_ (by first | omega | (simp; omega) | simp) | refine range_drew ?_)) (by first | omega | (simp; omega) | simp)
    have r2 := range_below hb (b := w.heap.size + 1 + 1) (vs := [.int .i64 r.x, .int .i64 r.y]) (by repeat (first | exact range_new (by first | omega | (simp; omega) | simp) | refine range_old ?_ (by first | omega | (simp; omega) | simp) | refine range_drew ?_)) (by first | omega | (simp; omega) | simp)
    have y1 := Below.size hb
    try simp only [World.size_alloc, World.size_drew] at y1
    have D1 := Lib.hid (show Below w.heap.size w w1 from Below.trans (by repeat (first | exact Below.refl _ _ | refine Below.alloc ?_ (by first | omega | (simp; omega) | simp) _)) (Below.mono hb (by first | omega | (simp; omega) | simp)))
    have z1 := D1.out.size
    clear hb
    have c0_0 := range_cell0 r0 (j := 0) rfl
    have c0_1 := range_cell0 r0 (j := 1) rfl
    have c1_0 := range_cell0 r1 (j := 0) rfl
    have c1_1 := range_cell0 r1 (j := 1) rfl
    have c2_0 := range_cell0 r2 (j := 0) rfl
    have c2_1 := range_cell0 r2 (j := 1) rfl
    go_wp2_with fail
    refine wp_region_class (fun w' => Below w1.heap.size w1 w') 8 (by kernel_rfl) (by kernel_rfl) (Below.refl _ w1).drew ?_
    simp only [List.take_succ_cons, List.take_zero, List.drop_succ_cons, List.drop_zero]
    refine quiet_load_mid rfl _ _ rfl _ _ rfl _ _ (fun w' h => range_below h r0 (by first | omega | (simp; omega) | simp)) Tryd.underlying25 rfl (by kernel_rfl) ?_
    simp only [Act.put, List.setIfInBounds_toArray, List.set_cons_zero, List.set_cons_succ]
    refine quiet_load_mid rfl _ _ rfl _ _ rfl _ _ (fun w' h => range_below h r1 (by first | omega | (simp; omega) | simp)) Tryd.underlying25 rfl (by kernel_rfl) ?_
    simp only [Act.put, List.setIfInBounds_toArray, List.set_cons_zero, List.set_cons_succ]
    refine quiet_call rfl 52 _ _ rfl (enter_of Tryd.func52 (by decide) (by intro h; cases h)) _ (in_class_b H3.out) ?_
    simp only [Act.put, List.setIfInBounds_toArray, List.set_cons_zero, List.set_cons_succ]
    refine quiet_load_mid rfl _ _ rfl _ _ rfl _ _ (fun w' h => range_below h r0 (by first | omega | (simp; omega) | simp)) Tryd.underlying25 rfl (by kernel_rfl) ?_
    simp only [Act.put, List.setIfInBounds_toArray, List.set_cons_zero, List.set_cons_succ]
    refine quiet_load_mid rfl _ _ rfl _ _ rfl _ _ (fun w' h => range_below h r2 (by first | omega | (simp; omega) | simp)) Tryd.underlying25 rfl (by kernel_rfl) ?_
    simp only [Act.put, List.setIfInBounds_toArray, List.set_cons_zero, List.set_cons_succ]
    refine quiet_call rfl 52 _ _ rfl (enter_of Tryd.func52 (by decide) (by intro h; cases h)) _ (in_class_b H4.out) ?_
    simp only [Act.put, List.setIfInBounds_toArray, List.set_cons_zero, List.set_cons_succ]
    refine quiet_call rfl 56 _ _ rfl (enter_of Tryd.func56 (by decide) (by intro h; cases h)) _ (in_class_b H5.out) ?_
    simp only [Act.put, List.setIfInBounds_toArray, List.set_cons_zero, List.set_cons_succ]
    refine quiet_call rfl 55 _ _ rfl (enter_of Tryd.func55 (by decide) (by intro h; cases h)) _ (in_class_e H6.out) ?_
    simp only [Act.put, List.setIfInBounds_toArray, List.set_cons_zero, List.set_cons_succ]
    intro w2 hb
    replace r0 := range_below hb (b := w.heap.size) (by repeat (first | exact r0 | exact range_new (by first | omega | (simp; omega) | simp) | refine range_old ?_ (by first | omega | (simp; omega) | simp) | refine range_drew ?_)) (by first | omega | (simp; omega) | simp)
    replace r1 := range_below hb (b := w.heap.size + 1) (by repeat (first | exact r1 | exact range_new (by first | omega | (simp; omega) | simp) | refine range_old ?_ (by first | omega | (simp; omega) | simp) | refine range_drew ?_)) (by first | omega | (simp; omega) | simp)
    replace r2 := range_below hb (b := w.heap.size + 1 + 1) (by repeat (first | exact r2 | exact range_new (by first | omega | (simp; omega) | simp) | refine range_old ?_ (by first | omega | (simp; omega) | simp) | refine range_drew ?_)) (by first | omega | (simp; omega) | simp)
    have y2 := Below.size hb
    try simp only [World.size_alloc, World.size_drew] at y2
    have D2 := Lib.hid (show Below w.heap.size w w2 from Below.trans (by repeat (first | exact D1.out | exact Below.refl _ _ | refine Below.alloc ?_ (by first | omega | (simp; omega) | simp) _)) (Below.mono hb (by first | omega | (simp; omega) | simp)))
    have z2 := D2.out.size
    obtain ⟨hc2, hf2⟩ := bcell hb
    clear hb
    go_wp2_with fail
    go_ret2
    exact ⟨rfl, (by repeat (first | exact D2.out | exact Below.refl _ _ | refine Below.alloc ?_ (by first | omega | (simp; omega) | simp) _))⟩
set_option maxHeartbeats 1000000 in
set_option maxRecDepth 100000 in
theorem rSide_any (p q r : Pt) (w : World) : Calls Tryd.prog 21 #[p.val, q.val, r.val] w fun e w' => e = .returned (.tuple #[.int .i64 (gv (okP p && okP q && okP r) (cmpI (wrap64 (crossP (stepP p q).w (stepP p r).w)) 0)), .int .i64 (errIf (okP p && okP q && okP r))]) ∧ Below w.heap.size w w' := by
  have C2 := fun W T B hB => rpts3 p q r W T B hB
  have C3 := fun W => rStep_any p q W
  have C4 := fun W => rStep_any p r W
  have C5 := fun W => rCross_any (stepP p q).w (stepP p r).w W
  have C6 := fun W => sign_any (wrap64 (crossP (stepP p q).w (stepP p r).w))  W
  generalize (okP p && okP q && okP r) = b2 at *
  generalize wrap64 (crossP (stepP p q).w (stepP p r).w) = z at *
  generalize cmpI z 0 = y at *
  generalize (stepP p q).w = s1 at *
  generalize (stepP p r).w = s2 at *
  unfold Pt.val at *
  unfold gv errIf
  have H2 := Lib.hid C2
  have H3 := Lib.hid C3
  have H4 := Lib.hid C4
  have H5 := Lib.hid C5
  have H6 := Lib.hid C6
  clear C2 C3 C4 C5 C6
  cases b2
  · go_enter Tryd.func21, Tryd.ntmps21
    go_wp2_with fail
    refine (H2.out _ _ _ (by simp)).mono ?_
    rintro e w1 ⟨rfl, hb⟩
    have r0 := range_below hb (b := w.heap.size) (vs := [.int .i64 p.x, .int .i64 p.y]) (by repeat (first | exact range_new (by first | omega | (simp; omega) | simp) | refine range_old ?_ (by first | omega | (simp; omega) | simp) | refine range_drew ?_)) (by first | omega | (simp; omega) | simp)
    have r1 := range_below hb (b := w.heap.size + 1) (vs := [.int .i64 q.x, .int .i64 q.y]) (by repeat (first | exact range_new (by first | omega | (simp; omega) | simp) | refine range_old ?_ (by first | omega | (simp; omega) | simp) | refine range_drew ?_)) (by first | omega | (simp; omega) | simp)
    have r2 := range_below hb (b := w.heap.size + 1 + 1) (vs := [.int .i64 r.x, .int .i64 r.y]) (by repeat (first | exact range_new (by first | omega | (simp; omega) | simp) | refine range_old ?_ (by first | omega | (simp; omega) | simp) | refine range_drew ?_)) (by first | omega | (simp; omega) | simp)
    have y1 := Below.size hb
    try simp only [World.size_alloc, World.size_drew] at y1
    have D1 := Lib.hid (show Below w.heap.size w w1 from Below.trans (by repeat (first | exact Below.refl _ _ | refine Below.alloc ?_ (by first | omega | (simp; omega) | simp) _)) (Below.mono hb (by first | omega | (simp; omega) | simp)))
    have z1 := D1.out.size
    clear hb
    have c0_0 := range_cell0 r0 (j := 0) rfl
    have c0_1 := range_cell0 r0 (j := 1) rfl
    have c1_0 := range_cell0 r1 (j := 0) rfl
    have c1_1 := range_cell0 r1 (j := 1) rfl
    have c2_0 := range_cell0 r2 (j := 0) rfl
    have c2_1 := range_cell0 r2 (j := 1) rfl
    go_wp2_with fail
    go_ret2
    exact ⟨rfl, (by repeat (first | exact D1.out | exact Below.refl _ _ | refine Below.alloc ?_ (by first | omega | (simp; omega) | simp) _))⟩
  · go_enter Tryd.func21, Tryd.ntmps21
    go_wp2_with fail
    refine (H2.out _ _ _ (by simp)).mono ?_
    rintro e w1 ⟨rfl, hb⟩
    have r0 := range_below hb (b := w.heap.size) (vs := [.int .i64 p.x, .int .i64 p.y]) (by repeat (first | exact range_new (by first | omega | (simp; omega) | simp) | refine range_old ?_ (by first | omega | (simp; omega) | simp) | refine range_drew ?_)) (by first | omega | (simp; omega) | simp)
    have r1 := range_below hb (b := w.heap.size + 1) (vs := [.int .i64 q.x, .int .i64 q.y]) (by repeat (first | exact range_new (by first | omega | (simp; omega) | simp) | refine range_old ?_ (by first | omega | (simp; omega) | simp) | refine range_drew ?_)) (by first | omega | (simp; omega) | simp)
    have r2 := range_below hb (b := w.heap.size + 1 + 1) (vs := [.int .i64 r.x, .int .i64 r.y]) (by repeat (first | exact range_new (by first | omega | (simp; omega) | simp) | refine range_old ?_ (by first | omega | (simp; omega) | simp) | refine range_drew ?_)) (by first | omega | (simp; omega) | simp)
    have y1 := Below.size hb
    try simp only [World.size_alloc, World.size_drew] at y1
    have D1 := Lib.hid (show Below w.heap.size w w1 from Below.trans (by repeat (first | exact Below.refl _ _ | refine Below.alloc ?_ (by first | omega | (simp; omega) | simp) _)) (Below.mono hb (by first | omega | (simp; omega) | simp)))
    have z1 := D1.out.size
    clear hb
    have c0_0 := range_cell0 r0 (j := 0) rfl
    have c0_1 := range_cell0 r0 (j := 1) rfl
    have c1_0 := range_cell0 r1 (j := 0) rfl
    have c1_1 := range_cell0 r1 (j := 1) rfl
    have c2_0 := range_cell0 r2 (j := 0) rfl
    have c2_1 := range_cell0 r2 (j := 1) rfl
    go_wp2_with fail
    refine wp_region_class (fun w' => Below w1.heap.size w1 w') 8 (by kernel_rfl) (by kernel_rfl) (Below.refl _ w1).drew ?_
    simp only [List.take_succ_cons, List.take_zero, List.drop_succ_cons, List.drop_zero]
    refine quiet_load_mid rfl _ _ rfl _ _ rfl _ _ (fun w' h => range_below h r0 (by first | omega | (simp; omega) | simp)) Tryd.underlying25 rfl (by kernel_rfl) ?_
    simp only [Act.put, List.setIfInBounds_toArray, List.set_cons_zero, List.set_cons_succ]
    refine quiet_load_mid rfl _ _ rfl _ _ rfl _ _ (fun w' h => range_below h r1 (by first | omega | (simp; omega) | simp)) Tryd.underlying25 rfl (by kernel_rfl) ?_
    simp only [Act.put, List.setIfInBounds_toArray, List.set_cons_zero, List.set_cons_succ]
    refine quiet_call rfl 48 _ _ rfl (enter_of Tryd.func48 (by decide) (by intro h; cases h)) _ (in_class_b H3.out) ?_
    simp only [Act.put, List.setIfInBounds_toArray, List.set_cons_zero, List.set_cons_succ]
    refine quiet_load_mid rfl _ _ rfl _ _ rfl _ _ (fun w' h => range_below h r0 (by first | omega | (simp; omega) | simp)) Tryd.underlying25 rfl (by kernel_rfl) ?_
    simp only [Act.put, List.setIfInBounds_toArray, List.set_cons_zero, List.set_cons_succ]
    refine quiet_load_mid rfl _ _ rfl _ _ rfl _ _ (fun w' h => range_below h r2 (by first | omega | (simp; omega) | simp)) Tryd.underlying25 rfl (by kernel_rfl) ?_
    simp only [Act.put, List.setIfInBounds_toArray, List.set_cons_zero, List.set_cons_succ]
    refine quiet_call rfl 48 _ _ rfl (enter_of Tryd.func48 (by decide) (by intro h; cases h)) _ (in_class_b H4.out) ?_
    simp only [Act.put, List.setIfInBounds_toArray, List.set_cons_zero, List.set_cons_succ]
    refine quiet_call rfl 58 _ _ rfl (enter_of Tryd.func58 (by decide) (by intro h; cases h)) _ (in_class_b H5.out) ?_
    simp only [Act.put, List.setIfInBounds_toArray, List.set_cons_zero, List.set_cons_succ]
    refine quiet_call rfl 57 _ _ rfl (enter_of Tryd.func57 (by decide) (by intro h; cases h)) _ (in_class_e H6.out) ?_
    simp only [Act.put, List.setIfInBounds_toArray, List.set_cons_zero, List.set_cons_succ]
    intro w2 hb
    replace r0 := range_below hb (b := w.heap.size) (by repeat (first | exact r0 | exact range_new (by first | omega | (simp; omega) | simp) | refine range_old ?_ (by first | omega | (simp; omega) | simp) | refine range_drew ?_)) (by first | omega | (simp; omega) | simp)
    replace r1 := range_below hb (b := w.heap.size + 1) (by repeat (first | exact r1 | exact range_new (by first | omega | (simp; omega) | simp) | refine range_old ?_ (by first | omega | (simp; omega) | simp) | refine range_drew ?_)) (by first | omega | (simp; omega) | simp)
    replace r2 := range_below hb (b := w.heap.size + 1 + 1) (by repeat (first | exact r2 | exact range_new (by first | omega | (simp; omega) | simp) | refine range_old ?_ (by first | omega | (simp; omega) | simp) | refine range_drew ?_)) (by first | omega | (simp; omega) | simp)
    have y2 := Below.size hb
    try simp only [World.size_alloc, World.size_drew] at y2
    have D2 := Lib.hid (show Below w.heap.size w w2 from Below.trans (by repeat (first | exact D1.out | exact Below.refl _ _ | refine Below.alloc ?_ (by first | omega | (simp; omega) | simp) _)) (Below.mono hb (by first | omega | (simp; omega) | simp)))
    have z2 := D2.out.size
    obtain ⟨hc2, hf2⟩ := bcell hb
    clear hb
    go_wp2_with fail
    go_ret2
    exact ⟨rfl, (by repeat (first | exact D2.out | exact Below.refl _ _ | refine Below.alloc ?_ (by first | omega | (simp; omega) | simp) _))⟩
end Go.Proofs.YtehpgmhilcoalaaDoor
