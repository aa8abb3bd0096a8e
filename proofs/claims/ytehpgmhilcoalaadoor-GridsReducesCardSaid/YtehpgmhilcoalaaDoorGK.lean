/- Square and Dot of the reference; the part of a turn on both sides. -/
import Derived.Test.YtehpgmhilcoalaaDoorGJ
namespace Go.Proofs.YtehpgmhilcoalaaDoor
open Go.RowKit Go.Lib
set_option linter.unusedSimpArgs false
set_option linter.unusedVariables false
set_option maxHeartbeats 1000000 in
set_option maxRecDepth 100000 in
theorem rSquare_any (l : Lat) (p q : Pt) (w : World) : Calls Tryd.prog 14 #[l.val, p.val, q.val] w fun e w' => e = .returned (.tuple #[.int .i64 (gv (okL l && (okP p && okP q)) (wrap64 (prod l (stepP p q).w (stepP p q).w))), .int .i64 (errIf (okL l && (okP p && okP q)))]) ∧ Below w.heap.size w w' := by
  have C1 := fun W => rCheck_any l W
  have C2 := fun W T B hB => rpts2 p q W T B hB
  have C3 := fun W => rStep_any p q W
  have C4 := fun W => rStep_any p q W
  have C5 := fun W => rProduct_any l (stepP p q).w (stepP p q).w W
  generalize okL l = b1 at *
  generalize (okP p && okP q) = b2 at *
  generalize wrap64 (prod l (stepP p q).w (stepP p q).w) = z at *
  generalize hs1 : (stepP p q).w = s1 at *
  unfold Lat.val Pt.val at *
  unfold gv errIf at *
  have H1 := Lib.hid C1
  have H2 := Lib.hid C2
  have H3 := Lib.hid C3
  have H4 := Lib.hid C4
  have H5 := Lib.hid C5
  clear C1 C2 C3 C4 C5
  cases b1
  · go_enter Tryd.func14, Tryd.ntmps14
    go_wp2_with fail
    refine (H1.out _).mono ?_
    rintro e w1 ⟨rfl, hb⟩
    have r0 := range_below hb (b := w.heap.size) (vs := [.int .i64 l.a, .int .i64 l.b, .int .i64 l.c]) (by repeat (first | exact range_new (by first | omega | (simp; omega) | simp) | refine range_old ?_ (by first | omega | (simp; omega) | simp) | refine range_drew ?_)) (by first | omega | (simp; omega) | simp)
    have r1 := range_below hb (b := w.heap.size + 1) (vs := [.int .i64 p.x, .int .i64 p.y]) (by repeat (first | exact range_new (by first | omega | (simp; omega) | simp) | refine range_old ?_ (by first | omega | (simp; omega) | simp) | refine range_drew ?_)) (by first | omega | (simp; omega) | simp)
    have r2 := range_below hb (b := w.heap.size + 1 + 1) (vs := [.int .i64 q.x, .int .i64 q.y]) (by repeat (first | exact range_new (by first | omega | (simp; omega) | simp) | refine range_old ?_ (by first | omega | (simp; omega) | simp) | refine range_drew ?_)) (by first | omega | (simp; omega) | simp)
    have y1 := Below.size hb
    try simp only [World.size_alloc, World.size_drew] at y1
    have D1 := Lib.hid (show Below w.heap.size w w1 from Below.trans (by repeat (first | exact Below.refl _ _ | refine Below.alloc ?_ (by first | omega | (simp; omega) | simp) _)) (Below.mono hb (by first | omega | (simp; omega) | simp)))
    have z1 := D1.out.size
    obtain ⟨hc1, hf1⟩ := bcell hb
    clear hb
    go_wp2_with fail
    go_ret2
    exact ⟨rfl, (by repeat (first | exact D1.out | exact Below.refl _ _ | refine Below.alloc ?_ (by first | omega | (simp; omega) | simp) _))⟩
  · cases b2
    · go_enter Tryd.func14, Tryd.ntmps14
      go_wp2_with fail
      refine (H1.out _).mono ?_
      rintro e w1 ⟨rfl, hb⟩
      have r0 := range_below hb (b := w.heap.size) (vs := [.int .i64 l.a, .int .i64 l.b, .int .i64 l.c]) (by repeat (first | exact range_new (by first | omega | (simp; omega) | simp) | refine range_old ?_ (by first | omega | (simp; omega) | simp) | refine range_drew ?_)) (by first | omega | (simp; omega) | simp)
      have r1 := range_below hb (b := w.heap.size + 1) (vs := [.int .i64 p.x, .int .i64 p.y]) (by repeat (first | exact range_new (by first | omega | (simp; omega) | simp) | refine range_old ?_ (by first | omega | (simp; omega) | simp) | refine range_drew ?_)) (by first | omega | (simp; omega) | simp)
      have r2 := range_below hb (b := w.heap.size + 1 + 1) (vs := [.int .i64 q.x, .int .i64 q.y]) (by repeat (first | exact range_new (by first | omega | (simp; omega) | simp) | refine range_old ?_ (by first | omega | (simp; omega) | simp) | refine range_drew ?_)) (by first | omega | (simp; omega) | simp)
      have y1 := Below.size hb
      try simp only [World.size_alloc, World.size_drew] at y1
      have D1 := Lib.hid (show Below w.heap.size w w1 from Below.trans (by repeat (first | exact Below.refl _ _ | refine Below.alloc ?_ (by first | omega | (simp; omega) | simp) _)) (Below.mono hb (by first | omega | (simp; omega) | simp)))
      have z1 := D1.out.size
      obtain ⟨hc1, hf1⟩ := bcell hb
      clear hb
      go_wp2_with fail
      refine (H2.out _ _ _ rfl).mono ?_
      rintro e w2 ⟨rfl, hb⟩
      replace r0 := range_below hb (b := w.heap.size) (by repeat (first | exact r0 | exact range_new (by first | omega | (simp; omega) | simp) | refine range_old ?_ (by first | omega | (simp; omega) | simp) | refine range_drew ?_)) (by first | omega | (simp; omega) | simp)
      replace r1 := range_below hb (b := w.heap.size + 1) (by repeat (first | exact r1 | exact range_new (by first | omega | (simp; omega) | simp) | refine range_old ?_ (by first | omega | (simp; omega) | simp) | refine range_drew ?_)) (by first | omega | (simp; omega) | simp)
      replace r2 := range_below hb (b := w.heap.size + 1 + 1) (by repeat (first | exact r2 | exact range_new (by first | omega | (simp; omega) | simp) | refine range_old ?_ (by first | omega | (simp; omega) | simp) | refine range_drew ?_)) (by first | omega | (simp; omega) | simp)
      have y2 := Below.size hb
      try simp only [World.size_alloc, World.size_drew] at y2
      have D2 := Lib.hid (show Below w.heap.size w w2 from Below.trans (by repeat (first | exact D1.out | exact Below.refl _ _ | refine Below.alloc ?_ (by first | omega | (simp; omega) | simp) _)) (Below.mono hb (by first | omega | (simp; omega) | simp)))
      have z2 := D2.out.size
      clear hb
      have c0_0 := range_cell0 r0 (j := 0) rfl
      have c0_1 := range_cell0 r0 (j := 1) rfl
      have c0_2 := range_cell0 r0 (j := 2) rfl
      have c1_0 := range_cell0 r1 (j := 0) rfl
      have c1_1 := range_cell0 r1 (j := 1) rfl
      have c2_0 := range_cell0 r2 (j := 0) rfl
      have c2_1 := range_cell0 r2 (j := 1) rfl
      go_wp2_with fail
      go_ret2
      exact ⟨rfl, (by repeat (first | exact D2.out | exact Below.refl _ _ | refine Below.alloc ?_ (by first | omega | (simp; omega) | simp) _))⟩
    · go_enter Tryd.func14, Tryd.ntmps14
      go_wp2_with fail
      refine (H1.out _).mono ?_
      rintro e w1 ⟨rfl, hb⟩
      have r0 := range_below hb (b := w.heap.size) (vs := [.int .i64 l.a, .int .i64 l.b, .int .i64 l.c]) (by repeat (first | exact range_new (by first | omega | (simp; omega) | simp) | refine range_old ?_ (by first | omega | (simp; omega) | simp) | refine range_drew ?_)) (by first | omega | (simp; omega) | simp)
      have r1 := range_below hb (b := w.heap.size + 1) (vs := [.int .i64 p.x, .int .i64 p.y]) (by repeat (first | exact range_new (by first | omega | (simp; omega) | simp) | refine range_old ?_ (by first | omega | (simp; omega) | simp) | refine range_drew ?_)) (by first | omega | (simp; omega) | simp)
      have r2 := range_below hb (b := w.heap.size + 1 + 1) (vs := [.int .i64 q.x, .int .i64 q.y]) (by repeat (first | exact range_new (by first | omega | (simp; omega) | simp) | refine range_old ?_ (by first | omega | (simp; omega) | simp) | refine range_drew ?_)) (by first | omega | (simp; omega) | simp)
      have y1 := Below.size hb
      try simp only [World.size_alloc, World.size_drew] at y1
      have D1 := Lib.hid (show Below w.heap.size w w1 from Below.trans (by repeat (first | exact Below.refl _ _ | refine Below.alloc ?_ (by first | omega | (simp; omega) | simp) _)) (Below.mono hb (by first | omega | (simp; omega) | simp)))
      have z1 := D1.out.size
      obtain ⟨hc1, hf1⟩ := bcell hb
      clear hb
      go_wp2_with fail
      refine (H2.out _ _ _ rfl).mono ?_
      rintro e w2 ⟨rfl, hb⟩
      replace r0 := range_below hb (b := w.heap.size) (by repeat (first | exact r0 | exact range_new (by first | omega | (simp; omega) | simp) | refine range_old ?_ (by first | omega | (simp; omega) | simp) | refine range_drew ?_)) (by first | omega | (simp; omega) | simp)
      replace r1 := range_below hb (b := w.heap.size + 1) (by repeat (first | exact r1 | exact range_new (by first | omega | (simp; omega) | simp) | refine range_old ?_ (by first | omega | (simp; omega) | simp) | refine range_drew ?_)) (by first | omega | (simp; omega) | simp)
      replace r2 := range_below hb (b := w.heap.size + 1 + 1) (by repeat (first | exact r2 | exact range_new (by first | omega | (simp; omega) | simp) | refine range_old ?_ (by first | omega | (simp; omega) | simp) | refine range_drew ?_)) (by first | omega | (simp; omega) | simp)
      have y2 := Below.size hb
      try simp only [World.size_alloc, World.size_drew] at y2
      have D2 := Lib.hid (show Below w.heap.size w w2 from Below.trans (by repeat (first | exact D1.out | exact Below.refl _ _ | refine Below.alloc ?_ (by first | omega | (simp; omega) | simp) _)) (Below.mono hb (by first | omega | (simp; omega) | simp)))
      have z2 := D2.out.size
      clear hb
      have c0_0 := range_cell0 r0 (j := 0) rfl
      have c0_1 := range_cell0 r0 (j := 1) rfl
      have c0_2 := range_cell0 r0 (j := 2) rfl
      have c1_0 := range_cell0 r1 (j := 0) rfl
      have c1_1 := range_cell0 r1 (j := 1) rfl
      have c2_0 := range_cell0 r2 (j := 0) rfl
      have c2_1 := range_cell0 r2 (j := 1) rfl
      go_wp2_with fail
      refine wp_region_class (fun w' => Below w2.heap.size w2 w') 8 (by kernel_rfl) (by kernel_rfl) (Below.refl _ w2).drew ?_
      simp only [List.take_succ_cons, List.take_zero, List.drop_succ_cons, List.drop_zero]
      refine quiet_load_mid rfl _ _ rfl _ _ rfl _ _ (fun w' h => range_below h r0 (by first | omega | (simp; omega) | simp)) Tryd.underlying23 rfl (by kernel_rfl) ?_
      simp only [Act.put, List.setIfInBounds_toArray, List.set_cons_zero, List.set_cons_succ]
      refine quiet_load_mid rfl _ _ rfl _ _ rfl _ _ (fun w' h => range_below h r1 (by first | omega | (simp; omega) | simp)) Tryd.underlying25 rfl (by kernel_rfl) ?_
      simp only [Act.put, List.setIfInBounds_toArray, List.set_cons_zero, List.set_cons_succ]
      refine quiet_load_mid rfl _ _ rfl _ _ rfl _ _ (fun w' h => range_below h r2 (by first | omega | (simp; omega) | simp)) Tryd.underlying25 rfl (by kernel_rfl) ?_
      simp only [Act.put, List.setIfInBounds_toArray, List.set_cons_zero, List.set_cons_succ]
      refine quiet_call rfl 48 _ _ rfl (enter_of Tryd.func48 (by decide) (by intro h; cases h)) _ (in_class_b H3.out) ?_
      simp only [Act.put, List.setIfInBounds_toArray, List.set_cons_zero, List.set_cons_succ]
      refine quiet_load_mid rfl _ _ rfl _ _ rfl _ _ (fun w' h => range_below h r1 (by first | omega | (simp; omega) | simp)) Tryd.underlying25 rfl (by kernel_rfl) ?_
      simp only [Act.put, List.setIfInBounds_toArray, List.set_cons_zero, List.set_cons_succ]
      refine quiet_load_mid rfl _ _ rfl _ _ rfl _ _ (fun w' h => range_below h r2 (by first | omega | (simp; omega) | simp)) Tryd.underlying25 rfl (by kernel_rfl) ?_
      simp only [Act.put, List.setIfInBounds_toArray, List.set_cons_zero, List.set_cons_succ]
      refine quiet_call rfl 48 _ _ rfl (enter_of Tryd.func48 (by decide) (by intro h; cases h)) _ (in_class_b H4.out) ?_
      simp only [Act.put, List.setIfInBounds_toArray, List.set_cons_zero, List.set_cons_succ]
      refine quiet_call rfl 47 _ _ rfl (enter_of Tryd.func47 (by decide) (by intro h; cases h)) _ (in_class_b H5.out) ?_
      simp only [Act.put, List.setIfInBounds_toArray, List.set_cons_zero, List.set_cons_succ]
      intro w3 hb
      replace r0 := range_below hb (b := w.heap.size) (by repeat (first | exact r0 | exact range_new (by first | omega | (simp; omega) | simp) | refine range_old ?_ (by first | omega | (simp; omega) | simp) | refine range_drew ?_)) (by first | omega | (simp; omega) | simp)
      replace r1 := range_below hb (b := w.heap.size + 1) (by repeat (first | exact r1 | exact range_new (by first | omega | (simp; omega) | simp) | refine range_old ?_ (by first | omega | (simp; omega) | simp) | refine range_drew ?_)) (by first | omega | (simp; omega) | simp)
      replace r2 := range_below hb (b := w.heap.size + 1 + 1) (by repeat (first | exact r2 | exact range_new (by first | omega | (simp; omega) | simp) | refine range_old ?_ (by first | omega | (simp; omega) | simp) | refine range_drew ?_)) (by first | omega | (simp; omega) | simp)
      have y3 := Below.size hb
      try simp only [World.size_alloc, World.size_drew] at y3
      have D3 := Lib.hid (show Below w.heap.size w w3 from Below.trans (by repeat (first | exact D2.out | exact Below.refl _ _ | refine Below.alloc ?_ (by first | omega | (simp; omega) | simp) _)) (Below.mono hb (by first | omega | (simp; omega) | simp)))
      have z3 := D3.out.size
      obtain ⟨hc3, hf3⟩ := bcell hb
      clear hb
      go_wp2_with fail
      go_ret2
      exact ⟨rfl, (by repeat (first | exact D3.out | exact Below.refl _ _ | refine Below.alloc ?_ (by first | omega | (simp; omega) | simp) _))⟩
set_option maxHeartbeats 1000000 in
set_option maxRecDepth 100000 in
theorem rDot_any (l : Lat) (o p q : Pt) (w : World) : Calls Tryd.prog 16 #[l.val, o.val, p.val, q.val] w fun e w' => e = .returned (.tuple #[.int .i64 (gv (okL l && (okP o && okP p && okP q)) (wrap64 (prod l (stepP o p).w (stepP o q).w))), .int .i64 (errIf (okL l && (okP o && okP p && okP q)))]) ∧ Below w.heap.size w w' := by
  have C1 := fun W => rCheck_any l W
  have C2 := fun W T B hB => rpts3 o p q W T B hB
  have C3 := fun W => rStep_any o p W
  have C4 := fun W => rStep_any o q W
  have C5 := fun W => rProduct_any l (stepP o p).w (stepP o q).w W
  generalize okL l = b1 at *
  generalize (okP o && okP p && okP q) = b2 at *
  generalize wrap64 (prod l (stepP o p).w (stepP o q).w) = z at *
  generalize hs1 : (stepP o p).w = s1 at *
  generalize (stepP o q).w = s2 at *
  unfold Lat.val Pt.val at *
  unfold gv errIf at *
  have H1 := Lib.hid C1
  have H2 := Lib.hid C2
  have H3 := Lib.hid C3
  have H4 := Lib.hid C4
  have H5 := Lib.hid C5
  clear C1 C2 C3 C4 C5
  cases b1
  · go_enter Tryd.func16, Tryd.ntmps16
    go_wp2_with fail
    refine (H1.out _).mono ?_
    rintro e w1 ⟨rfl, hb⟩
    have r0 := range_below hb (b := w.heap.size) (vs := [.int .i64 l.a, .int .i64 l.b, .int .i64 l.c]) (by repeat (first | exact range_new (by first | omega | (simp; omega) | simp) | refine range_old ?_ (by first | omega | (simp; omega) | simp) | refine range_drew ?_)) (by first | omega | (simp; omega) | simp)
    have r1 := range_below hb (b := w.heap.size + 1) (vs := [.int .i64 o.x, .int .i64 o.y]) (by repeat (first | exact range_new (by first | omega | (simp; omega) | simp) | refine range_old ?_ (by first | omega | (simp; omega) | simp) | refine range_drew ?_)) (by first | omega | (simp; omega) | simp)
    have r2 := range_below hb (b := w.heap.size + 1 + 1) (vs := [.int .i64 p.x, .int .i64 p.y]) (by repeat (first | exact range_new (by first | omega | (simp; omega) | simp) | refine range_old ?_ (by first | omega | (simp; omega) | simp) | refine range_drew ?_)) (by first | omega | (simp; omega) | simp)
    have r3 := range_below hb (b := w.heap.size + 1 + 1 + 1) (vs := [.int .i64 q.x, .int .i64 q.y]) (by repeat (first | exact range_new (by first | omega | (simp; omega) | simp) | refine range_old ?_ (by first | omega | (simp; omega) | simp) | refine range_drew ?_)) (by first | omega | (simp; omega) | simp)
    have y1 := Below.size hb
    try simp only [World.size_alloc, World.size_drew] at y1
    have D1 := Lib.hid (show Below w.heap.size w w1 from Below.trans (by repeat (first | exact Below.refl _ _ | refine Below.alloc ?_ (by first | omega | (simp; omega) | simp) _)) (Below.mono hb (by first | omega | (simp; omega) | simp)))
    have z1 := D1.out.size
    obtain ⟨hc1, hf1⟩ := bcell hb
    clear hb
    go_wp2_with fail
    go_ret2
    exact ⟨rfl, (by repeat (first | exact D1.out | exact Below.refl _ _ | refine Below.alloc ?_ (by first | omega | (simp; omega) | simp) _))⟩
  · cases b2
    · go_enter Tryd.func16, Tryd.ntmps16
      go_wp2_with fail
      refine (H1.out _).mono ?_
      rintro e w1 ⟨rfl, hb⟩
      have r0 := range_below hb (b := w.heap.size) (vs := [.int .i64 l.a, .int .i64 l.b, .int .i64 l.c]) (by repeat (first | exact range_new (by first | omega | (simp; omega) | simp) | refine range_old ?_ (by first | omega | (simp; omega) | simp) | refine range_drew ?_)) (by first | omega | (simp; omega) | simp)
      have r1 := range_below hb (b := w.heap.size + 1) (vs := [.int .i64 o.x, .int .i64 o.y]) (by repeat (first | exact range_new (by first | omega | (simp; omega) | simp) | refine range_old ?_ (by first | omega | (simp; omega) | simp) | refine range_drew ?_)) (by first | omega | (simp; omega) | simp)
      have r2 := range_below hb (b := w.heap.size + 1 + 1) (vs := [.int .i64 p.x, .int .i64 p.y]) (by repeat (first | exact range_new (by first | omega | (simp; omega) | simp) | refine range_old ?_ (by first | omega | (simp; omega) | simp) | refine range_drew ?_)) (by first | omega | (simp; omega) | simp)
      have r3 := range_below hb (b := w.heap.size + 1 + 1 + 1) (vs := [.int .i64 q.x, .int .i64 q.y]) (by repeat (first | exact range_new (by first | omega | (simp; omega) | simp) | refine range_old ?_ (by first | omega | (simp; omega) | simp) | refine range_drew ?_)) (by first | omega | (simp; omega) | simp)
      have y1 := Below.size hb
      try simp only [World.size_alloc, World.size_drew] at y1
      have D1 := Lib.hid (show Below w.heap.size w w1 from Below.trans (by repeat (first | exact Below.refl _ _ | refine Below.alloc ?_ (by first | omega | (simp; omega) | simp) _)) (Below.mono hb (by first | omega | (simp; omega) | simp)))
      have z1 := D1.out.size
      obtain ⟨hc1, hf1⟩ := bcell hb
      clear hb
      go_wp2_with fail
      refine (H2.out _ _ _ rfl).mono ?_
      rintro e w2 ⟨rfl, hb⟩
      replace r0 := range_below hb (b := w.heap.size) (by repeat (first | exact r0 | exact range_new (by first | omega | (simp; omega) | simp) | refine range_old ?_ (by first | omega | (simp; omega) | simp) | refine range_drew ?_)) (by first | omega | (simp; omega) | simp)
      replace r1 := range_below hb (b := w.heap.size + 1) (by repeat (first | exact r1 | exact range_new (by first | omega | (simp; omega) | simp) | refine range_old ?_ (by first | omega | (simp; omega) | simp) | refine range_drew ?_)) (by first | omega | (simp; omega) | simp)
      replace r2 := range_below hb (b := w.heap.size + 1 + 1) (by repeat (first | exact r2 | exact range_new (by first | omega | (simp; omega) | simp) | refine range_old ?_ (by first | omega | (simp; omega) | simp) | refine range_drew ?_)) (by first | omega | (simp; omega) | simp)
      replace r3 := range_below hb (b := w.heap.size + 1 + 1 + 1) (by repeat (first | exact r3 | exact range_new (by first | omega | (simp; omega) | simp) | refine range_old ?_ (by first | omega | (simp; omega) | simp) | refine range_drew ?_)) (by first | omega | (simp; omega) | simp)
      have y2 := Below.size hb
      try simp only [World.size_alloc, World.size_drew] at y2
      have D2 := Lib.hid (show Below w.heap.size w w2 from Below.trans (by repeat (first | exact D1.out | exact Below.refl _ _ | refine Below.alloc ?_ (by first | omega | (simp; omega) | simp) _)) (Below.mono hb (by first | omega | (simp; omega) | simp)))
      have z2 := D2.out.size
      clear hb
      have c0_0 := range_cell0 r0 (j := 0) rfl
      have c0_1 := range_cell0 r0 (j := 1) rfl
      have c0_2 := range_cell0 r0 (j := 2) rfl
      have c1_0 := range_cell0 r1 (j := 0) rfl
      have c1_1 := range_cell0 r1 (j := 1) rfl
      have c2_0 := range_cell0 r2 (j := 0) rfl
      have c2_1 := range_cell0 r2 (j := 1) rfl
      have c3_0 := range_cell0 r3 (j := 0) rfl
      have c3_1 := range_cell0 r3 (j := 1) rfl
      go_wp2_with fail
      go_ret2
      exact ⟨rfl, (by repeat (first | exact D2.out | exact Below.refl _ _ | refine Below.alloc ?_ (by first | omega | (simp; omega) | simp) _))⟩
    · go_enter Tryd.func16, Tryd.ntmps16
      go_wp2_with fail
      refine (H1.out _).mono ?_
      rintro e w1 ⟨rfl, hb⟩
      have r0 := range_below hb (b := w.heap.size) (vs := [.int .i64 l.a, .int .i64 l.b, .int .i64 l.c]) (by repeat (first | exact range_new (by first | omega | (simp; omega) | simp) | refine range_old ?_ (by first | omega | (simp; omega) | simp) | refine range_drew ?_)) (by first | omega | (simp; omega) | simp)
      have r1 := range_below hb (b := w.heap.size + 1) (vs := [.int .i64 o.x, .int .i64 o.y]) (by repeat (first | exact range_new (by first | omega | (simp; omega) | simp) | refine range_old ?_ (by first | omega | (simp; omega) | simp) | refine range_drew ?_)) (by first | omega | (simp; omega) | simp)
      have r2 := range_below hb (b := w.heap.size + 1 + 1) (vs := [.int .i64 p.x, .int .i64 p.y]) (by repeat (first | exact range_new (by first | omega | (simp; omega) | simp) | refine range_old ?_ (by first | omega | (simp; omega) | simp) | refine range_drew ?_)) (by first | omega | (simp; omega) | simp)
      have r3 := range_below hb (b := w.heap.size + 1 + 1 + 1) (vs := [.int .i64 q.x, .int .i64 q.y]) (by repeat (first | exact range_new (by first | omega | (simp; omega) | simp) | refine range_old ?_ (by first | omega | (simp; omega) | simp) | refine range_drew ?_)) (by first | omega | (simp; omega) | simp)
      have y1 := Below.size hb
      try simp only [World.size_alloc, World.size_drew] at y1
      have D1 := Lib.hid (show Below w.heap.size w w1 from Below.trans (by repeat (first | exact Below.refl _ _ | refine Below.alloc ?_ (by first | omega | (simp; omega) | simp) _)) (Below.mono hb (by first | omega | (simp; omega) | simp)))
      have z1 := D1.out.size
      obtain ⟨hc1, hf1⟩ := bcell hb
      clear hb
      go_wp2_with fail
      refine (H2.out _ _ _ rfl).mono ?_
      rintro e w2 ⟨rfl, hb⟩
      replace r0 := range_below hb (b := w.heap.size) (by repeat (first | exact r0 | exact range_new (by first | omega | (simp; omega) | simp) | refine range_old ?_ (by first | omega | (simp; omega) | simp) | refine range_drew ?_)) (by first | omega | (simp; omega) | simp)
      replace r1 := range_below hb (b := w.heap.size + 1) (by repeat (first | exact r1 | exact range_new (by first | omega | (simp; omega) | simp) | refine range_old ?_ (by first | omega | (simp; omega) | simp) | refine range_drew ?_)) (by first | omega | (simp; omega) | simp)
      replace r2 := range_below hb (b := w.heap.size + 1 + 1) (by repeat (first | exact r2 | exact range_new (by first | omega | (simp; omega) | simp) | refine range_old ?_ (by first | omega | (simp; omega) | simp) | refine range_drew ?_)) (by first | omega | (simp; omega) | simp)
      replace r3 := range_below hb (b := w.heap.size + 1 + 1 + 1) (by repeat (first | exact r3 | exact range_new (by first | omega | (simp; omega) | simp) | refine range_old ?_ (by first | omega | (simp; omega) | simp) | refine range_drew ?_)) (by first | omega | (simp; omega) | simp)
      have y2 := Below.size hb
      try simp only [World.size_alloc, World.size_drew] at y2
      have D2 := Lib.hid (show Below w.heap.size w w2 from Below.trans (by repeat (first | exact D1.out | exact Below.refl _ _ | refine Below.alloc ?_ (by first | omega | (simp; omega) | simp) _)) (Below.mono hb (by first | omega | (simp; omega) | simp)))
      have z2 := D2.out.size
      clear hb
      have c0_0 := range_cell0 r0 (j := 0) rfl
      have c0_1 := range_cell0 r0 (j := 1) rfl
      have c0_2 := range_cell0 r0 (j := 2) rfl
      have c1_0 := range_cell0 r1 (j := 0) rfl
      have c1_1 := range_cell0 r1 (j := 1) rfl
      have c2_0 := range_cell0 r2 (j := 0) rfl
      have c2_1 := range_cell0 r2 (j := 1) rfl
      have c3_0 := range_cell0 r3 (j := 0) rfl
      have c3_1 := range_cell0 r3 (j := 1) rfl
      go_wp2_with fail
      refine wp_region_class (fun w' => Below w2.heap.size w2 w') 8 (by kernel_rfl) (by kernel_rfl) (Below.refl _ w2).drew ?_
      simp only [List.take_succ_cons, List.take_zero, List.drop_succ_cons, List.drop_zero]
      refine quiet_load_mid rfl _ _ rfl _ _ rfl _ _ (fun w' h => range_below h r0 (by first | omega | (simp; omega) | simp)) Tryd.underlying23 rfl (by kernel_rfl) ?_
      simp only [Act.put, List.setIfInBounds_toArray, List.set_cons_zero, List.set_cons_succ]
      refine quiet_load_mid rfl _ _ rfl _ _ rfl _ _ (fun w' h => range_below h r1 (by first | omega | (simp; omega) | simp)) Tryd.underlying25 rfl (by kernel_rfl) ?_
      simp only [Act.put, List.setIfInBounds_toArray, List.set_cons_zero, List.set_cons_succ]
      refine quiet_load_mid rfl _ _ rfl _ _ rfl _ _ (fun w' h => range_below h r2 (by first | omega | (simp; omega) | simp)) Tryd.underlying25 rfl (by kernel_rfl) ?_
      simp only [Act.put, List.setIfInBounds_toArray, List.set_cons_zero, List.set_cons_succ]
      refine quiet_call rfl 48 _ _ rfl (enter_of Tryd.func48 (by decide) (by intro h; cases h)) _ (in_class_b H3.out) ?_
      simp only [Act.put, List.setIfInBounds_toArray, List.set_cons_zero, List.set_cons_succ]
      refine quiet_load_mid rfl _ _ rfl _ _ rfl _ _ (fun w' h => range_below h r1 (by first | omega | (simp; omega) | simp)) Tryd.underlying25 rfl (by kernel_rfl) ?_
      simp only [Act.put, List.setIfInBounds_toArray, List.set_cons_zero, List.set_cons_succ]
      refine quiet_load_mid rfl _ _ rfl _ _ rfl _ _ (fun w' h => range_below h r3 (by first | omega | (simp; omega) | simp)) Tryd.underlying25 rfl (by kernel_rfl) ?_
      simp only [Act.put, List.setIfInBounds_toArray, List.set_cons_zero, List.set_cons_succ]
      refine quiet_call rfl 48 _ _ rfl (enter_of Tryd.func48 (by decide) (by intro h; cases h)) _ (in_class_b H4.out) ?_
      simp only [Act.put, List.setIfInBounds_toArray, List.set_cons_zero, List.set_cons_succ]
      refine quiet_call rfl 47 _ _ rfl (enter_of Tryd.func47 (by decide) (by intro h; cases h)) _ (in_class_b H5.out) ?_
      simp only [Act.put, List.setIfInBounds_toArray, List.set_cons_zero, List.set_cons_succ]
      intro w3 hb
      replace r0 := range_below hb (b := w.heap.size) (by repeat (first | exact r0 | exact range_new (by first | omega | (simp; omega) | simp) | refine range_old ?_ (by first | omega | (simp; omega) | simp) | refine range_drew ?_)) (by first | omega | (simp; omega) | simp)
      replace r1 := range_below hb (b := w.heap.size + 1) (by repeat (first | exact r1 | exact range_new (by first | omega | (simp; omega) | simp) | refine range_old ?_ (by first | omega | (simp; omega) | simp) | refine range_drew ?_)) (by first | omega | (simp; omega) | simp)
      replace r2 := range_below hb (b := w.heap.size + 1 + 1) (by repeat (first | exact r2 | exact range_new (by first | omega | (simp; omega) | simp) | refine range_old ?_ (by first | omega | (simp; omega) | simp) | refine range_drew ?_)) (by first | omega | (simp; omega) | simp)
      replace r3 := range_below hb (b := w.heap.size + 1 + 1 + 1) (by repeat (first | exact r3 | exact range_new (by first | omega | (simp; omega) | simp) | refine range_old ?_ (by first | omega | (simp; omega) | simp) | refine range_drew ?_)) (by first | omega | (simp; omega) | simp)
      have y3 := Below.size hb
      try simp only [World.size_alloc, World.size_drew] at y3
      have D3 := Lib.hid (show Below w.heap.size w w3 from Below.trans (by repeat (first | exact D2.out | exact Below.refl _ _ | refine Below.alloc ?_ (by first | omega | (simp; omega) | simp) _)) (Below.mono hb (by first | omega | (simp; omega) | simp)))
      have z3 := D3.out.size
      obtain ⟨hc3, hf3⟩ := bcell hb
      clear hb
      go_wp2_with fail
      go_ret2
      exact ⟨rfl, (by repeat (first | exact D3.out | exact Below.refl _ _ | refine Below.alloc ?_ (by first | omega | (simp; omega) | simp) _))⟩
def partV (f s : Pt) : Int := if 0 < wrap64 (crossP f s) then 1 else if wrap64 (crossP f s) < 0 then 3 else if 0 < wrap64 (wrap64 (f.x * s.x) + wrap64 (f.y * s.y)) then 0 else 2
set_option maxHeartbeats 1000000 in
theorem part_any (f s : Pt) (w : World) : Calls Tryd.prog 60 #[f.val, s.val] w fun e w' => e = .returned (.int .i64 (partV f s)) ∧ Below w.heap.size w w' := by
  have C1 := fun W => across_any f s W
  unfold partV
  unfold Pt.val at *
  generalize wrap64 (crossP f s) = c at *
  have H1 := Lib.hid C1
  clear C1
  obtain ⟨fx, fy⟩ := f
  obtain ⟨sx, sy⟩ := s
  simp only at *
  by_cases q1 : 0 < c
  · rw [if_pos q1]
    go_enter Tryd.func60, Tryd.ntmps60
    go_wp2_with fail
    refine (H1.out _).mono ?_
    rintro e w1 ⟨rfl, hb⟩
    have y1 := Below.size hb
    try simp only [World.size_alloc, World.size_drew] at y1
    have D1 := Lib.hid (show Below w.heap.size w w1 from Below.trans (by repeat (first | exact Below.refl _ _ | refine Below.alloc ?_ (by first | omega | (simp; omega) | simp) _)) (Below.mono hb (by first | omega | (simp; omega) | simp)))
    have z1 := D1.out.size
    obtain ⟨hc1, hf1⟩ := bcell hb
    clear hb
    go_wp2_with fail
    go_ret
    exact ⟨rfl, (by repeat (first | exact D1.out | exact Below.refl _ _ | refine Below.alloc ?_ (by first | omega | (simp; omega) | simp) _))⟩
  · rw [if_neg q1]
    by_cases q2 : c < 0
    · rw [if_pos q2]
      go_enter Tryd.func60, Tryd.ntmps60
      go_wp2_with fail
      refine (H1.out _).mono ?_
      rintro e w1 ⟨rfl, hb⟩
      have y1 := Below.size hb
      try simp only [World.size_alloc, World.size_drew] at y1
      have D1 := Lib.hid (show Below w.heap.size w w1 from Below.trans (by repeat (first | exact Below.refl _ _ | refine Below.alloc ?_ (by first | omega | (simp; omega) | simp) _)) (Below.mono hb (by first | omega | (simp; omega) | simp)))
      have z1 := D1.out.size
      obtain ⟨hc1, hf1⟩ := bcell hb
      clear hb
      go_wp2_with fail
      go_ret
      exact ⟨rfl, (by repeat (first | exact D1.out | exact Below.refl _ _ | refine Below.alloc ?_ (by first | omega | (simp; omega) | simp) _))⟩
    · rw [if_neg q2]
      by_cases q3 : 0 < wrap64 (wrap64 (fx * sx) + wrap64 (fy * sy))
      · rw [if_pos q3]
        go_enter Tryd.func60, Tryd.ntmps60
        go_wp2_with fail
        refine (H1.out _).mono ?_
        rintro e w1 ⟨rfl, hb⟩
        have y1 := Below.size hb
        try simp only [World.size_alloc, World.size_drew] at y1
        have D1 := Lib.hid (show Below w.heap.size w w1 from Below.trans (by repeat (first | exact Below.refl _ _ | refine Below.alloc ?_ (by first | omega | (simp; omega) | simp) _)) (Below.mono hb (by first | omega | (simp; omega) | simp)))
        have z1 := D1.out.size
        obtain ⟨hc1, hf1⟩ := bcell hb
        clear hb
        go_wp2_with fail
        go_ret
        exact ⟨rfl, (by repeat (first | exact D1.out | exact Below.refl _ _ | refine Below.alloc ?_ (by first | omega | (simp; omega) | simp) _))⟩
      · rw [if_neg q3]
        go_enter Tryd.func60, Tryd.ntmps60
        go_wp2_with fail
        refine (H1.out _).mono ?_
        rintro e w1 ⟨rfl, hb⟩
        have y1 := Below.size hb
        try simp only [World.size_alloc, World.size_drew] at y1
        have D1 := Lib.hid (show Below w.heap.size w w1 from Below.trans (by repeat (first | exact Below.refl _ _ | refine Below.alloc ?_ (by first | omega | (simp; omega) | simp) _)) (Below.mono hb (by first | omega | (simp; omega) | simp)))
        have z1 := D1.out.size
        obtain ⟨hc1, hf1⟩ := bcell hb
        clear hb
        go_wp2_with fail
        go_ret
        exact ⟨rfl, (by repeat (first | exact D1.out | exact Below.refl _ _ | refine Below.alloc ?_ (by first | omega | (simp; omega) | simp) _))⟩
set_option maxHeartbeats 1000000 in
theorem rPart_any (f s : Pt) (w : World) : Calls Tryd.prog 61 #[f.val, s.val] w fun e w' => e = .returned (.int .i64 (partV f s)) ∧ Below w.heap.size w w' := by
  have C1 := fun W => rCross_any f s W
  unfold partV
  unfold Pt.val at *
  generalize wrap64 (crossP f s) = c at *
  have H1 := Lib.hid C1
  clear C1
  obtain ⟨fx, fy⟩ := f
  obtain ⟨sx, sy⟩ := s
  simp only at *
  by_cases q1 : 0 < c
  · rw [if_pos q1]
    go_enter Tryd.func61, Tryd.ntmps61
    go_wp2_with fail
    refine (H1.out _).mono ?_
    rintro e w1 ⟨rfl, hb⟩
    have y1 := Below.size hb
    try simp only [World.size_alloc, World.size_drew] at y1
    have D1 := Lib.hid (show Below w.heap.size w w1 from Below.trans (by repeat (first | exact Below.refl _ _ | refine Below.alloc ?_ (by first | omega | (simp; omega) | simp) _)) (Below.mono hb (by first | omega | (simp; omega) | simp)))
    have z1 := D1.out.size
    obtain ⟨hc1, hf1⟩ := bcell hb
    clear hb
    go_wp2_with fail
    go_ret
    exact ⟨rfl, (by repeat (first | exact D1.out | exact Below.refl _ _ | refine Below.alloc ?_ (by first | omega | (simp; omega) | simp) _))⟩
  · rw [if_neg q1]
    by_cases q2 : c < 0
    · rw [if_pos q2]
      go_enter Tryd.func61, Tryd.ntmps61
      go_wp2_with fail
      refine (H1.out _).mono ?_
      rintro e w1 ⟨rfl, hb⟩
      have y1 := Below.size hb
      try simp only [World.size_alloc, World.size_drew] at y1
      have D1 := Lib.hid (show Below w.heap.size w w1 from Below.trans (by repeat (first | exact Below.refl _ _ | refine Below.alloc ?_ (by first | omega | (simp; omega) | simp) _)) (Below.mono hb (by first | omega | (simp; omega) | simp)))
      have z1 := D1.out.size
      obtain ⟨hc1, hf1⟩ := bcell hb
      clear hb
      go_wp2_with fail
      go_ret
      exact ⟨rfl, (by repeat (first | exact D1.out | exact Below.refl _ _ | refine Below.alloc ?_ (by first | omega | (simp; omega) | simp) _))⟩
    · rw [if_neg q2]
      by_cases q3 : 0 < wrap64 (wrap64 (fx * sx) + wrap64 (fy * sy))
      · rw [if_pos q3]
        go_enter Tryd.func61, Tryd.ntmps61
        go_wp2_with fail
        refine (H1.out _).mono ?_
        rintro e w1 ⟨rfl, hb⟩
        have y1 := Below.size hb
        try simp only [World.size_alloc, World.size_drew] at y1
        have D1 := Lib.hid (show Below w.heap.size w w1 from Below.trans (by repeat (first | exact Below.refl _ _ | refine Below.alloc ?_ (by first | omega | (simp; omega) | simp) _)) (Below.mono hb (by first | omega | (simp; omega) | simp)))
        have z1 := D1.out.size
        obtain ⟨hc1, hf1⟩ := bcell hb
        clear hb
        go_wp2_with fail
        go_ret
        exact ⟨rfl, (by repeat (first | exact D1.out | exact Below.refl _ _ | refine Below.alloc ?_ (by first | omega | (simp; omega) | simp) _))⟩
      · rw [if_neg q3]
        go_enter Tryd.func61, Tryd.ntmps61
        go_wp2_with fail
        refine (H1.out _).mono ?_
        rintro e w1 ⟨rfl, hb⟩
        have y1 := Below.size hb
        try simp only [World.size_alloc, World.size_drew] at y1
        have D1 := Lib.hid (show Below w.heap.size w w1 from Below.trans (by repeat (first | exact Below.refl _ _ | refine Below.alloc ?_ (by first | omega | (simp; omega) | simp) _)) (Below.mono hb (by first | omega | (simp; omega) | simp)))
        have z1 := D1.out.size
        obtain ⟨hc1, hf1⟩ := bcell hb
        clear hb
        go_wp2_with fail
        go_ret
        exact ⟨rfl, (by repeat (first | exact D1.out | exact Below.refl _ _ | refine Below.alloc ?_ (by first | omega | (simp; omega) | simp) _))⟩
end Go.Proofs.YtehpgmhilcoalaaDoor
