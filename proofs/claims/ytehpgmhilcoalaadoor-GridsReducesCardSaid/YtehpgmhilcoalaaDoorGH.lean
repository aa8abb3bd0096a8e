/- Check, validMove, on both sides. -/
import Derived.Test.YtehpgmhilcoalaaDoorGG
namespace Go.Proofs.YtehpgmhilcoalaaDoor
open Go.RowKit Go.Lib
set_option linter.unusedSimpArgs false
set_option linter.unusedVariables false
def errIf (b : Bool) : Int := if b then 0 else 2
def okV (m : Mov) : Bool := okM m.m && okP m.t
set_option maxHeartbeats 400000 in
theorem Check_any (l : Lat) (w : World) : Calls Tryd.prog 17 #[l.val] w fun e w' => e = .returned (.int .i64 (errIf (okL l))) ∧ Below w.heap.size w w' := by
  have C1 := fun W => validLattice_any l W
  generalize okL l = r at *
  have H1 := Lib.hid C1
  clear C1
  unfold Lat.val at *
  cases r
  · go_enter Tryd.func17, Tryd.ntmps17
    go_wp2_with fail
    refine (H1.out _).mono ?_
    rintro e w1 ⟨rfl, hb⟩
    have D1 := Lib.hid (show Below w.heap.size w w1 from Below.trans (by repeat (first | exact Below.refl _ _ | refine Below.alloc ?_ (by first | omega | (simp; omega) | simp) _)) (Below.mono hb (by first | omega | (simp; omega) | simp)))
    have z1 := D1.out.size
    obtain ⟨hc1, hf1⟩ := bcell hb
    have y1 := hb.size
    try simp only [World.size_alloc, World.size_drew] at y1
    clear hb
    go_wp2_with fail
    go_ret
    exact ⟨rfl, (by repeat (first | exact D1.out | exact Below.refl _ _ | refine Below.alloc ?_ (by first | omega | (simp; omega) | simp) _))⟩
  · go_enter Tryd.func17, Tryd.ntmps17
    go_wp2_with fail
    refine (H1.out _).mono ?_
    rintro e w1 ⟨rfl, hb⟩
    have D1 := Lib.hid (show Below w.heap.size w w1 from Below.trans (by repeat (first | exact Below.refl _ _ | refine Below.alloc ?_ (by first | omega | (simp; omega) | simp) _)) (Below.mono hb (by first | omega | (simp; omega) | simp)))
    have z1 := D1.out.size
    obtain ⟨hc1, hf1⟩ := bcell hb
    have y1 := hb.size
    try simp only [World.size_alloc, World.size_drew] at y1
    clear hb
    go_wp2_with fail
    go_ret
    exact ⟨rfl, (by repeat (first | exact D1.out | exact Below.refl _ _ | refine Below.alloc ?_ (by first | omega | (simp; omega) | simp) _))⟩
set_option maxHeartbeats 1000000 in
theorem rCheck_any (l : Lat) (w : World) : Calls Tryd.prog 18 #[l.val] w fun e w' => e = .returned (.int .i64 (errIf (okL l))) ∧ Below w.heap.size w w' := by
  have hdet : inB 1 10000 l.a = true → inB 1 10000 l.c = true → inB (-10000) 10000 l.b = true → wrap64 l.det = l.det := fun h1 h2 h3 => by
    rw [inB_iff] at h1 h2 h3
    have k1 := mul_bound (a := l.a) (b := l.c) (A := 10000) (B := 10000) (by omega) (by omega)
    have k2 := mul_bound (a := l.b) (b := l.b) (A := 10000) (B := 10000) (by omega) (by omega)
    exact wrap64_id (by unfold Lat.det; omega)
  have C0 := fun w => from_any l.a 1 10000 w
  have C1 := fun w => from_any l.c 1 10000 w
  have C2 := fun w => from_any l.b (-10000) 10000 w
  have C3 := fun w => rDet_any l w
  have he : okL l = (inB 1 10000 l.a && inB 1 10000 l.c && inB (-10000) 10000 l.b && decide (1 ≤ l.det)) := rfl
  rw [he]
  clear he
  generalize inB 1 10000 l.a = b0 at *
  generalize inB 1 10000 l.c = b1 at *
  generalize inB (-10000) 10000 l.b = b2 at *
  have H0 := Lib.hid C0
  have H1 := Lib.hid C1
  have H2 := Lib.hid C2
  have Hd := Lib.hid hdet
  clear C0 C1 C2 hdet
  obtain ⟨A, B, C⟩ := l
  unfold Lat.val at *
  have H3 := Lib.hid C3
  clear C3
  generalize Lat.det _ = d at *
  cases b0
  · go_enter Tryd.func18, Tryd.ntmps18
    go_wp2_with fail
    refine (H0.out _).mono ?_
    rintro e w' ⟨rfl, rfl⟩
    go_wp2_with fail
    go_ret
    exact ⟨by simp [errIf], (by repeat (first | exact Below.refl _ _ | refine Below.alloc ?_ (by first | omega | (simp; omega) | simp) _))⟩
  · skip
    cases b1
    · go_enter Tryd.func18, Tryd.ntmps18
      go_wp2_with fail
      refine (H0.out _).mono ?_
      rintro e w' ⟨rfl, rfl⟩
      go_wp2_with fail
      refine (H1.out _).mono ?_
      rintro e w' ⟨rfl, rfl⟩
      go_wp2_with fail
      go_ret
      exact ⟨by simp [errIf], (by repeat (first | exact Below.refl _ _ | refine Below.alloc ?_ (by first | omega | (simp; omega) | simp) _))⟩
    · skip
      cases b2
      · go_enter Tryd.func18, Tryd.ntmps18
        go_wp2_with fail
        refine (H0.out _).mono ?_
        rintro e w' ⟨rfl, rfl⟩
        go_wp2_with fail
        refine (H1.out _).mono ?_
        rintro e w' ⟨rfl, rfl⟩
        go_wp2_with fail
        refine (H2.out _).mono ?_
        rintro e w' ⟨rfl, rfl⟩
        go_wp2_with fail
        go_ret
        exact ⟨by simp [errIf], (by repeat (first | exact Below.refl _ _ | refine Below.alloc ?_ (by first | omega | (simp; omega) | simp) _))⟩
      · skip
        have hw := Hd.out rfl rfl rfl
        clear Hd
        by_cases q : d < 1
        · have q2 : decide (1 ≤ d) = false := decide_eq_false (by omega)
          rw [hw] at H3
          rw [q2]
          clear q2 hw
          go_enter Tryd.func18, Tryd.ntmps18
          go_wp2_with fail
          refine (H0.out _).mono ?_
          rintro e w' ⟨rfl, rfl⟩
          go_wp2_with fail
          refine (H1.out _).mono ?_
          rintro e w' ⟨rfl, rfl⟩
          go_wp2_with fail
          refine (H2.out _).mono ?_
          rintro e w' ⟨rfl, rfl⟩
          go_wp2_with fail
          refine (H3.out _).mono ?_
          rintro e w1 ⟨rfl, hb⟩
          have D1 := Lib.hid (show Below w.heap.size w w1 from Below.trans (by repeat (first | exact Below.refl _ _ | refine Below.alloc ?_ (by first | omega | (simp; omega) | simp) _)) (Below.mono hb (by first | omega | (simp; omega) | simp)))
          have z1 := D1.out.size
          obtain ⟨hc1, hf1⟩ := bcell hb
          have y1 := hb.size
          try simp only [World.size_alloc, World.size_drew] at y1
          clear hb
          go_wp2_with fail
          go_ret
          exact ⟨by simp [errIf], (by repeat (first | exact D1.out | exact Below.refl _ _ | refine Below.alloc ?_ (by first | omega | (simp; omega) | simp) _))⟩
        · have q2 : decide (1 ≤ d) = true := decide_eq_true (by omega)
          rw [hw] at H3
          rw [q2]
          clear q2 hw
          go_enter Tryd.func18, Tryd.ntmps18
          go_wp2_with fail
          refine (H0.out _).mono ?_
          rintro e w' ⟨rfl, rfl⟩
          go_wp2_with fail
          refine (H1.out _).mono ?_
          rintro e w' ⟨rfl, rfl⟩
          go_wp2_with fail
          refine (H2.out _).mono ?_
          rintro e w' ⟨rfl, rfl⟩
          go_wp2_with fail
          refine (H3.out _).mono ?_
          rintro e w1 ⟨rfl, hb⟩
          have D1 := Lib.hid (show Below w.heap.size w w1 from Below.trans (by repeat (first | exact Below.refl _ _ | refine Below.alloc ?_ (by first | omega | (simp; omega) | simp) _)) (Below.mono hb (by first | omega | (simp; omega) | simp)))
          have z1 := D1.out.size
          obtain ⟨hc1, hf1⟩ := bcell hb
          have y1 := hb.size
          try simp only [World.size_alloc, World.size_drew] at y1
          clear hb
          go_wp2_with fail
          go_ret
          exact ⟨by simp [errIf], (by repeat (first | exact D1.out | exact Below.refl _ _ | refine Below.alloc ?_ (by first | omega | (simp; omega) | simp) _))⟩
set_option maxHeartbeats 1000000 in
theorem validMove_any (m : Mov) (w : World) : Calls Tryd.prog 71 #[m.val] w fun e w' => e = .returned (.bool (okV m)) ∧ Below w.heap.size w w' := by
  have C1 := fun W => validMatrix_any m.m W
  have C2 := fun W T B hB => vpts1 m.t W T B hB
  unfold okV
  generalize okM m.m = b1 at *
  generalize okP m.t = b2 at *
  unfold Mov.val
  unfold Mat.val at *
  have H1 := Lib.hid C1
  have H2 := Lib.hid C2
  clear C1 C2
  cases b1
  · go_enter Tryd.func71, Tryd.ntmps71
    go_wp2_with fail
    refine (H1.out _).mono ?_
    rintro e w1 ⟨rfl, hb⟩
    have D1 := Lib.hid (show Below w.heap.size w w1 from Below.trans (by repeat (first | exact Below.refl _ _ | refine Below.alloc ?_ (by first | omega | (simp; omega) | simp) _)) (Below.mono hb (by first | omega | (simp; omega) | simp)))
    have z1 := D1.out.size
    obtain ⟨hc1, hf1⟩ := bcell hb
    have y1 := hb.size
    try simp only [World.size_alloc, World.size_drew] at y1
    clear hb
    go_wp2_with fail
    go_ret
    exact ⟨by simp, (by repeat (first | exact D1.out | exact Below.refl _ _ | refine Below.alloc ?_ (by first | omega | (simp; omega) | simp) _))⟩
  · go_enter Tryd.func71, Tryd.ntmps71
    go_wp2_with fail
    refine (H1.out _).mono ?_
    rintro e w1 ⟨rfl, hb⟩
    have D1 := Lib.hid (show Below w.heap.size w w1 from Below.trans (by repeat (first | exact Below.refl _ _ | refine Below.alloc ?_ (by first | omega | (simp; omega) | simp) _)) (Below.mono hb (by first | omega | (simp; omega) | simp)))
    have z1 := D1.out.size
    obtain ⟨hc1, hf1⟩ := bcell hb
    have y1 := hb.size
    try simp only [World.size_alloc, World.size_drew] at y1
    clear hb
    go_wp2_with fail
    refine (H2.out _ _ _ rfl).mono ?_
    rintro e w2 ⟨rfl, hb⟩
    have D2 := Lib.hid (show Below w.heap.size w w2 from Below.trans (by repeat (first | exact D1.out | exact Below.refl _ _ | refine Below.alloc ?_ (by first | omega | (simp; omega) | simp) _)) (Below.mono hb (by first | omega | (simp; omega) | simp)))
    have z2 := D2.out.size
    clear hb
    go_wp2_with fail
    go_ret
    exact ⟨by simp, (by repeat (first | exact D2.out | exact Below.refl _ _ | refine Below.alloc ?_ (by first | omega | (simp; omega) | simp) _))⟩
set_option maxHeartbeats 1000000 in
theorem rMove_any (m : Mov) (w : World) : Calls Tryd.prog 73 #[m.val] w fun e w' => e = .returned (.bool (okV m)) ∧ Below w.heap.size w w' := by
  have C1 := fun W => rMatrix_any m.m W
  have C2 := fun W => rPoint_any m.t W
  unfold okV
  generalize okM m.m = b1 at *
  generalize okP m.t = b2 at *
  unfold Mov.val
  unfold Mat.val at *
  unfold Pt.val at *
  have H1 := Lib.hid C1
  have H2 := Lib.hid C2
  clear C1 C2
  cases b1
  · go_enter Tryd.func73, Tryd.ntmps73
    go_wp2_with fail
    refine (H1.out _).mono ?_
    rintro e w1 ⟨rfl, hb⟩
    have D1 := Lib.hid (show Below w.heap.size w w1 from Below.trans (by repeat (first | exact Below.refl _ _ | refine Below.alloc ?_ (by first | omega | (simp; omega) | simp) _)) (Below.mono hb (by first | omega | (simp; omega) | simp)))
    have z1 := D1.out.size
    obtain ⟨hc1, hf1⟩ := bcell hb
    have y1 := hb.size
    try simp only [World.size_alloc, World.size_drew] at y1
    clear hb
    go_wp2_with fail
    go_ret
    exact ⟨by simp, (by repeat (first | exact D1.out | exact Below.refl _ _ | refine Below.alloc ?_ (by first | omega | (simp; omega) | simp) _))⟩
  · go_enter Tryd.func73, Tryd.ntmps73
    go_wp2_with fail
    refine (H1.out _).mono ?_
    rintro e w1 ⟨rfl, hb⟩
    have D1 := Lib.hid (show Below w.heap.size w w1 from Below.trans (by repeat (first | exact Below.refl _ _ | refine Below.alloc ?_ (by first | omega | (simp; omega) | simp) _)) (Below.mono hb (by first | omega | (simp; omega) | simp)))
    have z1 := D1.out.size
    obtain ⟨hc1, hf1⟩ := bcell hb
    have y1 := hb.size
    try simp only [World.size_alloc, World.size_drew] at y1
    clear hb
    go_wp2_with fail
    refine (H2.out _).mono ?_
    rintro e w2 ⟨rfl, hb⟩
    have D2 := Lib.hid (show Below w.heap.size w w2 from Below.trans (by repeat (first | exact D1.out | exact Below.refl _ _ | refine Below.alloc ?_ (by first | omega | (simp; omega) | simp) _)) (Below.mono hb (by first | omega | (simp; omega) | simp)))
    have z2 := D2.out.size
    obtain ⟨hc2, hf2⟩ := bcell hb
    have y2 := hb.size
    try simp only [World.size_alloc, World.size_drew] at y2
    clear hb
    go_wp2_with fail
    go_ret
    exact ⟨by simp, (by repeat (first | exact D2.out | exact Below.refl _ _ | refine Below.alloc ?_ (by first | omega | (simp; omega) | simp) _))⟩
end Go.Proofs.YtehpgmhilcoalaaDoor
