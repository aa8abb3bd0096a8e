/- Steps of the reference. -/
import Derived.Test.YtehpgmhilcoalaaDoorIU
import Derived.Test.YtehpgmhilcoalaaDoorJA
namespace Go.Proofs.YtehpgmhilcoalaaDoor
open Go.RowKit Go.Lib
set_option linter.unusedSimpArgs false
set_option linter.unusedVariables false
theorem dY_rng {l : Lat} (hl : Ok l) {n y : Int} (hn : 1 ≤ n ∧ n ≤ 10000) (hy : -10000 ≤ y ∧ y ≤ 10000) :
    wrap64 (l.a * n) = l.a * n ∧ wrap64 l.det = l.det ∧ wrap64 (l.det * y) = l.det * y ∧ wrap64 (l.det * y * y) = l.det * y * y ∧ wrap64 (l.a * n - l.det * y * y) = dY l n y ∧ dY l n y < 400000000 := by
  obtain ⟨h1, h2, h3, h4, h5, h6, h7⟩ := hl
  have a1 := mul_bound (a := l.a) (b := l.c) (A := 10000) (B := 10000) (by omega) (by omega)
  have a2 := mul_bound (a := l.b) (b := l.b) (A := 10000) (B := 10000) (by omega) (by omega)
  have a3 : 1 ≤ l.det ∧ l.det ≤ 200000000 := by unfold Lat.det; omega
  have a4 := mul_bound (a := l.a) (b := n) (A := 10000) (B := 10000) (by omega) (by omega)
  have a5 := mul_bound (a := l.det) (b := y) (A := 200000000) (B := 10000) (by omega) hy
  have a6 := mul_bound (a := l.det * y) (b := y) a5 hy
  have a7 := Int.mul_nonneg (show 0 ≤ l.det by omega) (sq_nonneg y)
  rw [← Int.mul_assoc] at a7
  refine ⟨wrap64_id (by omega), wrap64_id (by omega), wrap64_id (by omega), wrap64_id (by omega), wrap64_id (by omega), by unfold dY; omega⟩
theorem rootI_rng {n : Int} (h0 : 0 ≤ n) (h1 : n < 400000000) : 0 ≤ rootI n ∧ rootI n ≤ 20000 := by
  obtain ⟨a, b, c⟩ := rootI_ok h0
  refine ⟨a, Int.not_lt.1 fun h => ?_⟩
  have := sq_ge (x := rootI n) (k := 20001) (by omega) (.inr (by omega))
  omega
theorem tdiv_bound {a q z B : Int} (ha : 1 ≤ a) (h : a * q = z) (hz : -B ≤ z ∧ z ≤ B) : -B ≤ q ∧ q ≤ B := by
  rcases Int.le_total 0 q with h0 | h0
  · have := le_mul_pos ha h0
    omega
  · have := le_mul_pos ha (show 0 ≤ -q by omega)
    have e : a * -q = -(a * q) := by grind
    omega
set_option maxHeartbeats 4000000 in
set_option maxRecDepth 100000 in
theorem rSteps_any (l : Lat) (n : Int) (hl : Ok l) (hn : 1 ≤ n ∧ n ≤ 10000) (w : World) : Calls Tryd.prog 89 #[l.val, .int .i64 n] w fun e w' => ∃ ao cap, e = .returned (.slice ao (stepsL l n 20001).length cap) ∧ FRP w.heap.size w' ao cap (stepsL l n 20001) ∧ Below w.heap.size w w' := by
  have Hl := Lib.hid hl
  have Hn := Lib.hid hn
  have C1 := fun W => rDet_any l W
  have C2 := fun d h0 h1 W => root_any d h0 h1 W
  have na : ¬ l.a = 0 := by have := hl.1; omega
  unfold Lat.val at *
  have H1 := Lib.hid C1
  have H2 := Lib.hid C2
  clear hl hn C1 C2
  go_enter Tryd.func89, Tryd.ntmps89
  go_wp2_with fail
  obtain ⟨w1, hw1⟩ : ∃ W, W = (w.alloc (.cells #[.int .i64 l.a, .int .i64 l.b, .int .i64 l.c] 23)) := ⟨_, rfl⟩
  rw [← hw1]
  have h0 : w1.heap[w.heap.size]? = some (.cells #[.int .i64 l.a, .int .i64 l.b, .int .i64 l.c] 23 (0, 0)) := by rw [hw1]; exact (by repeat (first | (refine hb_new ?_; (first | omega | (simp; omega) | (simp; done))) | (refine hb_old ?_ ?_; rotate_left; focus (first | omega | (simp; omega) | (simp; done))) | refine hb_drew ?_))
  have hb : Below w.heap.size w w1 := by rw [hw1]; exact (by repeat (first | exact Below.refl _ _ | refine Below.alloc ?_ (by first | omega | (simp; omega) | (simp; done)) _ | refine Below.drew ?_))
  have s1 : w.heap.size + 1 ≤ w1.heap.size := by rw [hw1]; simp
  have y1 := Below.size hb
  try simp only [World.size_alloc, World.size_drew] at y1
  have D1 := Lib.hid (show Below w.heap.size w w1 from Below.trans (by repeat (first | exact Below.refl _ _ | refine Below.alloc ?_ (by first | omega | (simp; omega) | (simp; done)) _)) (Below.mono hb (by first | omega | (simp; omega) | (simp; done))))
  have z1 := D1.out.size
  clear hb hw1
  try clear c0_0 f0_0 c0_1 f0_1 c0_2 f0_2
  obtain ⟨c0_0, f0_0, c0_1, f0_1, c0_2, f0_2⟩ := cells3 h0
  go_wp2_with fail
  go_loopg [5, 6] 20002 (fun kk s5 s6 wr => ∃ (i : Nat) (y : Int) (ao : Option Addr) (cap : Nat), i ≤ 20001 ∧ 20001 - i ≤ kk ∧ y = (i : Int) - 10000 ∧ s6 = .int .i64 y ∧ s5 = .slice ao (stepsL l n i).length cap ∧ FRP (w.heap.size + 1) wr ao cap (stepsL l n i) ∧ wr.heap[w.heap.size]? = some (.cells #[.int .i64 l.a, .int .i64 l.b, .int .i64 l.c] 23 (0, 0)) ∧ w1.heap.size ≤ wr.heap.size ∧ Below w.heap.size w wr)
  case atStart => exact ⟨0, -10000, none, 0, by omega, by omega, by omega, rfl, rfl, FRP.nil _ _, h0, Nat.le_refl _, D1.out⟩
  case round =>
    rename World => w50
    obtain ⟨i, y, ao, cap, hi, hkk, hy, rfl, rfl, hfr, g0, y50, hb⟩ := hrel
    try clear c0_0 f0_0 c0_1 f0_1 c0_2 f0_2
    clear h0
    have h0 := g0
    clear g0
    have D50 := Lib.hid hb
    have z50 := D50.out.size
    have HPF := Lib.hid hfr
    clear hb hfr
    try clear c0_0 f0_0 c0_1 f0_1 c0_2 f0_2
    obtain ⟨c0_0, f0_0, c0_1, f0_1, c0_2, f0_2⟩ := cells3 h0
    by_cases hlt : i < 20001
    · have i1 : y ≤ 10000 := by omega
      have i0 : -10000 ≤ y := by omega
      obtain ⟨e1, e2, e3, e4, e5, e6⟩ := dY_rng (y := y) Hl.out Hn.out ⟨by omega, i1⟩
      have C1 := H1.out
      rw [e2] at C1
      replace H1 := Lib.hid C1
      clear C1
      obtain ⟨LL, hLL⟩ : ∃ LL, LL = stepsL l n i := ⟨_, rfl⟩
      have hlen : LL.length ≤ 2 * i := by rw [hLL]; exact stepsL_len l n i
      have hnx : stepsL l n (i + 1) = LL ++ rowY l n y := by rw [stepsL_succ, ← hy, hLL]
      unfold rowY at hnx
      rw [← hLL] at HPF ⊢
      clear hLL
      generalize dY l n y = d at *
      generalize l.det = dt at *
      have HX := Lib.hid hnx
      have HY := Lib.hid hy
      clear hnx hy
      go_wp2_with fail
      try clear c0_0 f0_0 c0_1 f0_1 c0_2 f0_2
      refine wp_region_class (fun w' => Below w50.heap.size w50 w') 11 (by kernel_rfl) (by kernel_rfl) (Below.refl _ w50).drew ?_
      simp only [List.take_succ_cons, List.take_zero, List.drop_succ_cons, List.drop_zero]
      refine quiet_still rfl _ (fun w _ => by go_simp; rfl) ?_
      simp only [Act.put, List.setIfInBounds_toArray, List.set_cons_zero, List.set_cons_succ]
      refine quiet_load1 rfl _ _ rfl _ (by first | rfl | (go_simp; rfl)) _ (load_i64 _ _) (fun w' h => cell_of_heap (hb_below h h0 (by first | omega | (simp; omega) | (simp; done))) (j := 0) rfl) ?_
      simp only [Act.put, List.setIfInBounds_toArray, List.set_cons_zero, List.set_cons_succ]
      refine quiet_moveV rfl _ rfl (.int .i64 n) rfl ?_
      simp only [Act.put, List.setIfInBounds_toArray, List.set_cons_zero, List.set_cons_succ]
      refine quiet_still rfl (.int .i64 (l.a * n)) (fun w _ => by first | (go_simp; done) | (go_simp; exact (IntWalk.i64_left _).trans e1)) ?_
      simp only [Act.put, List.setIfInBounds_toArray, List.set_cons_zero, List.set_cons_succ]
      refine quiet_load_mid rfl _ _ rfl _ _ rfl [.int .i64 l.a, .int .i64 l.b, .int .i64 l.c] _ (fun w' h => range_of_heap (hb_below h h0 (by first | omega | (simp; omega) | (simp; done)))) Tryd.underlying23 rfl (by kernel_rfl) ?_
      simp only [Act.put, List.setIfInBounds_toArray, List.set_cons_zero, List.set_cons_succ]
      refine quiet_call rfl 54 _ _ rfl (enter_of Tryd.func54 (by decide) (by intro h; cases h)) _ (in_class_b H1.out) ?_
      simp only [Act.put, List.setIfInBounds_toArray, List.set_cons_zero, List.set_cons_succ]
      refine quiet_moveV rfl _ rfl (.int .i64 y) rfl ?_
      simp only [Act.put, List.setIfInBounds_toArray, List.set_cons_zero, List.set_cons_succ]
      refine quiet_still rfl (.int .i64 (dt * y)) (fun w _ => by first | (go_simp; done) | (go_simp; exact (IntWalk.i64_left _).trans e3)) ?_
      simp only [Act.put, List.setIfInBounds_toArray, List.set_cons_zero, List.set_cons_succ]
      refine quiet_moveV rfl _ rfl (.int .i64 y) rfl ?_
      simp only [Act.put, List.setIfInBounds_toArray, List.set_cons_zero, List.set_cons_succ]
      refine quiet_still rfl (.int .i64 (dt * y * y)) (fun w _ => by first | (go_simp; done) | (go_simp; exact (IntWalk.i64_left _).trans e4)) ?_
      simp only [Act.put, List.setIfInBounds_toArray, List.set_cons_zero, List.set_cons_succ]
      refine quiet_still rfl (.int .i64 d) (fun w _ => by first | (go_simp; done) | (go_simp; exact (IntWalk.i64_left _).trans e5)) ?_
      simp only [Act.put, List.setIfInBounds_toArray, List.set_cons_zero, List.set_cons_succ]
      intro w51 hb
      replace h0 : w51.heap[w.heap.size]? = some (.cells #[.int .i64 l.a, .int .i64 l.b, .int .i64 l.c] 23 (0, 0)) := hb_below hb (by repeat (first | exact h0 | (refine hb_new ?_; (first | omega | (simp; omega) | (simp; done))) | (refine hb_old ?_ ?_; rotate_left; focus (first | omega | (simp; omega) | (simp; done))) | refine hb_drew ?_)) (by first | omega | (simp; omega) | (simp; done))
      replace HPF := Lib.hid (FRP.below (FRP.below HPF.out (by repeat (first | exact Below.refl _ _ | refine Below.alloc ?_ (by first | omega | (simp; omega) | (simp; done)) _ | refine Below.drew ?_))) (Below.mono hb (by first | exact Nat.le_refl _ | (simp; done))))
      have y51 := Below.size hb
      try simp only [World.size_alloc, World.size_drew] at y51
      have D51 := Lib.hid (show Below w.heap.size w w51 from Below.trans (by repeat (first | exact D50.out | exact Below.refl _ _ | refine Below.alloc ?_ (by first | omega | (simp; omega) | (simp; done)) _)) (Below.mono hb (by first | omega | (simp; omega) | (simp; done))))
      have z51 := D51.out.size
      clear hb
      try clear c0_0 f0_0 c0_1 f0_1 c0_2 f0_2
      obtain ⟨c0_0, f0_0, c0_1, f0_1, c0_2, f0_2⟩ := cells3 h0
      by_cases hd : d < 0
      · have hE : stepsL l n (i + 1) = LL := by rw [HX.out, if_pos hd, List.append_nil]
        go_wp2_with fail
        go_roundg (20001 - (i + 1))
        case measure => omega
        case rel => exact ⟨i + 1, y + 1, ao, cap, by omega, by omega, by have := HY.out; omega, by first | rfl | go_num, by rw [hE], by rw [hE]; exact HPF.out, h0, by omega, D51.out⟩
      · have hd0 : 0 ≤ d := by omega
        obtain ⟨s0, s1⟩ := rootI_rng hd0 e6
        have C2 := fun W => H2.out d hd0 e6 W
        have hx := HX.out
        rw [if_neg hd] at hx
        generalize rootI d = s at *
        replace H2 := Lib.hid C2
        replace HX := Lib.hid hx
        clear C2 hx
        have e7 : wrap64 (s * s) = s * s := wrap64_id (by have := mul_bound (a := s) (b := s) (A := 20000) (B := 20000) (by omega) (by omega); omega)
        by_cases hsq : s * s = d
        · have hx := HX.out
          rw [if_neg (fun h => h hsq)] at hx
          replace HX := Lib.hid hx
          clear hx
          subst hsq
          have b1 := Hl.out
          obtain ⟨b1, b2, b3, b4, _⟩ := b1
          have b5 := mul_bound (a := l.b) (b := y) (A := 10000) (B := 10000) ⟨b3, b4⟩ ⟨i0, i1⟩
          have e8 : wrap64 (l.b * y) = l.b * y := wrap64_id (by omega)
          have e9 : wrap64 (s - l.b * y) = s - l.b * y := wrap64_id (by omega)
          have ea : wrap64 (s + l.b * y) = s + l.b * y := wrap64_id (by omega)
          have eb : wrap64 (-(s + l.b * y)) = -(s + l.b * y) := wrap64_id (by omega)
          have ba : 1 ≤ l.a := b1
          clear b1 b2 b3 b4
          skip
          by_cases c1 : (s - l.b * y).tmod l.a = 0
          · by_cases sp : 0 < s
            · by_cases c2 : (s + l.b * y).tmod l.a = 0
              · have ec : wrap64 ((s - l.b * y).tdiv l.a) = (s - l.b * y).tdiv l.a := wrap64_id (by have := tdiv_bound ba (tdiv_exact c1) (B := 200000000) (by omega); omega)
                have ed : wrap64 (-(s + l.b * y).tdiv l.a) = -(s + l.b * y).tdiv l.a := wrap64_id (by have := tdiv_bound ba (tdiv_exact c2) (B := 200000000) (by omega); omega)
                go_wp2_with fail
                refine (H2.out _).mono ?_
                rintro e w9 ⟨rfl, hw9⟩
                rw [hw9]
                clear hw9 w9
                go_wp2_with (at_builtin; first | (refine list_append_facP rfl _ _ rfl (B := w.heap.size + 1) (L := L1) (hfr1.below (below_alloc _ _)) (by omega) (by first | omega | (simp; done) | (simp; omega)) ⟨-(s + l.b * y).tdiv l.a, y⟩ w53.heap.size 1 (range_of_heap (hb_new rfl)) rfl rfl ?_; intro ao2 cap2 w54 hfr2 hb2; have g2 := hb_below hb2 (hb_old g1 (by omega)) (by omega); obtain ⟨L2, hL2⟩ : ∃ z, z = L1 ++ [(⟨-(s + l.b * y).tdiv l.a, y⟩ : Pt)] := ⟨_, rfl⟩; rw [← hL2] at hfr2; have hl2 : L1.length + 1 = L2.length := (by rw [hL2]; simp); rw [hl2]; have hh2 := Lib.hid hL2; have k2 : L2.length ≤ L1.length + 1 := Nat.le_of_eq hl2.symm; have v2 : w53.heap.size ≤ w54.heap.size := Nat.le_trans (by simp) hb2.size; have DD2 := Lib.hid ((DD1.out.trans ((below_alloc _ _).mono (by omega))).trans (hb2.mono (by omega))); clear hL2 hl2 hb2; obtain ⟨p2, q2, p2', q2', p2'', q2''⟩ := cells3 g2) | (refine list_append_facP rfl _ _ rfl (B := w.heap.size + 1) (L := LL) (HPF.out.below (below_alloc _ _)) (by omega) (by first | omega | (simp; done) | (simp; omega)) ⟨(s - l.b * y).tdiv l.a, y⟩ w51.heap.size 1 (range_of_heap (hb_new rfl)) rfl rfl ?_; intro ao1 cap1 w53 hfr1 hb1; have g1 := hb_below hb1 (hb_old h0 (by omega)) (by omega); obtain ⟨L1, hL1⟩ : ∃ z, z = LL ++ [(⟨(s - l.b * y).tdiv l.a, y⟩ : Pt)] := ⟨_, rfl⟩; rw [← hL1] at hfr1; have hl1 : LL.length + 1 = L1.length := (by rw [hL1]; simp); rw [hl1]; have hh1 := Lib.hid hL1; have k1 : L1.length ≤ LL.length + 1 := Nat.le_of_eq hl1.symm; have v1 : w51.heap.size ≤ w53.heap.size := Nat.le_trans (by simp) hb1.size; have DD1 := Lib.hid ((D51.out.trans ((below_alloc _ _).mono (by omega))).trans (hb1.mono (by omega))); clear hL1 hl1 hb1; obtain ⟨p1, q1, p1', q1', p1'', q1''⟩ := cells3 g1))
                have hE : stepsL l n (i + 1) = L2 := by rw [HX.out, if_pos c1, if_pos ⟨sp, c2⟩, hh2.out, hh1.out]; simp
                go_roundg (20001 - (i + 1))
                case measure => omega
                case rel => exact ⟨i + 1, y + 1, ao2, cap2, by omega, by omega, by have := HY.out; omega, by first | rfl | go_num, by rw [hE], by rw [hE]; exact hfr2, g2, by omega, DD2.out⟩
              · have ec : wrap64 ((s - l.b * y).tdiv l.a) = (s - l.b * y).tdiv l.a := wrap64_id (by have := tdiv_bound ba (tdiv_exact c1) (B := 200000000) (by omega); omega)
                go_wp2_with fail
                refine (H2.out _).mono ?_
                rintro e w9 ⟨rfl, hw9⟩
                rw [hw9]
                clear hw9 w9
                go_wp2_with (at_builtin; refine list_append_facP rfl _ _ rfl (B := w.heap.size + 1) (L := LL) (HPF.out.below (below_alloc _ _)) (by omega) (by first | omega | (simp; done) | (simp; omega)) ⟨(s - l.b * y).tdiv l.a, y⟩ w51.heap.size 1 (range_of_heap (hb_new rfl)) rfl rfl ?_; intro ao1 cap1 w53 hfr1 hb1; have g1 := hb_below hb1 (hb_old h0 (by omega)) (by omega); obtain ⟨L1, hL1⟩ : ∃ z, z = LL ++ [(⟨(s - l.b * y).tdiv l.a, y⟩ : Pt)] := ⟨_, rfl⟩; rw [← hL1] at hfr1; have hl1 : LL.length + 1 = L1.length := (by rw [hL1]; simp); rw [hl1]; have hh1 := Lib.hid hL1; have k1 : L1.length ≤ LL.length + 1 := Nat.le_of_eq hl1.symm; have v1 : w51.heap.size ≤ w53.heap.size := Nat.le_trans (by simp) hb1.size; have DD1 := Lib.hid ((D51.out.trans ((below_alloc _ _).mono (by omega))).trans (hb1.mono (by omega))); clear hL1 hl1 hb1; obtain ⟨p1, q1, p1', q1', p1'', q1''⟩ := cells3 g1)
                have hE : stepsL l n (i + 1) = L1 := by rw [HX.out, if_pos c1, if_neg (fun h => c2 h.2), hh1.out]; simp
                go_roundg (20001 - (i + 1))
                case measure => omega
                case rel => exact ⟨i + 1, y + 1, ao1, cap1, by omega, by omega, by have := HY.out; omega, by first | rfl | go_num, by rw [hE], by rw [hE]; exact hfr1, g1, by omega, DD1.out⟩
            · have ec : wrap64 ((s - l.b * y).tdiv l.a) = (s - l.b * y).tdiv l.a := wrap64_id (by have := tdiv_bound ba (tdiv_exact c1) (B := 200000000) (by omega); omega)
              go_wp2_with fail
              refine (H2.out _).mono ?_
              rintro e w9 ⟨rfl, hw9⟩
              rw [hw9]
              clear hw9 w9
              go_wp2_with (at_builtin; refine list_append_facP rfl _ _ rfl (B := w.heap.size + 1) (L := LL) (HPF.out.below (below_alloc _ _)) (by omega) (by first | omega | (simp; done) | (simp; omega)) ⟨(s - l.b * y).tdiv l.a, y⟩ w51.heap.size 1 (range_of_heap (hb_new rfl)) rfl rfl ?_; intro ao1 cap1 w53 hfr1 hb1; have g1 := hb_below hb1 (hb_old h0 (by omega)) (by omega); obtain ⟨L1, hL1⟩ : ∃ z, z = LL ++ [(⟨(s - l.b * y).tdiv l.a, y⟩ : Pt)] := ⟨_, rfl⟩; rw [← hL1] at hfr1; have hl1 : LL.length + 1 = L1.length := (by rw [hL1]; simp); rw [hl1]; have hh1 := Lib.hid hL1; have k1 : L1.length ≤ LL.length + 1 := Nat.le_of_eq hl1.symm; have v1 : w51.heap.size ≤ w53.heap.size := Nat.le_trans (by simp) hb1.size; have DD1 := Lib.hid ((D51.out.trans ((below_alloc _ _).mono (by omega))).trans (hb1.mono (by omega))); clear hL1 hl1 hb1; obtain ⟨p1, q1, p1', q1', p1'', q1''⟩ := cells3 g1)
              have hE : stepsL l n (i + 1) = L1 := by rw [HX.out, if_pos c1, if_neg (fun h => by have := h.1; omega), hh1.out]; simp
              go_roundg (20001 - (i + 1))
              case measure => omega
              case rel => exact ⟨i + 1, y + 1, ao1, cap1, by omega, by omega, by have := HY.out; omega, by first | rfl | go_num, by rw [hE], by rw [hE]; exact hfr1, g1, by omega, DD1.out⟩
          · by_cases sp : 0 < s
            · by_cases c2 : (s + l.b * y).tmod l.a = 0
              · have ed : wrap64 (-(s + l.b * y).tdiv l.a) = -(s + l.b * y).tdiv l.a := wrap64_id (by have := tdiv_bound ba (tdiv_exact c2) (B := 200000000) (by omega); omega)
                go_wp2_with fail
                refine (H2.out _).mono ?_
                rintro e w9 ⟨rfl, hw9⟩
                rw [hw9]
                clear hw9 w9
                go_wp2_with (at_builtin; refine list_append_facP rfl _ _ rfl (B := w.heap.size + 1) (L := LL) (HPF.out.below (below_alloc _ _)) (by omega) (by first | omega | (simp; done) | (simp; omega)) ⟨-(s + l.b * y).tdiv l.a, y⟩ w51.heap.size 1 (range_of_heap (hb_new rfl)) rfl rfl ?_; intro ao1 cap1 w53 hfr1 hb1; have g1 := hb_below hb1 (hb_old h0 (by omega)) (by omega); obtain ⟨L1, hL1⟩ : ∃ z, z = LL ++ [(⟨-(s + l.b * y).tdiv l.a, y⟩ : Pt)] := ⟨_, rfl⟩; rw [← hL1] at hfr1; have hl1 : LL.length + 1 = L1.length := (by rw [hL1]; simp); rw [hl1]; have hh1 := Lib.hid hL1; have k1 : L1.length ≤ LL.length + 1 := Nat.le_of_eq hl1.symm; have v1 : w51.heap.size ≤ w53.heap.size := Nat.le_trans (by simp) hb1.size; have DD1 := Lib.hid ((D51.out.trans ((below_alloc _ _).mono (by omega))).trans (hb1.mono (by omega))); clear hL1 hl1 hb1; obtain ⟨p1, q1, p1', q1', p1'', q1''⟩ := cells3 g1)
                have hE : stepsL l n (i + 1) = L1 := by rw [HX.out, if_neg c1, if_pos ⟨sp, c2⟩, hh1.out]; simp
                go_roundg (20001 - (i + 1))
                case measure => omega
                case rel => exact ⟨i + 1, y + 1, ao1, cap1, by omega, by omega, by have := HY.out; omega, by first | rfl | go_num, by rw [hE], by rw [hE]; exact hfr1, g1, by omega, DD1.out⟩
              · go_wp2_with fail
                refine (H2.out _).mono ?_
                rintro e w9 ⟨rfl, hw9⟩
                rw [hw9]
                clear hw9 w9
                go_wp2_with fail
                have hE : stepsL l n (i + 1) = LL := by rw [HX.out, if_neg c1, if_neg (fun h => c2 h.2)]; simp
                go_roundg (20001 - (i + 1))
                case measure => omega
                case rel => exact ⟨i + 1, y + 1, ao, cap, by omega, by omega, by have := HY.out; omega, by first | rfl | go_num, by rw [hE], by rw [hE]; exact HPF.out, h0, by omega, D51.out⟩
            · go_wp2_with fail
              refine (H2.out _).mono ?_
              rintro e w9 ⟨rfl, hw9⟩
              rw [hw9]
              clear hw9 w9
              go_wp2_with fail
              have hE : stepsL l n (i + 1) = LL := by rw [HX.out, if_neg c1, if_neg (fun h => by have := h.1; omega)]; simp
              go_roundg (20001 - (i + 1))
              case measure => omega
              case rel => exact ⟨i + 1, y + 1, ao, cap, by omega, by omega, by have := HY.out; omega, by first | rfl | go_num, by rw [hE], by rw [hE]; exact HPF.out, h0, by omega, D51.out⟩
        · have hsq2 : (s * s != d) = true := by simpa using hsq
          have hE : stepsL l n (i + 1) = LL := by rw [HX.out, if_pos hsq, List.append_nil]
          go_wp2_with fail
          refine (H2.out _).mono ?_
          rintro e w' ⟨rfl, rfl⟩
          go_wp2_with fail
          go_roundg (20001 - (i + 1))
          case measure => omega
          case rel => exact ⟨i + 1, y + 1, ao, cap, by omega, by omega, by have := HY.out; omega, by first | rfl | go_num, by rw [hE], by rw [hE]; exact HPF.out, h0, by omega, D51.out⟩
    · obtain rfl : i = 20001 := by omega
      obtain rfl : y = 10001 := by omega
      go_wp2_with fail
      go_ret
      exact ⟨_, _, rfl, HPF.out.mono (by omega), D50.out⟩
end Go.Proofs.YtehpgmhilcoalaaDoor
