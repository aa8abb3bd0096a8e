/- Leading of the reference. -/
import Derived.Test.YtehpgmhilcoalaaDoorJI
import Derived.Deep.CutRange
import Derived.Deep.CutBlock
namespace Go.Proofs.YtehpgmhilcoalaaDoor
open Go.RowKit Go.Lib
set_option linter.unusedSimpArgs false
set_option linter.unusedVariables false
theorem cand_bound {l r : Lat} {F S : List Pt} {p : Pt} {i k : Nat} (hF : F.length ≤ 40002) (hS : S.length ≤ 40002) : (sortL (candL l r (F.take i) S ++ cands l r p (S.take k))).length ≤ 1600240006 := by
  rw [sortL_len, List.length_append]
  have h1 := candL_len l r (F.take i) S
  have h2 := cands_len l r p (S.take k)
  have h3 : (F.take i).length * S.length ≤ 40002 * 40002 := Nat.mul_le_mul (by rw [List.length_take]; omega) hS
  rw [List.length_take] at h2
  omega
set_option maxHeartbeats 8000000 in
set_option maxRecDepth 100000 in
theorem rLeading_any (l r : Lat) (hl : Ok l) (hr : Ok r) (w : World) : Calls Tryd.prog 67 #[l.val, r.val] w fun e w' => ∃ ao cap, e = .returned (.slice ao (leadL l r).length cap) ∧ FR w.heap.size w' ao cap (leadL l r) ∧ Below w.heap.size w w' := by
  have Hl := Lib.hid hl
  have Hr := Lib.hid hr
  have C1 := fun W => rSteps_any l r.a hl ⟨hr.1, hr.2.1⟩ W
  have C2 := fun W => rSteps_any l r.c hl ⟨hr.2.2.2.2.1, hr.2.2.2.2.2.1⟩ W
  have nF := stepsL_len l r.a 20001
  have nS := stepsL_len l r.c 20001
  have RF := fun p hp => stepsL_rng hl hr.2.1 (k := 20001) (p := p) hp
  have RS := fun p hp => stepsL_rng hl hr.2.2.2.2.2.1 (k := 20001) (p := p) hp
  unfold leadL
  generalize stepsL l r.a 20001 = F at *
  generalize stepsL l r.c 20001 = S at *
  unfold Lat.val at *
  have H1 := Lib.hid C1
  have H2 := Lib.hid C2
  have HRF := Lib.hid RF
  have HRS := Lib.hid RS
  clear C1 C2 RF RS hl hr
  go_enter Tryd.func67, Tryd.ntmps67
  go_wp2_with fail
  obtain ⟨w1, hw1⟩ : ∃ W, W = ((w.alloc (.cells #[.int .i64 l.a, .int .i64 l.b, .int .i64 l.c] 23)).alloc (.cells #[.int .i64 r.a, .int .i64 r.b, .int .i64 r.c] 23)) := ⟨_, rfl⟩
  rw [← hw1]
  have h0 : w1.heap[w.heap.size]? = some (.cells #[.int .i64 l.a, .int .i64 l.b, .int .i64 l.c] 23 (0, 0)) := by rw [hw1]; exact (by repeat (first | (refine hb_new ?_; (first | omega | (simp; omega) | (simp; done))) | (refine hb_old ?_ ?_; rotate_left; focus (first | omega | (simp; omega) | (simp; done))) | refine hb_drew ?_))
  have h1 : w1.heap[w.heap.size + 1]? = some (.cells #[.int .i64 r.a, .int .i64 r.b, .int .i64 r.c] 23 (0, 0)) := by rw [hw1]; exact (by repeat (first | (refine hb_new ?_; (first | omega | (simp; omega) | (simp; done))) | (refine hb_old ?_ ?_; rotate_left; focus (first | omega | (simp; omega) | (simp; done))) | refine hb_drew ?_))
  have hb : Below w.heap.size w w1 := by rw [hw1]; exact (by repeat (first | exact Below.refl _ _ | refine Below.alloc ?_ (by first | omega | (simp; omega) | (simp; done)) _ | refine Below.drew ?_))
  have s1 : w.heap.size + 1 + 1 ≤ w1.heap.size := by rw [hw1]; simp
  have y1 := Below.size hb
  try simp only [World.size_alloc, World.size_drew] at y1
  have D1 := Lib.hid (show Below w.heap.size w w1 from Below.trans (by repeat (first | exact Below.refl _ _ | refine Below.alloc ?_ (by first | omega | (simp; omega) | (simp; done)) _)) (Below.mono hb (by first | omega | (simp; omega) | (simp; done))))
  have z1 := D1.out.size
  clear hb hw1
  try clear c0_0 f0_0 c0_1 f0_1 c0_2 f0_2
  obtain ⟨c0_0, f0_0, c0_1, f0_1, c0_2, f0_2⟩ := cells3 h0
  try clear c1_0 f1_0 c1_1 f1_1 c1_2 f1_2
  obtain ⟨c1_0, f1_0, c1_1, f1_1, c1_2, f1_2⟩ := cells3 h1
  go_wp2_with fail
  try clear c0_0 f0_0 c0_1 f0_1 c0_2 f0_2
  try clear c1_0 f1_0 c1_1 f1_1 c1_2 f1_2
  refine wp_region_held (S := fun w' => Below w1.heap.size w1 w') (by kernel_rfl) ?_
  refine held_load (i := 0) rfl (by kernel_rfl) (by kernel_rfl) (by kernel_rfl) [.int .i64 l.a, .int .i64 l.b, .int .i64 l.c] (fun _ _ _ h => h) (Below.refl _ w1).drew rfl _ _ rfl _ _ rfl _ (fun w' h => range_of_heap (hb_below h h0 (by first | omega | (simp; omega) | (simp; done)))) Tryd.underlying23 rfl (by kernel_rfl) ?_
  simp only [Act.put, List.setIfInBounds_toArray, List.set_cons_zero, List.set_cons_succ]
  refine held_take (i := 1) rfl (by kernel_rfl) (by kernel_rfl) (by kernel_rfl) (.pointer (some ⟨w.heap.size + 1, 0, none⟩)) (fun _ _ _ h => h) (Below.refl _ w1).drew rfl (fun w _ => by go_simp) ?_
  simp only [Act.put, List.setIfInBounds_toArray, List.set_cons_zero, List.set_cons_succ]
  refine held_load1 (i := 2) rfl (by kernel_rfl) (by kernel_rfl) (by kernel_rfl) (.int .i64 r.a) (fun _ _ _ h => h) (Below.refl _ w1).drew rfl _ _ rfl ⟨w.heap.size + 1, 0, none⟩ rfl (load_i64 _ _) (fun w' h => cell_of_heap (hb_below h h1 (by first | omega | (simp; omega) | (simp; done))) (j := 0) rfl) ?_
  simp only [Act.put, List.setIfInBounds_toArray, List.set_cons_zero, List.set_cons_succ]
  refine held_load (i := 4) rfl (by kernel_rfl) (by kernel_rfl) (by kernel_rfl) [.int .i64 l.a, .int .i64 l.b, .int .i64 l.c] (fun _ _ _ h => h) (Below.refl _ w1).drew rfl _ _ rfl _ _ rfl _ (fun w' h => range_of_heap (hb_below h h0 (by first | omega | (simp; omega) | (simp; done)))) Tryd.underlying23 rfl (by kernel_rfl) ?_
  simp only [Act.put, List.setIfInBounds_toArray, List.set_cons_zero, List.set_cons_succ]
  refine held_take (i := 5) rfl (by kernel_rfl) (by kernel_rfl) (by kernel_rfl) (.pointer (some ⟨w.heap.size + 1, 2, none⟩)) (fun _ _ _ h => h) (Below.refl _ w1).drew rfl (fun w _ => by go_simp) ?_
  simp only [Act.put, List.setIfInBounds_toArray, List.set_cons_zero, List.set_cons_succ]
  refine held_load1 (i := 6) rfl (by kernel_rfl) (by kernel_rfl) (by kernel_rfl) (.int .i64 r.c) (fun _ _ _ h => h) (Below.refl _ w1).drew rfl _ _ rfl ⟨w.heap.size + 1, 2, none⟩ rfl (load_i64 _ _) (fun w' h => cell_of_heap (hb_below h h1 (by first | omega | (simp; omega) | (simp; done))) (j := 2) rfl) ?_
  simp only [Act.put, List.setIfInBounds_toArray, List.set_cons_zero, List.set_cons_succ]
  refine held_call (i := 3) (by kernel_rfl) rfl rfl 89 _ _ rfl (enter_of Tryd.func89 (by decide) (by intro h; cases h)) #[.agg #[.int .i64 l.a, .int .i64 l.b, .int .i64 l.c], .int .i64 r.a] (by kernel_rfl) ?_
  refine (H1.out _).mono ?_
  rintro e w2 ⟨ao1, cap1, rfl, hf1, hb1⟩
  have hS2 : Below w1.heap.size w1 w2 := (Below.refl _ w1).drew.trans (hb1.mono (Nat.le_refl _))
  refine ⟨_, rfl, hS2, ?_⟩
  simp only [Act.put, List.setIfInBounds_toArray, List.set_cons_zero, List.set_cons_succ]
  refine held_call (i := 7) (by kernel_rfl) rfl rfl 89 _ _ rfl (enter_of Tryd.func89 (by decide) (by intro h; cases h)) #[.agg #[.int .i64 l.a, .int .i64 l.b, .int .i64 l.c], .int .i64 r.c] (by kernel_rfl) ?_
  refine (H2.out _).mono ?_
  rintro e w3 ⟨ao2, cap2, rfl, hf2, hb2⟩
  have hS3 : Below w1.heap.size w1 w3 := hS2.trans (hb2.mono hS2.size)
  refine ⟨_, rfl, hS3, ?_⟩
  simp only [Act.put, List.setIfInBounds_toArray, List.set_cons_zero, List.set_cons_succ]
  refine held_still (i := 8) (by kernel_rfl) rfl rfl (.slice ao1 F.length cap1) (by go_simp) hS3 ?_
  simp only [Act.put, List.setIfInBounds_toArray, List.set_cons_zero, List.set_cons_succ]
  refine held_still (i := 9) (by kernel_rfl) rfl rfl (.slice ao2 S.length cap2) (by go_simp) hS3 ?_
  simp only [Act.put, List.setIfInBounds_toArray, List.set_cons_zero, List.set_cons_succ]
  refine wpAnyH_done (by kernel_rfl) ?_ _
  have HP1 := Lib.hid (FRP.mono (hf1.below hb2) (show w1.heap.size ≤ w1.drew.heap.size from Nat.le_refl _))
  have HP2 := Lib.hid (FRP.mono hf2 (show w1.heap.size ≤ w2.heap.size from hS2.size))
  clear hf1 hf2
  replace h0 : w3.heap[w.heap.size]? = some (.cells #[.int .i64 l.a, .int .i64 l.b, .int .i64 l.c] 23 (0, 0)) := hb_below hS3 (by repeat (first | exact h0 | (refine hb_new ?_; (first | omega | (simp; omega) | (simp; done))) | (refine hb_old ?_ ?_; rotate_left; focus (first | omega | (simp; omega) | (simp; done))) | refine hb_drew ?_)) (by first | omega | (simp; omega) | (simp; done))
  replace h1 : w3.heap[w.heap.size + 1]? = some (.cells #[.int .i64 r.a, .int .i64 r.b, .int .i64 r.c] 23 (0, 0)) := hb_below hS3 (by repeat (first | exact h1 | (refine hb_new ?_; (first | omega | (simp; omega) | (simp; done))) | (refine hb_old ?_ ?_; rotate_left; focus (first | omega | (simp; omega) | (simp; done))) | refine hb_drew ?_)) (by first | omega | (simp; omega) | (simp; done))
  have D3 := Lib.hid (show Below w.heap.size w w3 from D1.out.trans (hS3.mono (by omega)))
  have z3 := D3.out.size
  have y3 : w1.heap.size ≤ w3.heap.size := hS3.size
  clear hS2 hS3 hb1 hb2
  try clear c0_0 f0_0 c0_1 f0_1 c0_2 f0_2
  obtain ⟨c0_0, f0_0, c0_1, f0_1, c0_2, f0_2⟩ := cells3 h0
  try clear c1_0 f1_0 c1_1 f1_1 c1_2 f1_2
  obtain ⟨c1_0, f1_0, c1_1, f1_1, c1_2, f1_2⟩ := cells3 h1
  go_wp2_with fail
  go_loopg [7, 8] F.length (fun kk s7 s8 wr => ∃ (i : Nat) (ao : Option Addr) (cap : Nat), i ≤ F.length ∧ F.length - i ≤ kk ∧ s8 = .int .i64 i ∧ s7 = .slice ao (sortL (candL l r (F.take i) S)).length cap ∧ FR w.heap.size wr ao cap (sortL (candL l r (F.take i) S)) ∧ FRP w1.heap.size wr ao1 cap1 F ∧ FRP w1.heap.size wr ao2 cap2 S ∧ wr.heap[w.heap.size]? = some (.cells #[.int .i64 l.a, .int .i64 l.b, .int .i64 l.c] 23 (0, 0)) ∧ wr.heap[w.heap.size + 1]? = some (.cells #[.int .i64 r.a, .int .i64 r.b, .int .i64 r.c] 23 (0, 0)) ∧ w3.heap.size ≤ wr.heap.size ∧ Below w.heap.size w wr)
  case atStart => exact ⟨0, none, 0, by omega, by omega, rfl, rfl, FR.empty _ _ _, HP1.out, HP2.out, h0, h1, Nat.le_refl _, D3.out⟩
  case round =>
    rename World => w50
    obtain ⟨i, ao, cap, hi, hkk, rfl, rfl, hfo, hp1', hp2', g0', g1', y50, hb⟩ := hrel
    try clear c0_0 f0_0 c0_1 f0_1 c0_2 f0_2
    try clear c1_0 f1_0 c1_1 f1_1 c1_2 f1_2
    clear h0 h1 HP1 HP2
    have h0 := g0'
    have h1 := g1'
    clear g0' g1'
    have HP1 := Lib.hid hp1'
    have HP2 := Lib.hid hp2'
    have HO := Lib.hid hfo
    have D50 := Lib.hid hb
    have z50 := D50.out.size
    clear hb hp1' hp2' hfo
    try clear c0_0 f0_0 c0_1 f0_1 c0_2 f0_2
    obtain ⟨c0_0, f0_0, c0_1, f0_1, c0_2, f0_2⟩ := cells3 h0
    try clear c1_0 f1_0 c1_1 f1_1 c1_2 f1_2
    obtain ⟨c1_0, f1_0, c1_1, f1_1, c1_2, f1_2⟩ := cells3 h1
    by_cases hlt : i < F.length
    · obtain ⟨p, hp⟩ : ∃ p, F[i]? = some p := ⟨_, List.getElem?_eq_getElem hlt⟩
      have i0 : (0 : Int) ≤ (i : Int) := by omega
      have i1 : (i : Int) < ((F.length : Nat) : Int) := by omega
      have HPI := Lib.hid hp
      clear hp
      have e0 : sortL (candL l r (F.take i) S) = sortL (candL l r (F.take i) S ++ cands l r p (S.take 0)) := by simp [cands]
      have hfo := HO.out
      rw [e0] at hfo
      replace HO := Lib.hid hfo
      clear hfo
      have HE0 := Lib.hid e0
      clear e0
      go_wp2_with fail
      go_loopg [7, 9] S.length (fun kk s7 s9 wr => ∃ (k : Nat) (ao : Option Addr) (cap : Nat), k ≤ S.length ∧ S.length - k ≤ kk ∧ s9 = .int .i64 k ∧ s7 = .slice ao (sortL (candL l r (F.take i) S ++ cands l r p (S.take k))).length cap ∧ FR w.heap.size wr ao cap (sortL (candL l r (F.take i) S ++ cands l r p (S.take k))) ∧ FRP w1.heap.size wr ao1 cap1 F ∧ FRP w1.heap.size wr ao2 cap2 S ∧ wr.heap[w.heap.size]? = some (.cells #[.int .i64 l.a, .int .i64 l.b, .int .i64 l.c] 23 (0, 0)) ∧ wr.heap[w.heap.size + 1]? = some (.cells #[.int .i64 r.a, .int .i64 r.b, .int .i64 r.c] 23 (0, 0)) ∧ w50.heap.size ≤ wr.heap.size ∧ Below w.heap.size w wr)
      case atStart => exact ⟨0, ao, cap, by omega, by omega, rfl, by rw [← HE0.out], HO.out, HP1.out, HP2.out, h0, h1, Nat.le_refl _, D50.out⟩
      case round =>
        clear HO
        rename World => w60
        obtain ⟨k, ao, cap, hk, hkj, rfl, rfl, hfo, hp1', hp2', g0', g1', y60, hb⟩ := hrel
        try clear c0_0 f0_0 c0_1 f0_1 c0_2 f0_2
        try clear c1_0 f1_0 c1_1 f1_1 c1_2 f1_2
        clear h0 h1 HP1 HP2
        have h0 := g0'
        have h1 := g1'
        clear g0' g1'
        have HP1 := Lib.hid hp1'
        have HP2 := Lib.hid hp2'
        have HO := Lib.hid hfo
        have D60 := Lib.hid hb
        have z60 := D60.out.size
        clear hb hp1' hp2' hfo
        try clear c0_0 f0_0 c0_1 f0_1 c0_2 f0_2
        obtain ⟨c0_0, f0_0, c0_1, f0_1, c0_2, f0_2⟩ := cells3 h0
        try clear c1_0 f1_0 c1_1 f1_1 c1_2 f1_2
        obtain ⟨c1_0, f1_0, c1_1, f1_1, c1_2, f1_2⟩ := cells3 h1
        by_cases hlk : k < S.length
        · obtain ⟨q, hq⟩ : ∃ q, S[k]? = some q := ⟨_, List.getElem?_eq_getElem hlk⟩
          have j0 : (0 : Int) ≤ (k : Int) := by omega
          have j1 : (k : Int) < ((S.length : Nat) : Int) := by omega
          have hlen := cand_bound (l := l) (r := r) (p := p) (i := i) (k := k) (F := F) (S := S) (by omega) (by omega)
          have hstep : sortL (candL l r (F.take i) S ++ cands l r p (S.take (k + 1))) = sortL (candL l r (F.take i) S ++ cands l r p (S.take k) ++ if good l r p q then [mk2 p q] else []) := by rw [take_snoc hq, cands_snoc, List.append_assoc]
          obtain ⟨pb, off1, ha1, _, hs1, hrp, _⟩ := HP1.out.at HPI.out
          obtain ⟨qb, off2, ha2, _, hs2, hrq, _⟩ := HP2.out.at hq
          subst ha1
          subst ha2
          have rp := HRF.out p (List.mem_of_getElem? HPI.out)
          have rq := HRS.out q (List.mem_of_getElem? hq)
          have sp : Sm p := by unfold Sm; omega
          have sq : Sm q := by unfold Sm; omega
          have B1 := fun W => rCross_any p q W
          have B2 := fun W => rProduct_any l p q W
          rw [cross_id sp sq] at B1
          rw [prod_id Hl.out sp sq] at B2
          have hgood : good l r p q = (decide (prod l p q = r.b) && (decide (crossP p q = 1) || decide (crossP p q = -1))) := rfl
          generalize prod l p q = pr at *
          generalize crossP p q = cr at *
          unfold Pt.val at B1
          unfold Lat.val Pt.val at B2
          have HB1 := Lib.hid B1
          have HB2 := Lib.hid B2
          have HST := Lib.hid hstep
          have HGO := Lib.hid hgood
          obtain ⟨O, hO⟩ : ∃ O, O = sortL (candL l r (F.take i) S ++ cands l r p (S.take k)) := ⟨_, rfl⟩
          rw [← hO] at HO hlen ⊢
          have HOE := Lib.hid hO
          clear B1 B2 hstep hgood hO hq rp rq sp sq
          go_wp2_with fail
          try clear c0_0 f0_0 c0_1 f0_1 c0_2 f0_2
          try clear c1_0 f1_0 c1_1 f1_1 c1_2 f1_2
          refine wp_region_class (fun w' => Below w60.heap.size w60 w') 9 (by kernel_rfl) (by kernel_rfl) (Below.refl _ w60).drew ?_
          simp only [List.take_succ_cons, List.take_zero, List.drop_succ_cons, List.drop_zero]
          refine quiet_moveV rfl _ rfl _ rfl ?_
          simp only [Act.put, List.setIfInBounds_toArray, List.set_cons_zero, List.set_cons_succ]
          refine quiet_moveV rfl _ rfl _ rfl ?_
          simp only [Act.put, List.setIfInBounds_toArray, List.set_cons_zero, List.set_cons_succ]
          refine quiet_still rfl (.pointer (some ⟨pb, off1 + i * 2, none⟩)) (fun w _ => by go_simp) ?_
          simp only [Act.put, List.setIfInBounds_toArray, List.set_cons_zero, List.set_cons_succ]
          refine quiet_load_mid rfl _ _ rfl pb (off1 + i * 2) rfl [.int .i64 p.x, .int .i64 p.y] _ (fun w' h => range_belowM hrp h (by first | omega | (simp; omega) | (simp; done))) Tryd.underlying25 rfl (by kernel_rfl) ?_
          simp only [Act.put, List.setIfInBounds_toArray, List.set_cons_zero, List.set_cons_succ]
          refine quiet_moveV rfl _ rfl _ rfl ?_
          simp only [Act.put, List.setIfInBounds_toArray, List.set_cons_zero, List.set_cons_succ]
          refine quiet_moveV rfl _ rfl _ rfl ?_
          simp only [Act.put, List.setIfInBounds_toArray, List.set_cons_zero, List.set_cons_succ]
          refine quiet_still rfl (.pointer (some ⟨qb, off2 + k * 2, none⟩)) (fun w _ => by go_simp) ?_
          simp only [Act.put, List.setIfInBounds_toArray, List.set_cons_zero, List.set_cons_succ]
          refine quiet_load_mid rfl _ _ rfl qb (off2 + k * 2) rfl [.int .i64 q.x, .int .i64 q.y] _ (fun w' h => range_belowM hrq h (by first | omega | (simp; omega) | (simp; done))) Tryd.underlying25 rfl (by kernel_rfl) ?_
          simp only [Act.put, List.setIfInBounds_toArray, List.set_cons_zero, List.set_cons_succ]
          refine quiet_call rfl 58 _ _ rfl (enter_of Tryd.func58 (by decide) (by intro h; cases h)) _ (in_class_b HB1.out) ?_
          simp only [Act.put, List.setIfInBounds_toArray, List.set_cons_zero, List.set_cons_succ]
          intro w61 hb
          replace h0 : w61.heap[w.heap.size]? = some (.cells #[.int .i64 l.a, .int .i64 l.b, .int .i64 l.c] 23 (0, 0)) := hb_below hb (by repeat (first | exact h0 | (refine hb_new ?_; (first | omega | (simp; omega) | (simp; done))) | (refine hb_old ?_ ?_; rotate_left; focus (first | omega | (simp; omega) | (simp; done))) | refine hb_drew ?_)) (by first | omega | (simp; omega) | (simp; done))
          replace h1 : w61.heap[w.heap.size + 1]? = some (.cells #[.int .i64 r.a, .int .i64 r.b, .int .i64 r.c] 23 (0, 0)) := hb_below hb (by repeat (first | exact h1 | (refine hb_new ?_; (first | omega | (simp; omega) | (simp; done))) | (refine hb_old ?_ ?_; rotate_left; focus (first | omega | (simp; omega) | (simp; done))) | refine hb_drew ?_)) (by first | omega | (simp; omega) | (simp; done))
          replace HP1 := Lib.hid (FRP.below (FRP.below HP1.out (by repeat (first | exact Below.refl _ _ | refine Below.alloc ?_ (by first | omega | (simp; omega) | (simp; done)) _ | refine Below.drew ?_))) (Below.mono hb (by first | exact Nat.le_refl _ | (simp; done))))
          replace HP2 := Lib.hid (FRP.below (FRP.below HP2.out (by repeat (first | exact Below.refl _ _ | refine Below.alloc ?_ (by first | omega | (simp; omega) | (simp; done)) _ | refine Below.drew ?_))) (Below.mono hb (by first | exact Nat.le_refl _ | (simp; done))))
          replace HO := Lib.hid (FR.below (FR.below HO.out (by repeat (first | exact Below.refl _ _ | refine Below.alloc ?_ (by first | omega | (simp; omega) | (simp; done)) _ | refine Below.drew ?_))) (Below.mono hb (by first | exact Nat.le_refl _ | (simp; done))))
          replace hrp := range_belowM hrp hb (by first | omega | (simp; omega) | (simp; done))
          replace hrq := range_belowM hrq hb (by first | omega | (simp; omega) | (simp; done))
          have y61 := Below.size hb
          try simp only [World.size_alloc, World.size_drew] at y61
          have D61 := Lib.hid (show Below w.heap.size w w61 from Below.trans (by repeat (first | exact D60.out | exact Below.refl _ _ | refine Below.alloc ?_ (by first | omega | (simp; omega) | (simp; done)) _)) (Below.mono hb (by first | omega | (simp; omega) | (simp; done))))
          have z61 := D61.out.size
          clear hb
          try clear c0_0 f0_0 c0_1 f0_1 c0_2 f0_2
          obtain ⟨c0_0, f0_0, c0_1, f0_1, c0_2, f0_2⟩ := cells3 h0
          try clear c1_0 f1_0 c1_1 f1_1 c1_2 f1_2
          obtain ⟨c1_0, f1_0, c1_1, f1_1, c1_2, f1_2⟩ := cells3 h1
          go_wp2_with fail
          go_cut [63] from 43 to 63 (fun s wc => s = .bool (!good l r p q) ∧ Below w61.heap.size w61 wc)
          case first =>
            by_cases c1 : pr = r.b
            · subst c1
              by_cases c2 : cr = 1
              · subst c2
                try clear c0_0 f0_0 c0_1 f0_1 c0_2 f0_2
                try clear c1_0 f1_0 c1_1 f1_1 c1_2 f1_2
                refine wp_region_class (fun w' => Below w61.heap.size w61 w') 20 (by kernel_rfl) (by kernel_rfl) (Below.refl _ w61).drew ?_
                simp only [List.take_succ_cons, List.take_zero, List.drop_succ_cons, List.drop_zero]
                refine quiet_load_mid rfl _ _ rfl _ _ rfl [.int .i64 l.a, .int .i64 l.b, .int .i64 l.c] _ (fun w' h => range_of_heap (hb_below h h0 (by first | omega | (simp; omega) | (simp; done)))) Tryd.underlying23 rfl (by kernel_rfl) ?_
                simp only [Act.put, List.setIfInBounds_toArray, List.set_cons_zero, List.set_cons_succ]
                refine quiet_moveV rfl _ rfl _ rfl ?_
                simp only [Act.put, List.setIfInBounds_toArray, List.set_cons_zero, List.set_cons_succ]
                refine quiet_moveV rfl _ rfl _ rfl ?_
                simp only [Act.put, List.setIfInBounds_toArray, List.set_cons_zero, List.set_cons_succ]
                refine quiet_still rfl (.pointer (some ⟨pb, off1 + i * 2, none⟩)) (fun w _ => by go_simp) ?_
                simp only [Act.put, List.setIfInBounds_toArray, List.set_cons_zero, List.set_cons_succ]
                refine quiet_load_mid rfl _ _ rfl pb (off1 + i * 2) rfl [.int .i64 p.x, .int .i64 p.y] _ (fun w' h => range_belowM hrp h (by first | omega | (simp; omega) | (simp; done))) Tryd.underlying25 rfl (by kernel_rfl) ?_
                simp only [Act.put, List.setIfInBounds_toArray, List.set_cons_zero, List.set_cons_succ]
                refine quiet_moveV rfl _ rfl _ rfl ?_
                simp only [Act.put, List.setIfInBounds_toArray, List.set_cons_zero, List.set_cons_succ]
                refine quiet_moveV rfl _ rfl _ rfl ?_
                simp only [Act.put, List.setIfInBounds_toArray, List.set_cons_zero, List.set_cons_succ]
                refine quiet_still rfl (.pointer (some ⟨qb, off2 + k * 2, none⟩)) (fun w _ => by go_simp) ?_
                simp only [Act.put, List.setIfInBounds_toArray, List.set_cons_zero, List.set_cons_succ]
                refine quiet_load_mid rfl _ _ rfl qb (off2 + k * 2) rfl [.int .i64 q.x, .int .i64 q.y] _ (fun w' h => range_belowM hrq h (by first | omega | (simp; omega) | (simp; done))) Tryd.underlying25 rfl (by kernel_rfl) ?_
                simp only [Act.put, List.setIfInBounds_toArray, List.set_cons_zero, List.set_cons_succ]
                refine quiet_call rfl 47 _ _ rfl (enter_of Tryd.func47 (by decide) (by intro h; cases h)) _ (in_class_b HB2.out) ?_
                simp only [Act.put, List.setIfInBounds_toArray, List.set_cons_zero, List.set_cons_succ]
                refine quiet_still rfl _ (fun w _ => by go_simp; rfl) ?_
                simp only [Act.put, List.setIfInBounds_toArray, List.set_cons_zero, List.set_cons_succ]
                refine quiet_load1 rfl _ _ rfl _ (by first | rfl | (go_simp; rfl)) _ (load_i64 _ _) (fun w' h => cell_of_heap (hb_below h h1 (by first | omega | (simp; omega) | (simp; done))) (j := 1) rfl) ?_
                simp only [Act.put, List.setIfInBounds_toArray, List.set_cons_zero, List.set_cons_succ]
                refine quiet_still rfl (.bool false) (fun w _ => by first | (go_simp; done) | (go_simp; simp; omega) | (go_simp; omega)) ?_
                simp only [Act.put, List.setIfInBounds_toArray, List.set_cons_zero, List.set_cons_succ]
                refine quiet_moveV rfl _ rfl (.bool false) rfl ?_
                simp only [Act.put, List.setIfInBounds_toArray, List.set_cons_zero, List.set_cons_succ]
                refine quietW_moveV (by kernel_rfl) _ rfl _ rfl ?_
                simp only [Act.put, List.setIfInBounds_toArray, List.set_cons_zero, List.set_cons_succ]
                refine quietW_still (by kernel_rfl) (.bool false) (fun w _ => by first | (go_simp; done) | (go_simp; simp; omega) | (go_simp; omega)) ?_
                simp only [Act.put, List.setIfInBounds_toArray, List.set_cons_zero, List.set_cons_succ]
                refine quietW_moveV (by kernel_rfl) _ rfl (.bool false) rfl ?_
                simp only [Act.put, List.setIfInBounds_toArray, List.set_cons_zero, List.set_cons_succ]
                refine quiet_skip (by kernel_rfl) ?_
                simp only [Act.put, List.setIfInBounds_toArray, List.set_cons_zero, List.set_cons_succ]
                refine quiet_skip (by kernel_rfl) ?_
                simp only [Act.put, List.setIfInBounds_toArray, List.set_cons_zero, List.set_cons_succ]
                refine quietW_still (by kernel_rfl) (.bool false) (fun w _ => by first | (go_simp; done) | (go_simp; simp; omega) | (go_simp; omega)) ?_
                simp only [Act.put, List.setIfInBounds_toArray, List.set_cons_zero, List.set_cons_succ]
                intro w62 hb
                have hbr := hb
                replace h0 : w62.heap[w.heap.size]? = some (.cells #[.int .i64 l.a, .int .i64 l.b, .int .i64 l.c] 23 (0, 0)) := hb_below hb (by repeat (first | exact h0 | (refine hb_new ?_; (first | omega | (simp; omega) | (simp; done))) | (refine hb_old ?_ ?_; rotate_left; focus (first | omega | (simp; omega) | (simp; done))) | refine hb_drew ?_)) (by first | omega | (simp; omega) | (simp; done))
                replace h1 : w62.heap[w.heap.size + 1]? = some (.cells #[.int .i64 r.a, .int .i64 r.b, .int .i64 r.c] 23 (0, 0)) := hb_below hb (by repeat (first | exact h1 | (refine hb_new ?_; (first | omega | (simp; omega) | (simp; done))) | (refine hb_old ?_ ?_; rotate_left; focus (first | omega | (simp; omega) | (simp; done))) | refine hb_drew ?_)) (by first | omega | (simp; omega) | (simp; done))
                replace HP1 := Lib.hid (FRP.below (FRP.below HP1.out (by repeat (first | exact Below.refl _ _ | refine Below.alloc ?_ (by first | omega | (simp; omega) | (simp; done)) _ | refine Below.drew ?_))) (Below.mono hb (by first | exact Nat.le_refl _ | (simp; done))))
                replace HP2 := Lib.hid (FRP.below (FRP.below HP2.out (by repeat (first | exact Below.refl _ _ | refine Below.alloc ?_ (by first | omega | (simp; omega) | (simp; done)) _ | refine Below.drew ?_))) (Below.mono hb (by first | exact Nat.le_refl _ | (simp; done))))
                replace HO := Lib.hid (FR.below (FR.below HO.out (by repeat (first | exact Below.refl _ _ | refine Below.alloc ?_ (by first | omega | (simp; omega) | (simp; done)) _ | refine Below.drew ?_))) (Below.mono hb (by first | exact Nat.le_refl _ | (simp; done))))
                replace hrp := range_belowM hrp hb (by first | omega | (simp; omega) | (simp; done))
                replace hrq := range_belowM hrq hb (by first | omega | (simp; omega) | (simp; done))
                have y62 := Below.size hb
                try simp only [World.size_alloc, World.size_drew] at y62
                have D62 := Lib.hid (show Below w.heap.size w w62 from Below.trans (by repeat (first | exact D61.out | exact Below.refl _ _ | refine Below.alloc ?_ (by first | omega | (simp; omega) | (simp; done)) _)) (Below.mono hb (by first | omega | (simp; omega) | (simp; done))))
                have z62 := D62.out.size
                clear hb
                try clear c0_0 f0_0 c0_1 f0_1 c0_2 f0_2
                obtain ⟨c0_0, f0_0, c0_1, f0_1, c0_2, f0_2⟩ := cells3 h0
                try clear c1_0 f1_0 c1_1 f1_1 c1_2 f1_2
                obtain ⟨c1_0, f1_0, c1_1, f1_1, c1_2, f1_2⟩ := cells3 h1
                go_wp2_with fail
                go_meet
                exact ⟨by rw [HGO.out]; simp [*], (hbr : Below w61.heap.size w61 w62)⟩
              · by_cases c3 : cr = -1
                · subst c3
                  try clear c0_0 f0_0 c0_1 f0_1 c0_2 f0_2
                  try clear c1_0 f1_0 c1_1 f1_1 c1_2 f1_2
                  refine wp_region_class (fun w' => Below w61.heap.size w61 w') 20 (by kernel_rfl) (by kernel_rfl) (Below.refl _ w61).drew ?_
                  simp only [List.take_succ_cons, List.take_zero, List.drop_succ_cons, List.drop_zero]
                  refine quiet_load_mid rfl _ _ rfl _ _ rfl [.int .i64 l.a, .int .i64 l.b, .int .i64 l.c] _ (fun w' h => range_of_heap (hb_below h h0 (by first | omega | (simp; omega) | (simp; done)))) Tryd.underlying23 rfl (by kernel_rfl) ?_
                  simp only [Act.put, List.setIfInBounds_toArray, List.set_cons_zero, List.set_cons_succ]
                  refine quiet_moveV rfl _ rfl _ rfl ?_
                  simp only [Act.put, List.setIfInBounds_toArray, List.set_cons_zero, List.set_cons_succ]
                  refine quiet_moveV rfl _ rfl _ rfl ?_
                  simp only [Act.put, List.setIfInBounds_toArray, List.set_cons_zero, List.set_cons_succ]
                  refine quiet_still rfl (.pointer (some ⟨pb, off1 + i * 2, none⟩)) (fun w _ => by go_simp) ?_
                  simp only [Act.put, List.setIfInBounds_toArray, List.set_cons_zero, List.set_cons_succ]
                  refine quiet_load_mid rfl _ _ rfl pb (off1 + i * 2) rfl [.int .i64 p.x, .int .i64 p.y] _ (fun w' h => range_belowM hrp h (by first | omega | (simp; omega) | (simp; done))) Tryd.underlying25 rfl (by kernel_rfl) ?_
                  simp only [Act.put, List.setIfInBounds_toArray, List.set_cons_zero, List.set_cons_succ]
                  refine quiet_moveV rfl _ rfl _ rfl ?_
                  simp only [Act.put, List.setIfInBounds_toArray, List.set_cons_zero, List.set_cons_succ]
                  refine quiet_moveV rfl _ rfl _ rfl ?_
                  simp only [Act.put, List.setIfInBounds_toArray, List.set_cons_zero, List.set_cons_succ]
                  refine quiet_still rfl (.pointer (some ⟨qb, off2 + k * 2, none⟩)) (fun w _ => by go_simp) ?_
                  simp only [Act.put, List.setIfInBounds_toArray, List.set_cons_zero, List.set_cons_succ]
                  refine quiet_load_mid rfl _ _ rfl qb (off2 + k * 2) rfl [.int .i64 q.x, .int .i64 q.y] _ (fun w' h => range_belowM hrq h (by first | omega | (simp; omega) | (simp; done))) Tryd.underlying25 rfl (by kernel_rfl) ?_
                  simp only [Act.put, List.setIfInBounds_toArray, List.set_cons_zero, List.set_cons_succ]
                  refine quiet_call rfl 47 _ _ rfl (enter_of Tryd.func47 (by decide) (by intro h; cases h)) _ (in_class_b HB2.out) ?_
                  simp only [Act.put, List.setIfInBounds_toArray, List.set_cons_zero, List.set_cons_succ]
                  refine quiet_still rfl _ (fun w _ => by go_simp; rfl) ?_
                  simp only [Act.put, List.setIfInBounds_toArray, List.set_cons_zero, List.set_cons_succ]
                  refine quiet_load1 rfl _ _ rfl _ (by first | rfl | (go_simp; rfl)) _ (load_i64 _ _) (fun w' h => cell_of_heap (hb_below h h1 (by first | omega | (simp; omega) | (simp; done))) (j := 1) rfl) ?_
                  simp only [Act.put, List.setIfInBounds_toArray, List.set_cons_zero, List.set_cons_succ]
                  refine quiet_still rfl (.bool false) (fun w _ => by first | (go_simp; done) | (go_simp; simp; omega) | (go_simp; omega)) ?_
                  simp only [Act.put, List.setIfInBounds_toArray, List.set_cons_zero, List.set_cons_succ]
                  refine quiet_moveV rfl _ rfl (.bool false) rfl ?_
                  simp only [Act.put, List.setIfInBounds_toArray, List.set_cons_zero, List.set_cons_succ]
                  refine quietW_moveV (by kernel_rfl) _ rfl _ rfl ?_
                  simp only [Act.put, List.setIfInBounds_toArray, List.set_cons_zero, List.set_cons_succ]
                  refine quietW_still (by kernel_rfl) (.bool true) (fun w _ => by first | (go_simp; done) | (go_simp; simp; omega) | (go_simp; omega)) ?_
                  simp only [Act.put, List.setIfInBounds_toArray, List.set_cons_zero, List.set_cons_succ]
                  refine quietW_moveV (by kernel_rfl) _ rfl (.bool true) rfl ?_
                  simp only [Act.put, List.setIfInBounds_toArray, List.set_cons_zero, List.set_cons_succ]
                  refine quietW_moveV (by kernel_rfl) _ rfl _ rfl ?_
                  simp only [Act.put, List.setIfInBounds_toArray, List.set_cons_zero, List.set_cons_succ]
                  refine quietW_still (by kernel_rfl) (.bool false) (fun w _ => by first | (go_simp; done) | (go_simp; simp; omega) | (go_simp; omega)) ?_
                  simp only [Act.put, List.setIfInBounds_toArray, List.set_cons_zero, List.set_cons_succ]
                  refine quietW_still (by kernel_rfl) (.bool false) (fun w _ => by first | (go_simp; done) | (go_simp; simp; omega) | (go_simp; omega)) ?_
                  simp only [Act.put, List.setIfInBounds_toArray, List.set_cons_zero, List.set_cons_succ]
                  intro w62 hb
                  have hbr := hb
                  replace h0 : w62.heap[w.heap.size]? = some (.cells #[.int .i64 l.a, .int .i64 l.b, .int .i64 l.c] 23 (0, 0)) := hb_below hb (by repeat (first | exact h0 | (refine hb_new ?_; (first | omega | (simp; omega) | (simp; done))) | (refine hb_old ?_ ?_; rotate_left; focus (first | omega | (simp; omega) | (simp; done))) | refine hb_drew ?_)) (by first | omega | (simp; omega) | (simp; done))
                  replace h1 : w62.heap[w.heap.size + 1]? = some (.cells #[.int .i64 r.a, .int .i64 r.b, .int .i64 r.c] 23 (0, 0)) := hb_below hb (by repeat (first | exact h1 | (refine hb_new ?_; (first | omega | (simp; omega) | (simp; done))) | (refine hb_old ?_ ?_; rotate_left; focus (first | omega | (simp; omega) | (simp; done))) | refine hb_drew ?_)) (by first | omega | (simp; omega) | (simp; done))
                  replace HP1 := Lib.hid (FRP.below (FRP.below HP1.out (by repeat (first | exact Below.refl _ _ | refine Below.alloc ?_ (by first | omega | (simp; omega) | (simp; done)) _ | refine Below.drew ?_))) (Below.mono hb (by first | exact Nat.le_refl _ | (simp; done))))
                  replace HP2 := Lib.hid (FRP.below (FRP.below HP2.out (by repeat (first | exact Below.refl _ _ | refine Below.alloc ?_ (by first | omega | (simp; omega) | (simp; done)) _ | refine Below.drew ?_))) (Below.mono hb (by first | exact Nat.le_refl _ | (simp; done))))
                  replace HO := Lib.hid (FR.below (FR.below HO.out (by repeat (first | exact Below.refl _ _ | refine Below.alloc ?_ (by first | omega | (simp; omega) | (simp; done)) _ | refine Below.drew ?_))) (Below.mono hb (by first | exact Nat.le_refl _ | (simp; done))))
                  replace hrp := range_belowM hrp hb (by first | omega | (simp; omega) | (simp; done))
                  replace hrq := range_belowM hrq hb (by first | omega | (simp; omega) | (simp; done))
                  have y62 := Below.size hb
                  try simp only [World.size_alloc, World.size_drew] at y62
                  have D62 := Lib.hid (show Below w.heap.size w w62 from Below.trans (by repeat (first | exact D61.out | exact Below.refl _ _ | refine Below.alloc ?_ (by first | omega | (simp; omega) | (simp; done)) _)) (Below.mono hb (by first | omega | (simp; omega) | (simp; done))))
                  have z62 := D62.out.size
                  clear hb
                  try clear c0_0 f0_0 c0_1 f0_1 c0_2 f0_2
                  obtain ⟨c0_0, f0_0, c0_1, f0_1, c0_2, f0_2⟩ := cells3 h0
                  try clear c1_0 f1_0 c1_1 f1_1 c1_2 f1_2
                  obtain ⟨c1_0, f1_0, c1_1, f1_1, c1_2, f1_2⟩ := cells3 h1
                  go_wp2_with fail
                  go_meet
                  exact ⟨by rw [HGO.out]; simp [*], (hbr : Below w61.heap.size w61 w62)⟩
                · skip
                  have c2b : (cr != 1) = true := by simpa using c2
                  have c3b : (cr != -1) = true := by simpa using c3
                  try clear c0_0 f0_0 c0_1 f0_1 c0_2 f0_2
                  try clear c1_0 f1_0 c1_1 f1_1 c1_2 f1_2
                  refine wp_region_class (fun w' => Below w61.heap.size w61 w') 20 (by kernel_rfl) (by kernel_rfl) (Below.refl _ w61).drew ?_
                  simp only [List.take_succ_cons, List.take_zero, List.drop_succ_cons, List.drop_zero]
                  refine quiet_load_mid rfl _ _ rfl _ _ rfl [.int .i64 l.a, .int .i64 l.b, .int .i64 l.c] _ (fun w' h => range_of_heap (hb_below h h0 (by first | omega | (simp; omega) | (simp; done)))) Tryd.underlying23 rfl (by kernel_rfl) ?_
                  simp only [Act.put, List.setIfInBounds_toArray, List.set_cons_zero, List.set_cons_succ]
                  refine quiet_moveV rfl _ rfl _ rfl ?_
                  simp only [Act.put, List.setIfInBounds_toArray, List.set_cons_zero, List.set_cons_succ]
                  refine quiet_moveV rfl _ rfl _ rfl ?_
                  simp only [Act.put, List.setIfInBounds_toArray, List.set_cons_zero, List.set_cons_succ]
                  refine quiet_still rfl (.pointer (some ⟨pb, off1 + i * 2, none⟩)) (fun w _ => by go_simp) ?_
                  simp only [Act.put, List.setIfInBounds_toArray, List.set_cons_zero, List.set_cons_succ]
                  refine quiet_load_mid rfl _ _ rfl pb (off1 + i * 2) rfl [.int .i64 p.x, .int .i64 p.y] _ (fun w' h => range_belowM hrp h (by first | omega | (simp; omega) | (simp; done))) Tryd.underlying25 rfl (by kernel_rfl) ?_
                  simp only [Act.put, List.setIfInBounds_toArray, List.set_cons_zero, List.set_cons_succ]
                  refine quiet_moveV rfl _ rfl _ rfl ?_
                  simp only [Act.put, List.setIfInBounds_toArray, List.set_cons_zero, List.set_cons_succ]
                  refine quiet_moveV rfl _ rfl _ rfl ?_
                  simp only [Act.put, List.setIfInBounds_toArray, List.set_cons_zero, List.set_cons_succ]
                  refine quiet_still rfl (.pointer (some ⟨qb, off2 + k * 2, none⟩)) (fun w _ => by go_simp) ?_
                  simp only [Act.put, List.setIfInBounds_toArray, List.set_cons_zero, List.set_cons_succ]
                  refine quiet_load_mid rfl _ _ rfl qb (off2 + k * 2) rfl [.int .i64 q.x, .int .i64 q.y] _ (fun w' h => range_belowM hrq h (by first | omega | (simp; omega) | (simp; done))) Tryd.underlying25 rfl (by kernel_rfl) ?_
                  simp only [Act.put, List.setIfInBounds_toArray, List.set_cons_zero, List.set_cons_succ]
                  refine quiet_call rfl 47 _ _ rfl (enter_of Tryd.func47 (by decide) (by intro h; cases h)) _ (in_class_b HB2.out) ?_
                  simp only [Act.put, List.setIfInBounds_toArray, List.set_cons_zero, List.set_cons_succ]
                  refine quiet_still rfl _ (fun w _ => by go_simp; rfl) ?_
                  simp only [Act.put, List.setIfInBounds_toArray, List.set_cons_zero, List.set_cons_succ]
                  refine quiet_load1 rfl _ _ rfl _ (by first | rfl | (go_simp; rfl)) _ (load_i64 _ _) (fun w' h => cell_of_heap (hb_below h h1 (by first | omega | (simp; omega) | (simp; done))) (j := 1) rfl) ?_
                  simp only [Act.put, List.setIfInBounds_toArray, List.set_cons_zero, List.set_cons_succ]
                  refine quiet_still rfl (.bool false) (fun w _ => by first | (go_simp; done) | (go_simp; simp; omega) | (go_simp; omega)) ?_
                  simp only [Act.put, List.setIfInBounds_toArray, List.set_cons_zero, List.set_cons_succ]
                  refine quiet_moveV rfl _ rfl (.bool false) rfl ?_
                  simp only [Act.put, List.setIfInBounds_toArray, List.set_cons_zero, List.set_cons_succ]
                  refine quietW_moveV (by kernel_rfl) _ rfl _ rfl ?_
                  simp only [Act.put, List.setIfInBounds_toArray, List.set_cons_zero, List.set_cons_succ]
                  refine quietW_still (by kernel_rfl) (.bool true) (fun w _ => by first | (go_simp; done) | (go_simp; simp; omega) | (go_simp; omega)) ?_
                  simp only [Act.put, List.setIfInBounds_toArray, List.set_cons_zero, List.set_cons_succ]
                  refine quietW_moveV (by kernel_rfl) _ rfl (.bool true) rfl ?_
                  simp only [Act.put, List.setIfInBounds_toArray, List.set_cons_zero, List.set_cons_succ]
                  refine quietW_moveV (by kernel_rfl) _ rfl _ rfl ?_
                  simp only [Act.put, List.setIfInBounds_toArray, List.set_cons_zero, List.set_cons_succ]
                  refine quietW_still (by kernel_rfl) (.bool true) (fun w _ => by first | (go_simp; done) | (go_simp; simp; omega) | (go_simp; omega)) ?_
                  simp only [Act.put, List.setIfInBounds_toArray, List.set_cons_zero, List.set_cons_succ]
                  refine quietW_still (by kernel_rfl) (.bool true) (fun w _ => by first | (go_simp; done) | (go_simp; simp; omega) | (go_simp; omega)) ?_
                  simp only [Act.put, List.setIfInBounds_toArray, List.set_cons_zero, List.set_cons_succ]
                  intro w62 hb
                  have hbr := hb
                  replace h0 : w62.heap[w.heap.size]? = some (.cells #[.int .i64 l.a, .int .i64 l.b, .int .i64 l.c] 23 (0, 0)) := hb_below hb (by repeat (first | exact h0 | (refine hb_new ?_; (first | omega | (simp; omega) | (simp; done))) | (refine hb_old ?_ ?_; rotate_left; focus (first | omega | (simp; omega) | (simp; done))) | refine hb_drew ?_)) (by first | omega | (simp; omega) | (simp; done))
                  replace h1 : w62.heap[w.heap.size + 1]? = some (.cells #[.int .i64 r.a, .int .i64 r.b, .int .i64 r.c] 23 (0, 0)) := hb_below hb (by repeat (first | exact h1 | (refine hb_new ?_; (first | omega | (simp; omega) | (simp; done))) | (refine hb_old ?_ ?_; rotate_left; focus (first | omega | (simp; omega) | (simp; done))) | refine hb_drew ?_)) (by first | omega | (simp; omega) | (simp; done))
                  replace HP1 := Lib.hid (FRP.below (FRP.below HP1.out (by repeat (first | exact Below.refl _ _ | refine Below.alloc ?_ (by first | omega | (simp; omega) | (simp; done)) _ | refine Below.drew ?_))) (Below.mono hb (by first | exact Nat.le_refl _ | (simp; done))))
                  replace HP2 := Lib.hid (FRP.below (FRP.below HP2.out (by repeat (first | exact Below.refl _ _ | refine Below.alloc ?_ (by first | omega | (simp; omega) | (simp; done)) _ | refine Below.drew ?_))) (Below.mono hb (by first | exact Nat.le_refl _ | (simp; done))))
                  replace HO := Lib.hid (FR.below (FR.below HO.out (by repeat (first | exact Below.refl _ _ | refine Below.alloc ?_ (by first | omega | (simp; omega) | (simp; done)) _ | refine Below.drew ?_))) (Below.mono hb (by first | exact Nat.le_refl _ | (simp; done))))
                  replace hrp := range_belowM hrp hb (by first | omega | (simp; omega) | (simp; done))
                  replace hrq := range_belowM hrq hb (by first | omega | (simp; omega) | (simp; done))
                  have y62 := Below.size hb
                  try simp only [World.size_alloc, World.size_drew] at y62
                  have D62 := Lib.hid (show Below w.heap.size w w62 from Below.trans (by repeat (first | exact D61.out | exact Below.refl _ _ | refine Below.alloc ?_ (by first | omega | (simp; omega) | (simp; done)) _)) (Below.mono hb (by first | omega | (simp; omega) | (simp; done))))
                  have z62 := D62.out.size
                  clear hb
                  try clear c0_0 f0_0 c0_1 f0_1 c0_2 f0_2
                  obtain ⟨c0_0, f0_0, c0_1, f0_1, c0_2, f0_2⟩ := cells3 h0
                  try clear c1_0 f1_0 c1_1 f1_1 c1_2 f1_2
                  obtain ⟨c1_0, f1_0, c1_1, f1_1, c1_2, f1_2⟩ := cells3 h1
                  go_wp2_with fail
                  go_meet
                  exact ⟨by rw [HGO.out]; simp [*], (hbr : Below w61.heap.size w61 w62)⟩
            · skip
              have c1b : (pr != r.b) = true := by simpa using c1
              try clear c0_0 f0_0 c0_1 f0_1 c0_2 f0_2
              try clear c1_0 f1_0 c1_1 f1_1 c1_2 f1_2
              refine wp_region_class (fun w' => Below w61.heap.size w61 w') 20 (by kernel_rfl) (by kernel_rfl) (Below.refl _ w61).drew ?_
              simp only [List.take_succ_cons, List.take_zero, List.drop_succ_cons, List.drop_zero]
              refine quiet_load_mid rfl _ _ rfl _ _ rfl [.int .i64 l.a, .int .i64 l.b, .int .i64 l.c] _ (fun w' h => range_of_heap (hb_below h h0 (by first | omega | (simp; omega) | (simp; done)))) Tryd.underlying23 rfl (by kernel_rfl) ?_
              simp only [Act.put, List.setIfInBounds_toArray, List.set_cons_zero, List.set_cons_succ]
              refine quiet_moveV rfl _ rfl _ rfl ?_
              simp only [Act.put, List.setIfInBounds_toArray, List.set_cons_zero, List.set_cons_succ]
              refine quiet_moveV rfl _ rfl _ rfl ?_
              simp only [Act.put, List.setIfInBounds_toArray, List.set_cons_zero, List.set_cons_succ]
              refine quiet_still rfl (.pointer (some ⟨pb, off1 + i * 2, none⟩)) (fun w _ => by go_simp) ?_
              simp only [Act.put, List.setIfInBounds_toArray, List.set_cons_zero, List.set_cons_succ]
              refine quiet_load_mid rfl _ _ rfl pb (off1 + i * 2) rfl [.int .i64 p.x, .int .i64 p.y] _ (fun w' h => range_belowM hrp h (by first | omega | (simp; omega) | (simp; done))) Tryd.underlying25 rfl (by kernel_rfl) ?_
              simp only [Act.put, List.setIfInBounds_toArray, List.set_cons_zero, List.set_cons_succ]
              refine quiet_moveV rfl _ rfl _ rfl ?_
              simp only [Act.put, List.setIfInBounds_toArray, List.set_cons_zero, List.set_cons_succ]
              refine quiet_moveV rfl _ rfl _ rfl ?_
              simp only [Act.put, List.setIfInBounds_toArray, List.set_cons_zero, List.set_cons_succ]
              refine quiet_still rfl (.pointer (some ⟨qb, off2 + k * 2, none⟩)) (fun w _ => by go_simp) ?_
              simp only [Act.put, List.setIfInBounds_toArray, List.set_cons_zero, List.set_cons_succ]
              refine quiet_load_mid rfl _ _ rfl qb (off2 + k * 2) rfl [.int .i64 q.x, .int .i64 q.y] _ (fun w' h => range_belowM hrq h (by first | omega | (simp; omega) | (simp; done))) Tryd.underlying25 rfl (by kernel_rfl) ?_
              simp only [Act.put, List.setIfInBounds_toArray, List.set_cons_zero, List.set_cons_succ]
              refine quiet_call rfl 47 _ _ rfl (enter_of Tryd.func47 (by decide) (by intro h; cases h)) _ (in_class_b HB2.out) ?_
              simp only [Act.put, List.setIfInBounds_toArray, List.set_cons_zero, List.set_cons_succ]
              refine quiet_still rfl _ (fun w _ => by go_simp; rfl) ?_
              simp only [Act.put, List.setIfInBounds_toArray, List.set_cons_zero, List.set_cons_succ]
              refine quiet_load1 rfl _ _ rfl _ (by first | rfl | (go_simp; rfl)) _ (load_i64 _ _) (fun w' h => cell_of_heap (hb_below h h1 (by first | omega | (simp; omega) | (simp; done))) (j := 1) rfl) ?_
              simp only [Act.put, List.setIfInBounds_toArray, List.set_cons_zero, List.set_cons_succ]
              refine quiet_still rfl (.bool true) (fun w _ => by first | (go_simp; done) | (go_simp; simp; omega) | (go_simp; omega)) ?_
              simp only [Act.put, List.setIfInBounds_toArray, List.set_cons_zero, List.set_cons_succ]
              refine quiet_moveV rfl _ rfl (.bool true) rfl ?_
              simp only [Act.put, List.setIfInBounds_toArray, List.set_cons_zero, List.set_cons_succ]
              refine quiet_skip (by kernel_rfl) ?_
              simp only [Act.put, List.setIfInBounds_toArray, List.set_cons_zero, List.set_cons_succ]
              refine quiet_skip (by kernel_rfl) ?_
              simp only [Act.put, List.setIfInBounds_toArray, List.set_cons_zero, List.set_cons_succ]
              refine quiet_skip (by kernel_rfl) ?_
              simp only [Act.put, List.setIfInBounds_toArray, List.set_cons_zero, List.set_cons_succ]
              refine quiet_skip (by kernel_rfl) ?_
              simp only [Act.put, List.setIfInBounds_toArray, List.set_cons_zero, List.set_cons_succ]
              refine quiet_skip (by kernel_rfl) ?_
              simp only [Act.put, List.setIfInBounds_toArray, List.set_cons_zero, List.set_cons_succ]
              refine quiet_skip (by kernel_rfl) ?_
              simp only [Act.put, List.setIfInBounds_toArray, List.set_cons_zero, List.set_cons_succ]
              intro w62 hb
              have hbr := hb
              replace h0 : w62.heap[w.heap.size]? = some (.cells #[.int .i64 l.a, .int .i64 l.b, .int .i64 l.c] 23 (0, 0)) := hb_below hb (by repeat (first | exact h0 | (refine hb_new ?_; (first | omega | (simp; omega) | (simp; done))) | (refine hb_old ?_ ?_; rotate_left; focus (first | omega | (simp; omega) | (simp; done))) | refine hb_drew ?_)) (by first | omega | (simp; omega) | (simp; done))
              replace h1 : w62.heap[w.heap.size + 1]? = some (.cells #[.int .i64 r.a, .int .i64 r.b, .int .i64 r.c] 23 (0, 0)) := hb_below hb (by repeat (first | exact h1 | (refine hb_new ?_; (first | omega | (simp; omega) | (simp; done))) | (refine hb_old ?_ ?_; rotate_left; focus (first | omega | (simp; omega) | (simp; done))) | refine hb_drew ?_)) (by first | omega | (simp; omega) | (simp; done))
              replace HP1 := Lib.hid (FRP.below (FRP.below HP1.out (by repeat (first | exact Below.refl _ _ | refine Below.alloc ?_ (by first | omega | (simp; omega) | (simp; done)) _ | refine Below.drew ?_))) (Below.mono hb (by first | exact Nat.le_refl _ | (simp; done))))
              replace HP2 := Lib.hid (FRP.below (FRP.below HP2.out (by repeat (first | exact Below.refl _ _ | refine Below.alloc ?_ (by first | omega | (simp; omega) | (simp; done)) _ | refine Below.drew ?_))) (Below.mono hb (by first | exact Nat.le_refl _ | (simp; done))))
              replace HO := Lib.hid (FR.below (FR.below HO.out (by repeat (first | exact Below.refl _ _ | refine Below.alloc ?_ (by first | omega | (simp; omega) | (simp; done)) _ | refine Below.drew ?_))) (Below.mono hb (by first | exact Nat.le_refl _ | (simp; done))))
              replace hrp := range_belowM hrp hb (by first | omega | (simp; omega) | (simp; done))
              replace hrq := range_belowM hrq hb (by first | omega | (simp; omega) | (simp; done))
              have y62 := Below.size hb
              try simp only [World.size_alloc, World.size_drew] at y62
              have D62 := Lib.hid (show Below w.heap.size w w62 from Below.trans (by repeat (first | exact D61.out | exact Below.refl _ _ | refine Below.alloc ?_ (by first | omega | (simp; omega) | (simp; done)) _)) (Below.mono hb (by first | omega | (simp; omega) | (simp; done))))
              have z62 := D62.out.size
              clear hb
              try clear c0_0 f0_0 c0_1 f0_1 c0_2 f0_2
              obtain ⟨c0_0, f0_0, c0_1, f0_1, c0_2, f0_2⟩ := cells3 h0
              try clear c1_0 f1_0 c1_1 f1_1 c1_2 f1_2
              obtain ⟨c1_0, f1_0, c1_1, f1_1, c1_2, f1_2⟩ := cells3 h1
              go_wp2_with fail
              go_meet
              exact ⟨by rw [HGO.out]; simp [*], (hbr : Below w61.heap.size w61 w62)⟩
          case rest =>
            obtain ⟨rfl, hb⟩ := hcut
            rename World => w62
            replace h0 : w62.heap[w.heap.size]? = some (.cells #[.int .i64 l.a, .int .i64 l.b, .int .i64 l.c] 23 (0, 0)) := hb_below hb (by repeat (first | exact h0 | (refine hb_new ?_; (first | omega | (simp; omega) | (simp; done))) | (refine hb_old ?_ ?_; rotate_left; focus (first | omega | (simp; omega) | (simp; done))) | refine hb_drew ?_)) (by first | omega | (simp; omega) | (simp; done))
            replace h1 : w62.heap[w.heap.size + 1]? = some (.cells #[.int .i64 r.a, .int .i64 r.b, .int .i64 r.c] 23 (0, 0)) := hb_below hb (by repeat (first | exact h1 | (refine hb_new ?_; (first | omega | (simp; omega) | (simp; done))) | (refine hb_old ?_ ?_; rotate_left; focus (first | omega | (simp; omega) | (simp; done))) | refine hb_drew ?_)) (by first | omega | (simp; omega) | (simp; done))
            replace HP1 := Lib.hid (FRP.below (FRP.below HP1.out (by repeat (first | exact Below.refl _ _ | refine Below.alloc ?_ (by first | omega | (simp; omega) | (simp; done)) _ | refine Below.drew ?_))) (Below.mono hb (by first | exact Nat.le_refl _ | (simp; done))))
            replace HP2 := Lib.hid (FRP.below (FRP.below HP2.out (by repeat (first | exact Below.refl _ _ | refine Below.alloc ?_ (by first | omega | (simp; omega) | (simp; done)) _ | refine Below.drew ?_))) (Below.mono hb (by first | exact Nat.le_refl _ | (simp; done))))
            replace HO := Lib.hid (FR.below (FR.below HO.out (by repeat (first | exact Below.refl _ _ | refine Below.alloc ?_ (by first | omega | (simp; omega) | (simp; done)) _ | refine Below.drew ?_))) (Below.mono hb (by first | exact Nat.le_refl _ | (simp; done))))
            replace hrp := range_belowM hrp hb (by first | omega | (simp; omega) | (simp; done))
            replace hrq := range_belowM hrq hb (by first | omega | (simp; omega) | (simp; done))
            have y62 := Below.size hb
            try simp only [World.size_alloc, World.size_drew] at y62
            have D62 := Lib.hid (show Below w.heap.size w w62 from Below.trans (by repeat (first | exact D61.out | exact Below.refl _ _ | refine Below.alloc ?_ (by first | omega | (simp; omega) | (simp; done)) _)) (Below.mono hb (by first | omega | (simp; omega) | (simp; done))))
            have z62 := D62.out.size
            clear hb
            try clear c0_0 f0_0 c0_1 f0_1 c0_2 f0_2
            obtain ⟨c0_0, f0_0, c0_1, f0_1, c0_2, f0_2⟩ := cells3 h0
            try clear c1_0 f1_0 c1_1 f1_1 c1_2 f1_2
            obtain ⟨c1_0, f1_0, c1_1, f1_1, c1_2, f1_2⟩ := cells3 h1
            cases hgd : good l r p q
            · have hE : sortL (candL l r (F.take i) S ++ cands l r p (S.take (k + 1))) = O := by rw [HST.out, hgd, HOE.out]; simp
              have HEE := Lib.hid hE
              clear hE hgd
              simp only [Bool.not_false]
              go_wp2_with fail
              go_roundg (S.length - (k + 1))
              case measure => omega
              case rel => exact ⟨k + 1, ao, cap, hlk, Nat.le_refl _, by go_num, by rw [HEE.out], by rw [HEE.out]; exact HO.out, HP1.out, HP2.out, h0, h1, by omega, D62.out⟩
            · have hE : sortL (candL l r (F.take i) S ++ cands l r p (S.take (k + 1))) = insM O (mk2 p q) := by rw [HST.out, hgd, HOE.out]; simp only [if_true]; exact sortL_snoc _ _
              have HEE := Lib.hid hE
              clear hE hgd
              simp only [Bool.not_true]
              go_wp2_with fail
              obtain ⟨m, hm⟩ : ∃ m, m = mk2 p q := ⟨_, rfl⟩
              have hma : m.a = p.x ∧ m.b = q.x ∧ m.c = p.y ∧ m.d = q.y := by rw [hm]; exact ⟨rfl, rfl, rfl, rfl⟩
              rw [← hm] at HEE
              have HMA := Lib.hid hma
              clear hm hma
              try clear c0_0 f0_0 c0_1 f0_1 c0_2 f0_2
              try clear c1_0 f1_0 c1_1 f1_1 c1_2 f1_2
              refine wp_region_alloc 21 22 [21] (fun _ => .cells #[.int .i64 0, .int .i64 0, .int .i64 0, .int .i64 0] 40 (0, 0)) (by kernel_rfl) (by kernel_rfl) ?_ ?_
              · intro i o h1 h2 ho
                have hi : i = 21 := by omega
                subst hi; (simp only [List.getElem?_toArray, List.getElem?_cons_succ, List.getElem?_cons_zero, Option.some.injEq] at ho; subst ho; exact ⟨rfl, fun a w => by go_simp; try rfl⟩)
              simp only [List.take_succ_cons, List.take_zero, List.drop_succ_cons, List.drop_zero]
              refine lex_still rfl _ (fun w => by go_simp; rfl) ?_
              simp only [Act.put, List.setIfInBounds_toArray, List.set_cons_zero, List.set_cons_succ]
              refine lex_still rfl _ (fun w => by go_simp; rfl) ?_
              simp only [Act.put, List.setIfInBounds_toArray, List.set_cons_zero, List.set_cons_succ]
              refine lex_still rfl (.pointer (some ⟨pb, off1 + i * 2, none⟩)) (fun w => by go_simp) ?_
              simp only [Act.put, List.setIfInBounds_toArray, List.set_cons_zero, List.set_cons_succ]
              refine lex_still rfl (.pointer (some ⟨pb, off1 + i * 2, none⟩)) (fun w => by go_simp) ?_
              simp only [Act.put, List.setIfInBounds_toArray, List.set_cons_zero, List.set_cons_succ]
              refine lex_load1 rfl _ _ rfl ⟨pb, off1 + i * 2, none⟩ rfl (.int .i64 p.x) (load_i64 _ _) (fun w' h => (range_belowM hrp h (by first | omega | (simp; omega) | (simp; done))) 0 _ rfl) ?_
              simp only [Act.put, List.setIfInBounds_toArray, List.set_cons_zero, List.set_cons_succ]
              refine lex_still rfl _ (fun w => by go_simp; rfl) ?_
              simp only [Act.put, List.setIfInBounds_toArray, List.set_cons_zero, List.set_cons_succ]
              refine lex_still rfl _ (fun w => by go_simp; rfl) ?_
              simp only [Act.put, List.setIfInBounds_toArray, List.set_cons_zero, List.set_cons_succ]
              refine lex_still rfl (.pointer (some ⟨qb, off2 + k * 2, none⟩)) (fun w => by go_simp) ?_
              simp only [Act.put, List.setIfInBounds_toArray, List.set_cons_zero, List.set_cons_succ]
              refine lex_still rfl (.pointer (some ⟨qb, off2 + k * 2, none⟩)) (fun w => by go_simp) ?_
              simp only [Act.put, List.setIfInBounds_toArray, List.set_cons_zero, List.set_cons_succ]
              refine lex_load1 rfl _ _ rfl ⟨qb, off2 + k * 2, none⟩ rfl (.int .i64 q.x) (load_i64 _ _) (fun w' h => (range_belowM hrq h (by first | omega | (simp; omega) | (simp; done))) 0 _ rfl) ?_
              simp only [Act.put, List.setIfInBounds_toArray, List.set_cons_zero, List.set_cons_succ]
              refine lex_still rfl _ (fun w => by go_simp; rfl) ?_
              simp only [Act.put, List.setIfInBounds_toArray, List.set_cons_zero, List.set_cons_succ]
              refine lex_still rfl _ (fun w => by go_simp; rfl) ?_
              simp only [Act.put, List.setIfInBounds_toArray, List.set_cons_zero, List.set_cons_succ]
              refine lex_still rfl (.pointer (some ⟨pb, off1 + i * 2, none⟩)) (fun w => by go_simp) ?_
              simp only [Act.put, List.setIfInBounds_toArray, List.set_cons_zero, List.set_cons_succ]
              refine lex_still rfl (.pointer (some ⟨pb, off1 + i * 2 + 1, none⟩)) (fun w => by go_simp) ?_
              simp only [Act.put, List.setIfInBounds_toArray, List.set_cons_zero, List.set_cons_succ]
              refine lex_load1 rfl _ _ rfl ⟨pb, off1 + i * 2 + 1, none⟩ rfl (.int .i64 p.y) (load_i64 _ _) (fun w' h => (range_belowM hrp h (by first | omega | (simp; omega) | (simp; done))) 1 _ rfl) ?_
              simp only [Act.put, List.setIfInBounds_toArray, List.set_cons_zero, List.set_cons_succ]
              refine lex_still rfl _ (fun w => by go_simp; rfl) ?_
              simp only [Act.put, List.setIfInBounds_toArray, List.set_cons_zero, List.set_cons_succ]
              refine lex_still rfl _ (fun w => by go_simp; rfl) ?_
              simp only [Act.put, List.setIfInBounds_toArray, List.set_cons_zero, List.set_cons_succ]
              refine lex_still rfl (.pointer (some ⟨qb, off2 + k * 2, none⟩)) (fun w => by go_simp) ?_
              simp only [Act.put, List.setIfInBounds_toArray, List.set_cons_zero, List.set_cons_succ]
              refine lex_still rfl (.pointer (some ⟨qb, off2 + k * 2 + 1, none⟩)) (fun w => by go_simp) ?_
              simp only [Act.put, List.setIfInBounds_toArray, List.set_cons_zero, List.set_cons_succ]
              refine lex_load1 rfl _ _ rfl ⟨qb, off2 + k * 2 + 1, none⟩ rfl (.int .i64 q.y) (load_i64 _ _) (fun w' h => (range_belowM hrq h (by first | omega | (simp; omega) | (simp; done))) 1 _ rfl) ?_
              simp only [Act.put, List.setIfInBounds_toArray, List.set_cons_zero, List.set_cons_succ]
              refine lex_still rfl _ (fun w => by go_simp; rfl) ?_
              simp only [Act.put, List.setIfInBounds_toArray, List.set_cons_zero, List.set_cons_succ]
              refine aph1' 21 11 rfl ?_
              intro b2 w63 hb hF hD
              simp only [List.drop_succ_cons, List.drop_zero]
              simp only [Act.put, List.setIfInBounds_toArray, List.set_cons_zero, List.set_cons_succ]
              replace h0 : w63.heap[w.heap.size]? = some (.cells #[.int .i64 l.a, .int .i64 l.b, .int .i64 l.c] 23 (0, 0)) := hb_below hb (by repeat (first | exact h0 | (refine hb_new ?_; (first | omega | (simp; omega) | (simp; done))) | (refine hb_old ?_ ?_; rotate_left; focus (first | omega | (simp; omega) | (simp; done))) | refine hb_drew ?_)) (by first | omega | (simp; omega) | (simp; done))
              replace h1 : w63.heap[w.heap.size + 1]? = some (.cells #[.int .i64 r.a, .int .i64 r.b, .int .i64 r.c] 23 (0, 0)) := hb_below hb (by repeat (first | exact h1 | (refine hb_new ?_; (first | omega | (simp; omega) | (simp; done))) | (refine hb_old ?_ ?_; rotate_left; focus (first | omega | (simp; omega) | (simp; done))) | refine hb_drew ?_)) (by first | omega | (simp; omega) | (simp; done))
              have g2 : w62.heap.size ≤ b2 := (hF 21 (by decide) (by decide)).1
              have l2 : b2 < w63.heap.size := (hF 21 (by decide) (by decide)).2.1
              have h2 : w63.heap[b2]? = some (.cells #[.int .i64 0, .int .i64 0, .int .i64 0, .int .i64 0] 40 (0, 0)) := (hF 21 (by decide) (by decide)).2.2
              clear hF hD
              have y63 := Below.size hb
              try simp only [World.size_alloc, World.size_drew] at y63
              have D63 := Lib.hid (show Below w.heap.size w w63 from Below.trans (by repeat (first | exact D62.out | exact Below.refl _ _ | refine Below.alloc ?_ (by first | omega | (simp; omega) | (simp; done)) _)) (Below.mono hb (by first | omega | (simp; omega) | (simp; done))))
              have z63 := D63.out.size
              have hbp := hb
              have hbp := hb
              clear hb
              refine store_row rfl _ _ _ rfl (b2) _ rfl rfl _ _ h2 (by kernel_rfl) rfl (by kernel_rfl) ?_
              intro w64 hn hk hz hB
              simp only [Act.put, List.setIfInBounds_toArray, List.set_cons_zero, List.set_cons_succ]
              replace h0 := hk _ _ h0 (by first | omega | assumption | (apply Ne.symm; assumption) | (simp; done) | (simp; omega))
              replace h1 := hk _ _ h1 (by first | omega | assumption | (apply Ne.symm; assumption) | (simp; done) | (simp; omega))
              replace h2 : w64.heap[b2]? = some (.cells #[.int .i64 p.x, .int .i64 q.x, .int .i64 p.y, .int .i64 q.y] 40 (0, 0)) := hn
              have D64 := Lib.hid (hB _ _ D63.out (by first | omega | (simp; omega)))
              have z64 := D64.out.size
              have y64 : w64.heap.size = w63.heap.size := hz
              have hbq := hB _ _ hbp (by omega)
              clear hn hk hz hB
              replace HP1 := Lib.hid (FRP.below HP1.out hbq)
              replace HP2 := Lib.hid (FRP.below HP2.out hbq)
              replace HO := Lib.hid (FR.below HO.out hbq)
              clear hbp hbq hrp hrq
              obtain ⟨hm1, hm2, hm3, hm4⟩ := HMA.out
              rw [← hm1, ← hm2, ← hm3, ← hm4] at h2
              clear hm1 hm2 hm3 hm4
              try clear c0_0 f0_0 c0_1 f0_1 c0_2 f0_2
              obtain ⟨c0_0, f0_0, c0_1, f0_1, c0_2, f0_2⟩ := cells3 h0
              try clear c1_0 f1_0 c1_1 f1_1 c1_2 f1_2
              obtain ⟨c1_0, f1_0, c1_1, f1_1, c1_2, f1_2⟩ := cells3 h1
              try clear c2_0 f2_0 c2_1 f2_1 c2_2 f2_2 c2_3 f2_3
              obtain ⟨c2_0, f2_0, c2_1, f2_1, c2_2, f2_2, c2_3, f2_3⟩ := cells4 h2
              go_upto_block 4 with fail
              go_cut [12] from 85 to 98 (fun s wc => ∃ ix : Nat, ix ≤ O.length ∧ s = .int .i64 ix ∧ atM m O = ix ∧ FR w.heap.size wc ao cap O ∧ FRP w1.heap.size wc (some ⟨pb, off1, none⟩) cap1 F ∧ FRP w1.heap.size wc (some ⟨qb, off2, none⟩) cap2 S ∧ wc.heap[w.heap.size]? = some (.cells #[.int .i64 l.a, .int .i64 l.b, .int .i64 l.c] 23 (0, 0)) ∧ wc.heap[w.heap.size + 1]? = some (.cells #[.int .i64 r.a, .int .i64 r.b, .int .i64 r.c] 23 (0, 0)) ∧ wc.heap[b2]? = some (.cells #[.int .i64 m.a, .int .i64 m.b, .int .i64 m.c, .int .i64 m.d] 40 (0, 0)) ∧ w64.heap.size ≤ wc.heap.size ∧ Below w.heap.size w wc)
              case first =>
                go_wp2_with fail
                go_loopg [12] O.length (fun kk s wr => ∃ ix : Nat, ix ≤ O.length ∧ O.length - ix ≤ kk ∧ s = .int .i64 ix ∧ (∀ j x, j < ix → O[j]? = some x → mlt x m = true) ∧ FR w.heap.size wr ao cap O ∧ FRP w1.heap.size wr (some ⟨pb, off1, none⟩) cap1 F ∧ FRP w1.heap.size wr (some ⟨qb, off2, none⟩) cap2 S ∧ wr.heap[w.heap.size]? = some (.cells #[.int .i64 l.a, .int .i64 l.b, .int .i64 l.c] 23 (0, 0)) ∧ wr.heap[w.heap.size + 1]? = some (.cells #[.int .i64 r.a, .int .i64 r.b, .int .i64 r.c] 23 (0, 0)) ∧ wr.heap[b2]? = some (.cells #[.int .i64 m.a, .int .i64 m.b, .int .i64 m.c, .int .i64 m.d] 40 (0, 0)) ∧ w64.heap.size ≤ wr.heap.size ∧ Below w.heap.size w wr)
                case atStart => exact ⟨0, by omega, by omega, rfl, fun j x h => absurd h (by omega), HO.out, HP1.out, HP2.out, h0, h1, h2, Nat.le_refl _, D64.out⟩
                case round =>
                  rename World => w70
                  obtain ⟨ix, hix, hkx, rfl, hall, hfo, hp1', hp2', g0', g1', g2', y70, hb⟩ := hrel
                  try clear c0_0 f0_0 c0_1 f0_1 c0_2 f0_2
                  try clear c1_0 f1_0 c1_1 f1_1 c1_2 f1_2
                  try clear c2_0 f2_0 c2_1 f2_1 c2_2 f2_2 c2_3 f2_3
                  clear h0 h1 h2 HP1 HP2 HO
                  have h0 := g0'
                  have h1 := g1'
                  have h2 := g2'
                  clear g0' g1' g2'
                  have HP1 := Lib.hid hp1'
                  have HP2 := Lib.hid hp2'
                  have HO := Lib.hid hfo
                  have HAL := Lib.hid hall
                  have D70 := Lib.hid hb
                  have z70 := D70.out.size
                  clear hb hp1' hp2' hfo hall
                  try clear c0_0 f0_0 c0_1 f0_1 c0_2 f0_2
                  obtain ⟨c0_0, f0_0, c0_1, f0_1, c0_2, f0_2⟩ := cells3 h0
                  try clear c1_0 f1_0 c1_1 f1_1 c1_2 f1_2
                  obtain ⟨c1_0, f1_0, c1_1, f1_1, c1_2, f1_2⟩ := cells3 h1
                  try clear c2_0 f2_0 c2_1 f2_1 c2_2 f2_2 c2_3 f2_3
                  obtain ⟨c2_0, f2_0, c2_1, f2_1, c2_2, f2_2, c2_3, f2_3⟩ := cells4 h2
                  have x0 : (0 : Int) ≤ (ix : Int) := by omega
                  by_cases hlx : ix < O.length
                  · have x1 : (ix : Int) < ((O.length : Nat) : Int) := by omega
                    obtain ⟨x, hx⟩ : ∃ x, O[ix]? = some x := ⟨_, List.getElem?_eq_getElem hlx⟩
                    obtain ⟨xb, off3, ha3, _, hs3, hrx, _⟩ := HO.out.at hx
                    subst ha3
                    have B3 := fun W => rLess_any x m W
                    have HXX := Lib.hid hx
                    clear hx
                    unfold Mat.val at B3
                    cases hz : mlt x m
                    · rw [hz] at B3
                      have HB3 := Lib.hid B3
                      have HZ := Lib.hid hz
                      clear B3 hz
                      go_wp2_with fail
                      try clear c0_0 f0_0 c0_1 f0_1 c0_2 f0_2
                      try clear c1_0 f1_0 c1_1 f1_1 c1_2 f1_2
                      try clear c2_0 f2_0 c2_1 f2_1 c2_2 f2_2 c2_3 f2_3
                      refine wp_region_class (fun w' => Below w70.heap.size w70 w') 11 (by kernel_rfl) (by kernel_rfl) (Below.refl _ w70).drew ?_
                      simp only [List.take_succ_cons, List.take_zero, List.drop_succ_cons, List.drop_zero]
                      refine quiet_moveV rfl _ rfl _ rfl ?_
                      simp only [Act.put, List.setIfInBounds_toArray, List.set_cons_zero, List.set_cons_succ]
                      refine quiet_moveV rfl _ rfl _ rfl ?_
                      simp only [Act.put, List.setIfInBounds_toArray, List.set_cons_zero, List.set_cons_succ]
                      refine quiet_still rfl (.int .i64 ((O.length : Nat) : Int)) (fun w _ => by go_simp) ?_
                      simp only [Act.put, List.setIfInBounds_toArray, List.set_cons_zero, List.set_cons_succ]
                      refine quiet_still rfl (.bool true) (fun w _ => by first | (go_simp; done) | (go_simp; simp; omega) | (go_simp; omega)) ?_
                      simp only [Act.put, List.setIfInBounds_toArray, List.set_cons_zero, List.set_cons_succ]
                      refine quiet_moveV rfl _ rfl (.bool true) rfl ?_
                      simp only [Act.put, List.setIfInBounds_toArray, List.set_cons_zero, List.set_cons_succ]
                      refine quietW_moveV (by kernel_rfl) _ rfl _ rfl ?_
                      simp only [Act.put, List.setIfInBounds_toArray, List.set_cons_zero, List.set_cons_succ]
                      refine quietW_moveV (by kernel_rfl) _ rfl _ rfl ?_
                      simp only [Act.put, List.setIfInBounds_toArray, List.set_cons_zero, List.set_cons_succ]
                      refine quietW_still (by kernel_rfl) (.pointer (some ⟨xb, off3 + ix * 4, none⟩)) (fun w _ => by go_simp) ?_
                      simp only [Act.put, List.setIfInBounds_toArray, List.set_cons_zero, List.set_cons_succ]
                      refine quietW_load_mid (by kernel_rfl) _ _ rfl xb (off3 + ix * 4) rfl [.int .i64 x.a, .int .i64 x.b, .int .i64 x.c, .int .i64 x.d] _ (fun w' h => range_belowM hrx h (by first | omega | (simp; omega) | (simp; done))) Tryd.underlying40 rfl (by kernel_rfl) ?_
                      simp only [Act.put, List.setIfInBounds_toArray, List.set_cons_zero, List.set_cons_succ]
                      refine quietW_load_mid (by kernel_rfl) _ _ rfl _ _ rfl [.int .i64 m.a, .int .i64 m.b, .int .i64 m.c, .int .i64 m.d] _ (fun w' h => range_of_heap (hb_below h h2 (by first | omega | (simp; omega) | (simp; done)))) Tryd.underlying40 rfl (by kernel_rfl) ?_
                      simp only [Act.put, List.setIfInBounds_toArray, List.set_cons_zero, List.set_cons_succ]
                      refine quietW_call (by kernel_rfl) 90 _ _ rfl (enter_of Tryd.func90 (by decide) (by intro h; cases h)) _ (in_class_b HB3.out) ?_
                      simp only [Act.put, List.setIfInBounds_toArray, List.set_cons_zero, List.set_cons_succ]
                      intro w71 hb
                      replace h0 : w71.heap[w.heap.size]? = some (.cells #[.int .i64 l.a, .int .i64 l.b, .int .i64 l.c] 23 (0, 0)) := hb_below hb (by repeat (first | exact h0 | (refine hb_new ?_; (first | omega | (simp; omega) | (simp; done))) | (refine hb_old ?_ ?_; rotate_left; focus (first | omega | (simp; omega) | (simp; done))) | refine hb_drew ?_)) (by first | omega | (simp; omega) | (simp; done))
                      replace h1 : w71.heap[w.heap.size + 1]? = some (.cells #[.int .i64 r.a, .int .i64 r.b, .int .i64 r.c] 23 (0, 0)) := hb_below hb (by repeat (first | exact h1 | (refine hb_new ?_; (first | omega | (simp; omega) | (simp; done))) | (refine hb_old ?_ ?_; rotate_left; focus (first | omega | (simp; omega) | (simp; done))) | refine hb_drew ?_)) (by first | omega | (simp; omega) | (simp; done))
                      replace h2 : w71.heap[b2]? = some (.cells #[.int .i64 m.a, .int .i64 m.b, .int .i64 m.c, .int .i64 m.d] 40 (0, 0)) := hb_below hb (by repeat (first | exact h2 | (refine hb_new ?_; (first | omega | (simp; omega) | (simp; done))) | (refine hb_old ?_ ?_; rotate_left; focus (first | omega | (simp; omega) | (simp; done))) | refine hb_drew ?_)) (by first | omega | (simp; omega) | (simp; done))
                      replace HP1 := Lib.hid (FRP.below (FRP.below HP1.out (by repeat (first | exact Below.refl _ _ | refine Below.alloc ?_ (by first | omega | (simp; omega) | (simp; done)) _ | refine Below.drew ?_))) (Below.mono hb (by first | exact Nat.le_refl _ | (simp; done))))
                      replace HP2 := Lib.hid (FRP.below (FRP.below HP2.out (by repeat (first | exact Below.refl _ _ | refine Below.alloc ?_ (by first | omega | (simp; omega) | (simp; done)) _ | refine Below.drew ?_))) (Below.mono hb (by first | exact Nat.le_refl _ | (simp; done))))
                      replace HO := Lib.hid (FR.below (FR.below HO.out (by repeat (first | exact Below.refl _ _ | refine Below.alloc ?_ (by first | omega | (simp; omega) | (simp; done)) _ | refine Below.drew ?_))) (Below.mono hb (by first | exact Nat.le_refl _ | (simp; done))))
                      replace hrx := range_belowM hrx hb (by first | omega | (simp; omega) | (simp; done))
                      have y71 := Below.size hb
                      try simp only [World.size_alloc, World.size_drew] at y71
                      have D71 := Lib.hid (show Below w.heap.size w w71 from Below.trans (by repeat (first | exact D70.out | exact Below.refl _ _ | refine Below.alloc ?_ (by first | omega | (simp; omega) | (simp; done)) _)) (Below.mono hb (by first | omega | (simp; omega) | (simp; done))))
                      have z71 := D71.out.size
                      clear hb
                      try clear c0_0 f0_0 c0_1 f0_1 c0_2 f0_2
                      obtain ⟨c0_0, f0_0, c0_1, f0_1, c0_2, f0_2⟩ := cells3 h0
                      try clear c1_0 f1_0 c1_1 f1_1 c1_2 f1_2
                      obtain ⟨c1_0, f1_0, c1_1, f1_1, c1_2, f1_2⟩ := cells3 h1
                      try clear c2_0 f2_0 c2_1 f2_1 c2_2 f2_2 c2_3 f2_3
                      obtain ⟨c2_0, f2_0, c2_1, f2_1, c2_2, f2_2, c2_3, f2_3⟩ := cells4 h2
                      go_wp2_with fail
                      go_meet
                      exact ⟨ix, hix, rfl, atM_eq hix HAL.out (fun y hy => by rw [HXX.out] at hy; rw [← Option.some.inj hy, HZ.out]; simp), HO.out, HP1.out, HP2.out, h0, h1, h2, by omega, D71.out⟩
                    · rw [hz] at B3
                      have HB3 := Lib.hid B3
                      have HZ := Lib.hid hz
                      clear B3 hz
                      go_wp2_with fail
                      try clear c0_0 f0_0 c0_1 f0_1 c0_2 f0_2
                      try clear c1_0 f1_0 c1_1 f1_1 c1_2 f1_2
                      try clear c2_0 f2_0 c2_1 f2_1 c2_2 f2_2 c2_3 f2_3
                      refine wp_region_class (fun w' => Below w70.heap.size w70 w') 11 (by kernel_rfl) (by kernel_rfl) (Below.refl _ w70).drew ?_
                      simp only [List.take_succ_cons, List.take_zero, List.drop_succ_cons, List.drop_zero]
                      refine quiet_moveV rfl _ rfl _ rfl ?_
                      simp only [Act.put, List.setIfInBounds_toArray, List.set_cons_zero, List.set_cons_succ]
                      refine quiet_moveV rfl _ rfl _ rfl ?_
                      simp only [Act.put, List.setIfInBounds_toArray, List.set_cons_zero, List.set_cons_succ]
                      refine quiet_still rfl (.int .i64 ((O.length : Nat) : Int)) (fun w _ => by go_simp) ?_
                      simp only [Act.put, List.setIfInBounds_toArray, List.set_cons_zero, List.set_cons_succ]
                      refine quiet_still rfl (.bool true) (fun w _ => by first | (go_simp; done) | (go_simp; simp; omega) | (go_simp; omega)) ?_
                      simp only [Act.put, List.setIfInBounds_toArray, List.set_cons_zero, List.set_cons_succ]
                      refine quiet_moveV rfl _ rfl (.bool true) rfl ?_
                      simp only [Act.put, List.setIfInBounds_toArray, List.set_cons_zero, List.set_cons_succ]
                      refine quietW_moveV (by kernel_rfl) _ rfl _ rfl ?_
                      simp only [Act.put, List.setIfInBounds_toArray, List.set_cons_zero, List.set_cons_succ]
                      refine quietW_moveV (by kernel_rfl) _ rfl _ rfl ?_
                      simp only [Act.put, List.setIfInBounds_toArray, List.set_cons_zero, List.set_cons_succ]
                      refine quietW_still (by kernel_rfl) (.pointer (some ⟨xb, off3 + ix * 4, none⟩)) (fun w _ => by go_simp) ?_
                      simp only [Act.put, List.setIfInBounds_toArray, List.set_cons_zero, List.set_cons_succ]
                      refine quietW_load_mid (by kernel_rfl) _ _ rfl xb (off3 + ix * 4) rfl [.int .i64 x.a, .int .i64 x.b, .int .i64 x.c, .int .i64 x.d] _ (fun w' h => range_belowM hrx h (by first | omega | (simp; omega) | (simp; done))) Tryd.underlying40 rfl (by kernel_rfl) ?_
                      simp only [Act.put, List.setIfInBounds_toArray, List.set_cons_zero, List.set_cons_succ]
                      refine quietW_load_mid (by kernel_rfl) _ _ rfl _ _ rfl [.int .i64 m.a, .int .i64 m.b, .int .i64 m.c, .int .i64 m.d] _ (fun w' h => range_of_heap (hb_below h h2 (by first | omega | (simp; omega) | (simp; done)))) Tryd.underlying40 rfl (by kernel_rfl) ?_
                      simp only [Act.put, List.setIfInBounds_toArray, List.set_cons_zero, List.set_cons_succ]
                      refine quietW_call (by kernel_rfl) 90 _ _ rfl (enter_of Tryd.func90 (by decide) (by intro h; cases h)) _ (in_class_b HB3.out) ?_
                      simp only [Act.put, List.setIfInBounds_toArray, List.set_cons_zero, List.set_cons_succ]
                      intro w71 hb
                      replace h0 : w71.heap[w.heap.size]? = some (.cells #[.int .i64 l.a, .int .i64 l.b, .int .i64 l.c] 23 (0, 0)) := hb_below hb (by repeat (first | exact h0 | (refine hb_new ?_; (first | omega | (simp; omega) | (simp; done))) | (refine hb_old ?_ ?_; rotate_left; focus (first | omega | (simp; omega) | (simp; done))) | refine hb_drew ?_)) (by first | omega | (simp; omega) | (simp; done))
                      replace h1 : w71.heap[w.heap.size + 1]? = some (.cells #[.int .i64 r.a, .int .i64 r.b, .int .i64 r.c] 23 (0, 0)) := hb_below hb (by repeat (first | exact h1 | (refine hb_new ?_; (first | omega | (simp; omega) | (simp; done))) | (refine hb_old ?_ ?_; rotate_left; focus (first | omega | (simp; omega) | (simp; done))) | refine hb_drew ?_)) (by first | omega | (simp; omega) | (simp; done))
                      replace h2 : w71.heap[b2]? = some (.cells #[.int .i64 m.a, .int .i64 m.b, .int .i64 m.c, .int .i64 m.d] 40 (0, 0)) := hb_below hb (by repeat (first | exact h2 | (refine hb_new ?_; (first | omega | (simp; omega) | (simp; done))) | (refine hb_old ?_ ?_; rotate_left; focus (first | omega | (simp; omega) | (simp; done))) | refine hb_drew ?_)) (by first | omega | (simp; omega) | (simp; done))
                      replace HP1 := Lib.hid (FRP.below (FRP.below HP1.out (by repeat (first | exact Below.refl _ _ | refine Below.alloc ?_ (by first | omega | (simp; omega) | (simp; done)) _ | refine Below.drew ?_))) (Below.mono hb (by first | exact Nat.le_refl _ | (simp; done))))
                      replace HP2 := Lib.hid (FRP.below (FRP.below HP2.out (by repeat (first | exact Below.refl _ _ | refine Below.alloc ?_ (by first | omega | (simp; omega) | (simp; done)) _ | refine Below.drew ?_))) (Below.mono hb (by first | exact Nat.le_refl _ | (simp; done))))
                      replace HO := Lib.hid (FR.below (FR.below HO.out (by repeat (first | exact Below.refl _ _ | refine Below.alloc ?_ (by first | omega | (simp; omega) | (simp; done)) _ | refine Below.drew ?_))) (Below.mono hb (by first | exact Nat.le_refl _ | (simp; done))))
                      replace hrx := range_belowM hrx hb (by first | omega | (simp; omega) | (simp; done))
                      have y71 := Below.size hb
                      try simp only [World.size_alloc, World.size_drew] at y71
                      have D71 := Lib.hid (show Below w.heap.size w w71 from Below.trans (by repeat (first | exact D70.out | exact Below.refl _ _ | refine Below.alloc ?_ (by first | omega | (simp; omega) | (simp; done)) _)) (Below.mono hb (by first | omega | (simp; omega) | (simp; done))))
                      have z71 := D71.out.size
                      clear hb
                      try clear c0_0 f0_0 c0_1 f0_1 c0_2 f0_2
                      obtain ⟨c0_0, f0_0, c0_1, f0_1, c0_2, f0_2⟩ := cells3 h0
                      try clear c1_0 f1_0 c1_1 f1_1 c1_2 f1_2
                      obtain ⟨c1_0, f1_0, c1_1, f1_1, c1_2, f1_2⟩ := cells3 h1
                      try clear c2_0 f2_0 c2_1 f2_1 c2_2 f2_2 c2_3 f2_3
                      obtain ⟨c2_0, f2_0, c2_1, f2_1, c2_2, f2_2, c2_3, f2_3⟩ := cells4 h2
                      go_wp2_with fail
                      go_roundg (O.length - (ix + 1))
                      case measure => omega
                      case rel => exact ⟨ix + 1, hlx, Nat.le_refl _, by go_num, fun j y hj hy => by
                        rcases Nat.lt_or_ge j ix with h | h
                        · exact HAL.out j y h hy
                        · obtain rfl : j = ix := by omega
                          rw [HXX.out] at hy; rw [← Option.some.inj hy]; exact HZ.out, HO.out, HP1.out, HP2.out, h0, h1, h2, by omega, D71.out⟩
                  · obtain rfl : ix = O.length := by omega
                    go_wp2_with fail
                    try clear c0_0 f0_0 c0_1 f0_1 c0_2 f0_2
                    try clear c1_0 f1_0 c1_1 f1_1 c1_2 f1_2
                    try clear c2_0 f2_0 c2_1 f2_1 c2_2 f2_2 c2_3 f2_3
                    refine wp_region_class (fun w' => Below w70.heap.size w70 w') 11 (by kernel_rfl) (by kernel_rfl) (Below.refl _ w70).drew ?_
                    simp only [List.take_succ_cons, List.take_zero, List.drop_succ_cons, List.drop_zero]
                    refine quiet_moveV rfl _ rfl _ rfl ?_
                    simp only [Act.put, List.setIfInBounds_toArray, List.set_cons_zero, List.set_cons_succ]
                    refine quiet_moveV rfl _ rfl _ rfl ?_
                    simp only [Act.put, List.setIfInBounds_toArray, List.set_cons_zero, List.set_cons_succ]
                    refine quiet_still rfl (.int .i64 ((O.length : Nat) : Int)) (fun w _ => by go_simp) ?_
                    simp only [Act.put, List.setIfInBounds_toArray, List.set_cons_zero, List.set_cons_succ]
                    refine quiet_still rfl (.bool false) (fun w _ => by first | (go_simp; done) | (go_simp; simp; omega) | (go_simp; omega)) ?_
                    simp only [Act.put, List.setIfInBounds_toArray, List.set_cons_zero, List.set_cons_succ]
                    refine quiet_moveV rfl _ rfl (.bool false) rfl ?_
                    simp only [Act.put, List.setIfInBounds_toArray, List.set_cons_zero, List.set_cons_succ]
                    refine quiet_skip (by kernel_rfl) ?_
                    simp only [Act.put, List.setIfInBounds_toArray, List.set_cons_zero, List.set_cons_succ]
                    refine quiet_skip (by kernel_rfl) ?_
                    simp only [Act.put, List.setIfInBounds_toArray, List.set_cons_zero, List.set_cons_succ]
                    refine quiet_skip (by kernel_rfl) ?_
                    simp only [Act.put, List.setIfInBounds_toArray, List.set_cons_zero, List.set_cons_succ]
                    refine quiet_skip (by kernel_rfl) ?_
                    simp only [Act.put, List.setIfInBounds_toArray, List.set_cons_zero, List.set_cons_succ]
                    refine quiet_skip (by kernel_rfl) ?_
                    simp only [Act.put, List.setIfInBounds_toArray, List.set_cons_zero, List.set_cons_succ]
                    refine quiet_skip (by kernel_rfl) ?_
                    simp only [Act.put, List.setIfInBounds_toArray, List.set_cons_zero, List.set_cons_succ]
                    intro w71 hb
                    replace h0 : w71.heap[w.heap.size]? = some (.cells #[.int .i64 l.a, .int .i64 l.b, .int .i64 l.c] 23 (0, 0)) := hb_below hb (by repeat (first | exact h0 | (refine hb_new ?_; (first | omega | (simp; omega) | (simp; done))) | (refine hb_old ?_ ?_; rotate_left; focus (first | omega | (simp; omega) | (simp; done))) | refine hb_drew ?_)) (by first | omega | (simp; omega) | (simp; done))
                    replace h1 : w71.heap[w.heap.size + 1]? = some (.cells #[.int .i64 r.a, .int .i64 r.b, .int .i64 r.c] 23 (0, 0)) := hb_below hb (by repeat (first | exact h1 | (refine hb_new ?_; (first | omega | (simp; omega) | (simp; done))) | (refine hb_old ?_ ?_; rotate_left; focus (first | omega | (simp; omega) | (simp; done))) | refine hb_drew ?_)) (by first | omega | (simp; omega) | (simp; done))
                    replace h2 : w71.heap[b2]? = some (.cells #[.int .i64 m.a, .int .i64 m.b, .int .i64 m.c, .int .i64 m.d] 40 (0, 0)) := hb_below hb (by repeat (first | exact h2 | (refine hb_new ?_; (first | omega | (simp; omega) | (simp; done))) | (refine hb_old ?_ ?_; rotate_left; focus (first | omega | (simp; omega) | (simp; done))) | refine hb_drew ?_)) (by first | omega | (simp; omega) | (simp; done))
                    replace HP1 := Lib.hid (FRP.below (FRP.below HP1.out (by repeat (first | exact Below.refl _ _ | refine Below.alloc ?_ (by first | omega | (simp; omega) | (simp; done)) _ | refine Below.drew ?_))) (Below.mono hb (by first | exact Nat.le_refl _ | (simp; done))))
                    replace HP2 := Lib.hid (FRP.below (FRP.below HP2.out (by repeat (first | exact Below.refl _ _ | refine Below.alloc ?_ (by first | omega | (simp; omega) | (simp; done)) _ | refine Below.drew ?_))) (Below.mono hb (by first | exact Nat.le_refl _ | (simp; done))))
                    replace HO := Lib.hid (FR.below (FR.below HO.out (by repeat (first | exact Below.refl _ _ | refine Below.alloc ?_ (by first | omega | (simp; omega) | (simp; done)) _ | refine Below.drew ?_))) (Below.mono hb (by first | exact Nat.le_refl _ | (simp; done))))
                    have y71 := Below.size hb
                    try simp only [World.size_alloc, World.size_drew] at y71
                    have D71 := Lib.hid (show Below w.heap.size w w71 from Below.trans (by repeat (first | exact D70.out | exact Below.refl _ _ | refine Below.alloc ?_ (by first | omega | (simp; omega) | (simp; done)) _)) (Below.mono hb (by first | omega | (simp; omega) | (simp; done))))
                    have z71 := D71.out.size
                    clear hb
                    try clear c0_0 f0_0 c0_1 f0_1 c0_2 f0_2
                    obtain ⟨c0_0, f0_0, c0_1, f0_1, c0_2, f0_2⟩ := cells3 h0
                    try clear c1_0 f1_0 c1_1 f1_1 c1_2 f1_2
                    obtain ⟨c1_0, f1_0, c1_1, f1_1, c1_2, f1_2⟩ := cells3 h1
                    try clear c2_0 f2_0 c2_1 f2_1 c2_2 f2_2 c2_3 f2_3
                    obtain ⟨c2_0, f2_0, c2_1, f2_1, c2_2, f2_2, c2_3, f2_3⟩ := cells4 h2
                    go_wp2_with fail
                    go_meet
                    exact ⟨O.length, Nat.le_refl _, rfl, atM_eq (Nat.le_refl _) HAL.out (fun y hy => by simp at hy), HO.out, HP1.out, HP2.out, h0, h1, h2, by omega, D71.out⟩
              case rest =>
                obtain ⟨ix, hix, rfl, hat, hfo, hp1', hp2', g0', g1', g2', y80, hb⟩ := hcut
                rename World => w80
                try clear c0_0 f0_0 c0_1 f0_1 c0_2 f0_2
                try clear c1_0 f1_0 c1_1 f1_1 c1_2 f1_2
                try clear c2_0 f2_0 c2_1 f2_1 c2_2 f2_2 c2_3 f2_3
                clear h0 h1 h2 HP1 HP2 HO
                have h0 := g0'
                have h1 := g1'
                have h2 := g2'
                clear g0' g1' g2'
                have HP1 := Lib.hid hp1'
                have HP2 := Lib.hid hp2'
                have HO := Lib.hid hfo
                have HAT := Lib.hid hat
                have D80 := Lib.hid hb
                have z80 := D80.out.size
                clear hb hp1' hp2' hfo hat
                try clear c0_0 f0_0 c0_1 f0_1 c0_2 f0_2
                obtain ⟨c0_0, f0_0, c0_1, f0_1, c0_2, f0_2⟩ := cells3 h0
                try clear c1_0 f1_0 c1_1 f1_1 c1_2 f1_2
                obtain ⟨c1_0, f1_0, c1_1, f1_1, c1_2, f1_2⟩ := cells3 h1
                try clear c2_0 f2_0 c2_1 f2_1 c2_2 f2_2 c2_3 f2_3
                obtain ⟨c2_0, f2_0, c2_1, f2_1, c2_2, f2_2, c2_3, f2_3⟩ := cells4 h2
                rw [insM_at HAT.out] at HEE
                have hle := HO.out.le
                have hrow := HO.out.row
                have hsz1 : w.heap.size ≤ w80.heap.size := z80
                clear HAT
                rcases Nat.eq_zero_or_pos cap with hc0 | hc0
                · obtain rfl : ix = 0 := by omega
                  have hO0 : O.length = 0 := by omega
                  subst hc0
                  clear hrow
                  cases ao with
                  | none =>
                    go_wp2_with (at_builtin; first | (refine list_append_n rfl _ _ rfl (B := w80.heap.size) (L := [] ++ O.take 0 ++ [m]) HF82.out (O.drop 0) (1) (0) (by simp <;> omega) (by rw [List.length_drop] <;> omega) (by omega) (by omega) (none) (0) (((HO.out.shows_drop 0 (by first | (intro hlt b off e; omega) | (intro hlt b off e; cases e; rfl))).below HQ82.out)) rfl rfl ?_; intro ao83 cap83 w83 hfr83 hb83 hz83; have hq83 : Below w80.heap.size w80 w83 := HQ82.out.trans hb83; have y83 : w80.heap.size ≤ w83.heap.size := hq83.size; have HF83 := Lib.hid hfr83; have HQ83 := Lib.hid hq83; clear hfr83 hb83 hz83 hq83) | (refine list_append_n rfl _ _ rfl (B := w80.heap.size) (L := [] ++ O.take 0) (HF81.out.below (below_alloc _ _)) [m] (0) 1 (by simp <;> omega) rfl (by omega) (by first | omega | (simp; done) | (simp; omega)) (some ⟨w81.heap.size, 0, none⟩) 1 (shows_one (range_of_heap (hb_new rfl)) (by simp)) rfl rfl ?_; intro ao82 cap82 w82 hfr82 hb82 hz82; have hq82 : Below w80.heap.size w80 w82 := (HQ81.out.trans ((below_alloc _ _).mono (by omega))).trans hb82; have y82 : w80.heap.size ≤ w82.heap.size := hq82.size; have HF82 := Lib.hid hfr82; have HQ82 := Lib.hid hq82; clear hfr82 hb82 hz82 hq82) | (refine list_append_n rfl _ _ rfl (B := w80.heap.size) (L := []) (FR.empty _ _ _) (O.take 0) 0 (0) rfl (by rw [List.length_take]; omega) (by omega) (by first | omega | (simp; done) | (simp; omega)) (none) 0 ((HO.out.shows 0).below (below_alloc _ _)) rfl rfl ?_; intro ao81 cap81 w81 hfr81 hb81 hz81; have hq81 : Below w80.heap.size w80 w81 := (below_alloc _ _).trans (hb81.mono (by first | omega | (simp; done) | (simp; omega))); have h81 := hb_below hq81 h2 (by omega); obtain ⟨v81_0, u81_0, v81_1, u81_1, v81_2, u81_2, v81_3, u81_3⟩ := cells4 h81; have y81 : w80.heap.size ≤ w81.heap.size := hq81.size; have HF81 := Lib.hid hfr81; have HQ81 := Lib.hid hq81; clear hfr81 hb81 hz81 hq81))
                    have hff := HF83.out
                    rw [List.nil_append, ← HEE.out] at hff
                    have HFF := Lib.hid hff
                    clear hff
                    go_roundg (S.length - (k + 1))
                    case measure => omega
                    case rel => exact ⟨k + 1, ao83, cap83, hlk, Nat.le_refl _, by go_num, by first | (have hlenE : (O.take 0 ++ [m] ++ O.drop 0).length = 1 := (by simp only [List.length_append, List.length_take, List.length_drop, List.length_cons, List.length_nil]; omega); rw [HEE.out, hlenE]; done) | (rw [HEE.out]; simp <;> omega), HFF.out.mono (by omega), FRP.below HP1.out HQ83.out, FRP.below HP2.out HQ83.out, hb_below HQ83.out h0 (by omega), hb_below HQ83.out h1 (by omega), by omega, D80.out.trans (HQ83.out.mono (by omega))⟩
                  | some a0 =>
                    go_wp2_with (at_builtin; first | (refine list_append_n rfl _ _ rfl (B := w80.heap.size) (L := [] ++ O.take 0 ++ [m]) HF82.out (O.drop 0) (1) (0) (by simp <;> omega) (by rw [List.length_drop] <;> omega) (by omega) (by omega) (some a0) (0) (((HO.out.shows_drop 0 (by first | (intro hlt b off e; omega) | (intro hlt b off e; cases e; rfl))).below HQ82.out)) rfl rfl ?_; intro ao83 cap83 w83 hfr83 hb83 hz83; have hq83 : Below w80.heap.size w80 w83 := HQ82.out.trans hb83; have y83 : w80.heap.size ≤ w83.heap.size := hq83.size; have HF83 := Lib.hid hfr83; have HQ83 := Lib.hid hq83; clear hfr83 hb83 hz83 hq83) | (refine list_append_n rfl _ _ rfl (B := w80.heap.size) (L := [] ++ O.take 0) (HF81.out.below (below_alloc _ _)) [m] (0) 1 (by simp <;> omega) rfl (by omega) (by first | omega | (simp; done) | (simp; omega)) (some ⟨w81.heap.size, 0, none⟩) 1 (shows_one (range_of_heap (hb_new rfl)) (by simp)) rfl rfl ?_; intro ao82 cap82 w82 hfr82 hb82 hz82; have hq82 : Below w80.heap.size w80 w82 := (HQ81.out.trans ((below_alloc _ _).mono (by omega))).trans hb82; have y82 : w80.heap.size ≤ w82.heap.size := hq82.size; have HF82 := Lib.hid hfr82; have HQ82 := Lib.hid hq82; clear hfr82 hb82 hz82 hq82) | (refine list_append_n rfl _ _ rfl (B := w80.heap.size) (L := []) (FR.empty _ _ _) (O.take 0) 0 (0) rfl (by rw [List.length_take]; omega) (by omega) (by first | omega | (simp; done) | (simp; omega)) (some a0) 0 ((HO.out.shows 0).below (below_alloc _ _)) rfl rfl ?_; intro ao81 cap81 w81 hfr81 hb81 hz81; have hq81 : Below w80.heap.size w80 w81 := (below_alloc _ _).trans (hb81.mono (by first | omega | (simp; done) | (simp; omega))); have h81 := hb_below hq81 h2 (by omega); obtain ⟨v81_0, u81_0, v81_1, u81_1, v81_2, u81_2, v81_3, u81_3⟩ := cells4 h81; have y81 : w80.heap.size ≤ w81.heap.size := hq81.size; have HF81 := Lib.hid hfr81; have HQ81 := Lib.hid hq81; clear hfr81 hb81 hz81 hq81))
                    have hff := HF83.out
                    rw [List.nil_append, ← HEE.out] at hff
                    have HFF := Lib.hid hff
                    clear hff
                    go_roundg (S.length - (k + 1))
                    case measure => omega
                    case rel => exact ⟨k + 1, ao83, cap83, hlk, Nat.le_refl _, by go_num, by first | (have hlenE : (O.take 0 ++ [m] ++ O.drop 0).length = 1 := (by simp only [List.length_append, List.length_take, List.length_drop, List.length_cons, List.length_nil]; omega); rw [HEE.out, hlenE]; done) | (rw [HEE.out]; simp <;> omega), HFF.out.mono (by omega), FRP.below HP1.out HQ83.out, FRP.below HP2.out HQ83.out, hb_below HQ83.out h0 (by omega), hb_below HQ83.out h1 (by omega), by omega, D80.out.trans (HQ83.out.mono (by omega))⟩
                · obtain ⟨xb, off3, ha3, _, hs3, _, _⟩ := hrow hc0
                  clear hrow
                  subst ha3
                  by_cases hxc : ix < cap
                  · skip
                    go_wp2_with (at_builtin; first | (refine list_append_n rfl _ _ rfl (B := w80.heap.size) (L := [] ++ O.take ix ++ [m]) HF82.out (O.drop ix) (ix + 1) (O.length - ix) (by simp <;> omega) (by rw [List.length_drop] <;> omega) (by omega) (by omega) (some ⟨xb, off3 + ix * 4, none⟩) (cap - ix) (((HO.out.shows_drop ix (by first | (intro hlt b off e; omega) | (intro hlt b off e; cases e; rfl))).below HQ82.out)) rfl rfl ?_; intro ao83 cap83 w83 hfr83 hb83 hz83; have hq83 : Below w80.heap.size w80 w83 := HQ82.out.trans hb83; have y83 : w80.heap.size ≤ w83.heap.size := hq83.size; have HF83 := Lib.hid hfr83; have HQ83 := Lib.hid hq83; clear hfr83 hb83 hz83 hq83) | (refine list_append_n rfl _ _ rfl (B := w80.heap.size) (L := [] ++ O.take ix) (HF81.out.below (below_alloc _ _)) [m] (ix) 1 (by simp <;> omega) rfl (by omega) (by first | omega | (simp; done) | (simp; omega)) (some ⟨w81.heap.size, 0, none⟩) 1 (shows_one (range_of_heap (hb_new rfl)) (by simp)) rfl rfl ?_; intro ao82 cap82 w82 hfr82 hb82 hz82; have hq82 : Below w80.heap.size w80 w82 := (HQ81.out.trans ((below_alloc _ _).mono (by omega))).trans hb82; have y82 : w80.heap.size ≤ w82.heap.size := hq82.size; have HF82 := Lib.hid hfr82; have HQ82 := Lib.hid hq82; clear hfr82 hb82 hz82 hq82) | (refine list_append_n rfl _ _ rfl (B := w80.heap.size) (L := []) (FR.empty _ _ _) (O.take ix) 0 (ix) rfl (by rw [List.length_take]; omega) (by omega) (by first | omega | (simp; done) | (simp; omega)) (some ⟨xb, off3, none⟩) cap ((HO.out.shows ix).below (below_alloc _ _)) rfl rfl ?_; intro ao81 cap81 w81 hfr81 hb81 hz81; have hq81 : Below w80.heap.size w80 w81 := (below_alloc _ _).trans (hb81.mono (by first | omega | (simp; done) | (simp; omega))); have h81 := hb_below hq81 h2 (by omega); obtain ⟨v81_0, u81_0, v81_1, u81_1, v81_2, u81_2, v81_3, u81_3⟩ := cells4 h81; have y81 : w80.heap.size ≤ w81.heap.size := hq81.size; have HF81 := Lib.hid hfr81; have HQ81 := Lib.hid hq81; clear hfr81 hb81 hz81 hq81))
                    have hff := HF83.out
                    rw [List.nil_append, ← HEE.out] at hff
                    have HFF := Lib.hid hff
                    clear hff
                    go_roundg (S.length - (k + 1))
                    case measure => omega
                    case rel => exact ⟨k + 1, ao83, cap83, hlk, Nat.le_refl _, by go_num, by first | (have hlenE : (O.take ix ++ [m] ++ O.drop ix).length = ix + 1 + (O.length - ix) := (by simp only [List.length_append, List.length_take, List.length_drop, List.length_cons, List.length_nil]; omega); rw [HEE.out, hlenE]; done) | (rw [HEE.out]; simp <;> omega), HFF.out.mono (by omega), FRP.below HP1.out HQ83.out, FRP.below HP2.out HQ83.out, hb_below HQ83.out h0 (by omega), hb_below HQ83.out h1 (by omega), by omega, D80.out.trans (HQ83.out.mono (by omega))⟩
                  · obtain rfl : cap = ix := by omega
                    go_wp2_with (at_builtin; first | (refine list_append_n rfl _ _ rfl (B := w80.heap.size) (L := [] ++ O.take cap ++ [m]) HF82.out (O.drop cap) (cap + 1) (0) (by simp <;> omega) (by rw [List.length_drop] <;> omega) (by omega) (by omega) (some ⟨xb, off3, none⟩) (0) (((HO.out.shows_drop cap (by first | (intro hlt b off e; omega) | (intro hlt b off e; cases e; rfl))).below HQ82.out)) rfl rfl ?_; intro ao83 cap83 w83 hfr83 hb83 hz83; have hq83 : Below w80.heap.size w80 w83 := HQ82.out.trans hb83; have y83 : w80.heap.size ≤ w83.heap.size := hq83.size; have HF83 := Lib.hid hfr83; have HQ83 := Lib.hid hq83; clear hfr83 hb83 hz83 hq83) | (refine list_append_n rfl _ _ rfl (B := w80.heap.size) (L := [] ++ O.take cap) (HF81.out.below (below_alloc _ _)) [m] (cap) 1 (by simp <;> omega) rfl (by omega) (by first | omega | (simp; done) | (simp; omega)) (some ⟨w81.heap.size, 0, none⟩) 1 (shows_one (range_of_heap (hb_new rfl)) (by simp)) rfl rfl ?_; intro ao82 cap82 w82 hfr82 hb82 hz82; have hq82 : Below w80.heap.size w80 w82 := (HQ81.out.trans ((below_alloc _ _).mono (by omega))).trans hb82; have y82 : w80.heap.size ≤ w82.heap.size := hq82.size; have HF82 := Lib.hid hfr82; have HQ82 := Lib.hid hq82; clear hfr82 hb82 hz82 hq82) | (refine list_append_n rfl _ _ rfl (B := w80.heap.size) (L := []) (FR.empty _ _ _) (O.take cap) 0 (cap) rfl (by rw [List.length_take]; omega) (by omega) (by first | omega | (simp; done) | (simp; omega)) (some ⟨xb, off3, none⟩) cap ((HO.out.shows cap).below (below_alloc _ _)) rfl rfl ?_; intro ao81 cap81 w81 hfr81 hb81 hz81; have hq81 : Below w80.heap.size w80 w81 := (below_alloc _ _).trans (hb81.mono (by first | omega | (simp; done) | (simp; omega))); have h81 := hb_below hq81 h2 (by omega); obtain ⟨v81_0, u81_0, v81_1, u81_1, v81_2, u81_2, v81_3, u81_3⟩ := cells4 h81; have y81 : w80.heap.size ≤ w81.heap.size := hq81.size; have HF81 := Lib.hid hfr81; have HQ81 := Lib.hid hq81; clear hfr81 hb81 hz81 hq81))
                    have hff := HF83.out
                    rw [List.nil_append, ← HEE.out] at hff
                    have HFF := Lib.hid hff
                    clear hff
                    go_roundg (S.length - (k + 1))
                    case measure => omega
                    case rel => exact ⟨k + 1, ao83, cap83, hlk, Nat.le_refl _, by go_num, by first | (have hlenE : (O.take cap ++ [m] ++ O.drop cap).length = cap + 1 := (by simp only [List.length_append, List.length_take, List.length_drop, List.length_cons, List.length_nil]; omega); rw [HEE.out, hlenE]; done) | (rw [HEE.out]; simp <;> omega), HFF.out.mono (by omega), FRP.below HP1.out HQ83.out, FRP.below HP2.out HQ83.out, hb_below HQ83.out h0 (by omega), hb_below HQ83.out h1 (by omega), by omega, D80.out.trans (HQ83.out.mono (by omega))⟩
        · obtain rfl : k = S.length := by omega
          have e1 : sortL (candL l r (F.take (i + 1)) S) = sortL (candL l r (F.take i) S ++ cands l r p (S.take S.length)) := by rw [take_snoc HPI.out, candL_snoc, List.take_length]
          have HE1 := Lib.hid e1
          clear e1
          go_wp2_with fail
          go_roundg (F.length - (i + 1))
          case measure => omega
          case rel => exact ⟨i + 1, ao, cap, hlt, Nat.le_refl _, by go_num, by rw [HE1.out], by rw [HE1.out]; exact HO.out, HP1.out, HP2.out, h0, h1, by omega, D60.out⟩
    · obtain rfl : i = F.length := by omega
      have hfo := HO.out
      rw [List.take_length] at hfo
      have HE := Lib.hid hfo
      clear hfo
      rw [List.take_length]
      go_wp2_with fail
      go_ret
      exact ⟨ao, cap, rfl, HE.out, D50.out⟩
end Go.Proofs.YtehpgmhilcoalaaDoor
