/- keepers. -/
import Derived.Test.YtehpgmhilcoalaaDoorGS
import Derived.Test.YtehpgmhilcoalaaDoorGT
namespace Go.Proofs.YtehpgmhilcoalaaDoor
open Go.RowKit Go.Lib
set_option linter.unusedSimpArgs false
set_option linter.unusedVariables false
theorem list_append_fac {ops : Array Oper} {rest : List Oper} {o : Oper} {a : Act} {w : World} {Q : Exit → Act → World → Prop} (hgd : o.guard = none) (s y : Operand) (ho : o.op = .call { callee := .builtin .append, args := #[s, y], argTypes := #[41, 41] })
    {B : Nat} {ao : Option Addr} {cap : Nat} {L : List Mat} (h : FR B w ao cap L) (hL : L.length < 50000) (hB : B ≤ w.heap.size) (x : Mat) (g c : Nat) (hx : w.rangeAt g 0 (ml x))
    (hs : a.eval s = .slice ao L.length cap) (hy : a.eval y = .slice (some ⟨g, 0, none⟩) 1 c) (hk : ∀ ao' cap' w', FR B w' ao' cap' (L ++ [x]) → Below B w w' → wpList Tryd.prog ops Q rest (a.put o.dst (.slice ao' (L.length + 1) cap')) w') :
    wpList Tryd.prog ops Q (o :: rest) a w := by
  obtain ⟨ao', cap', w', hr, hf, hb, _⟩ := append_fac h hL hB x g c hx o.type
  refine wpList_plain hgd fun K hK => ?_
  unfold Oper.wp execOp
  simp only [ho, resolve, invoke, builtin, Sem.run_bind, Sem.run_pure, Result.andThen_ok, List.map_toArray, List.map_cons, List.map_nil, hs, hy, hr]
  exact hK _ _ (hk ao' cap' w' hf hb)
theorem FR.nil (B : Nat) (w : World) : FR B w none 0 [] := ⟨Nat.le_refl _, Nat.zero_le _, fun h => absurd h (by omega)⟩
theorem led_small {l : Lat} (hl : Ok l) {a b c d : Int} (ha : -1 ≤ a ∧ a ≤ 1) (hb : -1 ≤ b ∧ b ≤ 1) (hc : -1 ≤ c ∧ c ≤ 1) (hd : -1 ≤ d ∧ d ≤ 1) : (led l ⟨a, b, c, d⟩).w = led l ⟨a, b, c, d⟩ := by
  obtain ⟨k1, k2, k3, k4, k5, k6, _⟩ := hl
  have one : ∀ p q : Pt, (-1 ≤ p.x ∧ p.x ≤ 1) → (-1 ≤ p.y ∧ p.y ≤ 1) → (-1 ≤ q.x ∧ q.x ≤ 1) → (-1 ≤ q.y ∧ q.y ≤ 1) → wrap64 (prod l p q) = prod l p q := fun p q h1 h2 h3 h4 => by
    have e1 := mul_bound (a := l.a) (b := p.x) (A := 10000) (B := 1) (by omega) h1
    have e2 := mul_bound (a := l.a * p.x) (b := q.x) (A := 10000) (B := 1) (by omega) h3
    have e3 := mul_bound (a := p.x) (b := q.y) (A := 1) (B := 1) h1 h4
    have e4 := mul_bound (a := p.y) (b := q.x) (A := 1) (B := 1) h2 h3
    have e5 := mul_bound (a := l.b) (b := p.x * q.y + p.y * q.x) (A := 10000) (B := 2) (by omega) (by omega)
    have e6 := mul_bound (a := l.c) (b := p.y) (A := 10000) (B := 1) (by omega) h2
    have e7 := mul_bound (a := l.c * p.y) (b := q.y) (A := 10000) (B := 1) (by omega) h4
    exact wrap64_id (by unfold prod; omega)
  simp only [Lat.w, led]
  rw [one _ _ ha hc ha hc, one _ _ ha hc hb hd, one _ _ hb hd hb hd]
theorem FR.mono {B B' : Nat} {w : World} {ao : Option Addr} {cap : Nat} {L : List Mat} (h : FR B w ao cap L) (hB : B' ≤ B) : FR B' w ao cap L :=
  ⟨h.le, h.mx, fun hc => by obtain ⟨b, off, e, h1, h2, h3, h4⟩ := h.row hc; exact ⟨b, off, e, by omega, h2, h3, h4⟩⟩
theorem keepL_le (l : Lat) (n : Nat) : (keepL l n).length ≤ n := by
  unfold keepL
  exact Nat.le_trans (List.length_filter_le _ _) (by simp)
set_option maxHeartbeats 1000000 in
set_option maxRecDepth 100000 in
theorem keepers_any (l : Lat) (hl : Ok l) (w : World) : Calls Tryd.prog 85 #[l.val] w fun e w' => ∃ ao cap, e = .returned (.slice ao (keepL l 81).length cap) ∧ FR w.heap.size w' ao cap (keepL l 81) ∧ Below w.heap.size w w' := by
  have Hl := Lib.hid hl
  clear hl
  unfold Lat.val
  go_enter Tryd.func85, Tryd.ntmps85
  go_wp2_with fail
  go_wp2_with fail
  go_loopg [3, 6] 81 (fun k s3 s6 wr => ∃ (i : Nat) (ao : Option Addr) (cap : Nat), i ≤ 81 ∧ 81 - i ≤ k ∧ s6 = .int .i64 i ∧ s3 = .slice ao (keepL l i).length cap ∧ FR (w.heap.size + 1) wr ao cap (keepL l i) ∧ wr.heap[w.heap.size]? = some (.cells #[.int .i64 l.a, .int .i64 l.b, .int .i64 l.c] 23 (0, 0)) ∧ w.heap.size + 1 ≤ wr.heap.size ∧ Below w.heap.size w wr)
  case atStart =>
    exact ⟨0, none, 0, by omega, by omega, rfl, rfl, FR.nil _ _, (by repeat (first | (refine hb_new ?_; (first | omega | (simp; omega) | (simp; done))) | (refine hb_old ?_ ?_; rotate_left; focus (first | omega | (simp; omega) | (simp; done))) | refine hb_drew ?_)), by simp, below_alloc _ _⟩
  case round =>
    rename World => w10
    obtain ⟨i, ao, cap, hi, hk, rfl, rfl, hfr, h0, y10, hb⟩ := hrel
    have D10 := Lib.hid hb
    have HF := Lib.hid hfr
    have z10 := D10.out.size
    clear hb hfr
    try clear c0_0
    have c0_0 := cell_of_heap h0 (j := 0) rfl
    try clear f0_0
    have f0_0 := frozen_of_heap h0 0
    try clear c0_1
    have c0_1 := cell_of_heap h0 (j := 1) rfl
    try clear f0_1
    have f0_1 := frozen_of_heap h0 1
    try clear c0_2
    have c0_2 := cell_of_heap h0 (j := 2) rfl
    try clear f0_2
    have f0_2 := frozen_of_heap h0 2
    by_cases hlt : i < 81
    · have i1 : (i : Int) < 81 := by omega
      obtain ⟨x1, hx1⟩ : ∃ x : Int, x = ((i / 27 : Nat) : Int) - 1 := ⟨_, rfl⟩
      obtain ⟨x2, hx2⟩ : ∃ x : Int, x = ((i / 9 % 3 : Nat) : Int) - 1 := ⟨_, rfl⟩
      obtain ⟨x3, hx3⟩ : ∃ x : Int, x = ((i / 3 % 3 : Nat) : Int) - 1 := ⟨_, rfl⟩
      obtain ⟨x4, hx4⟩ : ∃ x : Int, x = ((i % 3 : Nat) : Int) - 1 := ⟨_, rfl⟩
      have hc : cand i = ⟨x1, x2, x3, x4⟩ := by rw [hx1, hx2, hx3, hx4]; rfl
      clear hc hx1 hx2 hx3 hx4 x1 x2 x3 x4
      have hc : cand i = ⟨(i : Int) / 27 - 1, (i : Int) / 9 % 3 - 1, (i : Int) / 3 % 3 - 1, (i : Int) % 3 - 1⟩ := by unfold cand; simp
      have HC := Lib.hid hc
      clear hc
      have CL := fun W => led_any l ⟨(i : Int) / 27 - 1, (i : Int) / 9 % 3 - 1, (i : Int) / 3 % 3 - 1, (i : Int) % 3 - 1⟩ W
      have hw : (led l ⟨(i : Int) / 27 - 1, (i : Int) / 9 % 3 - 1, (i : Int) / 3 % 3 - 1, (i : Int) % 3 - 1⟩).w = led l ⟨(i : Int) / 27 - 1, (i : Int) / 9 % 3 - 1, (i : Int) / 3 % 3 - 1, (i : Int) % 3 - 1⟩ := led_small Hl.out ⟨by omega, by omega⟩ ⟨by omega, by omega⟩ ⟨by omega, by omega⟩ ⟨by omega, by omega⟩
      rw [hw] at CL
      clear hw
      obtain ⟨L2, hL2⟩ : ∃ L2, L2 = led l ⟨(i : Int) / 27 - 1, (i : Int) / 9 % 3 - 1, (i : Int) / 3 % 3 - 1, (i : Int) % 3 - 1⟩ := ⟨_, rfl⟩
      rw [← hL2] at CL
      have hkp : keeps l (cand i) = decide (L2 = l) := by rw [hL2, HC.out]; rfl
      have HL2 := Lib.hid hL2
      unfold Lat.val Mat.val at CL
      have H1 := Lib.hid CL
      clear CL hL2
      go_wp2_with fail
      obtain ⟨w11, hw11⟩ : ∃ W, W = (w10.alloc (.cells #[.int .i64 ((i : Int) / 27 - 1), .int .i64 ((i : Int) / 9 % 3 - 1), .int .i64 ((i : Int) / 3 % 3 - 1), .int .i64 ((i : Int) % 3 - 1)] 40)) := ⟨_, rfl⟩
      rw [← hw11]
      replace h0 : w11.heap[w.heap.size]? = some (.cells #[.int .i64 l.a, .int .i64 l.b, .int .i64 l.c] 23 (0, 0)) := by rw [hw11]; exact (by repeat (first | exact h0 | (refine hb_new ?_; (first | omega | (simp; omega) | (simp; done))) | (refine hb_old ?_ ?_; rotate_left; focus (first | omega | (simp; omega) | (simp; done))) | refine hb_drew ?_))
      have h1 : w11.heap[w10.heap.size]? = some (.cells #[.int .i64 ((i : Int) / 27 - 1), .int .i64 ((i : Int) / 9 % 3 - 1), .int .i64 ((i : Int) / 3 % 3 - 1), .int .i64 ((i : Int) % 3 - 1)] 40 (0, 0)) := by rw [hw11]; exact (by repeat (first | (refine hb_new ?_; (first | omega | (simp; omega) | (simp; done))) | (refine hb_old ?_ ?_; rotate_left; focus (first | omega | (simp; omega) | (simp; done))) | refine hb_drew ?_))
      have hb : Below w10.heap.size w10 w11 := by rw [hw11]; exact (by repeat (first | exact Below.refl _ _ | refine Below.alloc ?_ (by first | omega | (simp; omega) | (simp; done)) _ | refine Below.drew ?_))
      replace HF := Lib.hid (FR.below HF.out hb)
      have s11 : w10.heap.size + 1 ≤ w11.heap.size := by rw [hw11]; simp
      have y11 := Below.size hb
      try simp only [World.size_alloc, World.size_drew] at y11
      have D11 := Lib.hid (show Below w.heap.size w w11 from Below.trans (by repeat (first | exact D10.out | exact Below.refl _ _ | refine Below.alloc ?_ (by first | omega | (simp; omega) | (simp; done)) _)) (Below.mono hb (by first | omega | (simp; omega) | (simp; done))))
      have z11 := D11.out.size
      clear hb hw11
      try clear c0_0
      have c0_0 := cell_of_heap h0 (j := 0) rfl
      try clear f0_0
      have f0_0 := frozen_of_heap h0 0
      try clear c0_1
      have c0_1 := cell_of_heap h0 (j := 1) rfl
      try clear f0_1
      have f0_1 := frozen_of_heap h0 1
      try clear c0_2
      have c0_2 := cell_of_heap h0 (j := 2) rfl
      try clear f0_2
      have f0_2 := frozen_of_heap h0 2
      try clear c1_0
      have c1_0 := cell_of_heap h1 (j := 0) rfl
      try clear f1_0
      have f1_0 := frozen_of_heap h1 0
      try clear c1_1
      have c1_1 := cell_of_heap h1 (j := 1) rfl
      try clear f1_1
      have f1_1 := frozen_of_heap h1 1
      try clear c1_2
      have c1_2 := cell_of_heap h1 (j := 2) rfl
      try clear f1_2
      have f1_2 := frozen_of_heap h1 2
      try clear c1_3
      have c1_3 := cell_of_heap h1 (j := 3) rfl
      try clear f1_3
      have f1_3 := frozen_of_heap h1 3
      by_cases hq : L2 = l
      · rw [decide_eq_true hq] at hkp
        have HK := Lib.hid hkp
        have CL := H1.out
        rw [hq] at CL
        replace H1 := Lib.hid CL
        clear hkp CL
        go_wp2_with fail
        try clear c0_0
        try clear f0_0
        try clear c0_1
        try clear f0_1
        try clear c0_2
        try clear f0_2
        try clear c1_0
        try clear f1_0
        try clear c1_1
        try clear f1_1
        try clear c1_2
        try clear f1_2
        try clear c1_3
        try clear f1_3
        refine wp_region_class (fun w' => Below w11.heap.size w11 w') 4 (by kernel_rfl) (by kernel_rfl) (Below.refl _ w11).drew ?_
        simp only [List.take_succ_cons, List.take_zero, List.drop_succ_cons, List.drop_zero]
        refine quiet_load_mid rfl _ _ rfl _ _ rfl _ _ (fun w' h => range_of_heap (hb_below h h0 (by first | omega | (simp; omega) | (simp; done)))) Tryd.underlying23 rfl (by kernel_rfl) ?_
        simp only [Act.put, List.setIfInBounds_toArray, List.set_cons_zero, List.set_cons_succ]
        refine quiet_load_mid rfl _ _ rfl _ _ rfl _ _ (fun w' h => range_of_heap (hb_below h h1 (by first | omega | (simp; omega) | (simp; done)))) Tryd.underlying40 rfl (by kernel_rfl) ?_
        simp only [Act.put, List.setIfInBounds_toArray, List.set_cons_zero, List.set_cons_succ]
        refine quiet_call rfl 69 _ _ rfl (enter_of Tryd.func69 (by decide) (by intro h; cases h)) _ (in_class_b H1.out) ?_
        simp only [Act.put, List.setIfInBounds_toArray, List.set_cons_zero, List.set_cons_succ]
        refine quiet_load_mid rfl _ _ rfl _ _ rfl _ _ (fun w' h => range_of_heap (hb_below h h0 (by first | omega | (simp; omega) | (simp; done)))) Tryd.underlying23 rfl (by kernel_rfl) ?_
        simp only [Act.put, List.setIfInBounds_toArray, List.set_cons_zero, List.set_cons_succ]
        intro w12 hb
        replace h0 : w12.heap[w.heap.size]? = some (.cells #[.int .i64 l.a, .int .i64 l.b, .int .i64 l.c] 23 (0, 0)) := hb_below hb (by repeat (first | exact h0 | (refine hb_new ?_; (first | omega | (simp; omega) | (simp; done))) | (refine hb_old ?_ ?_; rotate_left; focus (first | omega | (simp; omega) | (simp; done))) | refine hb_drew ?_)) (by first | omega | (simp; omega) | (simp; done))
        replace h1 : w12.heap[w10.heap.size]? = some (.cells #[.int .i64 ((i : Int) / 27 - 1), .int .i64 ((i : Int) / 9 % 3 - 1), .int .i64 ((i : Int) / 3 % 3 - 1), .int .i64 ((i : Int) % 3 - 1)] 40 (0, 0)) := hb_below hb (by repeat (first | exact h1 | (refine hb_new ?_; (first | omega | (simp; omega) | (simp; done))) | (refine hb_old ?_ ?_; rotate_left; focus (first | omega | (simp; omega) | (simp; done))) | refine hb_drew ?_)) (by first | omega | (simp; omega) | (simp; done))
        replace HF := Lib.hid (FR.below (FR.below HF.out (by repeat (first | exact Below.refl _ _ | refine Below.alloc ?_ (by first | omega | (simp; omega) | (simp; done)) _ | refine Below.drew ?_))) (Below.mono hb (by first | exact Nat.le_refl _ | (simp; done))))
        have y12 := Below.size hb
        try simp only [World.size_alloc, World.size_drew] at y12
        have D12 := Lib.hid (show Below w.heap.size w w12 from Below.trans (by repeat (first | exact D11.out | exact Below.refl _ _ | refine Below.alloc ?_ (by first | omega | (simp; omega) | (simp; done)) _)) (Below.mono hb (by first | omega | (simp; omega) | (simp; done))))
        have z12 := D12.out.size
        clear hb
        try clear c0_0
        have c0_0 := cell_of_heap h0 (j := 0) rfl
        try clear f0_0
        have f0_0 := frozen_of_heap h0 0
        try clear c0_1
        have c0_1 := cell_of_heap h0 (j := 1) rfl
        try clear f0_1
        have f0_1 := frozen_of_heap h0 1
        try clear c0_2
        have c0_2 := cell_of_heap h0 (j := 2) rfl
        try clear f0_2
        have f0_2 := frozen_of_heap h0 2
        try clear c1_0
        have c1_0 := cell_of_heap h1 (j := 0) rfl
        try clear f1_0
        have f1_0 := frozen_of_heap h1 0
        try clear c1_1
        have c1_1 := cell_of_heap h1 (j := 1) rfl
        try clear f1_1
        have f1_1 := frozen_of_heap h1 1
        try clear c1_2
        have c1_2 := cell_of_heap h1 (j := 2) rfl
        try clear f1_2
        have f1_2 := frozen_of_heap h1 2
        try clear c1_3
        have c1_3 := cell_of_heap h1 (j := 3) rfl
        try clear f1_3
        have f1_3 := frozen_of_heap h1 3
        go_wp2_with (at_builtin; refine list_append_fac rfl _ _ rfl (B := w.heap.size + 1) (L := keepL l i) (HF.out.below (below_alloc _ _)) (by have := keepL_le l i; omega) (by first | omega | (simp; omega) | (simp; done)) ⟨(i : Int) / 27 - 1, (i : Int) / 9 % 3 - 1, (i : Int) / 3 % 3 - 1, (i : Int) % 3 - 1⟩ w12.heap.size 1 (range_of_heap (hb_new rfl)) rfl rfl ?_; intro ao' cap' w13 hfr2 hb2)
        have he : keepL l i ++ [(⟨(i : Int) / 27 - 1, (i : Int) / 9 % 3 - 1, (i : Int) / 3 % 3 - 1, (i : Int) % 3 - 1⟩ : Mat)] = keepL l (i + 1) := by rw [keepL_succ, if_pos HK.out, HC.out]
        have hle : (keepL l i).length + 1 = (keepL l (i + 1)).length := by rw [← he]; simp
        rw [he] at hfr2
        rw [hle]
        go_roundg (81 - (i + 1))
        case measure => omega
        case rel => exact ⟨i + 1, ao', cap', by omega, by omega, by go_num, rfl, hfr2, hb_below hb2 (hb_old h0 (by omega)) (by omega), Nat.le_trans (show w.heap.size + 1 ≤ (w12.alloc _).heap.size by simp; omega) hb2.size, (D12.out.trans ((below_alloc _ _).mono z12)).trans (hb2.mono (by omega))⟩
      · rw [decide_eq_false hq] at hkp
        have HK := Lib.hid hkp
        clear hkp
        have hne : ¬ (L2.a = l.a ∧ L2.b = l.b ∧ L2.c = l.c) := fun h => hq (by cases L2; cases l; simp only [Lat.mk.injEq]; exact h)
        clear hq
        try clear c0_0
        try clear f0_0
        try clear c0_1
        try clear f0_1
        try clear c0_2
        try clear f0_2
        try clear c1_0
        try clear f1_0
        try clear c1_1
        try clear f1_1
        try clear c1_2
        try clear f1_2
        try clear c1_3
        try clear f1_3
        refine wp_region_class (fun w' => Below w11.heap.size w11 w') 4 (by kernel_rfl) (by kernel_rfl) (Below.refl _ w11).drew ?_
        simp only [List.take_succ_cons, List.take_zero, List.drop_succ_cons, List.drop_zero]
        refine quiet_load_mid rfl _ _ rfl _ _ rfl _ _ (fun w' h => range_of_heap (hb_below h h0 (by first | omega | (simp; omega) | (simp; done)))) Tryd.underlying23 rfl (by kernel_rfl) ?_
        simp only [Act.put, List.setIfInBounds_toArray, List.set_cons_zero, List.set_cons_succ]
        refine quiet_load_mid rfl _ _ rfl _ _ rfl _ _ (fun w' h => range_of_heap (hb_below h h1 (by first | omega | (simp; omega) | (simp; done)))) Tryd.underlying40 rfl (by kernel_rfl) ?_
        simp only [Act.put, List.setIfInBounds_toArray, List.set_cons_zero, List.set_cons_succ]
        refine quiet_call rfl 69 _ _ rfl (enter_of Tryd.func69 (by decide) (by intro h; cases h)) _ (in_class_b H1.out) ?_
        simp only [Act.put, List.setIfInBounds_toArray, List.set_cons_zero, List.set_cons_succ]
        refine quiet_load_mid rfl _ _ rfl _ _ rfl _ _ (fun w' h => range_of_heap (hb_below h h0 (by first | omega | (simp; omega) | (simp; done)))) Tryd.underlying23 rfl (by kernel_rfl) ?_
        simp only [Act.put, List.setIfInBounds_toArray, List.set_cons_zero, List.set_cons_succ]
        intro w12 hb
        replace h0 : w12.heap[w.heap.size]? = some (.cells #[.int .i64 l.a, .int .i64 l.b, .int .i64 l.c] 23 (0, 0)) := hb_below hb (by repeat (first | exact h0 | (refine hb_new ?_; (first | omega | (simp; omega) | (simp; done))) | (refine hb_old ?_ ?_; rotate_left; focus (first | omega | (simp; omega) | (simp; done))) | refine hb_drew ?_)) (by first | omega | (simp; omega) | (simp; done))
        replace h1 : w12.heap[w10.heap.size]? = some (.cells #[.int .i64 ((i : Int) / 27 - 1), .int .i64 ((i : Int) / 9 % 3 - 1), .int .i64 ((i : Int) / 3 % 3 - 1), .int .i64 ((i : Int) % 3 - 1)] 40 (0, 0)) := hb_below hb (by repeat (first | exact h1 | (refine hb_new ?_; (first | omega | (simp; omega) | (simp; done))) | (refine hb_old ?_ ?_; rotate_left; focus (first | omega | (simp; omega) | (simp; done))) | refine hb_drew ?_)) (by first | omega | (simp; omega) | (simp; done))
        replace HF := Lib.hid (FR.below (FR.below HF.out (by repeat (first | exact Below.refl _ _ | refine Below.alloc ?_ (by first | omega | (simp; omega) | (simp; done)) _ | refine Below.drew ?_))) (Below.mono hb (by first | exact Nat.le_refl _ | (simp; done))))
        have y12 := Below.size hb
        try simp only [World.size_alloc, World.size_drew] at y12
        have D12 := Lib.hid (show Below w.heap.size w w12 from Below.trans (by repeat (first | exact D11.out | exact Below.refl _ _ | refine Below.alloc ?_ (by first | omega | (simp; omega) | (simp; done)) _)) (Below.mono hb (by first | omega | (simp; omega) | (simp; done))))
        have z12 := D12.out.size
        clear hb
        try clear c0_0
        have c0_0 := cell_of_heap h0 (j := 0) rfl
        try clear f0_0
        have f0_0 := frozen_of_heap h0 0
        try clear c0_1
        have c0_1 := cell_of_heap h0 (j := 1) rfl
        try clear f0_1
        have f0_1 := frozen_of_heap h0 1
        try clear c0_2
        have c0_2 := cell_of_heap h0 (j := 2) rfl
        try clear f0_2
        have f0_2 := frozen_of_heap h0 2
        try clear c1_0
        have c1_0 := cell_of_heap h1 (j := 0) rfl
        try clear f1_0
        have f1_0 := frozen_of_heap h1 0
        try clear c1_1
        have c1_1 := cell_of_heap h1 (j := 1) rfl
        try clear f1_1
        have f1_1 := frozen_of_heap h1 1
        try clear c1_2
        have c1_2 := cell_of_heap h1 (j := 2) rfl
        try clear f1_2
        have f1_2 := frozen_of_heap h1 2
        try clear c1_3
        have c1_3 := cell_of_heap h1 (j := 3) rfl
        try clear f1_3
        have f1_3 := frozen_of_heap h1 3
        go_wp2_with fail
        all_goals
          have he : keepL l (i + 1) = keepL l i := by rw [keepL_succ, HK.out]; simp
          go_roundg (81 - (i + 1))
          case measure => omega
          case rel => exact ⟨i + 1, ao, cap, by omega, by omega, by go_num, by rw [he], by rw [he]; exact HF.out, h0, by omega, D12.out⟩
    · obtain rfl : i = 81 := by omega
      go_wp2_with fail
      go_ret
      exact ⟨_, _, rfl, HF.out.mono (by omega), D10.out⟩
end Go.Proofs.YtehpgmhilcoalaaDoor
