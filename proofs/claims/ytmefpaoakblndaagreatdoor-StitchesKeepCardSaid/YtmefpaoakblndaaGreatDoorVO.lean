/- Moves of the program. -/
import Derived.Test.YtmefpaoakblndaaGreatDoorVN
import Derived.Test.YtmefpaoakblndaaGreatDoorShelf
namespace Go.Proofs.YtmefpaoakblndaaGreatDoor
open Go.RowKit
theorem mv_next {l : List UInt8} {k : Nat} {c : UInt8} (h : l[k]? = some c) : mvC (l.take (k + 1)) = mvC (l.take k) + szI (crX c) ∧ mvT (l.take (k + 1)) = mvT (l.take k) + (szI (twL c) + szI (twR c)) := by
  unfold mvC mvT
  rw [List.take_add_one, h]
  simp
theorem mv_rng (l : List UInt8) : (0 ≤ mvC l ∧ mvC l ≤ l.length) ∧ 0 ≤ mvT l ∧ mvT l ≤ 2 * l.length := by
  induction l with
  | nil => decide
  | cons c l ih =>
    have := byte_all (p := fun c => decide ((0 ≤ szI (crX c) ∧ szI (crX c) ≤ 1) ∧ 0 ≤ szI (twL c) + szI (twR c) ∧ szI (twL c) + szI (twR c) ≤ 2)) (by decide +kernel) c
    simp only [decide_eq_true_eq] at this
    simp only [mvC, mvT, List.map_cons, List.sum_cons, List.length_cons, Int.natCast_add] at ih ⊢
    omega
theorem sz_rng (c : UInt8) : (0 ≤ szI (crX c) ∧ szI (crX c) ≤ 1) ∧ (0 ≤ szI (twL c) ∧ szI (twL c) ≤ 1) ∧ 0 ≤ szI (twR c) ∧ szI (twR c) ≤ 1 := by
  have := byte_all (p := fun c => decide ((0 ≤ szI (crX c) ∧ szI (crX c) ≤ 1) ∧ (0 ≤ szI (twL c) ∧ szI (twL c) ≤ 1) ∧ 0 ≤ szI (twR c) ∧ szI (twR c) ≤ 1)) (by decide +kernel) c
  simpa using this
attribute [local irreducible] wpQuiet
set_option maxHeartbeats 4000000 in
set_option maxRecDepth 100000 in
theorem Moves_ok (s : ByteArray) (hz : stV s = 0) (hm : s.size ≤ maxLen) (w : World) : Calls Tryz.prog 17 #[.string s] w fun e w' => e = .returned (.tuple #[.agg #[.int .i64 (mvC s.data.toList), .int .i64 (mvT s.data.toList), .int .i64 (mvP s.data.toList)], .int .i64 0]) ∧ Below w.heap.size w w' := by
  have CK := Lib.hid (fun W => stCheck_any s W hm)
  rw [hz] at CK
  have h16 := (st_ok hz).1
  have CP : ∀ W, Calls Tryz.prog 43 #[.string s, .string ⟨#[80]⟩] W fun e w' => e = .returned (.int .i64 (mvP s.data.toList)) ∧ w' = W := fun W => Tryz.strings_Count_one s 80 W
  have HP := Lib.hid CP
  have HMC := Lib.hid (fun k => mv_rng (s.data.toList.take k))
  have HAC := Lib.hid (show s.data.toList.take s.size = s.data.toList from List.take_of_length_le (by simp))
  have HPB := Lib.hid (show 0 ≤ mvP s.data.toList ∧ mvP s.data.toList ≤ 100 by
    unfold mvP
    have := List.count_le_length (a := (80 : UInt8)) (l := s.data.toList)
    have h2 : s.data.toList.length = s.size := by simp
    omega)
  generalize mvP s.data.toList = vp at *
  obtain ⟨vc, hvc⟩ : ∃ v, v = mvC s.data.toList := ⟨_, rfl⟩
  obtain ⟨vt, hvt⟩ : ∃ v, v = mvT s.data.toList := ⟨_, rfl⟩
  rw [← hvc, ← hvt]
  have HVC := Lib.hid hvc
  have HVT := Lib.hid hvt
  clear hz CP hvc hvt
  go_enter Tryz.func17, Tryz.ntmps17
  go_wp2_with fail
  refine (CK.out _).mono ?_
  rintro e w1 ⟨rfl, hw⟩
  have h0 : w1.heap[w.heap.size]? = some (.cells #[.int .i64 0, .int .i64 0, .int .i64 0] 30 (0, 0)) := by rw [hw]; exact heap_alloc_new _ _
  have z1 : w1.heap.size = w.heap.size + 1 := by rw [hw]; simp
  have hb1 : Below w.heap.size w w1 := by rw [hw]; exact below_alloc w _
  have H0 := Lib.hid h0
  have HB1 := Lib.hid hb1
  clear hw h0 hb1
  go_wp2_with fail
  go_loopw [17] (fun i wr => ∃ (k : Nat) (a b : Int), k ≤ s.size ∧ i = .int .i64 k ∧ a = mvC (s.data.toList.take k) ∧ b = mvT (s.data.toList.take k) ∧ wr.heap[w.heap.size]? = some (.cells #[.int .i64 0, .int .i64 0, .int .i64 0] 30 (0, 0)) ∧ wr.heap[w.heap.size + 1]? = some (.cells #[.int .i64 a, .int .i64 b, .int .i64 0] 30 (0, 0)) ∧ Below w.heap.size w wr) (fun i _ => s.size - (intOf i).toNat)
  case atStart => exact ⟨0, 0, 0, Nat.zero_le _, rfl, rfl, rfl, (heap_alloc_old _ _ (by omega)).trans H0.out, by rw [← z1]; exact heap_alloc_new _ _, HB1.out.alloc (by omega) _⟩
  case round =>
    obtain ⟨k, a, b, hk, rfl, ha, hb, h0, h1, hbw⟩ := hrel
    have Hh0 := Lib.hid h0
    have Hh1 := Lib.hid h1
    have HBW := Lib.hid hbw
    have hlt : w.heap.size + 1 < wr.heap.size := (Array.getElem?_eq_some_iff.1 h1).1
    have HLT := Lib.hid hlt
    by_cases hkl : k < s.size
    · have k0 : (0 : Int) ≤ (k : Int) := by omega
      have k1 : (k : Int) < (s.size : Int) := by omega
      have hkb := byte_get hkl
      obtain ⟨m1, m2⟩ := mv_next hkb
      obtain ⟨⟨r1, r2⟩, r3, r4⟩ := HMC.out k
      rw [List.length_take] at r2 r4
      rw [← ha] at m1 r1 r2
      rw [← hb] at m2 r3 r4
      have a1 : 0 ≤ a := r1
      have a2 : a ≤ 1000 := by omega
      have b1 : 0 ≤ b := r3
      have b2 : b ≤ 2000 := by omega
      obtain ⟨⟨q1, q2⟩, ⟨q3, q4⟩, q5, q6⟩ := sz_rng s[k]
      obtain ⟨⟨t1, t2⟩, ⟨t3, t4⟩, t5, t6⟩ := tw_rng s[k]
      have CT := Lib.hid (fun W => twists_any s[k] W)
      have CX := Lib.hid (fun W => crosses_any s[k] W)
      have CZX := Lib.hid (fun W => size_any (crX s[k]) (by omega) W)
      have CZL := Lib.hid (fun W => size_any (twL s[k]) (by omega) W)
      have CZR := Lib.hid (fun W => size_any (twR s[k]) (by omega) W)
      generalize szI (crX s[k]) = sx at *
      generalize szI (twL s[k]) = sl at *
      generalize szI (twR s[k]) = sr at *
      generalize crX s[k] = xc at *
      generalize twL s[k] = xl at *
      generalize twR s[k] = xr at *
      have M1 := Lib.hid m1
      have M2 := Lib.hid m2
      have w1' : IntKind.i64.wrap (a + sx) = a + sx := IntWalk.i64_in _ (by omega)
      have w2' : IntKind.i64.wrap (sl + sr) = sl + sr := IntWalk.i64_in _ (by omega)
      have w3' : IntKind.i64.wrap (b + (sl + sr)) = b + (sl + sr) := IntWalk.i64_in _ (by omega)
      clear m1 m2 r1 r2 r3 r4 ha hb hkb t1 t2 t3 t4 t5 t6 h0 h1 hbw
      go_wp2_with fail
      refine (CT.out _).mono ?_
      rintro e w2 ⟨rfl, hw⟩
      obtain rfl := hw.symm
      clear hw
      go_wp2_with fail
      have c1_0 : wr.cell? ⟨w.heap.size + 1, 0, none⟩ = some (.int .i64 a) := cell_of_row _ _ 0 _ _ _ Hh1.out
      refine wp_region_class (fun w' => Below wr.heap.size wr w') 9 (by kernel_rfl) (by kernel_rfl) (Below.refl _ wr).drew ?_
      simp only [List.take_succ_cons, List.take_zero, List.drop_succ_cons, List.drop_zero]
      refine quiet_still rfl (.pointer (some ⟨w.heap.size + 1, 0, none⟩)) (fun w _ => by go_simp) ?_
      simp only [Act.put, List.setIfInBounds_toArray, List.set_cons_zero, List.set_cons_succ]
      refine quiet_load1 rfl _ _ rfl ⟨w.heap.size + 1, 0, none⟩ rfl (.int .i64 a) (load_int _ _) (fun _ h => (h.cell (p := ⟨w.heap.size + 1, 0, none⟩) HLT.out).trans c1_0) ?_
      simp only [Act.put, List.setIfInBounds_toArray, List.set_cons_zero, List.set_cons_succ]
      refine quiet_move rfl _ rfl ?_
      simp only [Act.put, List.setIfInBounds_toArray, List.set_cons_zero, List.set_cons_succ]
      refine quiet_move rfl _ rfl ?_
      simp only [Act.put, List.setIfInBounds_toArray, List.set_cons_zero, List.set_cons_succ]
      refine quiet_still rfl (.int .u8 (s[k].toNat : Int)) (fun w _ => by go_simp) ?_
      simp only [Act.put, List.setIfInBounds_toArray, List.set_cons_zero, List.set_cons_succ]
      refine quiet_call rfl 42 _ _ rfl (enter_of Tryz.func42 (by decide) (by intro h; cases h)) _ (fun W h => (CX.out W).mono fun e w' ⟨he, hw⟩ => ⟨he, hw ▸ h⟩) ?_
      simp only [Act.put, List.setIfInBounds_toArray, List.set_cons_zero, List.set_cons_succ]
      refine quiet_call rfl 41 _ _ rfl (enter_of Tryz.func41 (by decide) (by intro h; cases h)) _ (fun W h => (CZX.out W).mono fun e w' ⟨he, hw⟩ => ⟨he, hw ▸ h⟩) ?_
      simp only [Act.put, List.setIfInBounds_toArray, List.set_cons_zero, List.set_cons_succ]
      refine quiet_still rfl (.int .i64 (a + sx)) (fun w _ => by first | (go_simp; done) | (go_simp; exact w1')) ?_
      simp only [Act.put, List.setIfInBounds_toArray, List.set_cons_zero, List.set_cons_succ]
      refine quiet_still rfl (.pointer (some ⟨w.heap.size + 1, 0, none⟩)) (fun w _ => by go_simp) ?_
      simp only [Act.put, List.setIfInBounds_toArray, List.set_cons_zero, List.set_cons_succ]
      unfold wpQuiet
      intro w3 hb
      have h1 := (hb.block _ hlt).trans Hh1.out
      have h0 := (hb.block _ (by omega)).trans Hh0.out
      have HBW3 := Lib.hid (HBW.out.trans (hb.mono HBW.out.size))
      have z3 := hb.size
      clear hb c1_0
      have c1_0 : w3.cell? ⟨w.heap.size + 1, 0, none⟩ = some (.int .i64 a) := cell_of_row _ _ 0 _ _ _ h1
      have f1_0 := frozen_of_row _ _ 0 _ _ h1
      have n1 := Lib.hid (heap_setCell_same _ _ 0 _ _ (.int .i64 (a + sx)) h1)
      have n0 := Lib.hid ((Below.heap_setCell w3 ⟨w.heap.size + 1, 0, none⟩ (.int .i64 (a + sx)) w.heap.size (by simp)).trans h0)
      have nb := Lib.hid (HBW3.out.setCell (p := ⟨w.heap.size + 1, 0, none⟩) (by simp) (.int .i64 (a + sx)))
      clear h0 h1
      go_wp2_with fail
      obtain ⟨w4, hw4⟩ : ∃ W, W = w3.setCell ⟨w.heap.size + 1, 0, none⟩ (.int .i64 (a + sx)) := ⟨_, rfl⟩
      rw [← hw4] at n1 n0 nb ⊢
      clear hw4
      have hlt4 : w.heap.size + 1 < w4.heap.size := (Array.getElem?_eq_some_iff.1 n1.out).1
      replace HLT := Lib.hid hlt4
      have c1_1 : w4.cell? ⟨w.heap.size + 1, 1, none⟩ = some (.int .i64 b) := cell_of_row _ _ 1 _ _ _ n1.out
      refine wp_region_class (fun w' => Below w4.heap.size w4 w') 9 (by kernel_rfl) (by kernel_rfl) (Below.refl _ w4).drew ?_
      simp only [List.take_succ_cons, List.take_zero, List.drop_succ_cons, List.drop_zero]
      refine quiet_still rfl (.pointer (some ⟨w.heap.size + 1, 1, none⟩)) (fun w _ => by go_simp) ?_
      simp only [Act.put, List.setIfInBounds_toArray, List.set_cons_zero, List.set_cons_succ]
      refine quiet_load1 rfl _ _ rfl ⟨w.heap.size + 1, 1, none⟩ rfl (.int .i64 b) (load_int _ _) (fun _ h => (h.cell (p := ⟨w.heap.size + 1, 1, none⟩) HLT.out).trans c1_1) ?_
      simp only [Act.put, List.setIfInBounds_toArray, List.set_cons_zero, List.set_cons_succ]
      refine quiet_move rfl _ rfl ?_
      simp only [Act.put, List.setIfInBounds_toArray, List.set_cons_zero, List.set_cons_succ]
      refine quiet_call rfl 41 _ _ rfl (enter_of Tryz.func41 (by decide) (by intro h; cases h)) _ (fun W h => (CZL.out W).mono fun e w' ⟨he, hw⟩ => ⟨he, hw ▸ h⟩) ?_
      simp only [Act.put, List.setIfInBounds_toArray, List.set_cons_zero, List.set_cons_succ]
      refine quiet_move rfl _ rfl ?_
      simp only [Act.put, List.setIfInBounds_toArray, List.set_cons_zero, List.set_cons_succ]
      refine quiet_call rfl 41 _ _ rfl (enter_of Tryz.func41 (by decide) (by intro h; cases h)) _ (fun W h => (CZR.out W).mono fun e w' ⟨he, hw⟩ => ⟨he, hw ▸ h⟩) ?_
      simp only [Act.put, List.setIfInBounds_toArray, List.set_cons_zero, List.set_cons_succ]
      refine quiet_still rfl (.int .i64 (sl + sr)) (fun w _ => by first | (go_simp; done) | (go_simp; exact w2')) ?_
      simp only [Act.put, List.setIfInBounds_toArray, List.set_cons_zero, List.set_cons_succ]
      refine quiet_still rfl (.int .i64 (b + (sl + sr))) (fun w _ => by first | (go_simp; done) | (go_simp; exact w3')) ?_
      simp only [Act.put, List.setIfInBounds_toArray, List.set_cons_zero, List.set_cons_succ]
      refine quiet_still rfl (.pointer (some ⟨w.heap.size + 1, 1, none⟩)) (fun w _ => by go_simp) ?_
      simp only [Act.put, List.setIfInBounds_toArray, List.set_cons_zero, List.set_cons_succ]
      unfold wpQuiet
      intro w5 hb
      have h1 := (hb.block _ hlt4).trans n1.out
      have h0 := (hb.block _ (by omega)).trans n0.out
      have HBW5 := Lib.hid (nb.out.trans (hb.mono nb.out.size))
      clear hb c1_1
      have c1_1 : w5.cell? ⟨w.heap.size + 1, 1, none⟩ = some (.int .i64 b) := cell_of_row _ _ 1 _ _ _ h1
      have f1_1 := frozen_of_row _ _ 1 _ _ h1
      have o1 := Lib.hid (heap_setCell_same _ _ 1 _ _ (.int .i64 (b + (sl + sr))) h1)
      have o0 := Lib.hid ((Below.heap_setCell w5 ⟨w.heap.size + 1, 1, none⟩ (.int .i64 (b + (sl + sr))) w.heap.size (by simp)).trans h0)
      have ob := Lib.hid (HBW5.out.setCell (p := ⟨w.heap.size + 1, 1, none⟩) (by simp) (.int .i64 (b + (sl + sr))))
      clear h0 h1
      go_wp2_with fail
      go_roundw
      case rel => exact ⟨k + 1, a + sx, b + (sl + sr), hkl, by go_num, M1.out.symm, M2.out.symm, o0.out, o1.out, ob.out⟩
      case measure => (simp [intOf] <;> omega)
    · have e : k = s.size := by omega
      subst e
      have k1 : ¬ (s.size : Int) < (s.size : Int) := by omega
      rw [HAC.out, ← HVC.out] at ha
      rw [HAC.out, ← HVT.out] at hb
      subst ha
      subst hb
      clear h0 h1 hbw
      go_wp2_with fail
      refine (HP.out _).mono ?_
      rintro e w2 ⟨rfl, hw⟩
      obtain rfl := hw.symm
      clear hw
      have c1_0 : wr.cell? ⟨w.heap.size + 1, 0, none⟩ = some (.int .i64 a) := cell_of_row _ _ 0 _ _ _ Hh1.out
      have c1_1 : wr.cell? ⟨w.heap.size + 1, 1, none⟩ = some (.int .i64 b) := cell_of_row _ _ 1 _ _ _ Hh1.out
      have c1_2 : wr.cell? ⟨w.heap.size + 1, 2, none⟩ = some (.int .i64 0) := cell_of_row _ _ 2 _ _ _ Hh1.out
      have f1_2 := frozen_of_row _ _ 2 _ _ Hh1.out
      have c0_0 : wr.cell? ⟨w.heap.size, 0, none⟩ = some (.int .i64 0) := cell_of_row _ _ 0 _ _ _ Hh0.out
      have c0_1 : wr.cell? ⟨w.heap.size, 1, none⟩ = some (.int .i64 0) := cell_of_row _ _ 1 _ _ _ Hh0.out
      have c0_2 : wr.cell? ⟨w.heap.size, 2, none⟩ = some (.int .i64 0) := cell_of_row _ _ 2 _ _ _ Hh0.out
      have f0_0 := frozen_of_row _ _ 0 _ _ Hh0.out
      have f0_1 := frozen_of_row _ _ 1 _ _ Hh0.out
      have f0_2 := frozen_of_row _ _ 2 _ _ Hh0.out
      go_wp2_with fail
      exact bodyPost_ret (v := .tuple #[.agg #[.int .i64 a, .int .i64 b, .int .i64 vp], .int .i64 0]) (results_row_tmp rfl _ _ w.heap.size 30 #[.int .i64 a, .int .i64 b, .int .i64 vp] (0, 0) _ _ rfl rfl (set3 ((Below.heap_setCell wr ⟨w.heap.size + 1, 2, none⟩ (.int .i64 vp) w.heap.size (by simp)).trans Hh0.out) _ _ _) Tryz.underlying30 rfl (by kernel_rfl)) rfl ⟨rfl, below3s (HBW.out.setCell (p := ⟨w.heap.size + 1, 2, none⟩) (by simp) _) (Nat.le_refl _) _ _ _⟩
set_option maxHeartbeats 1000000 in
set_option maxRecDepth 100000 in
theorem Moves_any (s : ByteArray) (hm : s.size ≤ maxLen) (w : World) : Calls Tryz.prog 17 #[.string s] w fun e w' => e = .returned (.tuple #[.agg (movC s), .int .i64 (stV s)]) ∧ Below w.heap.size w w' := by
  by_cases h0 : stV s = 0
  · have e1 : movC s = #[.int .i64 (mvC s.data.toList), .int .i64 (mvT s.data.toList), .int .i64 (mvP s.data.toList)] := if_pos h0
    rw [e1, h0]
    exact Moves_ok s h0 hm w
  · have e1 : movC s = #[.int .i64 0, .int .i64 0, .int .i64 0] := if_neg h0
    rw [e1]
    have CK := Lib.hid (fun W => stCheck_any s W hm)
    generalize stV s = z at *
    have hq : (z != 0) = true := by simpa using h0
    clear e1 h0
    go_enter Tryz.func17, Tryz.ntmps17
    go_wp2_with fail
    refine (CK.out _).mono ?_
    rintro e w1 ⟨rfl, hw⟩
    have hg : w1.heap[w.heap.size]? = some (.cells #[.int .i64 0, .int .i64 0, .int .i64 0] 30 (0, 0)) := by rw [hw]; exact heap_alloc_new _ _
    have HB := Lib.hid (show Below w.heap.size w w1 by rw [hw]; exact below_alloc w _)
    clear hw
    have c0 : w1.cell? ⟨w.heap.size, 0, none⟩ = some (.int .i64 0) := cell_of_row _ _ 0 _ _ _ hg
    have c1 : w1.cell? ⟨w.heap.size, 1, none⟩ = some (.int .i64 0) := cell_of_row _ _ 1 _ _ _ hg
    have c2 : w1.cell? ⟨w.heap.size, 2, none⟩ = some (.int .i64 0) := cell_of_row _ _ 2 _ _ _ hg
    have f0 := frozen_of_row _ _ 0 _ _ hg
    have f1 := frozen_of_row _ _ 1 _ _ hg
    have f2 := frozen_of_row _ _ 2 _ _ hg
    have HG := Lib.hid hg
    clear hg
    go_wp2_with fail
    exact bodyPost_ret (v := .tuple #[.agg #[.int .i64 0, .int .i64 0, .int .i64 0], .int .i64 z]) (results_row_tmp rfl _ _ w.heap.size 30 #[.int .i64 0, .int .i64 0, .int .i64 0] (0, 0) _ _ rfl rfl (set3 HG.out _ _ _) Tryz.underlying30 rfl (by kernel_rfl)) rfl ⟨rfl, below3s HB.out (Nat.le_refl _) _ _ _⟩
end Go.Proofs.YtmefpaoakblndaaGreatDoor
