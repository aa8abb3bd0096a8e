/- The reference's digits of a number. -/
import Derived.Test.YtkbmdmipdcjjcaaGreatDoorY
namespace Go.Proofs.YtkbmdmipdcjjcaaGreatDoor
open Go.RowKit

theorem dec_small (d : Nat) (h : d < 10) : Lib.decDigits d = [UInt8.ofNat (48 + d)] := by rw [Lib.decDigits, dif_pos h]
theorem dec_big (u : Nat) (h : ¬ u < 10) : Lib.decDigits u = Lib.decDigits (u / 10) ++ Lib.decDigits (u % 10) := by
  rw [Lib.decDigits, dif_neg h, dec_small (u % 10) (by omega)]

set_option maxHeartbeats 400000 in
set_option maxRecDepth 100000 in
theorem refDigit (d : Nat) (w : World) (h : d < 10) :
    Calls Tryz.prog 26 #[.int .i64 d] w fun e w' => e = .returned (.string ⟨(Lib.decDigits d).toArray⟩) ∧ Below w.heap.size w w' := by
  rw [dec_small d h]
  have d0 : (0 : Int) ≤ d := by omega
  have d1 : (d : Int) < 10 := by omega
  have hw : IntKind.u8.wrap (48 + (d : Int)) = 48 + (d : Int) := by unfold IntKind.wrap IntKind.bits; simp [IntKind.signed]; omega
  have hcv : (convert 73 9 (.slice (some ⟨w.heap.size, 0, none⟩) 1 1)).run Tryz.prog (w.alloc (.cells #[.int .u8 (48 + (d : Int))] 5)) = .ok (.string ⟨#[UInt8.ofNat (48 + d)]⟩) (w.alloc (.cells #[.int .u8 (48 + (d : Int))] 5)) := by
    refine run_convert_bytes_back _ 73 9 5 ⟨w.heap.size, 0, none⟩ 1 [UInt8.ofNat (48 + d)] Tryz.underlying73 Tryz.underlying5 Tryz.underlying9 (fun j hj => ?_)
    have hj0 : j = 0 := by simpa using hj
    subst hj0
    have := cell_alloc w #[.int .u8 (48 + (d : Int))] 5 0 (by simp)
    rw [add_at]
    refine this.trans ?_
    simp
    omega
  go_enter Tryz.func26, Tryz.ntmps26
  go_wp2_with fail
  go_ret
  exact ⟨rfl, below_alloc _ _⟩

set_option maxHeartbeats 400000 in
set_option maxRecDepth 100000 in
theorem refDigits_pos (K : Nat) : ∀ (u : Nat) (w : World), u ≤ K → u ≤ 9223372036854775807 →
    Calls Tryz.prog 26 #[.int .i64 u] w fun e w' => e = .returned (.string ⟨(Lib.decDigits u).toArray⟩) ∧ Below w.heap.size w w' := by
  induction K with
  | zero => intro u w hu _; exact refDigit u w (by omega)
  | succ K ih =>
    intro u w hu hm
    by_cases h : u < 10
    · exact refDigit u w h
    · have hq := ih (u / 10) w (by omega) (by omega)
      have hr := fun w => refDigit (u % 10) w (by omega)
      have hd := dec_big u h
      have l1 := decDigits_len 18 (u / 10) (by omega)
      have l2 := decDigits_len 18 (u % 10) (by omega)
      obtain ⟨D1, hD1⟩ : ∃ D, Lib.decDigits (u / 10) = D := ⟨_, rfl⟩
      obtain ⟨D2, hD2⟩ : ∃ D, Lib.decDigits (u % 10) = D := ⟨_, rfl⟩
      rw [hD1] at hq hd l1
      rw [hD2] at hr hd l2
      have z1 : (ByteArray.mk D1.toArray).size ≤ 19 := by rw [← size_len]; exact l1
      have z2 : (ByteArray.mk D2.toArray).size ≤ 19 := by rw [← size_len]; exact l2
      rw [show ((u / 10 : Nat) : Int) = (u : Int) / 10 by omega] at hq
      rw [show ((u % 10 : Nat) : Int) = (u : Int) % 10 by omega] at hr
      have Hq := Lib.hid hq
      have Hr := Lib.hid hr
      have Hd := Lib.hid hd
      have d0 : (0 : Int) ≤ u := by omega
      have d1 : ¬ (u : Int) < 10 := by omega
      clear hq hr ih hd hD1 hD2 l1 l2
      go_enter Tryz.func26, Tryz.ntmps26
      go_wp2_with (first
        | (go_at_call 26; refine (Hr.out w1).mono ?_; rintro e w2 ⟨rfl, hb2⟩)
        | (go_at_call 26; refine Hq.out.mono ?_; rintro e w1 ⟨rfl, hb1⟩))
      go_ret
      exact ⟨by rw [Hd.out]; simp [bytes_app], below_on hb1 hb2⟩

set_option maxHeartbeats 400000 in
set_option maxRecDepth 100000 in
theorem refDigits_neg (K : Nat) : ∀ (u : Nat) (w : World), u ≤ K → 1 ≤ u → u ≤ 9223372036854775808 →
    Calls Tryz.prog 26 #[.int .i64 (-(u : Int))] w fun e w' => e = .returned (.string ⟨(45 :: Lib.decDigits u).toArray⟩) ∧ Below w.heap.size w w' := by
  induction K with
  | zero => intro u w hu h1 _; omega
  | succ K ih =>
    intro u w hu h1 hm
    by_cases h : u < 10
    · have hr := refDigit u w h
      have l2 := decDigits_len 18 u (by omega)
      obtain ⟨D2, hD2⟩ : ∃ D, Lib.decDigits u = D := ⟨_, rfl⟩
      rw [hD2] at hr l2 ⊢
      have z2 : (ByteArray.mk D2.toArray).size ≤ 19 := by rw [← size_len]; exact l2
      have z3 : (ByteArray.mk #[45]).size = 1 := rfl
      have d0 : (1 : Int) ≤ u := by omega
      have d1 : (u : Int) < 10 := by omega
      have Hr := Lib.hid hr
      clear ih hr hD2 l2
      go_enter Tryz.func26, Tryz.ntmps26
      go_wp2_with (go_at_call 26; refine Hr.out.mono ?_; rintro e w2 ⟨rfl, hb2⟩)
      go_ret
      exact ⟨by simp [bytes_app], hb2⟩
    · have hq := ih (u / 10) w (by omega) (by omega) (by omega)
      have hr := fun w => refDigit (u % 10) w (by omega)
      have hd := dec_big u h
      have l1 := decDigits_len 18 (u / 10) (by omega)
      have l2 := decDigits_len 18 (u % 10) (by omega)
      obtain ⟨D1, hD1⟩ : ∃ D, Lib.decDigits (u / 10) = D := ⟨_, rfl⟩
      obtain ⟨D2, hD2⟩ : ∃ D, Lib.decDigits (u % 10) = D := ⟨_, rfl⟩
      rw [hD1] at hq hd l1
      rw [hD2] at hr hd l2
      have z1 : (ByteArray.mk (45 :: D1).toArray).size ≤ 20 := by rw [← size_len]; show (45 :: D1).length ≤ 20; simp; omega
      have z2 : (ByteArray.mk D2.toArray).size ≤ 19 := by rw [← size_len]; exact l2
      obtain ⟨q, hqq⟩ : ∃ q : Int, ((u / 10 : Nat) : Int) = q := ⟨_, rfl⟩
      obtain ⟨r, hrr⟩ : ∃ r : Int, ((u % 10 : Nat) : Int) = r := ⟨_, rfl⟩
      rw [hqq] at hq
      rw [hrr] at hr
      have d0 : (0 : Int) ≤ r := by omega
      have d9 : r ≤ 9 := by omega
      have d1 : (10 : Int) ≤ u := by omega
      have d2 : (u : Int) ≤ 9223372036854775808 := by omega
      have e1 : (-(u : Int)).tdiv 10 = -q := by rw [Int.neg_tdiv, Int.tdiv_eq_ediv_of_nonneg (by omega)]; omega
      have e2 : (-(u : Int)).tmod 10 = -r := by rw [Int.neg_tmod, Int.tmod_eq_emod_of_nonneg (by omega)]; omega
      have q0 : (1 : Int) ≤ q := by omega
      have q1 : q ≤ 922337203685477580 := by omega
      have Hq := Lib.hid hq
      have Hr := Lib.hid hr
      have Hd := Lib.hid hd
      clear hq hr ih hd hD1 hD2 l1 l2 hqq hrr
      go_enter Tryz.func26, Tryz.ntmps26
      go_wp2_with (first
        | (go_at_call 26; refine (Hr.out w1).mono ?_; rintro e w2 ⟨rfl, hb2⟩)
        | (go_at_call 26; refine Hq.out.mono ?_; rintro e w1 ⟨rfl, hb1⟩))
      go_ret
      exact ⟨by rw [Hd.out]; simp [bytes_app], below_on hb1 hb2⟩

theorem refDigits_any (n : Int) (w : World) (h0 : -9223372036854775808 ≤ n) (h1 : n ≤ 9223372036854775807) :
    Calls Tryz.prog 26 #[.int .i64 n] w fun e w' => e = .returned (.string ⟨(Lib.itoa n).toArray⟩) ∧ Below w.heap.size w w' := by
  by_cases h : n < 0
  · obtain ⟨m, rfl⟩ : ∃ m : Nat, n = -(m : Int) := ⟨n.natAbs, by omega⟩
    rw [Lib.itoa, if_pos h, show (-(m : Int)).natAbs = m by omega]
    exact refDigits_neg m m w (Nat.le_refl _) (by omega) (by omega)
  · obtain ⟨m, rfl⟩ : ∃ m : Nat, n = (m : Int) := ⟨n.toNat, by omega⟩
    rw [Lib.itoa, if_neg h, Int.toNat_natCast]
    exact refDigits_pos m m w (Nat.le_refl _) (by omega)
end Go.Proofs.YtkbmdmipdcjjcaaGreatDoor
