/- The reference's end of a field, and its test of a field. -/
import Derived.Test.YtjddleipancaoaaGreatDoorSA
namespace Go.Proofs.YtjddleipancaoaaGreatDoor
open Go.RowKit

theorem drop_nil {s : ByteArray} {j : Nat} (h : ¬ j < s.size) : s.data.toList.drop j = [] := List.drop_eq_nil_of_le (by rw [size_len]; omega)
theorem qend_34 {c : UInt8} (hc : c ≠ 34) (r : List UInt8) : qend (34 :: c :: r) = 1 := by simp [qend, hc]
theorem qend_3434 (r : List UInt8) : qend (34 :: 34 :: r) = 2 + qend r := by simp [qend]
theorem bend_ne {b : UInt8} (hb : b ≠ 32) (r : List UInt8) : bend (b :: r) = 1 + bend r := by simp [bend, hb]
theorem byte32 {b : UInt8} (h : (b.toNat : Int) = 32) : b = 32 := UInt8.toNat.inj (by show _ = 32; omega)
theorem byte_not32 {b : UInt8} (h : ¬ (b.toNat : Int) = 32) : b ≠ 32 := fun e => h (by rw [e]; rfl)
theorem retN {a b : Nat} (h : a = b) : Ending.returned (.int .i64 (a : Int)) = .returned (.int .i64 (b : Int)) := by rw [h]
theorem retI {a b : Int} (h : a = b) : Ending.returned (.int .i64 a) = .returned (.int .i64 b) := by rw [h]

set_option maxHeartbeats 1000000 in
theorem refEnd_any (s : ByteArray) (k : Nat) (w : World) (hk : k < s.size) (hs : s.size ≤ 1000000) :
    Calls Tryz.prog 30 #[.string s, .int .i64 k] w fun e w' => e = .returned (.int .i64 ((k + endL (s.data.toList.drop k) : Nat) : Int)) ∧ w = w' := by
  obtain ⟨E, hE⟩ : ∃ E, k + endL (s.data.toList.drop k) = E := ⟨_, rfl⟩
  rw [hE]
  rw [drop_at hk] at hE
  by_cases hq : ((s[k]'hk).toNat : Int) = 34
  · have hq' : (((s[k]'hk).toNat : Int) == 34) = true := by simpa using hq
    rw [byte_eq hq] at hE
    have hE2 : k + 1 + qend (s.data.toList.drop (k + 1)) = E := by simp only [endL, if_true] at hE; omega
    have HE := Lib.hid hE2
    clear hE hE2 hq
    go_enter Tryz.func30, Tryz.ntmps30
    go_wp2_with fail
    go_loop [6] (fun i => ∃ j : Nat, k + 1 ≤ j ∧ j ≤ s.size ∧ i = .int .i64 j ∧ j + qend (s.data.toList.drop j) = E) (fun i => s.size - (intOf i).toNat)
    case atStart => exact ⟨k + 1, Nat.le_refl _, hk, by go_num, HE.out⟩
    case round =>
      obtain ⟨j, hj1, hj2, rfl, hrel⟩ := hrel
      have Hrel := Lib.hid hrel
      clear hrel
      by_cases hlt : j < s.size
      · have hd := drop_at hlt
        have Hd := Lib.hid hd
        clear hd
        by_cases hb : ((s[j]'hlt).toNat : Int) = 34
        · have Hb := Lib.hid (byte_eq hb)
          have hb' : (((s[j]'hlt).toNat : Int) == 34) = true := by simpa using hb
          by_cases he : j + 1 = s.size
          · have hfin : E = s.size := by
              have := Hrel.out
              rw [Hd.out, Hb.out, drop_nil (by omega)] at this
              simp only [qend, if_true] at this
              omega
            have Hfin := Lib.hid hfin
            clear hfin
            go_wp2_with fail
            go_ret
            exact ⟨by rw [Hfin.out]; rfl, rfl⟩
          · have hlt2 : j + 1 < s.size := by omega
            have hd2 := drop_at hlt2
            have Hd2 := Lib.hid hd2
            clear hd2
            by_cases hc : ((s[j + 1]'hlt2).toNat : Int) = 34
            · have Hc := Lib.hid (byte_eq hc)
              have hc' : (((s[j + 1]'hlt2).toNat : Int) != 34) = false := by simpa using hc
              go_wp2_with fail
              go_round
              case rel => exact ⟨j + 1 + 1, by omega, by omega, by go_num, by have := Hrel.out; rw [Hd.out, Hb.out, Hd2.out, Hc.out, qend_3434] at this; omega⟩
              case measure => simp [intOf]; omega
            · have hc' : (((s[j + 1]'hlt2).toNat : Int) != 34) = true := by simpa using hc
              have hfin : E = j + 1 := by
                have := Hrel.out
                rw [Hd.out, Hb.out, Hd2.out, qend_34 (byte_ne hc)] at this
                omega
              have Hfin := Lib.hid hfin
              clear hfin
              go_wp2_with fail
              go_ret
              exact ⟨by rw [Hfin.out]; rfl, rfl⟩
        · have hb' : (((s[j]'hlt).toNat : Int) == 34) = false := by simpa using hb
          have hstep := qend_ne (byte_ne hb) (s.data.toList.drop (j + 1))
          have Hstep := Lib.hid hstep
          clear hstep
          go_wp2_with fail
          go_round
          case rel => exact ⟨j + 1, by omega, by omega, by go_num, by have := Hrel.out; rw [Hd.out, Hstep.out] at this; omega⟩
          case measure => simp [intOf]; omega
      · have hfin : E = s.size := by
          have := Hrel.out
          rw [drop_nil hlt] at this
          simp only [qend] at this
          omega
        have Hfin := Lib.hid hfin
        clear hfin
        go_wp2_with fail
        go_ret
        exact ⟨by rw [Hfin.out]; rfl, rfl⟩
  · have hq' : (((s[k]'hk).toNat : Int) == 34) = false := by simpa using hq
    have hE2 : k + bend (s.data.toList.drop k) = E := by
      rw [drop_at hk]
      simp only [endL, if_neg (byte_ne hq)] at hE
      exact hE
    have HE := Lib.hid hE2
    clear hE hE2 hq
    go_enter Tryz.func30, Tryz.ntmps30
    go_wp2_with fail
    go_loop [6] (fun i => ∃ j : Nat, k ≤ j ∧ j ≤ s.size ∧ i = .int .i64 j ∧ j + bend (s.data.toList.drop j) = E) (fun i => s.size - (intOf i).toNat)
    case atStart => exact ⟨k, Nat.le_refl _, by omega, rfl, HE.out⟩
    case round =>
      obtain ⟨j, hj1, hj2, rfl, hrel⟩ := hrel
      have Hrel := Lib.hid hrel
      clear hrel
      by_cases hlt : j < s.size
      · have hd := drop_at hlt
        have Hd := Lib.hid hd
        clear hd
        by_cases hb : ((s[j]'hlt).toNat : Int) = 32
        · have hb' : (((s[j]'hlt).toNat : Int) == 32) = true := by simpa using hb
          have hfin : E = j := by
            have := Hrel.out
            rw [Hd.out, byte32 hb] at this
            simp only [bend, if_true] at this
            omega
          have Hfin := Lib.hid hfin
          clear hfin
          go_wp2_with fail
          go_ret
          exact ⟨by rw [Hfin.out]; rfl, rfl⟩
        · have hb' : (((s[j]'hlt).toNat : Int) == 32) = false := by simpa using hb
          have hstep := bend_ne (byte_not32 hb) (s.data.toList.drop (j + 1))
          have Hstep := Lib.hid hstep
          clear hstep
          go_wp2_with fail
          go_round
          case rel => exact ⟨j + 1, by omega, by omega, by go_num, by have := Hrel.out; rw [Hd.out, Hstep.out] at this; omega⟩
          case measure => simp [intOf]; omega
      · have hfin : E = s.size := by
          have := Hrel.out
          rw [drop_nil hlt] at this
          simp only [bend] at this
          omega
        have Hfin := Lib.hid hfin
        clear hfin
        go_wp2_with fail
        go_ret
        exact ⟨by rw [Hfin.out]; rfl, rfl⟩

theorem any_snoc {p : UInt8 → Bool} {s : ByteArray} {k : Nat} (h : k < s.size) (ha : (s.data.toList.take k).any p = false) (hp : p s[k] = false) : (s.data.toList.take (k + 1)).any p = false := by
  rw [take_snoc s k h, List.any_append, ha]; simp [hp]
theorem any_hit {p : UInt8 → Bool} {s : ByteArray} {k : Nat} (h : k < s.size) (hp : p s[k] = true) : s.data.toList.any p = true := by
  rw [List.any_eq_true]; exact ⟨s[k], Array.getElem_mem_toList h, hp⟩
theorem any_end {p : UInt8 → Bool} {s : ByteArray} {k : Nat} (h : ¬ k < s.size) (ha : (s.data.toList.take k).any p = false) : s.data.toList.any p = false := by
  rw [List.take_of_length_le (by rw [size_len]; omega)] at ha; exact ha

set_option maxHeartbeats 1000000 in
theorem refRight_any (q : Bool) (s : ByteArray) (w : World) (hs : s.size ≤ maxLen) :
    Calls Tryz.prog 32 #[.agg #[.bool q, .string s]] w fun e w' => e = .returned (.bool (rightB (q, s.data.toList))) ∧ w' = w.alloc (.cells #[.bool q, .string s] 46) := by
  have hT := fun w => refText_any s w hs
  unfold maxLen at hs
  cases q with
  | true =>
    go_enter Tryz.func32, Tryz.ntmps32
    go_wp2_with (go_at_call 55; refine (hT _).mono ?_; rintro e w' ⟨rfl, rfl⟩)
    go_ret
    exact ⟨rfl, rfl⟩
  | false =>
    by_cases h0 : s.size = 0
    · have hN : rightB (false, s.data.toList) = false := by
        have : s.data.toList = [] := List.eq_nil_of_length_eq_zero (by rw [size_len]; exact h0)
        rw [this]; rfl
      rw [hN]
      clear hN
      go_enter Tryz.func32, Tryz.ntmps32
      go_wp2_with fail
      go_ret
      exact ⟨rfl, rfl⟩
    · have hne : s.data.toList.isEmpty = false := by
        cases e : s.data.toList with
        | nil => have := size_len s; rw [e] at this; exact absurd this.symm h0
        | cons a r => rfl
      obtain ⟨T, hTT⟩ : ∃ T, textB s.data.toList = T := ⟨_, rfl⟩
      have hbad : s.data.toList.any (fun b => b == 32 || b == 34) = true → rightB (false, s.data.toList) = false := fun h => by unfold rightB; simp [h]
      have hgood : s.data.toList.any (fun b => b == 32 || b == 34) = false → rightB (false, s.data.toList) = T := fun h => by unfold rightB; simp [h, hne, hTT]
      rw [hTT] at hT
      have HT := Lib.hid hT
      have Hbad := Lib.hid hbad
      have Hgood := Lib.hid hgood
      obtain ⟨R, hR⟩ : ∃ R, rightB (false, s.data.toList) = R := ⟨_, rfl⟩
      have HR := Lib.hid hR
      rw [hR]
      clear hT hbad hgood hne hTT hR
      go_enter Tryz.func32, Tryz.ntmps32
      go_wp2_with fail
      go_loop [3] (fun i => ∃ k : Nat, k ≤ s.size ∧ i = .int .i64 k ∧ (s.data.toList.take k).any (fun b => b == 32 || b == 34) = false) (fun i => s.size - (intOf i).toNat)
      case atStart => exact ⟨0, Nat.zero_le _, rfl, rfl⟩
      case round =>
        obtain ⟨k, hk, rfl, hany⟩ := hrel
        have Hany := Lib.hid hany
        clear hany
        by_cases hlt : k < s.size
        · by_cases h32 : ((s[k]'hlt).toNat : Int) = 32
          · have h32' : (((s[k]'hlt).toNat : Int) == 32) = true := by simpa using h32
            have hx := Hbad.out (any_hit hlt (by rw [byte32 h32]; rfl))
            have HX := Lib.hid hx
            clear hx
            go_wp2_with fail
            go_ret
            exact ⟨retB (by rw [← HR.out, HX.out]), rfl⟩
          · have h32' : (((s[k]'hlt).toNat : Int) == 32) = false := by simpa using h32
            by_cases h34 : ((s[k]'hlt).toNat : Int) = 34
            · have h34' : (((s[k]'hlt).toNat : Int) == 34) = true := by simpa using h34
              have hx := Hbad.out (any_hit hlt (by rw [byte_eq h34]; rfl))
              have HX := Lib.hid hx
              clear hx
              go_wp2_with fail
              go_ret
              exact ⟨retB (by rw [← HR.out, HX.out]), rfl⟩
            · have h34' : (((s[k]'hlt).toNat : Int) == 34) = false := by simpa using h34
              have hnx := any_snoc (p := fun b => b == 32 || b == 34) hlt Hany.out (by simp [byte_not32 h32, byte_ne h34])
              have HN := Lib.hid hnx
              clear hnx
              go_wp2_with fail
              go_round
              case rel => exact ⟨k + 1, by omega, by go_num, HN.out⟩
              case measure => simp [intOf]; omega
        · have hx := Hgood.out (any_end hlt Hany.out)
          have HX := Lib.hid hx
          clear hx
          go_wp2_with (go_at_call 55; refine (HT.out _).mono ?_; rintro e w' ⟨rfl, rfl⟩)
          go_ret
          exact ⟨retB (by rw [← HR.out, HX.out]), rfl⟩
end Go.Proofs.YtjddleipancaoaaGreatDoor
