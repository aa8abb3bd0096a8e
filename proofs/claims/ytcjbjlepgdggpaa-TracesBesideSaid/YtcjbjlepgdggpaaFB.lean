/- Words of stitches: Check of layer 3, the program's and the reference's, walked. -/
import Derived.Test.YtcjbjlepgdggpaaFA
namespace Go.Proofs.Ytcjbjlepgdggpaa
open Go.RowKit Go.Lib
def lettersP : ByteArray := ⟨#[67, 76, 82, 84, 80, 99, 108, 114, 116]⟩
def lettersR : ByteArray := ⟨#[67, 84, 76, 82, 80, 99, 116, 108, 114]⟩
/-- A letter of a word of moves. -/
def isLt (c : UInt8) : Bool := [67, 76, 82, 84, 80, 99, 108, 114, 116].contains c
/-- The error of a word. -/
def stV (s : ByteArray) : Int := if 16 < s.size then 3 else if s.data.toList.all isLt = true then 0 else 6
theorem firstP (c : UInt8) : firstIdx lettersP c < 0 ↔ isLt c = false := by
  have h : ∀ n : Fin 256, (decide (firstIdx lettersP (UInt8.ofNat n.val) < 0)) = !isLt (UInt8.ofNat n.val) := by decide +kernel
  have h2 := h ⟨c.toNat, c.toNat_lt⟩
  simp only [UInt8.ofNat_toNat] at h2
  rw [← decide_eq_true_iff (p := firstIdx lettersP c < 0), h2]
  simp
theorem run_ibs (c : Int) (w : World) : (callFunc 97 #[.string lettersP, .int .u8 c]).run Try.prog w = .ok (.value (.int .i64 (firstIdx lettersP c.toNat.toUInt8))) w := by
  rw [run_callFunc_indexByte Try.func97 (by kernel_rfl) (by kernel_rfl) (by kernel_rfl) (by kernel_rfl), run_indexByte_string]
  rfl
set_option maxHeartbeats 400000 in
theorem ibL_any (c : UInt8) (w : World) :
    Calls Try.prog 96 #[.string lettersP, .int .u8 (c.toNat : Int)] w fun e w' => e = .returned (.int .i64 (firstIdx lettersP c)) ∧ w' = w := by
  have h := fun w => run_ibs (c.toNat : Int) w
  rw [show ((c.toNat : Int)).toNat.toUInt8 = c by simp] at h
  go_enter Try.func96, Try.ntmps96
  go_wp2_with fail
  go_ret
  exact ⟨rfl, rfl⟩
set_option maxHeartbeats 400000 in
theorem ibS_any (c : UInt8) (w : World) :
    Calls Try.prog 94 #[.string lettersP, .int .u8 (c.toNat : Int)] w fun e w' => e = .returned (.int .i64 (firstIdx lettersP c)) ∧ w' = w := by
  go_enter Try.func94, Try.ntmps94
  go_wp2_with fail
  refine (ibL_any c w).mono ?_
  rintro e w1 ⟨rfl, rfl⟩
  go_wp2_with fail
  go_ret
  exact ⟨rfl, rfl⟩
theorem toList_all {s : ByteArray} {k : Nat} (h : k < s.size) (ha : (s.data.toList.take k).all isLt = true) (hp : isLt s[k] = true) : (s.data.toList.take (k + 1)).all isLt = true := by
  rw [List.take_succ_eq_append_getElem (by simpa using h), List.all_append, ha]
  simp only [List.all_cons, List.all_nil, Bool.and_true, Bool.true_and]
  exact hp
theorem toList_not {s : ByteArray} {k : Nat} (h : k < s.size) (hp : isLt s[k] = false) : s.data.toList.all isLt = false := by
  rw [List.all_eq_false]; exact ⟨s[k], Array.getElem_mem_toList h, by simp [hp]⟩
theorem toList_end {s : ByteArray} {k : Nat} (h : ¬ k < s.size) (ha : (s.data.toList.take k).all isLt = true) : s.data.toList.all isLt = true := by
  rw [List.take_of_length_le (by simp; omega)] at ha; exact ha
set_option maxHeartbeats 400000 in
theorem stCheck_any (s : ByteArray) (w : World) (_ : s.size ≤ maxLen) :
    Calls Try.prog 80 #[.string s] w fun e w' => e = .returned (.int .i64 (stV s)) ∧ w' = w := by
  by_cases hl : 16 < s.size
  · have e0 : stV s = 3 := if_pos hl
    have h1 : (16 : Int) < (s.size : Int) := by omega
    rw [e0]
    clear e0
    go_enter Try.func80, Try.ntmps80
    go_wp2_with fail
    go_ret
    exact ⟨rfl, rfl⟩
  · have e0 : stV s = if s.data.toList.all isLt = true then 0 else 6 := if_neg hl
    have h1 : ¬ (16 : Int) < (s.size : Int) := by omega
    have Z1 := Lib.hid (show s.data.toList.all isLt = true → stV s = 0 from fun h => by rw [e0, if_pos h])
    have Z2 := Lib.hid (show s.data.toList.all isLt = false → stV s = 6 from fun h => by rw [e0, h]; rfl)
    generalize stV s = z at *
    clear e0
    go_enter Try.func80, Try.ntmps80
    go_wp2_with fail
    go_loop [9] (fun i => ∃ k : Nat, k ≤ s.size ∧ i = .int .i64 k ∧ (s.data.toList.take k).all isLt = true) (fun i => s.size - (intOf i).toNat)
    case atStart => exact ⟨0, Nat.zero_le _, rfl, rfl⟩
    case round =>
      obtain ⟨k, hk, rfl, hall⟩ := hrel
      have Hall := Lib.hid hall; clear hall
      by_cases hlt : k < s.size
      · have CI := Lib.hid (fun w => ibS_any s[k] w)
        have hf := firstP s[k]
        by_cases hc : isLt s[k] = true
        · have hz : ¬ firstIdx lettersP s[k] < 0 := fun h => by rw [hf.1 h] at hc; cases hc
          have Hc := Lib.hid hc
          clear hf hc
          go_wp2_with (go_at_call 94; refine (CI.out _).mono ?_; rintro e w1 ⟨rfl, rfl⟩)
          go_round
          case rel => exact ⟨k + 1, by omega, by go_num, toList_all hlt Hall.out Hc.out⟩
          case measure => simp [intOf]; omega
        · have hc' : isLt s[k] = false := by simpa using hc
          have hz : firstIdx lettersP s[k] < 0 := hf.2 hc'
          have Hn := Lib.hid (toList_not hlt hc')
          clear hf hc hc'
          go_wp2_with (go_at_call 94; refine (CI.out _).mono ?_; rintro e w1 ⟨rfl, rfl⟩)
          go_ret
          exact ⟨by rw [Z2.out Hn.out]; rfl, rfl⟩
      · go_wp2_with fail
        go_ret
        exact ⟨by rw [Z1.out (toList_end hlt Hall.out)]; rfl, rfl⟩
end Go.Proofs.Ytcjbjlepgdggpaa
