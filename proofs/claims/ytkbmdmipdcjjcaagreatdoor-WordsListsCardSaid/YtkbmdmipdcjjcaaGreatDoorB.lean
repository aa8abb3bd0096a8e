/- Contracts of Name and Text, of the program and of the reference. No conditions but the lengths of strings. -/
import Derived.Test.YtkbmdmipdcjjcaaGreatDoorA
import Derived.Lib.Strings
import Derived.Lib.Walk
namespace Go.Proofs.YtkbmdmipdcjjcaaGreatDoor
open Go.RowKit

def nameC (c : Int) : Bool := letB c || digB c || decide (c = 95)
def nameB (l : List UInt8) : Bool := decide (1 ≤ l.length) && decide (l.length ≤ 16) && letB (l.headD 0).toNat && l.all fun c => nameC c.toNat
def textB (l : List UInt8) : Bool := decide (l.length ≤ 200) && withinB 32 126 l

theorem size_len (s : ByteArray) : s.data.toList.length = s.size := (Lib.size_eq s).symm
theorem toList_data (s : ByteArray) : s.toList = s.data.toList := Lib.toList_data s
theorem toList_nil {s : ByteArray} (h : s.size = 0) : s.toList = [] := by rw [toList_data]; exact List.eq_nil_of_length_eq_zero (by rw [size_len]; exact h)
theorem toList_cons {s : ByteArray} (h : ¬ s.size = 0) : s.toList.isEmpty = false ∧ ¬ s.toList = [] := by
  have : ¬ s.toList = [] := by rw [toList_data]; intro e; have := congrArg List.length e; rw [size_len] at this; exact h (by simpa using this)
  exact ⟨by simpa using this, this⟩
theorem head_eq {s : ByteArray} (h : 0 < s.size) : s.data.toList.headD 0 = s[0] := by
  cases e : s.data.toList with
  | nil => have := congrArg List.length e; rw [size_len] at this; simp at this; rw [this] at h; simp at h
  | cons a t =>
    have : s[0] = s.data.toList[0]'(by rw [size_len]; exact h) := by simp; rfl
    rw [this]; simp [e]
theorem nameB_no {s : ByteArray} (h : s.size = 0 ∨ 16 < s.size) : nameB s.data.toList = false := by
  unfold nameB; rw [size_len]
  rcases h with h | h
  · simp [h]
  · have : ¬ s.size ≤ 16 := by omega
    simp [this]
theorem nameB_first {s : ByteArray} (h : 0 < s.size) (hl : letB s[0].toNat = false) : nameB s.data.toList = false := by
  unfold nameB; rw [head_eq h, hl]; simp
theorem nameB_all {s : ByteArray} (h : 0 < s.size) (h2 : s.size ≤ 16) (hl : letB s[0].toNat = true) : nameB s.data.toList = s.data.toList.all fun c => nameC c.toNat := by
  unfold nameB; rw [head_eq h, hl, size_len]
  have : 1 ≤ s.size := h
  simp [this, h2]

theorem textB_yes {s : ByteArray} (h : s.size ≤ 200) : textB s.data.toList = withinB 32 126 s.data.toList := by unfold textB; rw [size_len]; simp [h]
theorem textB_no {s : ByteArray} (h : ¬ s.size ≤ 200) : textB s.data.toList = false := by unfold textB; rw [size_len]; simp; intro; omega

set_option maxHeartbeats 400000 in
theorem Text_any (s : ByteArray) (w : World) (hs : s.size ≤ maxLen) :
    Calls Tryz.prog 39 #[.string s] w fun e w' => e = .returned (.bool (textB s.data.toList)) ∧ w = w' := by
  by_cases h : s.size ≤ 200
  · have hT := Lib.hid (textB_yes h)
    go_enter Tryz.func39, Tryz.ntmps39
    go_wp2_with (go_at_call 57; refine (within_any _ _ _ _ hs).mono ?_; rintro e w' ⟨rfl, rfl⟩)
    go_ret
    exact ⟨retB hT.out.symm, rfl⟩
  · have hT := Lib.hid (textB_no h)
    go_enter Tryz.func39, Tryz.ntmps39
    go_wp2_with (go_at_call 57; refine (within_any _ _ _ _ hs).mono ?_; rintro e w' ⟨rfl, rfl⟩)
    go_ret
    exact ⟨retB hT.out.symm, rfl⟩

theorem textB_bad {s : ByteArray} {k : Nat} (h : k < s.size) (hp : inB 32 126 s[k].toNat = false) : textB s.data.toList = false := by
  unfold textB withinB; rw [all_not h hp]; simp
theorem textB_end {s : ByteArray} {k : Nat} (h : ¬ k < s.size) (ha : (s.data.toList.take k).all (fun c => inB 32 126 c.toNat) = true) : textB s.data.toList = decide (s.size ≤ 200) := by
  unfold textB withinB; rw [all_end h ha, size_len]; simp

set_option maxHeartbeats 400000 in
theorem refText_any (s : ByteArray) (w : World) (hs : s.size ≤ maxLen) :
    Calls Tryz.prog 55 #[.string s] w fun e w' => e = .returned (.bool (textB s.data.toList)) ∧ w = w' := by
  unfold maxLen at hs
  go_enter Tryz.func55, Tryz.ntmps55
  go_wp2
  go_loop [3] (fun i => ∃ k : Nat, k ≤ s.size ∧ i = .int .i64 k ∧ (s.data.toList.take k).all (fun c => inB 32 126 c.toNat) = true) (fun i => s.size - (intOf i).toNat)
  case atStart => exact ⟨0, Nat.zero_le _, rfl, rfl⟩
  case round =>
    obtain ⟨k, hk, rfl, hall⟩ := hrel
    have Hall := Lib.hid hall; clear hall
    by_cases hlt : k < s.size
    · by_cases hlo : (s[k].toNat : Int) < 32
      · go_wp2
        go_ret
        exact ⟨retB (textB_bad hlt (by simp [inB]; omega)).symm, rfl⟩
      · by_cases hhi : 126 < (s[k].toNat : Int)
        · go_wp2
          go_ret
          exact ⟨retB (textB_bad hlt (by simp [inB]; omega)).symm, rfl⟩
        · go_wp2
          go_round
          case rel => exact ⟨k + 1, by omega, by go_num, all_snoc hlt Hall.out (by simp [inB]; omega)⟩
          case measure => simp [intOf]; omega
    · have hT := Lib.hid (textB_end hlt Hall.out)
      go_wp2
      all_goals
        go_ret
        exact ⟨retB (by rw [hT.out]; first | rfl | (simp; omega)), rfl⟩
end Go.Proofs.YtkbmdmipdcjjcaaGreatDoor
