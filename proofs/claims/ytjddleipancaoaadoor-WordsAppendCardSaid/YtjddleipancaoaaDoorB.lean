/- Contracts of Name and Text, of the program and of the reference. No conditions but the lengths of strings. -/
import Derived.Test.YtjddleipancaoaaDoorA
import Derived.Lib.Strings
import Derived.Lib.Walk
namespace Go.Proofs.YtjddleipancaoaaDoor
open Go.RowKit

def nameC (c : Int) : Bool := letB c || digB c || decide (c = 95)
def nameB (l : List UInt8) : Bool := decide (1 ≤ l.length) && decide (l.length ≤ 16) && letB (l.headD 0).toNat && l.all fun c => nameC c.toNat
def textB (l : List UInt8) : Bool := decide (l.length ≤ 200) && withinB 32 126 l

theorem size_len (s : ByteArray) : s.data.toList.length = s.size := (Lib.size_eq s).symm
theorem toList_data (s : ByteArray) : s.toList = s.data.toList := Lib.toList_data s
theorem toList_nil {s : ByteArray} (h : s.size = 0) : s.toList = [] := by rw [toList_data]; exact List.eq_nil_of_length_eq_zero (by rw [size_len]; exact h)
theorem toList_cons {s : ByteArray} (h : ¬ s.size = 0) : s.toList.isEmpty = false ∧ ¬ s.toList = [] := by
  have : ¬ s.toList = [] := by rw [toList_data]; intro e; have := congrArg List.length e; rw [size_len] at this; exact h (by simpa using this)
  exact ⟨by simpa using this, this⟩
theorem head_eq {s : ByteArray} (h : 0 < s.size) : s.data.toList.headD 0 = s[0] := by
  cases e : s.data.toList with
  | nil => have := congrArg List.length e; rw [size_len] at this; simp at this; rw [this] at h; simp at h
  | cons a t =>
    have : s[0] = s.data.toList[0]'(by rw [size_len]; exact h) := by simp; rfl
    rw [this]; simp [e]
theorem nameB_no {s : ByteArray} (h : s.size = 0 ∨ 16 < s.size) : nameB s.data.toList = false := by
  unfold nameB; rw [size_len]
  rcases h with h | h
  · simp [h]
  · have : ¬ s.size ≤ 16 := by omega
    simp [this]
theorem nameB_first {s : ByteArray} (h : 0 < s.size) (hl : letB s[0].toNat = false) : nameB s.data.toList = false := by
  unfold nameB; rw [head_eq h, hl]; simp
theorem nameB_all {s : ByteArray} (h : 0 < s.size) (h2 : s.size ≤ 16) (hl : letB s[0].toNat = true) : nameB s.data.toList = s.data.toList.all fun c => nameC c.toNat := by
  unfold nameB; rw [head_eq h, hl, size_len]
  have : 1 ≤ s.size := h
  simp [this, h2]

set_option maxHeartbeats 1000000 in
theorem Name_any (s : ByteArray) (w : World) (hs : s.size ≤ maxLen) :
    Calls Tryd.prog 11 #[.string s] w fun e w' => e = .returned (.bool (nameB s.data.toList)) ∧ w = w' := by
  unfold maxLen at hs
  by_cases h0 : s.size = 0
  · have hN := Lib.hid (nameB_no (Or.inl h0))
    have ht := toList_nil h0
    clear h0
    go_enter Tryd.func11, Tryd.ntmps11
    go_wp2
    go_ret
    exact ⟨retB hN.out.symm, rfl⟩
  obtain ⟨ht, ht'⟩ := toList_cons h0
  have h0' : 0 < s.size := by omega
  by_cases h16 : 16 < s.size
  · have hN := Lib.hid (nameB_no (Or.inr h16))
    go_enter Tryd.func11, Tryd.ntmps11
    go_wp2
    go_ret
    exact ⟨retB hN.out.symm, rfl⟩
  by_cases hl : letB s[0].toNat = true
  · have hN := Lib.hid (nameB_all h0' (by omega) hl)
    go_enter Tryd.func11, Tryd.ntmps11
    go_wp2_with (go_at_call 31; refine (isLetter_any _ _).mono ?_; rintro e w' ⟨rfl, rfl⟩)
    go_loop [19] (fun i => ∃ k : Nat, k ≤ s.size ∧ i = .int .i64 k ∧ (s.data.toList.take k).all (fun c => nameC c.toNat) = true) (fun i => s.size - (intOf i).toNat)
    case atStart => exact ⟨0, Nat.zero_le _, rfl, rfl⟩
    case round =>
      obtain ⟨k, hk, rfl, hall⟩ := hrel
      have Hall := Lib.hid hall; clear hall hl
      by_cases hlt : k < s.size
      · by_cases hb : nameC s[k].toNat = true
        · have Hb := Lib.hid hb
          have hc : letB s[k].toNat = true ∨ (letB s[k].toNat = false ∧ digB s[k].toNat = true) ∨ (letB s[k].toNat = false ∧ digB s[k].toNat = false ∧ (s[k].toNat : Int) = 95) := by
            unfold nameC at hb
            cases h1 : letB s[k].toNat <;> cases h2 : digB s[k].toNat <;> simp [h1, h2] at hb ⊢
            omega
          clear hb
          rcases hc with h1 | ⟨h1, h2⟩ | ⟨h1, h2, h3⟩
          all_goals
            go_wp2_with (first
              | (go_at_call 31; refine (isLetter_any _ _).mono ?_; rintro e w' ⟨rfl, rfl⟩)
              | (go_at_call 32; refine (isDigit_any _ _).mono ?_; rintro e w' ⟨rfl, rfl⟩))
            go_round
            case rel => exact ⟨k + 1, by omega, by go_num, all_snoc hlt Hall.out Hb.out⟩
            case measure => simp [intOf]; omega
        · have hb' : nameC s[k].toNat = false := by simpa using hb
          have Hb := Lib.hid hb'
          obtain ⟨h1, h2, h3⟩ : letB s[k].toNat = false ∧ digB s[k].toNat = false ∧ ¬ (s[k].toNat : Int) = 95 := by
            unfold nameC at hb'
            simp at hb'
            exact ⟨hb'.1.1, hb'.1.2, by omega⟩
          clear hb hb'
          go_wp2_with (first
            | (go_at_call 31; refine (isLetter_any _ _).mono ?_; rintro e w' ⟨rfl, rfl⟩)
            | (go_at_call 32; refine (isDigit_any _ _).mono ?_; rintro e w' ⟨rfl, rfl⟩))
          go_ret
          exact ⟨retB (by rw [hN.out]; exact (all_not hlt Hb.out).symm), rfl⟩
      · go_wp2
        go_ret
        exact ⟨retB (by rw [hN.out]; exact (all_end hlt Hall.out).symm), rfl⟩
  · have hl' : letB s[0].toNat = false := by simpa using hl
    have hN := Lib.hid (nameB_first h0' hl')
    clear hl
    go_enter Tryd.func11, Tryd.ntmps11
    go_wp2_with (go_at_call 31; refine (isLetter_any _ _).mono ?_; rintro e w' ⟨rfl, rfl⟩)
    go_ret
    exact ⟨retB hN.out.symm, rfl⟩

theorem textB_yes {s : ByteArray} (h : s.size ≤ 200) : textB s.data.toList = withinB 32 126 s.data.toList := by unfold textB; rw [size_len]; simp [h]
theorem textB_no {s : ByteArray} (h : ¬ s.size ≤ 200) : textB s.data.toList = false := by unfold textB; rw [size_len]; simp; intro; omega

set_option maxHeartbeats 400000 in
theorem Text_any (s : ByteArray) (w : World) (hs : s.size ≤ maxLen) :
    Calls Tryd.prog 13 #[.string s] w fun e w' => e = .returned (.bool (textB s.data.toList)) ∧ w = w' := by
  by_cases h : s.size ≤ 200
  · have hT := Lib.hid (textB_yes h)
    go_enter Tryd.func13, Tryd.ntmps13
    go_wp2_with (go_at_call 35; refine (within_any _ _ _ _ hs).mono ?_; rintro e w' ⟨rfl, rfl⟩)
    go_ret
    exact ⟨retB hT.out.symm, rfl⟩
  · have hT := Lib.hid (textB_no h)
    go_enter Tryd.func13, Tryd.ntmps13
    go_wp2_with (go_at_call 35; refine (within_any _ _ _ _ hs).mono ?_; rintro e w' ⟨rfl, rfl⟩)
    go_ret
    exact ⟨retB hT.out.symm, rfl⟩

set_option maxHeartbeats 1000000 in
theorem refName_any (s : ByteArray) (w : World) (hs : s.size ≤ maxLen) :
    Calls Tryd.prog 12 #[.string s] w fun e w' => e = .returned (.bool (nameB s.data.toList)) ∧ w = w' := by
  unfold maxLen at hs
  by_cases h0 : s.size = 0
  · have hN := Lib.hid (nameB_no (Or.inl h0))
    have h0' : s.size < 1 := by omega
    clear h0
    go_enter Tryd.func12, Tryd.ntmps12
    go_wp2
    go_ret
    exact ⟨retB hN.out.symm, rfl⟩
  have h0' : 0 < s.size := by omega
  by_cases h16 : 16 < s.size
  · have hN := Lib.hid (nameB_no (Or.inr h16))
    go_enter Tryd.func12, Tryd.ntmps12
    go_wp2
    go_ret
    exact ⟨retB hN.out.symm, rfl⟩
  by_cases hl : letB s[0].toNat = true
  · have hN := Lib.hid (nameB_all h0' (by omega) hl)
    go_enter Tryd.func12, Tryd.ntmps12
    go_wp2_with (go_at_call 33; refine (letter_any _ _).mono ?_; rintro e w' ⟨rfl, rfl⟩)
    go_loop [3] (fun i => ∃ k : Nat, k ≤ s.size ∧ i = .int .i64 k ∧ (s.data.toList.take k).all (fun c => nameC c.toNat) = true) (fun i => s.size - (intOf i).toNat)
    case atStart => exact ⟨0, Nat.zero_le _, rfl, rfl⟩
    case round =>
      obtain ⟨k, hk, rfl, hall⟩ := hrel
      have Hall := Lib.hid hall; clear hall hl
      by_cases hlt : k < s.size
      · by_cases hb : nameC s[k].toNat = true
        · have Hb := Lib.hid hb
          have hc : letB s[k].toNat = true ∨ (letB s[k].toNat = false ∧ digB s[k].toNat = true) ∨ (letB s[k].toNat = false ∧ digB s[k].toNat = false ∧ (s[k].toNat : Int) = 95) := by
            unfold nameC at hb
            cases h1 : letB s[k].toNat <;> cases h2 : digB s[k].toNat <;> simp [h1, h2] at hb ⊢
            omega
          clear hb
          rcases hc with h1 | ⟨h1, h2⟩ | ⟨h1, h2, h3⟩
          all_goals
            go_wp2_with (first
              | (go_at_call 33; refine (letter_any _ _).mono ?_; rintro e w' ⟨rfl, rfl⟩)
              | (go_at_call 34; refine (digit_any _ _).mono ?_; rintro e w' ⟨rfl, rfl⟩))
            go_round
            case rel => exact ⟨k + 1, by omega, by go_num, all_snoc hlt Hall.out Hb.out⟩
            case measure => simp [intOf]; omega
        · have hb' : nameC s[k].toNat = false := by simpa using hb
          have Hb := Lib.hid hb'
          obtain ⟨h1, h2, h3⟩ : letB s[k].toNat = false ∧ digB s[k].toNat = false ∧ ¬ (s[k].toNat : Int) = 95 := by
            unfold nameC at hb'
            simp at hb'
            exact ⟨hb'.1.1, hb'.1.2, by omega⟩
          clear hb hb'
          go_wp2_with (first
            | (go_at_call 33; refine (letter_any _ _).mono ?_; rintro e w' ⟨rfl, rfl⟩)
            | (go_at_call 34; refine (digit_any _ _).mono ?_; rintro e w' ⟨rfl, rfl⟩))
          go_ret
          exact ⟨retB (by rw [hN.out]; exact (all_not hlt Hb.out).symm), rfl⟩
      · go_wp2
        go_ret
        exact ⟨retB (by rw [hN.out]; exact (all_end hlt Hall.out).symm), rfl⟩
  · have hl' : letB s[0].toNat = false := by simpa using hl
    have hN := Lib.hid (nameB_first h0' hl')
    clear hl
    go_enter Tryd.func12, Tryd.ntmps12
    go_wp2_with (go_at_call 33; refine (letter_any _ _).mono ?_; rintro e w' ⟨rfl, rfl⟩)
    go_ret
    exact ⟨retB hN.out.symm, rfl⟩

theorem textB_bad {s : ByteArray} {k : Nat} (h : k < s.size) (hp : inB 32 126 s[k].toNat = false) : textB s.data.toList = false := by
  unfold textB withinB; rw [all_not h hp]; simp
theorem textB_end {s : ByteArray} {k : Nat} (h : ¬ k < s.size) (ha : (s.data.toList.take k).all (fun c => inB 32 126 c.toNat) = true) : textB s.data.toList = decide (s.size ≤ 200) := by
  unfold textB withinB; rw [all_end h ha, size_len]; simp

set_option maxHeartbeats 400000 in
theorem refText_any (s : ByteArray) (w : World) (hs : s.size ≤ maxLen) :
    Calls Tryd.prog 14 #[.string s] w fun e w' => e = .returned (.bool (textB s.data.toList)) ∧ w = w' := by
  unfold maxLen at hs
  go_enter Tryd.func14, Tryd.ntmps14
  go_wp2
  go_loop [3] (fun i => ∃ k : Nat, k ≤ s.size ∧ i = .int .i64 k ∧ (s.data.toList.take k).all (fun c => inB 32 126 c.toNat) = true) (fun i => s.size - (intOf i).toNat)
  case atStart => exact ⟨0, Nat.zero_le _, rfl, rfl⟩
  case round =>
    obtain ⟨k, hk, rfl, hall⟩ := hrel
    have Hall := Lib.hid hall; clear hall
    by_cases hlt : k < s.size
    · by_cases hlo : (s[k].toNat : Int) < 32
      · go_wp2
        go_ret
        exact ⟨retB (textB_bad hlt (by simp [inB]; omega)).symm, rfl⟩
      · by_cases hhi : 126 < (s[k].toNat : Int)
        · go_wp2
          go_ret
          exact ⟨retB (textB_bad hlt (by simp [inB]; omega)).symm, rfl⟩
        · go_wp2
          go_round
          case rel => exact ⟨k + 1, by omega, by go_num, all_snoc hlt Hall.out (by simp [inB]; omega)⟩
          case measure => simp [intOf]; omega
    · have hT := Lib.hid (textB_end hlt Hall.out)
      go_wp2
      all_goals
        go_ret
        exact ⟨retB (by rw [hT.out]; first | rfl | (simp; omega)), rfl⟩
end Go.Proofs.YtjddleipancaoaaDoor
