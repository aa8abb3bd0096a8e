/- The reference's test of a whole number. -/
import Derived.Test.YtkbmdmipdcjjcaaGreatDoorNA
namespace Go.Proofs.YtkbmdmipdcjjcaaGreatDoor
open Go.RowKit

def wholeB (l : List UInt8) : Bool := numB (Lib.trimPrefix l [45]) && !decide (l = [45, 48])
theorem drop_len (s : ByteArray) (f : Nat) : (s.data.toList.drop f).length = s.size - f := by rw [List.length_drop, size_len]
theorem sdrop_at (s : ByteArray) (f j : Nat) (h : f + j < s.size) : (s.data.toList.drop f)[j]'(by rw [drop_len]; omega) = s[f + j] := by
  rw [List.getElem_drop]
  simp
  rfl
theorem wh_bad (s : ByteArray) (f k : Nat) (hf : f ≤ k) (h : k < s.size) (hd : digB s[k].toNat = false) : numB (s.data.toList.drop f) = false := by
  have hw : withinB 48 57 (s.data.toList.drop f) = false := by
    unfold withinB
    rw [List.all_eq_false]
    refine ⟨s[k], ?_, by unfold inB; unfold digB at hd; simpa using hd⟩
    have := sdrop_at s f (k - f) (by omega)
    have e : f + (k - f) = k := by omega
    simp only [e] at this
    rw [← this]
    exact List.getElem_mem _
  unfold numB
  rw [hw]
  simp
theorem wh_all (s : ByteArray) (f : Nat) (h : ∀ j (hj : j < s.size), f ≤ j → digB s[j].toNat = true) : withinB 48 57 (s.data.toList.drop f) = true := by
  unfold withinB
  rw [List.all_eq_true]
  intro x hx
  obtain ⟨i, hi, rfl⟩ := List.getElem_of_mem hx
  have hi2 := hi
  rw [drop_len] at hi2
  rw [sdrop_at s f i (by omega)]
  exact h (f + i) (by omega) (by omega)
theorem wh_nil (s : ByteArray) (f : Nat) (h : s.size = f) : numB (s.data.toList.drop f) = false := by
  rw [List.drop_eq_nil_of_le (by rw [size_len]; omega)]; rfl
theorem wh_cons (s : ByteArray) (f : Nat) (h : f < s.size) : s.data.toList.drop f = s[f] :: s.data.toList.drop (f + 1) := by
  rw [List.drop_eq_getElem_cons (by rw [size_len]; exact h)]
  congr 1
theorem wh_zero (s : ByteArray) (f : Nat) (h : f + 1 < s.size) (hz : (s[f].toNat : Int) = 48) : numB (s.data.toList.drop f) = false := by
  have hz' : s[f] = 48 := UInt8.toNat.inj (by show _ = 48; omega)
  have h1 : s.data.toList.drop (f + 1) ≠ [] := fun e => by have := drop_len s (f + 1); rw [e] at this; simp at this; omega
  unfold numB
  rw [wh_cons s f (by omega), hz']
  simp [h1]
theorem wh_one (s : ByteArray) (f : Nat) (h : f + 1 = s.size) (hw : withinB 48 57 (s.data.toList.drop f) = true) : numB (s.data.toList.drop f) = true := by
  have h1 : s.data.toList.drop (f + 1) = [] := List.drop_eq_nil_of_le (by rw [size_len]; omega)
  unfold numB
  rw [hw, wh_cons s f (by omega), h1]
  by_cases hz : s[f]'(by omega) = 48 <;> simp [hz]
theorem wh_nz (s : ByteArray) (f : Nat) (h : f < s.size) (hz : ¬ (s[f].toNat : Int) = 48) (hw : withinB 48 57 (s.data.toList.drop f) = true) : numB (s.data.toList.drop f) = true := by
  have hz' : s[f] ≠ 48 := fun e => hz (by rw [e]; rfl)
  unfold numB
  rw [hw, wh_cons s f h]
  simp [hz']
theorem wh_first (s : ByteArray) (h : 0 < s.size) (hz : (s[0].toNat : Int) = 45) : Lib.trimPrefix s.data.toList [45] = s.data.toList.drop 1 := by
  have hz' : s[0] = 45 := UInt8.toNat.inj (by show _ = 45; omega)
  have := wh_cons s 0 h
  rw [List.drop_zero] at this
  rw [trim_neg, this, hz']
  simp
theorem wh_plain (s : ByteArray) (h : ∀ h : 0 < s.size, ¬ (s[0].toNat : Int) = 45) : Lib.trimPrefix s.data.toList [45] = s.data.toList.drop 0 := by
  rw [trim_neg]
  by_cases h0 : 0 < s.size
  · have := wh_cons s 0 h0
    rw [List.drop_zero] at this ⊢
    have hz' : s[0] ≠ 45 := fun e => h h0 (by rw [e]; rfl)
    rw [this]
    simp [hz']
  · have : s.data.toList = [] := List.eq_nil_of_length_eq_zero (by rw [size_len]; omega)
    rw [this]; rfl

set_option maxHeartbeats 400000 in
theorem whole_neg (s : ByteArray) (w : World) (hs : s.size ≤ maxLen) (hp : 0 < s.size) (hn : ((s[0]'hp).toNat : Int) = 45) :
    Calls Tryz.prog 47 #[.string s] w fun e w' => e = .returned (.bool (numB (s.data.toList.drop 1) && !decide (s.data.toList = [45, 48]))) ∧ w = w' := by
  unfold maxLen at hs
  obtain ⟨R, hR⟩ : ∃ R, (numB (s.data.toList.drop 1) && !decide (s.data.toList = [45, 48])) = R := ⟨_, rfl⟩
  rw [hR]
  have HR := Lib.hid hR
  clear hR
  go_enter Tryz.func47, Tryz.ntmps47
  go_wp2_with fail
  go_loop [4] (fun i => ∃ k : Nat, 1 ≤ k ∧ k ≤ s.size ∧ i = .int .i64 k ∧ ∀ j (hj : j < s.size), 1 ≤ j → j < k → digB s[j].toNat = true) (fun i => s.size - (intOf i).toNat)
  case atStart => exact ⟨1, by omega, by omega, rfl, fun j _ h1 h2 => by omega⟩
  case round =>
    obtain ⟨k, hfk, hk, rfl, hall⟩ := hrel
    have Hall := Lib.hid hall
    clear hall
    by_cases hlt : k < s.size
    · cases hd : digB (s[k]'hlt).toNat with
      | true =>
        go_wp2_with (go_at_call 48; refine (digit_any _ _).mono ?_; rw [hd]; rintro e w' ⟨rfl, rfl⟩)
        go_round
        case rel => exact ⟨k + 1, by omega, by omega, by go_num, fun j hj h1 h2 => if e : j = k then (by subst e; exact hd) else Hall.out j hj h1 (by omega)⟩
        case measure => simp [intOf]; omega
      | false =>
        have hb := wh_bad s 1 k hfk hlt hd
        have HB := Lib.hid hb
        clear hb
        go_wp2_with (go_at_call 48; refine (digit_any _ _).mono ?_; rw [hd]; rintro e w' ⟨rfl, rfl⟩)
        go_ret
        exact ⟨retB (by rw [← HR.out, HB.out]; rfl), rfl⟩
    · have hw := wh_all s 1 fun j hj h1 => Hall.out j hj h1 (by omega)
      have hks : k = s.size := by omega
      subst hks
      by_cases he : s.size = 1
      · have hb := wh_nil s 1 he
        have HB := Lib.hid hb
        clear hb hw
        go_wp2_with fail
        go_ret
        exact ⟨retB (by rw [← HR.out, HB.out]; rfl), rfl⟩
      · have hf : 1 < s.size := by omega
        have he' : (((s.size : Int)) == 1) = false := beq_eq_false_iff_ne.2 (by omega)
        have hf' : (1 : Int) < s.size := by omega
        by_cases hz : ((s[1]'hf).toNat : Int) = 48
        · by_cases h1 : 1 + 1 < s.size
          · have hb := wh_zero s 1 h1 hz
            have n1 : (1 + 1 : Int) < s.size := by omega
            have HB := Lib.hid hb
            clear hb hw
            go_wp2_with fail
            go_ret
            exact ⟨retB (by rw [← HR.out, HB.out]; rfl), rfl⟩
          · have hb := wh_one s 1 (by omega) hw
            have n1 : (s.size : Int) = 1 + 1 := by omega
            have n2 : ¬ (1 + 1 : Int) < s.size := by omega
            have HB := Lib.hid hb
            clear hb hw
            cases hm : decide (s.data.toList = [45, 48]) with
            | true =>
              have hm' : (s.toList == [45, 48]) = true := by rw [toList_data, of_decide_eq_true hm]; rfl
              have hm2 : s.toList = [45, 48] := by rw [toList_data, of_decide_eq_true hm]
              have HM := Lib.hid hm
              clear hm
              go_wp2_with fail
              go_ret
              exact ⟨retB (by rw [← HR.out, HB.out, HM.out]; rfl), rfl⟩
            | false =>
              have hm' : (s.toList == [45, 48]) = false := by rw [toList_data, beq_eq_false_iff_ne]; exact of_decide_eq_false hm
              have hm2 : ¬ s.toList = [45, 48] := by rw [toList_data]; exact of_decide_eq_false hm
              have HM := Lib.hid hm
              clear hm
              go_wp2_with fail
              go_ret
              exact ⟨retB (by rw [← HR.out, HB.out, HM.out]; rfl), rfl⟩
        · have hb := wh_nz s 1 hf hz hw
          have hz' : (((s[1]'hf).toNat : Int) == 48) = false := by simpa using hz
          have HB := Lib.hid hb
          clear hb hw
          cases hm : decide (s.data.toList = [45, 48]) with
          | true =>
            have hm' : (s.toList == [45, 48]) = true := by rw [toList_data, of_decide_eq_true hm]; rfl
            have hm2 : s.toList = [45, 48] := by rw [toList_data, of_decide_eq_true hm]
            have HM := Lib.hid hm
            clear hm
            go_wp2_with fail
            go_ret
            exact ⟨retB (by rw [← HR.out, HB.out, HM.out]; rfl), rfl⟩
          | false =>
            have hm' : (s.toList == [45, 48]) = false := by rw [toList_data, beq_eq_false_iff_ne]; exact of_decide_eq_false hm
            have hm2 : ¬ s.toList = [45, 48] := by rw [toList_data]; exact of_decide_eq_false hm
            have HM := Lib.hid hm
            clear hm
            go_wp2_with fail
            go_ret
            exact ⟨retB (by rw [← HR.out, HB.out, HM.out]; rfl), rfl⟩

set_option maxHeartbeats 400000 in
theorem whole_emp (s : ByteArray) (w : World) (hp : ¬ 0 < s.size) :
    Calls Tryz.prog 47 #[.string s] w fun e w' => e = .returned (.bool (numB (s.data.toList.drop 0) && !decide (s.data.toList = [45, 48]))) ∧ w = w' := by
  have hb := wh_nil s 0 (by omega)
  rw [hb]
  clear hb
  have hz : (s.size : Int) = 0 := by omega
  go_enter Tryz.func47, Tryz.ntmps47
  go_wp2_with fail
  go_loop [4] (fun i => i = .int .i64 0) (fun _ => 0)
  case atStart => rfl
  case round =>
    subst hrel
    go_wp2_with fail
    go_ret
    exact ⟨rfl, rfl⟩

set_option maxHeartbeats 400000 in
theorem whole_pos (s : ByteArray) (w : World) (hs : s.size ≤ maxLen) (hp : 0 < s.size) (hn : ¬ ((s[0]'hp).toNat : Int) = 45) :
    Calls Tryz.prog 47 #[.string s] w fun e w' => e = .returned (.bool (numB (s.data.toList.drop 0) && !decide (s.data.toList = [45, 48]))) ∧ w = w' := by
  unfold maxLen at hs
  have hn' : (((s[0]'hp).toNat : Int) == 45) = false := by simpa using hn
  obtain ⟨R, hR⟩ : ∃ R, (numB (s.data.toList.drop 0) && !decide (s.data.toList = [45, 48])) = R := ⟨_, rfl⟩
  rw [hR]
  have HR := Lib.hid hR
  clear hR
  go_enter Tryz.func47, Tryz.ntmps47
  go_wp2_with fail
  go_loop [4] (fun i => ∃ k : Nat, 0 ≤ k ∧ k ≤ s.size ∧ i = .int .i64 k ∧ ∀ j (hj : j < s.size), 0 ≤ j → j < k → digB s[j].toNat = true) (fun i => s.size - (intOf i).toNat)
  case atStart => exact ⟨0, by omega, by omega, rfl, fun j _ h1 h2 => by omega⟩
  case round =>
    obtain ⟨k, hfk, hk, rfl, hall⟩ := hrel
    have Hall := Lib.hid hall
    clear hall
    by_cases hlt : k < s.size
    · cases hd : digB (s[k]'hlt).toNat with
      | true =>
        go_wp2_with (go_at_call 48; refine (digit_any _ _).mono ?_; rw [hd]; rintro e w' ⟨rfl, rfl⟩)
        go_round
        case rel => exact ⟨k + 1, by omega, by omega, by go_num, fun j hj h1 h2 => if e : j = k then (by subst e; exact hd) else Hall.out j hj h1 (by omega)⟩
        case measure => simp [intOf]; omega
      | false =>
        have hb := wh_bad s 0 k hfk hlt hd
        have HB := Lib.hid hb
        clear hb
        go_wp2_with (go_at_call 48; refine (digit_any _ _).mono ?_; rw [hd]; rintro e w' ⟨rfl, rfl⟩)
        go_ret
        exact ⟨retB (by rw [← HR.out, HB.out]; rfl), rfl⟩
    · have hw := wh_all s 0 fun j hj h1 => Hall.out j hj h1 (by omega)
      have hks : k = s.size := by omega
      subst hks
      by_cases he : s.size = 0
      · have hb := wh_nil s 0 he
        have HB := Lib.hid hb
        clear hb hw
        go_wp2_with fail
        go_ret
        exact ⟨retB (by rw [← HR.out, HB.out]; rfl), rfl⟩
      · have hf : 0 < s.size := by omega
        have he' : (((s.size : Int)) == 0) = false := beq_eq_false_iff_ne.2 (by omega)
        have hf' : (0 : Int) < s.size := by omega
        by_cases hz : ((s[0]'hf).toNat : Int) = 48
        · by_cases h1 : 0 + 1 < s.size
          · have hb := wh_zero s 0 h1 hz
            have n1 : (0 + 1 : Int) < s.size := by omega
            have HB := Lib.hid hb
            clear hb hw
            go_wp2_with fail
            go_ret
            exact ⟨retB (by rw [← HR.out, HB.out]; rfl), rfl⟩
          · have hb := wh_one s 0 (by omega) hw
            have n1 : (s.size : Int) = 0 + 1 := by omega
            have n2 : ¬ (0 + 1 : Int) < s.size := by omega
            have HB := Lib.hid hb
            clear hb hw
            cases hm : decide (s.data.toList = [45, 48]) with
            | true =>
              have hm' : (s.toList == [45, 48]) = true := by rw [toList_data, of_decide_eq_true hm]; rfl
              have hm2 : s.toList = [45, 48] := by rw [toList_data, of_decide_eq_true hm]
              have HM := Lib.hid hm
              clear hm
              go_wp2_with fail
              go_ret
              exact ⟨retB (by rw [← HR.out, HB.out, HM.out]; rfl), rfl⟩
            | false =>
              have hm' : (s.toList == [45, 48]) = false := by rw [toList_data, beq_eq_false_iff_ne]; exact of_decide_eq_false hm
              have hm2 : ¬ s.toList = [45, 48] := by rw [toList_data]; exact of_decide_eq_false hm
              have HM := Lib.hid hm
              clear hm
              go_wp2_with fail
              go_ret
              exact ⟨retB (by rw [← HR.out, HB.out, HM.out]; rfl), rfl⟩
        · have hb := wh_nz s 0 hf hz hw
          have hz' : (((s[0]'hf).toNat : Int) == 48) = false := by simpa using hz
          have HB := Lib.hid hb
          clear hb hw
          cases hm : decide (s.data.toList = [45, 48]) with
          | true =>
            have hm' : (s.toList == [45, 48]) = true := by rw [toList_data, of_decide_eq_true hm]; rfl
            have hm2 : s.toList = [45, 48] := by rw [toList_data, of_decide_eq_true hm]
            have HM := Lib.hid hm
            clear hm
            go_wp2_with fail
            go_ret
            exact ⟨retB (by rw [← HR.out, HB.out, HM.out]; rfl), rfl⟩
          | false =>
            have hm' : (s.toList == [45, 48]) = false := by rw [toList_data, beq_eq_false_iff_ne]; exact of_decide_eq_false hm
            have hm2 : ¬ s.toList = [45, 48] := by rw [toList_data]; exact of_decide_eq_false hm
            have HM := Lib.hid hm
            clear hm
            go_wp2_with fail
            go_ret
            exact ⟨retB (by rw [← HR.out, HB.out, HM.out]; rfl), rfl⟩

theorem whole_any (s : ByteArray) (w : World) (hs : s.size ≤ maxLen) :
    Calls Tryz.prog 47 #[.string s] w fun e w' => e = .returned (.bool (wholeB s.data.toList)) ∧ w = w' := by
  unfold wholeB
  by_cases hp : 0 < s.size
  · by_cases hn : ((s[0]'hp).toNat : Int) = 45
    · rw [wh_first s hp hn]; exact whole_neg s w hs hp hn
    · rw [wh_plain s (fun _ => hn)]; exact whole_pos s w hs hp hn
  · rw [wh_plain s (fun h => absurd h hp)]; exact whole_emp s w hp
end Go.Proofs.YtkbmdmipdcjjcaaGreatDoor
