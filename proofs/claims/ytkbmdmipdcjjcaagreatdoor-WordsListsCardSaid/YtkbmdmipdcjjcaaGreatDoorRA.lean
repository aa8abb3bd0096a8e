/- The reference's less and number. -/
import Derived.Test.YtkbmdmipdcjjcaaGreatDoorNI
namespace Go.Proofs.YtkbmdmipdcjjcaaGreatDoor
open Go.RowKit

set_option maxHeartbeats 400000 in
theorem refLess_any (a b : ByteArray) (w : World) :
    Calls Tryz.prog 25 #[.string a, .string b] w fun e w' => e = .returned (.bool (ltB a.data.toList b.data.toList)) ∧ w = w' := by
  have hl : ltB a.data.toList b.data.toList = (decide (a.size < b.size) || (decide (a.size = b.size) && Op.bytesLess a.toList b.toList)) := by
    unfold ltB; rw [size_len, size_len, toList_data, toList_data]
  have Hl := Lib.hid hl
  clear hl
  go_enter Tryz.func25, Tryz.ntmps25
  go_wp2_with fail
  all_goals
    go_ret
    refine ⟨retB ?_, rfl⟩
    rw [Hl.out]
  · have e : a.size = b.size := by omega
    simp [e]
  · have e : ¬ a.size = b.size := by omega
    simp [e]
  · have e : a.size < b.size := by omega
    simp [e]

theorem num_at {s : ByteArray} (hp : 0 < s.size) (h : numB s.data.toList = true) : 48 ≤ s[0].toNat ∧ s[0].toNat ≤ 57 := by
  have h1 := wh_cons s 0 hp
  rw [List.drop_zero] at h1
  unfold numB at h
  rw [h1] at h
  simp only [Bool.and_eq_true] at h
  exact (within_cons h.1.2).1
theorem num_neg {s : ByteArray} (hp : 0 < s.size) (hn : (s[0].toNat : Int) = 45) : numB s.data.toList = false := by
  rw [Bool.eq_false_iff]
  intro h
  have := num_at hp h
  omega
theorem num_pos {s : ByteArray} (hp : 0 < s.size) (hn : ¬ (s[0].toNat : Int) = 45) : wholeB s.data.toList = numB s.data.toList := by
  unfold wholeB
  rw [wh_plain s (fun _ => hn), List.drop_zero]
  have h1 := wh_cons s 0 hp
  rw [List.drop_zero] at h1
  have h2 : s.data.toList ≠ [45, 48] := by
    intro e
    rw [h1] at e
    have e0 := (List.cons.inj e).1
    rw [e0] at hn
    exact hn rfl
  simp [h2]
theorem num_nil {s : ByteArray} (hp : ¬ 0 < s.size) : numB s.data.toList = false ∧ wholeB s.data.toList = false := by
  have : s.data.toList = [] := List.eq_nil_of_length_eq_zero (by rw [size_len]; omega)
  rw [this]
  exact ⟨rfl, rfl⟩

set_option maxHeartbeats 400000 in
theorem number_any (s : ByteArray) (w : World) (hs : s.size ≤ maxLen) :
    Calls Tryz.prog 46 #[.string s] w fun e w' => e = .returned (.bool (numB s.data.toList)) ∧ w = w' := by
  have hw := whole_any s w hs
  unfold maxLen at hs
  by_cases hp : 0 < s.size
  · by_cases hn : (s[0].toNat : Int) = 45
    · rw [num_neg hp hn]
      obtain ⟨b, hb⟩ : ∃ b, wholeB s.data.toList = b := ⟨_, rfl⟩
      rw [hb] at hw
      have HW := Lib.hid hw
      clear hw hb
      have hn' : (((s[0].toNat : Int)) != 45) = false := by simp [hn]
      cases b
      · go_enter Tryz.func46, Tryz.ntmps46
        go_wp2_with (go_at_call 47; refine HW.out.mono ?_; rintro e w' ⟨rfl, rfl⟩)
        go_ret
        exact ⟨rfl, rfl⟩
      · go_enter Tryz.func46, Tryz.ntmps46
        go_wp2_with (go_at_call 47; refine HW.out.mono ?_; rintro e w' ⟨rfl, rfl⟩)
        go_ret
        exact ⟨rfl, rfl⟩
    · rw [← num_pos hp hn]
      obtain ⟨b, hb⟩ : ∃ b, wholeB s.data.toList = b := ⟨_, rfl⟩
      rw [hb] at hw ⊢
      have HW := Lib.hid hw
      clear hw hb
      have hn' : (((s[0].toNat : Int)) != 45) = true := by simp [hn]
      cases b
      · go_enter Tryz.func46, Tryz.ntmps46
        go_wp2_with (go_at_call 47; refine HW.out.mono ?_; rintro e w' ⟨rfl, rfl⟩)
        go_ret
        exact ⟨rfl, rfl⟩
      · go_enter Tryz.func46, Tryz.ntmps46
        go_wp2_with (go_at_call 47; refine HW.out.mono ?_; rintro e w' ⟨rfl, rfl⟩)
        go_ret
        exact ⟨rfl, rfl⟩
  · obtain ⟨h1, h2⟩ := num_nil hp
    rw [h1]
    rw [h2] at hw
    have HW := Lib.hid hw
    clear hw h1 h2
    go_enter Tryz.func46, Tryz.ntmps46
    go_wp2_with (go_at_call 47; refine HW.out.mono ?_; rintro e w' ⟨rfl, rfl⟩)
    go_ret
    exact ⟨rfl, rfl⟩
end Go.Proofs.YtkbmdmipdcjjcaaGreatDoor
