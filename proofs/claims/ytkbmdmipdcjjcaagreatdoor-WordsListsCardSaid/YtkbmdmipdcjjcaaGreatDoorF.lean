/- cutField, isBare, Unquote, readField of package words. -/
import Derived.Test.YtkbmdmipdcjjcaaGreatDoorE
namespace Go.Proofs.YtkbmdmipdcjjcaaGreatDoor
open Go.RowKit

theorem ext_take (s : ByteArray) (i : Nat) : s.extract 0 i = ⟨(s.data.toList.take i).toArray⟩ := by rw [Lib.extract_eq]; simp
theorem ext_drop (s : ByteArray) (i : Nat) : s.extract i s.size = ⟨(s.data.toList.drop i).toArray⟩ := by
  rw [Lib.extract_eq, List.take_of_length_le (by rw [List.length_drop, size_len]; omega)]
theorem cell_new0 (w : World) (v : Value) (t : TypeId) : (w.alloc (.cells #[v] t)).cell? ⟨w.heap.size, 0, none⟩ = some v := cell_one_new w v t 0 v rfl
theorem frozen_new0 (w : World) (v : Value) (t : TypeId) : (w.alloc (.cells #[v] t)).frozen? ⟨w.heap.size, 0, none⟩ = false := by go_simp

set_option maxHeartbeats 400000 in
theorem IndexFunc_any (s : ByteArray) (B : Nat) (w : World) (hB : B < w.heap.size) (hc : w.cell? ⟨B, 0, none⟩ = some (.bool false)) (hf : w.frozen? ⟨B, 0, none⟩ = false) :
    Calls Tryz.prog 50 #[.string s, .func (.func 49) #[] #[.pointer (some ⟨B, 0, none⟩)]] w fun e w' => e = .returned (.int .i64 (idxF false s.data.toList)) ∧ Below B w w' := by
  have h := indexFunc_any s B w hB hc hf
  clear hc hf
  go_enter Tryz.func50, Tryz.ntmps50
  go_wp2_with (go_at_call 66; refine h.mono ?_; rintro e w' ⟨rfl, hb⟩)
  go_ret
  exact ⟨rfl, hb⟩

set_option maxHeartbeats 400000 in
theorem cutField_none (s : ByteArray) (w : World) (h : idxF false s.data.toList = -1) :
    Calls Tryz.prog 28 #[.string s] w fun e w' => e = .returned (.tuple #[.string s, .string ⟨#[]⟩, .bool false]) ∧ Below w.heap.size w w' := by
  have hI := IndexFunc_any s w.heap.size (w.alloc (.cells #[.bool false] 4)) (by simp) (cell_new0 _ _ _) (frozen_new0 _ _ _)
  rw [h] at hI
  clear h
  go_enter Tryz.func28, Tryz.ntmps28
  go_wp2_with (go_at_call 50; refine hI.mono ?_; rintro e w' ⟨rfl, hb⟩)
  go_ret3
  exact ⟨rfl, ((Below.refl _ w).alloc (Nat.le_refl _) _).trans hb⟩

set_option maxHeartbeats 400000 in
theorem cutField_some (s : ByteArray) (w : World) (i : Nat) (hs : s.size ≤ maxLen) (h : idxF false s.data.toList = i) :
    Calls Tryz.prog 28 #[.string s] w fun e w' => e = .returned (.tuple #[.string ⟨(s.data.toList.take i).toArray⟩, .string ⟨(s.data.toList.drop (i + 1)).toArray⟩, .bool true]) ∧ Below w.heap.size w w' := by
  have hI := IndexFunc_any s w.heap.size (w.alloc (.cells #[.bool false] 4)) (by simp) (cell_new0 _ _ _) (frozen_new0 _ _ _)
  have hlt := idxF_lt false s.data.toList
  rw [h, size_len] at hlt
  rw [h] at hI
  clear h
  go_enter Tryz.func28, Tryz.ntmps28
  go_wp2_with (go_at_call 50; refine hI.mono ?_; rintro e w' ⟨rfl, hb⟩)
  unfold maxLen at hs
  have n0 : (0 : Int) ≤ (i : Int) := by omega
  have n1 : (i : Int) ≤ (s.size : Int) := by omega
  have n2 : (i : Int) + 1 ≤ (s.size : Int) := by omega
  have n3 : (0 : Int) ≤ (i : Int) + 1 := by omega
  have n4 : IntKind.i64.wrap ((i : Int) + 1) = (i : Int) + 1 := IntWalk.i64_in _ (by omega)
  have n5 : ((i : Int) + 1).toNat = i + 1 := by omega
  go_quiet (fail)
  clear n0 n1 n2 n3 n4 n5
  go_wp2
  go_ret3
  exact ⟨by rw [← ext_take, ← ext_drop]; rfl, below_drewN (((Below.refl _ w).alloc (Nat.le_refl _) _).trans hb) _⟩

def bareB (l : List UInt8) : Bool := decide (1 ≤ l.length) && decide (l.length ≤ 200) && withinB 33 126 l && !(l.any fun b => b == 34)
theorem bareB_size {s : ByteArray} (h : s.size = 0 ∨ 200 < s.size) : bareB s.data.toList = false := by
  unfold bareB; rw [size_len]
  rcases h with h | h
  · simp [h]
  · have : ¬ s.size ≤ 200 := by omega
    simp [this]
theorem bareB_rest {s : ByteArray} (h : ¬ s.size = 0) (h2 : s.size ≤ 200) : bareB s.data.toList = (withinB 33 126 s.data.toList && !(s.data.toList.any fun b => b == 34)) := by
  unfold bareB; rw [size_len]
  have : 1 ≤ s.size := by omega
  simp [this, h2]

set_option maxHeartbeats 400000 in
theorem isBare_any (s : ByteArray) (w : World) (g : Glob w) (hs : s.size < 4294967281) :
    Calls Tryz.prog 54 #[.string s] w fun e w' => e = .returned (.bool (bareB s.data.toList)) ∧ w = w' := by
  have hm : s.size ≤ maxLen := by unfold maxLen; omega
  obtain ⟨m, hmx⟩ := g.mx
  have hC := Tryz.strings_Contains s ⟨#[34]⟩ m w hs hmx
  rw [show Lib.contains s.data.toList (ByteArray.mk #[34]).data.toList = s.data.toList.any (fun b => b == 34) from contains_one 34 _] at hC
  clear hmx
  by_cases h0 : s.size = 0
  · have hN := Lib.hid (bareB_size (Or.inl h0))
    have ht := toList_nil h0
    clear h0
    go_enter Tryz.func54, Tryz.ntmps54
    go_wp2_with fail
    go_ret
    exact ⟨retB hN.out.symm, rfl⟩
  obtain ⟨ht, ht'⟩ := toList_cons h0
  by_cases h2 : s.size ≤ 200
  · have hN := Lib.hid (bareB_rest h0 h2)
    obtain ⟨A, hA⟩ : ∃ A, withinB 33 126 s.data.toList = A := ⟨_, rfl⟩
    obtain ⟨D, hD⟩ : ∃ D, s.data.toList.any (fun b => b == 34) = D := ⟨_, rfl⟩
    have hW := within_any s 33 126 w hm
    rw [hA] at hW hN
    rw [hD] at hC hN
    clear hA hD
    cases A
    · go_enter Tryz.func54, Tryz.ntmps54
      go_wp2_with (go_at_call 57; refine hW.mono ?_; rintro e w' ⟨rfl, rfl⟩)
      go_ret
      exact ⟨retB hN.out.symm, rfl⟩
    · go_enter Tryz.func54, Tryz.ntmps54
      go_wp2_with (first
        | (go_at_call 57; refine hW.mono ?_; rintro e w' ⟨rfl, rfl⟩)
        | (go_at_call 68; refine hC.mono ?_; rintro e w' ⟨rfl, rfl⟩))
      go_ret
      exact ⟨retB (by rw [hN.out]; simp), rfl⟩
  · have hN := Lib.hid (bareB_size (s := s) (Or.inr (by omega)))
    go_enter Tryz.func54, Tryz.ntmps54
    go_wp2_with fail
    go_ret
    exact ⟨retB hN.out.symm, rfl⟩
end Go.Proofs.YtkbmdmipdcjjcaaGreatDoor
