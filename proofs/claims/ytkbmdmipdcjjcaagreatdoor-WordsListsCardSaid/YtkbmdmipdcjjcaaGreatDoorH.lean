/- readField of package words. -/
import Derived.Test.YtkbmdmipdcjjcaaGreatDoorG
namespace Go.Proofs.YtkbmdmipdcjjcaaGreatDoor
open Go.RowKit

theorem bcell {W w1 : World} (hb : Below W.heap.size W w1) : (∀ b o, b < W.heap.size → w1.cell? ⟨b, o, none⟩ = W.cell? ⟨b, o, none⟩) ∧ (∀ b o, b < W.heap.size → w1.frozen? ⟨b, o, none⟩ = W.frozen? ⟨b, o, none⟩) :=
  ⟨fun b o h => hb.cell (p := ⟨b, o, none⟩) h, fun b o h => hb.frozen (p := ⟨b, o, none⟩) h⟩

set_option maxHeartbeats 1000000 in
theorem readField_yes (s : ByteArray) (w : World) (g : Glob w) (hs : s.size < 4294967281) (hq : Lib.hasPrefix s.data.toList [34] = true) (h : unqB s.data.toList = true) :
    Calls Tryz.prog 29 #[.string s] w fun e w' => e = .returned (.tuple #[.agg #[.bool true, .string ⟨(unqT s.data.toList).toArray⟩], .bool true]) ∧ Below w.heap.size w w' := by
  have hP := Tryz.strings_HasPrefix s ⟨#[34]⟩
  rw [show Lib.hasPrefix s.data.toList (ByteArray.mk #[34]).data.toList = true from hq] at hP
  obtain ⟨T, hTd⟩ : ∃ T : ByteArray, (⟨(unqT s.data.toList).toArray⟩ : ByteArray) = T := ⟨_, rfl⟩
  have hU := fun w g => Unquote_yes s w g hs h
  rw [hTd] at hU ⊢
  clear hTd hq h
  go_enter Tryz.func29, Tryz.ntmps29
  go_wp2_with fail
  refine (hP _).mono ?_
  rintro e w' ⟨rfl, rfl⟩
  go_wp2_with fail
  refine (hU _ (g.next ((Below.refl _ _).alloc (Nat.le_refl _) _))).mono ?_
  rintro e w1 ⟨rfl, hb⟩
  obtain ⟨hc, hf⟩ := bcell hb
  have hz : w.heap.size < w1.heap.size := by have := hb.size; simp at this; omega
  go_wp2_with fail
  refine bodyPost_ret (v := .tuple #[.agg #[.bool true, .string T], .bool true]) (by simp [results, Tryz.results29, go_sem, hc]) rfl ⟨rfl, ?_⟩
  exact ((((Below.refl _ w).alloc (Nat.le_refl _) _).trans (hb.mono (by simp))).setCell (by exact Nat.le_refl _) _).setCell (by exact Nat.le_refl _) _

set_option maxHeartbeats 1000000 in
theorem readField_no (s : ByteArray) (w : World) (g : Glob w) (hs : s.size < 4294967281) (hq : Lib.hasPrefix s.data.toList [34] = true) (h : unqB s.data.toList = false) :
    Calls Tryz.prog 29 #[.string s] w fun e w' => e = .returned (.tuple #[.agg #[.bool true, .string ⟨#[]⟩], .bool false]) ∧ Below w.heap.size w w' := by
  have hP := Tryz.strings_HasPrefix s ⟨#[34]⟩
  rw [show Lib.hasPrefix s.data.toList (ByteArray.mk #[34]).data.toList = true from hq] at hP
  have hU := fun w g => Unquote_no s w g hs h
  clear hq h
  go_enter Tryz.func29, Tryz.ntmps29
  go_wp2_with fail
  refine (hP _).mono ?_
  rintro e w' ⟨rfl, rfl⟩
  go_wp2_with fail
  refine (hU _ (g.next ((Below.refl _ _).alloc (Nat.le_refl _) _))).mono ?_
  rintro e w1 ⟨rfl, hb⟩
  obtain ⟨hc, hf⟩ := bcell hb
  have hz : w.heap.size < w1.heap.size := by have := hb.size; simp at this; omega
  go_wp2_with fail
  refine bodyPost_ret (v := .tuple #[.agg #[.bool true, .string ⟨#[]⟩], .bool false]) (by simp [results, Tryz.results29, go_sem, hc]) rfl ⟨rfl, ?_⟩
  exact ((((Below.refl _ w).alloc (Nat.le_refl _) _).trans (hb.mono (by simp))).setCell (by exact Nat.le_refl _) _).setCell (by exact Nat.le_refl _) _

set_option maxHeartbeats 1000000 in
theorem readField_bare (s : ByteArray) (w : World) (g : Glob w) (hs : s.size < 4294967281) (hq : Lib.hasPrefix s.data.toList [34] = false) :
    Calls Tryz.prog 29 #[.string s] w fun e w' => e = .returned (.tuple #[.agg #[.bool false, .string s], .bool (bareB s.data.toList)]) ∧ Below w.heap.size w w' := by
  have hP := Tryz.strings_HasPrefix s ⟨#[34]⟩
  rw [show Lib.hasPrefix s.data.toList (ByteArray.mk #[34]).data.toList = false from hq] at hP
  clear hq
  go_enter Tryz.func29, Tryz.ntmps29
  go_wp2_with fail
  refine (hP _).mono ?_
  rintro e w' ⟨rfl, rfl⟩
  go_wp2_with fail
  refine (Clone_any s _ (by omega)).mono ?_
  rintro e w1 ⟨rfl, hb⟩
  obtain ⟨hc, hf⟩ := bcell hb
  have hz : w.heap.size < w1.heap.size := by have := hb.size; simp at this; omega
  go_wp2_with fail
  refine (isBare_any s _ ((g.next ((Below.refl _ _).alloc (Nat.le_refl _) _)).next hb) hs).mono ?_
  rintro e w2 ⟨rfl, rfl⟩
  go_wp2_with fail
  refine bodyPost_ret (v := .tuple #[.agg #[.bool false, .string s], .bool (bareB s.data.toList)]) (by simp [results, Tryz.results29, go_sem, hc]) rfl ⟨rfl, ?_⟩
  exact ((((Below.refl _ w).alloc (Nat.le_refl _) _).trans (hb.mono (by simp))).setCell (by exact Nat.le_refl _) _).setCell (by exact Nat.le_refl _) _

/-- What readField makes of what is written: quoted?, the text, is it a field? -/
def rdF (l : List UInt8) : Bool × List UInt8 × Bool :=
  if Lib.hasPrefix l [34] then (if unqB l then (true, unqT l, true) else (true, [], false)) else (false, l, bareB l)
theorem readField_any (s : ByteArray) (w : World) (g : Glob w) (hs : s.size < 4294967281) :
    Calls Tryz.prog 29 #[.string s] w fun e w' => e = .returned (.tuple #[.agg #[.bool (rdF s.data.toList).1, .string ⟨(rdF s.data.toList).2.1.toArray⟩], .bool (rdF s.data.toList).2.2]) ∧ Below w.heap.size w w' := by
  unfold rdF
  by_cases hq : Lib.hasPrefix s.data.toList [34] = true
  · rw [if_pos hq]
    by_cases h : unqB s.data.toList = true
    · rw [if_pos h]; exact readField_yes s w g hs hq h
    · rw [if_neg h]; exact readField_no s w g hs hq (by simpa using h)
  · rw [if_neg hq]; exact readField_bare s w g hs (by simpa using hq)
end Go.Proofs.YtkbmdmipdcjjcaaGreatDoor
