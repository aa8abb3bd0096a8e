/- The program's Lines. -/
import Derived.Test.YtojdihfcoijinaaDoorLB
namespace Go.Proofs.YtojdihfcoijinaaDoor
open Go.RowKit

theorem heap_again {w : World} {B j : Nat} {C : Array Value} {t : TypeId} {fr : Nat × Nat} {u : Value} (h : w.heap[B]? = some (.cells C t fr)) (hu : C[j]? = some u) : (w.setCell ⟨B, j, none⟩ u).heap[B]? = some (.cells C t fr) := by
  obtain ⟨hj, hju⟩ := Array.getElem?_eq_some_iff.1 hu
  have e : C.setIfInBounds j u = C := by
    apply Array.ext
    · simp
    · intro i h1 h2
      rw [Array.getElem_setIfInBounds]
      split
      · rename_i e; subst e; exact hju.symm
      · rfl
  unfold World.setCell
  simp [Array.getElem?_modify, h, e]
theorem split_snoc (c : UInt8) : ∀ m : List UInt8, splitL c (m ++ [c]) = splitL c m ++ [[]]
  | [] => by simp [splitL]
  | x :: m => by
    have ih := split_snoc c m
    show splitL c (x :: (m ++ [c])) = splitL c (x :: m) ++ [[]]
    by_cases hx : x = c
    · rw [splitL, if_pos hx, splitL, if_pos hx, ih]; rfl
    · rw [splitL, if_neg hx, splitL, if_neg hx, ih, splitL_ne c m]
      rfl
theorem suffix_ten (l : List UInt8) : Lib.hasSuffix l [10] = decide (l.getLast? = some 10) := by
  unfold Lib.hasSuffix
  rw [Bool.eq_iff_iff, List.isSuffixOf_iff_suffix, decide_eq_true_iff]
  constructor
  · rintro ⟨t, rfl⟩; simp
  · intro h
    have hne : l ≠ [] := fun e => by rw [e] at h; cases h
    rw [List.getLast?_eq_some_getLast hne] at h
    have h2 := Option.some.inj h
    exact ⟨l.dropLast, by rw [← h2]; exact List.dropLast_concat_getLast hne⟩

set_option maxHeartbeats 2000000 in
set_option maxRecDepth 100000 in
theorem Lines_few (s : ByteArray) (w : World) (hs : s.size ≤ maxLen) (hx : s.size ≤ 1048576 → s.data.toList.getLast? = some 10 → 5000 < s.data.toList.count 10) :
    Calls Tryd.prog 26 #[.string s] w (LinesPost w s.data.toList) := by
  have hl := size_len s
  unfold maxLen at hs
  by_cases hbig : 1048576 < s.size
  · have hP := lines_bad (w := w) (w' := w) (l := s.data.toList) (c := 3) (by unfold linesP; rw [if_pos (by omega)]) (Below.refl _ _)
    go_enter Tryd.func26, Tryd.ntmps26
    go_wp2_with fail
    go_ret2
    exact hP
  by_cases h0 : s.size = 0
  · have hd : s.data.toList = [] := List.eq_nil_of_length_eq_zero (by omega)
    have ht := toList_nil h0
    have hP : LinesPost w s.data.toList (.returned (.tuple #[.slice none 0 0, .int .i64 0])) w := lines_bad (by rw [hd]; decide +kernel) (Below.refl _ _)
    have HP := Lib.hid hP
    clear hP hd
    go_enter Tryd.func26, Tryd.ntmps26
    go_wp2_with fail
    go_ret2
    exact HP.out
  obtain ⟨ht, ht'⟩ := toList_cons h0
  have hne : s.data.toList ≠ [] := fun e => h0 (by rw [← hl, e]; rfl)
  have hS := Tryd.strings_HasSuffix s ⟨#[10]⟩ w (by omega)
  rw [show (⟨#[10]⟩ : ByteArray).data.toList = [10] from rfl, suffix_ten] at hS
  by_cases hlast : s.data.toList.getLast? = some 10
  · rw [decide_eq_true hlast] at hS
    have hC := Tryd.strings_Count_one s 10 w
    rw [show Lib.countByte s.data.toList 10 = s.data.toList.count 10 from rfl] at hC
    obtain ⟨c, hc⟩ : ∃ c, s.data.toList.count 10 = c := ⟨_, rfl⟩
    rw [hc] at hC
    have HS := Lib.hid hS
    have HC := Lib.hid hC
    by_cases h5 : 5000 < c
    · have hP := lines_bad (w := w) (w' := w) (l := s.data.toList) (c := 3) (by unfold linesP; rw [if_neg (by omega), if_neg (fun h => h.2 hlast), if_pos (by omega)]) (Below.refl _ _)
      have HP := Lib.hid hP
      clear hP hS hC hlast hc hne
      go_enter Tryd.func26, Tryd.ntmps26
      go_wp2_with (first
        | (go_at_call 46; refine HS.out.mono ?_; rintro e w' ⟨rfl, rfl⟩)
        | (go_at_call 47; refine HC.out.mono ?_; rintro e w' ⟨rfl, rfl⟩))
      go_ret2
      exact HP.out
    · exact absurd (hx (by omega) hlast) (by omega)
  · rw [decide_eq_false hlast] at hS
    have hP := lines_bad (w := w) (w' := w) (l := s.data.toList) (c := 6) (by unfold linesP; rw [if_neg (by omega), if_pos ⟨hne, hlast⟩]) (Below.refl _ _)
    have HP := Lib.hid hP
    have HS := Lib.hid hS
    clear hP hS hlast hne
    go_enter Tryd.func26, Tryd.ntmps26
    go_wp2_with (go_at_call 46; refine HS.out.mono ?_; rintro e w' ⟨rfl, rfl⟩)
    go_ret2
    exact HP.out
end Go.Proofs.YtojdihfcoijinaaDoor
