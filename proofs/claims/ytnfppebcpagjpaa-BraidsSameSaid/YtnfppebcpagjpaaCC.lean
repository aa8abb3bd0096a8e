/- Normal at an error. -/
import Derived.Test.YtnfppebcpagjpaaCB
namespace Go.Proofs.Ytnfppebcpagjpaa
open Go.RowKit Go.Lib
set_option maxHeartbeats 400000 in
set_option maxRecDepth 100000 in
theorem Normal_err (n : Int) (xs : List Int) (sa : Option Addr) (sc : Nat) (w : World) (hsc : xs.length ≤ sc) (hmx : sc ≤ maxLen) (ha : IntsAt w sa xs) (h : checkV n xs ≠ 0) :
    Calls Try.prog 42 #[.int .i64 n, .slice sa xs.length sc] w fun e w' => e = .returned (.tuple #[.int .i64 0, .slice none 0 0, .int .i64 (checkV n xs)]) ∧ Below w.heap.size w w' := by
  have CK := Lib.hid (Check_any n xs sa sc w hsc hmx ha)
  clear ha
  obtain ⟨v, hv⟩ : ∃ v, v = checkV n xs := ⟨_, rfl⟩
  rw [← hv] at h CK ⊢
  clear hv
  go_enter Try.func42, Try.ntmps42
  go_wp2_with fail
  refine CK.out.mono ?_
  rintro e w1 ⟨rfl, B1⟩
  go_wp2_with fail
  go_ret3
  exact ⟨rfl, B1⟩
end Go.Proofs.Ytnfppebcpagjpaa
