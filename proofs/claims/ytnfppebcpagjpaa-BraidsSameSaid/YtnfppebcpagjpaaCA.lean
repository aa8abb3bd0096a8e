/- Closed normal forms that awake asks for. -/
import Derived.Test.YtnfppebcpagjpaaBZ
namespace Go.Proofs.Ytnfppebcpagjpaa
theorem nf_121 : nf 3 [1, 2, 1] = nf 3 [2, 1, 2] := (eqv_iff (by decide) (by unfold Word; decide) (by unfold Word; decide)).2 (.braid [] [] (i := 1) (by decide) (by decide))
theorem nf_12_ints : (nf 3 [1, 2]).2.map (ints 3) ≠ (nf 3 [2, 1]).2.map (ints 3) := by decide +kernel
theorem nf_12 : nf 3 [1, 2] ≠ nf 3 [2, 1] := fun h => nf_12_ints (by rw [h])
theorem nf_m1 : (nf 3 [-1]).1 = -1 ∧ (nf 3 [-1]).2.map (ints 3) = [[2, 0, 1]] := by decide +kernel
theorem chk_121 : bothV 3 [1, 2, 1] [2, 1, 2] = 0 := by decide +kernel
theorem chk_12 : bothV 3 [1, 2] [2, 1] = 0 := by decide +kernel
theorem chk_m1 : checkV 3 [-1] = 0 := by decide +kernel
end Go.Proofs.Ytnfppebcpagjpaa
