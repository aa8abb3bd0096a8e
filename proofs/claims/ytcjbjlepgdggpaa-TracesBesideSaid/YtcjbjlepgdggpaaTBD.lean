/- Taken over: TMB TMD. -/
import Derived.Test.YtcjbjlepgdggpaaTL

namespace Go.Proofs.Ytcjbjlepgdggpaa
section
open Go.RowKit Go.Shelf Go.Lib
/-- What can be done next, by the works. -/
def rdyR (W : List Wk) (x i : Nat) : Bool := decide (i < W.length) && rdyB W x.testBit i
theorem rdyR_lt (W : List Wk) (x i : Nat) (h : rdyR W x i = true) : i < W.length ∧ x.testBit i = false := by
  unfold rdyR at h
  simp only [Bool.and_eq_true, decide_eq_true_eq] at h
  exact ⟨h.1, (rdyB_iff.1 h.2).1⟩
end
section
open Go.RowKit Go.Shelf Go.Lib
set_option maxRecDepth 100000
set_option linter.unusedSimpArgs false
attribute [local irreducible] wpQuiet
/-- The two ways to say what is ready agree where the works done are closed. -/
theorem rdy_same {pr : Nat} {W : List Wk} {x i : Nat} (hn : W.length ≤ 16) (hC : Clo W x.testBit) : rdyM W.length (frs (stepsL pr W)) x i = rdyR W x i := by
  by_cases hi : i < W.length
  · unfold rdyR
    rw [decide_eq_true hi, Bool.true_and, Bool.eq_iff_iff, rdyM_eq hn hC hi, rdyB_iff]
  · unfold rdyR rdyM
    rw [decide_eq_false hi]
    simp
theorem clo_orR {W : List Wk} {x i : Nat} (hC : Clo W x.testBit) (hr : rdyR W x i = true) : Clo W (x ||| 1 <<< i).testBit := by
  unfold rdyR at hr
  simp only [Bool.and_eq_true, decide_eq_true_eq] at hr
  have h2 := rdyB_iff.1 hr.2
  have := clo_step hC h2.2
  have e : (x ||| 1 <<< i).testBit = fun j => decide (j = i) || x.testBit j := by
    funext j
    exact testBit_or x i j
  rw [e]
  exact this
theorem ordC_same {pr : Nat} {W : List Wk} (hn : W.length ≤ 16) : ∀ (m x : Nat), Clo W x.testBit → ordC W.length (rdyM W.length (frs (stepsL pr W))) m x = ordC W.length (rdyR W) m x
  | 0, x, _ => rfl
  | m + 1, x, hC => by
    unfold ordC
    split
    · rfl
    · refine sum_congr fun i _ => ?_
      rw [rdy_same hn hC]
      cases hr : rdyR W x i with
      | false => rfl
      | true =>
        simp only [if_true]
        exact ordC_same hn m _ (clo_orR hC hr)
theorem ordN_same {pr : Nat} {W : List Wk} (hn : W.length ≤ 16) {x : Nat} (hC : Clo W x.testBit) : ordN W.length (rdyM W.length (frs (stepsL pr W))) x = ordN W.length (rdyR W) x := ordC_same hn _ _ hC
theorem clo_zero (W : List Wk) : Clo W (0 : Nat).testBit := fun a b h => by simp at h
end
end Go.Proofs.Ytcjbjlepgdggpaa
