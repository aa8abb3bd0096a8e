/- Taken over: CL. -/
import Derived.Test.YtabpjiidbailiaaXL
import Derived.Test.YtabpjiidbailiaaWA
import Derived.ProofKit
import Derived.OpenShut
import Derived.ChangeSlices
import Derived.Carry
import Derived.Laws.Cover1
namespace Go.Proofs.Ytabpjiidbailiaa
section
open Go.ChangeShapes Go.WideShapes Go.ChangeAt Go.RowKit
set_option maxRecDepth 100000 in
theorem open_is {H : Type} {enc : TypeId × Value → H} {W : World} {v0 : Value} {d0 : DataW H} {p0 : List MemPlace} {base : Nat} (hok : Value.okWide Try.prog W .any base 33 v0)
    (h : DataW.Trod enc Try.prog W 0 (fun _ => true) true 33 v0 d0 p0) :
    ∃ zs : List Int, IS W v0 zs ∧ ∀ z ∈ zs, -9223372036854775808 ≤ z ∧ z ≤ 9223372036854775807 := by
  obtain ⟨a0, len0, cap0, rfl⟩ := okWide_slice Try.underlying33 hok
  obtain ⟨fuel, hf⟩ := h
  have hf' : DataW.trod enc Try.prog W 0 (fun _ => true) true fuel 33 [.slice a0 len0 cap0] = some (d0, p0) := by simpa [Value.cells] using hf
  rcases open_ints Try.underlying33 Try.underlying3 (by kernel_rfl) hf' with ⟨hcs, _⟩ | ⟨a, len, cap, zs, hcs, _, hle, hcm, hz, _, hcell, hwf⟩
  · have e := (List.cons.inj hcs).1
    rw [e]
    exact ⟨[], is_nil W, fun z hz => by cases hz⟩
  · have e := (List.cons.inj hcs).1
    rw [e]
    simp only [if_true] at hz
    have hl : (zs.take len).length = len := by rw [List.length_take]; omega
    refine ⟨zs.take len, ⟨some a, cap, by rw [hl], by omega, hcm, (fun e => by cases e), fun k z hk => ?_⟩, fun z hzm => ?_⟩
    · have hkl := (List.getElem?_eq_some_iff.1 hk).1
      rw [hl] at hkl
      have cj := hcell k (by omega)
      have cz := hcell 0 (by omega)
      obtain ⟨b, off, spot⟩ := a
      have hspot : spot = none := by simpa [Addr.add] using World.cell?_spot cz
      subst hspot
      refine ⟨b, off, rfl, ?_, ?_⟩
      · have := block_lt_of_cell cj
        rw [Go.WideShapes.add_plain] at this
        exact this
      · rw [Go.WideShapes.add_plain] at cj
        rw [cj]
        rw [List.getElem?_take_of_lt hkl] at hk
        simp [List.getD, hk]
    · have := hwf z (List.mem_of_mem_take hzm)
      unfold Lit.wf at this
      simp only [Bool.and_eq_true, decide_eq_true_eq] at this
      exact ⟨this.1, this.2⟩
end
end Go.Proofs.Ytabpjiidbailiaa
