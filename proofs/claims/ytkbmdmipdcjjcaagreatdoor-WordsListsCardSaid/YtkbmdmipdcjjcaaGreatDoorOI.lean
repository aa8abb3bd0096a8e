/- An argument of numbers, whatever it is. -/
import Derived.Test.YtkbmdmipdcjjcaaGreatDoorV
import Derived.ChangeSlices
import Derived.Carry
import Derived.Laws.Cover1
namespace Go.Proofs.YtkbmdmipdcjjcaaGreatDoor
open Go.ChangeShapes Go.WideShapes Go.ChangeAt Go.RowKit

set_option maxRecDepth 100000 in
theorem open_il {H : Type} {enc : TypeId × Value → H} {W : World} {v0 : Value} {d0 : DataW H} {p0 : List MemPlace} {base : Nat} (hok : Value.okWide Tryz.prog W .any base 22 v0)
    (h : DataW.Trod enc Tryz.prog W 0 (fun _ => true) true 22 v0 d0 p0) :
    ∃ (zs : List Int) (a : Option Addr) (cap : Nat), v0 = .slice a zs.length cap ∧ SInt W (.slice a zs.length cap) zs ∧ zs.length ≤ cap ∧ zs.length ≤ maxLen ∧ ∀ z ∈ zs, -9223372036854775808 ≤ z ∧ z ≤ 9223372036854775807 := by
  obtain ⟨a0, len0, cap0, rfl⟩ := okWide_slice Tryz.underlying22 hok
  obtain ⟨fuel, hf⟩ := h
  have hf' : DataW.trod enc Tryz.prog W 0 (fun _ => true) true fuel 22 [.slice a0 len0 cap0] = some (d0, p0) := by simpa [Value.cells] using hf
  rcases open_ints Tryz.underlying22 Tryz.underlying3 (by kernel_rfl) hf' with ⟨hcs, _⟩ | ⟨a, len, cap, zs, hcs, _, hle, hcm, hz, _, hcell, hwf⟩
  · have e := (List.cons.inj hcs).1
    rw [e]
    exact ⟨[], none, 0, rfl, ⟨none, 0, rfl, fun hp => absurd hp (by simp)⟩, Nat.le_refl _, Nat.zero_le _, fun z hz => by cases hz⟩
  · have e := (List.cons.inj hcs).1
    rw [e]
    simp only [if_true] at hz
    have hl : (zs.take len).length = len := by rw [List.length_take]; omega
    have hcl : len ≤ maxLen := by omega
    refine ⟨zs.take len, some a, cap, by rw [hl], ⟨some a, cap, rfl, fun hp => ?_⟩, by rw [hl]; exact hle, by rw [hl]; exact hcl, fun z hzm => ?_⟩
    · rw [hl] at hp
      have c0 := hcell 0 (by omega)
      obtain ⟨b, off, spot⟩ := a
      have hspot : spot = none := by simpa [Addr.add] using World.cell?_spot c0
      subst hspot
      refine ⟨b, off, rfl, ?_, fun j hj => ?_⟩
      · have := block_lt_of_cell c0
        rw [Go.WideShapes.add_plain] at this
        exact this
      · rw [hl] at hj
        have cj := hcell j (by omega)
        rw [Go.WideShapes.add_plain] at cj
        rw [cj]
        have : (zs.take len).getD j 0 = zs.getD j 0 := by simp [List.getD, hj]
        rw [this]
    · have := hwf z (List.mem_of_mem_take hzm)
      unfold Lit.wf at this
      simp only [Bool.and_eq_true, decide_eq_true_eq] at this
      exact ⟨this.1, this.2⟩
end Go.Proofs.YtkbmdmipdcjjcaaGreatDoor
