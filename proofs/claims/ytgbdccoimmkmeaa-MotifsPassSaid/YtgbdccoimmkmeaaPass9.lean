/- MotifsPass: the row. -/
import Derived.Test.YtgbdccoimmkmeaaXS
import Derived.Test.YtgbdccoimmkmeaaXL
namespace Go.Proofs.Ytgbdccoimmkmeaa
open Go.ChangeShapes Go.WideShapes Go.ChangeAt Go.RowKit

theorem u8_rng {m : Int} (h : (Lit.int .u8 m).wf = true) : ∃ n : Nat, m = (n : Int) ∧ n < 256 := by
  have h' : (decide ((0 : Int) ≤ m) && decide (m ≤ 255)) = true := h
  simp at h'
  exact ⟨m.toNat, by omega, by omega⟩
set_option maxRecDepth 100000 in
theorem motifsPass_lifted (os : Os) (started : os.Started) (H : Type) (enc : TypeId × Value → H) :
    ReturnsInHanded {} Try.checked os 5 .any (Rows.motifsPassSpec.pre6 enc Try.prog Try.f5 Rows.motifsPassRow.domain false) (Rows.motifsPassSpec.post enc Try.prog Try.f5 false true false false) := by
  refine returnsInHanded_of_change (C := Try.checked) own started (by kernel_rfl) Try.func5
    (ChangeSpec.witness6 (enc := enc) (C := Try.checked) false ⟨#[], #[.int .u8 0, .int .u8 0], []⟩ 8 (by kernel_rfl) (by kernel_rfl) (by kernel_rfl) (by kernel_rfl)) ?_
  intro W base args ds gs before hval0 hW hcnd _
  have hval : ∀ (j : Nat) t v, Try.f5.params[j]? = some t → args[j]? = some v → Value.okWide Try.prog W .any base t v := hval0
  have hW' := hW
  obtain ⟨p, q, hA0, hV, rfl, _, _⟩ := hW
  have hA : DataW.TrodAll enc Try.prog W 0 (fun _ => true) true Try.f5.params.toList args.toList ds p := hA0
  rw [Try.params5] at hA hval
  obtain ⟨v0, v1, d0, d1, p0, p1, rfl, rfl, hp, h0, h1⟩ := trodAll_two hA
  obtain ⟨rfl, rfl⟩ := trodVars_none hV
  simp only [List.append_nil] at hW'
  have hlt : ∀ x ∈ p, x.block < W.heap.size := fun x hx => hW'.lt x hx
  have t0 := fun (W' : World) (hb : Below W.heap.size W W') => Below.trod (W' := W') laidOut0 (by kernel_rfl) (of_decide_eq_true (by kernel_rfl)) h0 hb (fun x hx => hlt x (by rw [hp]; simp [hx]))
  have t1 := fun (W' : World) (hb : Below W.heap.size W W') => Below.trod (W' := W') laidOut0 (by kernel_rfl) (of_decide_eq_true (by kernel_rfl)) h1 hb (fun x hx => hlt x (by rw [hp]; simp [hx]))
  have tA : ∀ W', Below W.heap.size W W' → DataW.TrodAll enc Try.prog W' 0 (fun b => decide (b < W.heap.size)) true [5, 5] [v0, v1] [d0, d1] p := fun W' hb => by rw [hp]; exact trodAll_mk2 (t0 W' hb) (t1 W' hb)
  obtain ⟨m0, rfl, _, _, wm0⟩ := open_int Try.underlying5 (hval 0 5 v0 rfl rfl) h0
  obtain ⟨n0, rfl, hn0⟩ := u8_rng wm0
  obtain ⟨m1, rfl, _, _, wm1⟩ := open_int Try.underlying5 (hval 1 5 v1 rfl rfl) h1
  obtain ⟨n1, rfl, hn1⟩ := u8_rng wm1
  refine (pass_law n0 n1 hn0 hn1 W).mono fun e W' ⟨he, hb⟩ => ?_
  subst he
  exact ⟨_, rfl, _, _, _, [], p, [], hW', trodAll_mk1 (shut_bool Try.underlying4 _), tA W' hb, rfl, hb.frame _, fun h => by cases h⟩

theorem motifsPass_holds : Rows.MotifsPassSaid :=
  OpenClaim.holds_of_wide 5 Try.f5 rfl rfl rfl rfl rfl rfl rfl ⟨rfl, rfl, rfl, rfl, rfl⟩ rfl rfl rfl rfl rfl (by kernel_rfl) Try.func5 (by kernel_rfl)
    (of_decide_eq_true (by kernel_rfl)) (by unfold Func.isWrapper; first | (rw [if_pos (by decide +kernel)]; kernel_rfl) | (rw [if_neg (by decide +kernel)]; exact ⟨rfl, rfl⟩))
    (fun os started H enc _ => motifsPass_lifted os started H enc)
#print axioms motifsPass_holds
end Go.Proofs.Ytgbdccoimmkmeaa
