/- Two sheets beside each other have as many orders as both have, multiplied, times the ways to choose the works of the first one (of at most 12 works, 24 pairs together). -/
import Derived.Test.YtcjbjlepgdggpaaTBF
import Derived.Test.YtcjbjlepgdggpaaTNE
namespace Go.Proofs.Ytcjbjlepgdggpaa
open Go.ChangeShapes Go.WideShapes Go.ChangeAt Go.RowKit

theorem wf_rng {n : Int} (h : (Lit.int .i64 n).wf = true) : -9223372036854775808 ≤ n ∧ n ≤ 9223372036854775807 := by
  unfold Lit.wf at h
  simp only [Bool.and_eq_true, decide_eq_true_eq] at h
  exact ⟨h.1, h.2⟩
theorem beside_row (a b : Sh) (v0 v1 : Value) (w : World) (h0 : SV0 w v0 a) (hw0 : (Lit.int .i64 a.pr).wf = true) (h1 : SV w v1 b) (hw1 : (Lit.int .i64 b.pr).wf = true) : Calls Try.prog 12 #[v0, v1] w fun e w' => e = .returned (.bool true) ∧ Below w.heap.size w w' := by
  obtain ⟨ua, uc, rfl, hu, hc⟩ := h0
  obtain ⟨v, rfl, hv⟩ := h1
  obtain ⟨va, vc, rfl, _⟩ := id hv
  exact beside_law a b ua va uc vc w hu hc hv (wf_rng hw0) (wf_rng hw1)
set_option maxRecDepth 100000 in
theorem tracesBeside_lifted (os : Os) (started : os.Started) (H : Type) (enc : TypeId × Value → H) :
    ReturnsInHanded {} Try.checked os 12 .any (Rows.tracesBesideSpec.pre6 enc Try.prog Try.f12 Rows.tracesBesideRow.domain false) (Rows.tracesBesideSpec.post enc Try.prog Try.f12 false true false false) := by
  refine returnsInHanded_of_change (C := Try.checked) own started (by kernel_rfl) Try.func12
    (ChangeSpec.witness6 (enc := enc) (C := Try.checked) false ⟨#[], #[.agg #[.int .i64 0, .slice none 0 0], .agg #[.int .i64 0, .slice none 0 0]], []⟩ 8 (by kernel_rfl) (by kernel_rfl) (by kernel_rfl) (by kernel_rfl)) ?_
  intro W base args ds gs before hval0 hW hcnd _
  have hval : ∀ (j : Nat) t v, Try.f12.params[j]? = some t → args[j]? = some v → Value.okWide Try.prog W .any base t v := hval0
  have hW' := hW
  obtain ⟨p, q, hA0, hV, rfl, _, _⟩ := hW
  have hA : DataW.TrodAll enc Try.prog W 0 (fun _ => true) true Try.f12.params.toList args.toList ds p := hA0
  rw [Try.params12] at hA hval
  obtain ⟨v0, v1, d0, d1, p0, p1, rfl, rfl, hp, h0, h1⟩ := trodAll_two hA
  obtain ⟨rfl, rfl⟩ := trodVars_none hV
  simp only [List.append_nil] at hW'
  have hlt : ∀ x ∈ p, x.block < W.heap.size := fun x hx => hW'.lt x hx
  have t0 := fun (W' : World) (hb : Below W.heap.size W W') => Below.trod (W' := W') laidOut0 (by kernel_rfl) (of_decide_eq_true (by kernel_rfl)) h0 hb (fun x hx => hlt x (by rw [hp]; simp [hx]))
  have t1 := fun (W' : World) (hb : Below W.heap.size W W') => Below.trod (W' := W') laidOut0 (by kernel_rfl) (of_decide_eq_true (by kernel_rfl)) h1 hb (fun x hx => hlt x (by rw [hp]; simp [hx]))
  have tA : ∀ W', Below W.heap.size W W' → DataW.TrodAll enc Try.prog W' 0 (fun b => decide (b < W.heap.size)) true [24, 24] [v0, v1] [d0, d1] p := fun W' hb => by rw [hp]; exact trodAll_mk2 (t0 W' hb) (t1 W' hb)
  obtain ⟨s0, hs0, hw0⟩ := open_sv0 (hval 0 24 v0 rfl rfl) h0
  obtain ⟨s1, hs1, hw1⟩ := open_sv (hval 1 24 v1 rfl rfl) h1
  refine (beside_row s0 s1 v0 v1 W hs0 hw0 hs1 hw1).mono fun e W' ⟨he, hb⟩ => ?_
  subst he
  exact ⟨_, rfl, _, _, _, [], p, [], hW', trodAll_mk1 (shut_bool Try.underlying4 _), tA W' hb, rfl, hb.frame _, fun h => by cases h⟩

theorem tracesBeside_holds : Rows.TracesBesideSaid :=
  OpenClaim.holds_of_wide 12 Try.f12 rfl rfl rfl rfl rfl rfl rfl ⟨rfl, rfl, rfl, rfl, rfl⟩ rfl rfl rfl rfl rfl (by kernel_rfl) Try.func12 (by kernel_rfl)
    (of_decide_eq_true (by kernel_rfl)) (by unfold Func.isWrapper; first | (rw [if_pos (by decide +kernel)]; kernel_rfl) | (rw [if_neg (by decide +kernel)]; exact ⟨rfl, rfl⟩))
    (fun os started H enc _ => tracesBeside_lifted os started H enc)
#print axioms tracesBeside_holds
end Go.Proofs.Ytcjbjlepgdggpaa
