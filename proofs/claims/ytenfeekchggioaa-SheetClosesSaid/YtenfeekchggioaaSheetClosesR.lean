/- SheetCloses: Before is transitive, and goes forward; a closed set with a work that is ready is closed; each chain is one (of at most 100 works): for every sheet, every three numbers and every list of numbers the law returns true. -/
import Derived.Test.YtenfeekchggioaaPU
import Derived.Test.YtenfeekchggioaaPV
namespace Go.Proofs.Ytenfeekchggioaa
open Go.ChangeShapes Go.WideShapes Go.ChangeAt Go.RowKit

set_option maxRecDepth 100000 in
theorem sheetCloses_lifted (os : Os) (started : os.Started) (H : Type) (enc : TypeId × Value → H) :
    ReturnsInHanded {} Try.checked os 8 .any (Rows.sheetClosesSpec.pre6 enc Try.prog Try.f8 Rows.sheetClosesRow.domain false) (Rows.sheetClosesSpec.post enc Try.prog Try.f8 false true false false) := by
  refine returnsInHanded_of_change (C := Try.checked) own started (by kernel_rfl) Try.func8
    (ChangeSpec.witness6 (enc := enc) (C := Try.checked) false ⟨#[], #[.agg #[.int .i64 0, .slice none 0 0], .agg #[.int .u16 0, .int .u16 0, .int .u16 0], .slice none 0 0], []⟩ 8 (by kernel_rfl) (by kernel_rfl) (by kernel_rfl) (by kernel_rfl)) ?_
  intro W base args ds gs before hval0 hW hcnd _
  have hval : ∀ (j : Nat) t v, Try.f8.params[j]? = some t → args[j]? = some v → Value.okWide Try.prog W .any base t v := hval0
  have hW' := hW
  obtain ⟨p, q, hA0, hV, rfl, _, _⟩ := hW
  have hA : DataW.TrodAll enc Try.prog W 0 (fun _ => true) true Try.f8.params.toList args.toList ds p := hA0
  rw [Try.params8] at hA hval
  obtain ⟨v0, v1, v2, d0, d1, d2, p0, p1, p2, rfl, rfl, hp, h0, h1, h2⟩ := trodAll_three hA
  obtain ⟨rfl, rfl⟩ := trodVars_none hV
  simp only [List.append_nil] at hW'
  have hlt : ∀ x ∈ p, x.block < W.heap.size := fun x hx => hW'.lt x hx
  have t0 := fun (W' : World) (hb : Below W.heap.size W W') => Below.trod (W' := W') laidOut0 (by kernel_rfl) (of_decide_eq_true (by kernel_rfl)) h0 hb (fun x hx => hlt x (by rw [hp]; simp [hx]))
  have t1 := fun (W' : World) (hb : Below W.heap.size W W') => Below.trod (W' := W') laidOut0 (by kernel_rfl) (of_decide_eq_true (by kernel_rfl)) h1 hb (fun x hx => hlt x (by rw [hp]; simp [hx]))
  have t2 := fun (W' : World) (hb : Below W.heap.size W W') => Below.trod (W' := W') laidOut0 (by kernel_rfl) (of_decide_eq_true (by kernel_rfl)) h2 hb (fun x hx => hlt x (by rw [hp]; simp [hx]))
  have tA : ∀ W', Below W.heap.size W W' → DataW.TrodAll enc Try.prog W' 0 (fun b => decide (b < W.heap.size)) true [24, 50, 33] [v0, v1, v2] [d0, d1, d2] p := fun W' hb => by rw [hp, List.append_assoc]; exact trodAll_mk3 (t0 W' hb) (t1 W' hb) (t2 W' hb)
  obtain ⟨s0, hs0, hw0⟩ := open_sv (hval 0 24 v0 rfl rfl) h0
  obtain ⟨xa1, xb1, xc1, rfl, hxa1, hxb1, hxc1⟩ := open_h3 (hval 1 50 v1 rfl rfl) h1
  obtain ⟨zs2, hs2, hz2⟩ := open_is (hval 2 33 v2 rfl rfl) h2
  refine (closes_row s0 xa1 xb1 xc1 zs2 v0 v2 W hs0 hw0 hxa1 hxb1 hxc1 hs2 hz2).mono fun e W' ⟨he, hb⟩ => ?_
  subst he
  exact ⟨_, rfl, _, _, _, [], p, [], hW', trodAll_mk1 (shut_bool Try.underlying4 _), tA W' hb, rfl, hb.frame _, fun h => by cases h⟩

theorem sheetCloses_holds : Rows.SheetClosesSaid :=
  OpenClaim.holds_of_wide 8 Try.f8 rfl rfl rfl rfl rfl rfl rfl ⟨rfl, rfl, rfl, rfl, rfl⟩ rfl rfl rfl rfl rfl (by kernel_rfl) Try.func8 (by kernel_rfl)
    (of_decide_eq_true (by kernel_rfl)) (by unfold Func.isWrapper; first | (rw [if_pos (by decide +kernel)]; kernel_rfl) | (rw [if_neg (by decide +kernel)]; exact ⟨rfl, rfl⟩))
    (fun os started H enc _ => sheetCloses_lifted os started H enc)
#print axioms sheetCloses_holds
end Go.Proofs.Ytenfeekchggioaa
