/- P9.4: whatever the name and the sizes, Names, Make and Width of the program answer as the document says, and the examples do. -/
import Derived.Test.YtabpjiidbailiaaXH
import Derived.Test.YtabpjiidbailiaaXI
namespace Go.Proofs.Ytabpjiidbailiaa
open Go.ChangeShapes Go.WideShapes Go.ChangeAt Go.RowKit

set_option maxRecDepth 100000 in
theorem motifsNames_lifted (os : Os) (started : os.Started) (H : Type) (enc : TypeId × Value → H) :
    ReturnsInHanded {} Try.checked os 4 .any (Rows.motifsNamesSpec.pre6 enc Try.prog Try.f4 Rows.motifsNamesRow.domain false) (Rows.motifsNamesSpec.post enc Try.prog Try.f4 false true false false) := by
  refine returnsInHanded_of_change (C := Try.checked) own started (by kernel_rfl) Try.func4
    (ChangeSpec.witness6 (enc := enc) (C := Try.checked) false ⟨#[], #[.string ⟨#[]⟩, .slice none 0 0], []⟩ 8 (by kernel_rfl) (by kernel_rfl) (by kernel_rfl) (by kernel_rfl)) ?_
  intro W base args ds gs before hval0 hW hcnd _
  have hval : ∀ (j : Nat) t v, Try.f4.params[j]? = some t → args[j]? = some v → Value.okWide Try.prog W .any base t v := hval0
  have hW' := hW
  obtain ⟨p, q, hA0, hV, rfl, _, _⟩ := hW
  have hA : DataW.TrodAll enc Try.prog W 0 (fun _ => true) true Try.f4.params.toList args.toList ds p := hA0
  rw [Try.params4] at hA hval
  obtain ⟨v0, v1, d0, d1, p0, p1, rfl, rfl, hp, h0, h1⟩ := trodAll_two hA
  obtain ⟨rfl, rfl⟩ := trodVars_none hV
  simp only [List.append_nil] at hW'
  have hlt : ∀ x ∈ p, x.block < W.heap.size := fun x hx => hW'.lt x hx
  have t0 := fun (W' : World) (hb : Below W.heap.size W W') => Below.trod (W' := W') laidOut0 (by kernel_rfl) (of_decide_eq_true (by kernel_rfl)) h0 hb (fun x hx => hlt x (by rw [hp]; simp [hx]))
  have t1 := fun (W' : World) (hb : Below W.heap.size W W') => Below.trod (W' := W') laidOut0 (by kernel_rfl) (of_decide_eq_true (by kernel_rfl)) h1 hb (fun x hx => hlt x (by rw [hp]; simp [hx]))
  have tA : ∀ W', Below W.heap.size W W' → DataW.TrodAll enc Try.prog W' 0 (fun b => decide (b < W.heap.size)) true [9, 33] [v0, v1] [d0, d1] p := fun W' hb => by rw [hp]; exact trodAll_mk2 (t0 W' hb) (t1 W' hb)
  obtain ⟨s0, rfl, _, _, ws0⟩ := Go.ChangeMaps.open_string Try.underlying9 (hval 0 9 v0 rfl rfl) h0
  obtain ⟨zs1, hs1, hz1⟩ := open_is (hval 1 33 v1 rfl rfl) h1
  refine (names_row s0 zs1 v1 W ws0 hs1 hz1).mono fun e W' ⟨he, hb⟩ => ?_
  subst he
  exact ⟨_, rfl, _, _, _, [], p, [], hW', trodAll_mk1 (shut_bool Try.underlying4 _), tA W' hb, rfl, hb.frame _, fun h => by cases h⟩

theorem motifsNames_holds : Rows.MotifsNamesSaid :=
  OpenClaim.holds_of_wide 4 Try.f4 rfl rfl rfl rfl rfl rfl rfl ⟨rfl, rfl, rfl, rfl, rfl⟩ rfl rfl rfl rfl rfl (by kernel_rfl) Try.func4 (by kernel_rfl)
    (of_decide_eq_true (by kernel_rfl)) (by unfold Func.isWrapper; first | (rw [if_pos (by decide +kernel)]; kernel_rfl) | (rw [if_neg (by decide +kernel)]; exact ⟨rfl, rfl⟩))
    (fun os started H enc _ => motifsNames_lifted os started H enc)
#print axioms motifsNames_holds
end Go.Proofs.Ytabpjiidbailiaa
