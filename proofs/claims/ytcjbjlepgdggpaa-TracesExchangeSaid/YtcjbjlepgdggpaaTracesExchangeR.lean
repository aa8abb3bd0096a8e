/- After exchanges of neighbours that do not touch a sheet is the same lace, in the order of Match; its least order and its levels are the same; after a change of one work it is not the same lace (of at most 80 works). -/
import Derived.Test.YtcjbjlepgdggpaaTND
import Derived.Test.YtcjbjlepgdggpaaTNE
namespace Go.Proofs.Ytcjbjlepgdggpaa
open Go.ChangeShapes Go.WideShapes Go.ChangeAt Go.RowKit

theorem exchange_row (s : Sh) (zs : List Nat) (n : Nat) (v0 v1 : Value) (w : World) (h0 : SV0 w v0 s) (_ : (Lit.int .i64 s.pr).wf = true) (h1 : HS w v1 zs) (hn : n < 256) : Calls Try.prog 8 #[v0, v1, .int .u8 (n : Int)] w fun e w' => e = .returned (.bool true) ∧ Below w.heap.size w w' := by
  obtain ⟨ua, uc, rfl, hu, hc⟩ := h0
  obtain ⟨ha, hcc, rfl, h2, h3, h4⟩ := id h1
  exact exchange_law s ua ha uc hcc n zs w hu hc h1 hn
set_option maxRecDepth 100000 in
theorem tracesExchange_lifted (os : Os) (started : os.Started) (H : Type) (enc : TypeId × Value → H) :
    ReturnsInHanded {} Try.checked os 8 .any (Rows.tracesExchangeSpec.pre6 enc Try.prog Try.f8 Rows.tracesExchangeRow.domain false) (Rows.tracesExchangeSpec.post enc Try.prog Try.f8 false true false false) := by
  refine returnsInHanded_of_change (C := Try.checked) own started (by kernel_rfl) Try.func8
    (ChangeSpec.witness6 (enc := enc) (C := Try.checked) false ⟨#[], #[.agg #[.int .i64 0, .slice none 0 0], .slice none 0 0, .int .u8 0], []⟩ 8 (by kernel_rfl) (by kernel_rfl) (by kernel_rfl) (by kernel_rfl)) ?_
  intro W base args ds gs before hval0 hW hcnd _
  have hval : ∀ (j : Nat) t v, Try.f8.params[j]? = some t → args[j]? = some v → Value.okWide Try.prog W .any base t v := hval0
  have hW' := hW
  obtain ⟨p, q, hA0, hV, rfl, _, _⟩ := hW
  have hA : DataW.TrodAll enc Try.prog W 0 (fun _ => true) true Try.f8.params.toList args.toList ds p := hA0
  rw [Try.params8] at hA hval
  obtain ⟨v0, v1, v2, d0, d1, d2, p0, p1, p2, rfl, rfl, hp, h0, h1, h2⟩ := trodAll_three hA
  obtain ⟨rfl, rfl⟩ := trodVars_none hV
  simp only [List.append_nil] at hW'
  have hlt : ∀ x ∈ p, x.block < W.heap.size := fun x hx => hW'.lt x hx
  have t0 := fun (W' : World) (hb : Below W.heap.size W W') => Below.trod (W' := W') laidOut0 (by kernel_rfl) (of_decide_eq_true (by kernel_rfl)) h0 hb (fun x hx => hlt x (by rw [hp]; simp [hx]))
  have t1 := fun (W' : World) (hb : Below W.heap.size W W') => Below.trod (W' := W') laidOut0 (by kernel_rfl) (of_decide_eq_true (by kernel_rfl)) h1 hb (fun x hx => hlt x (by rw [hp]; simp [hx]))
  have t2 := fun (W' : World) (hb : Below W.heap.size W W') => Below.trod (W' := W') laidOut0 (by kernel_rfl) (of_decide_eq_true (by kernel_rfl)) h2 hb (fun x hx => hlt x (by rw [hp]; simp [hx]))
  have tA : ∀ W', Below W.heap.size W W' → DataW.TrodAll enc Try.prog W' 0 (fun b => decide (b < W.heap.size)) true [24, 46, 5] [v0, v1, v2] [d0, d1, d2] p := fun W' hb => by rw [hp, List.append_assoc]; exact trodAll_mk3 (t0 W' hb) (t1 W' hb) (t2 W' hb)
  obtain ⟨s0, hs0, hw0⟩ := open_sv0 (hval 0 24 v0 rfl rfl) h0
  obtain ⟨zs1, hs1⟩ := open_hs (hval 1 46 v1 rfl rfl) h1
  obtain ⟨m2, rfl, _, _, wm2⟩ := open_int Try.underlying5 (hval 2 5 v2 rfl rfl) h2
  obtain ⟨n2, rfl, hn2⟩ := u8_rng wm2
  refine (exchange_row s0 zs1 n2 v0 v1 W hs0 hw0 hs1 hn2).mono fun e W' ⟨he, hb⟩ => ?_
  subst he
  exact ⟨_, rfl, _, _, _, [], p, [], hW', trodAll_mk1 (shut_bool Try.underlying4 _), tA W' hb, rfl, hb.frame _, fun h => by cases h⟩

theorem tracesExchange_holds : Rows.TracesExchangeSaid :=
  OpenClaim.holds_of_wide 8 Try.f8 rfl rfl rfl rfl rfl rfl rfl ⟨rfl, rfl, rfl, rfl, rfl⟩ rfl rfl rfl rfl rfl (by kernel_rfl) Try.func8 (by kernel_rfl)
    (of_decide_eq_true (by kernel_rfl)) (by unfold Func.isWrapper; first | (rw [if_pos (by decide +kernel)]; kernel_rfl) | (rw [if_neg (by decide +kernel)]; exact ⟨rfl, rfl⟩))
    (fun os started H enc _ => tracesExchange_lifted os started H enc)
#print axioms tracesExchange_holds
end Go.Proofs.Ytcjbjlepgdggpaa
