/- P1.5 and P1.7: whatever the fields, the law of joins returns true: Join returns what the document says, and Split of what it returns is the fields (the row lists the package variables that it reads; the card ties them to the program's text). -/
import Derived.Test.YtjddleipancaoaaGreatDoorSI
import Derived.Test.YtjddleipancaoaaGreatDoorCards
import Derived.Test.YtjddleipancaoaaGreatDoorTie
import Derived.SevenTiedAt
import Derived.Deep.SlicePairs
import Derived.Carry
namespace Go.Proofs.YtjddleipancaoaaGreatDoor
open Go.ChangeShapes Go.WideShapes Go.ChangeAt Go.RowKit

theorem fieldTypes : ∃ f0 f1 : Field, Tryz.prog.underlying 42 = some (.struct #[f0, f1]) ∧ f0.offset = 0 ∧ f1.offset = 1 ∧ f0.type = 4 ∧ f1.type = 9 := ⟨_, _, Tryz.underlying42, rfl, rfl, rfl, rfl⟩
theorem laidOut0 : laidOutB Tryz.prog = true := by kernel_rfl
set_option maxRecDepth 100000 in
/-- An argument of fields, whatever it is. -/
theorem open_fields {H : Type} {enc : TypeId × Value → H} {W : World} {v0 : Value} {d0 : DataW H} {p0 : List MemPlace} {base : Nat} (hok : Value.okWide Tryz.prog W .any base 31 v0)
    (h : DataW.Trod enc Tryz.prog W 0 (fun _ => true) true 31 v0 d0 p0) : ∃ fs : List Fld, SFld W v0 fs ∧ fs.length ≤ maxLen ∧ ∀ f ∈ fs, f.2.length ≤ maxLen := by
  obtain ⟨a0, len0, cap0, rfl⟩ := okWide_slice Tryz.underlying31 hok
  obtain ⟨fuel, hf⟩ := h
  have hf' : DataW.trod enc Tryz.prog W 0 (fun _ => true) true fuel 31 [.slice a0 len0 cap0] = some (d0, p0) := by simpa [Value.cells] using hf
  obtain ⟨f0, f1, hu, o0, o1, t0, t1⟩ := fieldTypes
  rcases Go.Deep.open_slice_pairs Tryz.underlying31 hu (by kernel_rfl) o0 o1 (by rw [t0]; kernel_rfl) (by rw [t1]; kernel_rfl) hf' with ⟨hcs, _⟩ | ⟨a, len, cap, m, n, V0, V1, D0, D1, P0, P1, hcs, _, hle, hcm, hm, _, hcell⟩
  · have e := (List.cons.inj hcs).1
    rw [e]
    exact ⟨[], ⟨none, 0, rfl, fun hp => absurd hp (by simp)⟩, Nat.zero_le _, fun f hf => by simp at hf⟩
  · have e := (List.cons.inj hcs).1
    rw [e]
    simp only [if_true] at hm
    subst hm
    have each : ∀ i, i < len → ∃ f : Fld, V0 i = .bool f.1 ∧ V1 i = .string ⟨f.2.toArray⟩ ∧ f.2.length ≤ maxLen := by
      intro i hi
      obtain ⟨_, _, x0, x1⟩ := hcell i (by omega)
      rw [t0] at x0
      rw [t1] at x1
      obtain ⟨q, e0, _⟩ := DataW.trod_bool Tryz.underlying4 x0
      obtain ⟨s, e1, _, hs⟩ := DataW.trod_string Tryz.underlying9 x1
      refine ⟨(q, s.data.toList), (List.cons.inj e0).1, ?_, by rw [size_len]; exact hs⟩
      rw [(List.cons.inj e1).1, ba_eq2]
    obtain ⟨F, hF⟩ := Go.Deep.choose_lt each
    refine ⟨(List.range len).map F, ⟨some a, _, by simp; rfl, fun hp => ?_⟩, by simp; unfold maxLen at hcm ⊢; omega, fun f hf => ?_⟩
    · have hp' : 0 < len := by simpa using hp
      obtain ⟨c0, _, _, _⟩ := hcell 0 (by omega)
      obtain ⟨b, off, spot⟩ := a
      have hspot : spot = none := by simpa [Addr.add] using World.cell?_spot c0
      subst hspot
      refine ⟨b, off, rfl, ?_, fun j hj => ?_⟩
      · have := block_lt_of_cell c0
        rw [Go.WideShapes.add_plain] at this
        exact this
      · have hj' : j < len := by simpa using hj
        obtain ⟨c0, c1, _, _⟩ := hcell j (by omega)
        obtain ⟨v0, v1, _⟩ := hF j hj'
        rw [Go.WideShapes.add_plain] at c0 c1
        have eF : ((List.range len).map F)[j] = F j := by simp
        rw [eF, ← v0, ← v1]
        exact ⟨c0, c1⟩
    · obtain ⟨i, hi, rfl⟩ := List.mem_map.1 hf
      exact (hF i (List.mem_range.1 hi)).2.2

set_option maxRecDepth 100000 in
theorem wordsJoins_lifted (os : Os) (started : os.Started) (H : Type) (enc : TypeId × Value → H) :
    ReturnsInHanded {} Tryz.checked os 5 .any (fun w args => (Rows.wordsJoinsSpec.pre enc Tryz.prog Tryz.f5 [] false w args ∧ laidMetH Tryz.prog laidL w) ∧ sizedMet enc Tryz.prog Tryz.f5 (OpenSpec.ofChange Rows.wordsJoinsSpec) false w args)
      (Rows.wordsJoinsSpec.post enc Tryz.prog Tryz.f5 false true false false) := by
  refine wrap started (by kernel_rfl) Tryz.func5
    (ChangeSpec.witness_shaped (enc := enc) (C := Tryz.checked) (os := os) (X := fun w _ => laidMetH Tryz.prog laidL w) false (World.laidAll Tryz.prog os laidL) #[.slice none 0 0] 8 (World.laidAll_os _ _ _)
      (World.shaped_of_ZipB (by kernel_rfl) (by kernel_rfl)) (by kernel_rfl) (by kernel_rfl) (by kernel_rfl)
      (by rw [MakeChecks.laidMetH_plain _ _ _ (by kernel_rfl)]; exact laidMet_laidAll _ (by kernel_rfl) (by kernel_rfl))) ?_
  intro W base args ds gs before hval0 hW g
  have hval : ∀ (j : Nat) t v, Tryz.f5.params[j]? = some t → args[j]? = some v → Value.okWide Tryz.prog W .any base t v := hval0
  have hW' := hW
  obtain ⟨p, q, hA0, hV, rfl, _, _⟩ := hW
  have hA : DataW.TrodAll enc Tryz.prog W 0 (fun _ => true) true Tryz.f5.params.toList args.toList ds p := hA0
  rw [Tryz.params5] at hA hval
  obtain ⟨v0, d0, rfl, rfl, h0⟩ := trodAll_one hA
  obtain ⟨rfl, rfl⟩ := trodVars_none hV
  simp only [List.append_nil] at hW'
  have hok := hval 0 31 v0 rfl rfl
  obtain ⟨fs, hv, hl, hz⟩ := open_fields hok h0
  refine (joins_any fs v0 W g hv hl hz).mono fun e W' ⟨he, hb⟩ => ?_
  subst he
  exact ⟨_, rfl, _, _, _, [], p, [], hW', trodAll_mk1 (shut_bool Tryz.underlying4 _), trodAll_mk1 (Below.trod laidOut0 (by kernel_rfl) (of_decide_eq_true (by kernel_rfl)) h0 hb (fun x hx => hW'.lt x hx)), rfl, hb.frame _, fun h => by cases h⟩

theorem wordsJoins_holds : Rows.WordsJoinsSaid :=
  OpenClaim.holds_of_wide 5 Tryz.f5 rfl rfl rfl rfl rfl rfl rfl ⟨rfl, rfl, rfl, rfl, rfl⟩ rfl rfl rfl rfl rfl (by kernel_rfl) Tryz.func5 (by kernel_rfl)
    (of_decide_eq_true (by kernel_rfl)) (by unfold Func.isWrapper; first | (rw [if_pos (by decide +kernel)]; kernel_rfl) | (rw [if_neg (by decide +kernel)]; exact ⟨rfl, rfl⟩))
    (fun os started H enc _ => wordsJoins_lifted os started H enc)
theorem wordsJoins_card : Rows.WordsJoinsCardSaid :=
  Claim7.holds_tied_plain_at .later [] [.data, .data, .data, .data, .sentinel, .sentinel, .data, .pinned] true (true, "f5d67cd0ad20d75af88153dc7cad5f0ac92f5ca351b2323fbf76baa9ec81f798") true
    wordsJoins_holds (fun _ h => by cases h) (by kernel_rfl) (fun _ h => by cases h) wordsJoins_row_tie rfl ⟨rfl, rfl⟩ (by kernel_rfl) rfl
    (fun f fn hf hfn => by
      obtain rfl : f = 5 := Option.some.inj ((show Tryz.prog.funcNamed "torchon/torchonlaw01.WordsJoins" = some 5 by kernel_rfl).symm.trans hf) |>.symm
      obtain rfl : fn = Tryz.f5 := (Option.some.inj (Tryz.func5.symm.trans hfn)).symm
      exact ⟨by kernel_rfl, fun j t ht => by
        rw [Tryz.params5] at ht
        have hm : t ∈ [31] := by simpa using Array.mem_of_getElem? ht
        have hall : ([31].all fun u => !Tryz.prog.wantsStandIn u) = true := by kernel_rfl
        exact (show Tryz.prog.wantsStandIn t = false by simpa using List.all_eq_true.1 hall t hm)⟩)
    (by kernel_rfl)
#print axioms wordsJoins_card
end Go.Proofs.YtjddleipancaoaaGreatDoor
