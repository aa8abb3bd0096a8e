/- The examples that every law of layer 3 calls. -/
import Derived.Test.YtmefpaoakblndaaGreatDoorZA
import Derived.Test.YtmefpaoakblndaaGreatDoorVS
import Derived.Test.YtmefpaoakblndaaGreatDoorVO
namespace Go.Proofs.YtmefpaoakblndaaGreatDoor
open Go.RowKit
set_option linter.unusedSimpArgs false
theorem ex_crossings (w : World) : Calls Tryz.prog 10 #[.string ⟨#[67, 84, 67]⟩] w fun e w' => ∃ v, e = .returned (.tuple #[v, .int .i64 0]) ∧ IS w' v [2, -1, -3, 2] ∧ Below w.heap.size w w' := by
  have h := Crossings_any ⟨#[67, 84, 67]⟩ (by decide) w
  rw [show stV ⟨#[67, 84, 67]⟩ = 0 by decide +kernel, show crossV ⟨#[67, 84, 67]⟩ = [2, -1, -3, 2] by decide +kernel] at h
  exact h
theorem ex_places (w : World) : Calls Tryz.prog 12 #[.string ⟨#[67, 84, 67, 84]⟩] w fun e w' => ∃ v, e = .returned (.tuple #[v, .int .i64 0]) ∧ IS w' v [4, 3, 2, 1] ∧ Below w.heap.size w w' := by
  have h := Places_any ⟨#[67, 84, 67, 84]⟩ (by decide) w
  rw [show stV ⟨#[67, 84, 67, 84]⟩ = 0 by decide +kernel, show placeV ⟨#[67, 84, 67, 84]⟩ = [4, 3, 2, 1] by decide +kernel] at h
  exact h
theorem ex_reduce (w : World) (g : Glob w) : Calls Tryz.prog 25 #[.string ⟨#[67, 84, 108, 114, 116, 99, 67]⟩] w fun e w' => e = .returned (.tuple #[.string ⟨#[67, 116]⟩, .int .i64 0]) ∧ Below w.heap.size w w' := by
  have h := Reduce_ok ⟨#[67, 84, 108, 114, 116, 99, 67]⟩ (by decide +kernel) (by unfold R12; decide +kernel) (by decide) w g
  rw [show (Lib.join ((splitL 80 (⟨#[67, 84, 108, 114, 116, 99, 67]⟩ : ByteArray).data.toList).map redL) [80]) = [67, 116] by decide +kernel] at h
  exact h
theorem ex_same (w : World) (g : Glob w) : Calls Tryz.prog 27 #[.string ⟨#[67, 76, 82, 67]⟩, .string ⟨#[67, 84, 67]⟩] w fun e w' => e = .returned (.tuple #[.bool true, .int .i64 0]) ∧ Below w.heap.size w w' := by
  have h0 : sameE ⟨#[67, 76, 82, 67]⟩ ⟨#[67, 84, 67]⟩ = 0 := by decide +kernel
  have hw : SameW ⟨#[67, 76, 82, 67]⟩ ⟨#[67, 84, 67]⟩ := by
    unfold SameW
    rw [show splitL 80 (⟨#[67, 76, 82, 67]⟩ : ByteArray).data.toList = [[67, 76, 82, 67]] by decide +kernel, show splitL 80 (⟨#[67, 84, 67]⟩ : ByteArray).data.toList = [[67, 84, 67]] by decide +kernel]
    refine ⟨rfl, fun k x y hx hy => ?_⟩
    have hk : k = 0 := by
      have := (List.getElem?_eq_some_iff.1 hx).1
      simpa using this
    subst hk
    obtain rfl := Option.some.inj hx
    obtain rfl := Option.some.inj hy
    unfold SameP
    rw [show crW [67, 76, 82, 67] = crW [67, 84, 67] by decide +kernel]
  have h := stSame_any ⟨#[67, 76, 82, 67]⟩ ⟨#[67, 84, 67]⟩ true (fun h => absurd h0 h) (fun _ => ⟨fun _ => hw, fun _ => rfl⟩) (by decide) (by decide) w g
  rw [h0] at h
  exact h
theorem ex_name (w : World) (g : Glob w) : Calls Tryz.prog 31 #[.string ⟨#[67, 84, 67]⟩] w fun e w' => e = .returned (.tuple #[.string ⟨#[99, 108, 111, 116, 104]⟩, .int .i64 0]) ∧ Below w.heap.size w w' := by
  have h := Name_any ⟨#[67, 84, 67]⟩ (by decide) w g
  rw [show namS ⟨#[67, 84, 67]⟩ = ⟨#[99, 108, 111, 116, 104]⟩ by decide +kernel, show namE ⟨#[67, 84, 67]⟩ = 0 by decide +kernel] at h
  exact h
theorem ex_inverse (w : World) : Calls Tryz.prog 19 #[.string ⟨#[67, 84, 80]⟩] w fun e w' => e = .returned (.tuple #[.string ⟨#[80, 116, 99]⟩, .int .i64 0]) ∧ Below w.heap.size w w' := by
  have h := Inverse_any ⟨#[67, 84, 80]⟩ (by decide) w
  rw [show undS ⟨#[67, 84, 80]⟩ = ⟨#[80, 116, 99]⟩ by decide +kernel, show stV ⟨#[67, 84, 80]⟩ = 0 by decide +kernel] at h
  exact h
set_option maxHeartbeats 4000000 in
set_option maxRecDepth 100000 in
theorem shown_any (w : World) (g : Glob w) : Calls Tryz.prog 9 #[] w fun e w' => e = .returned (.bool true) ∧ Below w.heap.size w w' := by
  have HG := Lib.hid g
  clear g
  go_enter Tryz.func9, Tryz.ntmps9
  go_wp2_with fail
  refine (ex_crossings _).mono ?_
  rintro e w1 ⟨v1, rfl, hi1, hb1⟩
  have HI1 := Lib.hid hi1
  have HB1 := Lib.hid hb1
  clear hi1 hb1
  go_wp2_with fail
  refine (ex_places _).mono ?_
  rintro e w2 ⟨v2, rfl, hi2, hb2⟩
  replace HI1 := Lib.hid (HI1.out.below hb2)
  have HI2 := Lib.hid hi2
  have HB2 := Lib.hid (HB1.out.trans (hb2.mono HB1.out.size))
  clear hi2 hb2
  go_wp2_with fail
  refine (ex_reduce _ (HG.out.next HB2.out)).mono ?_
  rintro e w3 ⟨rfl, hb⟩
  replace HI1 := Lib.hid (HI1.out.below hb)
  replace HI2 := Lib.hid (HI2.out.below hb)
  have HB3 := Lib.hid (HB2.out.trans (hb.mono HB2.out.size))
  clear hb
  go_wp2_with fail
  refine (ex_same _ (HG.out.next HB3.out)).mono ?_
  rintro e w4 ⟨rfl, hb⟩
  replace HI1 := Lib.hid (HI1.out.below hb)
  replace HI2 := Lib.hid (HI2.out.below hb)
  have HB4 := Lib.hid (HB3.out.trans (hb.mono HB3.out.size))
  clear hb
  go_wp2_with fail
  refine (ex_name _ (HG.out.next HB4.out)).mono ?_
  rintro e w5 ⟨rfl, hb⟩
  replace HI1 := Lib.hid (HI1.out.below hb)
  replace HI2 := Lib.hid (HI2.out.below hb)
  have HB5 := Lib.hid (HB4.out.trans (hb.mono HB4.out.size))
  clear hb
  go_wp2_with fail
  refine (ex_inverse _).mono ?_
  rintro e w6 ⟨rfl, hb⟩
  replace HI1 := Lib.hid (HI1.out.below hb)
  replace HI2 := Lib.hid (HI2.out.below hb)
  have HB6 := Lib.hid (HB5.out.trans (hb.mono HB5.out.size))
  clear hb
  go_wp2_with fail
  refine (lawsame_any [2, -1, -3, 2] [2, -1, -3, 2] _ _ _ (HI1.out.below (below_alloc _ _)) (is_lit w6 [2, -1, -3, 2] 3 (by decide)) true ⟨fun _ => rfl, fun _ => rfl⟩).mono ?_
  rintro e w7 ⟨rfl, hb⟩
  have hb7 : Below w6.heap.size w6 w7 := (below_alloc _ _).trans (hb.mono (by simp))
  replace HI2 := Lib.hid (HI2.out.below hb7)
  have HB7 := Lib.hid (HB6.out.trans (hb7.mono HB6.out.size))
  clear hb hb7
  go_wp2_with fail
  refine (lawsame_any [4, 3, 2, 1] [4, 3, 2, 1] _ _ _ (HI2.out.below (below_alloc _ _)) (is_lit w7 [4, 3, 2, 1] 3 (by decide)) true ⟨fun _ => rfl, fun _ => rfl⟩).mono ?_
  rintro e w8 ⟨rfl, hb⟩
  have hb8 : Below w7.heap.size w7 w8 := (below_alloc _ _).trans (hb.mono (by simp))
  have HB8 := Lib.hid (HB7.out.trans (hb8.mono HB7.out.size))
  clear hb hb8
  go_wp2_with fail
  go_ret
  exact ⟨by first | rfl | (simp; done), HB8.out⟩
end Go.Proofs.YtmefpaoakblndaaGreatDoor
