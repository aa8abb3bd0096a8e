/- Same; the examples of every law. -/
import Derived.Test.YtcjbjlepgdggpaaTR
namespace Go.Proofs.Ytcjbjlepgdggpaa
open Go.RowKit Go.Shelf Go.Lib
set_option maxRecDepth 100000
set_option linter.unusedSimpArgs false
attribute [local irreducible] wpQuiet
def smB (a b : Sh) : Bool := decide (mE a b = 0)
def smE (a b : Sh) : Int := if mE a b = 4 then 0 else mE a b
set_option maxHeartbeats 4000000 in
set_option maxRecDepth 100000 in
theorem Same_any (a b : Sh) (u v : Value) (w : World) (hu : WS w u a.ws) (hv : WS w v b.ws) :
    Calls Try.prog 15 #[.agg #[.int .i64 a.pr, u], .agg #[.int .i64 b.pr, v]] w fun e w' => e = .returned (.tuple #[.bool (smB a b), .int .i64 (smE a b)]) ∧ Below w.heap.size w w' := by
  have HU := Lib.hid hu
  have HV := Lib.hid hv
  obtain ⟨ua, uc, rfl, k1, k2, _⟩ := id hu
  obtain ⟨va, vc, rfl, k3, k4, _⟩ := id hv
  have CM := Lib.hid (fun W h1 h2 => Match_any a b (.slice ua a.ws.length uc) (.slice va b.ws.length vc) W h1 h2)
  have HB := Lib.hid (show smB a b = decide (mE a b = 0) from rfl)
  have HE := Lib.hid (show smE a b = if mE a b = 4 then 0 else mE a b from rfl)
  generalize smB a b = sb at *
  generalize smE a b = se at *
  generalize mE a b = me at *
  clear hu hv
  go_enter Try.func15, Try.ntmps15
  go_wp2_with fail
  have B0 : Below w.heap.size w ((w.alloc (.cells #[.int .i64 a.pr, .slice ua a.ws.length uc] 24)).alloc (.cells #[.int .i64 b.pr, .slice va b.ws.length vc] 24)) := (below_alloc _ _).alloc (by simp) _
  generalize (w.alloc (.cells #[.int .i64 a.pr, .slice ua a.ws.length uc] 24)).alloc (.cells #[.int .i64 b.pr, .slice va b.ws.length vc] 24) = W0 at *
  refine (CM.out W0 (HU.out.below B0) (HV.out.below B0)).mono ?_
  rintro e w1 ⟨lv, rfl, how, b1⟩
  have HB1 := Lib.hid (bon B0 b1)
  obtain ⟨la, lc, rfl⟩ := own_form how
  clear CM B0 b1 how
  by_cases h4 : me = 4
  · subst h4
    have e1 : sb = false := HB.out
    have e2 : se = 0 := HE.out
    subst e1 e2
    go_wp2_with fail
    go_ret2
    exact ⟨rfl, HB1.out⟩
  · have e4 : (me == 4) = false := beq_eq_false_iff_ne.2 h4
    have e2 : se = me := by rw [HE.out, if_neg h4]
    subst e2
    by_cases h0 : se = 0
    · subst h0
      have e1 : sb = true := HB.out
      subst e1
      go_wp2_with fail
      go_ret2
      exact ⟨rfl, HB1.out⟩
    · have e5 : (se == 0) = false := beq_eq_false_iff_ne.2 h0
      have e1 : sb = false := by rw [HB.out, decide_eq_false h0]
      subst e1
      go_wp2_with fail
      go_ret2
      exact ⟨rfl, HB1.out⟩
theorem kn_mE : mE shA shB = 0 := by decide +kernel
theorem kn_l : matchL shA shB = [1, 0, 2] := by decide +kernel
theorem kn_cnt : cntE shA = 0 := by decide +kernel
theorem kn_ord : ordV shA = 2 := by decide +kernel
theorem is_three (w : World) (x y z : Int) : IS (w.alloc (.cells #[.int .i64 x, .int .i64 y, .int .i64 z] 3)) (.slice (some ⟨w.heap.size, 0, none⟩) 3 3) [x, y, z] := by
  refine ⟨_, _, rfl, Nat.le_refl _, by unfold maxLen; omega, (fun e => by cases e), fun k q hq => ⟨w.heap.size, 0, rfl, by simp, ?_⟩⟩
  rw [cell_of_row _ _ _ _ _ _ (heap_alloc_new w _), Nat.zero_add]
  match k, hq with
  | 0, hq => cases hq; rfl
  | 1, hq => cases hq; rfl
  | 2, hq => cases hq; rfl
  | k + 3, hq => simp at hq
set_option maxHeartbeats 4000000 in
set_option maxRecDepth 100000 in
theorem awake_any (w : World) : Calls Try.prog 14 #[] w fun e w' => e = .returned (.bool true) ∧ Below w.heap.size w w' := by
  have CF := Lib.hid (fun W => First_any W)
  have CG := Lib.hid (fun W => Second_any W)
  have CS := Lib.hid (fun g1 g2 W h1 h2 => Same_any shA shB (.slice (some ⟨g1, 0, none⟩) 3 3) (.slice (some ⟨g2, 0, none⟩) 3 3) W h1 h2)
  have CM := Lib.hid (fun g1 g2 W h1 h2 => Match_any shA shB (.slice (some ⟨g1, 0, none⟩) 3 3) (.slice (some ⟨g2, 0, none⟩) 3 3) W h1 h2)
  have CO := Lib.hid (fun g W h => Orders_any shA (.agg #[.int .i64 4, .slice (some ⟨g, 0, none⟩) 3 3]) W ⟨_, rfl, h⟩)
  rw [show smB shA shB = true by unfold smB; rw [kn_mE]; rfl, show smE shA shB = 0 by unfold smE; rw [kn_mE]; rfl] at CS
  rw [kn_mE, kn_l] at CM
  rw [kn_cnt, kn_ord] at CO
  go_enter Try.func14, Try.ntmps14
  go_wp2_with fail
  refine (CF.out w).mono ?_
  rintro e w1 ⟨g1, rfl, f1, b1⟩
  have B1 := Lib.hid b1
  have F1 := Lib.hid f1
  clear b1 f1
  go_wp2_with fail
  refine (CG.out w1).mono ?_
  rintro e w2 ⟨g2, rfl, f2, b2⟩
  have B2 := Lib.hid (bon B1.out b2)
  have F2 := Lib.hid f2
  have F12 := Lib.hid (F1.out.below b2)
  clear b2 f2 F1 B1
  go_wp2_with fail
  refine (CS.out g1 g2 w2 F12.out F2.out).mono ?_
  rintro e w3 ⟨rfl, b3⟩
  have B3 := Lib.hid (bon B2.out b3)
  clear b3 F2 F12 B2
  go_wp2_with fail
  refine (CF.out w3).mono ?_
  rintro e w4 ⟨g3, rfl, f4, b4⟩
  have B4 := Lib.hid (bon B3.out b4)
  have F4 := Lib.hid f4
  clear b4 f4 B3
  go_wp2_with fail
  refine (CG.out w4).mono ?_
  rintro e w5 ⟨g4, rfl, f5, b5⟩
  have B5 := Lib.hid (bon B4.out b5)
  have F5 := Lib.hid f5
  have F45 := Lib.hid (F4.out.below b5)
  clear b5 f5 F4 B4
  go_wp2_with fail
  refine (CM.out g3 g4 w5 F45.out F5.out).mono ?_
  rintro e w6 ⟨lv, rfl, how, b6⟩
  have B6 := Lib.hid (bon B5.out b6)
  have IS6 := Lib.hid (is_own how rfl)
  obtain ⟨la, lc, rfl⟩ := own_form how
  clear b6 how F5 F45 B5
  go_wp2_with fail
  refine (CF.out w6).mono ?_
  rintro e w7 ⟨g5, rfl, f7, b7⟩
  have B7 := Lib.hid (bon B6.out b7)
  have F7 := Lib.hid f7
  have IS7 := Lib.hid (IS6.out.below b7)
  clear b7 f7 IS6 B6
  go_wp2_with fail
  refine (CO.out g5 w7 F7.out).mono ?_
  rintro e w8 ⟨rfl, b8⟩
  have B8 := Lib.hid (bon B7.out b8)
  have IS8 := Lib.hid (IS7.out.below b8)
  clear b8 F7 IS7 B7
  go_wp2_with fail
  have bA := below_alloc w8 (.cells #[.int .i64 1, .int .i64 0, .int .i64 2] 3)
  refine (sameI_yes [1, 0, 2] _ _ _ (IS8.out.below bA) (is_three w8 1 0 2) (by decide)).mono ?_
  rintro e w9 ⟨rfl, b9⟩
  have B9 := Lib.hid (bon (bon B8.out bA) b9)
  clear b9 bA
  go_wp2_with fail
  go_ret
  exact ⟨rfl, B9.out⟩
end Go.Proofs.Ytcjbjlepgdggpaa
