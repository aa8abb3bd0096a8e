/- The law of names. -/
import Derived.Test.YtabpjiidbailiaaXG
import Derived.Test.YtabpjiidbailiaaXA
namespace Go.Proofs.Ytabpjiidbailiaa
open Go.RowKit
set_option linter.unusedSimpArgs false
attribute [local irreducible] wpQuiet
theorem make_le (name : ByteArray) (zs : List Int) : (makeM name zs).L.length ≤ 1000 := by
  unfold makeM
  repeat' split
  all_goals first | exact plait_le _ | exact picot_le _ | exact spider_le _ _ | exact fan_le _ | exact foot_le _ _ | simp [moBad, millM, millL]
def namesL : List ByteArray := [bPlait, bPicot, bSpider, bFan, bFootside, bWindmill]
theorem names_at {k : Nat} {x : ByteArray} (h : namesL[k]? = some x) : ([.string ⟨#[112, 108, 97, 105, 116]⟩, .string ⟨#[112, 105, 99, 111, 116]⟩, .string ⟨#[115, 112, 105, 100, 101, 114]⟩, .string ⟨#[102, 97, 110]⟩, .string ⟨#[102, 111, 111, 116, 115, 105, 100, 101]⟩, .string ⟨#[119, 105, 110, 100, 109, 105, 108, 108]⟩] : List Value)[k]? = some (.string x) := by
  have e : ([.string ⟨#[112, 108, 97, 105, 116]⟩, .string ⟨#[112, 105, 99, 111, 116]⟩, .string ⟨#[115, 112, 105, 100, 101, 114]⟩, .string ⟨#[102, 97, 110]⟩, .string ⟨#[102, 111, 111, 116, 115, 105, 100, 101]⟩, .string ⟨#[119, 105, 110, 100, 109, 105, 108, 108]⟩] : List Value) = namesL.map Value.string := rfl
  rw [e, List.getElem?_map, h]
  rfl
set_option maxHeartbeats 8000000 in
set_option maxRecDepth 100000 in
theorem names_row (name : ByteArray) (zs : List Int) (v : Value) (w : World) (_ : name.size ≤ maxLen) (hv : IS w v zs) (_ : ∀ z ∈ zs, -9223372036854775808 ≤ z ∧ z ≤ 9223372036854775807) : Calls Try.prog 4 #[.string name, v] w fun e w' => e = .returned (.bool true) ∧ Below w.heap.size w w' := by
  have HV := Lib.hid hv
  obtain ⟨a, c, rfl, hlc, hcm, _⟩ := hv
  have CS := Lib.hid (fun W => shown_any W)
  by_cases h1 : (1000 : Int) < (name.size : Int)
  · go_enter Try.func4, Try.ntmps4
    go_wp2_with fail
    refine (CS.out _).mono ?_
    rintro e w1 ⟨rfl, hb⟩
    have HB := Lib.hid hb
    clear hb
    go_wp2_with fail
    go_ret
    exact ⟨rfl, HB.out⟩
  by_cases h2 : (100 : Int) < (zs.length : Int)
  · go_enter Try.func4, Try.ntmps4
    go_wp2_with fail
    refine (CS.out _).mono ?_
    rintro e w1 ⟨rfl, hb⟩
    have HB := Lib.hid hb
    clear hb
    go_wp2_with fail
    go_ret
    exact ⟨rfl, HB.out⟩
  have CM := Lib.hid (fun v W h => Make_any name zs v W h)
  have CR := Lib.hid (fun v W h => refMake_any name zs v W h)
  have CW := Lib.hid (fun v W h => Width_any name zs v W h)
  have CX := Lib.hid (fun v W h => refWidth_any name zs v W h)
  have LE := Lib.hid (make_le name zs)
  generalize makeM name zs = M at *
  go_enter Try.func4, Try.ntmps4
  go_wp2_with fail
  refine (Names_any _).mono ?_
  rintro e w1 ⟨rfl, hw⟩
  have hx := heap_alloc_new w (.cells namesV 9)
  rw [← hw] at hx
  have hb1 : Below w.heap.size w w1 := hw ▸ below_alloc w _
  have hs1 : w1.heap.size = w.heap.size + 1 := by rw [hw]; simp
  clear hw
  go_wp2_with fail
  refine (refNames_any _).mono ?_
  rintro e w2 ⟨rfl, hw⟩
  have hy := heap_alloc_new w1 (.cells namesV 9)
  rw [← hw] at hy
  have hb2 : Below w1.heap.size w1 w2 := hw ▸ below_alloc w1 _
  have hs2 : w2.heap.size = w1.heap.size + 1 := by rw [hw]; simp
  clear hw
  rw [hs1] at hy
  have HX := Lib.hid (hb_below hb2 hx (by omega))
  have HY := Lib.hid hy
  have HB := Lib.hid (hb1.trans (hb2.mono (by omega)))
  have HS := Lib.hid (show w2.heap.size = w.heap.size + 2 by omega)
  rw [hs1]
  clear hx hy hb1 hb2 hs1 hs2
  go_wp2_with fail
  go_loopw [7] (fun i wr => ∃ k : Nat, k ≤ 6 ∧ i = .int .i64 (k : Int) ∧ Below w2.heap.size w2 wr) (fun i _ => 6 - (intOf i).toNat)
  case atStart => exact ⟨0, Nat.zero_le _, rfl, Below.refl _ _⟩
  case round =>
    obtain ⟨k, hk, rfl, hbw⟩ := hrel
    have HBW := Lib.hid hbw
    have hz := hbw.size
    rename World => wk
    have hz2 : w.heap.size + 2 ≤ wk.heap.size := by have := HS.out; omega
    have X0 := hb_below hbw HX.out (by have := HS.out; omega)
    have Y0 := hb_below hbw HY.out (by have := HS.out; omega)
    clear hbw
    by_cases hk6 : k < 6
    · have k0 : (0 : Int) ≤ (k : Int) := by omega
      have k1 : (k : Int) < 6 := by omega
      obtain ⟨x, hx⟩ : ∃ x, namesL[k]? = some x := ⟨_, List.getElem?_eq_getElem hk6⟩
      have cx := cell_of_heap (j := k) X0 (names_at hx)
      have cy := cell_of_heap (j := k) Y0 (names_at hx)
      clear X0 Y0 hx
      go_wp2_with fail
      go_quiet (fail)
      rename_i nq
      have BD := Lib.hid (below_drewN HBW.out nq)
      go_wp2_with fail
      go_roundw
      case rel => exact ⟨k + 1, by omega, by go_num, BD.out⟩
      case measure => (simp [intOf] <;> omega)
    · have k1 : ¬ (k : Int) < 6 := by omega
      have HK := Lib.hid (show Below w.heap.size w wk from HB.out.trans (HBW.out.mono (by have := HS.out; omega)))
      clear HX HY HS HB HBW X0 Y0 hz
      have HV2 := Lib.hid (HV.out.below HK.out)
      go_wp2_with fail
      refine (CM.out _ _ HV2.out).mono ?_
      rintro e w1 ⟨v1, rfl, hi1, hB1⟩
      obtain ⟨a1, c1, e1, _⟩ := id hi1
      subst e1
      have hX1 := heap_alloc_new w1 (.cells #[.int .i64 M.p, .slice a1 M.L.length c1] 24)
      have hb1 := below_alloc w1 (.cells #[.int .i64 M.p, .slice a1 M.L.length c1] 24)
      have hz1 : w1.heap.size < (w1.alloc (.cells #[.int .i64 M.p, .slice a1 M.L.length c1] 24)).heap.size := by simp
      have ho1 : (w1.alloc (.cells #[.int .i64 M.p, .slice a1 M.L.length c1] 24)).heap.size = w1.heap.size + 1 := by simp
      go_upto_region 12 with fail
      generalize w1.alloc (.cells #[.int .i64 M.p, .slice a1 M.L.length c1] 24) = u1 at *
      have HZ1 := Lib.hid hz1
      have HX1 := Lib.hid hX1
      have HI1 := Lib.hid (hi1.below hb1)
      have HB1 := Lib.hid (HK.out.trans ((hB1.trans (hb1.mono hB1.size)).mono (by have := HK.out.size; omega)))
      have HV3 := Lib.hid (HV.out.below HB1.out)
      clear hz1 hX1 hi1 hb1 hB1 ho1
      go_wp2_with fail
      refine (CR.out _ _ HV3.out).mono ?_
      rintro e w2' ⟨v2, rfl, hi2, hB2⟩
      obtain ⟨a2, c2, e2, _⟩ := id hi2
      subst e2
      have hX2 := heap_alloc_new w2' (.cells #[.int .i64 M.p, .slice a2 M.L.length c2] 24)
      have hb2 := below_alloc w2' (.cells #[.int .i64 M.p, .slice a2 M.L.length c2] 24)
      have hz2' : w2'.heap.size < (w2'.alloc (.cells #[.int .i64 M.p, .slice a2 M.L.length c2] 24)).heap.size := by simp
      have hs2 := hB2.size
      go_upto_region 13 with fail
      generalize w2'.alloc (.cells #[.int .i64 M.p, .slice a2 M.L.length c2] 24) = u2 at *
      have HZ2 := Lib.hid hz2'
      have HX2 := Lib.hid hX2
      have HI2 := Lib.hid (hi2.below hb2)
      have hb12 := hB2.trans (hb2.mono hs2)
      replace HX1 := Lib.hid (hb_below hb12 HX1.out HZ1.out)
      replace HI1 := Lib.hid (HI1.out.below hb12)
      have o1 : w1.heap.size < u2.heap.size := Nat.lt_of_lt_of_le HZ1.out hb12.size
      have HB2 := Lib.hid (HB1.out.trans (hb12.mono HB1.out.size))
      have HV4 := Lib.hid (HV.out.below HB2.out)
      have HO1 := Lib.hid o1
      clear hX2 hi2 hb2 hB2 hz2' hs2 hb12 o1
      go_wp2_with fail
      refine (CW.out _ _ HV4.out).mono ?_
      rintro e w3 ⟨rfl, hB3⟩
      replace HX1 := Lib.hid (hb_below hB3 HX1.out HO1.out)
      replace HX2 := Lib.hid (hb_below hB3 HX2.out HZ2.out)
      replace HI1 := Lib.hid (HI1.out.below hB3)
      replace HI2 := Lib.hid (HI2.out.below hB3)
      have HO3 := Lib.hid (Nat.lt_of_lt_of_le HO1.out hB3.size)
      have HP3 := Lib.hid (Nat.lt_of_lt_of_le HZ2.out hB3.size)
      have HB3 := Lib.hid (HB2.out.trans (hB3.mono HB2.out.size))
      have HV5 := Lib.hid (HV.out.below HB3.out)
      clear hB3
      go_wp2_with fail
      refine (CX.out _ _ HV5.out).mono ?_
      rintro e w4 ⟨rfl, hB4⟩
      replace HX1 := Lib.hid (hb_below hB4 HX1.out HO3.out)
      replace HX2 := Lib.hid (hb_below hB4 HX2.out HP3.out)
      replace HI1 := Lib.hid (HI1.out.below hB4)
      replace HI2 := Lib.hid (HI2.out.below hB4)
      have HB4 := Lib.hid (HB3.out.trans (hB4.mono HB3.out.size))
      clear hB4
      have d1 := cell_of_heap (j := 0) HX1.out rfl
      have d2 := cell_of_heap (j := 1) HX1.out rfl
      have d3 := cell_of_heap (j := 0) HX2.out rfl
      have d4 := cell_of_heap (j := 1) HX2.out rfl
      go_wp2_with fail
      refine (Same_yes M.p M.L _ _ _ HI1.out HI2.out LE.out).mono ?_
      rintro e w5 ⟨rfl, hB5⟩
      have HB5 := Lib.hid (HB4.out.trans (hB5.mono HB4.out.size))
      clear hB5 d1 d2 d3 d4
      go_wp2_with fail
      refine (CS.out _).mono ?_
      rintro e w6 ⟨rfl, hB6⟩
      have HB6 := Lib.hid (HB5.out.trans (hB6.mono HB5.out.size))
      clear hB6
      go_wp2_with fail
      go_ret
      exact ⟨by first | rfl | (simp; done), HB6.out⟩
end Go.Proofs.Ytabpjiidbailiaa
