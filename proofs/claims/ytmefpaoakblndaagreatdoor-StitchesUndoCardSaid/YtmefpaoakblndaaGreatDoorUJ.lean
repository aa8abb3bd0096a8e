/- Merged: SN ZH ZI. -/
import Derived.Test.YtmefpaoakblndaaGreatDoorVP
import Derived.Laws.OwnMore
import Derived.Maps.AppendAt
import Derived.Laws.AppendOwnNone
import Derived.WalkSmall
import Derived.RangeFuncBox
import Derived.ProofKit
import Derived.OpenShut
import Derived.ChangeSlices
import Derived.Carry
import Derived.Laws.Cover1
import Derived.Deep.RegionLaw
import Derived.Test.YtmefpaoakblndaaGreatDoorVM
import Derived.Deep.CutRange
namespace Go.Proofs.YtmefpaoakblndaaGreatDoor
section
open Go.RowKit Go.Lib
attribute [local irreducible] wpQuiet
set_option maxHeartbeats 600000 in
set_option maxRecDepth 100000 in
theorem sameInts_any (xs ys : List Int) (r : Bool) (hr : r = true ↔ xs = ys) (sa sb : Option Addr) (c d : Nat) (w : World) (hc : xs.length ≤ c) (hcm : c ≤ maxLen) (ha : IntsAt w sa xs) (hb : IntsAt w sb ys) :
    Calls Tryz.prog 103 #[.slice sa xs.length c, .slice sb ys.length d] w fun e w' => e = .returned (.bool r) ∧ Below w.heap.size w w' := by
  have Ha := Lib.hid ha
  have Hb := Lib.hid hb
  have Hr := Lib.hid hr
  clear ha hb hr
  unfold maxLen at hcm
  go_enter Tryz.func103, Tryz.ntmps103
  by_cases hlm : xs.length = ys.length
  · rw [← hlm]
    go_wp2_with fail
    go_loopw [5] (fun i wr => ∃ k : Nat, k ≤ xs.length ∧ i = .int .i64 k ∧ xs.take k = ys.take k ∧ Below w.heap.size w wr) (fun i _ => xs.length - (intOf i).toNat)
    case atStart => exact ⟨0, Nat.zero_le _, rfl, rfl, Below.refl _ w⟩
    case round =>
      obtain ⟨k, hk, rfl, htk, hbw⟩ := hrel
      have Htk := Lib.hid htk
      clear htk
      by_cases hkl : k < xs.length
      · obtain ⟨x, hx⟩ : ∃ x, xs[k]? = some x := ⟨_, List.getElem?_eq_getElem hkl⟩
        obtain ⟨y, hy⟩ : ∃ y, ys[k]? = some y := ⟨_, List.getElem?_eq_getElem (hlm ▸ hkl)⟩
        obtain ⟨b1, o1, rfl, hs1, hr1⟩ := (Ha.out.below hbw) k x hx
        obtain ⟨b2, o2, rfl, hs2, hr2⟩ := (Hb.out.below hbw) k y hy
        have k0 : (0 : Int) ≤ (k : Int) := by omega
        have k1 : (k : Int) < (xs.length : Int) := by omega
        have k2 : (k : Int) < (ys.length : Int) := by omega
        go_wp2_with fail
        by_cases hxy : x = y
        · have hxb : (x == y) = true := by simp [hxy]
          refine wp_region_quiet (C := fun w' => Below wr.heap.size wr w') (by kernel_rfl) (by kernel_rfl) (Below.refl _ wr).drew ?_
          dsimp only
          refine quiet_move rfl _ rfl ?_
          simp only [Act.put, List.setIfInBounds_toArray, List.set_cons_zero, List.set_cons_succ]
          refine quiet_move rfl _ rfl ?_
          simp only [Act.put, List.setIfInBounds_toArray, List.set_cons_zero, List.set_cons_succ]
          refine quiet_still rfl (.pointer (some ⟨b1, o1 + k, none⟩)) (fun w _ => by go_simp) ?_
          simp only [Act.put, List.setIfInBounds_toArray, List.set_cons_zero, List.set_cons_succ]
          refine quiet_load1 rfl _ _ rfl ⟨b1, o1 + k, none⟩ rfl (.int .i64 x) (load_int _ _) (fun _ h => (h.cell (p := ⟨b1, o1 + k, none⟩) hs1).trans hr1) ?_
          simp only [Act.put, List.setIfInBounds_toArray, List.set_cons_zero, List.set_cons_succ]
          refine quiet_move rfl _ rfl ?_
          simp only [Act.put, List.setIfInBounds_toArray, List.set_cons_zero, List.set_cons_succ]
          refine quiet_move rfl _ rfl ?_
          simp only [Act.put, List.setIfInBounds_toArray, List.set_cons_zero, List.set_cons_succ]
          refine quiet_still rfl (.pointer (some ⟨b2, o2 + k, none⟩)) (fun w _ => by go_simp) ?_
          simp only [Act.put, List.setIfInBounds_toArray, List.set_cons_zero, List.set_cons_succ]
          refine quiet_load1 rfl _ _ rfl ⟨b2, o2 + k, none⟩ rfl (.int .i64 y) (load_int _ _) (fun _ h => (h.cell (p := ⟨b2, o2 + k, none⟩) hs2).trans hr2) ?_
          simp only [Act.put, List.setIfInBounds_toArray, List.set_cons_zero, List.set_cons_succ]
          refine quiet_still rfl (.bool false) (fun w _ => by go_simp) ?_
          simp only [Act.put, List.setIfInBounds_toArray, List.set_cons_zero, List.set_cons_succ]
          refine wpQuiet_nil fun U bu => ?_
          have BU := hbw.trans (bu.mono hbw.size)
          clear bu
          go_wp2_with fail
          have hn1 : xs.take (k + 1) = ys.take (k + 1) := by rw [List.take_add_one, List.take_add_one, hx, hy, Htk.out, hxy]
          have Hn1 := Lib.hid hn1
          clear hn1
          go_roundw
          case rel => exact ⟨k + 1, hkl, by go_num, Hn1.out, BU⟩
          case measure => (simp [intOf] <;> omega)
        · have hxb : (x == y) = false := by simp [hxy]
          refine wp_region_quiet (C := fun w' => Below wr.heap.size wr w') (by kernel_rfl) (by kernel_rfl) (Below.refl _ wr).drew ?_
          dsimp only
          refine quiet_move rfl _ rfl ?_
          simp only [Act.put, List.setIfInBounds_toArray, List.set_cons_zero, List.set_cons_succ]
          refine quiet_move rfl _ rfl ?_
          simp only [Act.put, List.setIfInBounds_toArray, List.set_cons_zero, List.set_cons_succ]
          refine quiet_still rfl (.pointer (some ⟨b1, o1 + k, none⟩)) (fun w _ => by go_simp) ?_
          simp only [Act.put, List.setIfInBounds_toArray, List.set_cons_zero, List.set_cons_succ]
          refine quiet_load1 rfl _ _ rfl ⟨b1, o1 + k, none⟩ rfl (.int .i64 x) (load_int _ _) (fun _ h => (h.cell (p := ⟨b1, o1 + k, none⟩) hs1).trans hr1) ?_
          simp only [Act.put, List.setIfInBounds_toArray, List.set_cons_zero, List.set_cons_succ]
          refine quiet_move rfl _ rfl ?_
          simp only [Act.put, List.setIfInBounds_toArray, List.set_cons_zero, List.set_cons_succ]
          refine quiet_move rfl _ rfl ?_
          simp only [Act.put, List.setIfInBounds_toArray, List.set_cons_zero, List.set_cons_succ]
          refine quiet_still rfl (.pointer (some ⟨b2, o2 + k, none⟩)) (fun w _ => by go_simp) ?_
          simp only [Act.put, List.setIfInBounds_toArray, List.set_cons_zero, List.set_cons_succ]
          refine quiet_load1 rfl _ _ rfl ⟨b2, o2 + k, none⟩ rfl (.int .i64 y) (load_int _ _) (fun _ h => (h.cell (p := ⟨b2, o2 + k, none⟩) hs2).trans hr2) ?_
          simp only [Act.put, List.setIfInBounds_toArray, List.set_cons_zero, List.set_cons_succ]
          refine quiet_still rfl (.bool true) (fun w _ => by go_simp) ?_
          simp only [Act.put, List.setIfInBounds_toArray, List.set_cons_zero, List.set_cons_succ]
          refine wpQuiet_nil fun U bu => ?_
          have BU := hbw.trans (bu.mono hbw.size)
          clear bu
          go_wp2_with fail
          go_ret
          refine ⟨?_, BU⟩
          have : r = false := by
            rcases hrv : r with _ | _
            · rfl
            · have h := Hr.out.1 hrv
              rw [h, hy] at hx
              exact absurd (Option.some.inj hx).symm hxy
          rw [this]
          rfl
      · obtain rfl : k = xs.length := by omega
        go_wp2_with fail
        go_ret
        refine ⟨?_, hbw⟩
        have h := Htk.out
        rw [List.take_length, hlm, List.take_length] at h
        rw [Hr.out.2 h]
        rfl
  · have hlm' : ¬ (xs.length : Int) = (ys.length : Int) := by omega
    go_wp2_with fail
    go_ret
    refine ⟨?_, Below.refl _ w⟩
    have : r = false := by
      rcases hrv : r with _ | _
      · rfl
      · exact absurd (congrArg List.length (Hr.out.1 hrv)) hlm
    rw [this]
    rfl
end
section
open Go.RowKit Go.Lib
/-- The cells of a slice of slices of ints. -/
def FormAt (w : World) (sa : Option Addr) (F : List (List Int)) : Prop := ∀ (k : Nat) (l : List Int), F[k]? = some l → ∃ b off, sa = some ⟨b, off, none⟩ ∧ b < w.heap.size ∧ ∃ ia c, w.cell? ⟨b, off + k, none⟩ = some (.slice ia l.length c) ∧ l.length ≤ c ∧ c ≤ maxLen ∧ IntsAt w ia l
theorem FormAt.below {w w' : World} {sa : Option Addr} {F : List (List Int)} (h : FormAt w sa F) (hb : Below w.heap.size w w') : FormAt w' sa F := fun k l hl => by
  obtain ⟨b, off, e, hB, ia, c, hc, h1, h2, h3⟩ := h k l hl
  exact ⟨b, off, e, by have := hb.size; omega, ia, c, (hb.cell (p := ⟨b, off + k, none⟩) hB).trans hc, h1, h2, h3.below hb⟩
theorem load_ints (ad : Addr) (v : Value) (w : World) (h : w.cell? ad = some v) : (Instr.loadAt 23 (.pointer (some ad))).run Tryz.prog w = .ok v w := by
  simp [Instr.loadAt, Instr.sureAddr, loadVar, go_sem, Tryz.isAgg23, h]
theorem entSI (args : Array Value) (w : World) : (callFunc 103 args).run Tryz.prog w = .ok (.enter 103 args) w := enter_of Tryz.func103 (by decide +kernel) (by intro h; cases h) args w
attribute [local irreducible] wpQuiet
set_option maxHeartbeats 600000 in
set_option maxRecDepth 100000 in
theorem sameForm_any (xs ys : List (List Int)) (r : Bool) (hr : r = true ↔ xs = ys) (sa sb : Option Addr) (c d : Nat) (w : World) (hc : xs.length ≤ c) (hcm : c ≤ maxLen) (ha : FormAt w sa xs) (hb : FormAt w sb ys) :
    Calls Tryz.prog 80 #[.slice sa xs.length c, .slice sb ys.length d] w fun e w' => e = .returned (.bool r) ∧ Below w.heap.size w w' := by
  have Ha := Lib.hid ha
  have Hb := Lib.hid hb
  have Hr := Lib.hid hr
  clear ha hb hr
  unfold maxLen at hcm
  go_enter Tryz.func80, Tryz.ntmps80
  by_cases hlm : xs.length = ys.length
  · rw [← hlm]
    go_wp2_with fail
    go_loopw [5] (fun i wr => ∃ k : Nat, k ≤ xs.length ∧ i = .int .i64 k ∧ xs.take k = ys.take k ∧ Below w.heap.size w wr) (fun i _ => xs.length - (intOf i).toNat)
    case atStart => exact ⟨0, Nat.zero_le _, rfl, rfl, Below.refl _ w⟩
    case round =>
      obtain ⟨k, hk, rfl, htk, hbw⟩ := hrel
      have Htk := Lib.hid htk
      clear htk
      by_cases hkl : k < xs.length
      · obtain ⟨x, hx⟩ : ∃ x, xs[k]? = some x := ⟨_, List.getElem?_eq_getElem hkl⟩
        obtain ⟨y, hy⟩ : ∃ y, ys[k]? = some y := ⟨_, List.getElem?_eq_getElem (hlm ▸ hkl)⟩
        obtain ⟨b1, o1, rfl, hs1, ia, ca, hr1, hl1, hm1, hi1⟩ := (Ha.out.below hbw) k x hx
        obtain ⟨b2, o2, rfl, hs2, ib, cb, hr2, hl2, hm2, hi2⟩ := (Hb.out.below hbw) k y hy
        have k0 : (0 : Int) ≤ (k : Int) := by omega
        have k1 : (k : Int) < (xs.length : Int) := by omega
        have k2 : (k : Int) < (ys.length : Int) := by omega
        go_wp2_with fail
        by_cases hxy : x = y
        · have hrr : (true) = true ↔ x = y := by simp [hxy]
          refine wp_region_quiet (C := fun w' => Below wr.heap.size wr w') (by kernel_rfl) (by kernel_rfl) (Below.refl _ wr).drew ?_
          dsimp only
          refine quiet_move rfl _ rfl ?_
          simp only [Act.put, List.setIfInBounds_toArray, List.set_cons_zero, List.set_cons_succ]
          refine quiet_move rfl _ rfl ?_
          simp only [Act.put, List.setIfInBounds_toArray, List.set_cons_zero, List.set_cons_succ]
          refine quiet_still rfl (.pointer (some ⟨b1, o1 + k, none⟩)) (fun w _ => by go_simp) ?_
          simp only [Act.put, List.setIfInBounds_toArray, List.set_cons_zero, List.set_cons_succ]
          refine quiet_load1 rfl _ _ rfl ⟨b1, o1 + k, none⟩ rfl (.slice ia x.length ca) (load_ints _ _) (fun _ h => (h.cell (p := ⟨b1, o1 + k, none⟩) hs1).trans hr1) ?_
          simp only [Act.put, List.setIfInBounds_toArray, List.set_cons_zero, List.set_cons_succ]
          refine quiet_move rfl _ rfl ?_
          simp only [Act.put, List.setIfInBounds_toArray, List.set_cons_zero, List.set_cons_succ]
          refine quiet_move rfl _ rfl ?_
          simp only [Act.put, List.setIfInBounds_toArray, List.set_cons_zero, List.set_cons_succ]
          refine quiet_still rfl (.pointer (some ⟨b2, o2 + k, none⟩)) (fun w _ => by go_simp) ?_
          simp only [Act.put, List.setIfInBounds_toArray, List.set_cons_zero, List.set_cons_succ]
          refine quiet_load1 rfl _ _ rfl ⟨b2, o2 + k, none⟩ rfl (.slice ib y.length cb) (load_ints _ _) (fun _ h => (h.cell (p := ⟨b2, o2 + k, none⟩) hs2).trans hr2) ?_
          simp only [Act.put, List.setIfInBounds_toArray, List.set_cons_zero, List.set_cons_succ]
          refine quiet_call rfl 103 _ _ rfl entSI (.bool true) (fun wc h => (sameInts_any x y true hrr ia ib ca cb wc hl1 hm1 (hi1.below h) (hi2.below h)).mono fun e w' ⟨he, hb⟩ => ⟨he, h.trans (hb.mono h.size)⟩) ?_
          simp only [Act.put, List.setIfInBounds_toArray, List.set_cons_zero, List.set_cons_succ]
          refine quiet_still rfl (.bool false) (fun w _ => by go_simp) ?_
          simp only [Act.put, List.setIfInBounds_toArray, List.set_cons_zero, List.set_cons_succ]
          refine wpQuiet_nil fun U bu => ?_
          have BU := hbw.trans (bu.mono hbw.size)
          clear bu
          go_wp2_with fail
          have hn1 : xs.take (k + 1) = ys.take (k + 1) := by rw [List.take_add_one, List.take_add_one, hx, hy, Htk.out, hxy]
          have Hn1 := Lib.hid hn1
          clear hn1
          go_roundw
          case rel => exact ⟨k + 1, hkl, by go_num, Hn1.out, BU⟩
          case measure => (simp [intOf] <;> omega)
        · have hrr : (false) = true ↔ x = y := by simp [hxy]
          refine wp_region_quiet (C := fun w' => Below wr.heap.size wr w') (by kernel_rfl) (by kernel_rfl) (Below.refl _ wr).drew ?_
          dsimp only
          refine quiet_move rfl _ rfl ?_
          simp only [Act.put, List.setIfInBounds_toArray, List.set_cons_zero, List.set_cons_succ]
          refine quiet_move rfl _ rfl ?_
          simp only [Act.put, List.setIfInBounds_toArray, List.set_cons_zero, List.set_cons_succ]
          refine quiet_still rfl (.pointer (some ⟨b1, o1 + k, none⟩)) (fun w _ => by go_simp) ?_
          simp only [Act.put, List.setIfInBounds_toArray, List.set_cons_zero, List.set_cons_succ]
          refine quiet_load1 rfl _ _ rfl ⟨b1, o1 + k, none⟩ rfl (.slice ia x.length ca) (load_ints _ _) (fun _ h => (h.cell (p := ⟨b1, o1 + k, none⟩) hs1).trans hr1) ?_
          simp only [Act.put, List.setIfInBounds_toArray, List.set_cons_zero, List.set_cons_succ]
          refine quiet_move rfl _ rfl ?_
          simp only [Act.put, List.setIfInBounds_toArray, List.set_cons_zero, List.set_cons_succ]
          refine quiet_move rfl _ rfl ?_
          simp only [Act.put, List.setIfInBounds_toArray, List.set_cons_zero, List.set_cons_succ]
          refine quiet_still rfl (.pointer (some ⟨b2, o2 + k, none⟩)) (fun w _ => by go_simp) ?_
          simp only [Act.put, List.setIfInBounds_toArray, List.set_cons_zero, List.set_cons_succ]
          refine quiet_load1 rfl _ _ rfl ⟨b2, o2 + k, none⟩ rfl (.slice ib y.length cb) (load_ints _ _) (fun _ h => (h.cell (p := ⟨b2, o2 + k, none⟩) hs2).trans hr2) ?_
          simp only [Act.put, List.setIfInBounds_toArray, List.set_cons_zero, List.set_cons_succ]
          refine quiet_call rfl 103 _ _ rfl entSI (.bool false) (fun wc h => (sameInts_any x y false hrr ia ib ca cb wc hl1 hm1 (hi1.below h) (hi2.below h)).mono fun e w' ⟨he, hb⟩ => ⟨he, h.trans (hb.mono h.size)⟩) ?_
          simp only [Act.put, List.setIfInBounds_toArray, List.set_cons_zero, List.set_cons_succ]
          refine quiet_still rfl (.bool true) (fun w _ => by go_simp) ?_
          simp only [Act.put, List.setIfInBounds_toArray, List.set_cons_zero, List.set_cons_succ]
          refine wpQuiet_nil fun U bu => ?_
          have BU := hbw.trans (bu.mono hbw.size)
          clear bu
          go_wp2_with fail
          go_ret
          refine ⟨?_, BU⟩
          have : r = false := by
            rcases hrv : r with _ | _
            · rfl
            · have h := Hr.out.1 hrv
              rw [h, hy] at hx
              exact absurd (Option.some.inj hx).symm hxy
          rw [this]
          rfl
      · obtain rfl : k = xs.length := by omega
        go_wp2_with fail
        go_ret
        refine ⟨?_, hbw⟩
        have h := Htk.out
        rw [List.take_length, hlm, List.take_length] at h
        rw [Hr.out.2 h]
        rfl
  · have hlm' : ¬ (xs.length : Int) = (ys.length : Int) := by omega
    go_wp2_with fail
    go_ret
    refine ⟨?_, Below.refl _ w⟩
    have : r = false := by
      rcases hrv : r with _ | _
      · rfl
      · exact absurd (congrArg List.length (Hr.out.1 hrv)) hlm
    rw [this]
    rfl
end
section
open Go.RowKit Go.Lib
theorem form_of {B m : Nat} {W : World} {v : Value} {D : List Pm} {fs : List Value} (h : W.ownsRow B 23 1 v D.length fs) (hr : Rows B m W fs D) (hD : 0 < D.length) (hm : 0 < m) :
    ∃ g c, v = .slice (some ⟨g, 0, none⟩) D.length c ∧ D.length ≤ c ∧ c ≤ maxLen ∧ FormAt W (some ⟨g, 0, none⟩) (D.map (ints m)) := by
  rcases h.2 with ⟨_, h0⟩ | ⟨g, cap, cur, rfl, _, hg, h1, h2, _, _⟩
  · omega
  · refine ⟨g, cap, rfl, h1, h2, fun k l hl => ?_⟩
    rw [List.getElem?_map] at hl
    obtain ⟨x, hx, rfl⟩ := Option.map_eq_some_iff.1 hl
    obtain ⟨u, hu, ho⟩ := hr k x hx
    have hk := (List.getElem?_eq_some_iff.1 hx).1
    rcases ho.2 with ⟨_, h0⟩ | ⟨g', cap', cur', rfl, _, hg', h1', h2', _, _⟩
    · omega
    · refine ⟨g, 0, rfl, (Array.getElem?_eq_some_iff.1 hg).1, some ⟨g', 0, none⟩, cap', ?_, by rw [ints_len]; exact h1', h2', fun j z hz => ⟨g', 0, rfl, (Array.getElem?_eq_some_iff.1 hg').1, ?_⟩⟩
      · rw [Nat.zero_add, ints_len]
        exact (h.cellAt k (by omega)).trans hu
      · have hj := (List.getElem?_eq_some_iff.1 hz).1
        rw [ints_len] at hj
        rw [Nat.zero_add]
        exact (ho.cellAt j (by omega)).trans (by simp [hz])
end
section
def ng (w : List Int) : List Int := w.map fun z => -z
theorem ng_app (a b : List Int) : ng (a ++ b) = ng a ++ ng b := by simp [ng]
theorem ng_cons (z : Int) (b : List Int) : ng (z :: b) = -z :: ng b := by simp [ng]
theorem ng_ng (a : List Int) : ng (ng a) = a := by simp [ng, Function.comp_def]
theorem Word.ng {n : Nat} {w : List Int} (h : Word n w) : Word n (ng w) := fun z hz => by
  simp only [Proofs.YtmefpaoakblndaaGreatDoor.ng, List.mem_map] at hz
  obtain ⟨y, hy, rfl⟩ := hz
  exact Letter.neg (h y hy)
theorem Word.rev {n : Nat} {w : List Int} (h : Word n w) : Word n w.reverse := fun z hz => h z (List.mem_reverse.1 hz)
theorem far_ng {a b : Int} (h : Far a b) : Far (-a) (-b) := by
  obtain ⟨i, j, ha, hb, h⟩ := h
  exact ⟨i, j, by omega, by omega, h⟩
theorem Eqv.ng {n : Nat} {w v : List Int} (h : Eqv n w v) : Eqv n (ng w) (ng v) := by
  induction h with
  | refl => exact .refl _
  | symm _ ih => exact ih.symm
  | trans _ _ a b => exact a.trans b
  | canc u v h => simp only [ng_app, ng_cons]; exact .canc _ _ h.neg
  | far u v h => simp only [ng_app, ng_cons]; exact .far _ _ (far_ng h)
  | @braid u v i h k =>
    have e : Eqv n [i, i + 1, i] [i + 1, i, i + 1] := .braid [] [] h k
    have l1 : Letter n i := ⟨by omega, by omega, by omega⟩
    have l2 : Letter n (i + 1) := ⟨by omega, by omega, by omega⟩
    have w1 : Word n [i, i + 1, i] := Word.cons l1 (Word.cons l2 (Word.one l1))
    have w2 : Word n [i + 1, i, i + 1] := Word.cons l2 (Word.cons l1 (Word.one l2))
    have q := ((e.inv w1 w2).left (Proofs.YtmefpaoakblndaaGreatDoor.ng u)).right (Proofs.YtmefpaoakblndaaGreatDoor.ng v)
    simpa [Proofs.YtmefpaoakblndaaGreatDoor.inv, Proofs.YtmefpaoakblndaaGreatDoor.ng] using q
theorem rev_ng (w : List Int) : w.reverse = inv (ng w) := by simp [inv, ng, Function.comp_def]
theorem Eqv.rev {n : Nat} {w v : List Int} (h : Eqv n w v) (hw : Word n w) (hv : Word n v) : Eqv n w.reverse v.reverse := by
  rw [rev_ng, rev_ng]
  exact h.ng.inv hw.ng hv.ng
theorem eqv_ng {n : Nat} {w v : List Int} : Eqv n (ng w) (ng v) ↔ Eqv n w v := ⟨fun h => by have := h.ng; rwa [ng_ng, ng_ng] at this, fun h => h.ng⟩
theorem eqv_rev {n : Nat} {w v : List Int} (hw : Word n w) (hv : Word n v) : Eqv n w.reverse v.reverse ↔ Eqv n w v :=
  ⟨fun h => by have := h.rev hw.rev hv.rev; rwa [List.reverse_reverse, List.reverse_reverse] at this, fun h => h.rev hw hv⟩
/-- The letter that a letter becomes on the other side of Delta. -/
def trn (n : Nat) (z : Int) : Int := if 0 < z then n - z else -n - z
theorem trn_letter {n : Nat} {z : Int} (h : Letter n z) : Letter n (trn n z) := by
  obtain ⟨h1, h2, h3⟩ := h
  unfold trn
  split
  · exact ⟨by omega, by omega, by omega⟩
  · exact ⟨by omega, by omega, by omega⟩
theorem Word.trn {n : Nat} {w : List Int} (h : Word n w) : Word n (w.map (trn n)) := fun z hz => by
  obtain ⟨y, hy, rfl⟩ := List.mem_map.1 hz
  exact trn_letter (h y hy)
theorem past_pos {n k : Nat} (hk : k + 1 < n) : Eqv n (((n : Int) - ((k : Int) + 1)) :: dw n) (dw n ++ [(k : Int) + 1]) := by
  have h := dw_past (n := n) (L := [idP.pre k]) (fun a ha => by
    simp at ha
    subst ha
    exact (idP_in n).pre hk)
  have e : tu n (idP.pre k) = idP.pre (n - 2 - k) := by rw [tu_pre _ hk, tu_id]
  rw [List.map_cons, List.map_nil, e, wd_cons, wd_cons, show wd n [] = [] from rfl, List.append_nil, List.append_nil] at h
  have p1 := least_pre1 (n := n) (k := n - 2 - k) (by omega)
  have p2 := least_pre1 hk
  have e2 : (((n - 2 - k : Nat) : Int) + 1) = (n : Int) - ((k : Int) + 1) := by omega
  rw [e2] at p1
  exact (p1.symm.right (dw n)).trans (h.trans (p2.left _))
theorem past_one {n : Nat} {z : Int} (h : Letter n z) : Eqv n (trn n z :: dw n) (dw n ++ [z]) := by
  by_cases hp : 0 < z
  · obtain ⟨k, rfl, hk⟩ := pos_nat h hp
    unfold trn
    rw [if_pos hp]
    exact past_pos hk
  · obtain ⟨k, rfl, hk⟩ := neg_nat h hp
    have q := past_pos hk
    have ha : trn n (-((k : Int) + 1)) = -((n : Int) - ((k : Int) + 1)) := by unfold trn; rw [if_neg hp]; omega
    rw [ha]
    obtain ⟨a, hae⟩ : ∃ a, a = (n : Int) - ((k : Int) + 1) := ⟨_, rfl⟩
    rw [← hae] at q ⊢
    have la : Letter n a := ⟨by omega, by omega, by omega⟩
    have lk : Letter n ((k : Int) + 1) := ⟨by omega, by omega, by omega⟩
    have s1 := ((Eqv.canc (dw n) [] lk).symm).cons (-a)
    rw [List.append_nil] at s1
    have s2 := ((q.symm.right [-((k : Int) + 1)]).cons (-a))
    rw [List.append_assoc] at s2
    have s3 := Eqv.canc [] (dw n ++ [-((k : Int) + 1)]) la.neg
    rw [Int.neg_neg] at s3
    exact s1.trans (s2.trans s3)
theorem past_all {n : Nat} : ∀ a : List Int, Word n a → Eqv n (dw n ++ a) (a.map (trn n) ++ dw n)
  | [], _ => by rw [List.append_nil]; exact .refl _
  | z :: a, h => by
    have h1 := past_one (h z (by simp))
    have ih := past_all a (fun x hx => h x (by simp [hx]))
    have s : Eqv n (dw n ++ z :: a) (trn n z :: (dw n ++ a)) := by
      have := h1.symm.right a
      simpa using this
    exact s.trans (ih.cons _)
theorem word_one {w : List Int} (h : Word 1 w) : w = [] := by
  cases w with
  | nil => rfl
  | cons z w =>
    have := h z (by simp)
    omega
theorem nf_eq_iff {n : Nat} (h1 : 1 ≤ n) {w v : List Int} (hw : Word n w) (hv : Word n v) : nf n w = nf n v ↔ Eqv n w v := by
  by_cases h : n = 1
  · subst h
    rw [word_one hw, word_one hv]
    exact ⟨fun _ => .refl _, fun _ => rfl⟩
  · exact eqv_iff (by omega) hw hv
end
section
open Go.RowKit Go.Lib
set_option maxHeartbeats 400000 in
set_option maxRecDepth 100000 in
theorem refCheck_any (n : Int) (ws : List Int) (sa : Option Addr) (sc : Nat) (w : World) (hc : IntsAt w sa ws) (_ : ws.length ≤ sc) (_ : sc ≤ maxLen) :
    Calls Tryz.prog 96 #[.int .i64 n, .slice sa ws.length sc] w fun e w' => e = .returned (.int .i64 (checkV n ws)) ∧ Below w.heap.size w w' := by
  have Hc := Lib.hid hc
  clear hc
  obtain ⟨v, hv⟩ : ∃ v, v = checkV n ws := ⟨_, rfl⟩
  rw [← hv]
  unfold checkV at hv
  go_enter Tryz.func96, Tryz.ntmps96
  by_cases a : n < 1
  · rw [if_pos (.inl a)] at hv
    go_wp2_with fail
    go_ret
    exact ⟨by first | rfl | (rw [hv]; rfl), Below.refl _ w⟩
  · by_cases b : 12 < n
    · rw [if_pos (.inr b)] at hv
      go_wp2_with fail
      go_ret
      exact ⟨by first | rfl | (rw [hv]; rfl), Below.refl _ w⟩
    · rw [if_neg (by omega)] at hv
      by_cases c : 400 < ws.length
      · rw [if_pos c] at hv
        have c' : (400 : Int) < (ws.length : Int) := by omega
        go_wp2_with fail
        go_ret
        exact ⟨by first | rfl | (rw [hv]; rfl), Below.refl _ w⟩
      · rw [if_neg c] at hv
        have c' : ¬ (400 : Int) < (ws.length : Int) := by omega
        have hwn : IntKind.i64.wrap (-n) = -n := IntWalk.i64_in _ (by omega)
        go_wp2_with fail
        go_loop [5] (fun i => ∃ k : Nat, k ≤ ws.length ∧ i = .int .i64 k ∧ (∀ y ∈ ws.take k, isL n y = true)) (fun i => ws.length - (intOf i).toNat)
        case atStart => exact ⟨0, Nat.zero_le _, rfl, fun y hy => by simp at hy⟩
        case round =>
          obtain ⟨k, hk, rfl, hall⟩ := hrel
          have Hall := Lib.hid hall
          have Hv := Lib.hid hv
          clear hall hv
          by_cases hkl : k < ws.length
          · obtain ⟨x, hx⟩ : ∃ x, ws[k]? = some x := ⟨_, List.getElem?_eq_getElem hkl⟩
            obtain ⟨bb, off, rfl, hB, hcx⟩ := Hc.out k x hx
            have k0 : (0 : Int) ≤ (k : Int) := by omega
            have k1 : (k : Int) < (ws.length : Int) := by omega
            have hbad : isL n x = false → v = 7 := fun hxl => by
              have : ¬ ws.all (isL n) = true := fun h => by
                have := List.all_eq_true.1 h x (List.mem_of_getElem? hx)
                rw [hxl] at this
                cases this
              rw [Hv.out, if_neg this]
            have Hbad := Lib.hid hbad
            clear hbad
            by_cases d0 : x = 0
            · have hv7 := Lib.hid (Hbad.out (by unfold isL; simp [d0]))
              subst d0
              go_wp2_with fail
              go_ret
              exact ⟨by rw [hv7.out]; rfl, Below.refl _ w⟩
            · by_cases d1 : x ≤ -n
              · have hv7 := Lib.hid (Hbad.out (by unfold isL; simp; omega))
                go_wp2_with fail
                go_ret
                exact ⟨by rw [hv7.out]; rfl, Below.refl _ w⟩
              · by_cases d2 : n ≤ x
                · have hv7 := Lib.hid (Hbad.out (by unfold isL; simp; omega))
                  go_wp2_with fail
                  go_ret
                  exact ⟨by rw [hv7.out]; rfl, Below.refl _ w⟩
                · have hxl : isL n x = true := by unfold isL; simp; omega
                  have hnx : ∀ y ∈ ws.take (k + 1), isL n y = true := by
                    intro y hy
                    rw [List.take_add_one, hx] at hy
                    rcases List.mem_append.1 hy with hy | hy
                    · exact Hall.out y hy
                    · obtain rfl : y = x := by simpa using hy
                      exact hxl
                  have Hnx := Lib.hid hnx
                  clear hnx hxl
                  go_wp2_with fail
                  go_roundw
                  case rel => exact ⟨k + 1, hkl, by go_num, Hnx.out⟩
                  case measure => (simp [intOf] <;> omega)
          · obtain rfl : k = ws.length := by omega
            rw [List.take_length] at Hall
            go_wp2_with fail
            go_ret
            refine ⟨?_, Below.refl _ w⟩
            rw [Hv.out, if_pos (List.all_eq_true.2 Hall.out)]
            rfl
set_option maxHeartbeats 400000 in
set_option maxRecDepth 100000 in
theorem refBoth_any (n : Int) (xs ys : List Int) (sa sb : Option Addr) (sc sd : Nat) (w : World) (hsc : xs.length ≤ sc) (hmx : sc ≤ maxLen) (hsd : ys.length ≤ sd) (hmd : sd ≤ maxLen) (ha : IntsAt w sa xs) (hb : IntsAt w sb ys) :
    Calls Tryz.prog 78 #[.int .i64 n, .slice sa xs.length sc, .slice sb ys.length sd] w fun e w' => e = .returned (.int .i64 (bothV n xs ys)) ∧ Below w.heap.size w w' := by
  have Ha := Lib.hid ha
  have Hb := Lib.hid hb
  clear ha hb
  obtain ⟨r, hr⟩ : ∃ r, r = bothV n xs ys := ⟨_, rfl⟩
  rw [← hr]
  unfold bothV at hr
  have Hr := Lib.hid hr
  clear hr
  go_enter Tryz.func78, Tryz.ntmps78
  go_wp2_with fail
  refine (refCheck_any n xs sa sc w Ha.out hsc hmx).mono ?_
  rintro e w1 ⟨rfl, B1⟩
  by_cases h : checkV n xs = 0
  · have hv := Lib.hid (Hr.out.trans (if_pos h))
    rw [h]
    go_wp2_with fail
    refine (refCheck_any n ys sb sd w1 (Hb.out.below B1) hsd hmd).mono ?_
    rintro e w2 ⟨rfl, B2⟩
    go_wp2_with fail
    go_ret
    exact ⟨by rw [hv.out]; rfl, B1.trans (B2.mono B1.size)⟩
  · have hv := Lib.hid (Hr.out.trans (if_neg h))
    obtain ⟨v, hev⟩ : ∃ v, v = checkV n xs := ⟨_, rfl⟩
    rw [← hev] at h hv ⊢
    go_wp2_with fail
    go_ret
    exact ⟨by rw [hv.out, hev]; rfl, B1⟩
end
section
open Go.RowKit Go.Lib
theorem own_form {w : World} {B n k : Nat} {e : TypeId} {v : Value} {xs : List Value} (h : w.ownsRow B e k v n xs) : ∃ a c, v = .slice a n c := by
  rcases h.2 with ⟨rfl, rfl⟩ | ⟨g, cap, cur, rfl, _⟩
  · exact ⟨_, _, rfl⟩
  · exact ⟨_, _, rfl⟩
end
section
open Go.ChangeShapes Go.WideShapes Go.ChangeAt Go.RowKit
theorem ownK : ownKnob Tryz.prog.godebug = none := by kernel_rfl
end
section
open Go.RowKit Go.Lib
theorem ints_more (n : Nat) (x : Pm) : ints (n + 1) x = ints n x ++ [(x.f n : Int)] := by simp [ints, List.range_succ]
set_option maxHeartbeats 400000 in
set_option maxRecDepth 100000 in
theorem refline_any (n : Nat) (hn : n ≤ 12) (w : World) :
    Calls Tryz.prog 98 #[.int .i64 (n : Int)] w fun e w' => ∃ v', e = .returned v' ∧ w'.ownsRow w.heap.size 3 1 v' n ((ints n idP).map (Value.int .i64)) ∧ Below w.heap.size w w' := by
  go_enter Tryz.func98, Tryz.ntmps98
  go_wp2_with fail
  go_loopw [3, 4] (fun vo i wr => ∃ (k : Nat) (D : List Int), k ≤ n ∧ D.length = k ∧ i = .int .i64 k ∧ D = ints k idP ∧ wr.ownsRow w.heap.size 3 1 vo D.length (D.map (Value.int .i64)) ∧ Below w.heap.size w wr) (fun _ i _ => n - (intOf i).toNat)
  case atStart => exact ⟨0, [], Nat.zero_le _, rfl, rfl, rfl, World.ownsRow_nil _ _ _ _, Below.refl _ w⟩
  case round =>
    obtain ⟨k, D, hk, hdk, rfl, hD, hown, hbw⟩ := hrel
    have Hown := Lib.hid hown
    have HD := Lib.hid hD
    have Hdk := Lib.hid hdk
    clear hown hD hdk
    have hbs := hbw.size
    by_cases hkl : k < n
    · have hkl' : (k : Int) < (n : Int) := by omega
      go_wp2_with (at_builtin; refine app_one (w0 := w) w.heap.size _ D (k : Int) rfl _ _ rfl rfl Hown.out rfl (by have := Hdk.out; omega) hbw hbs ?_; intro g cap w1 hown1 hb1)
      have HO1 := Lib.hid hown1
      clear hown1
      go_wp2_with fail
      go_roundw
      case rel => exact ⟨k + 1, D ++ [(k : Int)], hkl, by rw [List.length_append, Hdk.out]; rfl, by go_num, by rw [ints_more, HD.out]; rfl, by rw [List.length_append]; exact HO1.out, hb1⟩
      case measure => (simp [intOf] <;> omega)
    · have hkl' : ¬ (k : Int) < (n : Int) := by omega
      have e : k = n := by omega
      have Hf := Hown.out
      rw [Hdk.out, HD.out, e] at Hf
      have HF := Lib.hid Hf
      clear Hf Hown e
      go_wp2_with fail
      go_ret
      exact ⟨_, rfl, HF.out, hbw⟩
set_option maxHeartbeats 400000 in
set_option maxRecDepth 100000 in
theorem refbegins_any (n : Nat) (hn : n ≤ 12) (y : Pm) (j : Nat) (hj : j + 1 < n) (r : Bool) (hr : r = decide (y.beg j)) (v : Value) (w : World) (hv : IS w v (ints n y)) :
    Calls Tryz.prog 114 #[v, .int .i64 ((j : Int) + 1)] w fun e w' => e = .returned (.bool r) ∧ Below w.heap.size w w' := by
  obtain ⟨sa, sc, rfl, h1, h2, _, hI⟩ := hv
  rw [ints_len] at h1 ⊢
  obtain ⟨b, off, rfl, hb, c0⟩ := hI j _ (ints_get y (by omega))
  obtain ⟨b', off', e, _, c1⟩ := hI (j + 1) _ (ints_get y hj)
  cases e
  have n0 : IntKind.i64.wrap ((j : Int) + 1 - 1) = (j : Int) := num_in (by omega) (by omega)
  have n0' : IntKind.i64.wrap (j : Int) = (j : Int) := num_in (by omega) (by omega)
  have n1 : (0 : Int) ≤ (j : Int) := by omega
  have n2 : (j : Int) < (n : Int) := by omega
  have n3 : (0 : Int) ≤ (j : Int) + 1 := by omega
  have n4 : (j : Int) + 1 < (n : Int) := by omega
  have n5 : ((j : Int) + 1).toNat = j + 1 := by omega
  have hr' : r = decide (y.f (j + 1) < y.f j) := by rw [hr]; exact decide_eq_decide.2 Iff.rfl
  have Hr := Lib.hid hr'
  clear hr hr' hI
  go_enter Tryz.func114, Tryz.ntmps114
  go_wp2_with fail
  go_quiet (fail)
  go_wp2_with fail
  go_ret
  exact ⟨by rw [Hr.out]; rfl, below_drewN (Below.refl _ w) _⟩
end
section
open Go.RowKit Go.Lib
/-- The line whose first k numbers are turned round. -/
def dlk (n k : Nat) : List Int := (List.range n).map fun i => ((if i < k then rev n i else i : Nat) : Int)
theorem dlk_len (n k : Nat) : (dlk n k).length = n := by simp [dlk]
theorem dlk_zero (n : Nat) : dlk n 0 = ints n idP := by
  unfold dlk ints
  exact List.map_congr_left fun i _ => by rw [if_neg (by omega)]; rfl
theorem dlk_all (n : Nat) : dlk n n = ints n (dl n) := by
  unfold dlk ints
  exact List.map_congr_left fun i hi => by rw [if_pos (List.mem_range.1 hi)]; rfl
theorem dlk_set {n k : Nat} (hk : k < n) : ((dlk n k).map (Value.int .i64)).set k (.int .i64 ((n - 1 - k : Nat) : Int)) = (dlk n (k + 1)).map (Value.int .i64) := by
  apply List.ext_getElem?
  intro j
  rw [List.getElem?_set, List.length_map, dlk_len]
  unfold dlk
  rcases Nat.lt_or_ge j n with hj | hj
  · simp only [List.getElem?_map, List.getElem?_range hj, Option.map_some]
    by_cases e : k = j
    · subst e
      rw [if_pos rfl, if_pos hk, if_pos (by omega), rev_lt hk]
    · rw [if_neg e]
      by_cases h : j < k
      · rw [if_pos h, if_pos (by omega)]
      · rw [if_neg h, if_neg (by omega)]
  · rw [if_neg (by omega), List.getElem?_eq_none (by simp; omega), List.getElem?_eq_none (by simp; omega)]
end
section
open Go.RowKit Go.Lib
theorem checkV_of {n : Nat} (h1 : 1 ≤ n) (h2 : n ≤ 12) {ws : List Int} (hl : ws.length ≤ 400) (hw : Word n ws) : checkV n ws = 0 := by
  unfold checkV
  rw [if_neg (by omega), if_neg (by omega), if_pos (List.all_eq_true.2 fun z hz => by
    have := hw z hz
    unfold isL
    exact decide_eq_true ⟨this.1, this.2.1, this.2.2⟩)]
end
section
open Go.RowKit Go.Lib
def addM (M : Nat → Nat → Int) (a b : Nat) (s : Int) : Nat → Nat → Int := fun i j => if i = a ∧ j = b then M i j + s else M i j
def lkF (x : Pm × (Nat → Nat → Int)) (z : Int) : Pm × (Nat → Nat → Int) :=
  (x.1.pre (num z), addM (addM x.2 (x.1.f (num z)) (x.1.f (num z + 1)) (sgn z)) (x.1.f (num z + 1)) (x.1.f (num z)) (sgn z))
def lk (ws : List Int) : Pm × (Nat → Nat → Int) := ws.foldl lkF (idP, fun _ _ => 0)
def mrow (m : Nat) (f : Nat → Int) : Array Value := ((List.range m).map fun j => Value.int .i64 (f j)).toArray
theorem mrow_get {m : Nat} (f : Nat → Int) {j : Nat} (h : j < m) : (mrow m f)[j]? = some (.int .i64 (f j)) := by simp [mrow, h]
theorem mrow_set {m : Nat} (M : Nat → Nat → Int) {a b : Nat} (s : Int) (h : b < m) : (mrow m (M a)).setIfInBounds b (.int .i64 (M a b + s)) = mrow m (addM M a b s a) := by
  apply Array.ext_getElem?
  intro j
  rw [Array.getElem?_setIfInBounds]
  rcases Nat.lt_or_ge j m with hj | hj
  · rw [mrow_get _ hj, mrow_get _ hj]
    unfold addM
    by_cases e : b = j
    · subst e
      rw [if_pos rfl, if_pos (by simp [mrow]; exact h), if_pos ⟨rfl, rfl⟩]
    · rw [if_neg e, if_neg (fun h => e h.2.symm)]
  · rw [if_neg (by omega), Array.getElem?_eq_none (by simp [mrow]; omega), Array.getElem?_eq_none (by simp [mrow]; omega)]
theorem mrow_other {m : Nat} (M : Nat → Nat → Int) {a b i : Nat} (s : Int) (h : i ≠ a) : mrow m (addM M a b s i) = mrow m (M i) := by
  unfold mrow addM
  congr 1
  exact List.map_congr_left fun j _ => by rw [if_neg (fun e => h e.1)]
/-- The matrix in memory: a block of slices, and a block for each row. -/
structure MX (B C gl : Nat) (gr : Nat → Nat) (m : Nat) (M : Nat → Nat → Int) (w : World) : Prop where
  ptr : ∀ i, i < m → w.cell? ⟨gl, i, none⟩ = some (.slice (some ⟨gr i, 0, none⟩) m m)
  row : ∀ i, i < m → w.heap[gr i]? = some (.cells (mrow m (M i)) 3 (0, 0))
  lo : ∀ i, i < m → B ≤ gr i
  hi : ∀ i, i < m → gr i < C
  inj : ∀ i j, i < m → j < m → gr i = gr j → i = j
  ne : ∀ i, i < m → gr i ≠ gl
  gl : gl < C
  top : C ≤ w.heap.size
theorem MX.below {B C gl m : Nat} {gr : Nat → Nat} {M : Nat → Nat → Int} {w w' : World} (h : MX B C gl gr m M w) (hb : Below C w w') : MX B C gl gr m M w' :=
  ⟨fun i hi => (hb.cell (p := ⟨gl, i, none⟩) h.gl).trans (h.ptr i hi), fun i hi => (hb.block (gr i) (h.hi i hi)).trans (h.row i hi), h.lo, h.hi, h.inj, h.ne, h.gl, Nat.le_trans h.top hb.size⟩
theorem MX.drew {B C gl m : Nat} {gr : Nat → Nat} {M : Nat → Nat → Int} {w : World} (h : MX B C gl gr m M w) : MX B C gl gr m M w.drew := h.below (Below.refl _ w).drew
theorem MX.set {B C gl m : Nat} {gr : Nat → Nat} {M : Nat → Nat → Int} {w : World} (h : MX B C gl gr m M w) {a b : Nat} (ha : a < m) (hb : b < m) (s : Int) :
    MX B C gl gr m (addM M a b s) (w.setCell ⟨gr a, b, none⟩ (.int .i64 (M a b + s))) :=
  ⟨fun i hi => (World.cell?_of_block (a := ⟨gl, i, none⟩) (heap_setCell_other w ⟨gr a, b, none⟩ gl _ (fun e => h.ne a ha e.symm))).trans (h.ptr i hi), fun i hi => by
    by_cases e : i = a
    · subst e
      rw [heap_setCell_same w (gr i) b _ _ _ (h.row i hi), mrow_set M s hb]
    · rw [heap_setCell_other w ⟨gr a, b, none⟩ (gr i) _ (fun e' => e (h.inj i a hi ha e')), h.row i hi, mrow_other M s e], h.lo, h.hi, h.inj, h.ne, h.gl, by have := h.top; simpa [World.setCell] using this⟩
end
section
open Go.RowKit Go.Lib
/-- A slice value that reads as these rows. -/
def FS (w : World) (v : Value) (F : List (List Int)) : Prop := ∃ a c, v = .slice a F.length c ∧ F.length ≤ c ∧ c ≤ maxLen ∧ FormAt w a F
theorem FS.below {w w' : World} {v : Value} {F : List (List Int)} (h : FS w v F) (hb : Below w.heap.size w w') : FS w' v F := by
  obtain ⟨a, c, e, h1, h2, h3⟩ := h
  exact ⟨a, c, e, h1, h2, h3.below hb⟩
theorem fs_nil (w : World) : FS w (.slice none 0 0) [] := ⟨none, 0, rfl, Nat.le_refl _, Nat.zero_le _, fun k l h => by cases h⟩
theorem sameForm_fs {u v : Value} {xs ys : List (List Int)} {w : World} (hu : FS w u xs) (hv : FS w v ys) (r : Bool) (hr : r = true ↔ xs = ys) :
    Calls Tryz.prog 80 #[u, v] w fun e w' => e = .returned (.bool r) ∧ Below w.heap.size w w' := by
  obtain ⟨a, c, rfl, h1, h2, h3⟩ := hu
  obtain ⟨b, d, rfl, _, _, k3⟩ := hv
  exact sameForm_any xs ys r hr a b c d w h1 h2 h3 k3
end
section
open Go.RowKit Go.Lib
/-- The numbers f, of which the first k are turned by h. -/
def mix (n k : Nat) (f h : Nat → Nat) : List Int := (List.range n).map fun i => ((if i < k then h i else f i : Nat) : Int)
theorem mix_len (n k : Nat) (f h : Nat → Nat) : (mix n k f h).length = n := by simp [mix]
theorem mix_zero (n : Nat) (x : Pm) (h : Nat → Nat) : mix n 0 x.f h = ints n x := by
  unfold mix ints
  exact List.map_congr_left fun i _ => by rw [if_neg (by omega)]
theorem mix_all (n : Nat) (f : Nat → Nat) (y : Pm) : mix n n f y.f = ints n y := by
  unfold mix ints
  exact List.map_congr_left fun i hi => by rw [if_pos (List.mem_range.1 hi)]
theorem mix_get {n k i : Nat} (f h : Nat → Nat) (hi : i < n) : ((mix n k f h).map (Value.int .i64))[i]? = some (.int .i64 ((if i < k then h i else f i : Nat) : Int)) := by simp [mix, hi]
theorem mix_set {n k : Nat} (f h : Nat → Nat) (hk : k < n) : ((mix n k f h).map (Value.int .i64)).set k (.int .i64 (h k : Int)) = (mix n (k + 1) f h).map (Value.int .i64) := by
  apply List.ext_getElem?
  intro j
  rw [List.getElem?_set, List.length_map, mix_len]
  rcases Nat.lt_or_ge j n with hj | hj
  · rw [mix_get f h hj, mix_get f h hj]
    by_cases e : k = j
    · subst e
      rw [if_pos rfl, if_pos hk, if_pos (by omega)]
    · rw [if_neg e]
      by_cases h' : j < k
      · rw [if_pos h', if_pos (by omega)]
      · rw [if_neg h', if_neg (by omega)]
  · rw [if_neg (by omega), List.getElem?_eq_none (by simp [mix]; omega), List.getElem?_eq_none (by simp [mix]; omega)]
theorem mix_skip {n k : Nat} (f h : Nat → Nat) (e : h k = f k) : mix n (k + 1) f h = mix n k f h := by
  unfold mix
  refine List.map_congr_left fun i _ => ?_
  by_cases hi : i < k
  · rw [if_pos (by omega), if_pos hi]
  · rw [if_neg hi]
    by_cases hk : i = k
    · subst hk; rw [if_pos (by omega), e]
    · rw [if_neg (by omega)]
set_option maxHeartbeats 2000000 in
set_option maxRecDepth 100000 in
theorem refafter_any (n : Nat) (h1 : 1 ≤ n) (hn : n ≤ 12) (x : Pm) (q : Nat) (hq : q + 1 < n) (v : Value) (w : World) (hv : IS w v (ints n x)) :
    Calls Tryz.prog 97 #[v, .int .i64 ((q : Int) + 1)] w fun e w' => ∃ v', e = .returned v' ∧ w'.ownsRow w.heap.size 3 1 v' n ((ints n (x.post q)).map (Value.int .i64)) ∧ Below w.heap.size w w' := by
  have Hv := Lib.hid hv
  obtain ⟨sa, sc, rfl, k1, k2, _, hI⟩ := hv
  unfold maxLen at k2
  rw [ints_len] at k1
  have HI := Lib.hid hI
  have hil := Lib.hid (ints_len n x)
  clear hI
  have B0 : Below w.heap.size w (w.alloc (.cells #[] 3)) := below_alloc w _
  have HA := Lib.hid (Hv.out.below B0)
  rw [ints_len] at HA Hv ⊢
  have n0 : IntKind.i64.wrap ((q : Int) + 1 - 1) = (q : Int) := num_in (by omega) (by omega)
  go_enter Tryz.func97, Tryz.ntmps97
  go_wp2_with (at_builtin; refine app_all (w0 := w) w.heap.size _ [] (ints n x) rfl _ _ rfl rfl (World.ownsRow_made _ #[] 0 (Nat.le_refl _) (Nat.zero_le _) rfl) _ rfl HA.out (by rw [hil.out]; simp; omega) B0 B0.size ?_; intro v1 w1 O1 B1)
  rw [List.nil_append, ints_len] at O1
  obtain ⟨g, cap, rfl⟩ := own_pos O1 (by omega)
  have HO1 := Lib.hid O1
  clear O1 HA B0
  go_wp2_with fail
  go_loopw [6] (fun i wr => ∃ k : Nat, k ≤ n ∧ i = .int .i64 k ∧ wr.ownsRow w.heap.size 3 1 (.slice (some ⟨g, 0, none⟩) n cap) n ((mix n k x.f (x.post q).f).map (Value.int .i64)) ∧ Below w.heap.size w wr) (fun i _ => n - (intOf i).toNat)
  case atStart => exact ⟨0, Nat.zero_le _, rfl, by rw [mix_zero]; exact HO1.out, B1⟩
  case round =>
    obtain ⟨k, hk, rfl, hown, hbw⟩ := hrel
    by_cases hkn : k < n
    · have k0 : (0 : Int) ≤ (k : Int) := by omega
      have k1 : (k : Int) < (n : Int) := by omega
      obtain ⟨b, off, rfl, hb, hc⟩ := HI.out k _ (ints_get x hkn)
      have ec := (hbw.cell (p := ⟨b, off + k, none⟩) hb).trans hc
      have ck := hown.cellAt k (by omega)
      rw [mix_get _ _ hkn] at ck
      have fk := hown.frozenAt k
      have hg := hown.lt g rfl
      have hp : (x.post q).f k = sw q (x.f k) := rfl
      by_cases e1 : x.f k = q + 1
      · have hst := (hown.stored k (.int .i64 ((x.post q).f k : Int))).1
        rw [mix_set _ _ hkn, hp, e1, sw_r] at hst
        have Hst := Lib.hid hst
        have Hb := Lib.hid (hbw.setCell (p := ⟨g, k, none⟩) hg.1 (.int .i64 (q : Int)))
        have ec2 := (Hb.out.cell (p := ⟨b, off + k, none⟩) hb).trans hc
        rw [e1, Int.natCast_add, show ((1 : Nat) : Int) = 1 from rfl] at ec ec2
        have t2 : ((q : Int) + 1 == (q : Int)) = false := by simp; omega
        clear hown hst hbw hp hc hg
        go_wp2_with fail
        go_roundw
        case rel => exact ⟨k + 1, hkn, by go_num, Hst.out, Hb.out⟩
        case measure => (simp [intOf] <;> omega)
      · by_cases e2 : x.f k = q
        · have hst := (hown.stored k (.int .i64 ((x.post q).f k : Int))).1
          rw [mix_set _ _ hkn, hp, e2, sw_l, Int.natCast_add, show ((1 : Nat) : Int) = 1 from rfl] at hst
          have Hst := Lib.hid hst
          have Hb := Lib.hid (hbw.setCell (p := ⟨g, k, none⟩) hg.1 (.int .i64 ((q : Int) + 1)))
          rw [e2] at ec
          have t2 : ((q : Int) == (q : Int) + 1) = false := by simp; omega
          clear hown hst hbw hp hc hg e1
          go_wp2_with fail
          go_roundw
          case rel => exact ⟨k + 1, hkn, by go_num, Hst.out, Hb.out⟩
          case measure => (simp [intOf] <;> omega)
        · have hsk := mix_skip (n := n) x.f (x.post q).f (k := k) (by rw [hp]; exact sw_o e2 e1)
          have Hown := Lib.hid (show wr.ownsRow w.heap.size 3 1 (.slice (some ⟨g, 0, none⟩) n cap) n ((mix n (k + 1) x.f (x.post q).f).map (Value.int .i64)) by rw [hsk]; exact hown)
          have t1 : ((x.f k : Int) == (q : Int) + 1) = false := by simp; omega
          have t2 : ((x.f k : Int) == (q : Int)) = false := by simp; omega
          clear hown hp hc hg e1 e2 hsk
          go_wp2_with fail
          go_roundw
          case rel => exact ⟨k + 1, hkn, by go_num, Hown.out, hbw⟩
          case measure => (simp [intOf] <;> omega)
    · have he : k = n := by omega
      have k1 : ¬ (k : Int) < (n : Int) := by omega
      rw [he, mix_all] at hown
      have Hown := Lib.hid hown
      clear hown he
      go_wp2_with fail
      go_ret
      exact ⟨_, rfl, Hown.out, hbw⟩
set_option maxHeartbeats 1000000 in
set_option maxRecDepth 100000 in
theorem reffin_any (n : Nat) (h1 : 1 ≤ n) (hn : n ≤ 12) (x : Pm) (hx : x.In n) (q : Nat) (hq : q + 1 < n) (r : Bool) (hr : r = true ↔ x.fin q) (v : Value) (w : World) (hv : IS w v (ints n x)) :
    Calls Tryz.prog 115 #[v, .int .i64 ((q : Int) + 1)] w fun e w' => e = .returned (.bool r) ∧ Below w.heap.size w w' := by
  have CE := Lib.hid (refends_any n hn x hx v w hv)
  have n0 : IntKind.i64.wrap ((q : Int) + 1 - 1) = (q : Int) := num_in (by omega) (by omega)
  have Hr := Lib.hid (show r = decide (x.g (q + 1) < x.g q) by rw [Bool.eq_iff_iff, hr]; unfold Pm.fin; simp)
  clear hr
  go_enter Tryz.func115, Tryz.ntmps115
  go_wp2_with fail
  refine CE.out.mono ?_
  rintro e w1 ⟨v1, rfl, O1, B1⟩
  obtain ⟨g, cap, rfl⟩ := own_pos O1 (by omega)
  have c0 : w1.cell? ⟨g, q, none⟩ = some (.int .i64 (x.g q : Int)) := by rw [O1.cellAt q (by omega), List.getElem?_map, ints_get x.inv (show q < n by omega)]; rfl
  have c1 : w1.cell? ⟨g, q + 1, none⟩ = some (.int .i64 (x.g (q + 1) : Int)) := by rw [O1.cellAt (q + 1) (by omega), List.getElem?_map, ints_get x.inv hq]; rfl
  have q0 : (0 : Int) ≤ (q : Int) := by omega
  have q1 : (q : Int) < (n : Int) := by omega
  have q2 : (q : Int) + 1 < (n : Int) := by omega
  have q3 : (0 : Int) ≤ (q : Int) + 1 := by omega
  have q4 : ((q : Int) + 1).toNat = q + 1 := by omega
  have B1' := Lib.hid B1
  clear O1 CE B1
  go_wp2_with fail
  go_quiet (fail)
  go_wp2_with fail
  go_ret
  exact ⟨by rw [Hr.out]; rfl, below_drewN B1'.out _⟩
theorem turn_all {n : Nat} {x : Pm} (hx : x.In n) {R : List Value} (hl : R.length = n) (h : ∀ i, i < n → R[n - 1 - i]? = some (.int .i64 ((n - 1 - x.f i : Nat) : Int))) : R = (ints n (tu n x)).map (Value.int .i64) := by
  apply List.ext_getElem?
  intro j
  rcases Nat.lt_or_ge j n with hj | hj
  · have h1 := h (n - 1 - j) (by omega)
    rw [show n - 1 - (n - 1 - j) = j by omega] at h1
    rw [h1, List.getElem?_map, ints_get _ hj]
    show _ = some (Value.int .i64 ((rev n (x.f (rev n j)) : Nat) : Int))
    have h2 : x.f (n - 1 - j) < n := hx.lt (by omega)
    rw [rev_lt hj, rev_lt h2]
  · rw [List.getElem?_eq_none (by omega), List.getElem?_eq_none (by rw [List.length_map, ints_len]; exact hj)]
set_option maxHeartbeats 1000000 in
set_option maxRecDepth 100000 in
theorem refturned_any (n : Nat) (h1 : 1 ≤ n) (hn : n ≤ 12) (x : Pm) (hx : x.In n) (v : Value) (w : World) (hv : IS w v (ints n x)) :
    Calls Tryz.prog 99 #[v] w fun e w' => ∃ v', e = .returned v' ∧ w'.ownsRow w.heap.size 3 1 v' n ((ints n (tu n x)).map (Value.int .i64)) ∧ Below w.heap.size w w' := by
  obtain ⟨sa, sc, rfl, k1, k2, _, hI⟩ := hv
  unfold maxLen at k2
  rw [ints_len] at k1 ⊢
  have HI := Lib.hid hI
  have Hx := Lib.hid hx
  have hmk := fun W => mk_full n (by omega) W
  have HO := Lib.hid (own_full n w.heap.size (by omega) w (Nat.le_refl _))
  have HB := Lib.hid (below_alloc w (.cells (madeCells #[.int .i64 0] n) 3))
  have Hl0 := Lib.hid (show (madeCells #[Value.int .i64 0] n).toList.length = n by rw [Array.length_toList, size_madeCells])
  clear hI hx
  go_enter Tryz.func99, Tryz.ntmps99
  go_wp2_with fail
  clear hmk
  go_loopw [5] (fun i wr => ∃ (k : Nat) (R : List Value), k ≤ n ∧ i = .int .i64 k ∧ wr.ownsRow w.heap.size 3 1 (.slice (some ⟨w.heap.size, 0, none⟩) n n) n R ∧ R.length = n ∧ (∀ i, i < k → R[n - 1 - i]? = some (.int .i64 ((n - 1 - x.f i : Nat) : Int))) ∧ Below w.heap.size w wr) (fun i _ => n - (intOf i).toNat)
  case atStart => exact ⟨0, _, Nat.zero_le _, rfl, HO.out, Hl0.out, fun i hi => by omega, HB.out⟩
  case round =>
    obtain ⟨k, R, hk, rfl, hown, hRl, hR, hbw⟩ := hrel
    have HR := Lib.hid hR
    have HRl := Lib.hid hRl
    clear hR hRl
    by_cases hkn : k < n
    · have k0 : (0 : Int) ≤ (k : Int) := by omega
      have k1 : (k : Int) < (n : Int) := by omega
      obtain ⟨b, off, rfl, hb, hc⟩ := HI.out k _ (ints_get x hkn)
      have ec := (hbw.cell (p := ⟨b, off + k, none⟩) hb).trans hc
      have hxk : x.f k < n := Hx.out.lt hkn
      have n1 : IntKind.i64.wrap ((n : Int) - 1) = ((n - 1 : Nat) : Int) := num_in (by omega) (by omega)
      have n2 : IntKind.i64.wrap (((n - 1 : Nat) : Int) - (k : Int)) = ((n - 1 - k : Nat) : Int) := num_in (by omega) (by omega)
      have n3 : IntKind.i64.wrap (((n - 1 : Nat) : Int) - (x.f k : Int)) = ((n - 1 - x.f k : Nat) : Int) := num_in (by omega) (by omega)
      have m0 : (0 : Int) ≤ ((n - 1 - k : Nat) : Int) := by omega
      have m1 : ((n - 1 - k : Nat) : Int) < (n : Int) := by omega
      have ck := hown.cellAt (n - 1 - k) (by omega)
      have fk := hown.frozenAt (n - 1 - k)
      obtain ⟨u, hu⟩ : ∃ u, R[n - 1 - k]? = some u := ⟨_, List.getElem?_eq_getElem (by rw [HRl.out]; omega)⟩
      rw [hu] at ck
      have hst := (hown.stored (n - 1 - k) (.int .i64 ((n - 1 - x.f k : Nat) : Int))).1
      have Hst := Lib.hid hst
      have Hb := Lib.hid (hbw.setCell (p := ⟨w.heap.size, n - 1 - k, none⟩) (Nat.le_refl _) (.int .i64 ((n - 1 - x.f k : Nat) : Int)))
      clear hown hst hbw hc
      go_wp2_with fail
      go_roundw
      case rel =>
        refine ⟨k + 1, _, hkn, by go_num, Hst.out, by rw [List.length_set]; exact HRl.out, fun i hi => ?_, Hb.out⟩
        rw [List.getElem?_set]
        by_cases e : i = k
        · subst e; rw [if_pos rfl, if_pos (by rw [HRl.out]; omega)]
        · rw [if_neg (by omega)]; exact HR.out i (by omega)
      case measure => (simp [intOf] <;> omega)
    · have he : k = n := by omega
      have k1 : ¬ (k : Int) < (n : Int) := by omega
      rw [he] at HR
      have e := turn_all Hx.out HRl.out HR.out
      rw [e] at hown
      have Hown := Lib.hid hown
      clear hown e he
      go_wp2_with fail
      go_ret
      exact ⟨_, rfl, Hown.out, hbw⟩
end
section
open Go.RowKit Go.Lib
/-- A simple braid in an ownK row. -/
def OP (w : World) (B n : Nat) (v : Value) (x : Pm) : Prop := w.ownsRow B 3 1 v n ((ints n x).map (Value.int .i64))
theorem OP.is {w : World} {B n : Nat} {v : Value} {x : Pm} (h : OP w B n v x) : IS w v (ints n x) := is_own h (ints_len n x)
theorem own_blk3 {w : World} {B n g cap k : Nat} {e : TypeId} {xs : List Value} (h : w.ownsRow B e k (.slice (some ⟨g, 0, none⟩) n cap) n xs) {g' : Nat} (hg : g' ≠ g) (j : Nat) (u : Value) : (w.setCell ⟨g', j, none⟩ u).ownsRow B e k (.slice (some ⟨g, 0, none⟩) n cap) n xs := by
  refine ⟨h.1, ?_⟩
  rcases h.2 with h0 | ⟨g0, cap0, cur, h0, h1, h2, h3⟩
  · exact .inl h0
  · cases h0
    exact .inr ⟨g, cap, cur, rfl, h1, (heap_setCell_other w ⟨g', j, none⟩ u (k := g) (fun e => hg e.symm)).trans h2, h3⟩
set_option maxHeartbeats 4000000 in
set_option maxRecDepth 100000 in
theorem refslid_any (n : Nat) (h1 : 1 ≤ n) (hn : n ≤ 12) (a b : Pm) (ha : a.In n) (hb : b.In n) (B : Nat) (va vb : Value) (w : World) (hB : B ≤ w.heap.size) (oa : OP w B n va a) (ob : OP w B n vb b) :
    Calls Tryz.prog 101 #[va, vb] w fun e w' => ∃ v1 v2 c, e = .returned (.tuple #[v1, v2, .bool c]) ∧ OP w' B n v1 (take n a b).1 ∧ OP w' B n v2 (take n a b).2 ∧ (c = true ↔ firstS n a b ≠ none) ∧ Below w.heap.size w w' := by
  obtain ⟨ga, ca, rfl⟩ := own_pos oa (by omega)
  obtain ⟨gb, cb, rfl⟩ := own_pos ob (by omega)
  have Oa := Lib.hid oa
  have Ob := Lib.hid ob
  have Ha := Lib.hid ha
  have Hb := Lib.hid hb
  clear oa ob ha hb
  go_enter Tryz.func101, Tryz.ntmps101
  go_wp2_with fail
  go_loopg [0, 1, 7, 8] (cost n b * (n + 1) + n) (fun G xa xb s7 s8 wr => ∃ (j : Nat) (x y : Pm) (c : Bool) (g1 c1 g2 c2 : Nat), G = cost n y * (n + 1) + (n - j) ∧ x.In n ∧ y.In n ∧ take n x y = take n a b ∧ s8 = .int .i64 ((j : Int) + 1) ∧ j + 1 ≤ n ∧ (∀ k, k < j → ¬ (y.beg k ∧ ¬ x.fin k)) ∧ s7 = .bool c ∧ (c = false → x = a ∧ y = b) ∧ (c = true → firstS n a b ≠ none) ∧
    xa = .slice (some ⟨g1, 0, none⟩) n c1 ∧ xb = .slice (some ⟨g2, 0, none⟩) n c2 ∧ OP wr B n (.slice (some ⟨g1, 0, none⟩) n c1) x ∧ OP wr B n (.slice (some ⟨g2, 0, none⟩) n c2) y ∧ Below w.heap.size w wr)
  case atStart => exact ⟨0, a, b, false, ga, ca, gb, cb, by omega, Ha.out, Hb.out, rfl, rfl, h1, fun k hk => by omega, rfl, fun _ => ⟨rfl, rfl⟩, (fun h => by cases h), rfl, rfl, Oa.out, Ob.out, Below.refl _ _⟩
  case round =>
    obtain ⟨j, x, y, c, g1, c1, g2, c2, hG, hx, hy, hT, rfl, hjn, hno, rfl, hc0, hc1, rfl, rfl, o1, o2, hbw⟩ := hrel
    have HG := Lib.hid hG
    have HT := Lib.hid hT
    have Hno := Lib.hid hno
    have Hc0 := Lib.hid hc0
    have Hc1 := Lib.hid hc1
    have O1 := Lib.hid o1
    have O2 := Lib.hid o2
    have hbs := hbw.size
    have j0 : (0 : Int) ≤ (j : Int) := by omega
    clear hG hT hno hc0 hc1 o1 o2
    by_cases hjl : j + 1 < n
    · have hji : (j : Int) + 1 < (n : Int) := by omega
      by_cases hbj : y.beg j
      · have CB := Lib.hid (fun w' v (h : IS w' v (ints n y)) => refbegins_any n hn y j hjl true (decide_eq_true hbj).symm v w' h)
        by_cases hfj : x.fin j
        · have CF := Lib.hid (fun w' v (h : IS w' v (ints n x)) => reffin_any n h1 hn x hx j hjl true ⟨fun _ => hfj, fun _ => rfl⟩ v w' h)
          go_wp2_with fail
          refine (CB.out _ _ O2.out.is).mono ?_
          rintro e w2 ⟨rfl, B2⟩
          have P1 := Lib.hid (own_below O1.out B2)
          have P2 := Lib.hid (own_below O2.out B2)
          have HB2 := Lib.hid (bon hbw B2)
          clear B2 hbw O1 O2
          go_wp2_with fail
          refine (CF.out _ _ (OP.is P1.out)).mono ?_
          rintro e w3 ⟨rfl, B3⟩
          have Q1 := Lib.hid (own_below P1.out B3)
          have Q2 := Lib.hid (own_below P2.out B3)
          have HB3 := Lib.hid (bon HB2.out B3)
          clear B3 HB2 P1 P2
          go_wp2_with fail
          go_roundg (cost n y * (n + 1) + (n - (j + 1)))
          case measure => rw [HG.out]; omega
          case rel => exact ⟨j + 1, x, y, c, g1, c1, g2, c2, rfl, hx, hy, HT.out, by go_num, hjl, fun k hk => by
            by_cases e : k = j
            · subst e; exact fun h => h.2 hfj
            · exact Hno.out k (by omega), rfl, Hc0.out, Hc1.out, rfl, rfl, Q1.out, Q2.out, HB3.out⟩
        · have CF := Lib.hid (fun w' v (h : IS w' v (ints n x)) => reffin_any n h1 hn x hx j hjl false ⟨fun h => (by cases h), fun h => absurd h hfj⟩ v w' h)
          have CA := Lib.hid (fun w' v (h : IS w' v (ints n x)) => refafter_any n h1 hn x j hjl v w' h)
          have hfs := firstS_eq hjl hbj hfj Hno.out
          have HT2 := Lib.hid ((take_step hy hfs).symm.trans HT.out)
          have hcp := cost_pre hy hjl hbj
          have Hns := Lib.hid (show firstS n a b ≠ none from by
            rcases c with _ | _
            · obtain ⟨rfl, rfl⟩ := Hc0.out rfl
              rw [hfs]; intro h; cases h
            · exact Hc1.out rfl)
          have hyp := hy.pre hjl
          have hxp := hx.post hjl
          have n0 : IntKind.i64.wrap ((j : Int) + 1 - 1) = (j : Int) := num_in (by omega) (by omega)
          have n3 : (0 : Int) ≤ (j : Int) + 1 := by omega
          have n5 : ((j : Int) + 1).toNat = j + 1 := by omega
          have n6 : (j : Int) < (n : Int) := by omega
          clear hfs
          go_wp2_with fail
          refine (CB.out _ _ O2.out.is).mono ?_
          rintro e w2 ⟨rfl, B2⟩
          have P1 := Lib.hid (own_below O1.out B2)
          have P2 := Lib.hid (own_below O2.out B2)
          have HB2 := Lib.hid (bon hbw B2)
          clear B2 hbw O1 O2
          go_wp2_with fail
          refine (CF.out _ _ (OP.is P1.out)).mono ?_
          rintro e w3 ⟨rfl, B3⟩
          have Q1 := Lib.hid (own_below P1.out B3)
          have Q2 := Lib.hid (own_below P2.out B3)
          have HB3 := Lib.hid (bon HB2.out B3)
          clear B3 HB2 P1 P2
          go_wp2_with fail
          refine (CA.out _ _ (OP.is Q1.out)).mono ?_
          rintro e w4 ⟨v4, rfl, O4, B4⟩
          obtain ⟨g4, c4, rfl⟩ := own_pos O4 (by omega)
          have R1 := Lib.hid (own_mono O4 (Nat.le_trans hB HB3.out.size))
          have hg4 := (O4.lt g4 rfl).2
          have R2 := Lib.hid (own_below Q2.out B4)
          have HB4 := Lib.hid (bon HB3.out B4)
          have hz4 := HB4.out.size
          clear O4 B4 HB3 Q1 Q2
          have B5 : Below w4.heap.size w4 (w4.alloc (.cells #[] 3)) := below_alloc w4 _
          have HA := Lib.hid ((OP.is R2.out).below B5)
          have hil := Lib.hid (ints_len n y)
          go_wp2_with (at_builtin; refine app_all (w0 := w4) w4.heap.size _ [] (ints n y) rfl _ _ rfl rfl (World.ownsRow_made _ #[] 0 (Nat.le_refl _) (Nat.zero_le _) rfl) _ rfl HA.out (by rw [hil.out]; simp; omega) B5 B5.size ?_; intro v6 w6 O6 B6)
          rw [List.nil_append, ints_len] at O6
          obtain ⟨g6, c6, rfl⟩ := own_pos O6 (by omega)
          have hg6 := O6.lt g6 rfl
          have hz6 := hg6.1
          have R1' := Lib.hid (own_below R1.out B6)
          have HB6 := Lib.hid (bon HB4.out B6)
          have e0 : w6.cell? ⟨g6, j, none⟩ = some (.int .i64 (y.f j : Int)) := by rw [O6.cellAt j (by omega), List.getElem?_map, ints_get y (by omega)]; rfl
          have e1 : w6.cell? ⟨g6, j + 1, none⟩ = some (.int .i64 (y.f (j + 1) : Int)) := by rw [O6.cellAt (j + 1) (by omega), List.getElem?_map, ints_get y hjl]; rfl
          have f0 := O6.frozenAt j
          have f1 := O6.frozenAt (j + 1)
          have hs1 := (O6.stored j (.int .i64 (y.f (j + 1) : Int))).1
          have hs2 := (hs1.stored (j + 1) (.int .i64 (y.f j : Int))).1
          rw [ints_swap y hjl] at hs2
          have Hs2 := Lib.hid (own_mono hs2 (show B ≤ w4.heap.size by omega))
          have Hr1 := Lib.hid (own_blk3 (own_blk3 R1'.out (g' := g6) (by omega) j (.int .i64 (y.f (j + 1) : Int))) (g' := g6) (by omega) (j + 1) (.int .i64 (y.f j : Int)))
          have Hbw6 := Lib.hid ((HB6.out.setCell (p := ⟨g6, j, none⟩) (show w.heap.size ≤ g6 by omega) (.int .i64 (y.f (j + 1) : Int))).setCell (p := ⟨g6, j + 1, none⟩) (show w.heap.size ≤ g6 by omega) (.int .i64 (y.f j : Int)))
          clear O6 hs1 hs2 B6 R1 R1' R2 HA B5
          go_wp2_with fail
          go_region
          have Hs3 := Lib.hid Hs2.out.drew
          have Hr3 := Lib.hid Hr1.out.drew
          have Hb3 := Lib.hid Hbw6.out.drew
          clear Hs2 Hr1 Hbw6 e0 e1 f0 f1
          go_wp2_with fail
          go_roundg (cost n (y.pre j) * (n + 1) + n)
          case measure =>
            rw [HG.out]
            have : (cost n (y.pre j) + 1) * (n + 1) ≤ cost n y * (n + 1) := Nat.mul_le_mul hcp (Nat.le_refl _)
            rw [Nat.add_mul] at this
            omega
          case rel => exact ⟨0, x.post j, y.pre j, true, g4, c4, g6, c6, by omega, hxp, hyp, HT2.out, by go_num, h1, fun k hk => by omega, rfl, (fun h => by cases h), fun _ => Hns.out, rfl, rfl, Hr3.out, Hs3.out, Hb3.out⟩
      · have CB := Lib.hid (fun w' v (h : IS w' v (ints n y)) => refbegins_any n hn y j hjl false (decide_eq_false hbj).symm v w' h)
        go_wp2_with fail
        refine (CB.out _ _ O2.out.is).mono ?_
        rintro e w2 ⟨rfl, B2⟩
        have P1 := Lib.hid (own_below O1.out B2)
        have P2 := Lib.hid (own_below O2.out B2)
        have HB2 := Lib.hid (bon hbw B2)
        clear B2 hbw O1 O2
        go_wp2_with fail
        go_roundg (cost n y * (n + 1) + (n - (j + 1)))
        case measure => rw [HG.out]; omega
        case rel => exact ⟨j + 1, x, y, c, g1, c1, g2, c2, rfl, hx, hy, HT.out, by go_num, hjl, fun k hk => by
            by_cases e : k = j
            · subst e; exact fun h => hbj h.1
            · exact Hno.out k (by omega), rfl, Hc0.out, Hc1.out, rfl, rfl, P1.out, P2.out, HB2.out⟩
    · have hji : ¬ (j : Int) + 1 < (n : Int) := by omega
      have hfs := firstS_no (n := n) (fun k hk => Hno.out k (by omega))
      have Hfs := Lib.hid hfs
      have Hbw := Lib.hid hbw
      clear hfs hbw
      have HR := Lib.hid (show take n a b = (x, y) from by rw [← HT.out]; exact take_none Hfs.out)
      have Hcc := Lib.hid (show c = true ↔ firstS n a b ≠ none from ⟨Hc1.out, fun h => by
        rcases c with _ | _
        · obtain ⟨rfl, rfl⟩ := Hc0.out rfl
          exact absurd Hfs.out h
        · rfl⟩)
      go_wp2_with fail
      go_ret3
      rw [HR.out]
      rcases c with _ | _
      · exact ⟨_, _, .inl ⟨rfl, O1.out, O2.out, (Classical.byContradiction fun h => nomatch Hcc.out.2 h), Hbw.out⟩⟩
      · exact ⟨_, _, .inr ⟨rfl, O1.out, O2.out, Hcc.out.1 rfl, Hbw.out⟩⟩
end
section
open Go.RowKit Go.Lib
set_option maxHeartbeats 1000000 in
set_option maxRecDepth 100000 in
theorem refwith_any (n : Nat) (h1 : 1 ≤ n) (hn : n ≤ 12) (q : Nat) (hq : q + 1 < n) (w : World) :
    Calls Tryz.prog 100 #[.int .i64 (n : Int), .int .i64 ((q : Int) + 1)] w fun e w' => ∃ v', e = .returned v' ∧ OP w' w.heap.size n v' ((dl n).post q) ∧ Below w.heap.size w w' := by
  go_enter Tryz.func100, Tryz.ntmps100
  go_wp2_with fail
  refine (refline_any n hn w).mono ?_
  rintro e w2 ⟨v2, rfl, O2, B2⟩
  obtain ⟨g2, c2, rfl⟩ := own_pos O2 (by omega)
  have HO2 := Lib.hid O2
  have Hb2 := Lib.hid B2
  clear O2 B2
  go_wp2_with fail
  go_loopw [6] (fun i wr => ∃ k : Nat, k ≤ n ∧ i = .int .i64 k ∧ wr.ownsRow w.heap.size 3 1 (.slice (some ⟨g2, 0, none⟩) n c2) n ((dlk n k).map (Value.int .i64)) ∧ Below w.heap.size w wr) (fun i _ => n - (intOf i).toNat)
  case atStart => exact ⟨0, Nat.zero_le _, rfl, by rw [dlk_zero]; exact HO2.out, Hb2.out⟩
  case round =>
    obtain ⟨k, hk, rfl, hown, hbw⟩ := hrel
    rename World => wr
    by_cases hkn : k < n
    · have hg2 := hown.lt g2 rfl
      have n1 : IntKind.i64.wrap ((n : Int) - 1) = ((n - 1 : Nat) : Int) := num_in (by omega) (by omega)
      have n2 : IntKind.i64.wrap (((n - 1 : Nat) : Int) - (k : Int)) = ((n - 1 - k : Nat) : Int) := num_in (by omega) (by omega)
      have k0 : (0 : Int) ≤ (k : Int) := by omega
      have k1 : (k : Int) < (n : Int) := by omega
      have ck := hown.cellAt k (by omega)
      rw [List.getElem?_map, dlk, List.getElem?_map, List.getElem?_range hkn] at ck
      simp only [Option.map_some] at ck
      have fk := hown.frozenAt k
      have hst := (hown.stored k (.int .i64 ((n - 1 - k : Nat) : Int))).1
      rw [dlk_set hkn] at hst
      have Hst := Lib.hid hst
      have Hb := Lib.hid (hbw.setCell (p := ⟨g2, k, none⟩) hg2.1 (.int .i64 ((n - 1 - k : Nat) : Int)))
      clear hown hst hbw hg2
      go_wp2_with fail
      go_roundw
      case rel => exact ⟨k + 1, hkn, by go_num, Hst.out, Hb.out⟩
      case measure => (simp [intOf] <;> omega)
    · have e : k = n := by omega
      have k1 : ¬ (k : Int) < (n : Int) := by omega
      rw [e, dlk_all] at hown
      have hI := Lib.hid (is_own hown (ints_len n (dl n)))
      have Hbw := Lib.hid hbw
      clear hown hbw e
      go_wp2_with fail
      refine (refafter_any n h1 hn (dl n) q hq _ wr hI.out).mono ?_
      rintro e w3 ⟨v3, rfl, O3, B3⟩
      have HO3 := Lib.hid (own_mono O3 Hbw.out.size)
      have Hb3 := Lib.hid (bon Hbw.out B3)
      clear O3 B3
      go_wp2_with fail
      go_ret
      exact ⟨_, rfl, HO3.out, Hb3.out⟩
set_option maxHeartbeats 1000000 in
set_option maxRecDepth 100000 in
theorem refflat_any (n : Nat) (h1 : 1 ≤ n) (hn : n ≤ 12) (x : Pm) (hx : x.In n) (way : Int) (hw : way = 1 ∨ way = -1) (r : Bool) (hr : r = true ↔ ∀ i, i + 1 < n → (x.f (i + 1) : Int) = (x.f i : Int) + way) (v : Value) (w : World) (hv : IS w v (ints n x)) :
    Calls Tryz.prog 102 #[v, .int .i64 way] w fun e w' => e = .returned (.bool r) ∧ Below w.heap.size w w' := by
  obtain ⟨sa, sc, rfl, k1, k2, _, hI⟩ := hv
  unfold maxLen at k2
  rw [ints_len] at k1 ⊢
  have HI := Lib.hid hI
  have Hr := Lib.hid hr
  have Hx := Lib.hid hx
  clear hI hr hx
  go_enter Tryz.func102, Tryz.ntmps102
  go_wp2_with fail
  go_loopw [5] (fun i wr => ∃ j : Nat, j + 1 ≤ n ∧ i = .int .i64 ((j : Int) + 1) ∧ (∀ k, k < j → (x.f (k + 1) : Int) = (x.f k : Int) + way) ∧ Below w.heap.size w wr) (fun i _ => n + 1 - (intOf i).toNat)
  case atStart => exact ⟨0, h1, rfl, fun k hk => by omega, Below.refl _ _⟩
  case round =>
    obtain ⟨j, hj, rfl, hall, hbw⟩ := hrel
    have Hall := Lib.hid hall
    clear hall
    by_cases hjn : j + 1 < n
    · have j0 : (0 : Int) ≤ (j : Int) := by omega
      have j1 : (j : Int) + 1 < (n : Int) := by omega
      have j2 : (j : Int) < (n : Int) := by omega
      have j3 : (0 : Int) ≤ (j : Int) + 1 := by omega
      have j4 : ((j : Int) + 1).toNat = j + 1 := by omega
      have n0 : IntKind.i64.wrap ((j : Int) + 1 - 1) = (j : Int) := num_in (by omega) (by omega)
      obtain ⟨b, off, rfl, hb, hc⟩ := HI.out j _ (ints_get x (by omega))
      obtain ⟨b', off', hbb, hb', hc'⟩ := HI.out (j + 1) _ (ints_get x hjn)
      cases hbb
      have e0 := (hbw.cell (p := ⟨b, off + j, none⟩) hb).trans hc
      have e1 := (hbw.cell (p := ⟨b, off + (j + 1), none⟩) hb).trans hc'
      have l0 := Hx.out.lt (show j < n by omega)
      have l1 := Hx.out.lt hjn
      have z1 : IntKind.i64.wrap ((x.f j : Int) + way) = (x.f j : Int) + way := IntWalk.i64_in _ (by omega)
      by_cases hq : (x.f (j + 1) : Int) = (x.f j : Int) + way
      · have hq' : ((x.f (j + 1) : Int) == (x.f j : Int) + way) = true := by simpa using hq
        have Hq := Lib.hid hq
        clear hq hc hc'
        go_wp2_with fail
        go_quiet (fail)
        go_wp2_with fail
        go_roundw
        case rel => exact ⟨j + 1, hjn, by go_num, fun k hk => by
          by_cases e : k = j
          · subst e; exact Hq.out
          · exact Hall.out k (by omega), below_drewN hbw _⟩
        case measure => (simp [intOf] <;> omega)
      · have hq' : ((x.f (j + 1) : Int) == (x.f j : Int) + way) = false := by simpa using hq
        have Hrf := Lib.hid (show r = false from by
          rcases r with _ | _
          · rfl
          · exact absurd (Hr.out.1 rfl j hjn) hq)
        clear hq hc hc'
        go_wp2_with fail
        go_quiet (fail)
        go_wp2_with fail
        go_ret
        exact ⟨by rw [Hrf.out]; rfl, below_drewN hbw _⟩
    · have j1 : ¬ (j : Int) + 1 < (n : Int) := by omega
      have Hrt := Lib.hid (Hr.out.2 (fun i hi => Hall.out i (by omega)))
      go_wp2_with fail
      go_ret
      exact ⟨by rw [Hrt.out]; rfl, hbw⟩
end
section
open Classical in
/-- A Delta ahead of all is counted, what is without crossings is left out. -/
noncomputable def flS (n : Nat) (s : Int × List Pm) (a : Pm) : Int × List Pm := if s.2 = [] ∧ a = dl n then (s.1 + 1, s.2) else if a = idP then s else (s.1, s.2 ++ [a])
theorem flS_dl {n : Nat} (p : Int) : ∀ k : Nat, (List.replicate k (dl n)).foldl (flS n) (p, []) = (p + k, [])
  | 0 => by simp
  | k + 1 => by
    rw [List.replicate_succ, List.foldl_cons, show flS n (p, []) (dl n) = (p + 1, []) from if_pos ⟨rfl, rfl⟩, flS_dl (p + 1) k]
    congr 1
    omega
theorem flS_mid {n : Nat} (p : Int) : ∀ (F out : List Pm), (∀ a ∈ F, a ≠ idP ∧ a ≠ dl n) → F.foldl (flS n) (p, out) = (p, out ++ F)
  | [], out, _ => by simp
  | a :: F, out, h => by
    have ha := h a (by simp)
    have e : flS n (p, out) a = (p, out ++ [a]) := by
      unfold flS
      rw [if_neg (fun h => ha.2 h.2), if_neg ha.1]
    rw [List.foldl_cons, e, flS_mid p F _ (fun b hb => h b (by simp [hb]))]
    simp
theorem flS_id {n : Nat} (hn : 2 ≤ n) (s : Int × List Pm) : ∀ m : Nat, (List.replicate m idP).foldl (flS n) s = s
  | 0 => rfl
  | m + 1 => by
    have e : flS n s idP = s := by
      unfold flS
      rw [if_neg (fun h => dl_ne hn h.2.symm), if_pos rfl]
    rw [List.replicate_succ, List.foldl_cons, e, flS_id hn s m]
/-- Where nothing slides any more, the reference has the normal form. -/
theorem ref_nf {n : Nat} (hn : 2 ≤ n) {w : List Int} {L : List Pm} (hw : Word n w) (s : St n (rl n w) L) (hL : Nf n L) : L.foldl (flS n) (-negs w, []) = nf n w := by
  have h := nf_isN hn w hw
  obtain ⟨k, m, e, t⟩ := h.slides
  have := St.unique (rl_in w hw) s t hL (Chain.nf (chain_front _ (chain_back _ h.chain)))
  rw [this, List.foldl_append, flS_dl, List.foldl_append, flS_mid _ _ _ h.mids, flS_id hn, List.nil_append, Int.add_comm, ← Int.sub_eq_add_neg, ← e]
/-- One pair of neighbours has taken over: so many slides. -/
theorem take_st {n : Nat} {a b : Pm} (ha : a.In n) (hb : b.In n) (K R : List Pm) : St n (K ++ a :: b :: R) (K ++ (take n a b).1 :: (take n a b).2 :: R) := by
  obtain ⟨e, t⟩ := take_spec ha hb
  exact St.pre K (t.st R)
/-- No pair of neighbours slides: nothing does. -/
theorem chain_of {n : Nat} : ∀ {L : List Pm}, (∀ k a b, L[k]? = some a → L[k + 1]? = some b → firstS n a b = none) → Chain n L
  | [], _ => trivial
  | [_], _ => trivial
  | a :: b :: L, h => ⟨firstS_none (h 0 a b rfl rfl), chain_of (L := b :: L) fun k x y hx hy => h (k + 1) x y (by simpa using hx) (by simpa using hy)⟩
/-- A round of slides has an end: it lowers the weight where it changes anything. -/
theorem st_lower {n : Nat} {L M : List Pm} (s : St n L M) (hi : AllIn n L) : M = L ∨ wt n M < wt n L := by
  induction s with
  | refl => exact .inl rfl
  | step a _ ih =>
    right
    have h1 := a.wt hi
    rcases ih (a.allIn hi) with rfl | h2
    · exact h1
    · omega
end
section
open Go.RowKit Go.Lib
theorem rl_len (n : Nat) (w : List Int) : (rl n w).length = w.length := by
  induction w using snoc_ind with
  | h0 => rfl
  | h1 w z ih =>
    rw [rl_snoc]
    unfold rlStep
    split <;> simp [ih]
/-- A row of ints stays, if a row of rows is stored into. -/
theorem own_setrow' {B B' n m g cap : Nat} {w : World} {u : Value} {xs ys : List Value} (ho : w.ownsRow B 3 1 u n xs) (hv : w.ownsRow B' 23 1 (.slice (some ⟨g, 0, none⟩) m cap) m ys) (j : Nat) (y : Value) : (w.setCell ⟨g, j, none⟩ y).ownsRow B 3 1 u n xs := by
  have ha := own_apart ho hv (by decide)
  refine ⟨ho.1, ?_⟩
  rcases ho.2 with h0 | ⟨g1, cap', cur, h0, h1, h2, h3⟩
  · exact .inl h0
  · subst h0
    refine .inr ⟨g1, cap', cur, rfl, h1, (heap_setCell_other w ⟨g, j, none⟩ g1 y ?_).trans h2, h3⟩
    intro e
    rcases ha with ha | ha
    · cases ha
    · exact ha (by simp only [Value.ownBlock]; rw [e])
theorem Rows.setrow {B B' m k g cap : Nat} {w : World} {fs ys : List Value} {D : List Pm} (h : Rows B m w fs D) (hv : w.ownsRow B' 23 1 (.slice (some ⟨g, 0, Option.none⟩) k cap) k ys) (j : Nat) (y : Value) : Rows B m (w.setCell ⟨g, j, Option.none⟩ y) fs D := fun k x hx => by
  obtain ⟨u, hu, ho⟩ := h k x hx
  exact ⟨u, hu, own_setrow' ho hv j y⟩
theorem Rows.set {B m : Nat} {w : World} {fs : List Value} {D : List Pm} {x : Pm} {u : Value} (h : Rows B m w fs D) (hl : fs.length = D.length) (i : Nat) (hu : OP w B m u x) : Rows B m w (fs.set i u) (D.set i x) := fun k y hy => by
  rw [List.getElem?_set] at hy ⊢
  by_cases e : i = k
  · rw [if_pos e] at hy ⊢
    split at hy
    · rename_i hk
      simp only [Option.some.injEq] at hy
      subst hy
      exact ⟨u, by rw [if_pos (by omega)], hu⟩
    · cases hy
  · rw [if_neg e] at hy ⊢
    exact h k y hy
/-- append(v, x) as a step of a region that draws: an ownK row of rows grows by one. -/
theorem step_rows {ops : Array Oper} {o : Oper} {a : Act} {K : Act → World → Prop} {Q : Exit → Act → World → Prop} {E : Prop} {w w0 : World} (B : Nat) (v : Value) (fs : List Value) (k : Nat) (x : Value) (h1 : x.oneCell' = true)
    (hgd : o.guard = none) (s y : Operand) (ho : o.op = .call { callee := .builtin .append, args := #[s, y], argTypes := #[92, 92] }) (hs : a.eval s = v)
    (hown : w.ownsRow B 23 1 v k fs) (blk : Nat) (hy : a.eval y = .slice (some ⟨blk, 0, none⟩) 1 1) (hc : w.cell? ⟨blk, 0, none⟩ = some x) (hl : k < 100000) (hb : Below B w0 w) (hB : B ≤ w.heap.size)
    (h : ∀ v' w', Hid (w'.ownsRow B 23 1 v' (k + 1) (fs ++ [x])) → Hid (w.grownBy w' v.ownBlock) → Hid (Below B w0 w') → K (a.put o.dst v') w') :
    if Region.wanted o (yielded ops a.tmps) = true then Oper.wp Tryz.prog o a w K Q else E := by
  have hw : Region.wanted o (yielded ops a.tmps) = true := by simp [Region.wanted, hgd]
  rw [if_pos hw]
  obtain ⟨i1, hi, hz0, hz1, hz2⟩ := info_parts infoInts
  refine wp_append_own _ s y 92 ho B 23 i1 (.slice none 0 0) 1 24 Tryz.underlying92 hi hz0 hz1 hz2 rfl (by decide) v _ _ hs hown ⟨blk, 0, none⟩ 1 1 [x] hy rfl ?_ ?_ (by unfold maxLen; omega) (by omega) hB ?_
  · intro j u hj
    rcases j with _ | j
    · simp at hj
      subst hj
      exact hc
    · simp at hj
  · intro u hu
    obtain rfl := List.mem_singleton.1 hu
    exact h1
  · intro v' w' hown' hgrow _
    exact h v' w' hown' hgrow (Below.grown hb hgrow hB fun k e => (hown.lt k e).1)
theorem map_step {n j : Nat} {L : List Pm} {x : Pm} (h : L[j]? = some x) : ((L.take j).map (tu n) ++ L.drop j).set j (tu n x) = (L.take (j + 1)).map (tu n) ++ L.drop (j + 1) := by
  have hj := (List.getElem?_eq_some_iff.1 h).1
  have hd : L.drop j = x :: L.drop (j + 1) := by
    rw [List.drop_eq_getElem_cons hj, Option.some.inj ((List.getElem?_eq_getElem hj).symm.trans h)]
  rw [List.set_append_right _ _ (by simp; omega), List.take_add_one, h, List.map_append, List.append_assoc]
  congr 1
  rw [List.length_map, List.length_take, show j - min j L.length = 0 by omega, hd]
  rfl
theorem flat_id {n : Nat} {x : Pm} (hx : x.In n) : x = idP ↔ ∀ i, i + 1 < n → (x.f (i + 1) : Int) = (x.f i : Int) + 1 := by
  constructor
  · rintro rfl i _
    show ((i + 1 : Nat) : Int) = (i : Int) + 1
    omega
  · intro h
    refine id_of hx fun k hk hb => ?_
    have := h k hk
    unfold Pm.beg at hb
    omega
theorem flat_dl {n : Nat} (h2 : 1 ≤ n) {x : Pm} (hx : x.In n) : x = dl n ↔ ∀ i, i + 1 < n → (x.f (i + 1) : Int) = (x.f i : Int) + -1 := by
  constructor
  · rintro rfl i hi
    show ((rev n (i + 1) : Nat) : Int) = (rev n i : Int) + -1
    rw [rev_lt hi, rev_lt (by omega)]
    omega
  · intro h
    have e : ∀ i, i < n → (x.f i : Int) = (x.f 0 : Int) - i := by
      intro i
      induction i with
      | zero => intro _; omega
      | succ i ih => intro hi; have := h i hi; have := ih (by omega); omega
    have e1 := e (n - 1) (by omega)
    have e2 := hx.lt (show 0 < n by omega)
    refine Pm.ext' fun i => ?_
    by_cases hi : i < n
    · have := e i hi
      show x.f i = rev n i
      rw [rev_lt hi]
      omega
    · rw [hx i (by omega)]
      exact (rev_ge (by omega)).symm
theorem take_same {n : Nat} {a b : Pm} (h : firstS n a b = none) : take n a b = (a, b) := by
  unfold take
  unfold tk
  rw [h]
theorem take_diff {n : Nat} {a b : Pm} (ha : a.In n) (hb : b.In n) (h : firstS n a b ≠ none) : (take n a b).1 ≠ a := by
  obtain ⟨e, t⟩ := take_spec ha hb
  intro h1
  have h2 := t.same h1
  obtain ⟨k, hk⟩ := Option.ne_none_iff_exists'.1 h
  obtain ⟨k1, k2, k3⟩ := firstS_some hk
  have := t.np k k1
  rw [h1, h2] at this
  exact k3 (this k2)
/-- One pair of neighbours takes over, in a list. -/
theorem pair_set {n j : Nat} {L : List Pm} {a b : Pm} (hL : AllIn n L) (h0 : L[j]? = some a) (h1 : L[j + 1]? = some b) : St n L ((L.set j (take n a b).1).set (j + 1) (take n a b).2) := by
  have hj1 := (List.getElem?_eq_some_iff.1 h1).1
  have hj0 : j < L.length := by omega
  have hs : L = L.take j ++ a :: b :: L.drop (j + 2) := by
    conv => lhs; rw [← List.take_append_drop j L]
    rw [List.drop_eq_getElem_cons hj0, List.drop_eq_getElem_cons hj1]
    rw [Option.some.inj ((List.getElem?_eq_getElem hj0).symm.trans h0), Option.some.inj ((List.getElem?_eq_getElem hj1).symm.trans h1)]
  have hst := take_st (hL a (List.mem_of_getElem? h0)) (hL b (List.mem_of_getElem? h1)) (L.take j) (L.drop (j + 2))
  rw [← hs] at hst
  have e : (L.set j (take n a b).1).set (j + 1) (take n a b).2 = L.take j ++ (take n a b).1 :: (take n a b).2 :: L.drop (j + 2) := by
    generalize take n a b = t
    have hlt : (L.take j).length = j := by rw [List.length_take]; omega
    conv => lhs; rw [hs]
    rw [List.set_append_right _ _ (by omega), hlt, Nat.sub_self, List.set_cons_zero, List.set_append_right _ _ (by omega), hlt, show j + 1 - j = 1 by omega]
    rfl
  rw [e]
  exact hst
theorem negs_le (w : List Int) : 0 ≤ negs w ∧ negs w ≤ w.length := by
  induction w using snoc_ind with
  | h0 => exact ⟨Int.le_refl _, Int.le_refl _⟩
  | h1 w z ih =>
    rw [negs_snoc, List.length_append]
    split <;> simp <;> omega
theorem mid_getE {n j : Nat} {L : List Pm} (hj : j < L.length) : ((L.take j).map (tu n) ++ L.drop j)[j]? = L[j]? := by
  rw [List.getElem?_append_right (by simp; omega), List.length_map, List.length_take, List.getElem?_drop]
  congr 1
  omega
theorem set_same {α : Type} {L : List α} {p : Nat} {a : α} (h : L[p]? = some a) : L.set p a = L := by
  apply List.ext_getElem?
  intro i
  rw [List.getElem?_set]
  by_cases e : p = i
  · subst e
    rw [if_pos rfl, if_pos (List.getElem?_eq_some_iff.1 h).1, h]
  · rw [if_neg e]
/-- What one pair's turn keeps of a round of slides. -/
theorem pair_turn {n p : Nat} {L0 L : List Pm} {a b : Pm} (c c1 : Bool) (hi : AllIn n L0) (hst : St n L0 L) (h0 : L[p]? = some a) (h1 : L[p + 1]? = some b) (hc : c = true ↔ firstS n a b ≠ none) (hT : c1 = true → wt n L < wt n L0)
    (hF : c1 = false → L = L0 ∧ ∀ i x y, p + 2 ≤ i + 1 → L[i]? = some x → L[i + 1]? = some y → firstS n x y = none) :
    St n L0 ((L.set p (take n a b).1).set (p + 1) (take n a b).2) ∧ ((c1 || c) = true → wt n ((L.set p (take n a b).1).set (p + 1) (take n a b).2) < wt n L0) ∧
    ((c1 || c) = false → ((L.set p (take n a b).1).set (p + 1) (take n a b).2) = L0 ∧ ∀ i x y, p + 1 ≤ i + 1 → ((L.set p (take n a b).1).set (p + 1) (take n a b).2)[i]? = some x → ((L.set p (take n a b).1).set (p + 1) (take n a b).2)[i + 1]? = some y → firstS n x y = none) := by
  have hiL := hst.allIn hi
  have hp := pair_set hiL h0 h1
  have ha := hiL a (List.mem_of_getElem? h0)
  have hb := hiL b (List.mem_of_getElem? h1)
  have hpl := (List.getElem?_eq_some_iff.1 h1).1
  rcases c with _ | _
  · have hn : firstS n a b = none := by
      rcases h : firstS n a b with _ | k
      · rfl
      · have := hc.2 (by rw [h]; intro e; cases e); cases this
    rw [take_same hn]
    have e : (L.set p a).set (p + 1) b = L := by rw [set_same h0, set_same h1]
    dsimp only
    rw [e]
    refine ⟨hst, fun h => hT (by simpa using h), fun h => ?_⟩
    obtain ⟨f1, f2⟩ := hF (by simpa using h)
    refine ⟨f1, fun i x y hi' hx hy => ?_⟩
    by_cases e2 : i = p
    · subst e2
      rw [h0] at hx
      rw [h1] at hy
      cases hx; cases hy
      exact hn
    · exact f2 i x y (by omega) hx hy
  · have hd := take_diff ha hb (hc.1 rfl)
    have hlow := st_lower hst hi
    have hlow2 := st_lower hp hiL
    have hne : ((L.set p (take n a b).1).set (p + 1) (take n a b).2) ≠ L := fun e => by
      have h2 : ((L.set p (take n a b).1).set (p + 1) (take n a b).2)[p]? = some (take n a b).1 := by
        rw [List.getElem?_set, if_neg (by omega), List.getElem?_set, if_pos rfl, if_pos (by omega)]
      rw [e, h0] at h2
      exact hd (Option.some.inj h2).symm
    refine ⟨hst.trans hp, fun _ => ?_, fun h => by simp at h⟩
    rcases hlow2 with h | h
    · exact absurd h hne
    · rcases hlow with rfl | h'
      · exact h
      · omega
theorem rows_fs' {B m : Nat} {w : World} {v : Value} {fs : List Value} {D : List Pm} (h : w.ownsRow B 23 1 v D.length fs) (hr : Rows B m w fs D) (hm : 0 < m) : FS w v (D.map (ints m)) := by
  by_cases hD : 0 < D.length
  · obtain ⟨g, c, e, h1, h2, h3⟩ := form_of h hr hD hm
    exact ⟨_, c, by rw [e, List.length_map], by rw [List.length_map]; exact h1, h2, h3⟩
  · have : D = [] := List.eq_nil_of_length_eq_zero (by omega)
    subst this
    rcases h.2 with ⟨rfl, _⟩ | ⟨g, cap, cur, rfl, _, hg, h1, h2, _, _⟩
    · exact fs_nil w
    · exact ⟨_, cap, rfl, h1, h2, fun k l h => by cases h⟩
theorem flS_pop {n : Nat} {p : Int} : flS n (p, []) (dl n) = (p + 1, []) := if_pos ⟨rfl, rfl⟩
theorem flS_drop {n : Nat} {p : Int} {O : List Pm} (h : ¬ (O = [] ∧ idP = dl n)) : flS n (p, O) idP = (p, O) := by
  unfold flS
  rw [if_neg h, if_pos rfl]
theorem flS_push {n : Nat} {p : Int} {O : List Pm} {x : Pm} (h : ¬ (O = [] ∧ x = dl n)) (h2 : x ≠ idP) : flS n (p, O) x = (p, O ++ [x]) := by
  unfold flS
  rw [if_neg h, if_neg h2]
theorem fold_next {n j : Nat} {L : List Pm} {x : Pm} {s : Int × List Pm} (h : L[j]? = some x) : (L.take (j + 1)).foldl (flS n) s = flS n ((L.take j).foldl (flS n) s) x := by
  rw [List.take_add_one, h, List.foldl_append]
  rfl
theorem fold_ref {n : Nat} (h1 : 1 ≤ n) {ws : List Int} (hw : Word n ws) {L : List Pm} (hs : St n (rl n ws) L) (hn : ∀ i a b, L[i]? = some a → L[i + 1]? = some b → firstS n a b = none) : L.foldl (flS n) (-(negs ws), []) = nf n ws := by
  by_cases h2 : 2 ≤ n
  · exact ref_nf h2 hw hs (chain_of hn).nf
  · obtain rfl : n = 1 := by omega
    obtain rfl := word_one hw
    have e : L.length = 0 := hs.len
    rw [List.eq_nil_of_length_eq_zero e]
    rfl
end
section
open Go.RowKit Go.Lib
set_option maxHeartbeats 4000000 in
set_option maxRecDepth 100000 in
theorem refNormal_ok (m : Nat) (m1 : 1 ≤ m) (m2 : m ≤ 12) (ws : List Int) (hl : ws.length ≤ 400) (hw : Word m ws) (v : Value) (w : World) (hv : IS w v ws) :
    Calls Tryz.prog 79 #[.int .i64 (m : Int), v] w fun e w' => ∃ v', e = .returned (.tuple #[.int .i64 (nf m ws).1, v', .int .i64 0]) ∧ FS w' v' ((nf m ws).2.map (ints m)) ∧ Below w.heap.size w w' := by
  obtain ⟨i1, hi, hz0, hz1, hz2⟩ := info_parts infoInts
  obtain ⟨sa, sc, rfl, k1, k2, _, hI⟩ := hv
  have CK := Lib.hid (refCheck_any m ws sa sc w hI k1 k2)
  rw [checkV_of m1 m2 hl hw] at CK
  have HI := Lib.hid hI
  have Hw := Lib.hid hw
  have Hi := Lib.hid hi
  clear hI hw hi
  go_enter Tryz.func79, Tryz.ntmps79
  go_wp2_with fail
  refine CK.out.mono ?_
  rintro e w1 ⟨rfl, B1⟩
  have HB1 := Lib.hid B1
  clear B1 CK
  go_wp2_with fail
  go_loopw [8, 9, 10] (fun vp vo i wr => ∃ (k : Nat) (fs : List Value), k ≤ ws.length ∧ i = .int .i64 k ∧ vp = .int .i64 (-(negs (ws.take k))) ∧ wr.ownsRow w.heap.size 23 1 vo k fs ∧ Rows w.heap.size m wr fs (rl m (ws.take k)) ∧ Below w.heap.size w wr) (fun _ _ i _ => ws.length - (intOf i).toNat)
  case atStart => exact ⟨0, [], Nat.zero_le _, rfl, rfl, World.ownsRow_nil _ _ _ _, fun k x h => by simp [rl] at h, HB1.out⟩
  case round =>
    obtain ⟨k, fs, hk, rfl, rfl, hown, hrows, hbw⟩ := hrel
    have hbs := hbw.size
    by_cases hkl : k < ws.length
    · obtain ⟨x, hx⟩ : ∃ x, ws[k]? = some x := ⟨_, List.getElem?_eq_getElem hkl⟩
      have hlet : Letter m x := Hw.out x (List.mem_of_getElem? hx)
      obtain ⟨b0, off, rfl, hb0, hc⟩ := HI.out k x hx
      have hcx := (hbw.cell (p := ⟨b0, off + k, none⟩) hb0).trans hc
      have Hcx := Lib.hid hc
      have Htk := Lib.hid (take_more hx)
      have k0 : (0 : Int) ≤ (k : Int) := by omega
      have k1' : (k : Int) < (ws.length : Int) := by omega
      have HO := Lib.hid hown
      have HR := Lib.hid hrows
      have HB := Lib.hid hbw
      have hfl := Lib.hid hown.1
      obtain ⟨ao, co, rfl⟩ := own_form hown
      clear hown hrows hbw hc hx
      by_cases hp : 0 < x
      · obtain ⟨q, rfl, hq⟩ := pos_nat hlet hp
        have CL := Lib.hid (fun W => refline_any m m2 W)
        have CA := Lib.hid (fun v W h => refafter_any m m1 m2 idP q hq v W h)
        clear hlet
        go_wp2_with fail
        go_region_law (first
          | (go_simp; go_at_call 97; go_loud (refine (CA.out v4 _ (by first | exact is_own HO4.out (ints_len m idP) | exact is_own HO4.out.drew (ints_len m idP))).mono ?_); rintro e w5 ⟨v5, rfl, O5, B5⟩; have BW5 := Lib.hid (show Below wr.heap.size wr w5 by first | exact bon BW4.out B5 | exact bon BW4.out.drew B5); have HO5 := Lib.hid (own_below HO.out BW5.out); have HB5 := Lib.hid (bon HB.out BW5.out); have HP5 := Lib.hid (own_mono O5 (b' := w.heap.size) (bon HB.out BW4.out).size); obtain ⟨g5, c5, rfl⟩ := own_pos O5 m1; clear O5 B5)
          | (go_simp; go_at_call 98; go_loud (refine (CL.out _).mono ?_); rintro e w4 ⟨v4, rfl, O4, B4⟩; have HO4 := Lib.hid O4; have BW4 := Lib.hid (show Below wr.heap.size wr w4 by first | exact B4 | exact bon ((Below.refl _ wr).drew) B4); have hc4 := ((bon HB.out BW4.out).cell (p := ⟨b0, off + k, none⟩) hb0).trans Hcx.out; clear O4 B4)
          | ((refine step_rows (o := ⟨some 45, _, _, _, _, _⟩) (w0 := w) w.heap.size (.slice ao k co) fs k (.slice (some ⟨g5, 0, none⟩) m c5) rfl rfl (.tmp 36) (.tmp 44) rfl (by rfl) (by exact HO5.out.alloc _) w5.heap.size (by rfl) (by exact cell_of_row _ _ 0 _ _ _ (heap_alloc_new _ _)) (by omega) (by exact HB5.out.alloc HB5.out.size _) (by exact Nat.le_trans HB5.out.size (below_alloc _ _).size) ?_); intro v6 w6 O6 G6 B6))
        all_goals
          have hR6 : Rows w.heap.size m w6 (fs ++ [.slice (some ⟨g5, 0, none⟩) m c5]) (rl m (ws.take (k + 1))) := by
            rw [Htk.out, rl_pos]
            refine (((HR.out.below BW5.out).below (below_alloc w5 _)).grown (HO5.out.alloc _) G6.out).snoc ?_ ((HP5.out.alloc _).kept G6.out (own_apart HP5.out HO5.out (by decide)))
            rw [hfl.out, rl_len, List.length_take]
            omega
          have HR6 := Lib.hid hR6
          have HO6 := Lib.hid O6.out
          have HB6 := Lib.hid B6.out
          have Hng := Lib.hid (show negs (ws.take (k + 1)) = negs (ws.take k) by rw [Htk.out, negs_pos])
          clear hR6 O6 G6 B6 HP5 HO5 HB5 BW5 BW4 HO4 hc4
          go_wp2_with fail
          go_roundw
          case rel => exact ⟨k + 1, _, hkl, by go_num, by rw [Hng.out], HO6.out, HR6.out, HB6.out⟩
          case measure => (simp [intOf] <;> omega)
      · obtain ⟨q, rfl, hq⟩ := neg_nat hlet hp
        have hng := negs_le (ws.take k)
        have hltk : (ws.take k).length = k := by rw [List.length_take]; omega
        rw [hltk] at hng
        have n1 : IntKind.i64.wrap (-(negs (ws.take k)) - 1) = -(negs (ws.take k)) - 1 := IntWalk.i64_in _ (by omega)
        have Hng := Lib.hid (show negs (ws.take (k + 1)) = negs (ws.take k) + 1 by rw [Htk.out, negs_neg])
        obtain ⟨L, hL⟩ : ∃ L, L = rl m (ws.take k) := ⟨_, rfl⟩
        have hLl : L.length = k := by rw [hL, rl_len, hltk]
        have Hrl := Lib.hid (show rl m (ws.take (k + 1)) = L.map (tu m) ++ [(dl m).post q] by rw [Htk.out, rl_neg _ hq, hL])
        have HLi := Lib.hid (show AllIn m L by rw [hL]; exact rl_in _ (fun z hz => Hw.out z (List.mem_of_mem_take hz)))
        rw [← hL] at HR
        have HLl := Lib.hid hLl
        have CW := Lib.hid (fun W => refwith_any m m1 m2 q hq W)
        have Hn1 := Lib.hid n1
        generalize negs (ws.take k) = ng at *
        clear hlet hL hLl hltk
        go_wp2_with fail
        go_loopw [11] (fun i wz => ∃ (j : Nat) (gs : List Value), j ≤ k ∧ i = .int .i64 j ∧ wz.ownsRow w.heap.size 23 1 (.slice ao k co) k gs ∧ Rows w.heap.size m wz gs ((L.take j).map (tu m) ++ L.drop j) ∧ Below w.heap.size w wz) (fun i _ => k - (intOf i).toNat)
        case atStart => exact ⟨0, fs, Nat.zero_le _, rfl, HO.out, by simpa using HR.out, HB.out⟩
        case round =>
          obtain ⟨j, gs, hj, rfl, hown, hrows, hbz⟩ := hrel
          rename World => wz
          clear HO HR HB
          by_cases hjk : j < k
          · obtain ⟨y, hy⟩ : ∃ y, L[j]? = some y := ⟨_, List.getElem?_eq_getElem (by rw [HLl.out]; exact hjk)⟩
            have hyi := HLi.out y (List.mem_of_getElem? hy)
            obtain ⟨u, hu, ou⟩ := hrows j y (by rw [mid_getE (by rw [HLl.out]; exact hjk)]; exact hy)
            obtain ⟨ua, uc, rfl⟩ := own_form ou
            obtain ⟨gl, cap, e0⟩ := own_pos hown (by omega)
            obtain ⟨rfl, rfl⟩ : ao = some ⟨gl, 0, none⟩ ∧ co = cap := by cases e0; exact ⟨rfl, rfl⟩
            clear e0
            have cu := (hown.cellAt j (by omega)).trans hu
            have hgl := hown.lt gl rfl
            have CT := Lib.hid (refturned_any m m1 m2 y hyi (.slice ua m uc) wz (is_own ou (ints_len m y)))
            have j0 : (0 : Int) ≤ (j : Int) := by omega
            have j1 : (j : Int) < (k : Int) := by omega
            have hstep := map_step (n := m) hy
            have HO := Lib.hid hown
            have HR := Lib.hid hrows
            have HB := Lib.hid hbz
            have Hstep := Lib.hid hstep
            have Hu := Lib.hid hu
            have Hgs := Lib.hid hown.1
            clear hown hrows hbz hy hu ou hstep hyi hcx
            go_wp2_with fail
            refine CT.out.mono ?_
            rintro e w5 ⟨v5, rfl, O5, B5⟩
            obtain ⟨a5, c5, rfl⟩ := own_form O5
            have HO5 := Lib.hid (own_below HO.out B5)
            have HR5 := Lib.hid (HR.out.below B5)
            have HB5 := Lib.hid (bon HB.out B5)
            have HP5 := Lib.hid (own_mono O5 (b' := w.heap.size) HB.out.size)
            have cu5 := (HO5.out.cellAt j (by omega)).trans Hu.out
            have fu5 := HO5.out.frozenAt j
            have st := (HO5.out.stored j (.slice a5 m c5)).1
            have hlg : gs.length = ((L.take j).map (tu m) ++ L.drop j).length := by rw [Hgs.out]; simp; have := HLl.out; omega
            have r6 := (HR5.out.setrow HO5.out j (.slice a5 m c5)).set hlg j (own_setrow' HP5.out HO5.out j _)
            rw [Hstep.out] at r6
            have HO6 := Lib.hid st
            have HR6 := Lib.hid r6
            have HB6 := Lib.hid (HB5.out.setCell (p := ⟨gl, j, none⟩) hgl.1 (.slice a5 m c5))
            clear O5 B5 st r6 HO5 HR5 HB5 HP5 HO HR HB CT cu
            go_wp2_with fail
            go_roundw
            case rel => exact ⟨j + 1, _, hjk, by go_num, HO6.out, HR6.out, HB6.out⟩
            case measure => (simp [intOf] <;> omega)
          · obtain rfl : j = k := by omega
            rw [List.take_of_length_le (by rw [HLl.out]; exact Nat.le_refl _), List.drop_eq_nil_of_le (by rw [HLl.out]; exact Nat.le_refl _), List.append_nil] at hrows
            have hcz := (hbz.cell (p := ⟨b0, off + j, none⟩) hb0).trans Hcx.out
            have j1 : ¬ (j : Int) < (j : Int) := by omega
            have n2 : IntKind.i64.wrap (-(-((q : Int) + 1))) = (q : Int) + 1 := by rw [Int.neg_neg]; exact IntWalk.i64_in _ (by omega)
            have n3 : IntKind.i64.wrap ((q : Int) + 1) = (q : Int) + 1 := IntWalk.i64_in _ (by omega)
            have HO := Lib.hid hown
            have HR := Lib.hid hrows
            have HB := Lib.hid hbz
            have Hgs := Lib.hid hown.1
            clear hown hrows hbz hcx
            go_wp2_with fail
            refine (CW.out _).mono ?_
            rintro e w5 ⟨v5, rfl, O5, B5⟩
            obtain ⟨g5, c5, rfl⟩ := own_pos O5 m1
            have HO5 := Lib.hid (own_below HO.out B5)
            have HR5 := Lib.hid (HR.out.below B5)
            have HB5 := Lib.hid (bon HB.out B5)
            have HP5 := Lib.hid (own_mono O5 (b' := w.heap.size) HB.out.size)
            clear O5 B5 HO HR HB
            go_wp2_with (at_builtin; refine wpList_append_own _ rfl _ _ 92 rfl w.heap.size 23 i1 (.slice none 0 0) 1 24 Tryz.underlying92 Hi.out hz0 hz1 hz2 rfl (by decide) _ j gs rfl (HO5.out.alloc _) ⟨w5.heap.size, 0, none⟩ 1 1 [Value.slice (some ⟨g5, 0, none⟩) m c5] rfl rfl (cell_one_new _ _ _) (by simp [Value.oneCell']) (by unfold maxLen; omega) (by omega) (Nat.le_trans HB5.out.size (below_alloc w5 _).size) ?_; intro v6 w6 hown6 hgrow hnil)
            have hR6 : Rows w.heap.size m w6 (gs ++ [Value.slice (some ⟨g5, 0, none⟩) m c5]) (rl m (ws.take (j + 1))) := by
              rw [Hrl.out]
              refine ((HR5.out.below (below_alloc w5 _)).grown (HO5.out.alloc _) hgrow).snoc ?_ ((HP5.out.alloc _).kept hgrow (own_apart HP5.out HO5.out (by decide)))
              rw [Hgs.out, List.length_map, HLl.out]
              omega
            have hB6 : Below w.heap.size w w6 := ((HB5.out.alloc HB5.out.size _).grown hgrow (Nat.le_trans HB5.out.size (below_alloc w5 _).size) (fun j hj => (HO5.out.lt j hj).1))
            have HR6 := Lib.hid hR6
            have HB6 := Lib.hid hB6
            have HO6 := Lib.hid hown6
            clear hR6 hB6 hown6 hgrow hnil HO5 HR5 HB5 HP5
            go_wp2_with fail
            go_roundw
            case rel => exact ⟨j + 1, _, hkl, by go_num, by rw [Hng.out]; congr 1; omega, HO6.out, HR6.out, HB6.out⟩
            case measure => (simp [intOf] <;> omega)
    · have ek : k = ws.length := by omega
      rw [ek, List.take_length] at hrows
      rw [ek] at hown
      rw [ek, List.take_length]
      obtain ⟨ao, co, rfl⟩ := own_form hown
      have HO := Lib.hid hown
      have HR := Lib.hid hrows
      have HB := Lib.hid hbw
      have k1' : ¬ (ws.length : Int) < (ws.length : Int) := by omega
      have HLi := Lib.hid (rl_in ws Hw.out)
      clear hown hrows hbw
      go_wp2_with fail
      go_loopg [12] (2 * wt m (rl m ws) + 1) (fun G cv wz => ∃ (L : List Pm) (gs : List Value) (c : Bool), G = 2 * wt m L + (if c = true then 1 else 0) ∧ cv = .bool c ∧ St m (rl m ws) L ∧ (c = false → ∀ i a b, L[i]? = some a → L[i + 1]? = some b → firstS m a b = none) ∧
        wz.ownsRow w.heap.size 23 1 (.slice ao ws.length co) ws.length gs ∧ Rows w.heap.size m wz gs L ∧ Below w.heap.size w wz)
      case atStart => exact ⟨rl m ws, fs, true, rfl, rfl, .refl _, fun h => (by cases h), HO.out, HR.out, HB.out⟩
      case round =>
        obtain ⟨L, gs, c, hG, rfl, hst, hno, hown, hrows, hbz⟩ := hrel
        clear HO HR HB
        have HO := Lib.hid hown
        have HR := Lib.hid hrows
        have HB := Lib.hid hbz
        have HG := Lib.hid hG
        have Hst := Lib.hid hst
        have Hno := Lib.hid hno
        clear hown hrows hbz hG hst hno
        rcases c with _ | _
        · have HF := Lib.hid (fold_ref m1 Hw.out Hst.out (Hno.out rfl))
          have hLl : L.length = ws.length := by rw [Hst.out.len, rl_len]
          have hLi := Hst.out.allIn HLi.out
          have hngl := negs_le ws
          have HLl := Lib.hid hLl
          have HLi2 := Lib.hid hLi
          rename World => wC
          clear hLl hLi
          go_wp2_with fail
          go_loopw [8, 17, 18] (fun vp vq kv wy => ∃ (j : Nat) (fo : List Value) (p : Int) (O : List Pm), j ≤ ws.length ∧ kv = .int .i64 j ∧ (L.take j).foldl (flS m) (-(negs ws), []) = (p, O) ∧ vp = .int .i64 p ∧ -(ws.length : Int) ≤ p ∧ p ≤ j ∧ O.length ≤ j ∧
            wy.ownsRow wC.heap.size 23 1 vq O.length fo ∧ Rows w.heap.size m wy fo O ∧ Below w.heap.size w wy ∧ Below wC.heap.size wC wy) (fun _ _ kv _ => ws.length - (intOf kv).toNat)
          case atStart => exact ⟨0, [], -(negs ws), [], Nat.zero_le _, rfl, rfl, rfl, by omega, by omega, Nat.le_refl _, World.ownsRow_nil _ _ _ _, (fun k x h => by cases h), HB.out, Below.refl _ _⟩
          case round =>
            obtain ⟨j, fo, p, O, hj, rfl, hf, rfl, hp1, hp2, hOj, hown, hrows, hby, hbC⟩ := hrel
            rename World => wy
            have Hf := Lib.hid hf
            have HOo := Lib.hid hown
            have HRo := Lib.hid hrows
            have HBy := Lib.hid hby
            have HBC := Lib.hid hbC
            have hfo := Lib.hid hown.1
            obtain ⟨aq, cq, rfl⟩ := own_form hown
            clear hf hown hrows hby hbC
            by_cases hjl : j < ws.length
            · obtain ⟨x, hx⟩ : ∃ x, L[j]? = some x := ⟨_, List.getElem?_eq_getElem (by rw [HLl.out]; exact hjl)⟩
              have hxi := HLi2.out x (List.mem_of_getElem? hx)
              have hm2 : 2 ≤ m := by
                apply Classical.byContradiction
                intro hm
                obtain rfl : m = 1 := by omega
                have := word_one Hw.out
                rw [this] at hjl
                simp at hjl
              obtain ⟨ux, hux, ox⟩ := HR.out j x hx
              obtain ⟨a1, d1, rfl⟩ := own_form ox
              obtain ⟨gl, cap, e0⟩ := own_pos HO.out (by omega)
              obtain ⟨rfl, rfl⟩ : ao = some ⟨gl, 0, none⟩ ∧ co = cap := by cases e0; exact ⟨rfl, rfl⟩
              clear e0
              have hglC := (HO.out.lt gl rfl).2
              have cC := (HO.out.cellAt j (by omega)).trans hux
              have Hox := Lib.hid ox
              have HcC := Lib.hid cC
              have cy := (HBC.out.cell (p := ⟨gl, j, none⟩) hglC).trans cC
              obtain ⟨r1, hr1⟩ : ∃ r : Bool, r = true ↔ x = dl m := ⟨@decide _ (Classical.propDecidable _), @decide_eq_true_iff _ (Classical.propDecidable _)⟩
              obtain ⟨r2, hr2⟩ : ∃ r : Bool, r = true ↔ x = idP := ⟨@decide _ (Classical.propDecidable _), @decide_eq_true_iff _ (Classical.propDecidable _)⟩
              have C1 := Lib.hid (fun W (h : Below wC.heap.size wC W) => refflat_any m m1 m2 x hxi (-1) (.inr rfl) r1 (hr1.trans (flat_dl m1 hxi)) (.slice a1 m d1) W (is_own (own_below Hox.out h) (ints_len m x)))
              have C2 := Lib.hid (fun W (h : Below wC.heap.size wC W) => refflat_any m m1 m2 x hxi 1 (.inl rfl) r2 (hr2.trans (flat_id hxi)) (.slice a1 m d1) W (is_own (own_below Hox.out h) (ints_len m x)))
              have Hnx := Lib.hid (fold_next (n := m) (s := (-(negs ws), [])) hx)
              rw [Hf.out] at Hnx
              have Hr1 := Lib.hid hr1
              have Hr2 := Lib.hid hr2
              have j0 : (0 : Int) ≤ (j : Int) := by omega
              have j1 : (j : Int) < (ws.length : Int) := by omega
              have j2 : (1 : Int) < (m : Int) := by omega
              have pw : IntKind.i64.wrap (p + 1) = p + 1 := IntWalk.i64_in _ (by omega)
              have hle := (HO.out.lt gl rfl).1
              clear hx hux ox cC hxi hr1 hr2
              rcases O with _ | ⟨o1, O⟩
              · have hcq : aq = aq := rfl
                go_wp2_with fail
                refine (C1.out _ HBC.out).mono ?_
                rintro e w5 ⟨rfl, B5⟩
                have HBC5 := Lib.hid (bon HBC.out B5)
                have HBy5 := Lib.hid (bon HBy.out B5)
                have HOo5 := Lib.hid (own_below HOo.out B5)
                have HRo5 := Lib.hid (HRo.out.below B5)
                have cy5 := (HBC5.out.cell (p := ⟨gl, j, none⟩) hglC).trans HcC.out
                clear B5 HBC HBy HOo HRo cy
                rcases r1 with _ | _
                · have hnd : x ≠ dl m := fun e => by have := Hr1.out.2 e; cases this
                  skip
                  go_wp2_with fail
                  refine (C2.out _ HBC5.out).mono ?_
                  rintro e w6 ⟨rfl, B6⟩
                  have HBC6 := Lib.hid (bon HBC5.out B6)
                  have HBy6 := Lib.hid (bon HBy5.out B6)
                  have HOo6 := Lib.hid (own_below HOo5.out B6)
                  have HRo6 := Lib.hid (HRo5.out.below B6)
                  have cy6 := (HBC6.out.cell (p := ⟨gl, j, none⟩) hglC).trans HcC.out
                  clear B6 HBC5 HBy5 HOo5 HRo5 cy5
                  rcases r2 with _ | _
                  · have hni : x ≠ idP := fun e => by have := Hr2.out.2 e; cases this
                    have Hn2 := Lib.hid (show (L.take (j + 1)).foldl (flS m) (-(negs ws), []) = (p, ([] : List Pm) ++ [x]) by rw [Hnx.out, flS_push (fun h => hnd h.2) hni])
                    have HP6 := Lib.hid (own_below Hox.out HBC6.out)
                    clear hni
                    go_wp2_with (at_builtin; refine wpList_append_own _ rfl _ _ 92 rfl wC.heap.size 23 i1 (.slice none 0 0) 1 24 Tryz.underlying92 Hi.out hz0 hz1 hz2 rfl (by decide) _ (([] : List Pm)).length fo rfl (HOo6.out.alloc _) ⟨w6.heap.size, 0, none⟩ 1 1 [Value.slice a1 m d1] rfl rfl (cell_one_new _ _ _) (by simp [Value.oneCell']) (by unfold maxLen; omega) (by omega) (Nat.le_trans HBC6.out.size (below_alloc w6 _).size) ?_; intro v7 w7 hown7 hgrow hnil)
                    have hR7 : Rows w.heap.size m w7 (fo ++ [Value.slice a1 m d1]) (([] : List Pm) ++ [x]) := by
                      refine ((HRo6.out.below (below_alloc w6 _)).grown (HOo6.out.alloc _) hgrow).snoc ?_ ((HP6.out.alloc _).kept hgrow (own_apart HP6.out HOo6.out (by decide)))
                      rw [hfo.out]
                      omega
                    have hB7 : Below w.heap.size w w7 := ((HBy6.out.alloc HBy6.out.size _).grown hgrow (Nat.le_trans HBy6.out.size (below_alloc w6 _).size) (fun i hi => Nat.le_trans HB.out.size (HOo6.out.lt i hi).1))
                    have hC7 : Below wC.heap.size wC w7 := ((HBC6.out.alloc HBC6.out.size _).grown hgrow (Nat.le_trans HBC6.out.size (below_alloc w6 _).size) (fun i hi => (HOo6.out.lt i hi).1))
                    have HR7 := Lib.hid hR7
                    have HB7 := Lib.hid hB7
                    have HC7 := Lib.hid hC7
                    have HO7 := Lib.hid (show w7.ownsRow wC.heap.size 23 1 v7 (([] : List Pm) ++ [x]).length (fo ++ [Value.slice a1 m d1]) by rw [List.length_append]; exact hown7)
                    clear hR7 hB7 hC7 hown7 hgrow hnil HOo6 HRo6 HBy6 HBC6 HP6
                    go_wp2_with fail
                    go_roundw
                    case rel => exact ⟨j + 1, _, p, ([] : List Pm) ++ [x], hjl, by go_num, Hn2.out, rfl, by omega, by omega, by first | (simp; done) | (simp at hOj ⊢; omega), HO7.out, HR7.out, HB7.out, HC7.out⟩
                    case measure => (simp [intOf] <;> omega)
                  · have hxi2 := Hr2.out.1 rfl
                    have Hn2 := Lib.hid (show (L.take (j + 1)).foldl (flS m) (-(negs ws), []) = (p, ([] : List Pm)) by
                      rw [Hnx.out]
                      have hnp : ¬ (([] : List Pm) = [] ∧ x = dl m) := fun h => hnd h.2
                      rw [hxi2] at hnp ⊢
                      exact flS_drop hnp)
                    clear hxi2
                    go_wp2_with fail
                    go_roundw
                    case rel => exact ⟨j + 1, _, p, ([] : List Pm), hjl, by go_num, Hn2.out, rfl, by omega, by omega, by first | (simp; done) | (simp at hOj ⊢; omega), HOo6.out, HRo6.out, HBy6.out, HBC6.out⟩
                    case measure => (simp [intOf] <;> omega)
                · have hxd := Hr1.out.1 rfl
                  have Hn2 := Lib.hid (show (L.take (j + 1)).foldl (flS m) (-(negs ws), []) = (p + 1, []) by rw [Hnx.out, hxd, flS_pop])
                  clear hxd
                  go_wp2_with fail
                  go_roundw
                  case rel => exact ⟨j + 1, _, p + 1, [], hjl, by go_num, Hn2.out, rfl, by omega, by omega, by simp, HOo5.out, HRo5.out, HBy5.out, HBC5.out⟩
                  case measure => (simp [intOf] <;> omega)
              · have hl0 : (((o1 :: O).length : Int) == 0) = false := by simp; omega
                have hl1 : (((O.length : Int) + 1) == 0) = false := by simp; omega
                have HBC5 := HBC
                have HBy5 := HBy
                have HOo5 := HOo
                have HRo5 := HRo
                have cy5 := cy
                skip
                go_wp2_with fail
                refine (C2.out _ HBC5.out).mono ?_
                rintro e w6 ⟨rfl, B6⟩
                have HBC6 := Lib.hid (bon HBC5.out B6)
                have HBy6 := Lib.hid (bon HBy5.out B6)
                have HOo6 := Lib.hid (own_below HOo5.out B6)
                have HRo6 := Lib.hid (HRo5.out.below B6)
                have cy6 := (HBC6.out.cell (p := ⟨gl, j, none⟩) hglC).trans HcC.out
                clear B6 HBC5 HBy5 HOo5 HRo5 cy5
                rcases r2 with _ | _
                · have hni : x ≠ idP := fun e => by have := Hr2.out.2 e; cases this
                  have Hn2 := Lib.hid (show (L.take (j + 1)).foldl (flS m) (-(negs ws), []) = (p, (o1 :: O) ++ [x]) by rw [Hnx.out, flS_push (fun h => (by cases h.1)) hni])
                  have HP6 := Lib.hid (own_below Hox.out HBC6.out)
                  clear hni
                  go_wp2_with (at_builtin; refine wpList_append_own _ rfl _ _ 92 rfl wC.heap.size 23 i1 (.slice none 0 0) 1 24 Tryz.underlying92 Hi.out hz0 hz1 hz2 rfl (by decide) _ ((o1 :: O)).length fo rfl (HOo6.out.alloc _) ⟨w6.heap.size, 0, none⟩ 1 1 [Value.slice a1 m d1] rfl rfl (cell_one_new _ _ _) (by simp [Value.oneCell']) (by unfold maxLen; omega) (by omega) (Nat.le_trans HBC6.out.size (below_alloc w6 _).size) ?_; intro v7 w7 hown7 hgrow hnil)
                  have hR7 : Rows w.heap.size m w7 (fo ++ [Value.slice a1 m d1]) ((o1 :: O) ++ [x]) := by
                    refine ((HRo6.out.below (below_alloc w6 _)).grown (HOo6.out.alloc _) hgrow).snoc ?_ ((HP6.out.alloc _).kept hgrow (own_apart HP6.out HOo6.out (by decide)))
                    rw [hfo.out]
                    omega
                  have hB7 : Below w.heap.size w w7 := ((HBy6.out.alloc HBy6.out.size _).grown hgrow (Nat.le_trans HBy6.out.size (below_alloc w6 _).size) (fun i hi => Nat.le_trans HB.out.size (HOo6.out.lt i hi).1))
                  have hC7 : Below wC.heap.size wC w7 := ((HBC6.out.alloc HBC6.out.size _).grown hgrow (Nat.le_trans HBC6.out.size (below_alloc w6 _).size) (fun i hi => (HOo6.out.lt i hi).1))
                  have HR7 := Lib.hid hR7
                  have HB7 := Lib.hid hB7
                  have HC7 := Lib.hid hC7
                  have HO7 := Lib.hid (show w7.ownsRow wC.heap.size 23 1 v7 ((o1 :: O) ++ [x]).length (fo ++ [Value.slice a1 m d1]) by rw [List.length_append]; exact hown7)
                  clear hR7 hB7 hC7 hown7 hgrow hnil HOo6 HRo6 HBy6 HBC6 HP6
                  go_wp2_with fail
                  go_roundw
                  case rel => exact ⟨j + 1, _, p, (o1 :: O) ++ [x], hjl, by go_num, Hn2.out, rfl, by omega, by omega, by first | (simp; done) | (simp at hOj ⊢; omega), HO7.out, HR7.out, HB7.out, HC7.out⟩
                  case measure => (simp [intOf] <;> omega)
                · have hxi2 := Hr2.out.1 rfl
                  have Hn2 := Lib.hid (show (L.take (j + 1)).foldl (flS m) (-(negs ws), []) = (p, (o1 :: O)) by
                    rw [Hnx.out]
                    have hnp : ¬ ((o1 :: O) = [] ∧ x = dl m) := fun h => (by cases h.1)
                    rw [hxi2] at hnp ⊢
                    exact flS_drop hnp)
                  clear hxi2
                  go_wp2_with fail
                  go_roundw
                  case rel => exact ⟨j + 1, _, p, (o1 :: O), hjl, by go_num, Hn2.out, rfl, by omega, by omega, by first | (simp; done) | (simp at hOj ⊢; omega), HOo6.out, HRo6.out, HBy6.out, HBC6.out⟩
                  case measure => (simp [intOf] <;> omega)
            · have ej : j = ws.length := by omega
              have hff := Hf.out
              rw [ej, List.take_of_length_le (by rw [HLl.out]; exact Nat.le_refl _), HF.out] at hff
              have Hff := Lib.hid hff
              have j1 : ¬ (j : Int) < (ws.length : Int) := by omega
              clear hff
              go_wp2_with fail
              go_ret3
              rw [Hff.out]
              exact ⟨_, rfl, rows_fs' (own_mono HOo.out HB.out.size) HRo.out (by omega), HBy.out⟩
        · have w0 : IntKind.i64.wrap ((ws.length : Int) - 1) = (ws.length : Int) - 1 := IntWalk.i64_in _ (by omega)
          go_wp2_with fail
          go_loopw [12, 13] (fun cv kv wy => ∃ (j : Nat) (L1 : List Pm) (hs : List Value) (c1 : Bool), j ≤ ws.length ∧ kv = .int .i64 ((j : Int) - 1) ∧ cv = .bool c1 ∧ St m L L1 ∧ (c1 = true → wt m L1 < wt m L) ∧ (c1 = false → L1 = L ∧ ∀ i a b, j ≤ i + 1 → L1[i]? = some a → L1[i + 1]? = some b → firstS m a b = none) ∧
            wy.ownsRow w.heap.size 23 1 (.slice ao ws.length co) ws.length hs ∧ Rows w.heap.size m wy hs L1 ∧ Below w.heap.size w wy) (fun _ kv _ => (intOf kv).toNat)
          case atStart =>
            refine ⟨ws.length, L, gs, false, Nat.le_refl _, rfl, rfl, .refl _, fun h => (by cases h), fun _ => ⟨rfl, fun i a b hi _ hb => ?_⟩, HO.out, HR.out, HB.out⟩
            have h2 := (List.getElem?_eq_some_iff.1 hb).1
            have h3 := Hst.out.len
            rw [rl_len] at h3
            omega
          case round =>
            obtain ⟨j, L1, hs, c1, hj, rfl, rfl, hst1, hT, hF, hown, hrows, hby⟩ := hrel
            rename World => wy
            clear HO HR HB
            have HO := Lib.hid hown
            have HR := Lib.hid hrows
            have HB := Lib.hid hby
            have HS1 := Lib.hid hst1
            have HT := Lib.hid hT
            have HF := Lib.hid hF
            have hfl := Lib.hid hown.1
            clear hown hrows hby hst1 hT hF
            by_cases hj2 : 2 ≤ j
            · obtain ⟨p, rfl⟩ : ∃ p, j = p + 2 := ⟨j - 2, by omega⟩
              have hl1 : L1.length = ws.length := by rw [HS1.out.len, Hst.out.len, rl_len]
              have hi1 := HS1.out.allIn (Hst.out.allIn HLi.out)
              obtain ⟨a, ha⟩ : ∃ a, L1[p]? = some a := ⟨_, List.getElem?_eq_getElem (by omega)⟩
              obtain ⟨b, hb⟩ : ∃ b, L1[p + 1]? = some b := ⟨_, List.getElem?_eq_getElem (by omega)⟩
              have hai := hi1 a (List.mem_of_getElem? ha)
              have hbi := hi1 b (List.mem_of_getElem? hb)
              obtain ⟨ua, hua, oa⟩ := HR.out p a ha
              obtain ⟨ub, hub, ob⟩ := HR.out (p + 1) b hb
              obtain ⟨a1, d1, rfl⟩ := own_form oa
              obtain ⟨a2, d2, rfl⟩ := own_form ob
              obtain ⟨gl, cap, e0⟩ := own_pos HO.out (by omega)
              obtain ⟨rfl, rfl⟩ : ao = some ⟨gl, 0, none⟩ ∧ co = cap := by cases e0; exact ⟨rfl, rfl⟩
              clear e0
              have hgl := (HO.out.lt gl rfl).1
              have Hua := Lib.hid hua
              have Hub := Lib.hid hub
              have Hoa := Lib.hid oa
              have Hob := Lib.hid ob
              have Hha := Lib.hid ha
              have Hhb := Lib.hid hb
              have CS := Lib.hid (fun W (h : Below wy.heap.size wy W) => refslid_any m m1 m2 a b hai hbi w.heap.size (.slice a1 m d1) (.slice a2 m d2) W (Nat.le_trans HB.out.size h.size) (own_below Hoa.out h) (own_below Hob.out h))
              have e1 : (((p + 2 : Nat) : Int) - 1) = (p : Int) + 1 := by omega
              rw [e1]
              have p0 : (0 : Int) ≤ (p : Int) := by omega
              have p1 : (p : Int) < (ws.length : Int) := by omega
              have p2 : (0 : Int) ≤ (p : Int) + 1 := by omega
              have p3 : (p : Int) + 1 < (ws.length : Int) := by omega
              have p4 : IntKind.i64.wrap (p : Int) = (p : Int) := IntWalk.i64_in _ (by omega)
              have p5 : ¬ (p : Int) + 1 < 0 := by omega
              have p6 : (0 : Int) < (p : Int) + 1 := by omega
              have p7 : ((p : Int) + 1).toNat = p + 1 := by omega
              have Hl1 := Lib.hid hl1
              clear ha hb hua hub oa ob hai hbi hi1 hl1 e1
              go_wp2_with fail
              have cq0 := (HO.out.cellAt p (by omega)).trans Hua.out
              have cq1 := (HO.out.cellAt (p + 1) (by omega)).trans Hub.out
              go_region_law (go_simp; go_at_call 101; go_loud (refine (CS.out _ (by first | exact Below.refl _ _ | exact (Below.refl _ wy).drew | exact (Below.refl _ wy).drew.drew)).mono ?_); rintro e w5 ⟨v1, v2, d, rfl, P1, P2, hd, B5⟩; have BW5 := Lib.hid (show Below wy.heap.size wy w5 by first | exact B5 | exact bon ((Below.refl _ wy).drew) B5 | exact bon ((Below.refl _ wy).drew.drew) B5))
              all_goals
                obtain ⟨g1, f1, rfl⟩ := own_pos P1 m1
                obtain ⟨g2, f2, rfl⟩ := own_pos P2 m1
                have B45 := BW5.out
                have HO5 := Lib.hid (own_below HO.out B45)
                have HR5 := Lib.hid (HR.out.below B45)
                have HB5 := Lib.hid (bon HB.out B45)
                have HP1 := Lib.hid P1
                have HP2 := Lib.hid P2
                have q0 := (HO5.out.cellAt p (by omega)).trans Hua.out
                have q1 := (HO5.out.cellAt (p + 1) (by omega)).trans Hub.out
                have f0 := HO5.out.frozenAt p
                have f3 := HO5.out.frozenAt (p + 1)
                have st1 := (HO5.out.stored p (.slice (some ⟨g1, 0, none⟩) m f1)).1
                have st2 := (st1.stored (p + 1) (.slice (some ⟨g2, 0, none⟩) m f2)).1
                have hlg : hs.length = L1.length := by rw [Hl1.out, hfl.out]; omega
                have r6 := (HR5.out.setrow HO5.out p (.slice (some ⟨g1, 0, none⟩) m f1)).set hlg p (own_setrow' HP1.out HO5.out p _)
                have r7 := (r6.setrow st1 (p + 1) (.slice (some ⟨g2, 0, none⟩) m f2)).set (by simp [hlg]) (p + 1) (own_setrow' (own_setrow' HP2.out HO5.out p _) st1 (p + 1) _)
                have b6 := HB5.out.setCell (p := ⟨gl, p, none⟩) hgl (.slice (some ⟨g1, 0, none⟩) m f1)
                have b7 := b6.setCell (p := ⟨gl, p + 1, none⟩) hgl (.slice (some ⟨g2, 0, none⟩) m f2)
                have PT := Lib.hid (pair_turn d c1 (Hst.out.allIn HLi.out) HS1.out Hha.out Hhb.out hd HT.out HF.out)
                have HO7 := Lib.hid st2
                have HR7 := Lib.hid r7
                have HB7 := Lib.hid b7
                clear st1 st2 r6 r7 b6 b7 P1 P2 B5 B45 HP1 HP2 HO5 HR5 HB5 HO HR HB CS cq0 cq1 BW5 hd HT HF
                rcases c1 with _ | _
                · go_wp2_with fail
                  go_roundw
                  case rel => exact ⟨p + 1, _, _, d, by omega, by first | go_num | (congr 1; omega), rfl, PT.out.1, PT.out.2.1, PT.out.2.2, HO7.out, HR7.out, HB7.out⟩
                  case measure => (simp [intOf] <;> omega)
                · go_wp2_with fail
                  go_roundw
                  case rel => exact ⟨p + 1, _, _, true, by omega, by first | go_num | (congr 1; omega), rfl, PT.out.1, PT.out.2.1, PT.out.2.2, HO7.out, HR7.out, HB7.out⟩
                  case measure => (simp [intOf] <;> omega)
            · have j1 : ¬ (0 : Int) < (j : Int) - 1 := by omega
              go_wp2_with fail
              go_roundg (2 * wt m L1 + (if c1 = true then 1 else 0))
              case measure =>
                rw [HG.out]
                rcases c1 with _ | _
                · rw [(HF.out rfl).1]; simp
                · have := HT.out rfl; simp; omega
              case rel => exact ⟨L1, hs, c1, rfl, rfl, Hst.out.trans HS1.out, fun h i a b => (HF.out h).2 i a b (by omega), HO.out, HR.out, HB.out⟩
end
section
open Go.RowKit Go.Lib
theorem ints_inj2 {n : Nat} {x y : Pm} (hx : x.In n) (hy : y.In n) (h : ints n x = ints n y) : x = y := Pm.ext' fun j => by
  by_cases hj : j < n
  · have := (ints_get x hj).symm.trans ((congrArg (·[j]?) h).trans (ints_get y hj))
    have := Option.some.inj this
    omega
  · rw [hx j (by omega), hy j (by omega)]
theorem map_ints_inj2 {n : Nat} : ∀ {X Y : List Pm}, (∀ x ∈ X, x.In n) → (∀ y ∈ Y, y.In n) → X.map (ints n) = Y.map (ints n) → X = Y
  | [], [], _, _, _ => rfl
  | [], _ :: _, _, _, h => by cases h
  | _ :: _, [], _, _, h => by cases h
  | x :: X, y :: Y, hX, hY, h => by
    simp only [List.map_cons, List.cons.injEq] at h
    rw [ints_inj2 (hX x (by simp)) (hY y (by simp)) h.1, map_ints_inj2 (fun a ha => hX a (by simp [ha])) (fun a ha => hY a (by simp [ha])) h.2]
set_option maxHeartbeats 2000000 in
set_option maxRecDepth 100000 in
theorem refSame_any (n : Int) (xs ys : List Int) (u v : Value) (w : World) (hu : IS w u xs) (hv : IS w v ys) (r : Bool) (hr0 : bothV n xs ys ≠ 0 → r = false) (hr1 : bothV n xs ys = 0 → (r = true ↔ nf n.toNat xs = nf n.toNat ys)) :
    Calls Tryz.prog 57 #[.int .i64 n, u, v] w fun e w' => e = .returned (.tuple #[.bool r, .int .i64 (bothV n xs ys)]) ∧ Below w.heap.size w w' := by
  have Hu := Lib.hid hu
  have Hv := Lib.hid hv
  obtain ⟨sa, sc, rfl, h1, h2, _, hI⟩ := hu
  obtain ⟨sb, sd, rfl, k1, k2, _, kI⟩ := hv
  have CB := Lib.hid (refBoth_any n xs ys sa sb sc sd w h1 h2 k1 k2 hI kI)
  have hok := fun h => bothV_ok (n := n) (xs := xs) (ys := ys) h
  obtain ⟨c, hc⟩ : ∃ c, c = bothV n xs ys := ⟨_, rfl⟩
  rw [← hc] at CB hok hr0 hr1 ⊢
  have HO := Lib.hid hok
  clear hI kI hc hok
  by_cases q3 : c = 0
  · obtain ⟨hx, hy⟩ := HO.out q3
    obtain ⟨m, rfl, m1, m2, lx, wx⟩ := checkV_ok hx
    obtain ⟨_, _, _, _, ly, wy⟩ := checkV_ok hy
    rename_i m' hm' _ _
    obtain rfl : m = m' := by omega
    have hr := hr1 q3
    rw [Int.toNat_natCast] at hr
    subst q3
    have CX := Lib.hid (fun W h => refNormal_ok m m1 m2 xs lx wx (.slice sa xs.length sc) W h)
    have CY := Lib.hid (fun W h => refNormal_ok m m1 m2 ys ly wy (.slice sb ys.length sd) W h)
    have ix := (nf_le xs wx).2.2.2
    have iy := (nf_le ys wy).2.2.2
    obtain ⟨p, D, hpd⟩ : ∃ p D, nf m xs = (p, D) := ⟨_, _, rfl⟩
    obtain ⟨q, E, hqe⟩ : ∃ q E, nf m ys = (q, E) := ⟨_, _, rfl⟩
    rw [hpd] at CX ix hr
    rw [hqe] at CY iy hr
    dsimp only at CX CY ix iy
    have Hr := Lib.hid hr
    have Hix := Lib.hid ix
    have Hiy := Lib.hid iy
    clear hx hy hpd hqe ix iy wx wy hr0 hr1 hr HO hm'
    by_cases hpq : p = q
    · subst hpq
      have hr2 : r = true ↔ D.map (ints m) = E.map (ints m) := Hr.out.trans ⟨fun h => by cases h; rfl, fun h => by rw [map_ints_inj2 Hix.out Hiy.out h]⟩
      have Hr2 := Lib.hid hr2
      clear hr2
      go_enter Tryz.func57, Tryz.ntmps57
      go_wp2_with fail
      refine CB.out.mono ?_
      rintro e w1 ⟨rfl, B1⟩
      have HB1 := Lib.hid B1
      clear B1
      go_wp2_with fail
      refine (CX.out w1 (Hu.out.below HB1.out)).mono ?_
      rintro e w2 ⟨v2, rfl, F2, B2⟩
      have HF2 := Lib.hid F2
      have HB2 := Lib.hid (bon HB1.out B2)
      clear F2 B2
      go_wp2_with fail
      refine (CY.out w2 (Hv.out.below HB2.out)).mono ?_
      rintro e w3 ⟨v3, rfl, F3, B3⟩
      have HF3 := Lib.hid F3
      have HF2' := Lib.hid (HF2.out.below B3)
      have HB3 := Lib.hid (bon HB2.out B3)
      clear F3 B3
      go_wp2_with fail
      refine (sameForm_fs HF2'.out HF3.out r Hr2.out).mono ?_
      rintro e w4 ⟨rfl, B4⟩
      have HB4 := Lib.hid (bon HB3.out B4)
      clear B4
      go_wp2_with fail
      go_ret2
      exact ⟨rfl, HB4.out⟩
    · have hrf : r = false := by
        rcases r with _ | _
        · rfl
        · have := Hr.out.1 rfl
          cases this
          exact absurd rfl hpq
      subst hrf
      have hpb : (p == q) = false := by simpa using hpq
      go_enter Tryz.func57, Tryz.ntmps57
      go_wp2_with fail
      refine CB.out.mono ?_
      rintro e w1 ⟨rfl, B1⟩
      have HB1 := Lib.hid B1
      clear B1
      go_wp2_with fail
      refine (CX.out w1 (Hu.out.below HB1.out)).mono ?_
      rintro e w2 ⟨v2, rfl, F2, B2⟩
      have HB2 := Lib.hid (bon HB1.out B2)
      clear F2 B2
      go_wp2_with fail
      refine (CY.out w2 (Hv.out.below HB2.out)).mono ?_
      rintro e w3 ⟨v3, rfl, F3, B3⟩
      have HB3 := Lib.hid (bon HB2.out B3)
      clear F3 B3
      go_wp2_with fail
      go_ret2
      exact ⟨rfl, HB3.out⟩
  · have hrf := hr0 q3
    subst hrf
    clear HO hr1
    go_enter Tryz.func57, Tryz.ntmps57
    go_wp2_with fail
    refine CB.out.mono ?_
    rintro e w1 ⟨rfl, B1⟩
    go_wp2_with fail
    go_ret2
    exact ⟨rfl, B1⟩
set_option maxHeartbeats 400000 in
set_option maxRecDepth 100000 in
theorem refTrivial_any (n : Int) (xs : List Int) (u : Value) (w : World) (hu : IS w u xs) (r : Bool) (hr0 : bothV n xs [] ≠ 0 → r = false) (hr1 : bothV n xs [] = 0 → (r = true ↔ nf n.toNat xs = nf n.toNat [])) :
    Calls Tryz.prog 33 #[.int .i64 n, u] w fun e w' => e = .returned (.tuple #[.bool r, .int .i64 (bothV n xs [])]) ∧ Below w.heap.size w w' := by
  have C := Lib.hid (refSame_any n xs [] u (.slice none 0 0) w hu (is_nil w) r hr0 hr1)
  obtain ⟨v, hv⟩ : ∃ v, v = bothV n xs [] := ⟨_, rfl⟩
  rw [← hv] at C ⊢
  clear hv hr0 hr1
  go_enter Tryz.func33, Tryz.ntmps33
  go_wp2_with fail
  refine C.out.mono ?_
  rintro e w1 ⟨rfl, B1⟩
  go_wp2_with fail
  go_ret2
  exact ⟨rfl, B1⟩
end
end Go.Proofs.YtmefpaoakblndaaGreatDoor
namespace Go.Proofs.YtmefpaoakblndaaGreatDoor
open Go.RowKit Go.Lib
set_option maxHeartbeats 1000000 in
set_option maxRecDepth 100000 in
theorem reftimes_any (c : UInt8) (n : Nat) (hn : n ≤ 1000) (w : World) : Calls Tryz.prog 76 #[.string ⟨#[c]⟩, .int .i64 (n : Int)] w fun e w' => e = .returned (.string ⟨(List.replicate n c).toArray⟩) ∧ w' = w := by
  go_enter Tryz.func76, Tryz.ntmps76
  go_wp2_with fail
  go_loopw [5, 6] (fun vo i wr => ∃ k : Nat, k ≤ n ∧ i = .int .i64 k ∧ vo = .string ⟨(List.replicate k c).toArray⟩ ∧ wr = w) (fun _ i _ => n - (intOf i).toNat)
  case atStart => exact ⟨0, Nat.zero_le _, rfl, rfl, rfl⟩
  case round =>
    obtain ⟨k, hk, rfl, rfl, rfl⟩ := hrel
    by_cases hkl : k < n
    · have k1 : (k : Int) < (n : Int) := by omega
      have HL := Lib.hid (cat_lit (List.replicate k c) [c])
      have hl1 : (⟨(List.replicate k c).toArray⟩ : ByteArray).size ≤ 1000 := by
        show ((List.replicate k c).toArray).size ≤ 1000
        simp only [List.size_toArray, List.length_replicate]; omega
      have hl2 : (⟨#[c]⟩ : ByteArray).size ≤ 1000 := by show (#[c] : Array UInt8).size ≤ 1000; simp
      go_wp2_with fail
      go_roundw
      case rel => exact ⟨k + 1, hkl, by go_num, by rw [List.replicate_succ']; exact congrArg Value.string HL.out, by first | trivial | rfl⟩
      case measure => (simp [intOf] <;> omega)
    · have k1 : ¬ (k : Int) < (n : Int) := by omega
      obtain rfl : k = n := by omega
      go_wp2_with fail
      go_ret
      exact ⟨rfl, by first | trivial | rfl⟩
/-- A stretch of twists in its least form. -/
def ordL (l : List UInt8) : List UInt8 :=
  List.replicate (l.count 76 - min (l.count 76) (l.count 82)) 76 ++ List.replicate (l.count 82 - min (l.count 76) (l.count 82)) 82 ++ List.replicate (min (l.count 76) (l.count 82)) 84 ++
  List.replicate (l.count 108 - min (l.count 108) (l.count 114)) 108 ++ List.replicate (l.count 114 - min (l.count 108) (l.count 114)) 114 ++ List.replicate (min (l.count 108) (l.count 114)) 116
theorem rep_sz (n : Nat) (c : UInt8) (h : n ≤ 1000) : (⟨(List.replicate n c).toArray⟩ : ByteArray).size ≤ 1000 := by
  show ((List.replicate n c).toArray).size ≤ 1000
  simp only [List.size_toArray, List.length_replicate]; omega
set_option maxHeartbeats 4000000 in
set_option maxRecDepth 100000 in
theorem refordered_any (s : ByteArray) (hs : s.size ≤ 1000) (w : World) : Calls Tryz.prog 53 #[.string s] w fun e w' => e = .returned (.string ⟨(ordL s.data.toList).toArray⟩) ∧ w' = w := by
  have hcl : ∀ c : UInt8, s.data.toList.count c ≤ 1000 := fun c => by
    have h1 := List.count_le_length (a := c) (l := s.data.toList)
    have e2 : s.data.toList.length = s.size := by simp
    omega
  have CA := fun W => refmany_any s 76 hs W
  have CB := fun W => refmany_any s 82 hs W
  have CC := fun W => refmany_any s 108 hs W
  have CD := fun W => refmany_any s 114 hs W
  have ha := hcl 76
  have hb := hcl 82
  have hc := hcl 108
  have hd := hcl 114
  unfold ordL
  clear hcl
  generalize s.data.toList.count 76 = a at *
  generalize s.data.toList.count 82 = b at *
  generalize s.data.toList.count 108 = c at *
  generalize s.data.toList.count 114 = d at *
  obtain ⟨u, hu⟩ : ∃ u, u = min a b := ⟨_, rfl⟩
  obtain ⟨v, hv⟩ : ∃ v, v = min c d := ⟨_, rfl⟩
  rw [← hu, ← hv]
  obtain ⟨p, hp⟩ : ∃ p, p = a - u := ⟨_, rfl⟩
  obtain ⟨q, hq⟩ : ∃ q, q = b - u := ⟨_, rfl⟩
  obtain ⟨x, hx⟩ : ∃ x, x = c - v := ⟨_, rfl⟩
  obtain ⟨y, hy⟩ : ∃ y, y = d - v := ⟨_, rfl⟩
  rw [← hp, ← hq, ← hx, ← hy]
  have wp : IntKind.i64.wrap ((a : Int) - (u : Int)) = (p : Int) := by rw [show (a : Int) - (u : Int) = (p : Int) by omega]; exact IntWalk.i64_in _ (by omega)
  have wq : IntKind.i64.wrap ((b : Int) - (u : Int)) = (q : Int) := by rw [show (b : Int) - (u : Int) = (q : Int) by omega]; exact IntWalk.i64_in _ (by omega)
  have wx : IntKind.i64.wrap ((c : Int) - (v : Int)) = (x : Int) := by rw [show (c : Int) - (v : Int) = (x : Int) by omega]; exact IntWalk.i64_in _ (by omega)
  have wy : IntKind.i64.wrap ((d : Int) - (v : Int)) = (y : Int) := by rw [show (d : Int) - (v : Int) = (y : Int) by omega]; exact IntWalk.i64_in _ (by omega)
  have T1 := fun W => reftimes_any 76 p (by omega) W
  have T2 := fun W => reftimes_any 82 q (by omega) W
  have T3 := fun W => reftimes_any 84 u (by omega) W
  have T4 := fun W => reftimes_any 108 x (by omega) W
  have T5 := fun W => reftimes_any 114 y (by omega) W
  have T6 := fun W => reftimes_any 116 v (by omega) W
  have z1 := rep_sz p 76 (by omega)
  have z2 := rep_sz q 82 (by omega)
  have z3 := rep_sz u 84 (by omega)
  have z4 := rep_sz x 108 (by omega)
  have z5 := rep_sz y 114 (by omega)
  have z6 := rep_sz v 116 (by omega)
  rw [← cat_lit, ← cat_lit, ← cat_lit, ← cat_lit, ← cat_lit]
  have HU := Lib.hid hu
  have HV := Lib.hid hv
  clear hu hv hp hq hx hy
  generalize (⟨(List.replicate p 76).toArray⟩ : ByteArray) = S1 at *
  generalize (⟨(List.replicate q 82).toArray⟩ : ByteArray) = S2 at *
  generalize (⟨(List.replicate u 84).toArray⟩ : ByteArray) = S3 at *
  generalize (⟨(List.replicate x 108).toArray⟩ : ByteArray) = S4 at *
  generalize (⟨(List.replicate y 114).toArray⟩ : ByteArray) = S5 at *
  generalize (⟨(List.replicate v 116).toArray⟩ : ByteArray) = S6 at *
  have CA := Lib.hid CA
  have CB := Lib.hid CB
  have CC := Lib.hid CC
  have CD := Lib.hid CD
  have T1 := Lib.hid T1
  have T2 := Lib.hid T2
  have T3 := Lib.hid T3
  have T4 := Lib.hid T4
  have T5 := Lib.hid T5
  have T6 := Lib.hid T6
  go_enter Tryz.func53, Tryz.ntmps53
  go_upto_region 1 with fail
  go_cut [3, 4] from 5 to 14 (fun i j wc => i = .int .i64 (u : Int) ∧ j = .int .i64 (v : Int) ∧ wc = w)
  case first =>
    by_cases h1 : (a : Int) ≤ (b : Int) <;> by_cases h2 : (c : Int) ≤ (d : Int)
    all_goals
      go_wp2_with fail
      refine (CA.out _).mono ?_
      rintro e w1 ⟨rfl, hw⟩
      obtain rfl := hw.symm
      clear hw
      go_wp2_with fail
      refine (CB.out _).mono ?_
      rintro e w1 ⟨rfl, hw⟩
      obtain rfl := hw.symm
      clear hw
      go_wp2_with fail
      refine (CC.out _).mono ?_
      rintro e w1 ⟨rfl, hw⟩
      obtain rfl := hw.symm
      clear hw
      go_wp2_with fail
      refine (CD.out _).mono ?_
      rintro e w1 ⟨rfl, hw⟩
      obtain rfl := hw.symm
      clear hw
      go_wp2_with fail
      go_meet
      exact ⟨by have := HU.out; congr 1; omega, by have := HV.out; congr 1; omega, rfl⟩
  case rest =>
    obtain ⟨rfl, rfl, hwc⟩ := hcut
    obtain rfl := hwc.symm
    clear hwc
    go_wp2_with fail
    refine (CA.out _).mono ?_
    rintro e w1 ⟨rfl, hw⟩
    obtain rfl := hw.symm
    clear hw
    go_wp2_with fail
    refine (T1.out _).mono ?_
    rintro e w1 ⟨rfl, hw⟩
    obtain rfl := hw.symm
    clear hw
    go_wp2_with fail
    refine (CB.out _).mono ?_
    rintro e w1 ⟨rfl, hw⟩
    obtain rfl := hw.symm
    clear hw
    go_wp2_with fail
    refine (T2.out _).mono ?_
    rintro e w1 ⟨rfl, hw⟩
    obtain rfl := hw.symm
    clear hw
    go_wp2_with fail
    refine (T3.out _).mono ?_
    rintro e w1 ⟨rfl, hw⟩
    obtain rfl := hw.symm
    clear hw
    go_wp2_with fail
    refine (CC.out _).mono ?_
    rintro e w1 ⟨rfl, hw⟩
    obtain rfl := hw.symm
    clear hw
    go_wp2_with fail
    refine (T4.out _).mono ?_
    rintro e w1 ⟨rfl, hw⟩
    obtain rfl := hw.symm
    clear hw
    go_wp2_with fail
    refine (CD.out _).mono ?_
    rintro e w1 ⟨rfl, hw⟩
    obtain rfl := hw.symm
    clear hw
    go_wp2_with fail
    refine (T5.out _).mono ?_
    rintro e w1 ⟨rfl, hw⟩
    obtain rfl := hw.symm
    clear hw
    go_wp2_with fail
    refine (T6.out _).mono ?_
    rintro e w1 ⟨rfl, hw⟩
    obtain rfl := hw.symm
    clear hw
    go_wp2_with fail
    go_ret
    exact ⟨rfl, by first | trivial | rfl⟩
end Go.Proofs.YtmefpaoakblndaaGreatDoor
namespace Go.Proofs.YtmefpaoakblndaaGreatDoor
open Go.RowKit Go.Lib
/-- May two letters be exchanged? -/
def apartB (a b : UInt8) : Bool := ((a == 76 || a == 108) && (b == 82 || b == 114)) || ((a == 82 || a == 114) && (b == 76 || b == 108))
theorem idx_two (x y c : UInt8) : (0 ≤ idxL c [x, y] 0) ↔ (c == x || c == y) = true := by
  unfold idxL
  by_cases h1 : c = x
  · subst h1; simp
  · by_cases h2 : c = y
    · subst h2; simp [idxL, Ne.symm h1]
    · simp [idxL, h1, h2, Ne.symm h1, Ne.symm h2]
set_option maxHeartbeats 2000000 in
set_option maxRecDepth 100000 in
theorem refapart_any (a b : UInt8) (w : World) : Calls Tryz.prog 75 #[.int .u8 (a.toNat : Int), .int .u8 (b.toNat : Int)] w fun e w' => e = .returned (.bool (apartB a b)) ∧ w' = w := by
  have CA := fun W => refIndex_any ⟨#[76, 108]⟩ a (by decide) W
  have CB := fun W => refIndex_any ⟨#[82, 114]⟩ a (by decide) W
  have CC := fun W => refIndex_any ⟨#[82, 114]⟩ b (by decide) W
  have CD := fun W => refIndex_any ⟨#[76, 108]⟩ b (by decide) W
  change ∀ W, Calls _ _ _ W (fun e w' => e = .returned (.int .i64 (idxL a [76, 108] 0)) ∧ w' = W) at CA
  change ∀ W, Calls _ _ _ W (fun e w' => e = .returned (.int .i64 (idxL a [82, 114] 0)) ∧ w' = W) at CB
  change ∀ W, Calls _ _ _ W (fun e w' => e = .returned (.int .i64 (idxL b [82, 114] 0)) ∧ w' = W) at CC
  change ∀ W, Calls _ _ _ W (fun e w' => e = .returned (.int .i64 (idxL b [76, 108] 0)) ∧ w' = W) at CD
  have I1 := idx_two 76 108 a
  have I2 := idx_two 82 114 a
  have I3 := idx_two 82 114 b
  have I4 := idx_two 76 108 b
  unfold apartB
  generalize idxL a [76, 108] 0 = q1 at *
  generalize idxL a [82, 114] 0 = q2 at *
  generalize idxL b [82, 114] 0 = q3 at *
  generalize idxL b [76, 108] 0 = q4 at *
  generalize (a == 76 || a == 108) = p1 at *
  generalize (a == 82 || a == 114) = p2 at *
  generalize (b == 82 || b == 114) = p3 at *
  generalize (b == 76 || b == 108) = p4 at *
  have CA := Lib.hid CA
  have CB := Lib.hid CB
  have CC := Lib.hid CC
  have CD := Lib.hid CD
  cases p1 with
  | true =>
    have h1 : 0 ≤ q1 := I1.2 rfl
    cases p2 with
    | true =>
      have h2 : 0 ≤ q2 := I2.2 rfl
      cases p3 with
      | true =>
        have h3 : 0 ≤ q3 := I3.2 rfl
        cases p4 with
        | true =>
          have h4 : 0 ≤ q4 := I4.2 rfl
          clear I1 I2 I3 I4
          go_enter Tryz.func75, Tryz.ntmps75
          go_wp2_with fail
          refine (CA.out _).mono ?_
          rintro e w1 ⟨rfl, hw⟩
          obtain rfl := hw.symm
          clear hw
          go_wp2_with fail
          refine (CB.out _).mono ?_
          rintro e w1 ⟨rfl, hw⟩
          obtain rfl := hw.symm
          clear hw
          go_wp2_with fail
          refine (CC.out _).mono ?_
          rintro e w1 ⟨rfl, hw⟩
          obtain rfl := hw.symm
          clear hw
          go_wp2_with fail
          go_ret
          exact ⟨by first | rfl | (simp; done) | (simp; omega), by first | trivial | rfl⟩
        | false =>
          have h4 : ¬ 0 ≤ q4 := fun h => Bool.noConfusion (I4.1 h)
          clear I1 I2 I3 I4
          go_enter Tryz.func75, Tryz.ntmps75
          go_wp2_with fail
          refine (CA.out _).mono ?_
          rintro e w1 ⟨rfl, hw⟩
          obtain rfl := hw.symm
          clear hw
          go_wp2_with fail
          refine (CB.out _).mono ?_
          rintro e w1 ⟨rfl, hw⟩
          obtain rfl := hw.symm
          clear hw
          go_wp2_with fail
          refine (CC.out _).mono ?_
          rintro e w1 ⟨rfl, hw⟩
          obtain rfl := hw.symm
          clear hw
          go_wp2_with fail
          go_ret
          exact ⟨by first | rfl | (simp; done) | (simp; omega), by first | trivial | rfl⟩
      | false =>
        have h3 : ¬ 0 ≤ q3 := fun h => Bool.noConfusion (I3.1 h)
        cases p4 with
        | true =>
          have h4 : 0 ≤ q4 := I4.2 rfl
          clear I1 I2 I3 I4
          go_enter Tryz.func75, Tryz.ntmps75
          go_wp2_with fail
          refine (CA.out _).mono ?_
          rintro e w1 ⟨rfl, hw⟩
          obtain rfl := hw.symm
          clear hw
          go_wp2_with fail
          refine (CB.out _).mono ?_
          rintro e w1 ⟨rfl, hw⟩
          obtain rfl := hw.symm
          clear hw
          go_wp2_with fail
          refine (CC.out _).mono ?_
          rintro e w1 ⟨rfl, hw⟩
          obtain rfl := hw.symm
          clear hw
          go_wp2_with fail
          refine (CD.out _).mono ?_
          rintro e w1 ⟨rfl, hw⟩
          obtain rfl := hw.symm
          clear hw
          go_wp2_with fail
          go_ret
          exact ⟨by first | rfl | (simp; done) | (simp; omega), by first | trivial | rfl⟩
        | false =>
          have h4 : ¬ 0 ≤ q4 := fun h => Bool.noConfusion (I4.1 h)
          clear I1 I2 I3 I4
          go_enter Tryz.func75, Tryz.ntmps75
          go_wp2_with fail
          refine (CA.out _).mono ?_
          rintro e w1 ⟨rfl, hw⟩
          obtain rfl := hw.symm
          clear hw
          go_wp2_with fail
          refine (CB.out _).mono ?_
          rintro e w1 ⟨rfl, hw⟩
          obtain rfl := hw.symm
          clear hw
          go_wp2_with fail
          refine (CC.out _).mono ?_
          rintro e w1 ⟨rfl, hw⟩
          obtain rfl := hw.symm
          clear hw
          go_wp2_with fail
          refine (CD.out _).mono ?_
          rintro e w1 ⟨rfl, hw⟩
          obtain rfl := hw.symm
          clear hw
          go_wp2_with fail
          go_ret
          exact ⟨by first | rfl | (simp; done) | (simp; omega), by first | trivial | rfl⟩
    | false =>
      have h2 : ¬ 0 ≤ q2 := fun h => Bool.noConfusion (I2.1 h)
      cases p3 with
      | true =>
        have h3 : 0 ≤ q3 := I3.2 rfl
        cases p4 with
        | true =>
          have h4 : 0 ≤ q4 := I4.2 rfl
          clear I1 I2 I3 I4
          go_enter Tryz.func75, Tryz.ntmps75
          go_wp2_with fail
          refine (CA.out _).mono ?_
          rintro e w1 ⟨rfl, hw⟩
          obtain rfl := hw.symm
          clear hw
          go_wp2_with fail
          refine (CB.out _).mono ?_
          rintro e w1 ⟨rfl, hw⟩
          obtain rfl := hw.symm
          clear hw
          go_wp2_with fail
          refine (CC.out _).mono ?_
          rintro e w1 ⟨rfl, hw⟩
          obtain rfl := hw.symm
          clear hw
          go_wp2_with fail
          go_ret
          exact ⟨by first | rfl | (simp; done) | (simp; omega), by first | trivial | rfl⟩
        | false =>
          have h4 : ¬ 0 ≤ q4 := fun h => Bool.noConfusion (I4.1 h)
          clear I1 I2 I3 I4
          go_enter Tryz.func75, Tryz.ntmps75
          go_wp2_with fail
          refine (CA.out _).mono ?_
          rintro e w1 ⟨rfl, hw⟩
          obtain rfl := hw.symm
          clear hw
          go_wp2_with fail
          refine (CB.out _).mono ?_
          rintro e w1 ⟨rfl, hw⟩
          obtain rfl := hw.symm
          clear hw
          go_wp2_with fail
          refine (CC.out _).mono ?_
          rintro e w1 ⟨rfl, hw⟩
          obtain rfl := hw.symm
          clear hw
          go_wp2_with fail
          go_ret
          exact ⟨by first | rfl | (simp; done) | (simp; omega), by first | trivial | rfl⟩
      | false =>
        have h3 : ¬ 0 ≤ q3 := fun h => Bool.noConfusion (I3.1 h)
        cases p4 with
        | true =>
          have h4 : 0 ≤ q4 := I4.2 rfl
          clear I1 I2 I3 I4
          go_enter Tryz.func75, Tryz.ntmps75
          go_wp2_with fail
          refine (CA.out _).mono ?_
          rintro e w1 ⟨rfl, hw⟩
          obtain rfl := hw.symm
          clear hw
          go_wp2_with fail
          refine (CB.out _).mono ?_
          rintro e w1 ⟨rfl, hw⟩
          obtain rfl := hw.symm
          clear hw
          go_wp2_with fail
          refine (CC.out _).mono ?_
          rintro e w1 ⟨rfl, hw⟩
          obtain rfl := hw.symm
          clear hw
          go_wp2_with fail
          go_ret
          exact ⟨by first | rfl | (simp; done) | (simp; omega), by first | trivial | rfl⟩
        | false =>
          have h4 : ¬ 0 ≤ q4 := fun h => Bool.noConfusion (I4.1 h)
          clear I1 I2 I3 I4
          go_enter Tryz.func75, Tryz.ntmps75
          go_wp2_with fail
          refine (CA.out _).mono ?_
          rintro e w1 ⟨rfl, hw⟩
          obtain rfl := hw.symm
          clear hw
          go_wp2_with fail
          refine (CB.out _).mono ?_
          rintro e w1 ⟨rfl, hw⟩
          obtain rfl := hw.symm
          clear hw
          go_wp2_with fail
          refine (CC.out _).mono ?_
          rintro e w1 ⟨rfl, hw⟩
          obtain rfl := hw.symm
          clear hw
          go_wp2_with fail
          go_ret
          exact ⟨by first | rfl | (simp; done) | (simp; omega), by first | trivial | rfl⟩
  | false =>
    have h1 : ¬ 0 ≤ q1 := fun h => Bool.noConfusion (I1.1 h)
    cases p2 with
    | true =>
      have h2 : 0 ≤ q2 := I2.2 rfl
      cases p3 with
      | true =>
        have h3 : 0 ≤ q3 := I3.2 rfl
        cases p4 with
        | true =>
          have h4 : 0 ≤ q4 := I4.2 rfl
          clear I1 I2 I3 I4
          go_enter Tryz.func75, Tryz.ntmps75
          go_wp2_with fail
          refine (CA.out _).mono ?_
          rintro e w1 ⟨rfl, hw⟩
          obtain rfl := hw.symm
          clear hw
          go_wp2_with fail
          refine (CB.out _).mono ?_
          rintro e w1 ⟨rfl, hw⟩
          obtain rfl := hw.symm
          clear hw
          go_wp2_with fail
          refine (CD.out _).mono ?_
          rintro e w1 ⟨rfl, hw⟩
          obtain rfl := hw.symm
          clear hw
          go_wp2_with fail
          go_ret
          exact ⟨by first | rfl | (simp; done) | (simp; omega), by first | trivial | rfl⟩
        | false =>
          have h4 : ¬ 0 ≤ q4 := fun h => Bool.noConfusion (I4.1 h)
          clear I1 I2 I3 I4
          go_enter Tryz.func75, Tryz.ntmps75
          go_wp2_with fail
          refine (CA.out _).mono ?_
          rintro e w1 ⟨rfl, hw⟩
          obtain rfl := hw.symm
          clear hw
          go_wp2_with fail
          refine (CB.out _).mono ?_
          rintro e w1 ⟨rfl, hw⟩
          obtain rfl := hw.symm
          clear hw
          go_wp2_with fail
          refine (CD.out _).mono ?_
          rintro e w1 ⟨rfl, hw⟩
          obtain rfl := hw.symm
          clear hw
          go_wp2_with fail
          go_ret
          exact ⟨by first | rfl | (simp; done) | (simp; omega), by first | trivial | rfl⟩
      | false =>
        have h3 : ¬ 0 ≤ q3 := fun h => Bool.noConfusion (I3.1 h)
        cases p4 with
        | true =>
          have h4 : 0 ≤ q4 := I4.2 rfl
          clear I1 I2 I3 I4
          go_enter Tryz.func75, Tryz.ntmps75
          go_wp2_with fail
          refine (CA.out _).mono ?_
          rintro e w1 ⟨rfl, hw⟩
          obtain rfl := hw.symm
          clear hw
          go_wp2_with fail
          refine (CB.out _).mono ?_
          rintro e w1 ⟨rfl, hw⟩
          obtain rfl := hw.symm
          clear hw
          go_wp2_with fail
          refine (CD.out _).mono ?_
          rintro e w1 ⟨rfl, hw⟩
          obtain rfl := hw.symm
          clear hw
          go_wp2_with fail
          go_ret
          exact ⟨by first | rfl | (simp; done) | (simp; omega), by first | trivial | rfl⟩
        | false =>
          have h4 : ¬ 0 ≤ q4 := fun h => Bool.noConfusion (I4.1 h)
          clear I1 I2 I3 I4
          go_enter Tryz.func75, Tryz.ntmps75
          go_wp2_with fail
          refine (CA.out _).mono ?_
          rintro e w1 ⟨rfl, hw⟩
          obtain rfl := hw.symm
          clear hw
          go_wp2_with fail
          refine (CB.out _).mono ?_
          rintro e w1 ⟨rfl, hw⟩
          obtain rfl := hw.symm
          clear hw
          go_wp2_with fail
          refine (CD.out _).mono ?_
          rintro e w1 ⟨rfl, hw⟩
          obtain rfl := hw.symm
          clear hw
          go_wp2_with fail
          go_ret
          exact ⟨by first | rfl | (simp; done) | (simp; omega), by first | trivial | rfl⟩
    | false =>
      have h2 : ¬ 0 ≤ q2 := fun h => Bool.noConfusion (I2.1 h)
      cases p3 with
      | true =>
        have h3 : 0 ≤ q3 := I3.2 rfl
        cases p4 with
        | true =>
          have h4 : 0 ≤ q4 := I4.2 rfl
          clear I1 I2 I3 I4
          go_enter Tryz.func75, Tryz.ntmps75
          go_wp2_with fail
          refine (CA.out _).mono ?_
          rintro e w1 ⟨rfl, hw⟩
          obtain rfl := hw.symm
          clear hw
          go_wp2_with fail
          refine (CB.out _).mono ?_
          rintro e w1 ⟨rfl, hw⟩
          obtain rfl := hw.symm
          clear hw
          go_wp2_with fail
          go_ret
          exact ⟨by first | rfl | (simp; done) | (simp; omega), by first | trivial | rfl⟩
        | false =>
          have h4 : ¬ 0 ≤ q4 := fun h => Bool.noConfusion (I4.1 h)
          clear I1 I2 I3 I4
          go_enter Tryz.func75, Tryz.ntmps75
          go_wp2_with fail
          refine (CA.out _).mono ?_
          rintro e w1 ⟨rfl, hw⟩
          obtain rfl := hw.symm
          clear hw
          go_wp2_with fail
          refine (CB.out _).mono ?_
          rintro e w1 ⟨rfl, hw⟩
          obtain rfl := hw.symm
          clear hw
          go_wp2_with fail
          go_ret
          exact ⟨by first | rfl | (simp; done) | (simp; omega), by first | trivial | rfl⟩
      | false =>
        have h3 : ¬ 0 ≤ q3 := fun h => Bool.noConfusion (I3.1 h)
        cases p4 with
        | true =>
          have h4 : 0 ≤ q4 := I4.2 rfl
          clear I1 I2 I3 I4
          go_enter Tryz.func75, Tryz.ntmps75
          go_wp2_with fail
          refine (CA.out _).mono ?_
          rintro e w1 ⟨rfl, hw⟩
          obtain rfl := hw.symm
          clear hw
          go_wp2_with fail
          refine (CB.out _).mono ?_
          rintro e w1 ⟨rfl, hw⟩
          obtain rfl := hw.symm
          clear hw
          go_wp2_with fail
          go_ret
          exact ⟨by first | rfl | (simp; done) | (simp; omega), by first | trivial | rfl⟩
        | false =>
          have h4 : ¬ 0 ≤ q4 := fun h => Bool.noConfusion (I4.1 h)
          clear I1 I2 I3 I4
          go_enter Tryz.func75, Tryz.ntmps75
          go_wp2_with fail
          refine (CA.out _).mono ?_
          rintro e w1 ⟨rfl, hw⟩
          obtain rfl := hw.symm
          clear hw
          go_wp2_with fail
          refine (CB.out _).mono ?_
          rintro e w1 ⟨rfl, hw⟩
          obtain rfl := hw.symm
          clear hw
          go_wp2_with fail
          go_ret
          exact ⟨by first | rfl | (simp; done) | (simp; omega), by first | trivial | rfl⟩
end Go.Proofs.YtmefpaoakblndaaGreatDoor
