/- The reference's SameInts walked. -/
import Derived.Test.YtnfppebcpagjpaaBX
namespace Go.Proofs.Ytnfppebcpagjpaa
open Go.RowKit Go.Lib
attribute [local irreducible] wpQuiet
set_option maxHeartbeats 600000 in
set_option maxRecDepth 100000 in
theorem sameInts_any (xs ys : List Int) (r : Bool) (hr : r = true ↔ xs = ys) (sa sb : Option Addr) (c d : Nat) (w : World) (hc : xs.length ≤ c) (hcm : c ≤ maxLen) (ha : IntsAt w sa xs) (hb : IntsAt w sb ys) :
    Calls Try.prog 19 #[.slice sa xs.length c, .slice sb ys.length d] w fun e w' => e = .returned (.bool r) ∧ Below w.heap.size w w' := by
  have Ha := Lib.hid ha
  have Hb := Lib.hid hb
  have Hr := Lib.hid hr
  clear ha hb hr
  unfold maxLen at hcm
  go_enter Try.func19, Try.ntmps19
  by_cases hlm : xs.length = ys.length
  · rw [← hlm]
    go_wp2_with fail
    go_loopw [5] (fun i wr => ∃ k : Nat, k ≤ xs.length ∧ i = .int .i64 k ∧ xs.take k = ys.take k ∧ Below w.heap.size w wr) (fun i _ => xs.length - (intOf i).toNat)
    case atStart => exact ⟨0, Nat.zero_le _, rfl, rfl, Below.refl _ w⟩
    case round =>
      obtain ⟨k, hk, rfl, htk, hbw⟩ := hrel
      have Htk := Lib.hid htk
      clear htk
      by_cases hkl : k < xs.length
      · obtain ⟨x, hx⟩ : ∃ x, xs[k]? = some x := ⟨_, List.getElem?_eq_getElem hkl⟩
        obtain ⟨y, hy⟩ : ∃ y, ys[k]? = some y := ⟨_, List.getElem?_eq_getElem (hlm ▸ hkl)⟩
        obtain ⟨b1, o1, rfl, hs1, hr1⟩ := (Ha.out.below hbw) k x hx
        obtain ⟨b2, o2, rfl, hs2, hr2⟩ := (Hb.out.below hbw) k y hy
        have k0 : (0 : Int) ≤ (k : Int) := by omega
        have k1 : (k : Int) < (xs.length : Int) := by omega
        have k2 : (k : Int) < (ys.length : Int) := by omega
        go_wp2_with fail
        by_cases hxy : x = y
        · have hxb : (x == y) = true := by simp [hxy]
          refine wp_region_quiet (C := fun w' => Below wr.heap.size wr w') (by kernel_rfl) (by kernel_rfl) (Below.refl _ wr).drew ?_
          dsimp only
          refine quiet_move rfl _ rfl ?_
          simp only [Act.put, List.setIfInBounds_toArray, List.set_cons_zero, List.set_cons_succ]
          refine quiet_move rfl _ rfl ?_
          simp only [Act.put, List.setIfInBounds_toArray, List.set_cons_zero, List.set_cons_succ]
          refine quiet_still rfl (.pointer (some ⟨b1, o1 + k, none⟩)) (fun w _ => by go_simp) ?_
          simp only [Act.put, List.setIfInBounds_toArray, List.set_cons_zero, List.set_cons_succ]
          refine quiet_load1 rfl _ _ rfl ⟨b1, o1 + k, none⟩ rfl (.int .i64 x) (load_int _ _) (fun _ h => (h.cell (p := ⟨b1, o1 + k, none⟩) hs1).trans hr1) ?_
          simp only [Act.put, List.setIfInBounds_toArray, List.set_cons_zero, List.set_cons_succ]
          refine quiet_move rfl _ rfl ?_
          simp only [Act.put, List.setIfInBounds_toArray, List.set_cons_zero, List.set_cons_succ]
          refine quiet_move rfl _ rfl ?_
          simp only [Act.put, List.setIfInBounds_toArray, List.set_cons_zero, List.set_cons_succ]
          refine quiet_still rfl (.pointer (some ⟨b2, o2 + k, none⟩)) (fun w _ => by go_simp) ?_
          simp only [Act.put, List.setIfInBounds_toArray, List.set_cons_zero, List.set_cons_succ]
          refine quiet_load1 rfl _ _ rfl ⟨b2, o2 + k, none⟩ rfl (.int .i64 y) (load_int _ _) (fun _ h => (h.cell (p := ⟨b2, o2 + k, none⟩) hs2).trans hr2) ?_
          simp only [Act.put, List.setIfInBounds_toArray, List.set_cons_zero, List.set_cons_succ]
          refine quiet_still rfl (.bool false) (fun w _ => by go_simp) ?_
          simp only [Act.put, List.setIfInBounds_toArray, List.set_cons_zero, List.set_cons_succ]
          refine wpQuiet_nil fun U bu => ?_
          have BU := hbw.trans (bu.mono hbw.size)
          clear bu
          go_wp2_with fail
          have hn1 : xs.take (k + 1) = ys.take (k + 1) := by rw [List.take_add_one, List.take_add_one, hx, hy, Htk.out, hxy]
          have Hn1 := Lib.hid hn1
          clear hn1
          go_roundw
          case rel => exact ⟨k + 1, hkl, by go_num, Hn1.out, BU⟩
          case measure => (simp [intOf] <;> omega)
        · have hxb : (x == y) = false := by simp [hxy]
          refine wp_region_quiet (C := fun w' => Below wr.heap.size wr w') (by kernel_rfl) (by kernel_rfl) (Below.refl _ wr).drew ?_
          dsimp only
          refine quiet_move rfl _ rfl ?_
          simp only [Act.put, List.setIfInBounds_toArray, List.set_cons_zero, List.set_cons_succ]
          refine quiet_move rfl _ rfl ?_
          simp only [Act.put, List.setIfInBounds_toArray, List.set_cons_zero, List.set_cons_succ]
          refine quiet_still rfl (.pointer (some ⟨b1, o1 + k, none⟩)) (fun w _ => by go_simp) ?_
          simp only [Act.put, List.setIfInBounds_toArray, List.set_cons_zero, List.set_cons_succ]
          refine quiet_load1 rfl _ _ rfl ⟨b1, o1 + k, none⟩ rfl (.int .i64 x) (load_int _ _) (fun _ h => (h.cell (p := ⟨b1, o1 + k, none⟩) hs1).trans hr1) ?_
          simp only [Act.put, List.setIfInBounds_toArray, List.set_cons_zero, List.set_cons_succ]
          refine quiet_move rfl _ rfl ?_
          simp only [Act.put, List.setIfInBounds_toArray, List.set_cons_zero, List.set_cons_succ]
          refine quiet_move rfl _ rfl ?_
          simp only [Act.put, List.setIfInBounds_toArray, List.set_cons_zero, List.set_cons_succ]
          refine quiet_still rfl (.pointer (some ⟨b2, o2 + k, none⟩)) (fun w _ => by go_simp) ?_
          simp only [Act.put, List.setIfInBounds_toArray, List.set_cons_zero, List.set_cons_succ]
          refine quiet_load1 rfl _ _ rfl ⟨b2, o2 + k, none⟩ rfl (.int .i64 y) (load_int _ _) (fun _ h => (h.cell (p := ⟨b2, o2 + k, none⟩) hs2).trans hr2) ?_
          simp only [Act.put, List.setIfInBounds_toArray, List.set_cons_zero, List.set_cons_succ]
          refine quiet_still rfl (.bool true) (fun w _ => by go_simp) ?_
          simp only [Act.put, List.setIfInBounds_toArray, List.set_cons_zero, List.set_cons_succ]
          refine wpQuiet_nil fun U bu => ?_
          have BU := hbw.trans (bu.mono hbw.size)
          clear bu
          go_wp2_with fail
          go_ret
          refine ⟨?_, BU⟩
          have : r = false := by
            rcases hrv : r with _ | _
            · rfl
            · have h := Hr.out.1 hrv
              rw [h, hy] at hx
              exact absurd (Option.some.inj hx).symm hxy
          rw [this]
          rfl
      · obtain rfl : k = xs.length := by omega
        go_wp2_with fail
        go_ret
        refine ⟨?_, hbw⟩
        have h := Htk.out
        rw [List.take_length, hlm, List.take_length] at h
        rw [Hr.out.2 h]
        rfl
  · have hlm' : ¬ (xs.length : Int) = (ys.length : Int) := by omega
    go_wp2_with fail
    go_ret
    refine ⟨?_, Below.refl _ w⟩
    have : r = false := by
      rcases hrv : r with _ | _
      · rfl
      · exact absurd (congrArg List.length (Hr.out.1 hrv)) hlm
    rw [this]
    rfl
end Go.Proofs.Ytnfppebcpagjpaa
