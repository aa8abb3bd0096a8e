/- Two words: checkBoth; two rows of factors: slices.Equal; Same walked. -/
import Derived.Test.YtmefpaoakblndaaGreatDoorBT
namespace Go.Proofs.YtmefpaoakblndaaGreatDoor
open Go.RowKit
/-- The cells of a slice of ints. -/
def IntsAt (w : World) (sa : Option Addr) (ws : List Int) : Prop := ∀ (k : Nat) (z : Int), ws[k]? = some z → ∃ b off, sa = some ⟨b, off, none⟩ ∧ b < w.heap.size ∧ w.cell? ⟨b, off + k, none⟩ = some (.int .i64 z)
theorem IntsAt.below {w w' : World} {sa : Option Addr} {ws : List Int} (h : IntsAt w sa ws) (hb : Below w.heap.size w w') : IntsAt w' sa ws := fun k z hz => by
  obtain ⟨b, off, e, hB, hc⟩ := h k z hz
  exact ⟨b, off, e, by have := hb.size; omega, (hb.cell (p := ⟨b, off + k, none⟩) hB).trans hc⟩
def bothV (n : Int) (a b : List Int) : Int := if checkV n a = 0 then checkV n b else checkV n a
set_option maxHeartbeats 400000 in
set_option maxRecDepth 100000 in
theorem checkBoth_any (n : Int) (xs ys : List Int) (sa sb : Option Addr) (sc sd : Nat) (w : World) (hsc : xs.length ≤ sc) (hmx : sc ≤ maxLen) (hsd : ys.length ≤ sd) (hmd : sd ≤ maxLen) (ha : IntsAt w sa xs) (hb : IntsAt w sb ys) :
    Calls Tryz.prog 93 #[.int .i64 n, .slice sa xs.length sc, .slice sb ys.length sd] w fun e w' => e = .returned (.int .i64 (bothV n xs ys)) ∧ Below w.heap.size w w' := by
  have Ha := Lib.hid ha
  have Hb := Lib.hid hb
  clear ha hb
  obtain ⟨r, hr⟩ : ∃ r, r = bothV n xs ys := ⟨_, rfl⟩
  rw [← hr]
  unfold bothV at hr
  have Hr := Lib.hid hr
  clear hr
  go_enter Tryz.func93, Tryz.ntmps93
  go_wp2_with fail
  refine (Check_any n xs sa sc w hsc hmx Ha.out).mono ?_
  rintro e w1 ⟨rfl, B1⟩
  by_cases h : checkV n xs = 0
  · have hv := Lib.hid (Hr.out.trans (if_pos h))
    rw [h]
    go_wp2_with fail
    refine (Check_any n ys sb sd w1 hsd hmd (Hb.out.below B1)).mono ?_
    rintro e w2 ⟨rfl, B2⟩
    go_wp2_with fail
    go_ret
    exact ⟨by rw [hv.out]; rfl, B1.trans (B2.mono B1.size)⟩
  · have hv := Lib.hid (Hr.out.trans (if_neg h))
    obtain ⟨v, hev⟩ : ∃ v, v = checkV n xs := ⟨_, rfl⟩
    rw [← hev] at h hv ⊢
    go_wp2_with fail
    go_ret
    exact ⟨by rw [hv.out, hev]; rfl, B1⟩
attribute [local irreducible] wpQuiet
set_option maxHeartbeats 1000000 in
set_option maxRecDepth 100000 in
theorem equal_any (B n : Nat) (hn : n ≤ 12) (L M : List Pm) (r : Bool) (hr : r = true ↔ L = M) (ao bo : Option Addr) (c d : Nat) (w : World) (hL : AllIn n L) (hM : AllIn n M) (_ : L.length < 100000) (_ : M.length < 100000) (ha : FR B w ao c L) (hb : FR B w bo d M) :
    Calls Tryz.prog 95 #[.slice ao L.length c, .slice bo M.length d] w fun e w' => e = .returned (.bool r) ∧ Below w.heap.size w w' := by
  have hal := ha.le
  have ham := ha.mx
  have hbl := hb.le
  have hbm := hb.mx
  have Ha := Lib.hid ha
  have Hb := Lib.hid hb
  clear ha hb
  unfold maxLen at ham hbm
  have Hr := Lib.hid hr
  clear hr
  go_enter Tryz.func95, Tryz.ntmps95
  by_cases hlm : L.length = M.length
  · rw [← hlm]
    go_wp2_with fail
    go_loopw [13] (fun i wr => ∃ k : Nat, k ≤ L.length ∧ i = .int .i64 k ∧ L.take k = M.take k ∧ Below w.heap.size w wr) (fun i _ => L.length - (intOf i).toNat)
    case atStart => exact ⟨0, Nat.zero_le _, rfl, rfl, Below.refl _ w⟩
    case round =>
      obtain ⟨k, hk, rfl, htk, hbw⟩ := hrel
      have Htk := Lib.hid htk
      clear htk
      by_cases hkl : k < L.length
      · obtain ⟨x, hx⟩ : ∃ x, L[k]? = some x := ⟨_, List.getElem?_eq_getElem hkl⟩
        obtain ⟨y, hy⟩ : ∃ y, M[k]? = some y := ⟨_, List.getElem?_eq_getElem (hlm ▸ hkl)⟩
        have hxi := (hL x (List.mem_of_getElem? hx)).more hn
        have hyi := (hM y (List.mem_of_getElem? hy)).more hn
        obtain ⟨b1, o1, rfl, _, hs1, hr1, _⟩ := (Ha.out.below hbw).at hx
        obtain ⟨b2, o2, rfl, _, hs2, hr2, _⟩ := (Hb.out.below hbw).at hy
        have k0 : (0 : Int) ≤ (k : Int) := by omega
        have k1 : (k : Int) < (L.length : Int) := by omega
        have k2 : (k : Int) < (M.length : Int) := by omega
        go_wp2_with fail
        by_cases hxy : x = y
        · have heq := fun w => eql_pl y y hyi hyi w (d := true) ⟨fun _ => rfl, fun _ => rfl⟩
          subst hxy
          refine wp_region_quiet (C := fun w' => Below wr.heap.size wr w') (by kernel_rfl) (by kernel_rfl) (Below.refl _ wr).drew ?_
          dsimp only
          refine quiet_move rfl _ rfl ?_
          simp only [Act.put, List.setIfInBounds_toArray, List.set_cons_zero, List.set_cons_succ]
          refine quiet_move rfl _ rfl ?_
          simp only [Act.put, List.setIfInBounds_toArray, List.set_cons_zero, List.set_cons_succ]
          refine quiet_still rfl (.pointer (some ⟨b1, o1 + k * 12, none⟩)) (fun w _ => by go_simp) ?_
          simp only [Act.put, List.setIfInBounds_toArray, List.set_cons_zero, List.set_cons_succ]
          refine quiet_load_mid rfl 108 (.tmp 18) rfl b1 (o1 + k * 12) rfl (pl x) _ (fun _ h => range_below hr1 h hs1) Tryz.underlying108 hd59 (hi59L _) ?_
          simp only [Act.put, List.setIfInBounds_toArray, List.set_cons_zero, List.set_cons_succ]
          refine quiet_move rfl _ rfl ?_
          simp only [Act.put, List.setIfInBounds_toArray, List.set_cons_zero, List.set_cons_succ]
          refine quiet_move rfl _ rfl ?_
          simp only [Act.put, List.setIfInBounds_toArray, List.set_cons_zero, List.set_cons_succ]
          refine quiet_still rfl (.pointer (some ⟨b2, o2 + k * 12, none⟩)) (fun w _ => by go_simp) ?_
          simp only [Act.put, List.setIfInBounds_toArray, List.set_cons_zero, List.set_cons_succ]
          refine quiet_load_mid rfl 108 (.tmp 22) rfl b2 (o2 + k * 12) rfl (pl x) _ (fun _ h => range_below hr2 h hs2) Tryz.underlying108 hd59 (hi59L _) ?_
          simp only [Act.put, List.setIfInBounds_toArray, List.set_cons_zero, List.set_cons_succ]
          refine quiet_still rfl (.bool false) (fun w _ => by go_simp) ?_
          simp only [Act.put, List.setIfInBounds_toArray, List.set_cons_zero, List.set_cons_succ]
          refine wpQuiet_nil fun U bu => ?_
          have BU := hbw.trans (bu.mono hbw.size)
          clear bu
          go_wp2_with fail
          have hn1 : L.take (k + 1) = M.take (k + 1) := by rw [List.take_add_one, List.take_add_one, hx, hy, Htk.out]
          have Hn1 := Lib.hid hn1
          clear hn1
          go_roundw
          case rel => exact ⟨k + 1, hkl, by go_num, Hn1.out, BU⟩
          case measure => (simp [intOf] <;> omega)
        · have heq := fun w => eql_pl x y hxi hyi w (d := false) ⟨fun h => (by cases h), fun h => absurd h hxy⟩
          refine wp_region_quiet (C := fun w' => Below wr.heap.size wr w') (by kernel_rfl) (by kernel_rfl) (Below.refl _ wr).drew ?_
          dsimp only
          refine quiet_move rfl _ rfl ?_
          simp only [Act.put, List.setIfInBounds_toArray, List.set_cons_zero, List.set_cons_succ]
          refine quiet_move rfl _ rfl ?_
          simp only [Act.put, List.setIfInBounds_toArray, List.set_cons_zero, List.set_cons_succ]
          refine quiet_still rfl (.pointer (some ⟨b1, o1 + k * 12, none⟩)) (fun w _ => by go_simp) ?_
          simp only [Act.put, List.setIfInBounds_toArray, List.set_cons_zero, List.set_cons_succ]
          refine quiet_load_mid rfl 108 (.tmp 18) rfl b1 (o1 + k * 12) rfl (pl x) _ (fun _ h => range_below hr1 h hs1) Tryz.underlying108 hd59 (hi59L _) ?_
          simp only [Act.put, List.setIfInBounds_toArray, List.set_cons_zero, List.set_cons_succ]
          refine quiet_move rfl _ rfl ?_
          simp only [Act.put, List.setIfInBounds_toArray, List.set_cons_zero, List.set_cons_succ]
          refine quiet_move rfl _ rfl ?_
          simp only [Act.put, List.setIfInBounds_toArray, List.set_cons_zero, List.set_cons_succ]
          refine quiet_still rfl (.pointer (some ⟨b2, o2 + k * 12, none⟩)) (fun w _ => by go_simp) ?_
          simp only [Act.put, List.setIfInBounds_toArray, List.set_cons_zero, List.set_cons_succ]
          refine quiet_load_mid rfl 108 (.tmp 22) rfl b2 (o2 + k * 12) rfl (pl y) _ (fun _ h => range_below hr2 h hs2) Tryz.underlying108 hd59 (hi59L _) ?_
          simp only [Act.put, List.setIfInBounds_toArray, List.set_cons_zero, List.set_cons_succ]
          refine quiet_still rfl (.bool true) (fun w _ => by go_simp) ?_
          simp only [Act.put, List.setIfInBounds_toArray, List.set_cons_zero, List.set_cons_succ]
          refine wpQuiet_nil fun U bu => ?_
          have BU := hbw.trans (bu.mono hbw.size)
          clear bu
          go_wp2_with fail
          go_ret
          refine ⟨?_, BU⟩
          have : r = false := by
            rcases hrv : r with _ | _
            · rfl
            · have h := Hr.out.1 hrv
              rw [h, hy] at hx
              exact absurd (Option.some.inj hx).symm hxy
          rw [this]
          rfl
      · obtain rfl : k = L.length := by omega
        go_wp2_with fail
        go_ret
        refine ⟨?_, hbw⟩
        have h := Htk.out
        rw [List.take_length, hlm, List.take_length] at h
        rw [Hr.out.2 h]
        rfl
  · have hlm' : ¬ (L.length : Int) = (M.length : Int) := by omega
    go_wp2_with fail
    go_ret
    refine ⟨?_, Below.refl _ w⟩
    have : r = false := by
      rcases hrv : r with _ | _
      · rfl
      · exact absurd (congrArg List.length (Hr.out.1 hrv)) hlm
    rw [this]
    rfl
end Go.Proofs.YtmefpaoakblndaaGreatDoor
