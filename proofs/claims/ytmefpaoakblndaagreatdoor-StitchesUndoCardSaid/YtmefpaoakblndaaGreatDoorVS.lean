/- same of the laws of layer 3. -/
import Derived.Test.YtmefpaoakblndaaGreatDoorVQ
namespace Go.Proofs.YtmefpaoakblndaaGreatDoor
open Go.RowKit Go.Lib
attribute [local irreducible] wpQuiet
theorem all_take {xs ys : List Int} {k : Nat} (h : xs.take k = ys.take k) (hk : xs.length ≤ k ∨ ys.length ≤ k) : xs = ys ↔ xs.length = ys.length := by
  constructor
  · rintro rfl; rfl
  · intro e
    rwa [List.take_of_length_le (by omega), List.take_of_length_le (by omega)] at h
set_option maxHeartbeats 800000 in
set_option maxRecDepth 100000 in
theorem lawsame_any (xs ys : List Int) (u v : Value) (w : World) (hu : IS w u xs) (hv : IS w v ys) (r : Bool) (hr : r = true ↔ xs = ys) :
    Calls Tryz.prog 16 #[u, v] w fun e w' => e = .returned (.bool r) ∧ Below w.heap.size w w' := by
  obtain ⟨sa, c, rfl, hc, hcm, _, ha⟩ := hu
  obtain ⟨sb, d, rfl, hd, hdm, _, hb⟩ := hv
  have Ha := Lib.hid ha
  have Hb := Lib.hid hb
  have Hr := Lib.hid hr
  clear ha hb hr
  unfold maxLen at hcm hdm
  go_enter Tryz.func16, Tryz.ntmps16
  go_wp2_with fail
  go_loopw [5] (fun i wr => ∃ k : Nat, k ≤ xs.length ∧ i = .int .i64 k ∧ xs.take k = ys.take k ∧ Below w.heap.size w wr) (fun i _ => xs.length - (intOf i).toNat)
  case atStart => exact ⟨0, Nat.zero_le _, rfl, rfl, Below.refl _ w⟩
  case round =>
    obtain ⟨k, hk, rfl, htk, hbw⟩ := hrel
    have Htk := Lib.hid htk
    clear htk
    have hend : (xs.length ≤ k ∨ ys.length ≤ k) → ((xs.length : Int) == (ys.length : Int)) = r := fun h => by
      have h2 := all_take Htk.out h
      have h3 := Hr.out
      cases r with
      | true => have := h2.1 (h3.1 rfl); simp [this]
      | false =>
        rw [beq_eq_false_iff_ne]
        intro e
        have := h3.2 (h2.2 (by omega))
        cases this
    have HE := Lib.hid hend
    clear hend
    by_cases hkl : k < xs.length
    · have k0 : (0 : Int) ≤ (k : Int) := by omega
      have k1 : (k : Int) < (xs.length : Int) := by omega
      by_cases hkm : k < ys.length
      · obtain ⟨x, hx⟩ : ∃ x, xs[k]? = some x := ⟨_, List.getElem?_eq_getElem hkl⟩
        obtain ⟨y, hy⟩ : ∃ y, ys[k]? = some y := ⟨_, List.getElem?_eq_getElem hkm⟩
        obtain ⟨b1, o1, rfl, hs1, hr1⟩ := (Ha.out.below hbw) k x hx
        obtain ⟨b2, o2, rfl, hs2, hr2⟩ := (Hb.out.below hbw) k y hy
        have k2 : (k : Int) < (ys.length : Int) := by omega
        go_wp2_with fail
        by_cases hxy : x = y
        · have hxb : (x == y) = true := by simp [hxy]
          have hxc : (x != y) = false := by simp [hxy]
          refine wp_region_quiet (C := fun w' => Below wr.heap.size wr w') (by kernel_rfl) (by kernel_rfl) (Below.refl _ wr).drew ?_
          dsimp only
          refine quiet_move rfl _ rfl ?_
          simp only [Act.put, List.setIfInBounds_toArray, List.set_cons_zero, List.set_cons_succ]
          refine quiet_move rfl _ rfl ?_
          simp only [Act.put, List.setIfInBounds_toArray, List.set_cons_zero, List.set_cons_succ]
          refine quiet_still rfl (.pointer (some ⟨b1, o1 + k, none⟩)) (fun w _ => by go_simp) ?_
          simp only [Act.put, List.setIfInBounds_toArray, List.set_cons_zero, List.set_cons_succ]
          refine quiet_load1 rfl _ _ rfl ⟨b1, o1 + k, none⟩ rfl (.int .i64 x) (load_int _ _) (fun _ h => (h.cell (p := ⟨b1, o1 + k, none⟩) hs1).trans hr1) ?_
          simp only [Act.put, List.setIfInBounds_toArray, List.set_cons_zero, List.set_cons_succ]
          refine quiet_move rfl _ rfl ?_
          simp only [Act.put, List.setIfInBounds_toArray, List.set_cons_zero, List.set_cons_succ]
          refine quiet_move rfl _ rfl ?_
          simp only [Act.put, List.setIfInBounds_toArray, List.set_cons_zero, List.set_cons_succ]
          refine quiet_still rfl (.pointer (some ⟨b2, o2 + k, none⟩)) (fun w _ => by go_simp) ?_
          simp only [Act.put, List.setIfInBounds_toArray, List.set_cons_zero, List.set_cons_succ]
          refine quiet_load1 rfl _ _ rfl ⟨b2, o2 + k, none⟩ rfl (.int .i64 y) (load_int _ _) (fun _ h => (h.cell (p := ⟨b2, o2 + k, none⟩) hs2).trans hr2) ?_
          simp only [Act.put, List.setIfInBounds_toArray, List.set_cons_zero, List.set_cons_succ]
          refine quiet_still rfl (.bool false) (fun w _ => by go_simp) ?_
          simp only [Act.put, List.setIfInBounds_toArray, List.set_cons_zero, List.set_cons_succ]
          refine wpQuiet_nil fun U bu => ?_
          have BU := hbw.trans (bu.mono hbw.size)
          clear bu
          go_wp2_with fail
          have hn1 : xs.take (k + 1) = ys.take (k + 1) := by rw [List.take_add_one, List.take_add_one, hx, hy, Htk.out, hxy]
          have Hn1 := Lib.hid hn1
          clear hn1
          go_roundw
          case rel => exact ⟨k + 1, hkl, by go_num, Hn1.out, BU⟩
          case measure => (simp [intOf] <;> omega)
        · have hxb : (x == y) = false := by simp [hxy]
          have hxc : (x != y) = true := by simp [hxy]
          refine wp_region_quiet (C := fun w' => Below wr.heap.size wr w') (by kernel_rfl) (by kernel_rfl) (Below.refl _ wr).drew ?_
          dsimp only
          refine quiet_move rfl _ rfl ?_
          simp only [Act.put, List.setIfInBounds_toArray, List.set_cons_zero, List.set_cons_succ]
          refine quiet_move rfl _ rfl ?_
          simp only [Act.put, List.setIfInBounds_toArray, List.set_cons_zero, List.set_cons_succ]
          refine quiet_still rfl (.pointer (some ⟨b1, o1 + k, none⟩)) (fun w _ => by go_simp) ?_
          simp only [Act.put, List.setIfInBounds_toArray, List.set_cons_zero, List.set_cons_succ]
          refine quiet_load1 rfl _ _ rfl ⟨b1, o1 + k, none⟩ rfl (.int .i64 x) (load_int _ _) (fun _ h => (h.cell (p := ⟨b1, o1 + k, none⟩) hs1).trans hr1) ?_
          simp only [Act.put, List.setIfInBounds_toArray, List.set_cons_zero, List.set_cons_succ]
          refine quiet_move rfl _ rfl ?_
          simp only [Act.put, List.setIfInBounds_toArray, List.set_cons_zero, List.set_cons_succ]
          refine quiet_move rfl _ rfl ?_
          simp only [Act.put, List.setIfInBounds_toArray, List.set_cons_zero, List.set_cons_succ]
          refine quiet_still rfl (.pointer (some ⟨b2, o2 + k, none⟩)) (fun w _ => by go_simp) ?_
          simp only [Act.put, List.setIfInBounds_toArray, List.set_cons_zero, List.set_cons_succ]
          refine quiet_load1 rfl _ _ rfl ⟨b2, o2 + k, none⟩ rfl (.int .i64 y) (load_int _ _) (fun _ h => (h.cell (p := ⟨b2, o2 + k, none⟩) hs2).trans hr2) ?_
          simp only [Act.put, List.setIfInBounds_toArray, List.set_cons_zero, List.set_cons_succ]
          refine quiet_still rfl (.bool true) (fun w _ => by go_simp) ?_
          simp only [Act.put, List.setIfInBounds_toArray, List.set_cons_zero, List.set_cons_succ]
          refine wpQuiet_nil fun U bu => ?_
          have BU := hbw.trans (bu.mono hbw.size)
          clear bu
          go_wp2_with fail
          have hrf : r = false := by
            cases r with
            | true =>
              have e := Hr.out.1 rfl
              rw [e, hy] at hx
              exact absurd (Option.some.inj hx).symm hxy
            | false => rfl
          go_ret
          exact ⟨by rw [hrf]; rfl, BU⟩
      · have k2 : ¬ (k : Int) < (ys.length : Int) := by omega
        have he := HE.out (.inr (by omega))
        go_wp2_with fail
        go_ret
        exact ⟨by first | rfl | rw [he], hbw⟩
    · have k1 : ¬ (k : Int) < (xs.length : Int) := by omega
      have he := HE.out (.inl (by omega))
      go_wp2_with fail
      go_ret
      exact ⟨by first | rfl | rw [he], hbw⟩
end Go.Proofs.YtmefpaoakblndaaGreatDoor
