/- Merged: YA YB YC YD YE YH. -/
import Derived.Test.YtmefpaoakblndaaGreatDoorVR
namespace Go.Proofs.YtmefpaoakblndaaGreatDoor
open Go.RowKit
/-- R2 comes out of R by swaps of places from a to b. -/
inductive Sw (a b : Nat) (R : List UInt8) : List UInt8 → Prop
  | refl : Sw a b R R
  | step {R2 : List UInt8} {i j : Nat} {x y : UInt8} (h : Sw a b R R2) (hi : R2[i]? = some x) (hj : R2[j]? = some y) (ai : a ≤ i) (ib : i < b) (aj : a ≤ j) (jb : j < b) : Sw a b R ((R2.set i y).set j x)
theorem fB_sw {R : List UInt8} {i j : Nat} {x y : UInt8} (hi : R[i]? = some x) (hj : R[j]? = some y) (p : Nat) : fB ((R.set i y).set j x) p = if p = j then fB R i else if p = i then fB R j else fB R p := by
  by_cases e : i = j
  · subst e
    have h1 := (List.getElem?_eq_some_iff.1 hi).1
    obtain rfl : x = y := Option.some.inj (hi.symm.trans hj)
    by_cases e2 : p = i
    · subst e2
      rw [if_pos rfl]
      unfold fB
      simp only [List.getD_eq_getElem?_getD]
      rw [List.getElem?_set, List.length_set, if_pos rfl, if_pos h1, hi]
    · rw [if_neg e2, if_neg e2]
      unfold fB
      simp only [List.getD_eq_getElem?_getD]
      rw [List.getElem?_set, if_neg (fun h => e2 h.symm), List.getElem?_set, if_neg (fun h => e2 h.symm)]
  · rw [fB_set hj hi (fun h => e h.symm) p]
    by_cases e2 : p = i
    · subst e2
      rw [if_pos rfl, if_neg e, if_pos rfl]
    · simp only [if_neg e2]
theorem Sw.len {a b : Nat} {R R2 : List UInt8} (h : Sw a b R R2) : R2.length = R.length := by
  induction h with
  | refl => rfl
  | step _ _ _ _ _ _ _ ih => rw [List.length_set, List.length_set]; exact ih
theorem Sw.perm {a b : Nat} {R R2 : List UInt8} (h : Sw a b R R2) : R2.Perm R := by
  induction h with
  | refl => exact .refl _
  | @step R2 i j x y _ hi hj _ _ _ _ ih =>
    have li := (List.getElem?_eq_some_iff.1 hi)
    have lj := (List.getElem?_eq_some_iff.1 hj)
    have h1 := @List.set_set_perm _ R2 i j li.1 lj.1
    rw [li.2, lj.2] at h1
    exact h1.trans ih
theorem Sw.out {a b : Nat} {R R2 : List UInt8} (h : Sw a b R R2) (p : Nat) (hp : p < a ∨ b ≤ p) : fB R2 p = fB R p := by
  induction h with
  | refl => rfl
  | step _ hi hj _ _ _ _ ih =>
    rw [fB_sw hi hj, if_neg (by omega), if_neg (by omega)]
    exact ih
theorem Sw.all {a b : Nat} {R R2 : List UInt8} (h : Sw a b R R2) (P : Nat → Prop) (hp : ∀ p, a ≤ p → p < b → P (fB R p)) : ∀ p, a ≤ p → p < b → P (fB R2 p) := by
  induction h with
  | refl => exact hp
  | step _ hi hj _ _ _ _ ih =>
    intro p h1 h2
    rw [fB_sw hi hj]
    split
    · exact ih _ (by assumption) (by assumption)
    · split
      · exact ih _ (by assumption) (by assumption)
      · exact ih _ h1 h2
theorem Sw.trans {a b : Nat} {R R2 R3 : List UInt8} (h : Sw a b R R2) (k : Sw a b R2 R3) : Sw a b R R3 := by
  induction k with
  | refl => exact h
  | step _ hi hj ai ib aj jb ih => exact ih.step hi hj ai ib aj jb
theorem Sw.mono {a b c d : Nat} {R R2 : List UInt8} (h : Sw a b R R2) (h1 : c ≤ a) (h2 : b ≤ d) : Sw c d R R2 := by
  induction h with
  | refl => exact .refl
  | step _ hi hj _ _ _ _ ih => exact ih.step hi hj (by omega) (by omega) (by omega) (by omega)
/-- Sorted from a to b. -/
def SR (f : Nat → Nat) (a b : Nat) : Prop := ∀ p q, a ≤ p → p < q → q < b → f p ≤ f q
/-- Sorted from a to i, but for the place j, that goes down. -/
def InR (f : Nat → Nat) (a i j : Nat) : Prop := (∀ p q, a ≤ p → p < q → q ≤ i → p ≠ j → q ≠ j → f p ≤ f q) ∧ ∀ q, j < q → q ≤ i → f j ≤ f q
theorem InR.start {f : Nat → Nat} {a i : Nat} (h : SR f a i) : InR f a i i := ⟨fun p q h0 h1 h2 h3 h4 => h p q h0 h1 (by omega), fun q h1 h2 => by omega⟩
theorem InR.step {f f' : Nat → Nat} {a i j k : Nat} (h : InR f a i k) (hk : k = j + 1) (ha : a ≤ j) (_ : k ≤ i) (hl : f k < f j) (hf : ∀ p, f' p = if p = j then f k else if p = k then f j else f p) : InR f' a i j := by
  subst hk
  obtain ⟨hA, hB⟩ := h
  refine ⟨fun p q h0 h1 h2 h3 h4 => ?_, fun q h1 h2 => ?_⟩
  · rw [hf p, hf q, if_neg h3, if_neg h4]
    by_cases e1 : p = j + 1
    · rw [if_pos e1, if_neg (by omega)]
      exact hA j q (by omega) (by omega) h2 (by omega) (by omega)
    · rw [if_neg e1]
      by_cases e2 : q = j + 1
      · rw [if_pos e2]
        exact hA p j (by omega) (by omega) (by omega) e1 (by omega)
      · simp only [if_neg e2]
        exact hA p q h0 h1 h2 e1 e2
  · rw [hf j, hf q, if_pos rfl, if_neg (by omega)]
    by_cases e2 : q = j + 1
    · rw [if_pos e2]; omega
    · rw [if_neg e2]
      exact hB q (by omega) h2
theorem InR.stop {f : Nat → Nat} {a i j : Nat} (h : InR f a i j) (hj : j ≤ i) (hl : a < j → f (j - 1) ≤ f j) : SR f a (i + 1) := fun p q h0 h1 h2 => by
  obtain ⟨hA, hB⟩ := h
  by_cases e1 : q = j
  · subst e1
    have h3 := hl (by omega)
    by_cases e2 : p = q - 1
    · rw [e2]; exact h3
    · have := hA p (q - 1) h0 (by omega) (by omega) (by omega) (by omega)
      omega
  · by_cases e2 : p = j
    · rw [e2]; exact hB q (by omega) (by omega)
    · exact hA p q h0 h1 (by omega) e2 e1
theorem sr_pair {R : List UInt8} {n : Nat} (hn : R.length = n) (h : SR (fB R) 0 n) : R.Pairwise (fun a b => a.toNat ≤ b.toNat) := by
  rw [List.pairwise_iff_getElem]
  intro i j hi hj hij
  have := h i j (by omega) hij (by omega)
  rwa [fB_get (List.getElem?_eq_getElem hi), fB_get (List.getElem?_eq_getElem hj)] at this
end Go.Proofs.YtmefpaoakblndaaGreatDoor
namespace Go.Proofs.YtmefpaoakblndaaGreatDoor
open Go.RowKit
attribute [local irreducible] wpQuiet
set_option maxHeartbeats 4000000 in
set_option maxRecDepth 100000 in
theorem insertion_rg (l : List UInt8) (B g c n a b : Nat) (hab : a ≤ b) (hbn : b ≤ n) (hs : n < 100000) (w : World) (hown0 : BR w B g n l) :
    Calls Tryz.prog 121 #[.slice (some ⟨g, 0, none⟩) n c, .int .i64 (a : Int), .int .i64 (b : Int)] w fun e w' => ∃ R, e = .returned (.tuple #[]) ∧ BR w' B g n R ∧ Sw a b l R ∧ SR (fB R) a b ∧ Below B w w' := by
  have HO := Lib.hid hown0
  have hBg : B ≤ g := hown0.le
  clear hown0
  have ha1 : IntKind.i64.wrap ((a : Int) + 1) = ((a + 1 : Nat) : Int) := by rw [show ((a + 1 : Nat) : Int) = (a : Int) + 1 by omega]; exact IntWalk.i64_in _ (by omega)
  go_enter Tryz.func121, Tryz.ntmps121
  go_wp2_with fail
  go_loopw [6] (fun i wr => ∃ (i' : Nat) (R : List UInt8), i = .int .i64 (i' : Int) ∧ a + 1 ≤ i' ∧ (i' ≤ b ∨ i' = a + 1) ∧ Sw a b l R ∧ SR (fB R) a i' ∧ BR wr B g n R ∧ Below B w wr) (fun i _ => n + 1 - (intOf i).toNat)
  case atStart => exact ⟨a + 1, l, by first | rfl | (simp; done) | (rw [ha1]), Nat.le_refl _, .inr rfl, .refl, fun p q h0 h1 h2 => by omega, HO.out, Below.refl _ w⟩
  case round =>
    obtain ⟨i', R, rfl, hi1, hi2, hp, hsrt, hown, hbw⟩ := hrel
    by_cases hin : i' < b
    · have k0 : (i' : Int) < (b : Int) := by omega
      have Hs := Lib.hid hsrt
      have Hp := Lib.hid hp
      have Ho := Lib.hid hown
      clear hsrt hp hown
      go_wp2_with fail
      rename World => wq
      go_loopw [7] (fun jv wx => ∃ (j : Nat) (R : List UInt8), jv = .int .i64 (j : Int) ∧ a ≤ j ∧ j ≤ i' ∧ Sw a b l R ∧ InR (fB R) a i' j ∧ BR wx B g n R ∧ Below B w wx) (fun jv _ => (intOf jv).toNat)
      case atStart => exact ⟨i', R, rfl, by omega, Nat.le_refl _, Hp.out, InR.start Hs.out, Ho.out, hbw⟩
      case round =>
        obtain ⟨j, R2, rfl, haj, hji, hp2, hA, hown2, hbx⟩ := hrel
        rename World => wx
        have HP2 := Lib.hid hp2
        have HA := Lib.hid hA
        have HO2 := Lib.hid hown2
        have HBX := Lib.hid hbx
        have hRl : R2.length = n := hown2.len
        have hgl := hown2.lt
        have HG := Lib.hid (show g < wx.heap.size from hgl)
        clear hp2 hA hbx hgl
        by_cases hja : a < j
        · obtain ⟨i, hj⟩ : ∃ i, i + 1 = j := ⟨j - 1, by omega⟩
          obtain ⟨x, hx⟩ : ∃ x, R2[j]? = some x := ⟨_, List.getElem?_eq_getElem (by omega)⟩
          obtain ⟨y, hy⟩ : ∃ y, R2[i]? = some y := ⟨_, List.getElem?_eq_getElem (by omega)⟩
          have cj : wx.cell? ⟨g, j, none⟩ = some (.int .u8 (x.toNat : Int)) := hown2.cl j _ hx
          have ci : wx.cell? ⟨g, i, none⟩ = some (.int .u8 (y.toNat : Int)) := hown2.cl i _ hy
          have j0 : (a : Int) < (j : Int) := by omega
          have j1 : (0 : Int) ≤ (j : Int) := by omega
          have j2 : (j : Int) < (n : Int) := by omega
          have i0 : (0 : Int) ≤ (i : Int) := by omega
          have i1 : (i : Int) < (n : Int) := by omega
          have hwj : IntKind.i64.wrap ((j : Int) - 1) = (i : Int) := by rw [show (j : Int) - 1 = (i : Int) by omega]; exact IntWalk.i64_in _ (by omega)
          have hjn : j < n := by omega
          have hin2 : i < n := by omega
          have hai : a ≤ i := by omega
          have hij : i < j := by omega
          have hib : i < b := by omega
          have hjb : j < b := by omega
          have hii : i ≤ i' := by omega
          have HJ := Lib.hid (show j = i + 1 from hj.symm)
          have hstp := Lib.hid (show j - 1 = i by omega)
          clear hj
          by_cases hlt : x.toNat < y.toNat
          · have CL := Lib.hid (fun W => less_any x y true (by simp [hlt]) W)
            clear hown2
            go_wp2_with fail
            refine wp_region_class (fun w' => Below wx.heap.size wx w') 14 (by kernel_rfl) (by kernel_rfl) (Below.refl _ wx).drew ?_
            simp only [List.take_succ_cons, List.take_zero, List.drop_succ_cons, List.drop_zero]
            refine quiet_moveV rfl _ rfl (.int .i64 (j : Int)) rfl ?_
            simp only [Act.put, List.setIfInBounds_toArray, List.set_cons_zero, List.set_cons_succ]
            refine quiet_moveV rfl _ rfl (.int .i64 (a : Int)) rfl ?_
            simp only [Act.put, List.setIfInBounds_toArray, List.set_cons_zero, List.set_cons_succ]
            refine quiet_still rfl (.bool true) (fun w _ => by go_simp) ?_
            simp only [Act.put, List.setIfInBounds_toArray, List.set_cons_zero, List.set_cons_succ]
            refine quiet_moveV rfl _ rfl (.bool true) rfl ?_
            simp only [Act.put, List.setIfInBounds_toArray, List.set_cons_zero, List.set_cons_succ]
            refine quietW_moveV (by kernel_rfl) _ rfl (.slice (some ⟨g, 0, none⟩) n c) rfl ?_
            simp only [Act.put, List.setIfInBounds_toArray, List.set_cons_zero, List.set_cons_succ]
            refine quietW_moveV (by kernel_rfl) _ rfl (.int .i64 (j : Int)) rfl ?_
            simp only [Act.put, List.setIfInBounds_toArray, List.set_cons_zero, List.set_cons_succ]
            refine quietW_still (by kernel_rfl) (.pointer (some ⟨g, j, none⟩)) (fun w _ => by go_simp) ?_
            simp only [Act.put, List.setIfInBounds_toArray, List.set_cons_zero, List.set_cons_succ]
            refine quietW_load1 (by kernel_rfl) _ _ rfl ⟨g, j, none⟩ rfl (.int .u8 (x.toNat : Int)) (load_u8 _ _) (fun _ h => (h.cell (p := ⟨g, j, none⟩) HG.out).trans cj) ?_
            simp only [Act.put, List.setIfInBounds_toArray, List.set_cons_zero, List.set_cons_succ]
            refine quietW_moveV (by kernel_rfl) _ rfl (.slice (some ⟨g, 0, none⟩) n c) rfl ?_
            simp only [Act.put, List.setIfInBounds_toArray, List.set_cons_zero, List.set_cons_succ]
            refine quietW_moveV (by kernel_rfl) _ rfl (.int .i64 (j : Int)) rfl ?_
            simp only [Act.put, List.setIfInBounds_toArray, List.set_cons_zero, List.set_cons_succ]
            refine quietW_still (by kernel_rfl) (.int .i64 (i : Int)) (fun w _ => by first | (go_simp; done) | (go_simp; exact hwj)) ?_
            simp only [Act.put, List.setIfInBounds_toArray, List.set_cons_zero, List.set_cons_succ]
            refine quietW_still (by kernel_rfl) (.pointer (some ⟨g, i, none⟩)) (fun w _ => by go_simp) ?_
            simp only [Act.put, List.setIfInBounds_toArray, List.set_cons_zero, List.set_cons_succ]
            refine quietW_load1 (by kernel_rfl) _ _ rfl ⟨g, i, none⟩ rfl (.int .u8 (y.toNat : Int)) (load_u8 _ _) (fun _ h => (h.cell (p := ⟨g, i, none⟩) HG.out).trans ci) ?_
            simp only [Act.put, List.setIfInBounds_toArray, List.set_cons_zero, List.set_cons_succ]
            refine quietW_call (by kernel_rfl) 127 _ _ rfl (enter_of Tryz.func127 (by decide) (by intro h; cases h)) _ (fun W h => (CL.out W).mono fun e w' ⟨he, hw⟩ => ⟨he, hw ▸ h⟩) ?_
            simp only [Act.put, List.setIfInBounds_toArray, List.set_cons_zero, List.set_cons_succ]
            unfold wpQuiet
            intro wy hb
            have HB2 := Lib.hid (HBX.out.trans (hb.mono (by have := HBX.out.size; have := HG.out; omega)))
            have hown3 := HO2.out.below hb
            clear hb cj ci
            have cj : wy.cell? ⟨g, j, none⟩ = some (.int .u8 (x.toNat : Int)) := hown3.cl j _ hx
            have ci : wy.cell? ⟨g, i, none⟩ = some (.int .u8 (y.toNat : Int)) := hown3.cl i _ hy
            have f0 := hown3.fz j hjn
            have f1 := hown3.fz i hin2
            have hs1 := hown3.set hjn y
            have hs2 := hs1.set (j := i) hin2 x
            have Hs2 := Lib.hid hs2.drew
            have Hbw2 := Lib.hid (((HB2.out.setCell (p := ⟨g, j, none⟩) hBg (.int .u8 (y.toNat : Int))).setCell (p := ⟨g, i, none⟩) hBg (.int .u8 (x.toNat : Int))).drew)
            have HPN := Lib.hid (show Sw a b l ((R2.set j y).set i x) from HP2.out.step hx hy (by omega) hjb hai hib)
            have HAN := Lib.hid (show InR (fB ((R2.set j y).set i x)) a i' i from by
              refine HA.out.step HJ.out hai hji ?_ (fun p => fB_sw hx hy p)
              rw [fB_get hx, fB_get hy]; exact hlt)
            clear hs1 hs2 hown3
            go_wp2_with fail
            go_region
            go_wp2_with fail
            go_roundw
            case rel => exact ⟨i, (R2.set j y).set i x, by go_num, hai, hii, HPN.out, HAN.out, Hs2.out, Hbw2.out⟩
            case measure => (simp [intOf] <;> omega)
          · have CL := Lib.hid (fun W => less_any x y false (by simp [hlt]) W)
            have hS := Lib.hid (HA.out.stop hji (fun _ => by rw [hstp.out, fB_get hx, fB_get hy]; omega))
            clear hown2
            go_wp2_with fail
            refine wp_region_class (fun w' => Below wx.heap.size wx w') 14 (by kernel_rfl) (by kernel_rfl) (Below.refl _ wx).drew ?_
            simp only [List.take_succ_cons, List.take_zero, List.drop_succ_cons, List.drop_zero]
            refine quiet_moveV rfl _ rfl (.int .i64 (j : Int)) rfl ?_
            simp only [Act.put, List.setIfInBounds_toArray, List.set_cons_zero, List.set_cons_succ]
            refine quiet_moveV rfl _ rfl (.int .i64 (a : Int)) rfl ?_
            simp only [Act.put, List.setIfInBounds_toArray, List.set_cons_zero, List.set_cons_succ]
            refine quiet_still rfl (.bool true) (fun w _ => by go_simp) ?_
            simp only [Act.put, List.setIfInBounds_toArray, List.set_cons_zero, List.set_cons_succ]
            refine quiet_moveV rfl _ rfl (.bool true) rfl ?_
            simp only [Act.put, List.setIfInBounds_toArray, List.set_cons_zero, List.set_cons_succ]
            refine quietW_moveV (by kernel_rfl) _ rfl (.slice (some ⟨g, 0, none⟩) n c) rfl ?_
            simp only [Act.put, List.setIfInBounds_toArray, List.set_cons_zero, List.set_cons_succ]
            refine quietW_moveV (by kernel_rfl) _ rfl (.int .i64 (j : Int)) rfl ?_
            simp only [Act.put, List.setIfInBounds_toArray, List.set_cons_zero, List.set_cons_succ]
            refine quietW_still (by kernel_rfl) (.pointer (some ⟨g, j, none⟩)) (fun w _ => by go_simp) ?_
            simp only [Act.put, List.setIfInBounds_toArray, List.set_cons_zero, List.set_cons_succ]
            refine quietW_load1 (by kernel_rfl) _ _ rfl ⟨g, j, none⟩ rfl (.int .u8 (x.toNat : Int)) (load_u8 _ _) (fun _ h => (h.cell (p := ⟨g, j, none⟩) HG.out).trans cj) ?_
            simp only [Act.put, List.setIfInBounds_toArray, List.set_cons_zero, List.set_cons_succ]
            refine quietW_moveV (by kernel_rfl) _ rfl (.slice (some ⟨g, 0, none⟩) n c) rfl ?_
            simp only [Act.put, List.setIfInBounds_toArray, List.set_cons_zero, List.set_cons_succ]
            refine quietW_moveV (by kernel_rfl) _ rfl (.int .i64 (j : Int)) rfl ?_
            simp only [Act.put, List.setIfInBounds_toArray, List.set_cons_zero, List.set_cons_succ]
            refine quietW_still (by kernel_rfl) (.int .i64 (i : Int)) (fun w _ => by first | (go_simp; done) | (go_simp; exact hwj)) ?_
            simp only [Act.put, List.setIfInBounds_toArray, List.set_cons_zero, List.set_cons_succ]
            refine quietW_still (by kernel_rfl) (.pointer (some ⟨g, i, none⟩)) (fun w _ => by go_simp) ?_
            simp only [Act.put, List.setIfInBounds_toArray, List.set_cons_zero, List.set_cons_succ]
            refine quietW_load1 (by kernel_rfl) _ _ rfl ⟨g, i, none⟩ rfl (.int .u8 (y.toNat : Int)) (load_u8 _ _) (fun _ h => (h.cell (p := ⟨g, i, none⟩) HG.out).trans ci) ?_
            simp only [Act.put, List.setIfInBounds_toArray, List.set_cons_zero, List.set_cons_succ]
            refine quietW_call (by kernel_rfl) 127 _ _ rfl (enter_of Tryz.func127 (by decide) (by intro h; cases h)) _ (fun W h => (CL.out W).mono fun e w' ⟨he, hw⟩ => ⟨he, hw ▸ h⟩) ?_
            simp only [Act.put, List.setIfInBounds_toArray, List.set_cons_zero, List.set_cons_succ]
            unfold wpQuiet
            intro wy hb
            have HB2 := Lib.hid (HBX.out.trans (hb.mono (by have := HBX.out.size; have := HG.out; omega)))
            have HO3 := Lib.hid (HO2.out.below hb)
            clear hb cj ci
            go_wp2_with fail
            go_roundw
            case rel => exact ⟨i' + 1, R2, by go_num, by omega, .inl (by omega), HP2.out, hS.out, HO3.out, HB2.out⟩
            case measure => (simp [intOf] <;> omega)
        · have j0 : ¬ (a : Int) < (j : Int) := by omega
          have hS := Lib.hid (HA.out.stop hji (fun h => by omega))
          clear hown2
          go_wp2_with fail
          refine wp_region_class (fun w' => Below wx.heap.size wx w') 14 (by kernel_rfl) (by kernel_rfl) (Below.refl _ wx).drew ?_
          simp only [List.take_succ_cons, List.take_zero, List.drop_succ_cons, List.drop_zero]
          refine quiet_moveV rfl _ rfl (.int .i64 (j : Int)) rfl ?_
          simp only [Act.put, List.setIfInBounds_toArray, List.set_cons_zero, List.set_cons_succ]
          refine quiet_moveV rfl _ rfl (.int .i64 (a : Int)) rfl ?_
          simp only [Act.put, List.setIfInBounds_toArray, List.set_cons_zero, List.set_cons_succ]
          refine quiet_still rfl (.bool false) (fun w _ => by go_simp) ?_
          simp only [Act.put, List.setIfInBounds_toArray, List.set_cons_zero, List.set_cons_succ]
          refine quiet_moveV rfl _ rfl (.bool false) rfl ?_
          simp only [Act.put, List.setIfInBounds_toArray, List.set_cons_zero, List.set_cons_succ]
          refine quiet_skip (by kernel_rfl) ?_
          simp only [Act.put, List.setIfInBounds_toArray, List.set_cons_zero, List.set_cons_succ]
          refine quiet_skip (by kernel_rfl) ?_
          simp only [Act.put, List.setIfInBounds_toArray, List.set_cons_zero, List.set_cons_succ]
          refine quiet_skip (by kernel_rfl) ?_
          simp only [Act.put, List.setIfInBounds_toArray, List.set_cons_zero, List.set_cons_succ]
          refine quiet_skip (by kernel_rfl) ?_
          simp only [Act.put, List.setIfInBounds_toArray, List.set_cons_zero, List.set_cons_succ]
          refine quiet_skip (by kernel_rfl) ?_
          simp only [Act.put, List.setIfInBounds_toArray, List.set_cons_zero, List.set_cons_succ]
          refine quiet_skip (by kernel_rfl) ?_
          simp only [Act.put, List.setIfInBounds_toArray, List.set_cons_zero, List.set_cons_succ]
          refine quiet_skip (by kernel_rfl) ?_
          simp only [Act.put, List.setIfInBounds_toArray, List.set_cons_zero, List.set_cons_succ]
          refine quiet_skip (by kernel_rfl) ?_
          simp only [Act.put, List.setIfInBounds_toArray, List.set_cons_zero, List.set_cons_succ]
          refine quiet_skip (by kernel_rfl) ?_
          simp only [Act.put, List.setIfInBounds_toArray, List.set_cons_zero, List.set_cons_succ]
          refine quiet_skip (by kernel_rfl) ?_
          simp only [Act.put, List.setIfInBounds_toArray, List.set_cons_zero, List.set_cons_succ]
          unfold wpQuiet
          intro wy hb
          have HB2 := Lib.hid (HBX.out.trans (hb.mono (by have := HBX.out.size; have := HG.out; omega)))
          have HO3 := Lib.hid (HO2.out.below hb)
          clear hb
          go_wp2_with fail
          go_roundw
          case rel => exact ⟨i' + 1, R2, by go_num, by omega, .inl (by omega), HP2.out, hS.out, HO3.out, HB2.out⟩
          case measure => (simp [intOf] <;> omega)
    · have k0 : ¬ (i' : Int) < (b : Int) := by omega
      have hS : SR (fB R) a b := fun p q h0 h1 h2 => hsrt p q h0 h1 (by omega)
      have HS := Lib.hid hS
      have Hp := Lib.hid hp
      have Ho := Lib.hid hown
      clear hsrt hp hown hS
      go_wp2_with fail
      go_end0
      exact ⟨rfl, R, Ho.out, Hp.out, HS.out, hbw⟩
end Go.Proofs.YtmefpaoakblndaaGreatDoor
namespace Go.Proofs.YtmefpaoakblndaaGreatDoor
open Go.RowKit
theorem BR.low {w w' : World} {B g n m : Nat} {R : List UInt8} (h : BR w B g n R) (hm : g < m) (hb : Below m w w') : BR w' B g n R :=
  ⟨h.len, h.le, Nat.lt_of_lt_of_le h.lt hb.size, fun p x hx => (hb.cell (p := ⟨g, p, none⟩) hm).trans (h.cl p x hx), fun p hp => (hb.frozen (p := ⟨g, p, none⟩) hm).trans (h.fz p hp)⟩
/-- Block s counts k. -/
structure SC (w : World) (s : Nat) (k : Nat) : Prop where
  lt : s < w.heap.size
  cl : w.cell? ⟨s, 0, none⟩ = some (.int .i64 (k : Int))
  fz : w.frozen? ⟨s, 0, none⟩ = false
theorem SC.below {w w' : World} {s k m : Nat} (h : SC w s k) (hm : s < m) (hb : Below m w w') : SC w' s k :=
  ⟨Nat.lt_of_lt_of_le h.lt hb.size, (hb.cell (p := ⟨s, 0, none⟩) hm).trans h.cl, (hb.frozen (p := ⟨s, 0, none⟩) hm).trans h.fz⟩
theorem SC.set {w : World} {s k : Nat} (h : SC w s k) (k' : Nat) : SC (w.setCell ⟨s, 0, none⟩ (.int .i64 (k' : Int))) s k' := by
  refine ⟨by simpa using h.lt, ?_, (World.frozen?_setCells s [.int .i64 (k' : Int)] 0 w ⟨s, 0, none⟩).trans h.fz⟩
  have h0 := h.cl
  first | exact World.cell?_setCell_same _ h0 | exact World.cell?_setCell_same _ _ h0 | exact World.cell?_setCell_same _ _ _ h0
attribute [local irreducible] wpQuiet
set_option maxHeartbeats 4000000 in
set_option maxRecDepth 100000 in
theorem order2_any (R : List UInt8) (B g c n lo hi i j s k : Nat) (_ : n < 100000) (hk : k < 100000) (w : World) (hown : BR w B g n R) (_ : g < s) (hS : SC w s k) (hin : hi ≤ n) (h1 : lo ≤ i ∧ i < hi) (h2 : lo ≤ j ∧ j < hi) :
    Calls Tryz.prog 149 #[.slice (some ⟨g, 0, none⟩) n c, .int .i64 (i : Int), .int .i64 (j : Int), .pointer (some ⟨s, 0, none⟩)] w fun e w' => ∃ p q k' : Nat, e = .returned (.tuple #[.int .i64 (p : Int), .int .i64 (q : Int)]) ∧ (lo ≤ p ∧ p < hi) ∧ (lo ≤ q ∧ q < hi) ∧ k' ≤ k + 1 ∧ SC w' s k' ∧ Below s w w' := by
  have hRl : R.length = n := hown.len
  obtain ⟨x, hx⟩ : ∃ x, R[i]? = some x := ⟨_, List.getElem?_eq_getElem (by omega)⟩
  obtain ⟨y, hy⟩ : ∃ y, R[j]? = some y := ⟨_, List.getElem?_eq_getElem (by omega)⟩
  have ci : w.cell? ⟨g, i, none⟩ = some (.int .u8 (x.toNat : Int)) := hown.cl i _ hx
  have cj : w.cell? ⟨g, j, none⟩ = some (.int .u8 (y.toNat : Int)) := hown.cl j _ hy
  have HG := Lib.hid (show g < w.heap.size from hown.lt)
  have HS := Lib.hid hS
  have H1 := Lib.hid h1
  have H2 := Lib.hid h2
  have j1 : (0 : Int) ≤ (j : Int) := by omega
  have j2 : (j : Int) < (n : Int) := by omega
  have i0 : (0 : Int) ≤ (i : Int) := by omega
  have i1 : (i : Int) < (n : Int) := by omega
  have hwk : IntKind.i64.wrap ((k : Int) + 1) = ((k + 1 : Nat) : Int) := by rw [show ((k + 1 : Nat) : Int) = (k : Int) + 1 by omega]; exact IntWalk.i64_in _ (by omega)
  clear hown hS h1 h2
  by_cases hlt : y.toNat < x.toNat
  · have CL := Lib.hid (fun W => less_any y x true (by simp [hlt]) W)
    go_enter Tryz.func149, Tryz.ntmps149
    go_wp2_with fail
    refine wp_region_class (fun w' => Below w.heap.size w w') 8 (by kernel_rfl) (by kernel_rfl) (Below.refl _ w).drew ?_
    simp only [List.take_succ_cons, List.take_zero, List.drop_succ_cons, List.drop_zero]
    refine quiet_moveV rfl _ rfl (.slice (some ⟨g, 0, none⟩) n c) rfl ?_
    simp only [Act.put, List.setIfInBounds_toArray, List.set_cons_zero, List.set_cons_succ]
    refine quiet_moveV rfl _ rfl (.int .i64 (j : Int)) rfl ?_
    simp only [Act.put, List.setIfInBounds_toArray, List.set_cons_zero, List.set_cons_succ]
    refine quiet_still rfl (.pointer (some ⟨g, j, none⟩)) (fun w _ => by go_simp) ?_
    simp only [Act.put, List.setIfInBounds_toArray, List.set_cons_zero, List.set_cons_succ]
    refine quiet_load1 rfl _ _ rfl ⟨g, j, none⟩ rfl (.int .u8 (y.toNat : Int)) (load_u8 _ _) (fun _ h => (h.cell (p := ⟨g, j, none⟩) HG.out).trans cj) ?_
    simp only [Act.put, List.setIfInBounds_toArray, List.set_cons_zero, List.set_cons_succ]
    refine quiet_moveV rfl _ rfl (.slice (some ⟨g, 0, none⟩) n c) rfl ?_
    simp only [Act.put, List.setIfInBounds_toArray, List.set_cons_zero, List.set_cons_succ]
    refine quiet_moveV rfl _ rfl (.int .i64 (i : Int)) rfl ?_
    simp only [Act.put, List.setIfInBounds_toArray, List.set_cons_zero, List.set_cons_succ]
    refine quiet_still rfl (.pointer (some ⟨g, i, none⟩)) (fun w _ => by go_simp) ?_
    simp only [Act.put, List.setIfInBounds_toArray, List.set_cons_zero, List.set_cons_succ]
    refine quiet_load1 rfl _ _ rfl ⟨g, i, none⟩ rfl (.int .u8 (x.toNat : Int)) (load_u8 _ _) (fun _ h => (h.cell (p := ⟨g, i, none⟩) HG.out).trans ci) ?_
    simp only [Act.put, List.setIfInBounds_toArray, List.set_cons_zero, List.set_cons_succ]
    unfold wpQuiet
    intro wy hb
    have HB := Lib.hid (hb.mono (show s ≤ w.heap.size from Nat.le_of_lt HS.out.lt))
    have hS2 := HS.out.below HS.out.lt hb
    have c0 := hS2.cl
    have c1 := hS2.fz
    have HS2 := Lib.hid (show SC (wy.setCell ⟨s, 0, none⟩ (.int .i64 ((k : Int) + 1))) s (k + 1) from by rw [show ((k : Int) + 1) = ((k + 1 : Nat) : Int) by omega]; exact hS2.set (k + 1))
    have HB2 := Lib.hid (HB.out.setCell (p := ⟨s, 0, none⟩) (Nat.le_refl s) (.int .i64 ((k : Int) + 1)))
    clear hb hS2
    go_wp2_with fail
    refine (CL.out _).mono ?_
    rintro e wz ⟨rfl, hw⟩
    obtain rfl := hw.symm
    clear hw
    go_wp2_with fail
    go_ret2
    exact ⟨j, i, k + 1, rfl, H2.out, H1.out, Nat.le_refl _, HS2.out, HB2.out⟩
  · have CL := Lib.hid (fun W => less_any y x false (by simp [hlt]) W)
    go_enter Tryz.func149, Tryz.ntmps149
    go_wp2_with fail
    refine wp_region_class (fun w' => Below w.heap.size w w') 8 (by kernel_rfl) (by kernel_rfl) (Below.refl _ w).drew ?_
    simp only [List.take_succ_cons, List.take_zero, List.drop_succ_cons, List.drop_zero]
    refine quiet_moveV rfl _ rfl (.slice (some ⟨g, 0, none⟩) n c) rfl ?_
    simp only [Act.put, List.setIfInBounds_toArray, List.set_cons_zero, List.set_cons_succ]
    refine quiet_moveV rfl _ rfl (.int .i64 (j : Int)) rfl ?_
    simp only [Act.put, List.setIfInBounds_toArray, List.set_cons_zero, List.set_cons_succ]
    refine quiet_still rfl (.pointer (some ⟨g, j, none⟩)) (fun w _ => by go_simp) ?_
    simp only [Act.put, List.setIfInBounds_toArray, List.set_cons_zero, List.set_cons_succ]
    refine quiet_load1 rfl _ _ rfl ⟨g, j, none⟩ rfl (.int .u8 (y.toNat : Int)) (load_u8 _ _) (fun _ h => (h.cell (p := ⟨g, j, none⟩) HG.out).trans cj) ?_
    simp only [Act.put, List.setIfInBounds_toArray, List.set_cons_zero, List.set_cons_succ]
    refine quiet_moveV rfl _ rfl (.slice (some ⟨g, 0, none⟩) n c) rfl ?_
    simp only [Act.put, List.setIfInBounds_toArray, List.set_cons_zero, List.set_cons_succ]
    refine quiet_moveV rfl _ rfl (.int .i64 (i : Int)) rfl ?_
    simp only [Act.put, List.setIfInBounds_toArray, List.set_cons_zero, List.set_cons_succ]
    refine quiet_still rfl (.pointer (some ⟨g, i, none⟩)) (fun w _ => by go_simp) ?_
    simp only [Act.put, List.setIfInBounds_toArray, List.set_cons_zero, List.set_cons_succ]
    refine quiet_load1 rfl _ _ rfl ⟨g, i, none⟩ rfl (.int .u8 (x.toNat : Int)) (load_u8 _ _) (fun _ h => (h.cell (p := ⟨g, i, none⟩) HG.out).trans ci) ?_
    simp only [Act.put, List.setIfInBounds_toArray, List.set_cons_zero, List.set_cons_succ]
    unfold wpQuiet
    intro wy hb
    have HB := Lib.hid (hb.mono (show s ≤ w.heap.size from Nat.le_of_lt HS.out.lt))
    have HS2 := Lib.hid (HS.out.below HS.out.lt hb)
    clear hb
    go_wp2_with fail
    refine (CL.out _).mono ?_
    rintro e wz ⟨rfl, hw⟩
    obtain rfl := hw.symm
    clear hw
    go_wp2_with fail
    go_ret2
    exact ⟨i, j, k, rfl, H1.out, H2.out, by omega, HS2.out, HB.out⟩
set_option maxHeartbeats 1000000 in
set_option maxRecDepth 100000 in
theorem median_any (R : List UInt8) (B g c n lo hi i j m s : Nat) (hs : n < 10000) (w : World) (hown : BR w B g n R) (hgs : g < s) (hS : SC w s 0) (hin : hi ≤ n) (h1 : lo ≤ i ∧ i < hi) (h2 : lo ≤ j ∧ j < hi) (h3 : lo ≤ m ∧ m < hi) :
    Calls Tryz.prog 145 #[.slice (some ⟨g, 0, none⟩) n c, .int .i64 (i : Int), .int .i64 (j : Int), .int .i64 (m : Int), .pointer (some ⟨s, 0, none⟩)] w fun e w' => ∃ p k' : Nat, e = .returned (.int .i64 (p : Int)) ∧ (lo ≤ p ∧ p < hi) ∧ k' ≤ 3 ∧ SC w' s k' ∧ Below s w w' := by
  have HO := Lib.hid hown
  have HS := Lib.hid hS
  have H3 := Lib.hid h3
  have CA := Lib.hid (order2_any R B g c n lo hi i j s 0 (by omega) (by omega) w hown hgs hS hin h1 h2)
  clear hown hS h1 h2 h3
  go_enter Tryz.func145, Tryz.ntmps145
  go_wp2_with fail
  refine CA.out.mono ?_
  rintro e w1 ⟨p1, q1', k1, rfl, hp1, hq1, hk1, hs1, hb1⟩
  have CB := Lib.hid (order2_any R B g c n lo hi q1' m s k1 (by omega) (by omega) w1 (HO.out.low hgs hb1) hgs hs1 hin hq1 H3.out)
  have HP1 := Lib.hid hp1
  have HB1 := Lib.hid hb1
  clear hp1 hq1 hs1 hb1
  go_wp2_with fail
  refine CB.out.mono ?_
  rintro e w2 ⟨p2, q2', k2, rfl, hp2, hq2, hk2, hs2, hb2⟩
  have HB2 := Lib.hid (HB1.out.trans hb2)
  have CD := Lib.hid (order2_any R B g c n lo hi p1 p2 s k2 (by omega) (by omega) w2 (HO.out.low hgs HB2.out) hgs hs2 hin HP1.out hp2)
  clear hp2 hq2 hs2 hb2
  go_wp2_with fail
  refine CD.out.mono ?_
  rintro e w3 ⟨p3, q3', k3, rfl, hp3, hq3, hk3, hs3, hb3⟩
  have HB3 := Lib.hid (HB2.out.trans hb3)
  have HS3 := Lib.hid hs3
  have HQ3 := Lib.hid hq3
  clear hp3 hq3 hs3 hb3
  go_wp2_with fail
  go_ret
  exact ⟨q3', k3, rfl, HQ3.out, by omega, HS3.out, HB3.out⟩
set_option maxHeartbeats 1000000 in
set_option maxRecDepth 100000 in
theorem pivot_any (R : List UInt8) (B g c n a b : Nat) (hs : n < 50) (w : World) (hown : BR w B g n R) (hbn : b ≤ n) (hab : a + 12 < b) :
    Calls Tryz.prog 124 #[.slice (some ⟨g, 0, none⟩) n c, .int .i64 (a : Int), .int .i64 (b : Int)] w fun e w' => ∃ p h : Nat, e = .returned (.tuple #[.int .i64 (p : Int), .int .i64 (h : Int)]) ∧ (a ≤ p ∧ p < b) ∧ h ≤ 1 ∧ Below w.heap.size w w' := by
  have hgl := hown.lt
  have CM := fun W (hW : Below w.heap.size w W) (hS : SC W w.heap.size 0) => (fun (q : Nat) (hq : a + q * 3 < b) => median_any R B g c n a b (a + q) (a + q * 2) (a + q * 3) w.heap.size (by omega) W (hown.low hgl hW) hgl hS hbn ⟨by omega, by omega⟩ ⟨by omega, by omega⟩ ⟨by omega, by omega⟩)
  push_cast at CM
  have CMH := Lib.hid CM
  clear CM
  obtain ⟨d, hd⟩ : ∃ d, d = b - a := ⟨_, rfl⟩
  obtain ⟨q, hq⟩ : ∃ q, q = d / 4 := ⟨_, rfl⟩
  have hba : IntKind.i64.wrap ((b : Int) - (a : Int)) = (d : Int) := by rw [show (b : Int) - (a : Int) = (d : Int) by omega]; exact IntWalk.i64_in _ (by omega)
  have hdq : Int.tdiv (d : Int) 4 = (q : Int) := by rw [hq]; exact (Int.tdiv_eq_ediv_of_nonneg (by omega)).trans (by omega)
  have d0 : (8 : Int) ≤ (d : Int) := by omega
  have d1 : ¬ (50 : Int) ≤ (d : Int) := by omega
  have q12 : q ≤ 12 := by omega
  have a50 : a < 50 := by omega
  have HD := Lib.hid hd
  have HQ := Lib.hid hq
  clear hd hq hown hgl
  go_enter Tryz.func124, Tryz.ntmps124
  go_wp2_with fail
  have hg := heap_alloc_new w (.cells #[.int .i64 0] 3)
  refine (CMH.out _ (below_alloc w _) ⟨?_, cell_of_row _ _ 0 _ _ _ hg, frozen_of_row _ _ 0 _ _ hg⟩ q (by have := HD.out; have := HQ.out; omega)).mono ?_
  · simp
  rintro e w1 ⟨p, k, rfl, hp, hk, hs1, hb1⟩
  have HP := Lib.hid hp
  have HB := Lib.hid ((below_alloc w _).trans hb1)
  have c0 := hs1.cl
  clear hp hb1 hs1 hg
  by_cases k0 : k = 0
  · subst k0
    go_wp2_with fail
    go_ret2
    exact ⟨p, 1, rfl, HP.out, by omega, HB.out⟩
  · have k1 : ¬ (k : Int) = 0 := by omega
    have k2 : ¬ (k : Int) = 12 := by omega
    clear k0
    go_wp2_with fail
    go_ret2
    exact ⟨p, 0, rfl, HP.out, by omega, HB.out⟩
end Go.Proofs.YtmefpaoakblndaaGreatDoor
namespace Go.Proofs.YtmefpaoakblndaaGreatDoor
open Go.RowKit
attribute [local irreducible] wpQuiet
set_option maxHeartbeats 4000000 in
set_option maxRecDepth 100000 in
theorem partial_any (R : List UInt8) (B g c n a b : Nat) (hs : n < 50) (w : World) (hown0 : BR w B g n R) (hbn : b ≤ n) (hab : a + 12 < b) :
    Calls Tryz.prog 126 #[.slice (some ⟨g, 0, none⟩) n c, .int .i64 (a : Int), .int .i64 (b : Int)] w fun e w' => ∃ r : Bool, e = .returned (.bool r) ∧ (r = true → SR (fB R) a b) ∧ Below w.heap.size w w' := by
  have HO := Lib.hid hown0
  have hRl : R.length = n := hown0.len
  have hgl := hown0.lt
  have HGw := Lib.hid (show g < w.heap.size from hgl)
  clear hown0 hgl
  have b50 : b < 50 := by omega
  have ha1 : IntKind.i64.wrap ((a : Int) + 1) = ((a + 1 : Nat) : Int) := by rw [show ((a + 1 : Nat) : Int) = (a : Int) + 1 by omega]; exact IntWalk.i64_in _ (by omega)
  have hba : ((b : Int) - (a : Int)) < 50 := by omega
  go_enter Tryz.func126, Tryz.ntmps126
  go_wp2_with fail
  go_loopw [7, 8] (fun i k wr => i = .int .i64 ((a : Int) + 1) ∧ k = .int .i64 0 ∧ wr = w) (fun _ _ _ => 0)
  case atStart => exact ⟨by first | rfl | go_num, rfl, rfl⟩
  case round =>
    obtain ⟨rfl, rfl, hwr⟩ := hrel
    obtain rfl := hwr.symm
    clear hwr
    go_wp2_with fail
    go_loopw [7] (fun iv wx => ∃ (i : Nat), iv = .int .i64 (i : Int) ∧ a + 1 ≤ i ∧ i ≤ b ∧ SR (fB R) a i ∧ Below w.heap.size w wx) (fun iv _ => b - (intOf iv).toNat)
    case atStart => exact ⟨a + 1, by go_num, Nat.le_refl _, by omega, fun p q h0 h1 h2 => by omega, Below.refl _ w⟩
    case round =>
      obtain ⟨i, rfl, hai, hib, hsr, hbx⟩ := hrel
      rename World => wx
      have HSR := Lib.hid hsr
      have hown := HO.out.below hbx
      have HG := Lib.hid (show g < wx.heap.size from hown.lt)
      have HBX := Lib.hid hbx
      clear hsr hbx
      by_cases hin : i < b
      · obtain ⟨j, hj⟩ : ∃ j, j + 1 = i := ⟨i - 1, by omega⟩
        obtain ⟨x, hx⟩ : ∃ x, R[i]? = some x := ⟨_, List.getElem?_eq_getElem (by omega)⟩
        obtain ⟨y, hy⟩ : ∃ y, R[j]? = some y := ⟨_, List.getElem?_eq_getElem (by omega)⟩
        have ci : wx.cell? ⟨g, i, none⟩ = some (.int .u8 (x.toNat : Int)) := hown.cl i _ hx
        have cj : wx.cell? ⟨g, j, none⟩ = some (.int .u8 (y.toNat : Int)) := hown.cl j _ hy
        have k0 : (i : Int) < (b : Int) := by omega
        have i0 : (0 : Int) ≤ (i : Int) := by omega
        have i1 : (i : Int) < (n : Int) := by omega
        have j1 : (0 : Int) ≤ (j : Int) := by omega
        have j2 : (j : Int) < (n : Int) := by omega
        have hwj : IntKind.i64.wrap ((i : Int) - 1) = (j : Int) := by rw [show (i : Int) - 1 = (j : Int) by omega]; exact IntWalk.i64_in _ (by omega)
        have HJ := Lib.hid (show i = j + 1 from hj.symm)
        clear hj hown
        by_cases hlt : x.toNat < y.toNat
        · have CL := Lib.hid (fun W => less_any x y true (by simp [hlt]) W)
          have ne1 : ¬ (i : Int) = (b : Int) := by omega
          go_wp2_with fail
          refine wp_region_class (fun w' => Below wx.heap.size wx w') 15 (by kernel_rfl) (by kernel_rfl) (Below.refl _ wx).drew ?_
          simp only [List.take_succ_cons, List.take_zero, List.drop_succ_cons, List.drop_zero]
          refine quiet_moveV rfl _ rfl (.int .i64 (i : Int)) rfl ?_
          simp only [Act.put, List.setIfInBounds_toArray, List.set_cons_zero, List.set_cons_succ]
          refine quiet_moveV rfl _ rfl (.int .i64 (b : Int)) rfl ?_
          simp only [Act.put, List.setIfInBounds_toArray, List.set_cons_zero, List.set_cons_succ]
          refine quiet_still rfl (.bool true) (fun w _ => by go_simp) ?_
          simp only [Act.put, List.setIfInBounds_toArray, List.set_cons_zero, List.set_cons_succ]
          refine quiet_moveV rfl _ rfl (.bool true) rfl ?_
          simp only [Act.put, List.setIfInBounds_toArray, List.set_cons_zero, List.set_cons_succ]
          refine quietW_moveV (by kernel_rfl) _ rfl (.slice (some ⟨g, 0, none⟩) n c) rfl ?_
          simp only [Act.put, List.setIfInBounds_toArray, List.set_cons_zero, List.set_cons_succ]
          refine quietW_moveV (by kernel_rfl) _ rfl (.int .i64 (i : Int)) rfl ?_
          simp only [Act.put, List.setIfInBounds_toArray, List.set_cons_zero, List.set_cons_succ]
          refine quietW_still (by kernel_rfl) (.pointer (some ⟨g, i, none⟩)) (fun w _ => by go_simp) ?_
          simp only [Act.put, List.setIfInBounds_toArray, List.set_cons_zero, List.set_cons_succ]
          refine quietW_load1 (by kernel_rfl) _ _ rfl ⟨g, i, none⟩ rfl (.int .u8 (x.toNat : Int)) (load_u8 _ _) (fun _ h => (h.cell (p := ⟨g, i, none⟩) HG.out).trans ci) ?_
          simp only [Act.put, List.setIfInBounds_toArray, List.set_cons_zero, List.set_cons_succ]
          refine quietW_moveV (by kernel_rfl) _ rfl (.slice (some ⟨g, 0, none⟩) n c) rfl ?_
          simp only [Act.put, List.setIfInBounds_toArray, List.set_cons_zero, List.set_cons_succ]
          refine quietW_moveV (by kernel_rfl) _ rfl (.int .i64 (i : Int)) rfl ?_
          simp only [Act.put, List.setIfInBounds_toArray, List.set_cons_zero, List.set_cons_succ]
          refine quietW_still (by kernel_rfl) (.int .i64 (j : Int)) (fun w _ => by first | (go_simp; done) | (go_simp; exact hwj)) ?_
          simp only [Act.put, List.setIfInBounds_toArray, List.set_cons_zero, List.set_cons_succ]
          refine quietW_still (by kernel_rfl) (.pointer (some ⟨g, j, none⟩)) (fun w _ => by go_simp) ?_
          simp only [Act.put, List.setIfInBounds_toArray, List.set_cons_zero, List.set_cons_succ]
          refine quietW_load1 (by kernel_rfl) _ _ rfl ⟨g, j, none⟩ rfl (.int .u8 (y.toNat : Int)) (load_u8 _ _) (fun _ h => (h.cell (p := ⟨g, j, none⟩) HG.out).trans cj) ?_
          simp only [Act.put, List.setIfInBounds_toArray, List.set_cons_zero, List.set_cons_succ]
          refine quietW_call (by kernel_rfl) 127 _ _ rfl (enter_of Tryz.func127 (by decide) (by intro h; cases h)) _ (fun W h => (CL.out W).mono fun e w' ⟨he, hw⟩ => ⟨he, hw ▸ h⟩) ?_
          simp only [Act.put, List.setIfInBounds_toArray, List.set_cons_zero, List.set_cons_succ]
          refine quietW_still (by kernel_rfl) (.bool false) (fun w _ => by go_simp) ?_
          simp only [Act.put, List.setIfInBounds_toArray, List.set_cons_zero, List.set_cons_succ]
          unfold wpQuiet
          intro wy hb
          have HB := Lib.hid (HBX.out.trans (hb.mono HBX.out.size))
          clear hb
          go_wp2_with fail
          go_ret
          exact ⟨false, rfl, (fun h => Bool.noConfusion h), HB.out⟩
        · have CL := Lib.hid (fun W => less_any x y false (by simp [hlt]) W)
          have HS2 := Lib.hid (show SR (fB R) a (i + 1) from fun p q h0 h1 h2 => by
            have e1 := fB_get hx
            have e2 := fB_get hy
            have e3 := HJ.out
            by_cases hq : q = i
            · by_cases hp : p = j
              · rw [hq, hp, e1, e2]; omega
              · have := HSR.out p j h0 (by omega) (by omega)
                rw [hq, e1]
                omega
            · exact HSR.out p q h0 h1 (by omega))
          go_wp2_with fail
          refine wp_region_class (fun w' => Below wx.heap.size wx w') 15 (by kernel_rfl) (by kernel_rfl) (Below.refl _ wx).drew ?_
          simp only [List.take_succ_cons, List.take_zero, List.drop_succ_cons, List.drop_zero]
          refine quiet_moveV rfl _ rfl (.int .i64 (i : Int)) rfl ?_
          simp only [Act.put, List.setIfInBounds_toArray, List.set_cons_zero, List.set_cons_succ]
          refine quiet_moveV rfl _ rfl (.int .i64 (b : Int)) rfl ?_
          simp only [Act.put, List.setIfInBounds_toArray, List.set_cons_zero, List.set_cons_succ]
          refine quiet_still rfl (.bool true) (fun w _ => by go_simp) ?_
          simp only [Act.put, List.setIfInBounds_toArray, List.set_cons_zero, List.set_cons_succ]
          refine quiet_moveV rfl _ rfl (.bool true) rfl ?_
          simp only [Act.put, List.setIfInBounds_toArray, List.set_cons_zero, List.set_cons_succ]
          refine quietW_moveV (by kernel_rfl) _ rfl (.slice (some ⟨g, 0, none⟩) n c) rfl ?_
          simp only [Act.put, List.setIfInBounds_toArray, List.set_cons_zero, List.set_cons_succ]
          refine quietW_moveV (by kernel_rfl) _ rfl (.int .i64 (i : Int)) rfl ?_
          simp only [Act.put, List.setIfInBounds_toArray, List.set_cons_zero, List.set_cons_succ]
          refine quietW_still (by kernel_rfl) (.pointer (some ⟨g, i, none⟩)) (fun w _ => by go_simp) ?_
          simp only [Act.put, List.setIfInBounds_toArray, List.set_cons_zero, List.set_cons_succ]
          refine quietW_load1 (by kernel_rfl) _ _ rfl ⟨g, i, none⟩ rfl (.int .u8 (x.toNat : Int)) (load_u8 _ _) (fun _ h => (h.cell (p := ⟨g, i, none⟩) HG.out).trans ci) ?_
          simp only [Act.put, List.setIfInBounds_toArray, List.set_cons_zero, List.set_cons_succ]
          refine quietW_moveV (by kernel_rfl) _ rfl (.slice (some ⟨g, 0, none⟩) n c) rfl ?_
          simp only [Act.put, List.setIfInBounds_toArray, List.set_cons_zero, List.set_cons_succ]
          refine quietW_moveV (by kernel_rfl) _ rfl (.int .i64 (i : Int)) rfl ?_
          simp only [Act.put, List.setIfInBounds_toArray, List.set_cons_zero, List.set_cons_succ]
          refine quietW_still (by kernel_rfl) (.int .i64 (j : Int)) (fun w _ => by first | (go_simp; done) | (go_simp; exact hwj)) ?_
          simp only [Act.put, List.setIfInBounds_toArray, List.set_cons_zero, List.set_cons_succ]
          refine quietW_still (by kernel_rfl) (.pointer (some ⟨g, j, none⟩)) (fun w _ => by go_simp) ?_
          simp only [Act.put, List.setIfInBounds_toArray, List.set_cons_zero, List.set_cons_succ]
          refine quietW_load1 (by kernel_rfl) _ _ rfl ⟨g, j, none⟩ rfl (.int .u8 (y.toNat : Int)) (load_u8 _ _) (fun _ h => (h.cell (p := ⟨g, j, none⟩) HG.out).trans cj) ?_
          simp only [Act.put, List.setIfInBounds_toArray, List.set_cons_zero, List.set_cons_succ]
          refine quietW_call (by kernel_rfl) 127 _ _ rfl (enter_of Tryz.func127 (by decide) (by intro h; cases h)) _ (fun W h => (CL.out W).mono fun e w' ⟨he, hw⟩ => ⟨he, hw ▸ h⟩) ?_
          simp only [Act.put, List.setIfInBounds_toArray, List.set_cons_zero, List.set_cons_succ]
          refine quietW_still (by kernel_rfl) (.bool true) (fun w _ => by go_simp) ?_
          simp only [Act.put, List.setIfInBounds_toArray, List.set_cons_zero, List.set_cons_succ]
          unfold wpQuiet
          intro wy hb
          have HB := Lib.hid (HBX.out.trans (hb.mono HBX.out.size))
          clear hb ci cj
          go_wp2_with fail
          go_roundw
          case rel => exact ⟨i + 1, by go_num, by omega, by omega, HS2.out, HB.out⟩
          case measure => (simp [intOf] <;> omega)
      · have k0 : ¬ (i : Int) < (b : Int) := by omega
        obtain rfl : i = b := by omega
        clear hown
        go_wp2_with fail
        refine wp_region_class (fun w' => Below wx.heap.size wx w') 15 (by kernel_rfl) (by kernel_rfl) (Below.refl _ wx).drew ?_
        simp only [List.take_succ_cons, List.take_zero, List.drop_succ_cons, List.drop_zero]
        refine quiet_moveV rfl _ rfl (.int .i64 (i : Int)) rfl ?_
        simp only [Act.put, List.setIfInBounds_toArray, List.set_cons_zero, List.set_cons_succ]
        refine quiet_moveV rfl _ rfl (.int .i64 (i : Int)) rfl ?_
        simp only [Act.put, List.setIfInBounds_toArray, List.set_cons_zero, List.set_cons_succ]
        refine quiet_still rfl (.bool false) (fun w _ => by go_simp) ?_
        simp only [Act.put, List.setIfInBounds_toArray, List.set_cons_zero, List.set_cons_succ]
        refine quiet_moveV rfl _ rfl (.bool false) rfl ?_
        simp only [Act.put, List.setIfInBounds_toArray, List.set_cons_zero, List.set_cons_succ]
        refine quiet_skip (by kernel_rfl) ?_
        simp only [Act.put, List.setIfInBounds_toArray, List.set_cons_zero, List.set_cons_succ]
        refine quiet_skip (by kernel_rfl) ?_
        simp only [Act.put, List.setIfInBounds_toArray, List.set_cons_zero, List.set_cons_succ]
        refine quiet_skip (by kernel_rfl) ?_
        simp only [Act.put, List.setIfInBounds_toArray, List.set_cons_zero, List.set_cons_succ]
        refine quiet_skip (by kernel_rfl) ?_
        simp only [Act.put, List.setIfInBounds_toArray, List.set_cons_zero, List.set_cons_succ]
        refine quiet_skip (by kernel_rfl) ?_
        simp only [Act.put, List.setIfInBounds_toArray, List.set_cons_zero, List.set_cons_succ]
        refine quiet_skip (by kernel_rfl) ?_
        simp only [Act.put, List.setIfInBounds_toArray, List.set_cons_zero, List.set_cons_succ]
        refine quiet_skip (by kernel_rfl) ?_
        simp only [Act.put, List.setIfInBounds_toArray, List.set_cons_zero, List.set_cons_succ]
        refine quiet_skip (by kernel_rfl) ?_
        simp only [Act.put, List.setIfInBounds_toArray, List.set_cons_zero, List.set_cons_succ]
        refine quiet_skip (by kernel_rfl) ?_
        simp only [Act.put, List.setIfInBounds_toArray, List.set_cons_zero, List.set_cons_succ]
        refine quiet_skip (by kernel_rfl) ?_
        simp only [Act.put, List.setIfInBounds_toArray, List.set_cons_zero, List.set_cons_succ]
        refine quiet_skip (by kernel_rfl) ?_
        simp only [Act.put, List.setIfInBounds_toArray, List.set_cons_zero, List.set_cons_succ]
        unfold wpQuiet
        intro wy hb
        have HB := Lib.hid (HBX.out.trans (hb.mono HBX.out.size))
        clear hb
        go_wp2_with fail
        go_ret
        exact ⟨true, rfl, (fun _ => HSR.out), HB.out⟩
end Go.Proofs.YtmefpaoakblndaaGreatDoor
namespace Go.Proofs.YtmefpaoakblndaaGreatDoor
open Go.RowKit
theorem u64_nat (x : Int) : ∃ m : Nat, IntKind.u64.wrap x = (m : Int) ∧ m < 2 ^ 64 := by
  refine ⟨(IntKind.u64.wrap x).toNat, ?_, ?_⟩
  · unfold IntKind.wrap; simp [IntKind.signed, IntKind.bits]; omega
  · unfold IntKind.wrap; simp [IntKind.signed, IntKind.bits]; omega
theorem and_lt (v k : Nat) (hv : v < 2 ^ 64) (hk : k < 2 ^ 64) : ∃ o : Nat, bits .and .u64 (v : Int) (k : Int) = (o : Int) ∧ o ≤ k := by
  refine ⟨v &&& k, ?_, Nat.and_le_right⟩
  show IntKind.u64.wrap (((BitVec.ofInt 64 (v : Int) &&& BitVec.ofInt 64 (k : Int)).toNat : Nat) : Int) = _
  rw [BitVec.ofInt_natCast, BitVec.ofInt_natCast, BitVec.toNat_and, BitVec.toNat_ofNat, BitVec.toNat_ofNat, Nat.mod_eq_of_lt hv, Nat.mod_eq_of_lt hk]
  have := Nat.and_lt_two_pow v hk
  unfold IntKind.wrap; simp [IntKind.signed, IntKind.bits]; omega
/-- Block s holds a number of 64 bits. -/
structure XC (w : World) (s : Nat) (v : Nat) : Prop where
  lt : s < w.heap.size
  cl : w.cell? ⟨s, 0, none⟩ = some (.int .u64 (v : Int))
  fz : w.frozen? ⟨s, 0, none⟩ = false
  sm : v < 2 ^ 64
theorem XC.drew {w : World} {s v : Nat} (h : XC w s v) : XC w.drew s v := ⟨h.lt, h.cl, h.fz, h.sm⟩
theorem XC.other {w : World} {s v g : Nat} (h : XC w s v) (hg : g < s) (j : Nat) (u : Value) : XC (w.setCell ⟨g, j, none⟩ u) s v :=
  ⟨by simpa using h.lt, (World.cell?_setCell_other _ _ _ _ (by intro e; cases e; omega)).trans h.cl, (World.frozen?_setCells g [u] j w ⟨s, 0, none⟩).trans h.fz, h.sm⟩
theorem XC.set {w : World} {s v : Nat} (h : XC w s v) (v2 : Nat) (hv : v2 < 2 ^ 64) : XC (w.setCell ⟨s, 0, none⟩ (.int .u64 (v2 : Int))).drew s v2 := by
  refine ⟨by simpa using h.lt, ?_, (World.frozen?_setCells s [.int .u64 (v2 : Int)] 0 w ⟨s, 0, none⟩).trans h.fz, hv⟩
  have h0 := h.cl
  rw [World.cell?_drew]
  first | exact World.cell?_setCell_same _ h0 | exact World.cell?_setCell_same _ _ h0 | exact World.cell?_setCell_same _ _ _ h0
theorem XC.below {w w' : World} {s v m : Nat} (h : XC w s v) (hm : s < m) (hb : Below m w w') : XC w' s v :=
  ⟨Nat.lt_of_lt_of_le h.lt hb.size, (hb.cell (p := ⟨s, 0, none⟩) hm).trans h.cl, (hb.frozen (p := ⟨s, 0, none⟩) hm).trans h.fz, h.sm⟩
theorem xor_nat (x y : Int) : ∃ m : Nat, bits .xor .u64 x y = (m : Int) ∧ m < 2 ^ 64 := u64_nat _
set_option maxHeartbeats 1000000 in
theorem npow_any (d k m : Nat) (hd : Lib.bitLen d = k) (h : k = 4 ∧ m = 16 ∨ k = 5 ∧ m = 32) (h16 : d ≤ 16) (w : World) :
    Calls Tryz.prog 142 #[.int .i64 (d : Int)] w fun e w' => e = .returned (.int .u64 (m : Int)) ∧ w' = w := by
  have CL := Lib.hid (fun W => Tryz.bits_Len (d : Int) W (by omega) (by omega))
  have HD := Lib.hid hd
  have hwn : IntKind.u64.wrap (d : Int) = (d : Int) := by unfold IntKind.wrap; simp [IntKind.signed, IntKind.bits]; omega
  clear hd
  go_enter Tryz.func142, Tryz.ntmps142
  go_wp2_with fail
  refine (CL.out _).mono ?_
  rw [Int.toNat_natCast, HD.out]
  rcases h with ⟨rfl, rfl⟩ | ⟨rfl, rfl⟩
  all_goals
    rintro e w1 ⟨rfl, hw⟩
    obtain rfl := hw.symm
    clear hw
    go_wp2_with fail
    go_ret
    exact ⟨by first | rfl | simp, rfl⟩
set_option maxHeartbeats 4000000 in
set_option maxRecDepth 100000 in
theorem next_any (s v : Nat) (w : World) (h : XC w s v) :
    Calls Tryz.prog 143 #[.pointer (some ⟨s, 0, none⟩)] w fun e w' => ∃ v2 : Nat, e = .returned (.int .u64 (v2 : Int)) ∧ XC w' s v2 ∧ Below s w w' := by
  have c0 := h.cl
  have f0 := h.fz
  have HS := Lib.hid h
  clear h
  go_enter Tryz.func143, Tryz.ntmps143
  go_wp2_with fail
  go_region
  obtain ⟨v1, e0, l0⟩ := xor_nat (v : Int) (IntKind.u64.wrap ((v : Int) * 8192))
  rw [e0]
  have X := HS.out.set v1 l0
  have B := ((Below.refl s w).setCell (p := ⟨s, 0, none⟩) (Nat.le_refl s) (.int .u64 (v1 : Int))).drew
  clear e0 l0 c0 f0
  generalize (w.setCell ⟨s, 0, none⟩ (.int .u64 (v1 : Int))).drew = u1 at X B ⊢
  have c0 := X.cl
  have f0 := X.fz
  have HX1 := Lib.hid X
  have HB1 := Lib.hid B
  clear X B
  go_wp2_with fail
  go_region
  obtain ⟨v2, e1, l1⟩ := xor_nat (v1 : Int) ((v1 : Int) / 128)
  rw [e1]
  have X := HX1.out.set v2 l1
  have B := (HB1.out.setCell (p := ⟨s, 0, none⟩) (Nat.le_refl s) (.int .u64 (v2 : Int))).drew
  clear e1 l1 c0 f0
  generalize (u1.setCell ⟨s, 0, none⟩ (.int .u64 (v2 : Int))).drew = u2 at X B ⊢
  have c0 := X.cl
  have f0 := X.fz
  have HX2 := Lib.hid X
  have HB2 := Lib.hid B
  clear X B
  go_wp2_with fail
  go_region
  obtain ⟨v3, e2, l2⟩ := xor_nat (v2 : Int) (IntKind.u64.wrap ((v2 : Int) * 131072))
  rw [e2]
  have X := HX2.out.set v3 l2
  have B := (HB2.out.setCell (p := ⟨s, 0, none⟩) (Nat.le_refl s) (.int .u64 (v3 : Int))).drew
  clear e2 l2 c0 f0
  generalize (u2.setCell ⟨s, 0, none⟩ (.int .u64 (v3 : Int))).drew = u3 at X B ⊢
  have c0 := X.cl
  have f0 := X.fz
  have HX3 := Lib.hid X
  have HB3 := Lib.hid B
  clear X B
  go_wp2_with fail
  go_ret
  exact ⟨v3, rfl, HX3.out, HB3.out⟩
set_option maxHeartbeats 4000000 in
set_option maxRecDepth 100000 in
theorem break_any (l : List UInt8) (B g c n a b : Nat) (hs : n ≤ 16) (w : World) (hown0 : BR w B g n l) (hbn : b ≤ n) (hab : a + 12 < b) :
    Calls Tryz.prog 123 #[.slice (some ⟨g, 0, none⟩) n c, .int .i64 (a : Int), .int .i64 (b : Int)] w fun e w' => ∃ R, e = .returned (.tuple #[]) ∧ BR w' B g n R ∧ Sw a b l R ∧ Below B w w' := by
  have HO := Lib.hid hown0
  have hBg : B ≤ g := hown0.le
  have HGS := Lib.hid (show g < w.heap.size from hown0.lt)
  have hBs := hown0.lt
  clear hown0
  obtain ⟨d, hd⟩ : ∃ d, d = b - a := ⟨_, rfl⟩
  obtain ⟨q, hq⟩ : ∃ q, q = d / 4 := ⟨_, rfl⟩
  obtain ⟨k, m, hk, hkm, hdm, hm32⟩ : ∃ k m, Lib.bitLen d = k ∧ (k = 4 ∧ m = 16 ∨ k = 5 ∧ m = 32) ∧ m ≤ d + d ∧ 1 ≤ m ∧ m ≤ 32 := by
    have : d = 13 ∨ d = 14 ∨ d = 15 ∨ d = 16 := by omega
    rcases this with rfl | rfl | rfl | rfl
    · exact ⟨4, 16, by decide +kernel, .inl ⟨rfl, rfl⟩, by omega, by omega, by omega⟩
    · exact ⟨4, 16, by decide +kernel, .inl ⟨rfl, rfl⟩, by omega, by omega, by omega⟩
    · exact ⟨4, 16, by decide +kernel, .inl ⟨rfl, rfl⟩, by omega, by omega, by omega⟩
    · exact ⟨5, 32, by decide +kernel, .inr ⟨rfl, rfl⟩, by omega, by omega, by omega⟩
  have hba : IntKind.i64.wrap ((b : Int) - (a : Int)) = (d : Int) := by rw [show (b : Int) - (a : Int) = (d : Int) by omega]; exact IntWalk.i64_in _ (by omega)
  have hdq : Int.tdiv (d : Int) 4 = (q : Int) := by rw [hq]; exact (Int.tdiv_eq_ediv_of_nonneg (by omega)).trans (by omega)
  have hwd : IntKind.u64.wrap (d : Int) = (d : Int) := by unfold IntKind.wrap; simp [IntKind.signed, IntKind.bits]; omega
  have hwm : IntKind.u64.wrap ((m : Int) - 1) = ((m - 1 : Nat) : Int) := by rw [show ((m - 1 : Nat) : Int) = (m : Int) - 1 by omega]; unfold IntKind.wrap; simp [IntKind.signed, IntKind.bits]; omega
  have d0 : (8 : Int) ≤ (d : Int) := by omega
  have d13 : 13 ≤ d := by omega
  have d16 : d ≤ 16 := by omega
  have q3 : 3 ≤ q := by omega
  have q12 : q ≤ 4 := by omega
  have hqb : a + q * 2 + 2 < b := by omega
  have a50 : a < 4 := by omega
  have b16 : b ≤ 16 := by omega
  have HD := Lib.hid hd
  have HQ := Lib.hid hq
  have CP := Lib.hid (fun W => npow_any d k m hk hkm (by omega) W)
  clear hd hq hk hkm
  go_enter Tryz.func123, Tryz.ntmps123
  go_wp2_with fail
  refine (CP.out _).mono ?_
  rintro e w0 ⟨rfl, hw⟩
  have hX0 : XC w0 w.heap.size d := by
    rw [hw]
    have hg := heap_alloc_new w (.cells #[.int .u64 (d : Int)] 151)
    exact ⟨by simp, cell_of_row _ _ 0 _ _ _ hg, frozen_of_row _ _ 0 _ _ hg, by omega⟩
  have HX0 := Lib.hid hX0
  have HBw := Lib.hid (show Below w.heap.size w w0 by rw [hw]; exact below_alloc w _)
  clear hw hX0
  go_wp2_with fail
  go_loopw [9] (fun iv wx => ∃ (i : Nat) (R : List UInt8) (v : Nat), iv = .int .i64 (i : Int) ∧ a + 1 ≤ i ∧ i ≤ a + q * 2 + 2 ∧ Sw a b l R ∧ BR wx B g n R ∧ XC wx w.heap.size v ∧ Below B w wx) (fun iv _ => 100 - (intOf iv).toNat)
  case atStart => exact ⟨a + q * 2 - 1, l, d, by rw [show ((a + q * 2 - 1 : Nat) : Int) = (a : Int) + (q : Int) * 2 - 1 by omega], by omega, by omega, .refl, HO.out.below HBw.out, HX0.out, HBw.out.mono (by omega)⟩
  case round =>
    obtain ⟨i, R2, v, rfl, hai, hib, hp, hown, hX, hb⟩ := hrel
    rename World => wx
    have HP := Lib.hid hp
    have hRl : R2.length = n := hown.len
    by_cases hlast : i ≤ a + q * 2 + 1
    · have k0 : (i : Int) ≤ (a : Int) + (q : Int) * 2 + 1 := by omega
      have CN := Lib.hid (next_any w.heap.size v wx hX)
      have HO2 := Lib.hid hown
      have HB := Lib.hid hb
      clear hp hown hX hb
      go_wp2_with fail
      refine CN.out.mono ?_
      rintro e w1 ⟨v2, rfl, hX1, hb1⟩
      obtain ⟨o, ho, hom⟩ := and_lt v2 (m - 1) hX1.sm (by omega)
      have HO1 := Lib.hid (HO2.out.low HGS.out hb1)
      have HB1 := Lib.hid (HB.out.trans (hb1.mono (by omega)))
      have HX1 := Lib.hid hX1
      have hin : i < n := by omega
      have o32 : o ≤ 32 := by omega
      clear hX1 hb1
      by_cases hod : d ≤ o
      · have k1 : (d : Int) ≤ (o : Int) := by omega
        obtain ⟨o2, ho2⟩ : ∃ o2, o2 + d = o := ⟨o - d, by omega⟩
        have hsub : IntKind.i64.wrap ((o : Int) - (d : Int)) = (o2 : Int) := by rw [show (o : Int) - (d : Int) = (o2 : Int) by omega]; exact IntWalk.i64_in _ (by omega)
        have ob : a + o2 < b := by have := HD.out; omega
        clear ho2
        have hon : a + o2 < n := by omega
        obtain ⟨x, hx⟩ : ∃ x, R2[i]? = some x := ⟨_, List.getElem?_eq_getElem (by omega)⟩
        obtain ⟨y, hy⟩ : ∃ y, R2[a + o2]? = some y := ⟨_, List.getElem?_eq_getElem (by omega)⟩
        obtain ⟨j, hj⟩ : ∃ j, j = a + o2 := ⟨_, rfl⟩
        have hjc : (a : Int) + (o2 : Int) = (j : Int) := by omega
        rw [← hj] at hy hon
        have hown1 := HO1.out
        have ci : w1.cell? ⟨g, i, none⟩ = some (.int .u8 (x.toNat : Int)) := hown1.cl i _ hx
        have cj : w1.cell? ⟨g, j, none⟩ = some (.int .u8 (y.toNat : Int)) := hown1.cl j _ hy
        have f0 := hown1.fz i hin
        have f1 := hown1.fz j hon
        have i0 : (0 : Int) ≤ (i : Int) := by omega
        have i1 : (i : Int) < (n : Int) := by omega
        have j1 : (0 : Int) ≤ (j : Int) := by omega
        have j2 : (j : Int) < (n : Int) := by omega
        have hs2 := (hown1.set hin y).set (j := j) hon x
        have Hs2 := Lib.hid hs2.drew
        have HP2 := Lib.hid (show Sw a b l ((R2.set i y).set j x) from HP.out.step hx hy (by omega) (by omega) (by omega) (by omega))
        have HX2 := Lib.hid (show XC ((w1.setCell ⟨g, i, none⟩ (.int .u8 (y.toNat : Int))).setCell ⟨g, j, none⟩ (.int .u8 (x.toNat : Int))).drew w.heap.size v2 from (HX1.out.other HGS.out i _).other HGS.out j _ |>.drew)
        have Hbw2 := Lib.hid (((HB1.out.setCell (p := ⟨g, i, none⟩) hBg (.int .u8 (y.toNat : Int))).setCell (p := ⟨g, j, none⟩) hBg (.int .u8 (x.toNat : Int))).drew)
        clear hs2 hown1 hj
        by_cases hne : i = j
        · subst hne
          obtain rfl : x = y := Option.some.inj (hx.symm.trans hy)
          go_wp2_with fail
          go_region
          go_wp2_with fail
          go_roundw
          case rel => exact ⟨i + 1, _, v2, by go_num, by omega, by omega, HP2.out, Hs2.out, HX2.out, Hbw2.out⟩
          case measure => (simp [intOf] <;> omega)
        · go_wp2_with fail
          go_region
          go_wp2_with fail
          go_roundw
          case rel => exact ⟨i + 1, (R2.set i y).set j x, v2, by go_num, by omega, by omega, HP2.out, Hs2.out, HX2.out, Hbw2.out⟩
          case measure => (simp [intOf] <;> omega)
      · have k1 : ¬ (d : Int) ≤ (o : Int) := by omega
        obtain ⟨o2, ho2⟩ : ∃ o2, o2 = o := ⟨_, rfl⟩
        have ob : a + o2 < b := by have := HD.out; omega
        rw [← ho2] at k1 ho hom o32
        clear ho2 hod
        have hon : a + o2 < n := by omega
        obtain ⟨x, hx⟩ : ∃ x, R2[i]? = some x := ⟨_, List.getElem?_eq_getElem (by omega)⟩
        obtain ⟨y, hy⟩ : ∃ y, R2[a + o2]? = some y := ⟨_, List.getElem?_eq_getElem (by omega)⟩
        obtain ⟨j, hj⟩ : ∃ j, j = a + o2 := ⟨_, rfl⟩
        have hjc : (a : Int) + (o2 : Int) = (j : Int) := by omega
        rw [← hj] at hy hon
        have hown1 := HO1.out
        have ci : w1.cell? ⟨g, i, none⟩ = some (.int .u8 (x.toNat : Int)) := hown1.cl i _ hx
        have cj : w1.cell? ⟨g, j, none⟩ = some (.int .u8 (y.toNat : Int)) := hown1.cl j _ hy
        have f0 := hown1.fz i hin
        have f1 := hown1.fz j hon
        have i0 : (0 : Int) ≤ (i : Int) := by omega
        have i1 : (i : Int) < (n : Int) := by omega
        have j1 : (0 : Int) ≤ (j : Int) := by omega
        have j2 : (j : Int) < (n : Int) := by omega
        have hs2 := (hown1.set hin y).set (j := j) hon x
        have Hs2 := Lib.hid hs2.drew
        have HP2 := Lib.hid (show Sw a b l ((R2.set i y).set j x) from HP.out.step hx hy (by omega) (by omega) (by omega) (by omega))
        have HX2 := Lib.hid (show XC ((w1.setCell ⟨g, i, none⟩ (.int .u8 (y.toNat : Int))).setCell ⟨g, j, none⟩ (.int .u8 (x.toNat : Int))).drew w.heap.size v2 from (HX1.out.other HGS.out i _).other HGS.out j _ |>.drew)
        have Hbw2 := Lib.hid (((HB1.out.setCell (p := ⟨g, i, none⟩) hBg (.int .u8 (y.toNat : Int))).setCell (p := ⟨g, j, none⟩) hBg (.int .u8 (x.toNat : Int))).drew)
        clear hs2 hown1 hj
        by_cases hne : i = j
        · subst hne
          obtain rfl : x = y := Option.some.inj (hx.symm.trans hy)
          go_wp2_with fail
          go_region
          go_wp2_with fail
          go_roundw
          case rel => exact ⟨i + 1, _, v2, by go_num, by omega, by omega, HP2.out, Hs2.out, HX2.out, Hbw2.out⟩
          case measure => (simp [intOf] <;> omega)
        · go_wp2_with fail
          go_region
          go_wp2_with fail
          go_roundw
          case rel => exact ⟨i + 1, (R2.set i y).set j x, v2, by go_num, by omega, by omega, HP2.out, Hs2.out, HX2.out, Hbw2.out⟩
          case measure => (simp [intOf] <;> omega)
    · have k0 : ¬ (i : Int) ≤ (a : Int) + (q : Int) * 2 + 1 := by omega
      have HO2 := Lib.hid hown
      clear hp hown hX
      go_wp2_with fail
      go_end0
      exact ⟨rfl, R2, HO2.out, HP.out, hb⟩
end Go.Proofs.YtmefpaoakblndaaGreatDoor
namespace Go.Proofs.YtmefpaoakblndaaGreatDoor
open Go.RowKit
/-- From a to b all is in order, but for pairs within a1 to b1. -/
def OD (f : Nat → Nat) (a b a1 b1 : Nat) : Prop := ∀ p q, a ≤ p → p < q → q < b → ¬ (a1 ≤ p ∧ q < b1) → f p ≤ f q
/-- What lies ahead of a1 is not above what lies within a1 to b1. -/
def LE1 (f : Nat → Nat) (a1 b1 : Nat) : Prop := a1 = 0 ∨ ∀ p, a1 ≤ p → p < b1 → f (a1 - 1) ≤ f p
theorem OD.start (f : Nat → Nat) (a b : Nat) : OD f a b a b := fun _ _ h1 _ h3 h4 => absurd ⟨h1, h3⟩ h4
theorem OD.sw {R R2 : List UInt8} {a b a1 b1 : Nat} (h : OD (fB R) a b a1 b1) (ha : a ≤ a1) (hb : b1 ≤ b) (hs : Sw a1 b1 R R2) : OD (fB R2) a b a1 b1 := by
  intro p q h1 h2 h3 h4
  by_cases hp : a1 ≤ p ∧ p < b1
  · have hq : b1 ≤ q := by
      by_cases e : b1 ≤ q
      · exact e
      · exact absurd ⟨hp.1, by omega⟩ h4
    rw [hs.out q (.inr hq)]
    exact hs.all (fun u => u ≤ fB R q) (fun p' k1 k2 => h p' q (by omega) (by omega) h3 (by omega)) p hp.1 hp.2
  · rw [hs.out p (by omega)]
    by_cases hq : a1 ≤ q ∧ q < b1
    · exact hs.all (fun u => fB R p ≤ u) (fun q' k1 k2 => h p q' h1 (by omega) (by omega) (by omega)) q hq.1 hq.2
    · rw [hs.out q (by omega)]
      exact h p q h1 h2 h3 h4
theorem OD.sub {f : Nat → Nat} {a b a1 b1 a2 b2 : Nat} (h : OD f a b a1 b1) (hin : ∀ p q, a1 ≤ p → p < q → q < b1 → ¬ (a2 ≤ p ∧ q < b2) → f p ≤ f q) : OD f a b a2 b2 := by
  intro p q h1 h2 h3 h4
  by_cases e : a1 ≤ p ∧ q < b1
  · exact hin p q e.1 h2 e.2 h4
  · exact h p q h1 h2 h3 e
theorem OD.full {f : Nat → Nat} {a b a1 b1 : Nat} (h : OD f a b a1 b1) (hs : SR f a1 b1) : SR f a b := fun p q h1 h2 h3 => by
  by_cases e : a1 ≤ p ∧ q < b1
  · exact hs p q e.1 h2 e.2
  · exact h p q h1 h2 h3 e
theorem LE1.sw {R R2 : List UInt8} {a1 b1 : Nat} (h : LE1 (fB R) a1 b1) (hs : Sw a1 b1 R R2) : LE1 (fB R2) a1 b1 := by
  rcases h with h | h
  · exact .inl h
  · by_cases e : a1 = 0
    · exact .inl e
    · refine .inr fun p k1 k2 => ?_
      rw [hs.out (a1 - 1) (.inl (by omega))]
      exact hs.all (fun u => fB R (a1 - 1) ≤ u) h p k1 k2
/-- After a part equal to the pivot. -/
theorem OD.equal {R R2 : List UInt8} {a b a1 b1 m P : Nat} (h : OD (fB R) a b a1 b1) (ha : a ≤ a1) (hb : b1 ≤ b) (h1 : 0 < a1) (hl : LE1 (fB R) a1 b1) (hs : Sw a1 b1 R R2) (hP : ¬ fB R (a1 - 1) < P) (hm : a1 < m)
    (hlo : ∀ p, a1 ≤ p → p < m → fB R2 p ≤ P) (hhi : ∀ p, m ≤ p → p < b1 → P < fB R2 p) : OD (fB R2) a b m b1 ∧ LE1 (fB R2) m b1 := by
  have hl2 := (hl.sw hs).resolve_left (by omega)
  rw [hs.out (a1 - 1) (.inl (by omega))] at hl2
  refine ⟨(h.sw ha hb hs).sub fun p q k1 k2 k3 k4 => ?_, .inr fun p k1 k2 => ?_⟩
  · have hp : p < m := by
      by_cases e : p < m
      · exact e
      · exact absurd ⟨by omega, k3⟩ k4
    have e1 := hlo p k1 hp
    have e2 := hl2 q (by omega) k3
    omega
  · have e1 := hlo (m - 1) (by omega) (by omega)
    have e2 := hhi p k1 k2
    omega
/-- After the parts about m, the left one sorted. -/
theorem OD.left {R R2 R3 : List UInt8} {a b a1 b1 m : Nat} (h : OD (fB R) a b a1 b1) (ha : a ≤ a1) (hb : b1 ≤ b) (hs : Sw a1 b1 R R2) (hm : a1 ≤ m ∧ m < b1)
    (hlo : ∀ p, a1 ≤ p → p < m → fB R2 p ≤ fB R2 m) (hhi : ∀ p, m < p → p < b1 → fB R2 m ≤ fB R2 p) (h3 : Sw a1 m R2 R3) (hs3 : SR (fB R3) a1 m) : OD (fB R3) a b (m + 1) b1 ∧ LE1 (fB R3) (m + 1) b1 := by
  have hmm := h3.out m (.inr (Nat.le_refl _))
  have hlo3 := h3.all (fun u => u ≤ fB R2 m) hlo
  have hhi3 : ∀ p, m < p → p < b1 → fB R2 m ≤ fB R3 p := fun p k1 k2 => by rw [h3.out p (.inr (by omega))]; exact hhi p k1 k2
  refine ⟨(h.sw ha hb (hs.trans (h3.mono (Nat.le_refl _) (by omega)))).sub fun p q k1 k2 k3 k4 => ?_, .inr fun p k1 k2 => ?_⟩
  · have hp : p ≤ m := by
      by_cases e : p ≤ m
      · exact e
      · exact absurd ⟨by omega, k3⟩ k4
    by_cases e1 : q < m
    · exact hs3 p q k1 k2 e1
    · by_cases e2 : p = m
      · rw [e2, hmm]; exact hhi3 q (by omega) k3
      · have e3 := hlo3 p k1 (by omega)
        by_cases e4 : q = m
        · rw [e4, hmm]; exact e3
        · have := hhi3 q (by omega) k3
          omega
  · rw [show m + 1 - 1 = m by omega, hmm]
    exact hhi3 p (by omega) k2
/-- After the parts about m, the right one sorted. -/
theorem OD.right {R R2 R3 : List UInt8} {a b a1 b1 m : Nat} (h : OD (fB R) a b a1 b1) (ha : a ≤ a1) (hb : b1 ≤ b) (hl : LE1 (fB R) a1 b1) (hs : Sw a1 b1 R R2) (hm : a1 ≤ m ∧ m < b1)
    (hlo : ∀ p, a1 ≤ p → p < m → fB R2 p ≤ fB R2 m) (hhi : ∀ p, m < p → p < b1 → fB R2 m ≤ fB R2 p) (h3 : Sw (m + 1) b1 R2 R3) (hs3 : SR (fB R3) (m + 1) b1) : OD (fB R3) a b a1 m ∧ LE1 (fB R3) a1 m := by
  have hmm := h3.out m (.inl (by omega))
  have hlo3 : ∀ p, a1 ≤ p → p < m → fB R3 p ≤ fB R2 m := fun p k1 k2 => by rw [h3.out p (.inl (by omega))]; exact hlo p k1 k2
  have hhi3 := h3.all (fun u => fB R2 m ≤ u) (fun p k1 k2 => hhi p (by omega) k2)
  have hsw := hs.trans (h3.mono (by omega) (Nat.le_refl _))
  refine ⟨(h.sw ha hb hsw).sub fun p q k1 k2 k3 k4 => ?_, ?_⟩
  · have hq : m ≤ q := by
      by_cases e : m ≤ q
      · exact e
      · exact absurd ⟨k1, by omega⟩ k4
    by_cases e1 : m < p
    · exact hs3 p q (by omega) k2 k3
    · by_cases e2 : p = m
      · rw [e2, hmm]; exact hhi3 q (by omega) k3
      · have e3 := hlo3 p k1 (by omega)
        by_cases e4 : q = m
        · rw [e4, hmm]; exact e3
        · have := hhi3 q (by omega) k3
          omega
  · rcases hl.sw hsw with e | e
    · exact .inl e
    · exact .inr fun p k1 k2 => e p k1 (by omega)
end Go.Proofs.YtmefpaoakblndaaGreatDoor
