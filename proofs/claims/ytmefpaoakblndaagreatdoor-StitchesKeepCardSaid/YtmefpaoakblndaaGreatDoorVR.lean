/- slices.Sort of at most twelve bytes. -/
import Derived.Test.YtmefpaoakblndaaGreatDoorVH
import Derived.Test.YtmefpaoakblndaaGreatDoorShelf
namespace Go.Proofs.YtmefpaoakblndaaGreatDoor
open Go.RowKit
theorem load_u8 (ad : Addr) (v : Value) (w : World) (h : w.cell? ad = some v) : (Instr.loadAt 5 (.pointer (some ad))).run Tryz.prog w = .ok v w := by
  simp [Instr.loadAt, Instr.sureAddr, loadVar, go_sem, Tryz.isAgg5, h]
/-- The first n bytes of block g are these, and may be written. -/
structure BR (w : World) (B g n : Nat) (R : List UInt8) : Prop where
  len : R.length = n
  le : B ≤ g
  lt : g < w.heap.size
  cl : ∀ p x, R[p]? = some x → w.cell? ⟨g, p, none⟩ = some (.int .u8 (x.toNat : Int))
  fz : ∀ p, p < n → w.frozen? ⟨g, p, none⟩ = false
theorem BR.below {w w' : World} {B g n : Nat} {R : List UInt8} (h : BR w B g n R) (hb : Below w.heap.size w w') : BR w' B g n R :=
  ⟨h.len, h.le, Nat.lt_of_lt_of_le h.lt hb.size, fun p x hx => (hb.cell (p := ⟨g, p, none⟩) h.lt).trans (h.cl p x hx), fun p hp => (hb.frozen (p := ⟨g, p, none⟩) h.lt).trans (h.fz p hp)⟩
theorem BR.set {w : World} {B g n j : Nat} {R : List UInt8} (h : BR w B g n R) (hj : j < n) (y : UInt8) : BR (w.setCell ⟨g, j, none⟩ (.int .u8 (y.toNat : Int))) B g n (R.set j y) := by
  refine ⟨by rw [List.length_set]; exact h.len, h.le, by simpa using h.lt, fun p x hx => ?_, fun p hp => (World.frozen?_setCells g [.int .u8 (y.toNat : Int)] j w ⟨g, p, none⟩).trans (h.fz p hp)⟩
  rw [List.getElem?_set] at hx
  by_cases e : j = p
  · subst e
    rw [if_pos rfl, if_pos (by rw [h.len]; exact hj)] at hx
    obtain rfl := Option.some.inj hx
    have h0 := h.cl j _ (List.getElem?_eq_getElem (by rw [h.len]; exact hj))
    first | exact World.cell?_setCell_same _ h0 | exact World.cell?_setCell_same _ _ h0 | exact World.cell?_setCell_same _ _ _ h0
  · rw [if_neg e] at hx
    rw [cell_set_ne (fun e2 => e e2.symm)]
    exact h.cl p x hx
theorem BR.drew {w : World} {B g n : Nat} {R : List UInt8} (h : BR w B g n R) : BR w.drew B g n R := h.below (Below.refl _ w).drew
def fB (R : List UInt8) (p : Nat) : Nat := (R.getD p 0).toNat
theorem fB_get {R : List UInt8} {p : Nat} {x : UInt8} (h : R[p]? = some x) : fB R p = x.toNat := by
  unfold fB; rw [List.getD_eq_getElem?_getD, h]; rfl
theorem fB_set {R : List UInt8} {i j : Nat} {x y : UInt8} (hi : R[i]? = some y) (hj : R[j]? = some x) (hij : i ≠ j) (p : Nat) : fB ((R.set j y).set i x) p = if p = j then fB R i else if p = i then fB R j else fB R p := by
  have h1 := (List.getElem?_eq_some_iff.1 hi).1
  have h2 := (List.getElem?_eq_some_iff.1 hj).1
  unfold fB
  simp only [List.getD_eq_getElem?_getD]
  rw [List.getElem?_set, List.length_set, List.getElem?_set, hi, hj]
  by_cases e1 : p = j
  · subst e1
    rw [if_neg hij, if_pos rfl, if_pos h2, if_pos rfl]
  · by_cases e2 : p = i
    · subst e2
      rw [if_pos rfl, if_pos h1, if_neg e1, if_pos rfl]
    · rw [if_neg (fun h => e2 h.symm), if_neg (fun h => e1 h.symm), if_neg e1, if_neg e2]
def Srt (f : Nat → Nat) (i : Nat) : Prop := ∀ p q, p < q → q < i → f p ≤ f q
def InA (f : Nat → Nat) (i j : Nat) : Prop := (∀ p q, p < q → q ≤ i → p ≠ j → q ≠ j → f p ≤ f q) ∧ ∀ q, j < q → q ≤ i → f j ≤ f q
theorem InA.start {f : Nat → Nat} {i : Nat} (h : Srt f i) : InA f i i := ⟨fun p q h1 h2 h3 h4 => h p q h1 (by omega), fun q h1 h2 => by omega⟩
theorem InA.step {f f' : Nat → Nat} {i j : Nat} (h : InA f i (j + 1)) (_ : j + 1 ≤ i) (hl : f (j + 1) < f j) (hf : ∀ p, f' p = if p = j + 1 then f j else if p = j then f (j + 1) else f p) : InA f' i j := by
  obtain ⟨hA, hB⟩ := h
  refine ⟨fun p q h1 h2 h3 h4 => ?_, fun q h1 h2 => ?_⟩
  · rw [hf p, hf q, if_neg h3, if_neg h4]
    by_cases e1 : p = j + 1
    · rw [if_pos e1, if_neg (by omega)]
      exact hA j q (by omega) h2 (by omega) (by omega)
    · rw [if_neg e1]
      by_cases e2 : q = j + 1
      · rw [if_pos e2]
        exact hA p j (by omega) (by omega) e1 (by omega)
      · rw [if_neg e2]
        exact hA p q h1 h2 e1 e2
  · rw [hf j, hf q, if_neg (by omega), if_pos rfl]
    by_cases e2 : q = j + 1
    · rw [if_pos e2]; omega
    · rw [if_neg e2, if_neg (by omega)]
      exact hB q (by omega) h2
theorem InA.stop {f : Nat → Nat} {i j : Nat} (h : InA f i j) (hj : j ≤ i) (hl : 0 < j → f (j - 1) ≤ f j) : Srt f (i + 1) := fun p q h1 h2 => by
  obtain ⟨hA, hB⟩ := h
  by_cases e1 : q = j
  · subst e1
    have h3 := hl (by omega)
    by_cases e2 : p = q - 1
    · rw [e2]; exact h3
    · have := hA p (q - 1) (by omega) (by omega) (by omega) (by omega)
      omega
  · by_cases e2 : p = j
    · rw [e2]; exact hB q (by omega) (by omega)
    · exact hA p q h1 (by omega) e2 e1
theorem srt_pair {R : List UInt8} (h : Srt (fB R) R.length) : R.Pairwise (fun a b => a.toNat ≤ b.toNat) := by
  rw [List.pairwise_iff_getElem]
  intro i j hi hj hij
  have := h i j hij hj
  rwa [fB_get (List.getElem?_eq_getElem hi), fB_get (List.getElem?_eq_getElem hj)] at this
set_option maxHeartbeats 1000000 in
theorem isNaN_any (x : UInt8) (w : World) : Calls Tryz.prog 146 #[.int .u8 (x.toNat : Int)] w fun e w' => e = .returned (.bool false) ∧ w' = w := by
  go_enter Tryz.func146, Tryz.ntmps146
  go_wp2_with fail
  go_ret
  exact ⟨by first | rfl | simp, rfl⟩
set_option maxHeartbeats 1000000 in
theorem less_any (x y : UInt8) (r : Bool) (hr : r = decide (x.toNat < y.toNat)) (w : World) : Calls Tryz.prog 127 #[.int .u8 (x.toNat : Int), .int .u8 (y.toNat : Int)] w fun e w' => e = .returned (.bool r) ∧ w' = w := by
  have CX := Lib.hid (fun W => isNaN_any x W)
  cases r with
  | true =>
    have h : (x.toNat : Int) < (y.toNat : Int) := by have := of_decide_eq_true hr.symm; omega
    clear hr
    go_enter Tryz.func127, Tryz.ntmps127
    go_wp2_with fail
    refine (CX.out _).mono ?_
    rintro e w1 ⟨rfl, hw⟩
    obtain rfl := hw.symm
    clear hw
    go_wp2_with fail
    go_ret
    exact ⟨by first | rfl | (simp; omega), rfl⟩
  | false =>
    have h : ¬ (x.toNat : Int) < (y.toNat : Int) := by have := of_decide_eq_false hr.symm; omega
    clear hr
    go_enter Tryz.func127, Tryz.ntmps127
    go_wp2_with fail
    refine (CX.out _).mono ?_
    rintro e w1 ⟨rfl, hw⟩
    obtain rfl := hw.symm
    clear hw
    go_wp2_with fail
    go_ret
    exact ⟨by first | rfl | (simp; omega), rfl⟩
attribute [local irreducible] wpQuiet
set_option maxHeartbeats 4000000 in
set_option maxRecDepth 100000 in
theorem insertion_any (l : List UInt8) (B g c n : Nat) (hn : l.length = n) (hs : n < 100000) (w : World) (hown0 : BR w B g n l) (hBg : B ≤ g) :
    Calls Tryz.prog 121 #[.slice (some ⟨g, 0, none⟩) n c, .int .i64 0, .int .i64 (n : Int)] w fun e w' => ∃ R, e = .returned (.tuple #[]) ∧ BR w' B g n R ∧ R.Perm l ∧ R.Pairwise (fun a b => a.toNat ≤ b.toNat) ∧ Below B w w' := by
  have HO := Lib.hid hown0
  clear hown0
  go_enter Tryz.func121, Tryz.ntmps121
  go_wp2_with fail
  go_loopw [6] (fun i wr => ∃ (i' : Nat) (R : List UInt8), i = .int .i64 (i' : Int) ∧ 1 ≤ i' ∧ (i' ≤ n ∨ i' = 1) ∧ R.Perm l ∧ Srt (fB R) i' ∧ BR wr B g n R ∧ Below B w wr) (fun i _ => n + 1 - (intOf i).toNat)
  case atStart => exact ⟨1, l, rfl, Nat.le_refl _, .inr rfl, .refl _, fun p q h1 h2 => by omega, HO.out, Below.refl _ w⟩
  case round =>
    obtain ⟨i', R, rfl, hi1, hi2, hp, hsrt, hown, hbw⟩ := hrel
    by_cases hin : i' < n
    · have k0 : (i' : Int) < (n : Int) := by omega
      have Hs := Lib.hid hsrt
      have Hp := Lib.hid hp
      have Ho := Lib.hid hown
      clear hsrt hp hown
      go_wp2_with fail
      rename World => wq
      go_loopw [7] (fun jv wx => ∃ (j : Nat) (R : List UInt8), jv = .int .i64 (j : Int) ∧ j ≤ i' ∧ R.Perm l ∧ InA (fB R) i' j ∧ BR wx B g n R ∧ Below B w wx) (fun jv _ => (intOf jv).toNat)
      case atStart => exact ⟨i', R, rfl, Nat.le_refl _, Hp.out, InA.start Hs.out, Ho.out, hbw⟩
      case round =>
        obtain ⟨j, R2, rfl, hji, hp2, hA, hown2, hbx⟩ := hrel
        rename World => wx
        have HP2 := Lib.hid hp2
        have HA := Lib.hid hA
        have HO2 := Lib.hid hown2
        have HBX := Lib.hid hbx
        have hRl : R2.length = n := by rw [hp2.length_eq, hn]
        have hgl := hown2.lt
        have HG := Lib.hid (show g < wx.heap.size from hgl)
        clear hp2 hA hbx hgl
        rcases j with _ | i
        · have j0 : ¬ (0 : Int) < ((0 : Nat) : Int) := by omega
          clear hown2
          have hS := Lib.hid (HA.out.stop (Nat.zero_le _) (fun h => by omega))
          go_wp2_with fail
          refine wp_region_class (fun w' => Below wx.heap.size wx w') 14 (by kernel_rfl) (by kernel_rfl) (Below.refl _ wx).drew ?_
          simp only [List.take_succ_cons, List.take_zero, List.drop_succ_cons, List.drop_zero]
          refine quiet_moveV rfl _ rfl (.int .i64 ((0 : Nat) : Int)) rfl ?_
          simp only [Act.put, List.setIfInBounds_toArray, List.set_cons_zero, List.set_cons_succ]
          refine quiet_moveV rfl _ rfl (.int .i64 0) rfl ?_
          simp only [Act.put, List.setIfInBounds_toArray, List.set_cons_zero, List.set_cons_succ]
          refine quiet_still rfl (.bool false) (fun w _ => by go_simp) ?_
          simp only [Act.put, List.setIfInBounds_toArray, List.set_cons_zero, List.set_cons_succ]
          refine quiet_moveV rfl _ rfl (.bool false) rfl ?_
          simp only [Act.put, List.setIfInBounds_toArray, List.set_cons_zero, List.set_cons_succ]
          refine quiet_skip (by kernel_rfl) ?_
          simp only [Act.put, List.setIfInBounds_toArray, List.set_cons_zero, List.set_cons_succ]
          refine quiet_skip (by kernel_rfl) ?_
          simp only [Act.put, List.setIfInBounds_toArray, List.set_cons_zero, List.set_cons_succ]
          refine quiet_skip (by kernel_rfl) ?_
          simp only [Act.put, List.setIfInBounds_toArray, List.set_cons_zero, List.set_cons_succ]
          refine quiet_skip (by kernel_rfl) ?_
          simp only [Act.put, List.setIfInBounds_toArray, List.set_cons_zero, List.set_cons_succ]
          refine quiet_skip (by kernel_rfl) ?_
          simp only [Act.put, List.setIfInBounds_toArray, List.set_cons_zero, List.set_cons_succ]
          refine quiet_skip (by kernel_rfl) ?_
          simp only [Act.put, List.setIfInBounds_toArray, List.set_cons_zero, List.set_cons_succ]
          refine quiet_skip (by kernel_rfl) ?_
          simp only [Act.put, List.setIfInBounds_toArray, List.set_cons_zero, List.set_cons_succ]
          refine quiet_skip (by kernel_rfl) ?_
          simp only [Act.put, List.setIfInBounds_toArray, List.set_cons_zero, List.set_cons_succ]
          refine quiet_skip (by kernel_rfl) ?_
          simp only [Act.put, List.setIfInBounds_toArray, List.set_cons_zero, List.set_cons_succ]
          refine quiet_skip (by kernel_rfl) ?_
          simp only [Act.put, List.setIfInBounds_toArray, List.set_cons_zero, List.set_cons_succ]
          unfold wpQuiet
          intro wy hb
          have HB2 := Lib.hid (HBX.out.trans (hb.mono (by have := HBX.out.size; have := HG.out; omega)))
          have HO3 := Lib.hid (HO2.out.below hb)
          clear hb
          go_wp2_with fail
          go_roundw
          case rel => exact ⟨i' + 1, R2, by go_num, by omega, .inl (by omega), HP2.out, hS.out, HO3.out, HB2.out⟩
          case measure => (simp [intOf] <;> omega)
        · obtain ⟨x, hx⟩ : ∃ x, R2[i + 1]? = some x := ⟨_, List.getElem?_eq_getElem (by omega)⟩
          obtain ⟨y, hy⟩ : ∃ y, R2[i]? = some y := ⟨_, List.getElem?_eq_getElem (by omega)⟩
          obtain ⟨j, hj⟩ : ∃ j, j = i + 1 := ⟨_, rfl⟩
          rw [← hj] at hx hji ⊢
          have cj : wx.cell? ⟨g, j, none⟩ = some (.int .u8 (x.toNat : Int)) := hown2.cl j _ hx
          have ci : wx.cell? ⟨g, i, none⟩ = some (.int .u8 (y.toNat : Int)) := hown2.cl i _ hy
          have j0 : (0 : Int) < (j : Int) := by omega
          have j1 : (0 : Int) ≤ (j : Int) := by omega
          have j2 : (j : Int) < (n : Int) := by omega
          have i0 : (0 : Int) ≤ (i : Int) := by omega
          have i1 : (i : Int) < (n : Int) := by omega
          have hwj : IntKind.i64.wrap ((j : Int) - 1) = (i : Int) := by rw [show (j : Int) - 1 = (i : Int) by omega]; exact IntWalk.i64_in _ (by omega)
          have j00 : 0 < j := by omega
          have hne : i ≠ j := by omega
          have hjn : j < n := by omega
          have hij : i < j := by omega
          have hjl : j ≤ i' := hji
          have hRj : j < R2.length := by omega
          have hRi : i < R2.length := by omega
          have hAj : InA (fB R2) i' j := by rw [hj]; exact HA.out
          have hAr : fB R2 (i + 1) = x.toNat := by rw [← hj]; exact fB_get hx
          have HJ := Lib.hid hj
          have HAJ := Lib.hid hAj
          have HAR := Lib.hid hAr
          have hstp := Lib.hid (show j - 1 = i by omega)
          clear hj hAj hAr
          by_cases hlt : x.toNat < y.toNat
          · have CL := Lib.hid (fun W => less_any x y true (by simp [hlt]) W)
            clear hown2
            go_wp2_with fail
            refine wp_region_class (fun w' => Below wx.heap.size wx w') 14 (by kernel_rfl) (by kernel_rfl) (Below.refl _ wx).drew ?_
            simp only [List.take_succ_cons, List.take_zero, List.drop_succ_cons, List.drop_zero]
            refine quiet_moveV rfl _ rfl (.int .i64 (j : Int)) rfl ?_
            simp only [Act.put, List.setIfInBounds_toArray, List.set_cons_zero, List.set_cons_succ]
            refine quiet_moveV rfl _ rfl (.int .i64 0) rfl ?_
            simp only [Act.put, List.setIfInBounds_toArray, List.set_cons_zero, List.set_cons_succ]
            refine quiet_still rfl (.bool true) (fun w _ => by go_simp) ?_
            simp only [Act.put, List.setIfInBounds_toArray, List.set_cons_zero, List.set_cons_succ]
            refine quiet_moveV rfl _ rfl (.bool true) rfl ?_
            simp only [Act.put, List.setIfInBounds_toArray, List.set_cons_zero, List.set_cons_succ]
            refine quietW_moveV (by kernel_rfl) _ rfl (.slice (some ⟨g, 0, none⟩) n c) rfl ?_
            simp only [Act.put, List.setIfInBounds_toArray, List.set_cons_zero, List.set_cons_succ]
            refine quietW_moveV (by kernel_rfl) _ rfl (.int .i64 (j : Int)) rfl ?_
            simp only [Act.put, List.setIfInBounds_toArray, List.set_cons_zero, List.set_cons_succ]
            refine quietW_still (by kernel_rfl) (.pointer (some ⟨g, j, none⟩)) (fun w _ => by go_simp) ?_
            simp only [Act.put, List.setIfInBounds_toArray, List.set_cons_zero, List.set_cons_succ]
            refine quietW_load1 (by kernel_rfl) _ _ rfl ⟨g, j, none⟩ rfl (.int .u8 (x.toNat : Int)) (load_u8 _ _) (fun _ h => (h.cell (p := ⟨g, j, none⟩) HG.out).trans cj) ?_
            simp only [Act.put, List.setIfInBounds_toArray, List.set_cons_zero, List.set_cons_succ]
            refine quietW_moveV (by kernel_rfl) _ rfl (.slice (some ⟨g, 0, none⟩) n c) rfl ?_
            simp only [Act.put, List.setIfInBounds_toArray, List.set_cons_zero, List.set_cons_succ]
            refine quietW_moveV (by kernel_rfl) _ rfl (.int .i64 (j : Int)) rfl ?_
            simp only [Act.put, List.setIfInBounds_toArray, List.set_cons_zero, List.set_cons_succ]
            refine quietW_still (by kernel_rfl) (.int .i64 (i : Int)) (fun w _ => by first | (go_simp; done) | (go_simp; exact hwj)) ?_
            simp only [Act.put, List.setIfInBounds_toArray, List.set_cons_zero, List.set_cons_succ]
            refine quietW_still (by kernel_rfl) (.pointer (some ⟨g, i, none⟩)) (fun w _ => by go_simp) ?_
            simp only [Act.put, List.setIfInBounds_toArray, List.set_cons_zero, List.set_cons_succ]
            refine quietW_load1 (by kernel_rfl) _ _ rfl ⟨g, i, none⟩ rfl (.int .u8 (y.toNat : Int)) (load_u8 _ _) (fun _ h => (h.cell (p := ⟨g, i, none⟩) HG.out).trans ci) ?_
            simp only [Act.put, List.setIfInBounds_toArray, List.set_cons_zero, List.set_cons_succ]
            refine quietW_call (by kernel_rfl) 127 _ _ rfl (enter_of Tryz.func127 (by decide) (by intro h; cases h)) _ (fun W h => (CL.out W).mono fun e w' ⟨he, hw⟩ => ⟨he, hw ▸ h⟩) ?_
            simp only [Act.put, List.setIfInBounds_toArray, List.set_cons_zero, List.set_cons_succ]
            unfold wpQuiet
            intro wy hb
            have HB2 := Lib.hid (HBX.out.trans (hb.mono (by have := HBX.out.size; have := HG.out; omega)))
            have hown3 := HO2.out.below hb
            clear hb cj ci
            have cj : wy.cell? ⟨g, j, none⟩ = some (.int .u8 (x.toNat : Int)) := hown3.cl j _ hx
            have ci : wy.cell? ⟨g, i, none⟩ = some (.int .u8 (y.toNat : Int)) := hown3.cl i _ hy
            have f0 := hown3.fz j hjn
            have f1 := hown3.fz i (by omega)
            have hs1 := hown3.set hjn y
            have hs2 := hs1.set (j := i) (by omega) x
            have Hs2 := Lib.hid hs2.drew
            have Hbw2 := Lib.hid (((HB2.out.setCell (p := ⟨g, j, none⟩) hBg (.int .u8 (y.toNat : Int))).setCell (p := ⟨g, i, none⟩) hBg (.int .u8 (x.toNat : Int))).drew)
            have HPN := Lib.hid (show ((R2.set j y).set i x).Perm l from by
              have h1 := @List.set_set_perm _ R2 j i hRj hRi
              have e1 : R2[i] = y := Option.some.inj ((List.getElem?_eq_getElem hRi).symm.trans hy)
              have e2 : R2[j] = x := Option.some.inj ((List.getElem?_eq_getElem hRj).symm.trans hx)
              rw [e1, e2] at h1
              exact h1.trans HP2.out)
            have HAN := Lib.hid (show InA (fB ((R2.set j y).set i x)) i' i from by
              have hA := HA.out
              refine hA.step (by have := HJ.out; omega) ?_ (fun p => ?_)
              · rw [HAR.out, fB_get hy]; exact hlt
              · have := fB_set hy hx hne p
                rw [this, HJ.out])
            clear hs1 hs2 hown3
            go_wp2_with fail
            go_region
            go_wp2_with fail
            go_roundw
            case rel => exact ⟨i, (R2.set j y).set i x, by go_num, by omega, HPN.out, HAN.out, Hs2.out, Hbw2.out⟩
            case measure => (simp [intOf] <;> omega)
          · have CL := Lib.hid (fun W => less_any x y false (by simp [hlt]) W)
            have hS := Lib.hid (HAJ.out.stop hjl (fun _ => by rw [hstp.out, fB_get hx, fB_get hy]; omega))
            clear hown2
            go_wp2_with fail
            refine wp_region_class (fun w' => Below wx.heap.size wx w') 14 (by kernel_rfl) (by kernel_rfl) (Below.refl _ wx).drew ?_
            simp only [List.take_succ_cons, List.take_zero, List.drop_succ_cons, List.drop_zero]
            refine quiet_moveV rfl _ rfl (.int .i64 (j : Int)) rfl ?_
            simp only [Act.put, List.setIfInBounds_toArray, List.set_cons_zero, List.set_cons_succ]
            refine quiet_moveV rfl _ rfl (.int .i64 0) rfl ?_
            simp only [Act.put, List.setIfInBounds_toArray, List.set_cons_zero, List.set_cons_succ]
            refine quiet_still rfl (.bool true) (fun w _ => by go_simp) ?_
            simp only [Act.put, List.setIfInBounds_toArray, List.set_cons_zero, List.set_cons_succ]
            refine quiet_moveV rfl _ rfl (.bool true) rfl ?_
            simp only [Act.put, List.setIfInBounds_toArray, List.set_cons_zero, List.set_cons_succ]
            refine quietW_moveV (by kernel_rfl) _ rfl (.slice (some ⟨g, 0, none⟩) n c) rfl ?_
            simp only [Act.put, List.setIfInBounds_toArray, List.set_cons_zero, List.set_cons_succ]
            refine quietW_moveV (by kernel_rfl) _ rfl (.int .i64 (j : Int)) rfl ?_
            simp only [Act.put, List.setIfInBounds_toArray, List.set_cons_zero, List.set_cons_succ]
            refine quietW_still (by kernel_rfl) (.pointer (some ⟨g, j, none⟩)) (fun w _ => by go_simp) ?_
            simp only [Act.put, List.setIfInBounds_toArray, List.set_cons_zero, List.set_cons_succ]
            refine quietW_load1 (by kernel_rfl) _ _ rfl ⟨g, j, none⟩ rfl (.int .u8 (x.toNat : Int)) (load_u8 _ _) (fun _ h => (h.cell (p := ⟨g, j, none⟩) HG.out).trans cj) ?_
            simp only [Act.put, List.setIfInBounds_toArray, List.set_cons_zero, List.set_cons_succ]
            refine quietW_moveV (by kernel_rfl) _ rfl (.slice (some ⟨g, 0, none⟩) n c) rfl ?_
            simp only [Act.put, List.setIfInBounds_toArray, List.set_cons_zero, List.set_cons_succ]
            refine quietW_moveV (by kernel_rfl) _ rfl (.int .i64 (j : Int)) rfl ?_
            simp only [Act.put, List.setIfInBounds_toArray, List.set_cons_zero, List.set_cons_succ]
            refine quietW_still (by kernel_rfl) (.int .i64 (i : Int)) (fun w _ => by first | (go_simp; done) | (go_simp; exact hwj)) ?_
            simp only [Act.put, List.setIfInBounds_toArray, List.set_cons_zero, List.set_cons_succ]
            refine quietW_still (by kernel_rfl) (.pointer (some ⟨g, i, none⟩)) (fun w _ => by go_simp) ?_
            simp only [Act.put, List.setIfInBounds_toArray, List.set_cons_zero, List.set_cons_succ]
            refine quietW_load1 (by kernel_rfl) _ _ rfl ⟨g, i, none⟩ rfl (.int .u8 (y.toNat : Int)) (load_u8 _ _) (fun _ h => (h.cell (p := ⟨g, i, none⟩) HG.out).trans ci) ?_
            simp only [Act.put, List.setIfInBounds_toArray, List.set_cons_zero, List.set_cons_succ]
            refine quietW_call (by kernel_rfl) 127 _ _ rfl (enter_of Tryz.func127 (by decide) (by intro h; cases h)) _ (fun W h => (CL.out W).mono fun e w' ⟨he, hw⟩ => ⟨he, hw ▸ h⟩) ?_
            simp only [Act.put, List.setIfInBounds_toArray, List.set_cons_zero, List.set_cons_succ]
            unfold wpQuiet
            intro wy hb
            have HB2 := Lib.hid (HBX.out.trans (hb.mono (by have := HBX.out.size; have := HG.out; omega)))
            have HO3 := Lib.hid (HO2.out.below hb)
            clear hb cj ci
            go_wp2_with fail
            go_roundw
            case rel => exact ⟨i' + 1, R2, by go_num, by omega, .inl (by omega), HP2.out, hS.out, HO3.out, HB2.out⟩
            case measure => (simp [intOf] <;> omega)
    · have k0 : ¬ (i' : Int) < (n : Int) := by omega
      have hRl : R.length = n := by rw [hp.length_eq, hn]
      have hS := srt_pair (R := R) (fun p q h1 h2 => hsrt p q h1 (by omega))
      have HS := Lib.hid hS
      have Hp := Lib.hid hp
      have Ho := Lib.hid hown
      clear hsrt hp hown hS
      go_wp2_with fail
      go_end0
      exact ⟨rfl, R, Ho.out, Hp.out, HS.out, hbw⟩
set_option maxHeartbeats 1000000 in
set_option maxRecDepth 100000 in
theorem pdq_small (l : List UInt8) (B g c n : Nat) (k : Int) (hn : l.length = n) (hs : n ≤ 12) (w : World) (hown0 : BR w B g n l) (hBg : B ≤ g) :
    Calls Tryz.prog 110 #[.slice (some ⟨g, 0, none⟩) n c, .int .i64 0, .int .i64 (n : Int), .int .i64 k] w fun e w' => ∃ R, e = .returned (.tuple #[]) ∧ BR w' B g n R ∧ R.Perm l ∧ R.Pairwise (fun a b => a.toNat ≤ b.toNat) ∧ Below B w w' := by
  have CI := Lib.hid (insertion_any l B g c n hn (by omega) w hown0 hBg)
  have n12 : (n : Int) ≤ 12 := by omega
  clear hown0
  go_enter Tryz.func110, Tryz.ntmps110
  go_wp2_with fail
  go_loopw [1, 2] (fun a b wr => a = .int .i64 0 ∧ b = .int .i64 (n : Int) ∧ wr = w) (fun _ _ _ => 0)
  case atStart => exact ⟨rfl, rfl, rfl⟩
  case round =>
    obtain ⟨rfl, rfl, hwr⟩ := hrel
    obtain rfl := hwr.symm
    clear hwr
    go_wp2_with fail
    refine CI.out.mono ?_
    rintro e w1 ⟨R, rfl, ho, hp, hs, hb⟩
    have HO := Lib.hid ho
    have HP := Lib.hid hp
    have HS := Lib.hid hs
    clear ho hp hs
    go_wp2_with fail
    refine bodyPost_ret (results_none (by rfl) _ _ _) rfl ?_
    first | exact ⟨rfl, R, HO.out, HP.out, HS.out, hb⟩ | exact ⟨R, rfl, HO.out, HP.out, HS.out, hb⟩
set_option maxHeartbeats 1000000 in
set_option maxRecDepth 100000 in
theorem sort_small (l : List UInt8) (B g c n : Nat) (hn : l.length = n) (hs : n ≤ 12) (w : World) (hown0 : BR w B g n l) (hBg : B ≤ g) :
    Calls Tryz.prog 91 #[.slice (some ⟨g, 0, none⟩) n c] w fun e w' => ∃ R, e = .returned (.tuple #[]) ∧ BR w' B g n R ∧ R.Perm l ∧ R.Pairwise (fun a b => a.toNat ≤ b.toNat) ∧ Below B w w' := by
  have CI := Lib.hid (fun k => pdq_small l B g c n k hn hs w hown0 hBg)
  have CL := Lib.hid (fun W => Tryz.bits_Len (n : Int) W (by omega) (by omega))
  have hwn : IntKind.u64.wrap (n : Int) = (n : Int) := by unfold IntKind.wrap; simp [IntKind.signed, IntKind.bits]; omega
  clear hown0
  go_enter Tryz.func91, Tryz.ntmps91
  go_wp2_with fail
  refine (CL.out _).mono ?_
  rintro e w1 ⟨rfl, hw⟩
  obtain rfl := hw.symm
  clear hw
  go_wp2_with fail
  refine (CI.out _).mono ?_
  rintro e w1 ⟨R, rfl, ho, hp, hs, hb⟩
  have HO := Lib.hid ho
  have HP := Lib.hid hp
  have HS := Lib.hid hs
  clear ho hp hs
  go_wp2_with fail
  go_end0
  first | exact ⟨rfl, R, HO.out, HP.out, HS.out, hb⟩ | exact ⟨R, rfl, HO.out, HP.out, HS.out, hb⟩
end Go.Proofs.YtmefpaoakblndaaGreatDoor
