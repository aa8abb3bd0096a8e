/- Merged: YF YG YI YJ. -/
import Derived.Test.YtmefpaoakblndaaGreatDoorYK
import Derived.Deep.CutRange
import Derived.Deep.CutBlock
namespace Go.Proofs.YtmefpaoakblndaaGreatDoor
open Go.RowKit
/-- What holds while a range is parted: L below i, not L above j. -/
structure PT (L : Nat → Prop) (P : Nat) (f : Nat → Nat) (a b i j : Nat) : Prop where
  ai : a + 1 ≤ i
  ij : i ≤ j + 1
  jb : j < b
  lo : ∀ p, a + 1 ≤ p → p < i → L (f p)
  hi : ∀ p, j < p → p < b → ¬ L (f p)
  pv : f a = P
theorem PT.up {L : Nat → Prop} {P : Nat} {f : Nat → Nat} {a b i j : Nat} (h : PT L P f a b i j) (hij : i ≤ j) (hl : L (f i)) : PT L P f a b (i + 1) j :=
  ⟨by have := h.ai; omega, by omega, h.jb, fun p h1 h2 => by
    by_cases e : p = i
    · rw [e]; exact hl
    · exact h.lo p h1 (by omega), h.hi, h.pv⟩
theorem PT.down {L : Nat → Prop} {P : Nat} {f : Nat → Nat} {a b i j : Nat} (h : PT L P f a b i j) (hij : i ≤ j) (hl : ¬ L (f j)) : PT L P f a b i (j - 1) :=
  ⟨h.ai, by have := h.ai; omega, by have := h.jb; omega, h.lo, fun p h1 h2 => by
    by_cases e : p = j
    · rw [e]; exact hl
    · exact h.hi p (by omega) h2, h.pv⟩
theorem PT.swap {L : Nat → Prop} {P : Nat} {f f' : Nat → Nat} {a b i j : Nat} (h : PT L P f a b i j) (hij : i ≤ j) (hi : ¬ L (f i)) (hj : L (f j)) (hf : ∀ p, f' p = if p = j then f i else if p = i then f j else f p) : PT L P f' a b (i + 1) (j - 1) := by
  have h1 := h.ai
  have h2 := h.jb
  have hne : i ≠ j := fun e => hi (by rw [e]; exact hj)
  refine ⟨by omega, by omega, by omega, fun p k1 k2 => ?_, fun p k1 k2 => ?_, ?_⟩
  · rw [hf p, if_neg (by omega)]
    split
    · exact hj
    · exact h.lo p k1 (by omega)
  · rw [hf p]
    split
    · exact hi
    · rw [if_neg (by omega)]
      exact h.hi p (by omega) k2
  · rw [hf a, if_neg (by omega), if_neg (by omega)]
    exact h.pv
theorem PT.fin {L : Nat → Prop} {P : Nat} {f f' : Nat → Nat} {a b i j : Nat} (h : PT L P f a b i j) (hij : ¬ i ≤ j) (hL : ∀ u, L u → u ≤ P) (hN : ∀ u, ¬ L u → P ≤ u) (hf : ∀ p, f' p = if p = a then f j else if p = j then f a else f p) : (∀ p, a ≤ p → p < j → f' p ≤ f' j) ∧ ∀ p, j < p → p < b → f' j ≤ f' p := by
  have h1 := h.ai
  have h2 := h.ij
  have hj : f' j = P := by
    rw [hf j]
    split
    · rename_i e
      rw [e]; exact h.pv
    · rw [if_pos rfl]; exact h.pv
  refine ⟨fun p k1 k2 => ?_, fun p k1 k2 => ?_⟩
  · rw [hj, hf p]
    split
    · exact hL _ (h.lo j (by omega) (by omega))
    · rw [if_neg (by omega)]
      exact hL _ (h.lo p (by omega) (by omega))
  · rw [hj, hf p, if_neg (by omega), if_neg (by omega)]
    exact hN _ (h.hi p k1 k2)
attribute [local irreducible] wpQuiet
set_option maxHeartbeats 8000000 in
set_option maxRecDepth 100000 in
theorem partition_any (l : List UInt8) (B g c n a b v : Nat) (hs : n < 50) (w : World) (hown0 : BR w B g n l) (hbn : b ≤ n) (hab : a + 1 < b) (hav : a ≤ v) (hvb : v < b) :
    Calls Tryz.prog 129 #[.slice (some ⟨g, 0, none⟩) n c, .int .i64 (a : Int), .int .i64 (b : Int), .int .i64 (v : Int)] w fun e w' => ∃ (R : List UInt8) (m : Nat) (rv : Value), e = .returned (.tuple #[.int .i64 (m : Int), rv]) ∧ (rv = .bool true ∨ rv = .bool false) ∧ (a ≤ m ∧ m < b) ∧ BR w' B g n R ∧ Sw a b l R ∧ (∀ p, a ≤ p → p < m → fB R p ≤ fB R m) ∧ (∀ p, m < p → p < b → fB R m ≤ fB R p) ∧ Below B w w' := by
  have HO := Lib.hid hown0
  have hBg : B ≤ g := hown0.le
  have b50 : b < 50 := by omega
  go_enter Tryz.func129, Tryz.ntmps129
  have hown := HO.out
  go_upto_region 1 with fail
  go_cut [] from 12 to 25 (fun wc => ∃ R2 : List UInt8, BR wc B g n R2 ∧ Sw a b l R2 ∧ (∀ p, fB R2 p = if p = v then fB l a else if p = a then fB l v else fB l p) ∧ Below B w wc)
  case first =>
    have hRl2 : l.length = n := hown.len
    obtain ⟨x, hx⟩ : ∃ x, l[a]? = some x := ⟨_, List.getElem?_eq_getElem (by omega)⟩
    obtain ⟨y, hy⟩ : ∃ y, l[v]? = some y := ⟨_, List.getElem?_eq_getElem (by omega)⟩
    have ci : w.cell? ⟨g, a, none⟩ = some (.int .u8 (x.toNat : Int)) := hown.cl _ _ hx
    have cj : w.cell? ⟨g, v, none⟩ = some (.int .u8 (y.toNat : Int)) := hown.cl _ _ hy
    have f0 := hown.fz a (by omega)
    have f1 := hown.fz v (by omega)
    have i0 : (0 : Int) ≤ (a : Int) := by omega
    have i1 : (a : Int) < (n : Int) := by omega
    have j1 : (0 : Int) ≤ (v : Int) := by omega
    have j2 : (v : Int) < (n : Int) := by omega
    have Hs2 := Lib.hid (((hown.set (j := a) (by omega) y).set (j := v) (by omega) x).drew)
    have HSW2 := Lib.hid (show Sw a b l ((l.set a y).set v x) from (Sw.refl (a := a) (b := b) (R := l)).step hx hy (by omega) (by omega) (by omega) (by omega))
    have HFE := Lib.hid (fun p => fB_sw hx hy p)
    have HBN := Lib.hid ((((Below.refl B w).setCell (p := ⟨g, a, none⟩) hBg (.int .u8 (y.toNat : Int))).setCell (p := ⟨g, v, none⟩) hBg (.int .u8 (x.toNat : Int))).drew)
    clear hown
    by_cases hne : a = v
    · subst hne
      obtain rfl : x = y := Option.some.inj (hx.symm.trans hy)
      go_wp2_with fail
      go_region
      go_wp2_with fail
      go_meet
      exact ⟨_, Hs2.out, HSW2.out, HFE.out, HBN.out⟩
    · go_wp2_with fail
      go_region
      go_wp2_with fail
      go_meet
      exact ⟨_, Hs2.out, HSW2.out, HFE.out, HBN.out⟩
  case rest =>
    obtain ⟨R, hown, hsw1, hfe, hb⟩ := hcut
    rename World => w1
    have HSW := Lib.hid hsw1
    obtain ⟨P, hP⟩ : ∃ P, fB R a = P := ⟨_, rfl⟩
    obtain ⟨j, hj⟩ : ∃ j, j + 1 = b := ⟨b - 1, by omega⟩
    obtain ⟨i, hi⟩ : ∃ i, i = a + 1 := ⟨_, rfl⟩
    have hpt : PT (fun u => u < P) P (fB R) a b i j := ⟨by omega, by omega, by omega, fun p h1 h2 => absurd h1 (by omega), fun p h1 h2 => absurd h1 (by omega), hP⟩
    have hL : ∀ u, (fun u => u < P) u → u ≤ P := fun u h => by have h2 : (u < P) := h; omega
    have hN : ∀ u, ¬ (fun u => u < P) u → P ≤ u := fun u h => by have h2 : ¬ (u < P) := h; omega
    have HL := Lib.hid hL
    have HN := Lib.hid hN
    clear hL hN hsw1 hfe hP
    go_upto_region 2 with fail
    go_cut [10, 11] from 26 to 29 (fun s t wc => s = .int .i64 (i : Int) ∧ t = .int .i64 (j : Int) ∧ wc = w1)
    case first =>
      go_wp2_with fail
      go_meet
      exact ⟨by first | (congr 1; omega) | go_num, by first | (congr 1; omega) | go_num, rfl⟩
    case rest =>
      obtain ⟨rfl, rfl, hwc⟩ := hcut
      obtain rfl := hwc.symm
      clear hwc hj hi
      rename World => w2
      have HPT0 := Lib.hid hpt
      have HO0 := Lib.hid hown
      have HB0 := Lib.hid hb
      have hai := hpt.ai
      have hij := hpt.ij
      have hjb := hpt.jb
      clear hpt hb hown
      obtain ⟨i0, hi0⟩ : ∃ i0, i0 = i := ⟨_, rfl⟩
      have HI0E := Lib.hid hi0
      have HI0 := Lib.hid (show i0 ≤ i by omega)
      clear hi0
      go_upto_block 0 with fail
      go_cut [10] from 30 to 45 (fun iv wc => ∃ i : Nat, iv = .int .i64 (i : Int) ∧ PT (fun u => u < P) P (fB R) a b i j ∧ i0 ≤ i ∧ (i ≤ j → ¬ (fun u => u < P) (fB R i)) ∧ BR wc B g n R ∧ Below B w wc)
      case first =>
        go_wp2_with fail
        go_loopw [10] (fun iv wx => ∃ i : Nat, iv = .int .i64 (i : Int) ∧ PT (fun u => u < P) P (fB R) a b i j ∧ i0 ≤ i ∧ BR wx B g n R ∧ Below B w wx) (fun iv _ => n + 1 - (intOf iv).toNat)
        case atStart => exact ⟨i, by first | rfl | go_num, HPT0.out, HI0.out, HO0.out, HB0.out⟩
        case round =>
          obtain ⟨i, rfl, hpt, hi0x, hown, hbx⟩ := hrel
          rename World => wx
          have HPT := Lib.hid hpt
          have HO2 := Lib.hid hown
          have HBX := Lib.hid hbx
          have HG := Lib.hid (show g < wx.heap.size from hown.lt)
          have hRl : R.length = n := hown.len
          have hai := hpt.ai
          have hij := hpt.ij
          have hjb := hpt.jb
          have HI0X := Lib.hid hi0x
          clear hi0x
          clear hpt hbx
          by_cases hin : i ≤ j
          · obtain ⟨x, hx⟩ : ∃ x, R[i]? = some x := ⟨_, List.getElem?_eq_getElem (by omega)⟩
            obtain ⟨y, hy⟩ : ∃ y, R[a]? = some y := ⟨_, List.getElem?_eq_getElem (by omega)⟩
            have ci : wx.cell? ⟨g, i, none⟩ = some (.int .u8 (x.toNat : Int)) := hown.cl _ _ hx
            have ca : wx.cell? ⟨g, a, none⟩ = some (.int .u8 (y.toNat : Int)) := hown.cl _ _ hy
            have k0 : (i : Int) ≤ (j : Int) := by omega
            have i0 : (0 : Int) ≤ (i : Int) := by omega
            have i1 : (i : Int) < (n : Int) := by omega
            have a0 : (0 : Int) ≤ (a : Int) := by omega
            have a1 : (a : Int) < (n : Int) := by omega
            have HXE := Lib.hid (show fB R i = x.toNat from fB_get hx)
            have HYE := Lib.hid (show fB R a = y.toNat from fB_get hy)
            clear hown
            by_cases hlt : x.toNat < y.toNat
            · have CL := Lib.hid (fun W => less_any x y true (by simp [hlt]) W)
              have HLV := Lib.hid (show (fun u => u < P) (fB R i) from by have h1 := HXE.out; have h2 := HYE.out; have h3 := HPT.out.pv; have h4 := hlt; clear HPT HXE HYE CL; show (fB R i < P); rw [h1, ← h3, h2]; omega)
              go_wp2_with fail
              refine wp_region_class (fun w' => Below wx.heap.size wx w') 13 (by kernel_rfl) (by kernel_rfl) (Below.refl _ wx).drew ?_
              simp only [List.take_succ_cons, List.take_zero, List.drop_succ_cons, List.drop_zero]
              refine quiet_moveV rfl _ rfl (.int .i64 (i : Int)) rfl ?_
              simp only [Act.put, List.setIfInBounds_toArray, List.set_cons_zero, List.set_cons_succ]
              refine quiet_moveV rfl _ rfl (.int .i64 (j : Int)) rfl ?_
              simp only [Act.put, List.setIfInBounds_toArray, List.set_cons_zero, List.set_cons_succ]
              refine quiet_still rfl (.bool true) (fun w _ => by go_simp) ?_
              simp only [Act.put, List.setIfInBounds_toArray, List.set_cons_zero, List.set_cons_succ]
              refine quiet_moveV rfl _ rfl (.bool true) rfl ?_
              simp only [Act.put, List.setIfInBounds_toArray, List.set_cons_zero, List.set_cons_succ]
              refine quietW_moveV (by kernel_rfl) _ rfl (.slice (some ⟨g, 0, none⟩) n c) rfl ?_
              simp only [Act.put, List.setIfInBounds_toArray, List.set_cons_zero, List.set_cons_succ]
              refine quietW_moveV (by kernel_rfl) _ rfl (.int .i64 (i : Int)) rfl ?_
              simp only [Act.put, List.setIfInBounds_toArray, List.set_cons_zero, List.set_cons_succ]
              refine quietW_still (by kernel_rfl) (.pointer (some ⟨g, i, none⟩)) (fun w _ => by go_simp) ?_
              simp only [Act.put, List.setIfInBounds_toArray, List.set_cons_zero, List.set_cons_succ]
              refine quietW_load1 (by kernel_rfl) _ _ rfl ⟨g, i, none⟩ rfl (.int .u8 (x.toNat : Int)) (load_u8 _ _) (fun _ h => (h.cell (p := ⟨g, i, none⟩) HG.out).trans ci) ?_
              simp only [Act.put, List.setIfInBounds_toArray, List.set_cons_zero, List.set_cons_succ]
              refine quietW_moveV (by kernel_rfl) _ rfl (.slice (some ⟨g, 0, none⟩) n c) rfl ?_
              simp only [Act.put, List.setIfInBounds_toArray, List.set_cons_zero, List.set_cons_succ]
              refine quietW_moveV (by kernel_rfl) _ rfl (.int .i64 (a : Int)) rfl ?_
              simp only [Act.put, List.setIfInBounds_toArray, List.set_cons_zero, List.set_cons_succ]
              refine quietW_still (by kernel_rfl) (.pointer (some ⟨g, a, none⟩)) (fun w _ => by go_simp) ?_
              simp only [Act.put, List.setIfInBounds_toArray, List.set_cons_zero, List.set_cons_succ]
              refine quietW_load1 (by kernel_rfl) _ _ rfl ⟨g, a, none⟩ rfl (.int .u8 (y.toNat : Int)) (load_u8 _ _) (fun _ h => (h.cell (p := ⟨g, a, none⟩) HG.out).trans ca) ?_
              simp only [Act.put, List.setIfInBounds_toArray, List.set_cons_zero, List.set_cons_succ]
              refine quietW_call (by kernel_rfl) 127 _ _ rfl (enter_of Tryz.func127 (by decide) (by intro h; cases h)) _ (fun W h => (CL.out W).mono fun e w' ⟨he, hw⟩ => ⟨he, hw ▸ h⟩) ?_
              simp only [Act.put, List.setIfInBounds_toArray, List.set_cons_zero, List.set_cons_succ]
              unfold wpQuiet
              intro wy hb
              have HB2 := Lib.hid (HBX.out.trans (hb.mono (by have := HBX.out.size; have := HG.out; have := HO2.out.le; omega)))
              have HO3 := Lib.hid (HO2.out.below hb)
              clear hb ci ca
              go_wp2_with fail
              go_roundw
              case rel => exact ⟨i + 1, by first | go_num | (congr 1; omega), HPT.out.up hin HLV.out, (by have := HI0X.out; omega), HO3.out, HB2.out⟩
              case measure => (simp [intOf] <;> omega)
            · have CL := Lib.hid (fun W => less_any x y false (by simp [hlt]) W)
              have HLV := Lib.hid (show ¬ (fun u => u < P) (fB R i) from by have h1 := HXE.out; have h2 := HYE.out; have h3 := HPT.out.pv; have h4 := hlt; clear HPT HXE HYE CL; show ¬ (fB R i < P); rw [h1, ← h3, h2]; omega)
              go_wp2_with fail
              refine wp_region_class (fun w' => Below wx.heap.size wx w') 13 (by kernel_rfl) (by kernel_rfl) (Below.refl _ wx).drew ?_
              simp only [List.take_succ_cons, List.take_zero, List.drop_succ_cons, List.drop_zero]
              refine quiet_moveV rfl _ rfl (.int .i64 (i : Int)) rfl ?_
              simp only [Act.put, List.setIfInBounds_toArray, List.set_cons_zero, List.set_cons_succ]
              refine quiet_moveV rfl _ rfl (.int .i64 (j : Int)) rfl ?_
              simp only [Act.put, List.setIfInBounds_toArray, List.set_cons_zero, List.set_cons_succ]
              refine quiet_still rfl (.bool true) (fun w _ => by go_simp) ?_
              simp only [Act.put, List.setIfInBounds_toArray, List.set_cons_zero, List.set_cons_succ]
              refine quiet_moveV rfl _ rfl (.bool true) rfl ?_
              simp only [Act.put, List.setIfInBounds_toArray, List.set_cons_zero, List.set_cons_succ]
              refine quietW_moveV (by kernel_rfl) _ rfl (.slice (some ⟨g, 0, none⟩) n c) rfl ?_
              simp only [Act.put, List.setIfInBounds_toArray, List.set_cons_zero, List.set_cons_succ]
              refine quietW_moveV (by kernel_rfl) _ rfl (.int .i64 (i : Int)) rfl ?_
              simp only [Act.put, List.setIfInBounds_toArray, List.set_cons_zero, List.set_cons_succ]
              refine quietW_still (by kernel_rfl) (.pointer (some ⟨g, i, none⟩)) (fun w _ => by go_simp) ?_
              simp only [Act.put, List.setIfInBounds_toArray, List.set_cons_zero, List.set_cons_succ]
              refine quietW_load1 (by kernel_rfl) _ _ rfl ⟨g, i, none⟩ rfl (.int .u8 (x.toNat : Int)) (load_u8 _ _) (fun _ h => (h.cell (p := ⟨g, i, none⟩) HG.out).trans ci) ?_
              simp only [Act.put, List.setIfInBounds_toArray, List.set_cons_zero, List.set_cons_succ]
              refine quietW_moveV (by kernel_rfl) _ rfl (.slice (some ⟨g, 0, none⟩) n c) rfl ?_
              simp only [Act.put, List.setIfInBounds_toArray, List.set_cons_zero, List.set_cons_succ]
              refine quietW_moveV (by kernel_rfl) _ rfl (.int .i64 (a : Int)) rfl ?_
              simp only [Act.put, List.setIfInBounds_toArray, List.set_cons_zero, List.set_cons_succ]
              refine quietW_still (by kernel_rfl) (.pointer (some ⟨g, a, none⟩)) (fun w _ => by go_simp) ?_
              simp only [Act.put, List.setIfInBounds_toArray, List.set_cons_zero, List.set_cons_succ]
              refine quietW_load1 (by kernel_rfl) _ _ rfl ⟨g, a, none⟩ rfl (.int .u8 (y.toNat : Int)) (load_u8 _ _) (fun _ h => (h.cell (p := ⟨g, a, none⟩) HG.out).trans ca) ?_
              simp only [Act.put, List.setIfInBounds_toArray, List.set_cons_zero, List.set_cons_succ]
              refine quietW_call (by kernel_rfl) 127 _ _ rfl (enter_of Tryz.func127 (by decide) (by intro h; cases h)) _ (fun W h => (CL.out W).mono fun e w' ⟨he, hw⟩ => ⟨he, hw ▸ h⟩) ?_
              simp only [Act.put, List.setIfInBounds_toArray, List.set_cons_zero, List.set_cons_succ]
              unfold wpQuiet
              intro wy hb
              have HB2 := Lib.hid (HBX.out.trans (hb.mono (by have := HBX.out.size; have := HG.out; have := HO2.out.le; omega)))
              have HO3 := Lib.hid (HO2.out.below hb)
              clear hb ci ca
              go_wp2_with fail
              go_meet
              exact ⟨i, rfl, HPT.out, HI0X.out, (fun _ => HLV.out), HO3.out, HB2.out⟩
          · have k0 : ¬ (i : Int) ≤ (j : Int) := by omega
            clear hown
            go_wp2_with fail
            refine wp_region_class (fun w' => Below wx.heap.size wx w') 13 (by kernel_rfl) (by kernel_rfl) (Below.refl _ wx).drew ?_
            simp only [List.take_succ_cons, List.take_zero, List.drop_succ_cons, List.drop_zero]
            refine quiet_moveV rfl _ rfl (.int .i64 (i : Int)) rfl ?_
            simp only [Act.put, List.setIfInBounds_toArray, List.set_cons_zero, List.set_cons_succ]
            refine quiet_moveV rfl _ rfl (.int .i64 (j : Int)) rfl ?_
            simp only [Act.put, List.setIfInBounds_toArray, List.set_cons_zero, List.set_cons_succ]
            refine quiet_still rfl (.bool false) (fun w _ => by go_simp) ?_
            simp only [Act.put, List.setIfInBounds_toArray, List.set_cons_zero, List.set_cons_succ]
            refine quiet_moveV rfl _ rfl (.bool false) rfl ?_
            simp only [Act.put, List.setIfInBounds_toArray, List.set_cons_zero, List.set_cons_succ]
            refine quiet_skip (by kernel_rfl) ?_
            simp only [Act.put, List.setIfInBounds_toArray, List.set_cons_zero, List.set_cons_succ]
            refine quiet_skip (by kernel_rfl) ?_
            simp only [Act.put, List.setIfInBounds_toArray, List.set_cons_zero, List.set_cons_succ]
            refine quiet_skip (by kernel_rfl) ?_
            simp only [Act.put, List.setIfInBounds_toArray, List.set_cons_zero, List.set_cons_succ]
            refine quiet_skip (by kernel_rfl) ?_
            simp only [Act.put, List.setIfInBounds_toArray, List.set_cons_zero, List.set_cons_succ]
            refine quiet_skip (by kernel_rfl) ?_
            simp only [Act.put, List.setIfInBounds_toArray, List.set_cons_zero, List.set_cons_succ]
            refine quiet_skip (by kernel_rfl) ?_
            simp only [Act.put, List.setIfInBounds_toArray, List.set_cons_zero, List.set_cons_succ]
            refine quiet_skip (by kernel_rfl) ?_
            simp only [Act.put, List.setIfInBounds_toArray, List.set_cons_zero, List.set_cons_succ]
            refine quiet_skip (by kernel_rfl) ?_
            simp only [Act.put, List.setIfInBounds_toArray, List.set_cons_zero, List.set_cons_succ]
            refine quiet_skip (by kernel_rfl) ?_
            simp only [Act.put, List.setIfInBounds_toArray, List.set_cons_zero, List.set_cons_succ]
            unfold wpQuiet
            intro wy hb
            have HB2 := Lib.hid (HBX.out.trans (hb.mono (by have := HBX.out.size; have := HG.out; have := HO2.out.le; omega)))
            have HO3 := Lib.hid (HO2.out.below hb)
            clear hb
            go_wp2_with fail
            go_meet
            exact ⟨i, rfl, HPT.out, HI0X.out, (fun h => absurd h hin), HO3.out, HB2.out⟩
      case rest =>
        obtain ⟨i, rfl, hpt, hi0, he, hown, hb⟩ := hcut
        have HI0L := Lib.hid hi0
        clear hi0
        clear hai hij hjb
        rename World => w3
        have HPT0 := Lib.hid hpt
        have HO0 := Lib.hid hown
        have HB0 := Lib.hid hb
        have HE0 := Lib.hid he
        have hai := hpt.ai
        have hij := hpt.ij
        have hjb := hpt.jb
        clear hpt he hb hown
        go_upto_block 2 with fail
        go_cut [11] from 46 to 62 (fun iv wc => ∃ j : Nat, iv = .int .i64 (j : Int) ∧ PT (fun u => u < P) P (fB R) a b i j ∧ (i ≤ j → (fun u => u < P) (fB R j)) ∧ (i ≤ j → ¬ (fun u => u < P) (fB R i)) ∧ BR wc B g n R ∧ Below B w wc)
        case first =>
          go_wp2_with fail
          go_loopw [11] (fun iv wx => ∃ j : Nat, iv = .int .i64 (j : Int) ∧ PT (fun u => u < P) P (fB R) a b i j ∧ (i ≤ j → ¬ (fun u => u < P) (fB R i)) ∧ BR wx B g n R ∧ Below B w wx) (fun iv _ => (intOf iv).toNat)
          case atStart => exact ⟨j, by first | rfl | go_num, HPT0.out, HE0.out, HO0.out, HB0.out⟩
          case round =>
            obtain ⟨j, rfl, hpt, he, hown, hbx⟩ := hrel
            rename World => wx
            have HPT := Lib.hid hpt
            have HO2 := Lib.hid hown
            have HBX := Lib.hid hbx
            have HG := Lib.hid (show g < wx.heap.size from hown.lt)
            have hRl : R.length = n := hown.len
            have hai := hpt.ai
            have hij := hpt.ij
            have hjb := hpt.jb
            have HE := Lib.hid he
            clear he
            clear hpt hbx
            by_cases hin : i ≤ j
            · obtain ⟨x, hx⟩ : ∃ x, R[j]? = some x := ⟨_, List.getElem?_eq_getElem (by omega)⟩
              obtain ⟨y, hy⟩ : ∃ y, R[a]? = some y := ⟨_, List.getElem?_eq_getElem (by omega)⟩
              have ci : wx.cell? ⟨g, j, none⟩ = some (.int .u8 (x.toNat : Int)) := hown.cl _ _ hx
              have ca : wx.cell? ⟨g, a, none⟩ = some (.int .u8 (y.toNat : Int)) := hown.cl _ _ hy
              have k0 : (i : Int) ≤ (j : Int) := by omega
              have i0 : (0 : Int) ≤ (j : Int) := by omega
              have i1 : (j : Int) < (n : Int) := by omega
              have a0 : (0 : Int) ≤ (a : Int) := by omega
              have a1 : (a : Int) < (n : Int) := by omega
              have HXE := Lib.hid (show fB R j = x.toNat from fB_get hx)
              have HYE := Lib.hid (show fB R a = y.toNat from fB_get hy)
              clear hown
              by_cases hlt : x.toNat < y.toNat
              · have CL := Lib.hid (fun W => less_any x y true (by simp [hlt]) W)
                have HLV := Lib.hid (show (fun u => u < P) (fB R j) from by have h1 := HXE.out; have h2 := HYE.out; have h3 := HPT.out.pv; have h4 := hlt; clear HPT HXE HYE CL; show (fB R j < P); rw [h1, ← h3, h2]; omega)
                go_wp2_with fail
                refine wp_region_class (fun w' => Below wx.heap.size wx w') 14 (by kernel_rfl) (by kernel_rfl) (Below.refl _ wx).drew ?_
                simp only [List.take_succ_cons, List.take_zero, List.drop_succ_cons, List.drop_zero]
                refine quiet_moveV rfl _ rfl (.int .i64 (i : Int)) rfl ?_
                simp only [Act.put, List.setIfInBounds_toArray, List.set_cons_zero, List.set_cons_succ]
                refine quiet_moveV rfl _ rfl (.int .i64 (j : Int)) rfl ?_
                simp only [Act.put, List.setIfInBounds_toArray, List.set_cons_zero, List.set_cons_succ]
                refine quiet_still rfl (.bool true) (fun w _ => by go_simp) ?_
                simp only [Act.put, List.setIfInBounds_toArray, List.set_cons_zero, List.set_cons_succ]
                refine quiet_moveV rfl _ rfl (.bool true) rfl ?_
                simp only [Act.put, List.setIfInBounds_toArray, List.set_cons_zero, List.set_cons_succ]
                refine quietW_moveV (by kernel_rfl) _ rfl (.slice (some ⟨g, 0, none⟩) n c) rfl ?_
                simp only [Act.put, List.setIfInBounds_toArray, List.set_cons_zero, List.set_cons_succ]
                refine quietW_moveV (by kernel_rfl) _ rfl (.int .i64 (j : Int)) rfl ?_
                simp only [Act.put, List.setIfInBounds_toArray, List.set_cons_zero, List.set_cons_succ]
                refine quietW_still (by kernel_rfl) (.pointer (some ⟨g, j, none⟩)) (fun w _ => by go_simp) ?_
                simp only [Act.put, List.setIfInBounds_toArray, List.set_cons_zero, List.set_cons_succ]
                refine quietW_load1 (by kernel_rfl) _ _ rfl ⟨g, j, none⟩ rfl (.int .u8 (x.toNat : Int)) (load_u8 _ _) (fun _ h => (h.cell (p := ⟨g, j, none⟩) HG.out).trans ci) ?_
                simp only [Act.put, List.setIfInBounds_toArray, List.set_cons_zero, List.set_cons_succ]
                refine quietW_moveV (by kernel_rfl) _ rfl (.slice (some ⟨g, 0, none⟩) n c) rfl ?_
                simp only [Act.put, List.setIfInBounds_toArray, List.set_cons_zero, List.set_cons_succ]
                refine quietW_moveV (by kernel_rfl) _ rfl (.int .i64 (a : Int)) rfl ?_
                simp only [Act.put, List.setIfInBounds_toArray, List.set_cons_zero, List.set_cons_succ]
                refine quietW_still (by kernel_rfl) (.pointer (some ⟨g, a, none⟩)) (fun w _ => by go_simp) ?_
                simp only [Act.put, List.setIfInBounds_toArray, List.set_cons_zero, List.set_cons_succ]
                refine quietW_load1 (by kernel_rfl) _ _ rfl ⟨g, a, none⟩ rfl (.int .u8 (y.toNat : Int)) (load_u8 _ _) (fun _ h => (h.cell (p := ⟨g, a, none⟩) HG.out).trans ca) ?_
                simp only [Act.put, List.setIfInBounds_toArray, List.set_cons_zero, List.set_cons_succ]
                refine quietW_call (by kernel_rfl) 127 _ _ rfl (enter_of Tryz.func127 (by decide) (by intro h; cases h)) _ (fun W h => (CL.out W).mono fun e w' ⟨he, hw⟩ => ⟨he, hw ▸ h⟩) ?_
                simp only [Act.put, List.setIfInBounds_toArray, List.set_cons_zero, List.set_cons_succ]
                refine quietW_still (by kernel_rfl) (.bool false) (fun w _ => by go_simp) ?_
                simp only [Act.put, List.setIfInBounds_toArray, List.set_cons_zero, List.set_cons_succ]
                unfold wpQuiet
                intro wy hb
                have HB2 := Lib.hid (HBX.out.trans (hb.mono (by have := HBX.out.size; have := HG.out; have := HO2.out.le; omega)))
                have HO3 := Lib.hid (HO2.out.below hb)
                clear hb ci ca
                go_wp2_with fail
                go_meet
                exact ⟨j, rfl, HPT.out, (fun _ => HLV.out), HE.out, HO3.out, HB2.out⟩
              · have CL := Lib.hid (fun W => less_any x y false (by simp [hlt]) W)
                have HLV := Lib.hid (show ¬ (fun u => u < P) (fB R j) from by have h1 := HXE.out; have h2 := HYE.out; have h3 := HPT.out.pv; have h4 := hlt; clear HPT HXE HYE CL; show ¬ (fB R j < P); rw [h1, ← h3, h2]; omega)
                go_wp2_with fail
                refine wp_region_class (fun w' => Below wx.heap.size wx w') 14 (by kernel_rfl) (by kernel_rfl) (Below.refl _ wx).drew ?_
                simp only [List.take_succ_cons, List.take_zero, List.drop_succ_cons, List.drop_zero]
                refine quiet_moveV rfl _ rfl (.int .i64 (i : Int)) rfl ?_
                simp only [Act.put, List.setIfInBounds_toArray, List.set_cons_zero, List.set_cons_succ]
                refine quiet_moveV rfl _ rfl (.int .i64 (j : Int)) rfl ?_
                simp only [Act.put, List.setIfInBounds_toArray, List.set_cons_zero, List.set_cons_succ]
                refine quiet_still rfl (.bool true) (fun w _ => by go_simp) ?_
                simp only [Act.put, List.setIfInBounds_toArray, List.set_cons_zero, List.set_cons_succ]
                refine quiet_moveV rfl _ rfl (.bool true) rfl ?_
                simp only [Act.put, List.setIfInBounds_toArray, List.set_cons_zero, List.set_cons_succ]
                refine quietW_moveV (by kernel_rfl) _ rfl (.slice (some ⟨g, 0, none⟩) n c) rfl ?_
                simp only [Act.put, List.setIfInBounds_toArray, List.set_cons_zero, List.set_cons_succ]
                refine quietW_moveV (by kernel_rfl) _ rfl (.int .i64 (j : Int)) rfl ?_
                simp only [Act.put, List.setIfInBounds_toArray, List.set_cons_zero, List.set_cons_succ]
                refine quietW_still (by kernel_rfl) (.pointer (some ⟨g, j, none⟩)) (fun w _ => by go_simp) ?_
                simp only [Act.put, List.setIfInBounds_toArray, List.set_cons_zero, List.set_cons_succ]
                refine quietW_load1 (by kernel_rfl) _ _ rfl ⟨g, j, none⟩ rfl (.int .u8 (x.toNat : Int)) (load_u8 _ _) (fun _ h => (h.cell (p := ⟨g, j, none⟩) HG.out).trans ci) ?_
                simp only [Act.put, List.setIfInBounds_toArray, List.set_cons_zero, List.set_cons_succ]
                refine quietW_moveV (by kernel_rfl) _ rfl (.slice (some ⟨g, 0, none⟩) n c) rfl ?_
                simp only [Act.put, List.setIfInBounds_toArray, List.set_cons_zero, List.set_cons_succ]
                refine quietW_moveV (by kernel_rfl) _ rfl (.int .i64 (a : Int)) rfl ?_
                simp only [Act.put, List.setIfInBounds_toArray, List.set_cons_zero, List.set_cons_succ]
                refine quietW_still (by kernel_rfl) (.pointer (some ⟨g, a, none⟩)) (fun w _ => by go_simp) ?_
                simp only [Act.put, List.setIfInBounds_toArray, List.set_cons_zero, List.set_cons_succ]
                refine quietW_load1 (by kernel_rfl) _ _ rfl ⟨g, a, none⟩ rfl (.int .u8 (y.toNat : Int)) (load_u8 _ _) (fun _ h => (h.cell (p := ⟨g, a, none⟩) HG.out).trans ca) ?_
                simp only [Act.put, List.setIfInBounds_toArray, List.set_cons_zero, List.set_cons_succ]
                refine quietW_call (by kernel_rfl) 127 _ _ rfl (enter_of Tryz.func127 (by decide) (by intro h; cases h)) _ (fun W h => (CL.out W).mono fun e w' ⟨he, hw⟩ => ⟨he, hw ▸ h⟩) ?_
                simp only [Act.put, List.setIfInBounds_toArray, List.set_cons_zero, List.set_cons_succ]
                refine quietW_still (by kernel_rfl) (.bool true) (fun w _ => by go_simp) ?_
                simp only [Act.put, List.setIfInBounds_toArray, List.set_cons_zero, List.set_cons_succ]
                unfold wpQuiet
                intro wy hb
                have HB2 := Lib.hid (HBX.out.trans (hb.mono (by have := HBX.out.size; have := HG.out; have := HO2.out.le; omega)))
                have HO3 := Lib.hid (HO2.out.below hb)
                clear hb ci ca
                have hpred : ((j : Int) - 1) = ((j - 1 : Nat) : Int) := by omega
                have hpw : IntKind.i64.wrap ((j : Int) - 1) = ((j - 1 : Nat) : Int) := by rw [hpred]; exact IntWalk.i64_in _ (by omega)
                clear hpred
                go_wp2_with fail
                go_roundw
                case rel => exact ⟨j - 1, by first | go_num | (congr 1; omega), HPT.out.down hin HLV.out, (fun h => HE.out (by omega)), HO3.out, HB2.out⟩
                case measure => (simp [intOf] <;> omega)
            · have k0 : ¬ (i : Int) ≤ (j : Int) := by omega
              clear hown
              go_wp2_with fail
              refine wp_region_class (fun w' => Below wx.heap.size wx w') 14 (by kernel_rfl) (by kernel_rfl) (Below.refl _ wx).drew ?_
              simp only [List.take_succ_cons, List.take_zero, List.drop_succ_cons, List.drop_zero]
              refine quiet_moveV rfl _ rfl (.int .i64 (i : Int)) rfl ?_
              simp only [Act.put, List.setIfInBounds_toArray, List.set_cons_zero, List.set_cons_succ]
              refine quiet_moveV rfl _ rfl (.int .i64 (j : Int)) rfl ?_
              simp only [Act.put, List.setIfInBounds_toArray, List.set_cons_zero, List.set_cons_succ]
              refine quiet_still rfl (.bool false) (fun w _ => by go_simp) ?_
              simp only [Act.put, List.setIfInBounds_toArray, List.set_cons_zero, List.set_cons_succ]
              refine quiet_moveV rfl _ rfl (.bool false) rfl ?_
              simp only [Act.put, List.setIfInBounds_toArray, List.set_cons_zero, List.set_cons_succ]
              refine quiet_skip (by kernel_rfl) ?_
              simp only [Act.put, List.setIfInBounds_toArray, List.set_cons_zero, List.set_cons_succ]
              refine quiet_skip (by kernel_rfl) ?_
              simp only [Act.put, List.setIfInBounds_toArray, List.set_cons_zero, List.set_cons_succ]
              refine quiet_skip (by kernel_rfl) ?_
              simp only [Act.put, List.setIfInBounds_toArray, List.set_cons_zero, List.set_cons_succ]
              refine quiet_skip (by kernel_rfl) ?_
              simp only [Act.put, List.setIfInBounds_toArray, List.set_cons_zero, List.set_cons_succ]
              refine quiet_skip (by kernel_rfl) ?_
              simp only [Act.put, List.setIfInBounds_toArray, List.set_cons_zero, List.set_cons_succ]
              refine quiet_skip (by kernel_rfl) ?_
              simp only [Act.put, List.setIfInBounds_toArray, List.set_cons_zero, List.set_cons_succ]
              refine quiet_skip (by kernel_rfl) ?_
              simp only [Act.put, List.setIfInBounds_toArray, List.set_cons_zero, List.set_cons_succ]
              refine quiet_skip (by kernel_rfl) ?_
              simp only [Act.put, List.setIfInBounds_toArray, List.set_cons_zero, List.set_cons_succ]
              refine quiet_skip (by kernel_rfl) ?_
              simp only [Act.put, List.setIfInBounds_toArray, List.set_cons_zero, List.set_cons_succ]
              refine quiet_skip (by kernel_rfl) ?_
              simp only [Act.put, List.setIfInBounds_toArray, List.set_cons_zero, List.set_cons_succ]
              unfold wpQuiet
              intro wy hb
              have HB2 := Lib.hid (HBX.out.trans (hb.mono (by have := HBX.out.size; have := HG.out; have := HO2.out.le; omega)))
              have HO3 := Lib.hid (HO2.out.below hb)
              clear hb
              go_wp2_with fail
              go_meet
              exact ⟨j, rfl, HPT.out, (fun h => absurd h hin), HE.out, HO3.out, HB2.out⟩
        case rest =>
          obtain ⟨j, rfl, hpt, hf, he, hown, hb⟩ := hcut
          rename World => w4
          clear hai hij hjb
          have hai := hpt.ai
          have hij := hpt.ij
          have hjb := hpt.jb
          have hgi : (j : Int) < (i : Int) ∨ ¬ (j : Int) < (i : Int) := by omega
          by_cases hgt : i ≤ j
          · have k1 : ¬ (j : Int) < (i : Int) := by omega
            have HFI := Lib.hid (he hgt)
            have HFJ := Lib.hid (hf hgt)
            have HPT := Lib.hid hpt
            have HB := Lib.hid hb
            clear hpt hb he hf
            go_upto_region 10 with fail
            go_cut [] from 81 to 94 (fun wc => ∃ R2 : List UInt8, BR wc B g n R2 ∧ Sw a b l R2 ∧ (∀ p, fB R2 p = if p = j then fB R i else if p = i then fB R j else fB R p) ∧ Below B w wc)
            case first =>
              have hRl2 : R.length = n := hown.len
              obtain ⟨x, hx⟩ : ∃ x, R[i]? = some x := ⟨_, List.getElem?_eq_getElem (by omega)⟩
              obtain ⟨y, hy⟩ : ∃ y, R[j]? = some y := ⟨_, List.getElem?_eq_getElem (by omega)⟩
              have ci : w4.cell? ⟨g, i, none⟩ = some (.int .u8 (x.toNat : Int)) := hown.cl _ _ hx
              have cj : w4.cell? ⟨g, j, none⟩ = some (.int .u8 (y.toNat : Int)) := hown.cl _ _ hy
              have f0 := hown.fz i (by omega)
              have f1 := hown.fz j (by omega)
              have i0 : (0 : Int) ≤ (i : Int) := by omega
              have i1 : (i : Int) < (n : Int) := by omega
              have j1 : (0 : Int) ≤ (j : Int) := by omega
              have j2 : (j : Int) < (n : Int) := by omega
              have Hs2 := Lib.hid (((hown.set (j := i) (by omega) y).set (j := j) (by omega) x).drew)
              have HSW2 := Lib.hid (show Sw a b l ((R.set i y).set j x) from HSW.out.step hx hy (by omega) (by omega) (by omega) (by omega))
              have HFE := Lib.hid (fun p => fB_sw hx hy p)
              have HBN := Lib.hid (((HB.out.setCell (p := ⟨g, i, none⟩) hBg (.int .u8 (y.toNat : Int))).setCell (p := ⟨g, j, none⟩) hBg (.int .u8 (x.toNat : Int))).drew)
              clear hown
              by_cases hne : i = j
              · subst hne
                obtain rfl : x = y := Option.some.inj (hx.symm.trans hy)
                go_wp2_with fail
                go_region
                go_wp2_with fail
                go_meet
                exact ⟨_, Hs2.out, HSW2.out, HFE.out, HBN.out⟩
              · go_wp2_with fail
                go_region
                go_wp2_with fail
                go_meet
                exact ⟨_, Hs2.out, HSW2.out, HFE.out, HBN.out⟩
            case rest =>
              obtain ⟨R2, hown, hsw2, hfe, hb⟩ := hcut
              have hpt := HPT.out.swap hgt HFI.out HFJ.out hfe
              obtain ⟨i2, hi2⟩ : ∃ i2, i2 = i + 1 := ⟨_, rfl⟩
              obtain ⟨j2, hj2⟩ : ∃ j2, j2 = j - 1 := ⟨_, rfl⟩
              rw [← hi2, ← hj2] at hpt
              have HPT2 := Lib.hid hpt
              have HSW2 := Lib.hid hsw2
              have HO2 := Lib.hid hown
              rename World => w5
              have HB5 := Lib.hid hb
              clear hfe hsw2 hown hpt hb
              have HI2 := Lib.hid hi2
              have HJ2 := Lib.hid hj2
              clear hi2 hj2
              go_upto_region 11 with fail
              go_cut [10] from 95 to 96 (fun s wc => s = .int .i64 (i2 : Int) ∧ wc = w5)
              case first =>
                go_wp2_with fail
                go_meet
                exact ⟨by have := HI2.out; congr 1; omega, rfl⟩
              case rest =>
                obtain ⟨rfl, hwc⟩ := hcut
                obtain rfl := hwc.symm
                clear hwc
                go_upto_region 12 with fail
                go_cut [11] from 97 to 98 (fun s wc => s = .int .i64 (j2 : Int) ∧ wc = w5)
                case first =>
                  go_wp2_with fail
                  go_meet
                  exact ⟨by have := HJ2.out; congr 1; omega, rfl⟩
                case rest =>
                  obtain ⟨rfl, hwc⟩ := hcut
                  obtain rfl := hwc.symm
                  clear hwc
                  go_wp2_with fail
                  clear hai hij hjb HPT HE0 HFI HFJ HO0 HB0 HPT0 HB HO HSW
                  go_loopw [10, 11] (fun iv jv wr => ∃ (i j : Nat) (R : List UInt8), iv = .int .i64 (i : Int) ∧ jv = .int .i64 (j : Int) ∧ PT (fun u => u < P) P (fB R) a b i j ∧ Sw a b l R ∧ BR wr B g n R ∧ Below B w wr) (fun iv jv _ => n + 1 - (intOf iv).toNat)
                  case atStart => exact ⟨i2, j2, R2, rfl, rfl, HPT2.out, HSW2.out, HO2.out, HB5.out⟩
                  case round =>
                    obtain ⟨i, j, R, rfl, rfl, hpt, hsw, hown, hb⟩ := hrel
                    have HSW := Lib.hid hsw
                    clear hsw HPT2 HSW2 HO2 HB5 HI2 HJ2 k1 hgt
                    rename World => w12
                    have HPT0 := Lib.hid hpt
                    have HO0 := Lib.hid hown
                    have HB0 := Lib.hid hb
                    have hai := hpt.ai
                    have hij := hpt.ij
                    have hjb := hpt.jb
                    clear hpt hb hown
                    obtain ⟨i0, hi0⟩ : ∃ i0, i0 = i := ⟨_, rfl⟩
                    have HI0E := Lib.hid hi0
                    have HI0 := Lib.hid (show i0 ≤ i by omega)
                    clear hi0
                    go_upto_block 6 with fail
                    go_cut [10] from 99 to 114 (fun iv wc => ∃ i : Nat, iv = .int .i64 (i : Int) ∧ PT (fun u => u < P) P (fB R) a b i j ∧ i0 ≤ i ∧ (i ≤ j → ¬ (fun u => u < P) (fB R i)) ∧ BR wc B g n R ∧ Below B w wc)
                    case first =>
                      go_wp2_with fail
                      go_loopw [10] (fun iv wx => ∃ i : Nat, iv = .int .i64 (i : Int) ∧ PT (fun u => u < P) P (fB R) a b i j ∧ i0 ≤ i ∧ BR wx B g n R ∧ Below B w wx) (fun iv _ => n + 1 - (intOf iv).toNat)
                      case atStart => exact ⟨i, by first | rfl | go_num, HPT0.out, HI0.out, HO0.out, HB0.out⟩
                      case round =>
                        obtain ⟨i, rfl, hpt, hi0x, hown, hbx⟩ := hrel
                        rename World => wx
                        have HPT := Lib.hid hpt
                        have HO2 := Lib.hid hown
                        have HBX := Lib.hid hbx
                        have HG := Lib.hid (show g < wx.heap.size from hown.lt)
                        have hRl : R.length = n := hown.len
                        have hai := hpt.ai
                        have hij := hpt.ij
                        have hjb := hpt.jb
                        have HI0X := Lib.hid hi0x
                        clear hi0x
                        clear hpt hbx
                        by_cases hin : i ≤ j
                        · obtain ⟨x, hx⟩ : ∃ x, R[i]? = some x := ⟨_, List.getElem?_eq_getElem (by omega)⟩
                          obtain ⟨y, hy⟩ : ∃ y, R[a]? = some y := ⟨_, List.getElem?_eq_getElem (by omega)⟩
                          have ci : wx.cell? ⟨g, i, none⟩ = some (.int .u8 (x.toNat : Int)) := hown.cl _ _ hx
                          have ca : wx.cell? ⟨g, a, none⟩ = some (.int .u8 (y.toNat : Int)) := hown.cl _ _ hy
                          have k0 : (i : Int) ≤ (j : Int) := by omega
                          have i0 : (0 : Int) ≤ (i : Int) := by omega
                          have i1 : (i : Int) < (n : Int) := by omega
                          have a0 : (0 : Int) ≤ (a : Int) := by omega
                          have a1 : (a : Int) < (n : Int) := by omega
                          have HXE := Lib.hid (show fB R i = x.toNat from fB_get hx)
                          have HYE := Lib.hid (show fB R a = y.toNat from fB_get hy)
                          clear hown
                          by_cases hlt : x.toNat < y.toNat
                          · have CL := Lib.hid (fun W => less_any x y true (by simp [hlt]) W)
                            have HLV := Lib.hid (show (fun u => u < P) (fB R i) from by have h1 := HXE.out; have h2 := HYE.out; have h3 := HPT.out.pv; have h4 := hlt; clear HPT HXE HYE CL; show (fB R i < P); rw [h1, ← h3, h2]; omega)
                            go_wp2_with fail
                            refine wp_region_class (fun w' => Below wx.heap.size wx w') 13 (by kernel_rfl) (by kernel_rfl) (Below.refl _ wx).drew ?_
                            simp only [List.take_succ_cons, List.take_zero, List.drop_succ_cons, List.drop_zero]
                            refine quiet_moveV rfl _ rfl (.int .i64 (i : Int)) rfl ?_
                            simp only [Act.put, List.setIfInBounds_toArray, List.set_cons_zero, List.set_cons_succ]
                            refine quiet_moveV rfl _ rfl (.int .i64 (j : Int)) rfl ?_
                            simp only [Act.put, List.setIfInBounds_toArray, List.set_cons_zero, List.set_cons_succ]
                            refine quiet_still rfl (.bool true) (fun w _ => by go_simp) ?_
                            simp only [Act.put, List.setIfInBounds_toArray, List.set_cons_zero, List.set_cons_succ]
                            refine quiet_moveV rfl _ rfl (.bool true) rfl ?_
                            simp only [Act.put, List.setIfInBounds_toArray, List.set_cons_zero, List.set_cons_succ]
                            refine quietW_moveV (by kernel_rfl) _ rfl (.slice (some ⟨g, 0, none⟩) n c) rfl ?_
                            simp only [Act.put, List.setIfInBounds_toArray, List.set_cons_zero, List.set_cons_succ]
                            refine quietW_moveV (by kernel_rfl) _ rfl (.int .i64 (i : Int)) rfl ?_
                            simp only [Act.put, List.setIfInBounds_toArray, List.set_cons_zero, List.set_cons_succ]
                            refine quietW_still (by kernel_rfl) (.pointer (some ⟨g, i, none⟩)) (fun w _ => by go_simp) ?_
                            simp only [Act.put, List.setIfInBounds_toArray, List.set_cons_zero, List.set_cons_succ]
                            refine quietW_load1 (by kernel_rfl) _ _ rfl ⟨g, i, none⟩ rfl (.int .u8 (x.toNat : Int)) (load_u8 _ _) (fun _ h => (h.cell (p := ⟨g, i, none⟩) HG.out).trans ci) ?_
                            simp only [Act.put, List.setIfInBounds_toArray, List.set_cons_zero, List.set_cons_succ]
                            refine quietW_moveV (by kernel_rfl) _ rfl (.slice (some ⟨g, 0, none⟩) n c) rfl ?_
                            simp only [Act.put, List.setIfInBounds_toArray, List.set_cons_zero, List.set_cons_succ]
                            refine quietW_moveV (by kernel_rfl) _ rfl (.int .i64 (a : Int)) rfl ?_
                            simp only [Act.put, List.setIfInBounds_toArray, List.set_cons_zero, List.set_cons_succ]
                            refine quietW_still (by kernel_rfl) (.pointer (some ⟨g, a, none⟩)) (fun w _ => by go_simp) ?_
                            simp only [Act.put, List.setIfInBounds_toArray, List.set_cons_zero, List.set_cons_succ]
                            refine quietW_load1 (by kernel_rfl) _ _ rfl ⟨g, a, none⟩ rfl (.int .u8 (y.toNat : Int)) (load_u8 _ _) (fun _ h => (h.cell (p := ⟨g, a, none⟩) HG.out).trans ca) ?_
                            simp only [Act.put, List.setIfInBounds_toArray, List.set_cons_zero, List.set_cons_succ]
                            refine quietW_call (by kernel_rfl) 127 _ _ rfl (enter_of Tryz.func127 (by decide) (by intro h; cases h)) _ (fun W h => (CL.out W).mono fun e w' ⟨he, hw⟩ => ⟨he, hw ▸ h⟩) ?_
                            simp only [Act.put, List.setIfInBounds_toArray, List.set_cons_zero, List.set_cons_succ]
                            unfold wpQuiet
                            intro wy hb
                            have HB2 := Lib.hid (HBX.out.trans (hb.mono (by have := HBX.out.size; have := HG.out; have := HO2.out.le; omega)))
                            have HO3 := Lib.hid (HO2.out.below hb)
                            clear hb ci ca
                            go_wp2_with fail
                            go_roundw
                            case rel => exact ⟨i + 1, by first | go_num | (congr 1; omega), HPT.out.up hin HLV.out, (by have := HI0X.out; omega), HO3.out, HB2.out⟩
                            case measure => (simp [intOf] <;> omega)
                          · have CL := Lib.hid (fun W => less_any x y false (by simp [hlt]) W)
                            have HLV := Lib.hid (show ¬ (fun u => u < P) (fB R i) from by have h1 := HXE.out; have h2 := HYE.out; have h3 := HPT.out.pv; have h4 := hlt; clear HPT HXE HYE CL; show ¬ (fB R i < P); rw [h1, ← h3, h2]; omega)
                            go_wp2_with fail
                            refine wp_region_class (fun w' => Below wx.heap.size wx w') 13 (by kernel_rfl) (by kernel_rfl) (Below.refl _ wx).drew ?_
                            simp only [List.take_succ_cons, List.take_zero, List.drop_succ_cons, List.drop_zero]
                            refine quiet_moveV rfl _ rfl (.int .i64 (i : Int)) rfl ?_
                            simp only [Act.put, List.setIfInBounds_toArray, List.set_cons_zero, List.set_cons_succ]
                            refine quiet_moveV rfl _ rfl (.int .i64 (j : Int)) rfl ?_
                            simp only [Act.put, List.setIfInBounds_toArray, List.set_cons_zero, List.set_cons_succ]
                            refine quiet_still rfl (.bool true) (fun w _ => by go_simp) ?_
                            simp only [Act.put, List.setIfInBounds_toArray, List.set_cons_zero, List.set_cons_succ]
                            refine quiet_moveV rfl _ rfl (.bool true) rfl ?_
                            simp only [Act.put, List.setIfInBounds_toArray, List.set_cons_zero, List.set_cons_succ]
                            refine quietW_moveV (by kernel_rfl) _ rfl (.slice (some ⟨g, 0, none⟩) n c) rfl ?_
                            simp only [Act.put, List.setIfInBounds_toArray, List.set_cons_zero, List.set_cons_succ]
                            refine quietW_moveV (by kernel_rfl) _ rfl (.int .i64 (i : Int)) rfl ?_
                            simp only [Act.put, List.setIfInBounds_toArray, List.set_cons_zero, List.set_cons_succ]
                            refine quietW_still (by kernel_rfl) (.pointer (some ⟨g, i, none⟩)) (fun w _ => by go_simp) ?_
                            simp only [Act.put, List.setIfInBounds_toArray, List.set_cons_zero, List.set_cons_succ]
                            refine quietW_load1 (by kernel_rfl) _ _ rfl ⟨g, i, none⟩ rfl (.int .u8 (x.toNat : Int)) (load_u8 _ _) (fun _ h => (h.cell (p := ⟨g, i, none⟩) HG.out).trans ci) ?_
                            simp only [Act.put, List.setIfInBounds_toArray, List.set_cons_zero, List.set_cons_succ]
                            refine quietW_moveV (by kernel_rfl) _ rfl (.slice (some ⟨g, 0, none⟩) n c) rfl ?_
                            simp only [Act.put, List.setIfInBounds_toArray, List.set_cons_zero, List.set_cons_succ]
                            refine quietW_moveV (by kernel_rfl) _ rfl (.int .i64 (a : Int)) rfl ?_
                            simp only [Act.put, List.setIfInBounds_toArray, List.set_cons_zero, List.set_cons_succ]
                            refine quietW_still (by kernel_rfl) (.pointer (some ⟨g, a, none⟩)) (fun w _ => by go_simp) ?_
                            simp only [Act.put, List.setIfInBounds_toArray, List.set_cons_zero, List.set_cons_succ]
                            refine quietW_load1 (by kernel_rfl) _ _ rfl ⟨g, a, none⟩ rfl (.int .u8 (y.toNat : Int)) (load_u8 _ _) (fun _ h => (h.cell (p := ⟨g, a, none⟩) HG.out).trans ca) ?_
                            simp only [Act.put, List.setIfInBounds_toArray, List.set_cons_zero, List.set_cons_succ]
                            refine quietW_call (by kernel_rfl) 127 _ _ rfl (enter_of Tryz.func127 (by decide) (by intro h; cases h)) _ (fun W h => (CL.out W).mono fun e w' ⟨he, hw⟩ => ⟨he, hw ▸ h⟩) ?_
                            simp only [Act.put, List.setIfInBounds_toArray, List.set_cons_zero, List.set_cons_succ]
                            unfold wpQuiet
                            intro wy hb
                            have HB2 := Lib.hid (HBX.out.trans (hb.mono (by have := HBX.out.size; have := HG.out; have := HO2.out.le; omega)))
                            have HO3 := Lib.hid (HO2.out.below hb)
                            clear hb ci ca
                            go_wp2_with fail
                            go_meet
                            exact ⟨i, rfl, HPT.out, HI0X.out, (fun _ => HLV.out), HO3.out, HB2.out⟩
                        · have k0 : ¬ (i : Int) ≤ (j : Int) := by omega
                          clear hown
                          go_wp2_with fail
                          refine wp_region_class (fun w' => Below wx.heap.size wx w') 13 (by kernel_rfl) (by kernel_rfl) (Below.refl _ wx).drew ?_
                          simp only [List.take_succ_cons, List.take_zero, List.drop_succ_cons, List.drop_zero]
                          refine quiet_moveV rfl _ rfl (.int .i64 (i : Int)) rfl ?_
                          simp only [Act.put, List.setIfInBounds_toArray, List.set_cons_zero, List.set_cons_succ]
                          refine quiet_moveV rfl _ rfl (.int .i64 (j : Int)) rfl ?_
                          simp only [Act.put, List.setIfInBounds_toArray, List.set_cons_zero, List.set_cons_succ]
                          refine quiet_still rfl (.bool false) (fun w _ => by go_simp) ?_
                          simp only [Act.put, List.setIfInBounds_toArray, List.set_cons_zero, List.set_cons_succ]
                          refine quiet_moveV rfl _ rfl (.bool false) rfl ?_
                          simp only [Act.put, List.setIfInBounds_toArray, List.set_cons_zero, List.set_cons_succ]
                          refine quiet_skip (by kernel_rfl) ?_
                          simp only [Act.put, List.setIfInBounds_toArray, List.set_cons_zero, List.set_cons_succ]
                          refine quiet_skip (by kernel_rfl) ?_
                          simp only [Act.put, List.setIfInBounds_toArray, List.set_cons_zero, List.set_cons_succ]
                          refine quiet_skip (by kernel_rfl) ?_
                          simp only [Act.put, List.setIfInBounds_toArray, List.set_cons_zero, List.set_cons_succ]
                          refine quiet_skip (by kernel_rfl) ?_
                          simp only [Act.put, List.setIfInBounds_toArray, List.set_cons_zero, List.set_cons_succ]
                          refine quiet_skip (by kernel_rfl) ?_
                          simp only [Act.put, List.setIfInBounds_toArray, List.set_cons_zero, List.set_cons_succ]
                          refine quiet_skip (by kernel_rfl) ?_
                          simp only [Act.put, List.setIfInBounds_toArray, List.set_cons_zero, List.set_cons_succ]
                          refine quiet_skip (by kernel_rfl) ?_
                          simp only [Act.put, List.setIfInBounds_toArray, List.set_cons_zero, List.set_cons_succ]
                          refine quiet_skip (by kernel_rfl) ?_
                          simp only [Act.put, List.setIfInBounds_toArray, List.set_cons_zero, List.set_cons_succ]
                          refine quiet_skip (by kernel_rfl) ?_
                          simp only [Act.put, List.setIfInBounds_toArray, List.set_cons_zero, List.set_cons_succ]
                          unfold wpQuiet
                          intro wy hb
                          have HB2 := Lib.hid (HBX.out.trans (hb.mono (by have := HBX.out.size; have := HG.out; have := HO2.out.le; omega)))
                          have HO3 := Lib.hid (HO2.out.below hb)
                          clear hb
                          go_wp2_with fail
                          go_meet
                          exact ⟨i, rfl, HPT.out, HI0X.out, (fun h => absurd h hin), HO3.out, HB2.out⟩
                    case rest =>
                      obtain ⟨i, rfl, hpt, hi0, he, hown, hb⟩ := hcut
                      have HI0L := Lib.hid hi0
                      clear hi0
                      clear hai hij hjb
                      rename World => w13
                      have HPT0 := Lib.hid hpt
                      have HO0 := Lib.hid hown
                      have HB0 := Lib.hid hb
                      have HE0 := Lib.hid he
                      have hai := hpt.ai
                      have hij := hpt.ij
                      have hjb := hpt.jb
                      clear hpt he hb hown
                      go_upto_block 8 with fail
                      go_cut [11] from 115 to 131 (fun iv wc => ∃ j : Nat, iv = .int .i64 (j : Int) ∧ PT (fun u => u < P) P (fB R) a b i j ∧ (i ≤ j → (fun u => u < P) (fB R j)) ∧ (i ≤ j → ¬ (fun u => u < P) (fB R i)) ∧ BR wc B g n R ∧ Below B w wc)
                      case first =>
                        go_wp2_with fail
                        go_loopw [11] (fun iv wx => ∃ j : Nat, iv = .int .i64 (j : Int) ∧ PT (fun u => u < P) P (fB R) a b i j ∧ (i ≤ j → ¬ (fun u => u < P) (fB R i)) ∧ BR wx B g n R ∧ Below B w wx) (fun iv _ => (intOf iv).toNat)
                        case atStart => exact ⟨j, by first | rfl | go_num, HPT0.out, HE0.out, HO0.out, HB0.out⟩
                        case round =>
                          obtain ⟨j, rfl, hpt, he, hown, hbx⟩ := hrel
                          rename World => wx
                          have HPT := Lib.hid hpt
                          have HO2 := Lib.hid hown
                          have HBX := Lib.hid hbx
                          have HG := Lib.hid (show g < wx.heap.size from hown.lt)
                          have hRl : R.length = n := hown.len
                          have hai := hpt.ai
                          have hij := hpt.ij
                          have hjb := hpt.jb
                          have HE := Lib.hid he
                          clear he
                          clear hpt hbx
                          by_cases hin : i ≤ j
                          · obtain ⟨x, hx⟩ : ∃ x, R[j]? = some x := ⟨_, List.getElem?_eq_getElem (by omega)⟩
                            obtain ⟨y, hy⟩ : ∃ y, R[a]? = some y := ⟨_, List.getElem?_eq_getElem (by omega)⟩
                            have ci : wx.cell? ⟨g, j, none⟩ = some (.int .u8 (x.toNat : Int)) := hown.cl _ _ hx
                            have ca : wx.cell? ⟨g, a, none⟩ = some (.int .u8 (y.toNat : Int)) := hown.cl _ _ hy
                            have k0 : (i : Int) ≤ (j : Int) := by omega
                            have i0 : (0 : Int) ≤ (j : Int) := by omega
                            have i1 : (j : Int) < (n : Int) := by omega
                            have a0 : (0 : Int) ≤ (a : Int) := by omega
                            have a1 : (a : Int) < (n : Int) := by omega
                            have HXE := Lib.hid (show fB R j = x.toNat from fB_get hx)
                            have HYE := Lib.hid (show fB R a = y.toNat from fB_get hy)
                            clear hown
                            by_cases hlt : x.toNat < y.toNat
                            · have CL := Lib.hid (fun W => less_any x y true (by simp [hlt]) W)
                              have HLV := Lib.hid (show (fun u => u < P) (fB R j) from by have h1 := HXE.out; have h2 := HYE.out; have h3 := HPT.out.pv; have h4 := hlt; clear HPT HXE HYE CL; show (fB R j < P); rw [h1, ← h3, h2]; omega)
                              go_wp2_with fail
                              refine wp_region_class (fun w' => Below wx.heap.size wx w') 14 (by kernel_rfl) (by kernel_rfl) (Below.refl _ wx).drew ?_
                              simp only [List.take_succ_cons, List.take_zero, List.drop_succ_cons, List.drop_zero]
                              refine quiet_moveV rfl _ rfl (.int .i64 (i : Int)) rfl ?_
                              simp only [Act.put, List.setIfInBounds_toArray, List.set_cons_zero, List.set_cons_succ]
                              refine quiet_moveV rfl _ rfl (.int .i64 (j : Int)) rfl ?_
                              simp only [Act.put, List.setIfInBounds_toArray, List.set_cons_zero, List.set_cons_succ]
                              refine quiet_still rfl (.bool true) (fun w _ => by go_simp) ?_
                              simp only [Act.put, List.setIfInBounds_toArray, List.set_cons_zero, List.set_cons_succ]
                              refine quiet_moveV rfl _ rfl (.bool true) rfl ?_
                              simp only [Act.put, List.setIfInBounds_toArray, List.set_cons_zero, List.set_cons_succ]
                              refine quietW_moveV (by kernel_rfl) _ rfl (.slice (some ⟨g, 0, none⟩) n c) rfl ?_
                              simp only [Act.put, List.setIfInBounds_toArray, List.set_cons_zero, List.set_cons_succ]
                              refine quietW_moveV (by kernel_rfl) _ rfl (.int .i64 (j : Int)) rfl ?_
                              simp only [Act.put, List.setIfInBounds_toArray, List.set_cons_zero, List.set_cons_succ]
                              refine quietW_still (by kernel_rfl) (.pointer (some ⟨g, j, none⟩)) (fun w _ => by go_simp) ?_
                              simp only [Act.put, List.setIfInBounds_toArray, List.set_cons_zero, List.set_cons_succ]
                              refine quietW_load1 (by kernel_rfl) _ _ rfl ⟨g, j, none⟩ rfl (.int .u8 (x.toNat : Int)) (load_u8 _ _) (fun _ h => (h.cell (p := ⟨g, j, none⟩) HG.out).trans ci) ?_
                              simp only [Act.put, List.setIfInBounds_toArray, List.set_cons_zero, List.set_cons_succ]
                              refine quietW_moveV (by kernel_rfl) _ rfl (.slice (some ⟨g, 0, none⟩) n c) rfl ?_
                              simp only [Act.put, List.setIfInBounds_toArray, List.set_cons_zero, List.set_cons_succ]
                              refine quietW_moveV (by kernel_rfl) _ rfl (.int .i64 (a : Int)) rfl ?_
                              simp only [Act.put, List.setIfInBounds_toArray, List.set_cons_zero, List.set_cons_succ]
                              refine quietW_still (by kernel_rfl) (.pointer (some ⟨g, a, none⟩)) (fun w _ => by go_simp) ?_
                              simp only [Act.put, List.setIfInBounds_toArray, List.set_cons_zero, List.set_cons_succ]
                              refine quietW_load1 (by kernel_rfl) _ _ rfl ⟨g, a, none⟩ rfl (.int .u8 (y.toNat : Int)) (load_u8 _ _) (fun _ h => (h.cell (p := ⟨g, a, none⟩) HG.out).trans ca) ?_
                              simp only [Act.put, List.setIfInBounds_toArray, List.set_cons_zero, List.set_cons_succ]
                              refine quietW_call (by kernel_rfl) 127 _ _ rfl (enter_of Tryz.func127 (by decide) (by intro h; cases h)) _ (fun W h => (CL.out W).mono fun e w' ⟨he, hw⟩ => ⟨he, hw ▸ h⟩) ?_
                              simp only [Act.put, List.setIfInBounds_toArray, List.set_cons_zero, List.set_cons_succ]
                              refine quietW_still (by kernel_rfl) (.bool false) (fun w _ => by go_simp) ?_
                              simp only [Act.put, List.setIfInBounds_toArray, List.set_cons_zero, List.set_cons_succ]
                              unfold wpQuiet
                              intro wy hb
                              have HB2 := Lib.hid (HBX.out.trans (hb.mono (by have := HBX.out.size; have := HG.out; have := HO2.out.le; omega)))
                              have HO3 := Lib.hid (HO2.out.below hb)
                              clear hb ci ca
                              go_wp2_with fail
                              go_meet
                              exact ⟨j, rfl, HPT.out, (fun _ => HLV.out), HE.out, HO3.out, HB2.out⟩
                            · have CL := Lib.hid (fun W => less_any x y false (by simp [hlt]) W)
                              have HLV := Lib.hid (show ¬ (fun u => u < P) (fB R j) from by have h1 := HXE.out; have h2 := HYE.out; have h3 := HPT.out.pv; have h4 := hlt; clear HPT HXE HYE CL; show ¬ (fB R j < P); rw [h1, ← h3, h2]; omega)
                              go_wp2_with fail
                              refine wp_region_class (fun w' => Below wx.heap.size wx w') 14 (by kernel_rfl) (by kernel_rfl) (Below.refl _ wx).drew ?_
                              simp only [List.take_succ_cons, List.take_zero, List.drop_succ_cons, List.drop_zero]
                              refine quiet_moveV rfl _ rfl (.int .i64 (i : Int)) rfl ?_
                              simp only [Act.put, List.setIfInBounds_toArray, List.set_cons_zero, List.set_cons_succ]
                              refine quiet_moveV rfl _ rfl (.int .i64 (j : Int)) rfl ?_
                              simp only [Act.put, List.setIfInBounds_toArray, List.set_cons_zero, List.set_cons_succ]
                              refine quiet_still rfl (.bool true) (fun w _ => by go_simp) ?_
                              simp only [Act.put, List.setIfInBounds_toArray, List.set_cons_zero, List.set_cons_succ]
                              refine quiet_moveV rfl _ rfl (.bool true) rfl ?_
                              simp only [Act.put, List.setIfInBounds_toArray, List.set_cons_zero, List.set_cons_succ]
                              refine quietW_moveV (by kernel_rfl) _ rfl (.slice (some ⟨g, 0, none⟩) n c) rfl ?_
                              simp only [Act.put, List.setIfInBounds_toArray, List.set_cons_zero, List.set_cons_succ]
                              refine quietW_moveV (by kernel_rfl) _ rfl (.int .i64 (j : Int)) rfl ?_
                              simp only [Act.put, List.setIfInBounds_toArray, List.set_cons_zero, List.set_cons_succ]
                              refine quietW_still (by kernel_rfl) (.pointer (some ⟨g, j, none⟩)) (fun w _ => by go_simp) ?_
                              simp only [Act.put, List.setIfInBounds_toArray, List.set_cons_zero, List.set_cons_succ]
                              refine quietW_load1 (by kernel_rfl) _ _ rfl ⟨g, j, none⟩ rfl (.int .u8 (x.toNat : Int)) (load_u8 _ _) (fun _ h => (h.cell (p := ⟨g, j, none⟩) HG.out).trans ci) ?_
                              simp only [Act.put, List.setIfInBounds_toArray, List.set_cons_zero, List.set_cons_succ]
                              refine quietW_moveV (by kernel_rfl) _ rfl (.slice (some ⟨g, 0, none⟩) n c) rfl ?_
                              simp only [Act.put, List.setIfInBounds_toArray, List.set_cons_zero, List.set_cons_succ]
                              refine quietW_moveV (by kernel_rfl) _ rfl (.int .i64 (a : Int)) rfl ?_
                              simp only [Act.put, List.setIfInBounds_toArray, List.set_cons_zero, List.set_cons_succ]
                              refine quietW_still (by kernel_rfl) (.pointer (some ⟨g, a, none⟩)) (fun w _ => by go_simp) ?_
                              simp only [Act.put, List.setIfInBounds_toArray, List.set_cons_zero, List.set_cons_succ]
                              refine quietW_load1 (by kernel_rfl) _ _ rfl ⟨g, a, none⟩ rfl (.int .u8 (y.toNat : Int)) (load_u8 _ _) (fun _ h => (h.cell (p := ⟨g, a, none⟩) HG.out).trans ca) ?_
                              simp only [Act.put, List.setIfInBounds_toArray, List.set_cons_zero, List.set_cons_succ]
                              refine quietW_call (by kernel_rfl) 127 _ _ rfl (enter_of Tryz.func127 (by decide) (by intro h; cases h)) _ (fun W h => (CL.out W).mono fun e w' ⟨he, hw⟩ => ⟨he, hw ▸ h⟩) ?_
                              simp only [Act.put, List.setIfInBounds_toArray, List.set_cons_zero, List.set_cons_succ]
                              refine quietW_still (by kernel_rfl) (.bool true) (fun w _ => by go_simp) ?_
                              simp only [Act.put, List.setIfInBounds_toArray, List.set_cons_zero, List.set_cons_succ]
                              unfold wpQuiet
                              intro wy hb
                              have HB2 := Lib.hid (HBX.out.trans (hb.mono (by have := HBX.out.size; have := HG.out; have := HO2.out.le; omega)))
                              have HO3 := Lib.hid (HO2.out.below hb)
                              clear hb ci ca
                              have hpred : ((j : Int) - 1) = ((j - 1 : Nat) : Int) := by omega
                              have hpw : IntKind.i64.wrap ((j : Int) - 1) = ((j - 1 : Nat) : Int) := by rw [hpred]; exact IntWalk.i64_in _ (by omega)
                              clear hpred
                              go_wp2_with fail
                              go_roundw
                              case rel => exact ⟨j - 1, by first | go_num | (congr 1; omega), HPT.out.down hin HLV.out, (fun h => HE.out (by omega)), HO3.out, HB2.out⟩
                              case measure => (simp [intOf] <;> omega)
                          · have k0 : ¬ (i : Int) ≤ (j : Int) := by omega
                            clear hown
                            go_wp2_with fail
                            refine wp_region_class (fun w' => Below wx.heap.size wx w') 14 (by kernel_rfl) (by kernel_rfl) (Below.refl _ wx).drew ?_
                            simp only [List.take_succ_cons, List.take_zero, List.drop_succ_cons, List.drop_zero]
                            refine quiet_moveV rfl _ rfl (.int .i64 (i : Int)) rfl ?_
                            simp only [Act.put, List.setIfInBounds_toArray, List.set_cons_zero, List.set_cons_succ]
                            refine quiet_moveV rfl _ rfl (.int .i64 (j : Int)) rfl ?_
                            simp only [Act.put, List.setIfInBounds_toArray, List.set_cons_zero, List.set_cons_succ]
                            refine quiet_still rfl (.bool false) (fun w _ => by go_simp) ?_
                            simp only [Act.put, List.setIfInBounds_toArray, List.set_cons_zero, List.set_cons_succ]
                            refine quiet_moveV rfl _ rfl (.bool false) rfl ?_
                            simp only [Act.put, List.setIfInBounds_toArray, List.set_cons_zero, List.set_cons_succ]
                            refine quiet_skip (by kernel_rfl) ?_
                            simp only [Act.put, List.setIfInBounds_toArray, List.set_cons_zero, List.set_cons_succ]
                            refine quiet_skip (by kernel_rfl) ?_
                            simp only [Act.put, List.setIfInBounds_toArray, List.set_cons_zero, List.set_cons_succ]
                            refine quiet_skip (by kernel_rfl) ?_
                            simp only [Act.put, List.setIfInBounds_toArray, List.set_cons_zero, List.set_cons_succ]
                            refine quiet_skip (by kernel_rfl) ?_
                            simp only [Act.put, List.setIfInBounds_toArray, List.set_cons_zero, List.set_cons_succ]
                            refine quiet_skip (by kernel_rfl) ?_
                            simp only [Act.put, List.setIfInBounds_toArray, List.set_cons_zero, List.set_cons_succ]
                            refine quiet_skip (by kernel_rfl) ?_
                            simp only [Act.put, List.setIfInBounds_toArray, List.set_cons_zero, List.set_cons_succ]
                            refine quiet_skip (by kernel_rfl) ?_
                            simp only [Act.put, List.setIfInBounds_toArray, List.set_cons_zero, List.set_cons_succ]
                            refine quiet_skip (by kernel_rfl) ?_
                            simp only [Act.put, List.setIfInBounds_toArray, List.set_cons_zero, List.set_cons_succ]
                            refine quiet_skip (by kernel_rfl) ?_
                            simp only [Act.put, List.setIfInBounds_toArray, List.set_cons_zero, List.set_cons_succ]
                            refine quiet_skip (by kernel_rfl) ?_
                            simp only [Act.put, List.setIfInBounds_toArray, List.set_cons_zero, List.set_cons_succ]
                            unfold wpQuiet
                            intro wy hb
                            have HB2 := Lib.hid (HBX.out.trans (hb.mono (by have := HBX.out.size; have := HG.out; have := HO2.out.le; omega)))
                            have HO3 := Lib.hid (HO2.out.below hb)
                            clear hb
                            go_wp2_with fail
                            go_meet
                            exact ⟨j, rfl, HPT.out, (fun h => absurd h hin), HE.out, HO3.out, HB2.out⟩
                      case rest =>
                        obtain ⟨j, rfl, hpt, hf, he, hown, hb⟩ := hcut
                        rename World => w4
                        clear hai hij hjb
                        have hai := hpt.ai
                        have hij := hpt.ij
                        have hjb := hpt.jb
                        by_cases hgt : i ≤ j
                        · have k1 : ¬ (j : Int) < (i : Int) := by omega
                          have HFI := Lib.hid (he hgt)
                          have HFJ := Lib.hid (hf hgt)
                          have HPT := Lib.hid hpt
                          have HB := Lib.hid hb
                          clear hpt hb he hf
                          go_upto_region 18 with fail
                          go_cut [] from 135 to 148 (fun wc => ∃ R2 : List UInt8, BR wc B g n R2 ∧ Sw a b l R2 ∧ (∀ p, fB R2 p = if p = j then fB R i else if p = i then fB R j else fB R p) ∧ Below B w wc)
                          case first =>
                            have hRl2 : R.length = n := hown.len
                            obtain ⟨x, hx⟩ : ∃ x, R[i]? = some x := ⟨_, List.getElem?_eq_getElem (by omega)⟩
                            obtain ⟨y, hy⟩ : ∃ y, R[j]? = some y := ⟨_, List.getElem?_eq_getElem (by omega)⟩
                            have ci : w4.cell? ⟨g, i, none⟩ = some (.int .u8 (x.toNat : Int)) := hown.cl _ _ hx
                            have cj : w4.cell? ⟨g, j, none⟩ = some (.int .u8 (y.toNat : Int)) := hown.cl _ _ hy
                            have f0 := hown.fz i (by omega)
                            have f1 := hown.fz j (by omega)
                            have i0 : (0 : Int) ≤ (i : Int) := by omega
                            have i1 : (i : Int) < (n : Int) := by omega
                            have j1 : (0 : Int) ≤ (j : Int) := by omega
                            have j2 : (j : Int) < (n : Int) := by omega
                            have Hs2 := Lib.hid (((hown.set (j := i) (by omega) y).set (j := j) (by omega) x).drew)
                            have HSW2 := Lib.hid (show Sw a b l ((R.set i y).set j x) from HSW.out.step hx hy (by omega) (by omega) (by omega) (by omega))
                            have HFE := Lib.hid (fun p => fB_sw hx hy p)
                            have HBN := Lib.hid (((HB.out.setCell (p := ⟨g, i, none⟩) hBg (.int .u8 (y.toNat : Int))).setCell (p := ⟨g, j, none⟩) hBg (.int .u8 (x.toNat : Int))).drew)
                            clear hown
                            by_cases hne : i = j
                            · subst hne
                              obtain rfl : x = y := Option.some.inj (hx.symm.trans hy)
                              go_wp2_with fail
                              go_region
                              go_wp2_with fail
                              go_meet
                              exact ⟨_, Hs2.out, HSW2.out, HFE.out, HBN.out⟩
                            · go_wp2_with fail
                              go_region
                              go_wp2_with fail
                              go_meet
                              exact ⟨_, Hs2.out, HSW2.out, HFE.out, HBN.out⟩
                          case rest =>
                            obtain ⟨R2, hown, hsw2, hfe, hb⟩ := hcut
                            have hpt := HPT.out.swap hgt HFI.out HFJ.out hfe
                            have HPT2 := Lib.hid hpt
                            have HSW2 := Lib.hid hsw2
                            have HO2 := Lib.hid hown
                            rename World => w5
                            have HB5 := Lib.hid hb
                            have hpw : IntKind.i64.wrap ((j : Int) - 1) = ((j - 1 : Nat) : Int) := by rw [show ((j : Int) - 1) = ((j - 1 : Nat) : Int) by omega]; exact IntWalk.i64_in _ (by omega)
                            clear hfe hsw2 hown hpt hb
                            go_wp2_with fail
                            go_roundw
                            case rel => exact ⟨i + 1, j - 1, R2, by go_num, by first | go_num | (congr 1; omega), HPT2.out, HSW2.out, HO2.out, HB5.out⟩
                            case measure => (have h1 := HI0E.out; have h2 := HI0L.out; simp [intOf] <;> omega)
                        · have k1 : (j : Int) < (i : Int) := by omega
                          clear he hf
                          have HPT := Lib.hid hpt
                          have HB := Lib.hid hb
                          clear hpt hb
                          go_upto_region 21 with fail
                          go_cut [] from 153 to 166 (fun wc => ∃ R2 : List UInt8, BR wc B g n R2 ∧ Sw a b l R2 ∧ (∀ p, fB R2 p = if p = a then fB R j else if p = j then fB R a else fB R p) ∧ Below B w wc)
                          case first =>
                            have hRl2 : R.length = n := hown.len
                            obtain ⟨x, hx⟩ : ∃ x, R[j]? = some x := ⟨_, List.getElem?_eq_getElem (by omega)⟩
                            obtain ⟨y, hy⟩ : ∃ y, R[a]? = some y := ⟨_, List.getElem?_eq_getElem (by omega)⟩
                            have ci : w4.cell? ⟨g, j, none⟩ = some (.int .u8 (x.toNat : Int)) := hown.cl _ _ hx
                            have cj : w4.cell? ⟨g, a, none⟩ = some (.int .u8 (y.toNat : Int)) := hown.cl _ _ hy
                            have f0 := hown.fz j (by omega)
                            have f1 := hown.fz a (by omega)
                            have i0 : (0 : Int) ≤ (j : Int) := by omega
                            have i1 : (j : Int) < (n : Int) := by omega
                            have j1 : (0 : Int) ≤ (a : Int) := by omega
                            have j2 : (a : Int) < (n : Int) := by omega
                            have Hs2 := Lib.hid (((hown.set (j := j) (by omega) y).set (j := a) (by omega) x).drew)
                            have HSW2 := Lib.hid (show Sw a b l ((R.set j y).set a x) from HSW.out.step hx hy (by omega) (by omega) (by omega) (by omega))
                            have HFE := Lib.hid (fun p => fB_sw hx hy p)
                            have HBN := Lib.hid (((HB.out.setCell (p := ⟨g, j, none⟩) hBg (.int .u8 (y.toNat : Int))).setCell (p := ⟨g, a, none⟩) hBg (.int .u8 (x.toNat : Int))).drew)
                            clear hown
                            by_cases hne : j = a
                            · subst hne
                              obtain rfl : x = y := Option.some.inj (hx.symm.trans hy)
                              go_wp2_with fail
                              go_region
                              go_wp2_with fail
                              go_meet
                              exact ⟨_, Hs2.out, HSW2.out, HFE.out, HBN.out⟩
                            · go_wp2_with fail
                              go_region
                              go_wp2_with fail
                              go_meet
                              exact ⟨_, Hs2.out, HSW2.out, HFE.out, HBN.out⟩
                          case rest =>
                            obtain ⟨R2, hown, hsw2, hfe, hb⟩ := hcut
                            have HF := Lib.hid (HPT.out.fin hgt HL.out HN.out hfe)
                            have HSW2 := Lib.hid hsw2
                            have HO2 := Lib.hid hown
                            clear hfe hsw2 hown
                            go_wp2_with fail
                            go_ret2
                            exact ⟨R2, j, .bool false, rfl, (by simp), ⟨by omega, hjb⟩, HO2.out, HSW2.out, HF.out.1, HF.out.2, hb⟩
          · have k1 : (j : Int) < (i : Int) := by omega
            clear he hf hgi
            have HPT := Lib.hid hpt
            have HB := Lib.hid hb
            clear hpt hb
            go_upto_region 8 with fail
            go_cut [] from 66 to 79 (fun wc => ∃ R2 : List UInt8, BR wc B g n R2 ∧ Sw a b l R2 ∧ (∀ p, fB R2 p = if p = a then fB R j else if p = j then fB R a else fB R p) ∧ Below B w wc)
            case first =>
              have hRl2 : R.length = n := hown.len
              obtain ⟨x, hx⟩ : ∃ x, R[j]? = some x := ⟨_, List.getElem?_eq_getElem (by omega)⟩
              obtain ⟨y, hy⟩ : ∃ y, R[a]? = some y := ⟨_, List.getElem?_eq_getElem (by omega)⟩
              have ci : w4.cell? ⟨g, j, none⟩ = some (.int .u8 (x.toNat : Int)) := hown.cl _ _ hx
              have cj : w4.cell? ⟨g, a, none⟩ = some (.int .u8 (y.toNat : Int)) := hown.cl _ _ hy
              have f0 := hown.fz j (by omega)
              have f1 := hown.fz a (by omega)
              have i0 : (0 : Int) ≤ (j : Int) := by omega
              have i1 : (j : Int) < (n : Int) := by omega
              have j1 : (0 : Int) ≤ (a : Int) := by omega
              have j2 : (a : Int) < (n : Int) := by omega
              have Hs2 := Lib.hid (((hown.set (j := j) (by omega) y).set (j := a) (by omega) x).drew)
              have HSW2 := Lib.hid (show Sw a b l ((R.set j y).set a x) from HSW.out.step hx hy (by omega) (by omega) (by omega) (by omega))
              have HFE := Lib.hid (fun p => fB_sw hx hy p)
              have HBN := Lib.hid (((HB.out.setCell (p := ⟨g, j, none⟩) hBg (.int .u8 (y.toNat : Int))).setCell (p := ⟨g, a, none⟩) hBg (.int .u8 (x.toNat : Int))).drew)
              clear hown
              by_cases hne : j = a
              · subst hne
                obtain rfl : x = y := Option.some.inj (hx.symm.trans hy)
                go_wp2_with fail
                go_region
                go_wp2_with fail
                go_meet
                exact ⟨_, Hs2.out, HSW2.out, HFE.out, HBN.out⟩
              · go_wp2_with fail
                go_region
                go_wp2_with fail
                go_meet
                exact ⟨_, Hs2.out, HSW2.out, HFE.out, HBN.out⟩
            case rest =>
              obtain ⟨R2, hown, hsw2, hfe, hb⟩ := hcut
              have HF := Lib.hid (HPT.out.fin hgt HL.out HN.out hfe)
              have HSW2 := Lib.hid hsw2
              have HO2 := Lib.hid hown
              clear hfe hsw2 hown
              go_wp2_with fail
              go_ret2
              exact ⟨R2, j, .bool true, rfl, (by simp), ⟨by omega, hjb⟩, HO2.out, HSW2.out, HF.out.1, HF.out.2, hb⟩
end Go.Proofs.YtmefpaoakblndaaGreatDoor
namespace Go.Proofs.YtmefpaoakblndaaGreatDoor
open Go.RowKit
attribute [local irreducible] wpQuiet
set_option maxHeartbeats 8000000 in
set_option maxRecDepth 100000 in
theorem partEqual_any (l : List UInt8) (B g c n a b v : Nat) (hs : n < 50) (w : World) (hown0 : BR w B g n l) (hbn : b ≤ n) (hab : a + 1 < b) (hav : a ≤ v) (hvb : v < b) :
    Calls Tryz.prog 128 #[.slice (some ⟨g, 0, none⟩) n c, .int .i64 (a : Int), .int .i64 (b : Int), .int .i64 (v : Int)] w fun e w' => ∃ (R : List UInt8) (m : Nat), e = .returned (.int .i64 (m : Int)) ∧ (a < m ∧ m ≤ b) ∧ BR w' B g n R ∧ Sw a b l R ∧ (∀ p, a ≤ p → p < m → fB R p ≤ fB l v) ∧ (∀ p, m ≤ p → p < b → fB l v < fB R p) ∧ Below B w w' := by
  have HO := Lib.hid hown0
  have hBg : B ≤ g := hown0.le
  have b50 : b < 50 := by omega
  go_enter Tryz.func128, Tryz.ntmps128
  have hown := HO.out
  go_upto_region 1 with fail
  go_cut [] from 11 to 24 (fun wc => ∃ R2 : List UInt8, BR wc B g n R2 ∧ Sw a b l R2 ∧ (∀ p, fB R2 p = if p = v then fB l a else if p = a then fB l v else fB l p) ∧ Below B w wc)
  case first =>
    have hRl2 : l.length = n := hown.len
    obtain ⟨x, hx⟩ : ∃ x, l[a]? = some x := ⟨_, List.getElem?_eq_getElem (by omega)⟩
    obtain ⟨y, hy⟩ : ∃ y, l[v]? = some y := ⟨_, List.getElem?_eq_getElem (by omega)⟩
    have ci : w.cell? ⟨g, a, none⟩ = some (.int .u8 (x.toNat : Int)) := hown.cl _ _ hx
    have cj : w.cell? ⟨g, v, none⟩ = some (.int .u8 (y.toNat : Int)) := hown.cl _ _ hy
    have f0 := hown.fz a (by omega)
    have f1 := hown.fz v (by omega)
    have i0 : (0 : Int) ≤ (a : Int) := by omega
    have i1 : (a : Int) < (n : Int) := by omega
    have j1 : (0 : Int) ≤ (v : Int) := by omega
    have j2 : (v : Int) < (n : Int) := by omega
    have Hs2 := Lib.hid (((hown.set (j := a) (by omega) y).set (j := v) (by omega) x).drew)
    have HSW2 := Lib.hid (show Sw a b l ((l.set a y).set v x) from (Sw.refl (a := a) (b := b) (R := l)).step hx hy (by omega) (by omega) (by omega) (by omega))
    have HFE := Lib.hid (fun p => fB_sw hx hy p)
    have HBN := Lib.hid ((((Below.refl B w).setCell (p := ⟨g, a, none⟩) hBg (.int .u8 (y.toNat : Int))).setCell (p := ⟨g, v, none⟩) hBg (.int .u8 (x.toNat : Int))).drew)
    clear hown
    by_cases hne : a = v
    · subst hne
      obtain rfl : x = y := Option.some.inj (hx.symm.trans hy)
      go_wp2_with fail
      go_region
      go_wp2_with fail
      go_meet
      exact ⟨_, Hs2.out, HSW2.out, HFE.out, HBN.out⟩
    · go_wp2_with fail
      go_region
      go_wp2_with fail
      go_meet
      exact ⟨_, Hs2.out, HSW2.out, HFE.out, HBN.out⟩
  case rest =>
    obtain ⟨R, hown, hsw1, hfe, hb⟩ := hcut
    rename World => w1
    have HSW := Lib.hid hsw1
    obtain ⟨P, hP⟩ : ∃ P, fB R a = P := ⟨_, rfl⟩
    have HPV := Lib.hid (show P = fB l v from by
      rw [← hP, hfe a]
      split
      · rename_i e
        rw [← e]
      · rw [if_pos rfl])
    obtain ⟨j, hj⟩ : ∃ j, j + 1 = b := ⟨b - 1, by omega⟩
    obtain ⟨i, hi⟩ : ∃ i, i = a + 1 := ⟨_, rfl⟩
    have hpt : PT (fun u => ¬ P < u) P (fB R) a b i j := ⟨by omega, by omega, by omega, fun p h1 h2 => absurd h1 (by omega), fun p h1 h2 => absurd h1 (by omega), hP⟩
    have HPT2 := Lib.hid hpt
    have HSW2 := Lib.hid hsw1
    have HO2 := Lib.hid hown
    have HB5 := Lib.hid hb
    clear hsw1 hfe hP hpt hown hb
    go_upto_region 2 with fail
    go_cut [9, 10] from 25 to 28 (fun s t wc => s = .int .i64 (i : Int) ∧ t = .int .i64 (j : Int) ∧ wc = w1)
    case first =>
      go_wp2_with fail
      go_meet
      exact ⟨by first | (congr 1; omega) | go_num, by first | (congr 1; omega) | go_num, rfl⟩
    case rest =>
      obtain ⟨rfl, rfl, hwc⟩ := hcut
      obtain rfl := hwc.symm
      clear hwc hj hi
      go_wp2_with fail
      go_loopw [9, 10] (fun iv jv wr => ∃ (i j : Nat) (R : List UInt8), iv = .int .i64 (i : Int) ∧ jv = .int .i64 (j : Int) ∧ PT (fun u => ¬ P < u) P (fB R) a b i j ∧ Sw a b l R ∧ BR wr B g n R ∧ Below B w wr) (fun iv jv _ => n + 1 - (intOf iv).toNat)
      case atStart => exact ⟨i, j, R, rfl, rfl, HPT2.out, HSW2.out, HO2.out, HB5.out⟩
      case round =>
        obtain ⟨i, j, R, rfl, rfl, hpt, hsw, hown, hb⟩ := hrel
        have HSW := Lib.hid hsw
        clear hsw HPT2 HSW2 HO2 HB5
        rename World => w12
        have HPT0 := Lib.hid hpt
        have HO0 := Lib.hid hown
        have HB0 := Lib.hid hb
        have hai := hpt.ai
        have hij := hpt.ij
        have hjb := hpt.jb
        clear hpt hb hown
        obtain ⟨i0, hi0⟩ : ∃ i0, i0 = i := ⟨_, rfl⟩
        have HI0E := Lib.hid hi0
        have HI0 := Lib.hid (show i0 ≤ i by omega)
        clear hi0
        go_upto_block 2 with fail
        go_cut [9] from 29 to 43 (fun iv wc => ∃ i : Nat, iv = .int .i64 (i : Int) ∧ PT (fun u => ¬ P < u) P (fB R) a b i j ∧ i0 ≤ i ∧ (i ≤ j → ¬ (fun u => ¬ P < u) (fB R i)) ∧ BR wc B g n R ∧ Below B w wc)
        case first =>
          go_wp2_with fail
          go_loopw [9] (fun iv wx => ∃ i : Nat, iv = .int .i64 (i : Int) ∧ PT (fun u => ¬ P < u) P (fB R) a b i j ∧ i0 ≤ i ∧ BR wx B g n R ∧ Below B w wx) (fun iv _ => n + 1 - (intOf iv).toNat)
          case atStart => exact ⟨i, by first | rfl | go_num, HPT0.out, HI0.out, HO0.out, HB0.out⟩
          case round =>
            obtain ⟨i, rfl, hpt, hi0x, hown, hbx⟩ := hrel
            rename World => wx
            have HPT := Lib.hid hpt
            have HO2 := Lib.hid hown
            have HBX := Lib.hid hbx
            have HG := Lib.hid (show g < wx.heap.size from hown.lt)
            have hRl : R.length = n := hown.len
            have hai := hpt.ai
            have hij := hpt.ij
            have hjb := hpt.jb
            have HI0X := Lib.hid hi0x
            clear hi0x
            clear hpt hbx
            by_cases hin : i ≤ j
            · obtain ⟨x, hx⟩ : ∃ x, R[i]? = some x := ⟨_, List.getElem?_eq_getElem (by omega)⟩
              obtain ⟨y, hy⟩ : ∃ y, R[a]? = some y := ⟨_, List.getElem?_eq_getElem (by omega)⟩
              have ci : wx.cell? ⟨g, i, none⟩ = some (.int .u8 (x.toNat : Int)) := hown.cl _ _ hx
              have ca : wx.cell? ⟨g, a, none⟩ = some (.int .u8 (y.toNat : Int)) := hown.cl _ _ hy
              have k0 : (i : Int) ≤ (j : Int) := by omega
              have i0 : (0 : Int) ≤ (i : Int) := by omega
              have i1 : (i : Int) < (n : Int) := by omega
              have a0 : (0 : Int) ≤ (a : Int) := by omega
              have a1 : (a : Int) < (n : Int) := by omega
              have HXE := Lib.hid (show fB R i = x.toNat from fB_get hx)
              have HYE := Lib.hid (show fB R a = y.toNat from fB_get hy)
              clear hown
              by_cases hlt : y.toNat < x.toNat
              · have CL := Lib.hid (fun W => less_any y x true (by simp [hlt]) W)
                have HLV := Lib.hid (show ¬ (fun u => ¬ P < u) (fB R i) from by have h1 := HXE.out; have h2 := HYE.out; have h3 := HPT.out.pv; have h4 := hlt; clear HPT HXE HYE CL; show ¬ (¬ P < fB R i); rw [h1, ← h3, h2]; omega)
                go_wp2_with fail
                refine wp_region_class (fun w' => Below wx.heap.size wx w') 14 (by kernel_rfl) (by kernel_rfl) (Below.refl _ wx).drew ?_
                simp only [List.take_succ_cons, List.take_zero, List.drop_succ_cons, List.drop_zero]
                refine quiet_moveV rfl _ rfl (.int .i64 (i : Int)) rfl ?_
                simp only [Act.put, List.setIfInBounds_toArray, List.set_cons_zero, List.set_cons_succ]
                refine quiet_moveV rfl _ rfl (.int .i64 (j : Int)) rfl ?_
                simp only [Act.put, List.setIfInBounds_toArray, List.set_cons_zero, List.set_cons_succ]
                refine quiet_still rfl (.bool true) (fun w _ => by go_simp) ?_
                simp only [Act.put, List.setIfInBounds_toArray, List.set_cons_zero, List.set_cons_succ]
                refine quiet_moveV rfl _ rfl (.bool true) rfl ?_
                simp only [Act.put, List.setIfInBounds_toArray, List.set_cons_zero, List.set_cons_succ]
                refine quietW_moveV (by kernel_rfl) _ rfl (.slice (some ⟨g, 0, none⟩) n c) rfl ?_
                simp only [Act.put, List.setIfInBounds_toArray, List.set_cons_zero, List.set_cons_succ]
                refine quietW_moveV (by kernel_rfl) _ rfl (.int .i64 (a : Int)) rfl ?_
                simp only [Act.put, List.setIfInBounds_toArray, List.set_cons_zero, List.set_cons_succ]
                refine quietW_still (by kernel_rfl) (.pointer (some ⟨g, a, none⟩)) (fun w _ => by go_simp) ?_
                simp only [Act.put, List.setIfInBounds_toArray, List.set_cons_zero, List.set_cons_succ]
                refine quietW_load1 (by kernel_rfl) _ _ rfl ⟨g, a, none⟩ rfl (.int .u8 (y.toNat : Int)) (load_u8 _ _) (fun _ h => (h.cell (p := ⟨g, a, none⟩) HG.out).trans ca) ?_
                simp only [Act.put, List.setIfInBounds_toArray, List.set_cons_zero, List.set_cons_succ]
                refine quietW_moveV (by kernel_rfl) _ rfl (.slice (some ⟨g, 0, none⟩) n c) rfl ?_
                simp only [Act.put, List.setIfInBounds_toArray, List.set_cons_zero, List.set_cons_succ]
                refine quietW_moveV (by kernel_rfl) _ rfl (.int .i64 (i : Int)) rfl ?_
                simp only [Act.put, List.setIfInBounds_toArray, List.set_cons_zero, List.set_cons_succ]
                refine quietW_still (by kernel_rfl) (.pointer (some ⟨g, i, none⟩)) (fun w _ => by go_simp) ?_
                simp only [Act.put, List.setIfInBounds_toArray, List.set_cons_zero, List.set_cons_succ]
                refine quietW_load1 (by kernel_rfl) _ _ rfl ⟨g, i, none⟩ rfl (.int .u8 (x.toNat : Int)) (load_u8 _ _) (fun _ h => (h.cell (p := ⟨g, i, none⟩) HG.out).trans ci) ?_
                simp only [Act.put, List.setIfInBounds_toArray, List.set_cons_zero, List.set_cons_succ]
                refine quietW_call (by kernel_rfl) 127 _ _ rfl (enter_of Tryz.func127 (by decide) (by intro h; cases h)) _ (fun W h => (CL.out W).mono fun e w' ⟨he, hw⟩ => ⟨he, hw ▸ h⟩) ?_
                simp only [Act.put, List.setIfInBounds_toArray, List.set_cons_zero, List.set_cons_succ]
                refine quietW_still (by kernel_rfl) (.bool false) (fun w _ => by go_simp) ?_
                simp only [Act.put, List.setIfInBounds_toArray, List.set_cons_zero, List.set_cons_succ]
                unfold wpQuiet
                intro wy hb
                have HB2 := Lib.hid (HBX.out.trans (hb.mono (by have := HBX.out.size; have := HG.out; have := HO2.out.le; omega)))
                have HO3 := Lib.hid (HO2.out.below hb)
                clear hb ci ca
                go_wp2_with fail
                go_meet
                exact ⟨i, rfl, HPT.out, HI0X.out, (fun _ => HLV.out), HO3.out, HB2.out⟩
              · have CL := Lib.hid (fun W => less_any y x false (by simp [hlt]) W)
                have HLV := Lib.hid (show (fun u => ¬ P < u) (fB R i) from by have h1 := HXE.out; have h2 := HYE.out; have h3 := HPT.out.pv; have h4 := hlt; clear HPT HXE HYE CL; show (¬ P < fB R i); rw [h1, ← h3, h2]; omega)
                go_wp2_with fail
                refine wp_region_class (fun w' => Below wx.heap.size wx w') 14 (by kernel_rfl) (by kernel_rfl) (Below.refl _ wx).drew ?_
                simp only [List.take_succ_cons, List.take_zero, List.drop_succ_cons, List.drop_zero]
                refine quiet_moveV rfl _ rfl (.int .i64 (i : Int)) rfl ?_
                simp only [Act.put, List.setIfInBounds_toArray, List.set_cons_zero, List.set_cons_succ]
                refine quiet_moveV rfl _ rfl (.int .i64 (j : Int)) rfl ?_
                simp only [Act.put, List.setIfInBounds_toArray, List.set_cons_zero, List.set_cons_succ]
                refine quiet_still rfl (.bool true) (fun w _ => by go_simp) ?_
                simp only [Act.put, List.setIfInBounds_toArray, List.set_cons_zero, List.set_cons_succ]
                refine quiet_moveV rfl _ rfl (.bool true) rfl ?_
                simp only [Act.put, List.setIfInBounds_toArray, List.set_cons_zero, List.set_cons_succ]
                refine quietW_moveV (by kernel_rfl) _ rfl (.slice (some ⟨g, 0, none⟩) n c) rfl ?_
                simp only [Act.put, List.setIfInBounds_toArray, List.set_cons_zero, List.set_cons_succ]
                refine quietW_moveV (by kernel_rfl) _ rfl (.int .i64 (a : Int)) rfl ?_
                simp only [Act.put, List.setIfInBounds_toArray, List.set_cons_zero, List.set_cons_succ]
                refine quietW_still (by kernel_rfl) (.pointer (some ⟨g, a, none⟩)) (fun w _ => by go_simp) ?_
                simp only [Act.put, List.setIfInBounds_toArray, List.set_cons_zero, List.set_cons_succ]
                refine quietW_load1 (by kernel_rfl) _ _ rfl ⟨g, a, none⟩ rfl (.int .u8 (y.toNat : Int)) (load_u8 _ _) (fun _ h => (h.cell (p := ⟨g, a, none⟩) HG.out).trans ca) ?_
                simp only [Act.put, List.setIfInBounds_toArray, List.set_cons_zero, List.set_cons_succ]
                refine quietW_moveV (by kernel_rfl) _ rfl (.slice (some ⟨g, 0, none⟩) n c) rfl ?_
                simp only [Act.put, List.setIfInBounds_toArray, List.set_cons_zero, List.set_cons_succ]
                refine quietW_moveV (by kernel_rfl) _ rfl (.int .i64 (i : Int)) rfl ?_
                simp only [Act.put, List.setIfInBounds_toArray, List.set_cons_zero, List.set_cons_succ]
                refine quietW_still (by kernel_rfl) (.pointer (some ⟨g, i, none⟩)) (fun w _ => by go_simp) ?_
                simp only [Act.put, List.setIfInBounds_toArray, List.set_cons_zero, List.set_cons_succ]
                refine quietW_load1 (by kernel_rfl) _ _ rfl ⟨g, i, none⟩ rfl (.int .u8 (x.toNat : Int)) (load_u8 _ _) (fun _ h => (h.cell (p := ⟨g, i, none⟩) HG.out).trans ci) ?_
                simp only [Act.put, List.setIfInBounds_toArray, List.set_cons_zero, List.set_cons_succ]
                refine quietW_call (by kernel_rfl) 127 _ _ rfl (enter_of Tryz.func127 (by decide) (by intro h; cases h)) _ (fun W h => (CL.out W).mono fun e w' ⟨he, hw⟩ => ⟨he, hw ▸ h⟩) ?_
                simp only [Act.put, List.setIfInBounds_toArray, List.set_cons_zero, List.set_cons_succ]
                refine quietW_still (by kernel_rfl) (.bool true) (fun w _ => by go_simp) ?_
                simp only [Act.put, List.setIfInBounds_toArray, List.set_cons_zero, List.set_cons_succ]
                unfold wpQuiet
                intro wy hb
                have HB2 := Lib.hid (HBX.out.trans (hb.mono (by have := HBX.out.size; have := HG.out; have := HO2.out.le; omega)))
                have HO3 := Lib.hid (HO2.out.below hb)
                clear hb ci ca
                go_wp2_with fail
                go_roundw
                case rel => exact ⟨i + 1, by first | go_num | (congr 1; omega), HPT.out.up hin HLV.out, (by have := HI0X.out; omega), HO3.out, HB2.out⟩
                case measure => (simp [intOf] <;> omega)
            · have k0 : ¬ (i : Int) ≤ (j : Int) := by omega
              clear hown
              go_wp2_with fail
              refine wp_region_class (fun w' => Below wx.heap.size wx w') 14 (by kernel_rfl) (by kernel_rfl) (Below.refl _ wx).drew ?_
              simp only [List.take_succ_cons, List.take_zero, List.drop_succ_cons, List.drop_zero]
              refine quiet_moveV rfl _ rfl (.int .i64 (i : Int)) rfl ?_
              simp only [Act.put, List.setIfInBounds_toArray, List.set_cons_zero, List.set_cons_succ]
              refine quiet_moveV rfl _ rfl (.int .i64 (j : Int)) rfl ?_
              simp only [Act.put, List.setIfInBounds_toArray, List.set_cons_zero, List.set_cons_succ]
              refine quiet_still rfl (.bool false) (fun w _ => by go_simp) ?_
              simp only [Act.put, List.setIfInBounds_toArray, List.set_cons_zero, List.set_cons_succ]
              refine quiet_moveV rfl _ rfl (.bool false) rfl ?_
              simp only [Act.put, List.setIfInBounds_toArray, List.set_cons_zero, List.set_cons_succ]
              refine quiet_skip (by kernel_rfl) ?_
              simp only [Act.put, List.setIfInBounds_toArray, List.set_cons_zero, List.set_cons_succ]
              refine quiet_skip (by kernel_rfl) ?_
              simp only [Act.put, List.setIfInBounds_toArray, List.set_cons_zero, List.set_cons_succ]
              refine quiet_skip (by kernel_rfl) ?_
              simp only [Act.put, List.setIfInBounds_toArray, List.set_cons_zero, List.set_cons_succ]
              refine quiet_skip (by kernel_rfl) ?_
              simp only [Act.put, List.setIfInBounds_toArray, List.set_cons_zero, List.set_cons_succ]
              refine quiet_skip (by kernel_rfl) ?_
              simp only [Act.put, List.setIfInBounds_toArray, List.set_cons_zero, List.set_cons_succ]
              refine quiet_skip (by kernel_rfl) ?_
              simp only [Act.put, List.setIfInBounds_toArray, List.set_cons_zero, List.set_cons_succ]
              refine quiet_skip (by kernel_rfl) ?_
              simp only [Act.put, List.setIfInBounds_toArray, List.set_cons_zero, List.set_cons_succ]
              refine quiet_skip (by kernel_rfl) ?_
              simp only [Act.put, List.setIfInBounds_toArray, List.set_cons_zero, List.set_cons_succ]
              refine quiet_skip (by kernel_rfl) ?_
              simp only [Act.put, List.setIfInBounds_toArray, List.set_cons_zero, List.set_cons_succ]
              refine quiet_skip (by kernel_rfl) ?_
              simp only [Act.put, List.setIfInBounds_toArray, List.set_cons_zero, List.set_cons_succ]
              unfold wpQuiet
              intro wy hb
              have HB2 := Lib.hid (HBX.out.trans (hb.mono (by have := HBX.out.size; have := HG.out; have := HO2.out.le; omega)))
              have HO3 := Lib.hid (HO2.out.below hb)
              clear hb
              go_wp2_with fail
              go_meet
              exact ⟨i, rfl, HPT.out, HI0X.out, (fun h => absurd h hin), HO3.out, HB2.out⟩
        case rest =>
          obtain ⟨i, rfl, hpt, hi0, he, hown, hb⟩ := hcut
          have HI0L := Lib.hid hi0
          clear hi0
          clear hai hij hjb
          rename World => w13
          have HPT0 := Lib.hid hpt
          have HO0 := Lib.hid hown
          have HB0 := Lib.hid hb
          have HE0 := Lib.hid he
          have hai := hpt.ai
          have hij := hpt.ij
          have hjb := hpt.jb
          clear hpt he hb hown
          go_upto_block 4 with fail
          go_cut [10] from 46 to 59 (fun iv wc => ∃ j : Nat, iv = .int .i64 (j : Int) ∧ PT (fun u => ¬ P < u) P (fB R) a b i j ∧ (i ≤ j → (fun u => ¬ P < u) (fB R j)) ∧ (i ≤ j → ¬ (fun u => ¬ P < u) (fB R i)) ∧ BR wc B g n R ∧ Below B w wc)
          case first =>
            go_wp2_with fail
            go_loopw [10] (fun iv wx => ∃ j : Nat, iv = .int .i64 (j : Int) ∧ PT (fun u => ¬ P < u) P (fB R) a b i j ∧ (i ≤ j → ¬ (fun u => ¬ P < u) (fB R i)) ∧ BR wx B g n R ∧ Below B w wx) (fun iv _ => (intOf iv).toNat)
            case atStart => exact ⟨j, by first | rfl | go_num, HPT0.out, HE0.out, HO0.out, HB0.out⟩
            case round =>
              obtain ⟨j, rfl, hpt, he, hown, hbx⟩ := hrel
              rename World => wx
              have HPT := Lib.hid hpt
              have HO2 := Lib.hid hown
              have HBX := Lib.hid hbx
              have HG := Lib.hid (show g < wx.heap.size from hown.lt)
              have hRl : R.length = n := hown.len
              have hai := hpt.ai
              have hij := hpt.ij
              have hjb := hpt.jb
              have HE := Lib.hid he
              clear he
              clear hpt hbx
              by_cases hin : i ≤ j
              · obtain ⟨x, hx⟩ : ∃ x, R[j]? = some x := ⟨_, List.getElem?_eq_getElem (by omega)⟩
                obtain ⟨y, hy⟩ : ∃ y, R[a]? = some y := ⟨_, List.getElem?_eq_getElem (by omega)⟩
                have ci : wx.cell? ⟨g, j, none⟩ = some (.int .u8 (x.toNat : Int)) := hown.cl _ _ hx
                have ca : wx.cell? ⟨g, a, none⟩ = some (.int .u8 (y.toNat : Int)) := hown.cl _ _ hy
                have k0 : (i : Int) ≤ (j : Int) := by omega
                have i0 : (0 : Int) ≤ (j : Int) := by omega
                have i1 : (j : Int) < (n : Int) := by omega
                have a0 : (0 : Int) ≤ (a : Int) := by omega
                have a1 : (a : Int) < (n : Int) := by omega
                have HXE := Lib.hid (show fB R j = x.toNat from fB_get hx)
                have HYE := Lib.hid (show fB R a = y.toNat from fB_get hy)
                clear hown
                by_cases hlt : y.toNat < x.toNat
                · have CL := Lib.hid (fun W => less_any y x true (by simp [hlt]) W)
                  have HLV := Lib.hid (show ¬ (fun u => ¬ P < u) (fB R j) from by have h1 := HXE.out; have h2 := HYE.out; have h3 := HPT.out.pv; have h4 := hlt; clear HPT HXE HYE CL; show ¬ (¬ P < fB R j); rw [h1, ← h3, h2]; omega)
                  go_wp2_with fail
                  refine wp_region_class (fun w' => Below wx.heap.size wx w') 13 (by kernel_rfl) (by kernel_rfl) (Below.refl _ wx).drew ?_
                  simp only [List.take_succ_cons, List.take_zero, List.drop_succ_cons, List.drop_zero]
                  refine quiet_moveV rfl _ rfl (.int .i64 (i : Int)) rfl ?_
                  simp only [Act.put, List.setIfInBounds_toArray, List.set_cons_zero, List.set_cons_succ]
                  refine quiet_moveV rfl _ rfl (.int .i64 (j : Int)) rfl ?_
                  simp only [Act.put, List.setIfInBounds_toArray, List.set_cons_zero, List.set_cons_succ]
                  refine quiet_still rfl (.bool true) (fun w _ => by go_simp) ?_
                  simp only [Act.put, List.setIfInBounds_toArray, List.set_cons_zero, List.set_cons_succ]
                  refine quiet_moveV rfl _ rfl (.bool true) rfl ?_
                  simp only [Act.put, List.setIfInBounds_toArray, List.set_cons_zero, List.set_cons_succ]
                  refine quietW_moveV (by kernel_rfl) _ rfl (.slice (some ⟨g, 0, none⟩) n c) rfl ?_
                  simp only [Act.put, List.setIfInBounds_toArray, List.set_cons_zero, List.set_cons_succ]
                  refine quietW_moveV (by kernel_rfl) _ rfl (.int .i64 (a : Int)) rfl ?_
                  simp only [Act.put, List.setIfInBounds_toArray, List.set_cons_zero, List.set_cons_succ]
                  refine quietW_still (by kernel_rfl) (.pointer (some ⟨g, a, none⟩)) (fun w _ => by go_simp) ?_
                  simp only [Act.put, List.setIfInBounds_toArray, List.set_cons_zero, List.set_cons_succ]
                  refine quietW_load1 (by kernel_rfl) _ _ rfl ⟨g, a, none⟩ rfl (.int .u8 (y.toNat : Int)) (load_u8 _ _) (fun _ h => (h.cell (p := ⟨g, a, none⟩) HG.out).trans ca) ?_
                  simp only [Act.put, List.setIfInBounds_toArray, List.set_cons_zero, List.set_cons_succ]
                  refine quietW_moveV (by kernel_rfl) _ rfl (.slice (some ⟨g, 0, none⟩) n c) rfl ?_
                  simp only [Act.put, List.setIfInBounds_toArray, List.set_cons_zero, List.set_cons_succ]
                  refine quietW_moveV (by kernel_rfl) _ rfl (.int .i64 (j : Int)) rfl ?_
                  simp only [Act.put, List.setIfInBounds_toArray, List.set_cons_zero, List.set_cons_succ]
                  refine quietW_still (by kernel_rfl) (.pointer (some ⟨g, j, none⟩)) (fun w _ => by go_simp) ?_
                  simp only [Act.put, List.setIfInBounds_toArray, List.set_cons_zero, List.set_cons_succ]
                  refine quietW_load1 (by kernel_rfl) _ _ rfl ⟨g, j, none⟩ rfl (.int .u8 (x.toNat : Int)) (load_u8 _ _) (fun _ h => (h.cell (p := ⟨g, j, none⟩) HG.out).trans ci) ?_
                  simp only [Act.put, List.setIfInBounds_toArray, List.set_cons_zero, List.set_cons_succ]
                  refine quietW_call (by kernel_rfl) 127 _ _ rfl (enter_of Tryz.func127 (by decide) (by intro h; cases h)) _ (fun W h => (CL.out W).mono fun e w' ⟨he, hw⟩ => ⟨he, hw ▸ h⟩) ?_
                  simp only [Act.put, List.setIfInBounds_toArray, List.set_cons_zero, List.set_cons_succ]
                  unfold wpQuiet
                  intro wy hb
                  have HB2 := Lib.hid (HBX.out.trans (hb.mono (by have := HBX.out.size; have := HG.out; have := HO2.out.le; omega)))
                  have HO3 := Lib.hid (HO2.out.below hb)
                  clear hb ci ca
                  have hpred : ((j : Int) - 1) = ((j - 1 : Nat) : Int) := by omega
                  have hpw : IntKind.i64.wrap ((j : Int) - 1) = ((j - 1 : Nat) : Int) := by rw [hpred]; exact IntWalk.i64_in _ (by omega)
                  clear hpred
                  go_wp2_with fail
                  go_roundw
                  case rel => exact ⟨j - 1, by first | go_num | (congr 1; omega), HPT.out.down hin HLV.out, (fun h => HE.out (by omega)), HO3.out, HB2.out⟩
                  case measure => (simp [intOf] <;> omega)
                · have CL := Lib.hid (fun W => less_any y x false (by simp [hlt]) W)
                  have HLV := Lib.hid (show (fun u => ¬ P < u) (fB R j) from by have h1 := HXE.out; have h2 := HYE.out; have h3 := HPT.out.pv; have h4 := hlt; clear HPT HXE HYE CL; show (¬ P < fB R j); rw [h1, ← h3, h2]; omega)
                  go_wp2_with fail
                  refine wp_region_class (fun w' => Below wx.heap.size wx w') 13 (by kernel_rfl) (by kernel_rfl) (Below.refl _ wx).drew ?_
                  simp only [List.take_succ_cons, List.take_zero, List.drop_succ_cons, List.drop_zero]
                  refine quiet_moveV rfl _ rfl (.int .i64 (i : Int)) rfl ?_
                  simp only [Act.put, List.setIfInBounds_toArray, List.set_cons_zero, List.set_cons_succ]
                  refine quiet_moveV rfl _ rfl (.int .i64 (j : Int)) rfl ?_
                  simp only [Act.put, List.setIfInBounds_toArray, List.set_cons_zero, List.set_cons_succ]
                  refine quiet_still rfl (.bool true) (fun w _ => by go_simp) ?_
                  simp only [Act.put, List.setIfInBounds_toArray, List.set_cons_zero, List.set_cons_succ]
                  refine quiet_moveV rfl _ rfl (.bool true) rfl ?_
                  simp only [Act.put, List.setIfInBounds_toArray, List.set_cons_zero, List.set_cons_succ]
                  refine quietW_moveV (by kernel_rfl) _ rfl (.slice (some ⟨g, 0, none⟩) n c) rfl ?_
                  simp only [Act.put, List.setIfInBounds_toArray, List.set_cons_zero, List.set_cons_succ]
                  refine quietW_moveV (by kernel_rfl) _ rfl (.int .i64 (a : Int)) rfl ?_
                  simp only [Act.put, List.setIfInBounds_toArray, List.set_cons_zero, List.set_cons_succ]
                  refine quietW_still (by kernel_rfl) (.pointer (some ⟨g, a, none⟩)) (fun w _ => by go_simp) ?_
                  simp only [Act.put, List.setIfInBounds_toArray, List.set_cons_zero, List.set_cons_succ]
                  refine quietW_load1 (by kernel_rfl) _ _ rfl ⟨g, a, none⟩ rfl (.int .u8 (y.toNat : Int)) (load_u8 _ _) (fun _ h => (h.cell (p := ⟨g, a, none⟩) HG.out).trans ca) ?_
                  simp only [Act.put, List.setIfInBounds_toArray, List.set_cons_zero, List.set_cons_succ]
                  refine quietW_moveV (by kernel_rfl) _ rfl (.slice (some ⟨g, 0, none⟩) n c) rfl ?_
                  simp only [Act.put, List.setIfInBounds_toArray, List.set_cons_zero, List.set_cons_succ]
                  refine quietW_moveV (by kernel_rfl) _ rfl (.int .i64 (j : Int)) rfl ?_
                  simp only [Act.put, List.setIfInBounds_toArray, List.set_cons_zero, List.set_cons_succ]
                  refine quietW_still (by kernel_rfl) (.pointer (some ⟨g, j, none⟩)) (fun w _ => by go_simp) ?_
                  simp only [Act.put, List.setIfInBounds_toArray, List.set_cons_zero, List.set_cons_succ]
                  refine quietW_load1 (by kernel_rfl) _ _ rfl ⟨g, j, none⟩ rfl (.int .u8 (x.toNat : Int)) (load_u8 _ _) (fun _ h => (h.cell (p := ⟨g, j, none⟩) HG.out).trans ci) ?_
                  simp only [Act.put, List.setIfInBounds_toArray, List.set_cons_zero, List.set_cons_succ]
                  refine quietW_call (by kernel_rfl) 127 _ _ rfl (enter_of Tryz.func127 (by decide) (by intro h; cases h)) _ (fun W h => (CL.out W).mono fun e w' ⟨he, hw⟩ => ⟨he, hw ▸ h⟩) ?_
                  simp only [Act.put, List.setIfInBounds_toArray, List.set_cons_zero, List.set_cons_succ]
                  unfold wpQuiet
                  intro wy hb
                  have HB2 := Lib.hid (HBX.out.trans (hb.mono (by have := HBX.out.size; have := HG.out; have := HO2.out.le; omega)))
                  have HO3 := Lib.hid (HO2.out.below hb)
                  clear hb ci ca
                  go_wp2_with fail
                  go_meet
                  exact ⟨j, rfl, HPT.out, (fun _ => HLV.out), HE.out, HO3.out, HB2.out⟩
              · have k0 : ¬ (i : Int) ≤ (j : Int) := by omega
                clear hown
                go_wp2_with fail
                refine wp_region_class (fun w' => Below wx.heap.size wx w') 13 (by kernel_rfl) (by kernel_rfl) (Below.refl _ wx).drew ?_
                simp only [List.take_succ_cons, List.take_zero, List.drop_succ_cons, List.drop_zero]
                refine quiet_moveV rfl _ rfl (.int .i64 (i : Int)) rfl ?_
                simp only [Act.put, List.setIfInBounds_toArray, List.set_cons_zero, List.set_cons_succ]
                refine quiet_moveV rfl _ rfl (.int .i64 (j : Int)) rfl ?_
                simp only [Act.put, List.setIfInBounds_toArray, List.set_cons_zero, List.set_cons_succ]
                refine quiet_still rfl (.bool false) (fun w _ => by go_simp) ?_
                simp only [Act.put, List.setIfInBounds_toArray, List.set_cons_zero, List.set_cons_succ]
                refine quiet_moveV rfl _ rfl (.bool false) rfl ?_
                simp only [Act.put, List.setIfInBounds_toArray, List.set_cons_zero, List.set_cons_succ]
                refine quiet_skip (by kernel_rfl) ?_
                simp only [Act.put, List.setIfInBounds_toArray, List.set_cons_zero, List.set_cons_succ]
                refine quiet_skip (by kernel_rfl) ?_
                simp only [Act.put, List.setIfInBounds_toArray, List.set_cons_zero, List.set_cons_succ]
                refine quiet_skip (by kernel_rfl) ?_
                simp only [Act.put, List.setIfInBounds_toArray, List.set_cons_zero, List.set_cons_succ]
                refine quiet_skip (by kernel_rfl) ?_
                simp only [Act.put, List.setIfInBounds_toArray, List.set_cons_zero, List.set_cons_succ]
                refine quiet_skip (by kernel_rfl) ?_
                simp only [Act.put, List.setIfInBounds_toArray, List.set_cons_zero, List.set_cons_succ]
                refine quiet_skip (by kernel_rfl) ?_
                simp only [Act.put, List.setIfInBounds_toArray, List.set_cons_zero, List.set_cons_succ]
                refine quiet_skip (by kernel_rfl) ?_
                simp only [Act.put, List.setIfInBounds_toArray, List.set_cons_zero, List.set_cons_succ]
                refine quiet_skip (by kernel_rfl) ?_
                simp only [Act.put, List.setIfInBounds_toArray, List.set_cons_zero, List.set_cons_succ]
                refine quiet_skip (by kernel_rfl) ?_
                simp only [Act.put, List.setIfInBounds_toArray, List.set_cons_zero, List.set_cons_succ]
                unfold wpQuiet
                intro wy hb
                have HB2 := Lib.hid (HBX.out.trans (hb.mono (by have := HBX.out.size; have := HG.out; have := HO2.out.le; omega)))
                have HO3 := Lib.hid (HO2.out.below hb)
                clear hb
                go_wp2_with fail
                go_meet
                exact ⟨j, rfl, HPT.out, (fun h => absurd h hin), HE.out, HO3.out, HB2.out⟩
          case rest =>
            obtain ⟨j, rfl, hpt, hf, he, hown, hb⟩ := hcut
            rename World => w4
            clear hai hij hjb
            have hai := hpt.ai
            have hij := hpt.ij
            have hjb := hpt.jb
            by_cases hgt : i ≤ j
            · have k1 : ¬ (j : Int) < (i : Int) := by omega
              have HFI := Lib.hid (he hgt)
              have HFJ := Lib.hid (hf hgt)
              have HPT := Lib.hid hpt
              have HB := Lib.hid hb
              clear hpt hb he hf
              go_upto_region 8 with fail
              go_cut [] from 65 to 78 (fun wc => ∃ R2 : List UInt8, BR wc B g n R2 ∧ Sw a b l R2 ∧ (∀ p, fB R2 p = if p = j then fB R i else if p = i then fB R j else fB R p) ∧ Below B w wc)
              case first =>
                have hRl2 : R.length = n := hown.len
                obtain ⟨x, hx⟩ : ∃ x, R[i]? = some x := ⟨_, List.getElem?_eq_getElem (by omega)⟩
                obtain ⟨y, hy⟩ : ∃ y, R[j]? = some y := ⟨_, List.getElem?_eq_getElem (by omega)⟩
                have ci : w4.cell? ⟨g, i, none⟩ = some (.int .u8 (x.toNat : Int)) := hown.cl _ _ hx
                have cj : w4.cell? ⟨g, j, none⟩ = some (.int .u8 (y.toNat : Int)) := hown.cl _ _ hy
                have f0 := hown.fz i (by omega)
                have f1 := hown.fz j (by omega)
                have i0 : (0 : Int) ≤ (i : Int) := by omega
                have i1 : (i : Int) < (n : Int) := by omega
                have j1 : (0 : Int) ≤ (j : Int) := by omega
                have j2 : (j : Int) < (n : Int) := by omega
                have Hs2 := Lib.hid (((hown.set (j := i) (by omega) y).set (j := j) (by omega) x).drew)
                have HSW2 := Lib.hid (show Sw a b l ((R.set i y).set j x) from HSW.out.step hx hy (by omega) (by omega) (by omega) (by omega))
                have HFE := Lib.hid (fun p => fB_sw hx hy p)
                have HBN := Lib.hid (((HB.out.setCell (p := ⟨g, i, none⟩) hBg (.int .u8 (y.toNat : Int))).setCell (p := ⟨g, j, none⟩) hBg (.int .u8 (x.toNat : Int))).drew)
                clear hown
                by_cases hne : i = j
                · subst hne
                  obtain rfl : x = y := Option.some.inj (hx.symm.trans hy)
                  go_wp2_with fail
                  go_region
                  go_wp2_with fail
                  go_meet
                  exact ⟨_, Hs2.out, HSW2.out, HFE.out, HBN.out⟩
                · go_wp2_with fail
                  go_region
                  go_wp2_with fail
                  go_meet
                  exact ⟨_, Hs2.out, HSW2.out, HFE.out, HBN.out⟩
              case rest =>
                obtain ⟨R2, hown, hsw2, hfe, hb⟩ := hcut
                have hpt := HPT.out.swap hgt HFI.out HFJ.out hfe
                have HPT2 := Lib.hid hpt
                have HSW2 := Lib.hid hsw2
                have HO2 := Lib.hid hown
                rename World => w5
                have HB5 := Lib.hid hb
                have hpw : IntKind.i64.wrap ((j : Int) - 1) = ((j - 1 : Nat) : Int) := by rw [show ((j : Int) - 1) = ((j - 1 : Nat) : Int) by omega]; exact IntWalk.i64_in _ (by omega)
                clear hfe hsw2 hown hpt hb
                go_wp2_with fail
                go_roundw
                case rel => exact ⟨i + 1, j - 1, R2, by go_num, by first | go_num | (congr 1; omega), HPT2.out, HSW2.out, HO2.out, HB5.out⟩
                case measure => (have h1 := HI0E.out; have h2 := HI0L.out; simp [intOf] <;> omega)
            · have k1 : (j : Int) < (i : Int) := by omega
              have HO4 := Lib.hid hown
              have HLO := Lib.hid (show ∀ p, a ≤ p → p < i → fB R p ≤ fB l v from fun p h1 h2 => by
                by_cases e : p = a
                · rw [e, hpt.pv, HPV.out]; exact Nat.le_refl _
                · have h3 : ¬ P < fB R p := hpt.lo p (by omega) h2
                  have h4 := HPV.out
                  omega)
              have HHI := Lib.hid (show ∀ p, i ≤ p → p < b → fB l v < fB R p from fun p h1 h2 => by
                have h3 : ¬ ¬ P < fB R p := hpt.hi p (by omega) h2
                have h4 := HPV.out
                omega)
              clear he hf hpt hown
              go_wp2_with fail
              go_ret
              exact ⟨R, i, rfl, ⟨by omega, by omega⟩, HO4.out, HSW.out, HLO.out, HHI.out, hb⟩
end Go.Proofs.YtmefpaoakblndaaGreatDoor
namespace Go.Proofs.YtmefpaoakblndaaGreatDoor
open Go.RowKit
attribute [local irreducible] wpQuiet
set_option maxHeartbeats 8000000 in
set_option maxRecDepth 100000 in
theorem pdq_any (N : Nat) : ∀ (l : List UInt8) (B g c n a b lim : Nat) (w : World), b - a < N → n ≤ 16 → BR w B g n l → a ≤ b → b ≤ n → b ≤ a + lim + 12 → lim ≤ 100 → LE1 (fB l) a b →
    Calls Tryz.prog 110 #[.slice (some ⟨g, 0, none⟩) n c, .int .i64 (a : Int), .int .i64 (b : Int), .int .i64 (lim : Int)] w fun e w' => ∃ R, e = .returned (.tuple #[]) ∧ BR w' B g n R ∧ Sw a b l R ∧ SR (fB R) a b ∧ Below B w w' := by
  induction N with
  | zero => exact fun _ _ _ _ _ _ _ _ _ h => absurd h (Nat.not_lt_zero _)
  | succ N ih =>
  intro l B g c n a b lim w hN hn hown0 hab hbn hlim hl100 hle0
  have IH := Lib.hid ih
  have HO := Lib.hid hown0
  have hBg : B ≤ g := hown0.le
  have HLE0 := Lib.hid hle0
  clear hown0 hle0 ih
  go_enter Tryz.func110, Tryz.ntmps110
  go_wp2_with fail
  go_loopw [1, 2, 3, 8, 9] (fun av bv lv x8 x9 wr => ∃ (a1 b1 lm : Nat) (R : List UInt8) (p8 p9 : Bool), av = .int .i64 (a1 : Int) ∧ bv = .int .i64 (b1 : Int) ∧ lv = .int .i64 (lm : Int) ∧ x8 = .bool p8 ∧ x9 = .bool p9 ∧ a ≤ a1 ∧ a1 ≤ b1 ∧ b1 ≤ b ∧ b1 ≤ a1 + lm + 12 ∧ lm ≤ 100 ∧ LE1 (fB R) a1 b1 ∧ OD (fB R) a b a1 b1 ∧ Sw a b l R ∧ BR wr B g n R ∧ Below B w wr) (fun av bv lv x8 x9 _ => (intOf bv).toNat - (intOf av).toNat)
  case atStart => exact ⟨a, b, lim, l, true, true, rfl, rfl, rfl, rfl, rfl, Nat.le_refl _, hab, Nat.le_refl _, hlim, hl100, HLE0.out, OD.start _ _ _, .refl, HO.out, Below.refl B w⟩
  case round =>
    obtain ⟨a1, b1, lm, R, p8, p9, rfl, rfl, rfl, rfl, rfl, h1, h2, h3, h4, h5, hle, hod, hsw, hown, hb⟩ := hrel
    rename World => w1
    clear HLE0
    have b16 : b1 ≤ 16 := by omega
    by_cases hsm : b1 ≤ a1 + 12
    · have k0 : (b1 : Int) - (a1 : Int) ≤ 12 := by omega
      have CI := Lib.hid (insertion_rg R B g c n a1 b1 h2 (by omega) (by omega) w1 hown)
      have HOD := Lib.hid hod
      have HSW := Lib.hid hsw
      have HB := Lib.hid hb
      clear hle hod hsw hown hb
      go_wp2_with fail
      refine CI.out.mono ?_
      rintro e w2 ⟨R2, rfl, ho, hs2, hsr, hb2⟩
      have HO2 := Lib.hid ho
      have HF := Lib.hid ((HOD.out.sw h1 h3 hs2).full hsr)
      have HSW2 := Lib.hid (HSW.out.trans (hs2.mono h1 h3))
      have HB2 := Lib.hid (HB.out.trans hb2)
      clear ho hs2 hsr hb2
      go_wp2_with fail
      refine bodyPost_ret (results_none (by rfl) _ _ _) rfl ?_
      exact ⟨R2, rfl, HO2.out, HSW2.out, HF.out, HB2.out⟩
    · have k0 : ¬ (b1 : Int) - (a1 : Int) ≤ 12 := by omega
      have k1 : ¬ (lm : Int) = 0 := by omega
      obtain ⟨d, hd⟩ : ∃ d, a1 + d = b1 := ⟨b1 - a1, by omega⟩
      have d13 : 13 ≤ d := by omega
      have d16 : d ≤ 16 := by omega
      have HD := Lib.hid hd
      have HLE := Lib.hid hle
      have HOD := Lib.hid hod
      have HSW := Lib.hid hsw
      have HB := Lib.hid hb
      have HO1 := Lib.hid hown
      clear hle hod hsw hown hb hd
      go_upto_if 35 with fail
      go_cut [3] from 19 to 133 (fun lv wc => ∃ (l2 : Nat) (R2 : List UInt8), lv = .int .i64 (l2 : Int) ∧ b1 ≤ a1 + l2 + 13 ∧ l2 ≤ 100 ∧ Sw a1 b1 R R2 ∧ BR wc B g n R2 ∧ Below B w wc)
      case first =>
        cases p8 with
        | true =>
          go_wp2_with fail
          go_meet
          exact ⟨lm, R, rfl, by omega, h5, .refl, HO1.out, HB.out⟩
        | false =>
          have CB := Lib.hid (break_any R B g c n a1 b1 hn w1 HO1.out (by omega) (by omega))
          go_wp2_with fail
          refine CB.out.mono ?_
          rintro e w2 ⟨R2, rfl, ho, hs2, hb2⟩
          have HO2 := Lib.hid ho
          have HS2 := Lib.hid hs2
          have HB2 := Lib.hid (HB.out.trans hb2)
          clear ho hs2 hb2
          go_wp2_with fail
          go_meet
          exact ⟨lm - 1, R2, by congr 1; omega, by omega, by omega, HS2.out, HO2.out, HB2.out⟩
      case rest =>
        obtain ⟨l2, R2, rfl, h6, h7, hs2, hown, hb⟩ := hcut
        rename World => w2
        have HO2 := Lib.hid hown
        have HB2 := Lib.hid hb
        have HLE2 := Lib.hid (HLE.out.sw hs2)
        have HOD2 := Lib.hid (HOD.out.sw h1 h3 hs2)
        have HSW2 := Lib.hid (HSW.out.trans (hs2.mono h1 h3))
        have CP := Lib.hid (pivot_any R2 B g c n a1 b1 (by omega) w2 hown (by omega) (by omega))
        clear hs2 hown hb
        go_wp2_with fail
        refine CP.out.mono ?_
        rintro e w3 ⟨v, h, rfl, hv, hh, hb3⟩
        have HO3 := Lib.hid (HO2.out.below hb3)
        have HB3 := Lib.hid (HB2.out.trans (hb3.mono (by have := HO2.out.lt; have := HO2.out.le; omega)))
        have hv1 := hv.1
        have hv2 := hv.2
        have hh2 : ¬ (h : Int) = 2 := by omega
        clear hv hb3
        go_upto_region 15 with fail
        go_cut [68] from 19 to 133 (fun s wc => ∃ t : Bool, s = .bool t ∧ wc = w3)
        case first =>
          by_cases h11 : h = 1
          · subst h11
            cases p8 <;> cases p9 <;> (go_wp2_with fail; go_meet; exact ⟨_, rfl, rfl⟩)
          · have h12 : ¬ (h : Int) = 1 := by omega
            cases p8 <;> cases p9 <;> (go_wp2_with fail; go_meet; exact ⟨_, rfl, rfl⟩)
        case rest =>
          obtain ⟨t, rfl, hwc⟩ := hcut
          obtain rfl := hwc.symm
          clear hwc
          go_upto_if 68 with fail
          go_cut [] from 19 to 133 (fun wc => BR wc B g n R2 ∧ Below B w wc)
          case first =>
            cases t with
            | false =>
              go_wp2_with fail
              go_meet
              exact ⟨HO3.out, HB3.out⟩
            | true =>
              have CI := Lib.hid (partial_any R2 B g c n a1 b1 (by omega) w3 HO3.out (by omega) (by omega))
              go_wp2_with fail
              refine CI.out.mono ?_
              rintro e w4 ⟨r, rfl, hr, hb4⟩
              have HO4 := Lib.hid (HO3.out.below hb4)
              have HB4 := Lib.hid (HB3.out.trans (hb4.mono (by have := HO3.out.lt; have := HO3.out.le; omega)))
              clear hb4
              cases r with
              | false =>
                clear hr
                go_wp2_with fail
                go_meet
                exact ⟨HO4.out, HB4.out⟩
              | true =>
                have HF := Lib.hid (HOD2.out.full (hr rfl))
                clear hr
                go_wp2_with fail
                refine bodyPost_ret (results_none (by rfl) _ _ _) rfl ?_
                exact ⟨R2, rfl, HO4.out, HSW2.out, HF.out, HB4.out⟩
          case rest =>
            obtain ⟨hown, hb⟩ := hcut
            rename World => w4
            have HO4 := Lib.hid hown
            have HB4 := Lib.hid hb
            have HG := Lib.hid (show g < w4.heap.size from hown.lt)
            have hRl : R2.length = n := hown.len
            clear hb
            go_upto_region 17 with fail
            go_cut [87] from 19 to 133 (fun s wc => ∃ t : Bool, s = .bool t ∧ (t = true → 0 < a1 ∧ ¬ fB R2 (a1 - 1) < fB R2 v) ∧ BR wc B g n R2 ∧ Below B w wc)
            case first =>
              by_cases hpos : 0 < a1
              · obtain ⟨j, hj⟩ : ∃ j, j + 1 = a1 := ⟨a1 - 1, by omega⟩
                obtain ⟨x, hx⟩ : ∃ x, R2[j]? = some x := ⟨_, List.getElem?_eq_getElem (by omega)⟩
                obtain ⟨y, hy⟩ : ∃ y, R2[v]? = some y := ⟨_, List.getElem?_eq_getElem (by omega)⟩
                have ci : w4.cell? ⟨g, j, none⟩ = some (.int .u8 (x.toNat : Int)) := hown.cl _ _ hx
                have cj : w4.cell? ⟨g, v, none⟩ = some (.int .u8 (y.toNat : Int)) := hown.cl _ _ hy
                have kp : (0 : Int) < (a1 : Int) := by omega
                have i0 : (0 : Int) ≤ (j : Int) := by omega
                have i1 : (j : Int) < (n : Int) := by omega
                have j1 : (0 : Int) ≤ (v : Int) := by omega
                have j2 : (v : Int) < (n : Int) := by omega
                have hwj : IntKind.i64.wrap ((a1 : Int) - 1) = (j : Int) := by rw [show (a1 : Int) - 1 = (j : Int) by omega]; exact IntWalk.i64_in _ (by omega)
                have HXE := Lib.hid (show fB R2 (a1 - 1) = x.toNat from by rw [show a1 - 1 = j by omega]; exact fB_get hx)
                have HYE := Lib.hid (show fB R2 v = y.toNat from fB_get hy)
                clear hj hown
                by_cases hlt : x.toNat < y.toNat
                · have CL := Lib.hid (fun W => less_any x y true (by simp [hlt]) W)
                  go_wp2_with fail
                  refine wp_region_class (fun w' => Below w4.heap.size w4 w') 14 (by kernel_rfl) (by kernel_rfl) (Below.refl _ w4).drew ?_
                  simp only [List.take_succ_cons, List.take_zero, List.drop_succ_cons, List.drop_zero]
                  refine quiet_moveV rfl _ rfl (.int .i64 (a1 : Int)) rfl ?_
                  simp only [Act.put, List.setIfInBounds_toArray, List.set_cons_zero, List.set_cons_succ]
                  refine quiet_still rfl (.bool true) (fun w _ => by go_simp) ?_
                  simp only [Act.put, List.setIfInBounds_toArray, List.set_cons_zero, List.set_cons_succ]
                  refine quiet_moveV rfl _ rfl (.bool true) rfl ?_
                  simp only [Act.put, List.setIfInBounds_toArray, List.set_cons_zero, List.set_cons_succ]
                  refine quietW_moveV (by kernel_rfl) _ rfl (.slice (some ⟨g, 0, none⟩) n c) rfl ?_
                  simp only [Act.put, List.setIfInBounds_toArray, List.set_cons_zero, List.set_cons_succ]
                  refine quietW_moveV (by kernel_rfl) _ rfl (.int .i64 (a1 : Int)) rfl ?_
                  simp only [Act.put, List.setIfInBounds_toArray, List.set_cons_zero, List.set_cons_succ]
                  refine quietW_still (by kernel_rfl) (.int .i64 (j : Int)) (fun w _ => by first | (go_simp; done) | (go_simp; exact hwj)) ?_
                  simp only [Act.put, List.setIfInBounds_toArray, List.set_cons_zero, List.set_cons_succ]
                  refine quietW_still (by kernel_rfl) (.pointer (some ⟨g, j, none⟩)) (fun w _ => by go_simp) ?_
                  simp only [Act.put, List.setIfInBounds_toArray, List.set_cons_zero, List.set_cons_succ]
                  refine quietW_load1 (by kernel_rfl) _ _ rfl ⟨g, j, none⟩ rfl (.int .u8 (x.toNat : Int)) (load_u8 _ _) (fun _ h => (h.cell (p := ⟨g, j, none⟩) HG.out).trans ci) ?_
                  simp only [Act.put, List.setIfInBounds_toArray, List.set_cons_zero, List.set_cons_succ]
                  refine quietW_moveV (by kernel_rfl) _ rfl (.slice (some ⟨g, 0, none⟩) n c) rfl ?_
                  simp only [Act.put, List.setIfInBounds_toArray, List.set_cons_zero, List.set_cons_succ]
                  refine quietW_moveV (by kernel_rfl) _ rfl (.int .i64 (v : Int)) rfl ?_
                  simp only [Act.put, List.setIfInBounds_toArray, List.set_cons_zero, List.set_cons_succ]
                  refine quietW_still (by kernel_rfl) (.pointer (some ⟨g, v, none⟩)) (fun w _ => by go_simp) ?_
                  simp only [Act.put, List.setIfInBounds_toArray, List.set_cons_zero, List.set_cons_succ]
                  refine quietW_load1 (by kernel_rfl) _ _ rfl ⟨g, v, none⟩ rfl (.int .u8 (y.toNat : Int)) (load_u8 _ _) (fun _ h => (h.cell (p := ⟨g, v, none⟩) HG.out).trans cj) ?_
                  simp only [Act.put, List.setIfInBounds_toArray, List.set_cons_zero, List.set_cons_succ]
                  refine quietW_call (by kernel_rfl) 127 _ _ rfl (enter_of Tryz.func127 (by decide) (by intro h; cases h)) _ (fun W h => (CL.out W).mono fun e w' ⟨he, hw⟩ => ⟨he, hw ▸ h⟩) ?_
                  simp only [Act.put, List.setIfInBounds_toArray, List.set_cons_zero, List.set_cons_succ]
                  refine quietW_still (by kernel_rfl) (.bool false) (fun w _ => by go_simp) ?_
                  simp only [Act.put, List.setIfInBounds_toArray, List.set_cons_zero, List.set_cons_succ]
                  unfold wpQuiet
                  intro w5 hb
                  have HB5 := Lib.hid (HB4.out.trans (hb.mono (by have := HO4.out.lt; have := HO4.out.le; omega)))
                  have HO5 := Lib.hid (HO4.out.below hb)
                  clear hb ci cj
                  go_wp2_with fail
                  go_meet
                  exact ⟨false, rfl, (fun e => Bool.noConfusion e), HO5.out, HB5.out⟩
                · have CL := Lib.hid (fun W => less_any x y false (by simp [hlt]) W)
                  go_wp2_with fail
                  refine wp_region_class (fun w' => Below w4.heap.size w4 w') 14 (by kernel_rfl) (by kernel_rfl) (Below.refl _ w4).drew ?_
                  simp only [List.take_succ_cons, List.take_zero, List.drop_succ_cons, List.drop_zero]
                  refine quiet_moveV rfl _ rfl (.int .i64 (a1 : Int)) rfl ?_
                  simp only [Act.put, List.setIfInBounds_toArray, List.set_cons_zero, List.set_cons_succ]
                  refine quiet_still rfl (.bool true) (fun w _ => by go_simp) ?_
                  simp only [Act.put, List.setIfInBounds_toArray, List.set_cons_zero, List.set_cons_succ]
                  refine quiet_moveV rfl _ rfl (.bool true) rfl ?_
                  simp only [Act.put, List.setIfInBounds_toArray, List.set_cons_zero, List.set_cons_succ]
                  refine quietW_moveV (by kernel_rfl) _ rfl (.slice (some ⟨g, 0, none⟩) n c) rfl ?_
                  simp only [Act.put, List.setIfInBounds_toArray, List.set_cons_zero, List.set_cons_succ]
                  refine quietW_moveV (by kernel_rfl) _ rfl (.int .i64 (a1 : Int)) rfl ?_
                  simp only [Act.put, List.setIfInBounds_toArray, List.set_cons_zero, List.set_cons_succ]
                  refine quietW_still (by kernel_rfl) (.int .i64 (j : Int)) (fun w _ => by first | (go_simp; done) | (go_simp; exact hwj)) ?_
                  simp only [Act.put, List.setIfInBounds_toArray, List.set_cons_zero, List.set_cons_succ]
                  refine quietW_still (by kernel_rfl) (.pointer (some ⟨g, j, none⟩)) (fun w _ => by go_simp) ?_
                  simp only [Act.put, List.setIfInBounds_toArray, List.set_cons_zero, List.set_cons_succ]
                  refine quietW_load1 (by kernel_rfl) _ _ rfl ⟨g, j, none⟩ rfl (.int .u8 (x.toNat : Int)) (load_u8 _ _) (fun _ h => (h.cell (p := ⟨g, j, none⟩) HG.out).trans ci) ?_
                  simp only [Act.put, List.setIfInBounds_toArray, List.set_cons_zero, List.set_cons_succ]
                  refine quietW_moveV (by kernel_rfl) _ rfl (.slice (some ⟨g, 0, none⟩) n c) rfl ?_
                  simp only [Act.put, List.setIfInBounds_toArray, List.set_cons_zero, List.set_cons_succ]
                  refine quietW_moveV (by kernel_rfl) _ rfl (.int .i64 (v : Int)) rfl ?_
                  simp only [Act.put, List.setIfInBounds_toArray, List.set_cons_zero, List.set_cons_succ]
                  refine quietW_still (by kernel_rfl) (.pointer (some ⟨g, v, none⟩)) (fun w _ => by go_simp) ?_
                  simp only [Act.put, List.setIfInBounds_toArray, List.set_cons_zero, List.set_cons_succ]
                  refine quietW_load1 (by kernel_rfl) _ _ rfl ⟨g, v, none⟩ rfl (.int .u8 (y.toNat : Int)) (load_u8 _ _) (fun _ h => (h.cell (p := ⟨g, v, none⟩) HG.out).trans cj) ?_
                  simp only [Act.put, List.setIfInBounds_toArray, List.set_cons_zero, List.set_cons_succ]
                  refine quietW_call (by kernel_rfl) 127 _ _ rfl (enter_of Tryz.func127 (by decide) (by intro h; cases h)) _ (fun W h => (CL.out W).mono fun e w' ⟨he, hw⟩ => ⟨he, hw ▸ h⟩) ?_
                  simp only [Act.put, List.setIfInBounds_toArray, List.set_cons_zero, List.set_cons_succ]
                  refine quietW_still (by kernel_rfl) (.bool true) (fun w _ => by go_simp) ?_
                  simp only [Act.put, List.setIfInBounds_toArray, List.set_cons_zero, List.set_cons_succ]
                  unfold wpQuiet
                  intro w5 hb
                  have HB5 := Lib.hid (HB4.out.trans (hb.mono (by have := HO4.out.lt; have := HO4.out.le; omega)))
                  have HO5 := Lib.hid (HO4.out.below hb)
                  clear hb ci cj
                  go_wp2_with fail
                  go_meet
                  exact ⟨true, rfl, (fun _ => ⟨hpos, by rw [HXE.out, HYE.out]; exact hlt⟩), HO5.out, HB5.out⟩
              · have kp : ¬ (0 : Int) < (a1 : Int) := by omega
                clear hown
                go_wp2_with fail
                refine wp_region_class (fun w' => Below w4.heap.size w4 w') 14 (by kernel_rfl) (by kernel_rfl) (Below.refl _ w4).drew ?_
                simp only [List.take_succ_cons, List.take_zero, List.drop_succ_cons, List.drop_zero]
                refine quiet_moveV rfl _ rfl (.int .i64 (a1 : Int)) rfl ?_
                simp only [Act.put, List.setIfInBounds_toArray, List.set_cons_zero, List.set_cons_succ]
                refine quiet_still rfl (.bool false) (fun w _ => by go_simp) ?_
                simp only [Act.put, List.setIfInBounds_toArray, List.set_cons_zero, List.set_cons_succ]
                refine quiet_moveV rfl _ rfl (.bool false) rfl ?_
                simp only [Act.put, List.setIfInBounds_toArray, List.set_cons_zero, List.set_cons_succ]
                refine quiet_skip (by kernel_rfl) ?_
                simp only [Act.put, List.setIfInBounds_toArray, List.set_cons_zero, List.set_cons_succ]
                refine quiet_skip (by kernel_rfl) ?_
                simp only [Act.put, List.setIfInBounds_toArray, List.set_cons_zero, List.set_cons_succ]
                refine quiet_skip (by kernel_rfl) ?_
                simp only [Act.put, List.setIfInBounds_toArray, List.set_cons_zero, List.set_cons_succ]
                refine quiet_skip (by kernel_rfl) ?_
                simp only [Act.put, List.setIfInBounds_toArray, List.set_cons_zero, List.set_cons_succ]
                refine quiet_skip (by kernel_rfl) ?_
                simp only [Act.put, List.setIfInBounds_toArray, List.set_cons_zero, List.set_cons_succ]
                refine quiet_skip (by kernel_rfl) ?_
                simp only [Act.put, List.setIfInBounds_toArray, List.set_cons_zero, List.set_cons_succ]
                refine quiet_skip (by kernel_rfl) ?_
                simp only [Act.put, List.setIfInBounds_toArray, List.set_cons_zero, List.set_cons_succ]
                refine quiet_skip (by kernel_rfl) ?_
                simp only [Act.put, List.setIfInBounds_toArray, List.set_cons_zero, List.set_cons_succ]
                refine quiet_skip (by kernel_rfl) ?_
                simp only [Act.put, List.setIfInBounds_toArray, List.set_cons_zero, List.set_cons_succ]
                refine quiet_skip (by kernel_rfl) ?_
                simp only [Act.put, List.setIfInBounds_toArray, List.set_cons_zero, List.set_cons_succ]
                refine quiet_skip (by kernel_rfl) ?_
                simp only [Act.put, List.setIfInBounds_toArray, List.set_cons_zero, List.set_cons_succ]
                unfold wpQuiet
                intro w5 hb
                have HB5 := Lib.hid (HB4.out.trans (hb.mono (by have := HO4.out.lt; have := HO4.out.le; omega)))
                have HO5 := Lib.hid (HO4.out.below hb)
                clear hb
                go_wp2_with fail
                go_meet
                exact ⟨false, rfl, (fun e => Bool.noConfusion e), HO5.out, HB5.out⟩
            case rest =>
              clear hown
              obtain ⟨t, rfl, ht, hown, hb⟩ := hcut
              rename World => w6
              have HB6 := Lib.hid hb
              clear hb
              cases t with
              | true =>
                have HT := Lib.hid (ht rfl)
                have CE := Lib.hid (partEqual_any R2 B g c n a1 b1 v (by omega) w6 hown (by omega) (by omega) hv1 hv2)
                clear ht hown
                go_wp2_with fail
                refine CE.out.mono ?_
                rintro e w7 ⟨R3, m, rfl, hm, ho, hs3, hlo, hhi, hb7⟩
                have HN := Lib.hid (HOD2.out.equal h1 h3 HT.out.1 HLE2.out hs3 HT.out.2 hm.1 hlo hhi)
                have HSW3 := Lib.hid (HSW2.out.trans (hs3.mono h1 h3))
                have HO7 := Lib.hid ho
                have HB7 := Lib.hid (HB6.out.trans hb7)
                have hm1 := hm.1
                have hm2 := hm.2
                clear hm ho hs3 hlo hhi hb7
                go_wp2_with fail
                go_roundw
                case rel => exact ⟨m, b1, l2, R3, p8, p9, rfl, rfl, rfl, rfl, rfl, by omega, by omega, h3, by omega, h7, HN.out.2, HN.out.1, HSW3.out, HO7.out, HB7.out⟩
                case measure => (simp [intOf] <;> omega)
              | false =>
                have CE := Lib.hid (partition_any R2 B g c n a1 b1 v (by omega) w6 hown (by omega) (by omega) hv1 hv2)
                clear ht hown
                go_wp2_with fail
                refine CE.out.mono ?_
                rintro e w7 ⟨R3, m, rv, rfl, hrv, hm, ho, hs3, hlo, hhi, hb7⟩
                obtain ⟨q9, rfl⟩ : ∃ q9, rv = .bool q9 := by rcases hrv with e | e <;> exact ⟨_, e⟩
                have hm1 := hm.1
                have hm2 := hm.2
                have HM := Lib.hid hm
                have HO7 := Lib.hid ho
                have HS3 := Lib.hid hs3
                have HLO := Lib.hid hlo
                have HHI := Lib.hid hhi
                have HB7 := Lib.hid (HB6.out.trans hb7)
                have HLE3 := Lib.hid (HLE2.out.sw hs3)
                clear hrv hm ho hs3 hlo hhi hb7
                by_cases hlr : m - a1 < b1 - m
                · have k2 : (m : Int) - (a1 : Int) < (b1 : Int) - (m : Int) := by omega
                  have CI := Lib.hid (IH.out R3 B g c n a1 m l2 w7 (by omega) hn HO7.out hm1 (by omega) (by omega) h7 (by rcases HLE3.out with e | e; exact .inl e; exact .inr fun p e1 e2 => e p e1 (by omega)))
                  clear hlr
                  go_wp2_with fail
                  refine CI.out.mono ?_
                  rintro e w8 ⟨R4, rfl, ho, hs4, hsr, hb8⟩
                  have HN := Lib.hid (HOD2.out.left h1 h3 HS3.out HM.out HLO.out HHI.out hs4 hsr)
                  have HSW3 := Lib.hid (HSW2.out.trans ((HS3.out.trans (hs4.mono (Nat.le_refl _) (by omega))).mono h1 h3))
                  have HO8 := Lib.hid ho
                  have HB8 := Lib.hid (HB7.out.trans hb8)
                  clear ho hs4 hsr hb8
                  go_wp2_with fail
                  go_roundw
                  case rel => exact ⟨m + 1, b1, l2, R4, _, q9, by go_num, rfl, rfl, rfl, rfl, by omega, by omega, h3, by omega, h7, HN.out.2, HN.out.1, HSW3.out, HO8.out, HB8.out⟩
                  case measure => (simp [intOf] <;> omega)
                · have k2 : ¬ (m : Int) - (a1 : Int) < (b1 : Int) - (m : Int) := by omega
                  have CI0 := IH.out R3 B g c n (m + 1) b1 l2 w7 (by omega) hn HO7.out (by omega) (by omega) (by omega) h7 (.inr fun p e1 e2 => by rw [show m + 1 - 1 = m by omega]; exact HHI.out p (by omega) e2)
                  rw [show ((m + 1 : Nat) : Int) = (m : Int) + 1 by omega] at CI0
                  have CI := Lib.hid CI0
                  clear hlr CI0
                  go_wp2_with fail
                  refine CI.out.mono ?_
                  rintro e w8 ⟨R4, rfl, ho, hs4, hsr, hb8⟩
                  have HN := Lib.hid (HOD2.out.right h1 h3 HLE2.out HS3.out HM.out HLO.out HHI.out hs4 hsr)
                  have HSW3 := Lib.hid (HSW2.out.trans ((HS3.out.trans (hs4.mono (by omega) (Nat.le_refl _))).mono h1 h3))
                  have HO8 := Lib.hid ho
                  have HB8 := Lib.hid (HB7.out.trans hb8)
                  clear ho hs4 hsr hb8
                  go_wp2_with fail
                  go_roundw
                  case rel => exact ⟨a1, m, l2, R4, _, q9, rfl, rfl, rfl, rfl, rfl, h1, hm1, by omega, by omega, h7, HN.out.2, HN.out.1, HSW3.out, HO8.out, HB8.out⟩
                  case measure => (simp [intOf] <;> omega)
end Go.Proofs.YtmefpaoakblndaaGreatDoor
namespace Go.Proofs.YtmefpaoakblndaaGreatDoor
open Go.RowKit
set_option maxHeartbeats 1000000 in
set_option maxRecDepth 100000 in
theorem sort16 (l : List UInt8) (B g c n : Nat) (hn : l.length = n) (hs : n ≤ 16) (w : World) (hown0 : BR w B g n l) (_hBg : B ≤ g) :
    Calls Tryz.prog 91 #[.slice (some ⟨g, 0, none⟩) n c] w fun e w' => ∃ R, e = .returned (.tuple #[]) ∧ BR w' B g n R ∧ R.Perm l ∧ R.Pairwise (fun a b => a.toNat ≤ b.toNat) ∧ Below B w w' := by
  have hbl : ∀ m, m < 17 → m ≤ Lib.bitLen m + 12 ∧ Lib.bitLen m ≤ 100 := by decide +kernel
  obtain ⟨hl1, hl2⟩ := hbl n (by omega)
  have CI := Lib.hid (pdq_any (n + 1) l B g c n 0 n (Lib.bitLen n) w (by omega) hs hown0 (by omega) (by omega) (by omega) hl2 (.inl rfl))
  clear hbl hl1 hl2
  have CL := Lib.hid (fun W => Tryz.bits_Len (n : Int) W (by omega) (by omega))
  have hwn : IntKind.u64.wrap (n : Int) = (n : Int) := by unfold IntKind.wrap; simp [IntKind.signed, IntKind.bits]; omega
  clear hown0
  go_enter Tryz.func91, Tryz.ntmps91
  go_wp2_with fail
  refine (CL.out _).mono ?_
  rintro e w1 ⟨rfl, hw⟩
  obtain rfl := hw.symm
  clear hw
  go_wp2_with fail
  refine CI.out.mono ?_
  rintro e w1 ⟨R, rfl, ho, hp, hs2, hb⟩
  have HO := Lib.hid ho
  have HP := Lib.hid hp.perm
  have HS := Lib.hid (sr_pair (ho.len) hs2)
  have hs := hs2
  clear ho hp hs
  go_wp2_with fail
  go_end0
  first | exact ⟨rfl, R, HO.out, HP.out, HS.out, hb⟩ | exact ⟨R, rfl, HO.out, HP.out, HS.out, hb⟩
end Go.Proofs.YtmefpaoakblndaaGreatDoor
