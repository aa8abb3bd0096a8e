/- The law of cloth. -/
import Derived.Test.YtcjbjlepgdggpaaTNL
import Derived.Test.YtcjbjlepgdggpaaTW
namespace Go.Proofs.Ytcjbjlepgdggpaa
open Go.RowKit Go.Shelf Go.Lib
set_option maxRecDepth 100000
set_option linter.unusedSimpArgs false
set_option linter.unusedVariables false
attribute [local irreducible] wpQuiet
/-- What the law asks of two sheets that are the same lace. -/
theorem cloth_same {a b : Sh} (ha : chkS a = 0) (hb : chkS b = 0) (hm : mE a b = 0) : a.pr = b.pr ∧ histS crWd (2 * b.pr.toNat) b.ws = histS crWd (2 * a.pr.toNat) a.ws := by
  obtain ⟨_, _, h3, l, h4⟩ := mE_inv hm
  have e1 : a.pr = b.pr := by
    refine Classical.byContradiction fun h => h3 (.inl h)
  have e2 : b.ws.length = a.ws.length := by
    refine Classical.byContradiction fun h => h3 (.inr fun e => h e.symm)
  have hO := OkL.of_match e2 h4
  have h2 := (chkS_ok ha).2.1
  refine ⟨e1, ?_⟩
  rw [← e1]
  exact hist_same (pr := a.pr.toNat) rfl hO (fun x hx => by have := chk_fits ha x hx; omega) (fun x _ => crW_ok _)
theorem cloth_rb {a : Sh} (ha : chkS a = 0) (n : Nat) : RB (histS crWd n a.ws) 30000 := fun c r hr => by
  have h := fold_rb a.ws (hist0 n) 0 (fun x hx => chk_words ha x hx) (hist0_rb n) c r hr
  have := (chkS_ok ha).2.2.1
  omega
set_option maxHeartbeats 16000000 in
theorem cloth_law (a b : Sh) (ua va : Option Addr) (uc vc : Nat) (w : World) (hu : WS w (.slice ua a.ws.length uc) a.ws) (hv : WS w (.slice va b.ws.length vc) b.ws) :
    Calls Try.prog 7 #[.agg #[.int .i64 a.pr, .slice ua a.ws.length uc], .agg #[.int .i64 b.pr, .slice va b.ws.length vc]] w fun e w' => e = .returned (.bool true) ∧ Below w.heap.size w w' := by
  have HU := Lib.hid hu
  have HV := Lib.hid hv
  have CA := Lib.hid (fun W => awake_any W)
  have CK := Lib.hid (fun W h => refCheck4_any a (.agg #[.int .i64 a.pr, .slice ua a.ws.length uc]) W h)
  have CL := Lib.hid (fun W h => refCheck4_any b (.agg #[.int .i64 b.pr, .slice va b.ws.length vc]) W h)
  have CS := Lib.hid (fun W h1 h2 => Same_any a b (.slice ua a.ws.length uc) (.slice va b.ws.length vc) W h1 h2)
  have C1 := Lib.hid (fun W h1 h2 => histories_any a ua uc W h1 h2)
  have C2 := Lib.hid (fun W h1 h2 => histories_any b va vc W h1 h2)
  have HCL := Lib.hid (@cloth_same a b)
  have HRB := Lib.hid (@cloth_rb a)
  have H04 := Lib.hid (@mE_04 a b)
  have HSB := Lib.hid (show smB a b = decide (mE a b = 0) from rfl)
  have HSE := Lib.hid (show smE a b = if mE a b = 4 then 0 else mE a b from rfl)
  have HK24 := Lib.hid (show chkS a = 0 → 2 * a.pr.toNat ≤ 48 from fun h => by have := (chkS_ok h).1; omega)
  have hl4 : a.ws.length ≤ maxLen ∧ b.ws.length ≤ maxLen := by
    obtain ⟨_, _, e1, q1, q2, _⟩ := hu
    obtain ⟨_, _, e2, q3, q4, _⟩ := hv
    injection e1 with e11 e12 e13
    injection e2 with e21 e22 e23
    exact ⟨by omega, by omega⟩
  clear hu hv
  go_enter Try.func7, Try.ntmps7
  go_wp2_with fail
  have B0 : Below w.heap.size w ((w.alloc (.cells #[.int .i64 a.pr, .slice ua a.ws.length uc] 24)).alloc (.cells #[.int .i64 b.pr, .slice va b.ws.length vc] 24)) := (below_alloc _ _).alloc (by simp) _
  have i0 := heap_alloc2_old w (.cells #[.int .i64 a.pr, .slice ua a.ws.length uc] 24) (.cells #[.int .i64 b.pr, .slice va b.ws.length vc] 24)
  have i1 := heap_alloc2_new w (.cells #[.int .i64 a.pr, .slice ua a.ws.length uc] 24) (.cells #[.int .i64 b.pr, .slice va b.ws.length vc] 24)
  have hz0 : w.heap.size + 2 ≤ ((w.alloc (.cells #[.int .i64 a.pr, .slice ua a.ws.length uc] 24)).alloc (.cells #[.int .i64 b.pr, .slice va b.ws.length vc] 24)).heap.size := by simp
  generalize (w.alloc (.cells #[.int .i64 a.pr, .slice ua a.ws.length uc] 24)).alloc (.cells #[.int .i64 b.pr, .slice va b.ws.length vc] 24) = w0 at *
  have HB := Lib.hid B0
  have HA := Lib.hid (show w0.heap[w.heap.size]? = some (.cells #[.int .i64 a.pr, .slice ua a.ws.length uc] 24 (0, 0)) from i0)
  have HBB := Lib.hid (show w0.heap[(w.heap.size + 1)]? = some (.cells #[.int .i64 b.pr, .slice va b.ws.length vc] 24 (0, 0)) from i1)
  clear i0 i1 B0
  have cA0 : w0.cell? ⟨w.heap.size, 0, none⟩ = some (.int .i64 a.pr) := cell_of_row w0 _ 0 _ _ _ HA.out
  have cA1 : w0.cell? ⟨w.heap.size, 1, none⟩ = some (.slice ua a.ws.length uc) := cell_of_row w0 _ 1 _ _ _ HA.out
  have cBB0 : w0.cell? ⟨(w.heap.size + 1), 0, none⟩ = some (.int .i64 b.pr) := cell_of_row w0 _ 0 _ _ _ HBB.out
  have cBB1 : w0.cell? ⟨(w.heap.size + 1), 1, none⟩ = some (.slice va b.ws.length vc) := cell_of_row w0 _ 1 _ _ _ HBB.out
  replace HU := Lib.hid (HU.out.below HB.out)
  replace HV := Lib.hid (HV.out.below HB.out)
  refine (CK.out w0 ⟨_, rfl, HU.out⟩).mono ?_
  rintro e w1 ⟨rfl, b1⟩
  replace HA := Lib.hid (hb_below b1 HA.out (by omega))
  replace HBB := Lib.hid (hb_below b1 HBB.out (by omega))
  have hzw1 : w0.heap.size ≤ w1.heap.size := b1.size
  replace HU := Lib.hid (HU.out.below b1)
  replace HV := Lib.hid (HV.out.below b1)
  replace HB := Lib.hid (bon HB.out b1)
  clear b1
  clear cA0 cA1 cBB0 cBB1
  have cA0 : w1.cell? ⟨w.heap.size, 0, none⟩ = some (.int .i64 a.pr) := cell_of_row w1 _ 0 _ _ _ HA.out
  have cA1 : w1.cell? ⟨w.heap.size, 1, none⟩ = some (.slice ua a.ws.length uc) := cell_of_row w1 _ 1 _ _ _ HA.out
  have cBB0 : w1.cell? ⟨(w.heap.size + 1), 0, none⟩ = some (.int .i64 b.pr) := cell_of_row w1 _ 0 _ _ _ HBB.out
  have cBB1 : w1.cell? ⟨(w.heap.size + 1), 1, none⟩ = some (.slice va b.ws.length vc) := cell_of_row w1 _ 1 _ _ _ HBB.out
  by_cases hck : chkS a = 0
  · have hck' : (chkS a == 0) = true := beq_iff_eq.2 hck
    go_wp2_with fail
    refine (CL.out w1 ⟨_, rfl, HV.out⟩).mono ?_
    rintro e w2 ⟨rfl, b2⟩
    replace HA := Lib.hid (hb_below b2 HA.out (by omega))
    replace HBB := Lib.hid (hb_below b2 HBB.out (by omega))
    have hzw2 : w1.heap.size ≤ w2.heap.size := b2.size
    replace HU := Lib.hid (HU.out.below b2)
    replace HV := Lib.hid (HV.out.below b2)
    replace HB := Lib.hid (bon HB.out b2)
    clear b2
    clear cA0 cA1 cBB0 cBB1
    have cA0 : w2.cell? ⟨w.heap.size, 0, none⟩ = some (.int .i64 a.pr) := cell_of_row w2 _ 0 _ _ _ HA.out
    have cA1 : w2.cell? ⟨w.heap.size, 1, none⟩ = some (.slice ua a.ws.length uc) := cell_of_row w2 _ 1 _ _ _ HA.out
    have cBB0 : w2.cell? ⟨(w.heap.size + 1), 0, none⟩ = some (.int .i64 b.pr) := cell_of_row w2 _ 0 _ _ _ HBB.out
    have cBB1 : w2.cell? ⟨(w.heap.size + 1), 1, none⟩ = some (.slice va b.ws.length vc) := cell_of_row w2 _ 1 _ _ _ HBB.out
    by_cases hcb : chkS b = 0
    · have hcb' : (chkS b == 0) = true := beq_iff_eq.2 hcb
      by_cases ha1 : a.ws.length ≤ 100
      · have k1 : ¬ (100 : Int) < (a.ws.length : Int) := by omega
        by_cases hb1 : b.ws.length ≤ 100
        · have k2 : ¬ (100 : Int) < (b.ws.length : Int) := by omega
          go_wp2_with fail
          refine (CS.out w2 HU.out HV.out).mono ?_
          rintro e w3 ⟨rfl, b3⟩
          replace HA := Lib.hid (hb_below b3 HA.out (by omega))
          replace HBB := Lib.hid (hb_below b3 HBB.out (by omega))
          have hzw3 : w2.heap.size ≤ w3.heap.size := b3.size
          replace HU := Lib.hid (HU.out.below b3)
          replace HV := Lib.hid (HV.out.below b3)
          replace HB := Lib.hid (bon HB.out b3)
          clear b3
          clear cA0 cA1 cBB0 cBB1
          have cA0 : w3.cell? ⟨w.heap.size, 0, none⟩ = some (.int .i64 a.pr) := cell_of_row w3 _ 0 _ _ _ HA.out
          have cA1 : w3.cell? ⟨w.heap.size, 1, none⟩ = some (.slice ua a.ws.length uc) := cell_of_row w3 _ 1 _ _ _ HA.out
          have cBB0 : w3.cell? ⟨(w.heap.size + 1), 0, none⟩ = some (.int .i64 b.pr) := cell_of_row w3 _ 0 _ _ _ HBB.out
          have cBB1 : w3.cell? ⟨(w.heap.size + 1), 1, none⟩ = some (.slice va b.ws.length vc) := cell_of_row w3 _ 1 _ _ _ HBB.out
          rcases H04.out hck hcb with hm | hm
          · have e1 : smB a b = true := by rw [HSB.out, hm]; rfl
            have e2 : smE a b = 0 := by rw [HSE.out, hm]; rfl
            obtain ⟨hpr, hh⟩ := HCL.out hck hcb hm
            rw [e1, e2]
            have HHH := Lib.hid hh
            have HRB' := Lib.hid (HRB.out hck (2 * a.pr.toNat))
            have h48 := HK24.out hck
            have hpr2 : (a.pr == b.pr) = true := beq_iff_eq.2 hpr
            have HPR := Lib.hid hpr
            clear e1 e2 hh hm HCL H04 HSB HSE HRB HK24 hck' hcb' k1 k2 hpr
            go_upto_region 4 with fail
            refine wp_region_held (S := fun V => Below w3.heap.size w3 V) (by kernel_rfl) ?_
            have D0 : Below w3.heap.size w3 ({ w3 with drawn := w3.drawn + 1 } : World) := (Below.refl _ w3).drew
            generalize ({ w3 with drawn := w3.drawn + 1 } : World) = wD at *
            refine heldW_take (i := 0) rfl (by kernel_rfl) (by kernel_rfl) (by kernel_rfl) (.int .i64 0) (fun _ _ _ h => h) D0 (by kernel_rfl) (fun w _ => by go_simp) ?_
            simp only [Act.put, List.getElem_toArray, List.getElem_cons_succ, List.getElem_cons_zero, List.setIfInBounds_toArray, List.set_cons_zero, List.set_cons_succ]
            refine heldW_take (i := 1) rfl (by kernel_rfl) (by kernel_rfl) (by kernel_rfl) (.bool true) (fun _ _ _ h => h) D0 (by kernel_rfl) (fun w _ => by go_simp) ?_
            simp only [Act.put, List.getElem_toArray, List.getElem_cons_succ, List.getElem_cons_zero, List.setIfInBounds_toArray, List.set_cons_zero, List.set_cons_succ]
            refine heldW_take (i := 2) rfl (by kernel_rfl) (by kernel_rfl) (by kernel_rfl) (.bool true) (fun _ _ _ h => h) D0 (by kernel_rfl) (fun w _ => by go_simp) ?_
            simp only [Act.put, List.getElem_toArray, List.getElem_cons_succ, List.getElem_cons_zero, List.setIfInBounds_toArray, List.set_cons_zero, List.set_cons_succ]
            refine heldW_take (i := 3) rfl (by kernel_rfl) (by kernel_rfl) (by kernel_rfl) (.bool true) (fun _ _ _ h => h) D0 (by kernel_rfl) (fun w _ => by go_simp) ?_
            simp only [Act.put, List.getElem_toArray, List.getElem_cons_succ, List.getElem_cons_zero, List.setIfInBounds_toArray, List.set_cons_zero, List.set_cons_succ]
            refine heldW_take (i := 4) rfl (by kernel_rfl) (by kernel_rfl) (by kernel_rfl) (.bool false) (fun _ _ _ h => h) D0 (by kernel_rfl) (fun w _ => by go_simp) ?_
            simp only [Act.put, List.getElem_toArray, List.getElem_cons_succ, List.getElem_cons_zero, List.setIfInBounds_toArray, List.set_cons_zero, List.set_cons_succ]
            refine heldW_take (i := 5) rfl (by kernel_rfl) (by kernel_rfl) (by kernel_rfl) (.bool false) (fun _ _ _ h => h) D0 (by kernel_rfl) (fun w _ => by go_simp) ?_
            simp only [Act.put, List.getElem_toArray, List.getElem_cons_succ, List.getElem_cons_zero, List.setIfInBounds_toArray, List.set_cons_zero, List.set_cons_succ]
            refine heldW_take (i := 6) rfl (by kernel_rfl) (by kernel_rfl) (by kernel_rfl) (.pointer (some ⟨w.heap.size, 0, none⟩)) (fun _ _ _ h => h) D0 (by kernel_rfl) (fun w _ => by go_simp) ?_
            simp only [Act.put, List.getElem_toArray, List.getElem_cons_succ, List.getElem_cons_zero, List.setIfInBounds_toArray, List.set_cons_zero, List.set_cons_succ]
            refine heldW_load1 (i := 7) rfl (by kernel_rfl) (by kernel_rfl) (by kernel_rfl) (.int .i64 a.pr) (fun _ _ _ h => h) D0 (by kernel_rfl) _ _ rfl ⟨w.heap.size, 0, none⟩ rfl (fun w' h => load_int _ _ _ h) (fun V h => (h.cell (p := ⟨w.heap.size, 0, none⟩) (by simp; omega)).trans cA0) ?_
            simp only [Act.put, List.getElem_toArray, List.getElem_cons_succ, List.getElem_cons_zero, List.setIfInBounds_toArray, List.set_cons_zero, List.set_cons_succ]
            refine heldW_take (i := 8) rfl (by kernel_rfl) (by kernel_rfl) (by kernel_rfl) (.pointer (some ⟨w.heap.size + 1, 0, none⟩)) (fun _ _ _ h => h) D0 (by kernel_rfl) (fun w _ => by go_simp) ?_
            simp only [Act.put, List.getElem_toArray, List.getElem_cons_succ, List.getElem_cons_zero, List.setIfInBounds_toArray, List.set_cons_zero, List.set_cons_succ]
            refine heldW_load1 (i := 9) rfl (by kernel_rfl) (by kernel_rfl) (by kernel_rfl) (.int .i64 b.pr) (fun _ _ _ h => h) D0 (by kernel_rfl) _ _ rfl ⟨w.heap.size + 1, 0, none⟩ rfl (fun w' h => load_int _ _ _ h) (fun V h => (h.cell (p := ⟨w.heap.size + 1, 0, none⟩) (by simp; omega)).trans cBB0) ?_
            simp only [Act.put, List.getElem_toArray, List.getElem_cons_succ, List.getElem_cons_zero, List.setIfInBounds_toArray, List.set_cons_zero, List.set_cons_succ]
            refine heldW_take (i := 10) rfl (by kernel_rfl) (by kernel_rfl) (by kernel_rfl) (.bool true) (fun _ _ _ h => h) D0 (by kernel_rfl) (fun w _ => by have h := HPR.out; go_simp; first | done | exact h | simp [h]) ?_
            simp only [Act.put, List.getElem_toArray, List.getElem_cons_succ, List.getElem_cons_zero, List.setIfInBounds_toArray, List.set_cons_zero, List.set_cons_succ]
            refine heldW_take (i := 11) rfl (by kernel_rfl) (by kernel_rfl) (by kernel_rfl) (.bool true) (fun _ _ _ h => h) D0 (by kernel_rfl) (fun w _ => by go_simp) ?_
            simp only [Act.put, List.getElem_toArray, List.getElem_cons_succ, List.getElem_cons_zero, List.setIfInBounds_toArray, List.set_cons_zero, List.set_cons_succ]
            have R12 := Lib.hid (range_of_heap (vs := [.int .i64 a.pr, .slice ua a.ws.length uc]) HA.out)
            refine heldW_load (i := 12) rfl (by kernel_rfl) (by kernel_rfl) (by kernel_rfl) [.int .i64 a.pr, .slice ua a.ws.length uc] (fun _ _ _ h => h) D0 (by kernel_rfl) _ _ rfl (w.heap.size) 0 rfl _ (fun V h => range_below3 R12.out (by omega) h) Try.underlying24 rfl infoSh2 ?_
            simp only [Act.put, List.getElem_toArray, List.getElem_cons_succ, List.getElem_cons_zero, List.setIfInBounds_toArray, List.set_cons_zero, List.set_cons_succ]
            have R14 := Lib.hid (range_of_heap (vs := [.int .i64 b.pr, .slice va b.ws.length vc]) HBB.out)
            refine heldW_load (i := 14) rfl (by kernel_rfl) (by kernel_rfl) (by kernel_rfl) [.int .i64 b.pr, .slice va b.ws.length vc] (fun _ _ _ h => h) D0 (by kernel_rfl) _ _ rfl ((w.heap.size + 1)) 0 rfl _ (fun V h => range_below3 R14.out (by omega) h) Try.underlying24 rfl infoSh2 ?_
            simp only [Act.put, List.getElem_toArray, List.getElem_cons_succ, List.getElem_cons_zero, List.setIfInBounds_toArray, List.set_cons_zero, List.set_cons_succ]
            refine heldW_call (i := 13) (by kernel_rfl) rfl (by kernel_rfl) 34 _ _ rfl (enter_of Try.func34 (by decide) (by intro h; cases h)) #[.agg #[.int .i64 a.pr, .slice ua a.ws.length uc]] rfl ?_
            refine (C1.out wD (HU.out.below D0) hck).mono ?_
            rintro e w4 ⟨BA, go1, gl1, vs1, rfl, ht1, b4⟩
            have D4 := bon D0 b4
            refine ⟨_, rfl, D4, ?_⟩
            simp only [Act.put, List.getElem_toArray, List.getElem_cons_succ, List.getElem_cons_zero, List.setIfInBounds_toArray, List.set_cons_zero, List.set_cons_succ]
            refine heldW_call (i := 15) (by kernel_rfl) rfl (by kernel_rfl) 34 _ _ rfl (enter_of Try.func34 (by decide) (by intro h; cases h)) #[.agg #[.int .i64 b.pr, .slice va b.ws.length vc]] rfl ?_
            refine (C2.out w4 (HV.out.below D4) hcb).mono ?_
            rintro e w5 ⟨BB2, go2, gl2, vs2, rfl, ht2, b5⟩
            have D5 := bon D4 b5
            refine ⟨_, rfl, D5, ?_⟩
            simp only [Act.put, List.getElem_toArray, List.getElem_cons_succ, List.getElem_cons_zero, List.setIfInBounds_toArray, List.set_cons_zero, List.set_cons_succ]
            have ht1' := ht1.below b5 (Nat.le_refl _)
            have HPP := Lib.hid HPR.out
            have ht2' : HT BB2 w5 (2 * a.pr.toNat) go2 gl2 vs2 (histS crWd (2 * a.pr.toNat) a.ws) := by
              rw [← HHH.out]
              rw [HPR.out]
              exact ht2
            refine heldW_call (i := 16) (by kernel_rfl) rfl (by kernel_rfl) 33 _ _ rfl (enter_of Try.func33 (by decide) (by intro h; cases h)) #[.slice (some ⟨go1, 0, none⟩) (2 * a.pr.toNat) (2 * a.pr.toNat), .slice (some ⟨go2, 0, none⟩) (2 * a.pr.toNat) (2 * a.pr.toNat)] (by simp only [List.map_cons, List.map_nil, Act.eval, HPR.out]; rfl) ?_
            refine (same_hist BA BB2 _ go1 gl1 go2 gl2 vs1 vs2 _ w5 ht1' ht2' h48 HRB'.out).mono ?_
            rintro e w6 ⟨rfl, b6⟩
            have D6 := bon D5 b6
            refine ⟨_, rfl, D6, ?_⟩
            simp only [Act.put, List.getElem_toArray, List.getElem_cons_succ, List.getElem_cons_zero, List.setIfInBounds_toArray, List.set_cons_zero, List.set_cons_succ]
            refine heldW_take (i := 17) rfl (by kernel_rfl) (by kernel_rfl) (by kernel_rfl) (.bool true) (fun _ _ _ h => h) D6 (by kernel_rfl) (fun w _ => by go_simp) ?_
            simp only [Act.put, List.getElem_toArray, List.getElem_cons_succ, List.getElem_cons_zero, List.setIfInBounds_toArray, List.set_cons_zero, List.set_cons_succ]
            refine heldW_take (i := 18) rfl (by kernel_rfl) (by kernel_rfl) (by kernel_rfl) (.bool true) (fun _ _ _ h => h) D6 (by kernel_rfl) (fun w _ => by go_simp) ?_
            simp only [Act.put, List.getElem_toArray, List.getElem_cons_succ, List.getElem_cons_zero, List.setIfInBounds_toArray, List.set_cons_zero, List.set_cons_succ]
            refine heldW_take (i := 19) rfl (by kernel_rfl) (by kernel_rfl) (by kernel_rfl) (.bool true) (fun _ _ _ h => h) D6 (by kernel_rfl) (fun w _ => by go_simp) ?_
            simp only [Act.put, List.getElem_toArray, List.getElem_cons_succ, List.getElem_cons_zero, List.setIfInBounds_toArray, List.set_cons_zero, List.set_cons_succ]
            refine heldW_take (i := 20) rfl (by kernel_rfl) (by kernel_rfl) (by kernel_rfl) (.bool true) (fun _ _ _ h => h) D6 (by kernel_rfl) (fun w _ => by go_simp) ?_
            simp only [Act.put, List.getElem_toArray, List.getElem_cons_succ, List.getElem_cons_zero, List.setIfInBounds_toArray, List.set_cons_zero, List.set_cons_succ]
            refine heldW_call (i := 21) (by kernel_rfl) rfl (by kernel_rfl) 14 _ _ rfl (enter_of Try.func14 (by decide) (by intro h; cases h)) #[] rfl ?_
            refine (CA.out w6).mono ?_
            rintro e w7 ⟨rfl, b7⟩
            have D7 := bon D6 b7
            refine ⟨_, rfl, D7, ?_⟩
            simp only [Act.put, List.getElem_toArray, List.getElem_cons_succ, List.getElem_cons_zero, List.setIfInBounds_toArray, List.set_cons_zero, List.set_cons_succ]
            refine heldW_take (i := 22) rfl (by kernel_rfl) (by kernel_rfl) (by kernel_rfl) (.bool true) (fun _ _ _ h => h) D7 (by kernel_rfl) (fun w _ => by go_simp) ?_
            simp only [Act.put, List.getElem_toArray, List.getElem_cons_succ, List.getElem_cons_zero, List.setIfInBounds_toArray, List.set_cons_zero, List.set_cons_succ]
            refine heldW_take (i := 23) rfl (by kernel_rfl) (by kernel_rfl) (by kernel_rfl) (.bool true) (fun _ _ _ h => h) D7 (by kernel_rfl) (fun w _ => by go_simp) ?_
            simp only [Act.put, List.getElem_toArray, List.getElem_cons_succ, List.getElem_cons_zero, List.setIfInBounds_toArray, List.set_cons_zero, List.set_cons_succ]
            refine wpAnyH_done (by kernel_rfl) ?_ _
            have HBZ := Lib.hid (HB.out.trans (D7.mono (by have := HB.out.size; omega)))
            clear ht1 ht2 ht1' ht2' b4 b5 b6 b7 D0 D4 D5 D6 D7
            go_wp2_with fail
            go_ret
            exact ⟨rfl, HBZ.out⟩
          · have e1 : smB a b = false := by rw [HSB.out, hm]; rfl
            have e2 : smE a b = 0 := by rw [HSE.out, hm]; rfl
            rw [e1, e2]
            clear e1 e2 hm HCL H04 HSB HSE HRB HK24 hck' hcb' k1 k2
            go_upto_region 4 with fail
            refine wp_region_class (fun w' => Below w3.heap.size w3 w') 23 (by kernel_rfl) (by kernel_rfl) (Below.refl _ w3).drew ?_
            simp only [List.take_succ_cons, List.take_zero, List.drop_succ_cons, List.drop_zero]
            refine quiet_moveV rfl _ rfl (.int .i64 0) rfl ?_
            simp only [Act.put, List.setIfInBounds_toArray, List.set_cons_zero, List.set_cons_succ]
            refine quiet_still rfl (.bool true) (fun w _ => by go_simp) ?_
            simp only [Act.put, List.setIfInBounds_toArray, List.set_cons_zero, List.set_cons_succ]
            refine quiet_moveV rfl _ rfl (.bool true) rfl ?_
            simp only [Act.put, List.setIfInBounds_toArray, List.set_cons_zero, List.set_cons_succ]
            refine quietW_moveV (by kernel_rfl) _ rfl (.bool false) rfl ?_
            simp only [Act.put, List.setIfInBounds_toArray, List.set_cons_zero, List.set_cons_succ]
            refine quietW_still (by kernel_rfl) (.bool true) (fun w _ => by go_simp) ?_
            simp only [Act.put, List.setIfInBounds_toArray, List.set_cons_zero, List.set_cons_succ]
            refine quietW_moveV (by kernel_rfl) _ rfl (.bool true) rfl ?_
            simp only [Act.put, List.setIfInBounds_toArray, List.set_cons_zero, List.set_cons_succ]
            refine quiet_skip (by kernel_rfl) ?_
            simp only [Act.put, List.setIfInBounds_toArray, List.set_cons_zero, List.set_cons_succ]
            refine quiet_skip (by kernel_rfl) ?_
            simp only [Act.put, List.setIfInBounds_toArray, List.set_cons_zero, List.set_cons_succ]
            refine quiet_skip (by kernel_rfl) ?_
            simp only [Act.put, List.setIfInBounds_toArray, List.set_cons_zero, List.set_cons_succ]
            refine quiet_skip (by kernel_rfl) ?_
            simp only [Act.put, List.setIfInBounds_toArray, List.set_cons_zero, List.set_cons_succ]
            refine quiet_skip (by kernel_rfl) ?_
            simp only [Act.put, List.setIfInBounds_toArray, List.set_cons_zero, List.set_cons_succ]
            refine quiet_skip (by kernel_rfl) ?_
            simp only [Act.put, List.setIfInBounds_toArray, List.set_cons_zero, List.set_cons_succ]
            refine quiet_skip (by kernel_rfl) ?_
            simp only [Act.put, List.setIfInBounds_toArray, List.set_cons_zero, List.set_cons_succ]
            refine quiet_skip (by kernel_rfl) ?_
            simp only [Act.put, List.setIfInBounds_toArray, List.set_cons_zero, List.set_cons_succ]
            refine quiet_skip (by kernel_rfl) ?_
            simp only [Act.put, List.setIfInBounds_toArray, List.set_cons_zero, List.set_cons_succ]
            refine quiet_skip (by kernel_rfl) ?_
            simp only [Act.put, List.setIfInBounds_toArray, List.set_cons_zero, List.set_cons_succ]
            refine quiet_skip (by kernel_rfl) ?_
            simp only [Act.put, List.setIfInBounds_toArray, List.set_cons_zero, List.set_cons_succ]
            refine quiet_skip (by kernel_rfl) ?_
            simp only [Act.put, List.setIfInBounds_toArray, List.set_cons_zero, List.set_cons_succ]
            refine quietW_still (by kernel_rfl) (.bool true) (fun w _ => by go_simp) ?_
            simp only [Act.put, List.setIfInBounds_toArray, List.set_cons_zero, List.set_cons_succ]
            refine quiet_still rfl (.bool true) (fun w _ => by go_simp) ?_
            simp only [Act.put, List.setIfInBounds_toArray, List.set_cons_zero, List.set_cons_succ]
            refine quiet_moveV rfl _ rfl (.bool true) rfl ?_
            simp only [Act.put, List.setIfInBounds_toArray, List.set_cons_zero, List.set_cons_succ]
            refine quietW_call (by kernel_rfl) 14 _ _ rfl (enter_of Try.func14 (by decide) (by intro h; cases h)) _ (fun W h => (CA.out W).mono fun e w' ⟨he, hw⟩ => ⟨he, h.trans (hw.mono h.size)⟩) ?_
            simp only [Act.put, List.setIfInBounds_toArray, List.set_cons_zero, List.set_cons_succ]
            refine quiet_still rfl (.bool true) (fun w _ => by go_simp) ?_
            simp only [Act.put, List.setIfInBounds_toArray, List.set_cons_zero, List.set_cons_succ]
            unfold wpQuiet
            intro w7 hb7
            have HBZ := Lib.hid (bon HB.out hb7)
            clear hb7
            go_wp2_with fail
            go_ret
            exact ⟨rfl, HBZ.out⟩
        · have k2 : (100 : Int) < (b.ws.length : Int) := by omega
          go_wp2_with fail
          refine (CA.out _).mono ?_
          rintro e wz ⟨rfl, bz⟩
          have HBZ := Lib.hid (bon HB.out bz)
          clear bz
          go_wp2_with fail
          go_ret
          exact ⟨rfl, HBZ.out⟩
      · have k1 : (100 : Int) < (a.ws.length : Int) := by omega
        go_wp2_with fail
        refine (CA.out _).mono ?_
        rintro e wz ⟨rfl, bz⟩
        have HBZ := Lib.hid (bon HB.out bz)
        clear bz
        go_wp2_with fail
        go_ret
        exact ⟨rfl, HBZ.out⟩
    · have hcb' : (chkS b == 0) = false := beq_eq_false_iff_ne.2 hcb
      go_wp2_with fail
      refine (CA.out _).mono ?_
      rintro e wz ⟨rfl, bz⟩
      have HBZ := Lib.hid (bon HB.out bz)
      clear bz
      go_wp2_with fail
      go_ret
      exact ⟨rfl, HBZ.out⟩
  · have hck' : (chkS a == 0) = false := beq_eq_false_iff_ne.2 hck
    go_wp2_with fail
    refine (CA.out _).mono ?_
    rintro e wz ⟨rfl, bz⟩
    have HBZ := Lib.hid (bon HB.out bz)
    clear bz
    go_wp2_with fail
    go_ret
    exact ⟨rfl, HBZ.out⟩
theorem cloth_row (a b : Sh) (v0 v1 : Value) (w : World) (h0 : SV w v0 a) (_ : (Lit.int .i64 a.pr).wf = true) (h1 : SV w v1 b) (_ : (Lit.int .i64 b.pr).wf = true) : Calls Try.prog 7 #[v0, v1] w fun e w' => e = .returned (.bool true) ∧ Below w.heap.size w w' := by
  obtain ⟨u, rfl, hu⟩ := h0
  obtain ⟨v, rfl, hv⟩ := h1
  obtain ⟨ua, uc, rfl, _⟩ := id hu
  obtain ⟨va, vc, rfl, _⟩ := id hv
  exact cloth_law a b ua va uc vc w hu hv
end Go.Proofs.Ytcjbjlepgdggpaa
