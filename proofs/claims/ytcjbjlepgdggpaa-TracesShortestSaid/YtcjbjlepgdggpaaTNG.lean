/- The law of shortest exchanges. -/
import Derived.Test.YtcjbjlepgdggpaaTNF
import Derived.Test.YtcjbjlepgdggpaaTW
namespace Go.Proofs.Ytcjbjlepgdggpaa
open Go.RowKit Go.Shelf Go.Lib
set_option maxRecDepth 100000
set_option linter.unusedSimpArgs false
attribute [local irreducible] wpQuiet
set_option maxHeartbeats 16000000 in
theorem shortest_law (a : Sh) (ua ha : Option Addr) (uc hc : Nat) (zs : List Nat) (w : World) (hu : WS w (.slice ua a.ws.length uc) a.ws) (h0 : ua = none → uc = 0) (hz : HS w (.slice ha zs.length hc) zs) :
    Calls Try.prog 9 #[.agg #[.int .i64 a.pr, .slice ua a.ws.length uc], .slice ha zs.length hc] w fun e w' => e = .returned (.bool true) ∧ Below w.heap.size w w' := by
  have HU := Lib.hid hu
  have HU0 := Lib.hid hu
  have HZ := Lib.hid hz
  have HC0 := Lib.hid (show ∀ n c, Value.slice ua a.ws.length uc = .slice none n c → c = 0 from fun n c e => by cases e; exact h0 rfl)
  have HWD := Lib.hid hu.sizes
  have CA := Lib.hid (fun W => awake_any W)
  have CK := Lib.hid (fun W h => refCheck4_any a (.agg #[.int .i64 a.pr, .slice ua a.ws.length uc]) W h)
  have hl4 : a.ws.length ≤ maxLen ∧ zs.length ≤ maxLen := by
    obtain ⟨_, _, e1, q1, q2, _⟩ := hu
    obtain ⟨_, _, e2, q3, q4, _⟩ := hz
    injection e1 with e11 e12 e13
    injection e2 with e21 e22 e23
    exact ⟨by omega, by omega⟩
  have CX := Lib.hid (fun W h1 h2 h3 h4 => exchanged_any a ua ha uc hc zs W h1 h0 h2 h3 h4)
  have HF := Lib.hid (fun h1 h2 => exS a zs h1 h2)
  generalize hbs : exL a.ws zs = V at *
  clear hbs
  clear hu h0 hz
  go_enter Try.func9, Try.ntmps9
  go_wp2_with fail
  have B0 := below_alloc w (.cells #[.int .i64 a.pr, .slice ua a.ws.length uc] 24)
  have hz0 : w.heap.size < (w.alloc (.cells #[.int .i64 a.pr, .slice ua a.ws.length uc] 24)).heap.size := by simp
  have i0 := heap_alloc_new w (.cells #[.int .i64 a.pr, .slice ua a.ws.length uc] 24)
  generalize w.alloc (.cells #[.int .i64 a.pr, .slice ua a.ws.length uc] 24) = w0 at *
  have HB := Lib.hid B0
  have HA := Lib.hid (show w0.heap[w.heap.size]? = some (.cells #[.int .i64 a.pr, .slice ua a.ws.length uc] 24 (0, 0)) from i0)
  clear i0 B0
  have cA0 : w0.cell? ⟨w.heap.size, 0, none⟩ = some (.int .i64 a.pr) := cell_of_row w0 _ 0 _ _ _ HA.out
  have cA1 : w0.cell? ⟨w.heap.size, 1, none⟩ = some (.slice ua a.ws.length uc) := cell_of_row w0 _ 1 _ _ _ HA.out
  replace HU := Lib.hid (HU.out.below HB.out)
  replace HZ := Lib.hid (HZ.out.below HB.out)
  refine (CK.out w0 ⟨_, rfl, HU.out⟩).mono ?_
  rintro e w1 ⟨rfl, b1⟩
  replace HA := Lib.hid (hb_below b1 HA.out (by omega))
  have hzw1 : w0.heap.size ≤ w1.heap.size := b1.size
  replace HU := Lib.hid (HU.out.below b1)
  replace HZ := Lib.hid (HZ.out.below b1)
  replace HB := Lib.hid (bon HB.out b1)
  clear b1
  clear cA0 cA1
  have cA0 : w1.cell? ⟨w.heap.size, 0, none⟩ = some (.int .i64 a.pr) := cell_of_row w1 _ 0 _ _ _ HA.out
  have cA1 : w1.cell? ⟨w.heap.size, 1, none⟩ = some (.slice ua a.ws.length uc) := cell_of_row w1 _ 1 _ _ _ HA.out
  by_cases hck : chkS a = 0
  · have hck' : (chkS a == 0) = true := beq_iff_eq.2 hck
    by_cases h80 : a.ws.length ≤ 80
    · have k80 : ¬ (80 : Int) < (a.ws.length : Int) := by omega
      by_cases h1000 : zs.length ≤ 1000
      · have k1000 : ¬ (1000 : Int) < (zs.length : Int) := by omega
        obtain ⟨o, ml, hE⟩ := HF.out hck h80
        have HE := Lib.hid hE
        have hsm := (chk_small hck).2.2
        clear hE HF CK
        go_wp2_with fail
        refine (CX.out w1 HU.out HZ.out hsm (by omega)).mono ?_
        rintro e w2 ⟨bv, rfl, hxr, b2⟩
        replace HA := Lib.hid (hb_below b2 HA.out (by omega))
        have hzw2 : w1.heap.size ≤ w2.heap.size := b2.size
        replace HU := Lib.hid (HU.out.below b2)
        replace HZ := Lib.hid (HZ.out.below b2)
        replace HB := Lib.hid (bon HB.out b2)
        clear b2
        clear cA0 cA1
        have cA0 : w2.cell? ⟨w.heap.size, 0, none⟩ = some (.int .i64 a.pr) := cell_of_row w2 _ 0 _ _ _ HA.out
        have cA1 : w2.cell? ⟨w.heap.size, 1, none⟩ = some (.slice ua a.ws.length uc) := cell_of_row w2 _ 1 _ _ _ HA.out
        have HV := Lib.hid hxr.ws
        obtain ⟨av, cap, rfl, q1, q2, _⟩ := hxr
        clear CX HZ k1000 k80
        go_upto_region 4 with fail
        have bw3 := below_alloc w2 (.cells #[.int .i64 a.pr, .slice av V.length cap] 24)
        have iw3 := heap_alloc_new w2 (.cells #[.int .i64 a.pr, .slice av V.length cap] 24)
        have hltw3 : w2.heap.size < (w2.alloc (.cells #[.int .i64 a.pr, .slice av V.length cap] 24)).heap.size := by simp
        generalize w2.alloc (.cells #[.int .i64 a.pr, .slice av V.length cap] 24) = w3 at *
        replace HA := Lib.hid (hb_below bw3 HA.out (by omega))
        replace HU := Lib.hid (HU.out.below bw3)
        replace HV := Lib.hid (HV.out.below bw3)
        replace HB := Lib.hid (bon HB.out bw3)
        have HBB := Lib.hid (show w3.heap[w2.heap.size]? = some (.cells #[.int .i64 a.pr, .slice av V.length cap] 24 (0, 0)) from iw3)
        clear iw3 bw3
        clear cA0 cA1
        have cA0 : w3.cell? ⟨w.heap.size, 0, none⟩ = some (.int .i64 a.pr) := cell_of_row w3 _ 0 _ _ _ HA.out
        have cA1 : w3.cell? ⟨w.heap.size, 1, none⟩ = some (.slice ua a.ws.length uc) := cell_of_row w3 _ 1 _ _ _ HA.out
        have cBB0 : w3.cell? ⟨w2.heap.size, 0, none⟩ = some (.int .i64 a.pr) := cell_of_row w3 _ 0 _ _ _ HBB.out
        have cBB1 : w3.cell? ⟨w2.heap.size, 1, none⟩ = some (.slice av V.length cap) := cell_of_row w3 _ 1 _ _ _ HBB.out
        go_wp2_with fail
        refine (HE.out.swa _ _ w3 HU.out HV.out).mono ?_
        rintro e w4 ⟨lo, rfl, hio, b4⟩
        have HIO := Lib.hid hio
        obtain ⟨oa, oc, rfl, oq1, oq2, _⟩ := id hio
        rw [LI_len] at HIO oq1 ⊢
        clear hio
        replace HA := Lib.hid (hb_below b4 HA.out (by omega))
        replace HBB := Lib.hid (hb_below b4 HBB.out (by omega))
        have hzw4 : w3.heap.size ≤ w4.heap.size := b4.size
        replace HU := Lib.hid (HU.out.below b4)
        replace HV := Lib.hid (HV.out.below b4)
        replace HB := Lib.hid (bon HB.out b4)
        clear b4
        clear cA0 cA1 cBB0 cBB1
        have cA0 : w4.cell? ⟨w.heap.size, 0, none⟩ = some (.int .i64 a.pr) := cell_of_row w4 _ 0 _ _ _ HA.out
        have cA1 : w4.cell? ⟨w.heap.size, 1, none⟩ = some (.slice ua a.ws.length uc) := cell_of_row w4 _ 1 _ _ _ HA.out
        have cBB0 : w4.cell? ⟨w2.heap.size, 0, none⟩ = some (.int .i64 a.pr) := cell_of_row w4 _ 0 _ _ _ HBB.out
        have cBB1 : w4.cell? ⟨w2.heap.size, 1, none⟩ = some (.slice av V.length cap) := cell_of_row w4 _ 1 _ _ _ HBB.out
        go_wp2_with fail
        refine (HE.out.mat _ _ w4 HU.out HV.out).mono ?_
        rintro e w5 ⟨lm, rfl, him, b5⟩
        have HIM := Lib.hid him
        obtain ⟨ma, mc, rfl, _⟩ := id him
        rw [HE.out.mlen] at HIM ⊢
        clear him
        replace HA := Lib.hid (hb_below b5 HA.out (by omega))
        replace HBB := Lib.hid (hb_below b5 HBB.out (by omega))
        have hzw5 : w4.heap.size ≤ w5.heap.size := b5.size
        replace HU := Lib.hid (HU.out.below b5)
        replace HV := Lib.hid (HV.out.below b5)
        replace HIO := Lib.hid (HIO.out.below b5)
        replace HB := Lib.hid (bon HB.out b5)
        clear b5
        clear cA0 cA1 cBB0 cBB1
        have cA0 : w5.cell? ⟨w.heap.size, 0, none⟩ = some (.int .i64 a.pr) := cell_of_row w5 _ 0 _ _ _ HA.out
        have cA1 : w5.cell? ⟨w.heap.size, 1, none⟩ = some (.slice ua a.ws.length uc) := cell_of_row w5 _ 1 _ _ _ HA.out
        have cBB0 : w5.cell? ⟨w2.heap.size, 0, none⟩ = some (.int .i64 a.pr) := cell_of_row w5 _ 0 _ _ _ HBB.out
        have cBB1 : w5.cell? ⟨w2.heap.size, 1, none⟩ = some (.slice av V.length cap) := cell_of_row w5 _ 1 _ _ _ HBB.out
        have HB5 := Lib.hid HB.out
        have HIO5 := Lib.hid HIO.out
        have HIM5 := Lib.hid HIM.out
        have HV5 := Lib.hid HV.out
        go_upto_region 8 with fail
        have HBB5 := Lib.hid HBB.out
        go_cut [10] from 60 to 66 (fun t wc => ∃ (bx : Nat) (v : Value), t = .pointer (some ⟨bx, 0, none⟩) ∧ w5.heap.size ≤ bx ∧ wc.heap[bx]? = some (.cells #[.int .i64 a.pr, v] 24 (0, 0)) ∧ XR w5.heap.size bx wc v a.ws ∧ Below w5.heap.size w5 wc)
        case first =>
          refine wp_region_held (S := fun V => Below w5.heap.size w5 V) (by kernel_rfl) ?_
          have D0 : Below w5.heap.size w5 ({ w5 with drawn := w5.drawn + 1 }) := (Below.refl _ w5).drew
          have hD0 : ({ w5 with drawn := w5.drawn + 1 } : World).heap.size = w5.heap.size := rfl
          generalize ({ w5 with drawn := w5.drawn + 1 } : World) = WD at *
          refine held_takeX (i := 0) rfl (by kernel_rfl) (by kernel_rfl) (by kernel_rfl) (.pointer (some ⟨w.heap.size, 0, none⟩)) (fun _ _ _ h => h) D0 rfl (fun w _ => by go_simp) ?_
          simp only [Act.put, List.getElem_toArray, List.getElem_cons_succ, List.getElem_cons_zero, List.setIfInBounds_toArray, List.set_cons_zero, List.set_cons_succ]
          refine held_loadX (i := 1) rfl (by kernel_rfl) (by kernel_rfl) (by kernel_rfl) (.int .i64 a.pr) (fun _ _ _ h => h) D0 rfl _ _ rfl ⟨w.heap.size, 0, none⟩ rfl (fun w' h => load_int _ _ _ h) (fun V h => (h.cell (p := ⟨w.heap.size, 0, none⟩) (by simp; omega)).trans cA0) ?_
          simp only [Act.put, List.getElem_toArray, List.getElem_cons_succ, List.getElem_cons_zero, List.setIfInBounds_toArray, List.set_cons_zero, List.set_cons_succ]
          refine held_takeX (i := 3) rfl (by kernel_rfl) (by kernel_rfl) (by kernel_rfl) (.pointer (some ⟨w.heap.size, 1, none⟩)) (fun _ _ _ h => h) D0 rfl (fun w _ => by go_simp) ?_
          simp only [Act.put, List.getElem_toArray, List.getElem_cons_succ, List.getElem_cons_zero, List.setIfInBounds_toArray, List.set_cons_zero, List.set_cons_succ]
          refine held_loadX (i := 4) rfl (by kernel_rfl) (by kernel_rfl) (by kernel_rfl) (.slice ua a.ws.length uc) (fun _ _ _ h => h) D0 rfl _ _ rfl ⟨w.heap.size, 1, none⟩ rfl (fun w' h => load_ws _ _ _ h) (fun V h => (h.cell (p := ⟨w.heap.size, 1, none⟩) (by simp; omega)).trans cA1) ?_
          simp only [Act.put, List.getElem_toArray, List.getElem_cons_succ, List.getElem_cons_zero, List.setIfInBounds_toArray, List.set_cons_zero, List.set_cons_succ]
          have hWD : w5.heap.size ≤ WD.heap.size := by omega
          refine wpAnyH_all (rs := [2, 7]) (by kernel_rfl) (by simp) fun jj hjj => ?_
          rcases (by simpa using hjj : jj = 2 ∨ jj = 7) with rfl | rfl
          · refine op_runX (i := 2) rfl rfl (.slice (some ⟨WD.heap.size, 0, none⟩) 0 0) (WD.alloc (.cells #[] 51)) (by go_simp) ⟨D0.alloc hWD _, ?_⟩
            simp only [Act.put, List.getElem_toArray, List.getElem_cons_succ, List.getElem_cons_zero, List.setIfInBounds_toArray, List.set_cons_zero, List.set_cons_succ]
            have Dw1 := D0.alloc hWD (.cells #[] 51)
            have hnw1 := heap_alloc_new WD (.cells #[] 51)
            have hbw1 := below_alloc WD (.cells #[] 51)
            have hzw1 : WD.heap.size < (WD.alloc (.cells #[] 51)).heap.size := by simp
            generalize WD.alloc (.cells #[] 51) = w1 at *
            refine wpAnyH_all (rs := [5, 7]) (by kernel_rfl) (by simp) fun jj hjj => ?_
            rcases (by simpa using hjj : jj = 5 ∨ jj = 7) with rfl | rfl
            · refine op_wp (i := 5) rfl rfl (wp_dup (w0 := w5) w5.heap.size a.ws _ _ rfl WD.heap.size rfl hnw1 (by omega) _ rfl Dw1 (fun hb => HU.out.below hb) HC0.out (by omega) ?_)
              intro v6 w6 O6 B6 K6 hz6
              obtain ⟨a6, c6, e6⟩ := own_form O6.out
              subst e6
              refine ⟨B6.out, ?_⟩
              simp only [Act.put, List.getElem_toArray, List.getElem_cons_succ, List.getElem_cons_zero, List.setIfInBounds_toArray, List.set_cons_zero, List.set_cons_succ]
              refine held_takeX (i := 6) rfl (by kernel_rfl) (by kernel_rfl) (by kernel_rfl) (.agg #[.int .i64 a.pr, .slice a6 a.ws.length c6]) (fun _ _ _ h => h) B6.out rfl (fun w _ => by go_simp) ?_
              simp only [Act.put, List.getElem_toArray, List.getElem_cons_succ, List.getElem_cons_zero, List.setIfInBounds_toArray, List.set_cons_zero, List.set_cons_succ]
              refine held_runY (i := 7) (by kernel_rfl) rfl rfl (.pointer (some ⟨w6.heap.size, 0, none⟩)) (w6.alloc (.cells #[.int .i64 0, .slice none 0 0] 24)) (by go_simp) (B6.out.alloc (by omega) _) ?_
              simp only [Act.put, List.getElem_toArray, List.getElem_cons_succ, List.getElem_cons_zero, List.setIfInBounds_toArray, List.set_cons_zero, List.set_cons_succ]
              have Dw7 := B6.out.alloc (by omega) (.cells #[.int .i64 0, .slice none 0 0] 24)
              have hnw7 := heap_alloc_new w6 (.cells #[.int .i64 0, .slice none 0 0] 24)
              have hbw7 := below_alloc w6 (.cells #[.int .i64 0, .slice none 0 0] 24)
              have hzw7 : w6.heap.size < (w6.alloc (.cells #[.int .i64 0, .slice none 0 0] 24)).heap.size := by simp
              generalize w6.alloc (.cells #[.int .i64 0, .slice none 0 0] 24) = w7 at *
              refine held_storeRow (i := 8) (by kernel_rfl) rfl rfl _ _ _ rfl (w6.heap.size) _ rfl rfl _ _ (hnw7) infoSh2 rfl (by kernel_rfl) ?_
              intro wF hF1 hF2 hF3 hF4
              refine ⟨hF4 _ _ Dw7 (by omega), ?_⟩
              simp only [Act.put, List.getElem_toArray, List.getElem_cons_succ, List.getElem_cons_zero, List.setIfInBounds_toArray, List.set_cons_zero, List.set_cons_succ]
              refine wpAnyH_done (by kernel_rfl) ?_ _
              go_wp2_with fail
              go_meet
              exact ⟨w6.heap.size, _, rfl, by omega, hF1, xr_own (wo_other (WO.below O6.out hbw7) (hnw7) hF2) HWD.out hF1, hF4 _ _ Dw7 (by omega)⟩
            · refine op_runX (i := 7) rfl rfl (.pointer (some ⟨w1.heap.size, 0, none⟩)) (w1.alloc (.cells #[.int .i64 0, .slice none 0 0] 24)) (by go_simp) ⟨Dw1.alloc (by omega) _, ?_⟩
              simp only [Act.put, List.getElem_toArray, List.getElem_cons_succ, List.getElem_cons_zero, List.setIfInBounds_toArray, List.set_cons_zero, List.set_cons_succ]
              have Dw2 := Dw1.alloc (by omega) (.cells #[.int .i64 0, .slice none 0 0] 24)
              have hnw2 := heap_alloc_new w1 (.cells #[.int .i64 0, .slice none 0 0] 24)
              have hbw2 := below_alloc w1 (.cells #[.int .i64 0, .slice none 0 0] 24)
              have hzw2 : w1.heap.size < (w1.alloc (.cells #[.int .i64 0, .slice none 0 0] 24)).heap.size := by simp
              generalize w1.alloc (.cells #[.int .i64 0, .slice none 0 0] 24) = w2 at *
              have hl2 := (hbw2.block WD.heap.size hzw1).trans hnw1
              refine wpAnyH_all (rs := [5]) (by kernel_rfl) (by simp) fun jj hjj => ?_
              obtain rfl : jj = 5 := by simpa using hjj
              refine op_wp (i := 5) rfl rfl (wp_dup (w0 := w5) w5.heap.size a.ws _ _ rfl WD.heap.size rfl hl2 (by omega) _ rfl Dw2 (fun hb => HU.out.below hb) HC0.out (by omega) ?_)
              intro v6 w6 O6 B6 K6 hz6
              obtain ⟨a6, c6, e6⟩ := own_form O6.out
              subst e6
              refine ⟨B6.out, ?_⟩
              simp only [Act.put, List.getElem_toArray, List.getElem_cons_succ, List.getElem_cons_zero, List.setIfInBounds_toArray, List.set_cons_zero, List.set_cons_succ]
              refine held_takeX (i := 6) rfl (by kernel_rfl) (by kernel_rfl) (by kernel_rfl) (.agg #[.int .i64 a.pr, .slice a6 a.ws.length c6]) (fun _ _ _ h => h) B6.out rfl (fun w _ => by go_simp) ?_
              simp only [Act.put, List.getElem_toArray, List.getElem_cons_succ, List.getElem_cons_zero, List.setIfInBounds_toArray, List.set_cons_zero, List.set_cons_succ]
              refine held_storeRow (i := 8) (by kernel_rfl) rfl rfl _ _ _ rfl (w1.heap.size) _ rfl rfl _ _ (K6.out _ _ hnw2 (by omega)) infoSh2 rfl (by kernel_rfl) ?_
              intro wF hF1 hF2 hF3 hF4
              refine ⟨hF4 _ _ B6.out (by omega), ?_⟩
              simp only [Act.put, List.getElem_toArray, List.getElem_cons_succ, List.getElem_cons_zero, List.setIfInBounds_toArray, List.set_cons_zero, List.set_cons_succ]
              refine wpAnyH_done (by kernel_rfl) ?_ _
              go_wp2_with fail
              go_meet
              exact ⟨w1.heap.size, _, rfl, by omega, hF1, xr_own (wo_other O6.out (K6.out _ _ hnw2 (by omega)) hF2) HWD.out hF1, hF4 _ _ B6.out (by omega)⟩
          · refine op_runX (i := 7) rfl rfl (.pointer (some ⟨WD.heap.size, 0, none⟩)) (WD.alloc (.cells #[.int .i64 0, .slice none 0 0] 24)) (by go_simp) ⟨D0.alloc hWD _, ?_⟩
            simp only [Act.put, List.getElem_toArray, List.getElem_cons_succ, List.getElem_cons_zero, List.setIfInBounds_toArray, List.set_cons_zero, List.set_cons_succ]
            have Dw1 := D0.alloc hWD (.cells #[.int .i64 0, .slice none 0 0] 24)
            have hnw1 := heap_alloc_new WD (.cells #[.int .i64 0, .slice none 0 0] 24)
            have hbw1 := below_alloc WD (.cells #[.int .i64 0, .slice none 0 0] 24)
            have hzw1 : WD.heap.size < (WD.alloc (.cells #[.int .i64 0, .slice none 0 0] 24)).heap.size := by simp
            generalize WD.alloc (.cells #[.int .i64 0, .slice none 0 0] 24) = w1 at *
            refine held_runY (i := 2) (by kernel_rfl) rfl rfl (.slice (some ⟨w1.heap.size, 0, none⟩) 0 0) (w1.alloc (.cells #[] 51)) (by go_simp) (Dw1.alloc (by omega) _) ?_
            simp only [Act.put, List.getElem_toArray, List.getElem_cons_succ, List.getElem_cons_zero, List.setIfInBounds_toArray, List.set_cons_zero, List.set_cons_succ]
            have Dw2 := Dw1.alloc (by omega) (.cells #[] 51)
            have hnw2 := heap_alloc_new w1 (.cells #[] 51)
            have hbw2 := below_alloc w1 (.cells #[] 51)
            have hzw2 : w1.heap.size < (w1.alloc (.cells #[] 51)).heap.size := by simp
            generalize w1.alloc (.cells #[] 51) = w2 at *
            have hx2 := (hbw2.block WD.heap.size hzw1).trans hnw1
            refine wpAnyH_all (rs := [5]) (by kernel_rfl) (by simp) fun jj hjj => ?_
            obtain rfl : jj = 5 := by simpa using hjj
            refine op_wp (i := 5) rfl rfl (wp_dup (w0 := w5) w5.heap.size a.ws _ _ rfl w1.heap.size rfl hnw2 (by omega) _ rfl Dw2 (fun hb => HU.out.below hb) HC0.out (by omega) ?_)
            intro v6 w6 O6 B6 K6 hz6
            obtain ⟨a6, c6, e6⟩ := own_form O6.out
            subst e6
            refine ⟨B6.out, ?_⟩
            simp only [Act.put, List.getElem_toArray, List.getElem_cons_succ, List.getElem_cons_zero, List.setIfInBounds_toArray, List.set_cons_zero, List.set_cons_succ]
            refine held_takeX (i := 6) rfl (by kernel_rfl) (by kernel_rfl) (by kernel_rfl) (.agg #[.int .i64 a.pr, .slice a6 a.ws.length c6]) (fun _ _ _ h => h) B6.out rfl (fun w _ => by go_simp) ?_
            simp only [Act.put, List.getElem_toArray, List.getElem_cons_succ, List.getElem_cons_zero, List.setIfInBounds_toArray, List.set_cons_zero, List.set_cons_succ]
            refine held_storeRow (i := 8) (by kernel_rfl) rfl rfl _ _ _ rfl (WD.heap.size) _ rfl rfl _ _ (K6.out _ _ hx2 (by omega)) infoSh2 rfl (by kernel_rfl) ?_
            intro wF hF1 hF2 hF3 hF4
            refine ⟨hF4 _ _ B6.out (by omega), ?_⟩
            simp only [Act.put, List.getElem_toArray, List.getElem_cons_succ, List.getElem_cons_zero, List.setIfInBounds_toArray, List.set_cons_zero, List.set_cons_succ]
            refine wpAnyH_done (by kernel_rfl) ?_ _
            go_wp2_with fail
            go_meet
            exact ⟨WD.heap.size, _, rfl, by omega, hF1, xr_own (wo_other O6.out (K6.out _ _ hx2 (by omega)) hF2) HWD.out hF1, hF4 _ _ B6.out (by omega)⟩
        case rest =>
          obtain ⟨bx, xv, rfl, hbx, hxb, hxr, b6⟩ := hcut
          rename World => w6
          obtain ⟨xa, xcap, rfl, x1, x2, hx3⟩ := hxr
          have HB56 := Lib.hid b6
          replace HA := Lib.hid (hb_below b6 HA.out (by omega))
          replace HBB := Lib.hid (hb_below b6 HBB.out (by omega))
          have hzw6 : w5.heap.size ≤ w6.heap.size := b6.size
          replace HU := Lib.hid (HU.out.below b6)
          replace HV := Lib.hid (HV.out.below b6)
          replace HIO := Lib.hid (HIO.out.below b6)
          replace HIM := Lib.hid (HIM.out.below b6)
          replace HB := Lib.hid (bon HB.out b6)
          clear b6
          clear cA0 cA1 cBB0 cBB1
          have cA0 : w6.cell? ⟨w.heap.size, 0, none⟩ = some (.int .i64 a.pr) := cell_of_row w6 _ 0 _ _ _ HA.out
          have cA1 : w6.cell? ⟨w.heap.size, 1, none⟩ = some (.slice ua a.ws.length uc) := cell_of_row w6 _ 1 _ _ _ HA.out
          have cBB0 : w6.cell? ⟨w2.heap.size, 0, none⟩ = some (.int .i64 a.pr) := cell_of_row w6 _ 0 _ _ _ HBB.out
          have cBB1 : w6.cell? ⟨w2.heap.size, 1, none⟩ = some (.slice av V.length cap) := cell_of_row w6 _ 1 _ _ _ HBB.out
          have HXB := Lib.hid hxb
          have hbx6 : bx < w6.heap.size := (Array.getElem?_eq_some_iff.1 hxb).1
          have HXG := Lib.hid (show a.ws = [] ∨ ∃ g, xa = some ⟨g, 0, none⟩ ∧ w5.heap.size ≤ g ∧ g ≠ bx ∧ WR w6 g a.ws from hx3)
          clear hxb hx3
          go_upto_region 10 with fail
          go_loopw [11, 12] (fun kv _ wr => ∃ k : Nat, k ≤ o.length ∧ kv = .int .i64 (k : Int) ∧ Below w5.heap.size w5 wr ∧ w6.heap.size ≤ wr.heap.size ∧ wr.heap[bx]? = some (.cells #[.int .i64 a.pr, .slice xa a.ws.length xcap] 24 (0, 0)) ∧ (a.ws = [] ∨ ∃ g, xa = some ⟨g, 0, none⟩ ∧ w5.heap.size ≤ g ∧ g ≠ bx ∧ g < w6.heap.size ∧ WR wr g (swW a.ws (o.take k)))) (fun kv _ _ => o.length - (intOf kv).toNat)
          case atStart => exact ⟨0, Nat.zero_le _, rfl, HB56.out, Nat.le_refl _, HXB.out, HXG.out.imp id fun ⟨g, e, h1, h2, h3⟩ => ⟨g, e, h1, h2, h3.1, h3⟩⟩
          case round =>
            obtain ⟨k, hk, rfl, hbr, hzr, hxb, hxg⟩ := hrel
            rename World => wr
            have HBR := Lib.hid hbr
            have HXR := Lib.hid hxb
            have HXG2 := Lib.hid hxg
            clear hbr hxb hxg
            have HB' := Lib.hid (HB5.out.trans (HBR.out.mono (by have := HB5.out.size; omega)))
            have hbxr : bx < wr.heap.size := by omega
            have HIOR := Lib.hid (HIO5.out.below HBR.out)
            by_cases hkl : k < o.length
            · have j0 : (0 : Int) ≤ (k : Int) := by omega
              have j1 : (k : Int) < (o.length : Int) := by omega
              obtain ⟨p, hp⟩ : ∃ p, o[k]? = some p := ⟨_, List.getElem?_eq_getElem hkl⟩
              obtain ⟨hp1, hnt⟩ := HE.out.step k p hp
              have hob4 : o.length ≤ 4000 := HE.out.obd
              obtain ⟨g, rfl, hg1, hg2, hg3, hwr⟩ : ∃ g, xa = some ⟨g, 0, none⟩ ∧ w5.heap.size ≤ g ∧ g ≠ bx ∧ g < w6.heap.size ∧ WR wr g (swW a.ws (o.take k)) := by
                rcases HXG2.out with h | h
                · rw [h] at hp1; simp at hp1
                · exact h
              have hgr : g < wr.heap.size := hwr.1
              have HWR := Lib.hid hwr
              have hsl : (swW a.ws (o.take k)).length = a.ws.length := swW_len _ _
              have HNX := Lib.hid (show swW a.ws (o.take (k + 1)) = swN (swW a.ws (o.take k)) p by rw [List.take_add_one, hp]; simp only [Option.toList_some]; exact swW_snoc _ _ _)
              have hprm : ∀ u ∈ swW a.ws (o.take k), u ∈ a.ws := swW_mem _ _
              generalize swW a.ws (o.take k) = L at *
              obtain ⟨x, hx⟩ : ∃ x, L[p]? = some x := ⟨_, List.getElem?_eq_getElem (by omega)⟩
              obtain ⟨y, hy⟩ : ∃ y, L[p + 1]? = some y := ⟨_, List.getElem?_eq_getElem (by omega)⟩
              have HLX := Lib.hid hx
              have HLY := Lib.hid hy
              have HXC := Lib.hid (HWR.out.2.2 p x hx).1
              have HYC := Lib.hid (HWR.out.2.2 (p + 1) y hy).1
              have CT := Lib.hid (fun V => refTouch_any x y V (hsm.2 x (hprm x (List.mem_of_getElem? hx))) (hsm.2 y (hprm y (List.mem_of_getElem? hy))))
              have HTV := Lib.hid (show touchP x y = false by unfold tchN at hnt; rwa [wkN_get hx, wkN_get hy] at hnt)
              rw [HTV.out] at CT
              unfold Wk.val at CT
              obtain ⟨_, _, e, _, _, _, hoa⟩ := HIOR.out
              injection e with e1 e2 e3
              subst e1
              obtain ⟨ob, oo, rfl, hob, co⟩ := hoa k _ (LI_at hp)
              have HP1 := Lib.hid (show IntKind.i64.wrap ((p : Int) + 1) = (p : Int) + 1 from IntWalk.i64_in _ (by omega))
              have p0 : ¬ (p : Int) < 0 := by omega
              have p1 : ¬ (a.ws.length : Int) ≤ (p : Int) + 1 := by omega
              have p2 : (p : Int) < (a.ws.length : Int) := by omega
              have p3 : (p : Int) + 1 < (a.ws.length : Int) := by omega
              have HSL := Lib.hid hsl
              have HHP := Lib.hid hp
              have HP1b := Lib.hid hp1
              clear hoa hwr hx hy hnt hprm hsl hp
              have d1 : wr.cell? ⟨bx, 1, none⟩ = some (.slice (some ⟨g, 0, none⟩) a.ws.length xcap) := cell_of_row wr _ 1 _ _ _ HXR.out
              clear cA0 cA1 cBB0 cBB1
              go_upto_region 13 with fail
              refine wp_region_class (fun w' => Below wr.heap.size wr w') 23 (by kernel_rfl) (by kernel_rfl) (Below.refl _ wr).drew ?_
              simp only [List.take_succ_cons, List.take_zero, List.drop_succ_cons, List.drop_zero]
              refine quiet_moveV rfl _ rfl (.int .i64 (p : Int)) rfl ?_
              simp only [Act.put, List.setIfInBounds_toArray, List.set_cons_zero, List.set_cons_succ]
              refine quiet_still rfl (.bool false) (fun w _ => by go_simp) ?_
              simp only [Act.put, List.setIfInBounds_toArray, List.set_cons_zero, List.set_cons_succ]
              refine quiet_moveV rfl _ rfl (.bool false) rfl ?_
              simp only [Act.put, List.setIfInBounds_toArray, List.set_cons_zero, List.set_cons_succ]
              refine quietW_moveV (by kernel_rfl) _ rfl (.int .i64 (p : Int)) rfl ?_
              simp only [Act.put, List.setIfInBounds_toArray, List.set_cons_zero, List.set_cons_succ]
              refine quietW_still (by kernel_rfl) (.int .i64 ((p : Int) + 1)) (fun w _ => by have := HP1.out; go_simp) ?_
              simp only [Act.put, List.setIfInBounds_toArray, List.set_cons_zero, List.set_cons_succ]
              refine quietW_still (by kernel_rfl) (.pointer (some ⟨bx, 1, none⟩)) (fun w _ => by go_simp) ?_
              simp only [Act.put, List.setIfInBounds_toArray, List.set_cons_zero, List.set_cons_succ]
              refine quietW_load1 (by kernel_rfl) _ _ rfl ⟨bx, 1, none⟩ rfl (.slice (some ⟨g, 0, none⟩) a.ws.length xcap) (load_ws _ _) (fun _ h => (h.cell (p := ⟨bx, 1, none⟩) hbxr).trans d1) ?_
              simp only [Act.put, List.setIfInBounds_toArray, List.set_cons_zero, List.set_cons_succ]
              refine quietW_still (by kernel_rfl) (.int .i64 (a.ws.length : Int)) (fun w _ => by go_simp) ?_
              simp only [Act.put, List.setIfInBounds_toArray, List.set_cons_zero, List.set_cons_succ]
              refine quietW_still (by kernel_rfl) (.bool false) (fun w _ => by go_simp) ?_
              simp only [Act.put, List.setIfInBounds_toArray, List.set_cons_zero, List.set_cons_succ]
              refine quiet_still rfl (.bool false) (fun w _ => by go_simp) ?_
              simp only [Act.put, List.setIfInBounds_toArray, List.set_cons_zero, List.set_cons_succ]
              refine quiet_moveV rfl _ rfl (.bool false) rfl ?_
              simp only [Act.put, List.setIfInBounds_toArray, List.set_cons_zero, List.set_cons_succ]
              refine quietW_still (by kernel_rfl) (.pointer (some ⟨bx, 1, none⟩)) (fun w _ => by go_simp) ?_
              simp only [Act.put, List.setIfInBounds_toArray, List.set_cons_zero, List.set_cons_succ]
              refine quietW_load1 (by kernel_rfl) _ _ rfl ⟨bx, 1, none⟩ rfl (.slice (some ⟨g, 0, none⟩) a.ws.length xcap) (load_ws _ _) (fun _ h => (h.cell (p := ⟨bx, 1, none⟩) hbxr).trans d1) ?_
              simp only [Act.put, List.setIfInBounds_toArray, List.set_cons_zero, List.set_cons_succ]
              refine quietW_moveV (by kernel_rfl) _ rfl (.int .i64 (p : Int)) rfl ?_
              simp only [Act.put, List.setIfInBounds_toArray, List.set_cons_zero, List.set_cons_succ]
              refine quietW_still (by kernel_rfl) (.pointer (some ⟨g, p * 3, none⟩)) (fun w _ => by go_simp; first | done | exact fun h => absurd h (by omega)) ?_
              simp only [Act.put, List.setIfInBounds_toArray, List.set_cons_zero, List.set_cons_succ]
              refine quietW_load_mid (by kernel_rfl) _ _ rfl g (p * 3) rfl [.int .i64 x.kd, .int .i64 x.pl, .string x.wd] _ (fun V h => range_below3 HXC.out hgr h) Try.underlying51 rfl infoWk1 ?_
              simp only [Act.put, List.setIfInBounds_toArray, List.set_cons_zero, List.set_cons_succ]
              refine quietW_still (by kernel_rfl) (.pointer (some ⟨bx, 1, none⟩)) (fun w _ => by go_simp) ?_
              simp only [Act.put, List.setIfInBounds_toArray, List.set_cons_zero, List.set_cons_succ]
              refine quietW_load1 (by kernel_rfl) _ _ rfl ⟨bx, 1, none⟩ rfl (.slice (some ⟨g, 0, none⟩) a.ws.length xcap) (load_ws _ _) (fun _ h => (h.cell (p := ⟨bx, 1, none⟩) hbxr).trans d1) ?_
              simp only [Act.put, List.setIfInBounds_toArray, List.set_cons_zero, List.set_cons_succ]
              refine quietW_moveV (by kernel_rfl) _ rfl (.int .i64 (p : Int)) rfl ?_
              simp only [Act.put, List.setIfInBounds_toArray, List.set_cons_zero, List.set_cons_succ]
              refine quietW_still (by kernel_rfl) (.int .i64 ((p + 1 : Nat) : Int)) (fun w _ => by have := HP1.out; go_simp) ?_
              simp only [Act.put, List.setIfInBounds_toArray, List.set_cons_zero, List.set_cons_succ]
              refine quietW_still (by kernel_rfl) (.pointer (some ⟨g, (p + 1) * 3, none⟩)) (fun w _ => by go_simp; first | done | exact fun h => absurd h (by omega)) ?_
              simp only [Act.put, List.setIfInBounds_toArray, List.set_cons_zero, List.set_cons_succ]
              refine quietW_load_mid (by kernel_rfl) _ _ rfl g ((p + 1) * 3) rfl [.int .i64 y.kd, .int .i64 y.pl, .string y.wd] _ (fun V h => range_below3 HYC.out hgr h) Try.underlying51 rfl infoWk1 ?_
              simp only [Act.put, List.setIfInBounds_toArray, List.set_cons_zero, List.set_cons_succ]
              refine quietW_call (by kernel_rfl) 38 _ _ rfl (enter_of Try.func38 (by decide) (by intro h; cases h)) _ (fun W h => (CT.out W).mono fun e w' ⟨he, hw⟩ => ⟨he, h.trans (hw.mono h.size)⟩) ?_
              simp only [Act.put, List.setIfInBounds_toArray, List.set_cons_zero, List.set_cons_succ]
              unfold wpQuiet
              intro w7 hb7
              have HBR7 := Lib.hid (HBR.out.trans (hb7.mono (by omega)))
              have HXR7 := Lib.hid (hb_below hb7 HXR.out hbxr)
              have HWR7 := Lib.hid (HWR.out.below hb7 hgr)
              have hz7 := hb7.size
              clear hb7 HBR HXR HWR HXC HYC CT HB' HIOR d1
              have hbx7 : bx < w7.heap.size := by omega
              have hg7 : g < w7.heap.size := by omega
              have d1 : w7.cell? ⟨bx, 1, none⟩ = some (.slice (some ⟨g, 0, none⟩) a.ws.length xcap) := cell_of_row w7 _ 1 _ _ _ HXR7.out
              go_upto_region 15 with fail
              have T0 : ({ w7 with drawn := w7.drawn + 1 } : World).cell? ⟨bx, 1, none⟩ = some (.slice (some ⟨g, 0, none⟩) a.ws.length xcap) := d1
              have BD : Below w7.heap.size w7 ({ w7 with drawn := w7.drawn + 1 } : World) := (Below.refl _ w7).drew
              have WRD := Lib.hid (HWR7.out.below BD hg7)
              have XBD := Lib.hid (hb_below BD (HXR7.out) (hbx7))
              have BBD := Lib.hid (HBR7.out.trans (BD.mono (by have := HBR7.out.size; omega)))
              have hzD := BD.size
              clear BD
              refine wp_region_held (S := fun V => V.cell? ⟨bx, 1, none⟩ = some (.slice (some ⟨g, 0, none⟩) a.ws.length xcap)) (by kernel_rfl) ?_
              generalize ({ w7 with drawn := w7.drawn + 1 } : World) = wd at *
              refine held_takeX (i := 0) rfl (by kernel_rfl) (by kernel_rfl) (by kernel_rfl) (.pointer (some ⟨bx, 1, none⟩)) (fun _ _ _ h => h) T0 rfl (fun w _ => by go_simp) ?_
              simp only [Act.put, List.getElem_toArray, List.getElem_cons_succ, List.getElem_cons_zero, List.setIfInBounds_toArray, List.set_cons_zero, List.set_cons_succ]
              refine held_loadX (i := 1) rfl (by kernel_rfl) (by kernel_rfl) (by kernel_rfl) (.slice (some ⟨g, 0, none⟩) a.ws.length xcap) (fun _ _ _ h => h) T0 rfl _ _ rfl ⟨bx, 1, none⟩ rfl (fun w' h => load_ws _ _ _ h) (fun V h => h) ?_
              simp only [Act.put, List.getElem_toArray, List.getElem_cons_succ, List.getElem_cons_zero, List.setIfInBounds_toArray, List.set_cons_zero, List.set_cons_succ]
              refine held_takeX (i := 2) rfl (by kernel_rfl) (by kernel_rfl) (by kernel_rfl) (.int .i64 (p : Int)) (fun _ _ _ h => h) T0 rfl (fun w _ => by go_simp) ?_
              simp only [Act.put, List.getElem_toArray, List.getElem_cons_succ, List.getElem_cons_zero, List.setIfInBounds_toArray, List.set_cons_zero, List.set_cons_succ]
              refine held_takeX (i := 3) rfl (by kernel_rfl) (by kernel_rfl) (by kernel_rfl) (.pointer (some ⟨bx, 1, none⟩)) (fun _ _ _ h => h) T0 rfl (fun w _ => by go_simp) ?_
              simp only [Act.put, List.getElem_toArray, List.getElem_cons_succ, List.getElem_cons_zero, List.setIfInBounds_toArray, List.set_cons_zero, List.set_cons_succ]
              refine held_loadX (i := 4) rfl (by kernel_rfl) (by kernel_rfl) (by kernel_rfl) (.slice (some ⟨g, 0, none⟩) a.ws.length xcap) (fun _ _ _ h => h) T0 rfl _ _ rfl ⟨bx, 1, none⟩ rfl (fun w' h => load_ws _ _ _ h) (fun V h => h) ?_
              simp only [Act.put, List.getElem_toArray, List.getElem_cons_succ, List.getElem_cons_zero, List.setIfInBounds_toArray, List.set_cons_zero, List.set_cons_succ]
              refine held_takeX (i := 5) rfl (by kernel_rfl) (by kernel_rfl) (by kernel_rfl) (.int .i64 (p : Int)) (fun _ _ _ h => h) T0 rfl (fun w _ => by go_simp) ?_
              simp only [Act.put, List.getElem_toArray, List.getElem_cons_succ, List.getElem_cons_zero, List.setIfInBounds_toArray, List.set_cons_zero, List.set_cons_succ]
              refine held_takeX (i := 6) rfl (by kernel_rfl) (by kernel_rfl) (by kernel_rfl) (.int .i64 ((p + 1 : Nat) : Int)) (fun _ _ _ h => h) T0 rfl (fun w _ => by have := HP1.out; go_simp) ?_
              simp only [Act.put, List.getElem_toArray, List.getElem_cons_succ, List.getElem_cons_zero, List.setIfInBounds_toArray, List.set_cons_zero, List.set_cons_succ]
              refine held_takeX (i := 7) rfl (by kernel_rfl) (by kernel_rfl) (by kernel_rfl) (.pointer (some ⟨bx, 1, none⟩)) (fun _ _ _ h => h) T0 rfl (fun w _ => by go_simp) ?_
              simp only [Act.put, List.getElem_toArray, List.getElem_cons_succ, List.getElem_cons_zero, List.setIfInBounds_toArray, List.set_cons_zero, List.set_cons_succ]
              refine held_loadX (i := 8) rfl (by kernel_rfl) (by kernel_rfl) (by kernel_rfl) (.slice (some ⟨g, 0, none⟩) a.ws.length xcap) (fun _ _ _ h => h) T0 rfl _ _ rfl ⟨bx, 1, none⟩ rfl (fun w' h => load_ws _ _ _ h) (fun V h => h) ?_
              simp only [Act.put, List.getElem_toArray, List.getElem_cons_succ, List.getElem_cons_zero, List.setIfInBounds_toArray, List.set_cons_zero, List.set_cons_succ]
              refine held_takeX (i := 9) rfl (by kernel_rfl) (by kernel_rfl) (by kernel_rfl) (.int .i64 (p : Int)) (fun _ _ _ h => h) T0 rfl (fun w _ => by go_simp) ?_
              simp only [Act.put, List.getElem_toArray, List.getElem_cons_succ, List.getElem_cons_zero, List.setIfInBounds_toArray, List.set_cons_zero, List.set_cons_succ]
              refine held_takeX (i := 10) rfl (by kernel_rfl) (by kernel_rfl) (by kernel_rfl) (.int .i64 ((p + 1 : Nat) : Int)) (fun _ _ _ h => h) T0 rfl (fun w _ => by have := HP1.out; go_simp) ?_
              simp only [Act.put, List.getElem_toArray, List.getElem_cons_succ, List.getElem_cons_zero, List.setIfInBounds_toArray, List.set_cons_zero, List.set_cons_succ]
              refine held_takeX (i := 11) rfl (by kernel_rfl) (by kernel_rfl) (by kernel_rfl) (.pointer (some ⟨g, (p + 1) * 3, none⟩)) (fun _ _ _ h => h) T0 rfl (fun w _ => by go_simp; first | done | exact fun h => absurd h (by omega)) ?_
              simp only [Act.put, List.getElem_toArray, List.getElem_cons_succ, List.getElem_cons_zero, List.setIfInBounds_toArray, List.set_cons_zero, List.set_cons_succ]
              refine held_takeX (i := 13) rfl (by kernel_rfl) (by kernel_rfl) (by kernel_rfl) (.pointer (some ⟨bx, 1, none⟩)) (fun _ _ _ h => h) T0 rfl (fun w _ => by go_simp) ?_
              simp only [Act.put, List.getElem_toArray, List.getElem_cons_succ, List.getElem_cons_zero, List.setIfInBounds_toArray, List.set_cons_zero, List.set_cons_succ]
              refine held_loadX (i := 14) rfl (by kernel_rfl) (by kernel_rfl) (by kernel_rfl) (.slice (some ⟨g, 0, none⟩) a.ws.length xcap) (fun _ _ _ h => h) T0 rfl _ _ rfl ⟨bx, 1, none⟩ rfl (fun w' h => load_ws _ _ _ h) (fun V h => h) ?_
              simp only [Act.put, List.getElem_toArray, List.getElem_cons_succ, List.getElem_cons_zero, List.setIfInBounds_toArray, List.set_cons_zero, List.set_cons_succ]
              refine held_takeX (i := 15) rfl (by kernel_rfl) (by kernel_rfl) (by kernel_rfl) (.int .i64 (p : Int)) (fun _ _ _ h => h) T0 rfl (fun w _ => by go_simp) ?_
              simp only [Act.put, List.getElem_toArray, List.getElem_cons_succ, List.getElem_cons_zero, List.setIfInBounds_toArray, List.set_cons_zero, List.set_cons_succ]
              refine held_takeX (i := 16) rfl (by kernel_rfl) (by kernel_rfl) (by kernel_rfl) (.pointer (some ⟨g, p * 3, none⟩)) (fun _ _ _ h => h) T0 rfl (fun w _ => by go_simp; first | done | exact fun h => absurd h (by omega)) ?_
              simp only [Act.put, List.getElem_toArray, List.getElem_cons_succ, List.getElem_cons_zero, List.setIfInBounds_toArray, List.set_cons_zero, List.set_cons_succ]
              refine held_loads (i := 12) (j := 17) (by kernel_rfl) (by kernel_rfl) (by kernel_rfl) rfl rfl rfl rfl (.agg #[.int .i64 y.kd, .int .i64 y.pl, .string y.wd]) (.agg #[.int .i64 x.kd, .int .i64 x.pl, .string x.wd]) _ _ _ _ rfl rfl ⟨g, (p + 1) * 3, none⟩ ⟨g, p * 3, none⟩ rfl rfl rfl rfl (run_loadAt_mid (P := Try.prog) wd g ((p + 1) * 3) 51 (wl y) _ ((WRD.out.2.2 _ _ HLY.out).1) Try.underlying51 rfl infoWk1) (run_loadAt_mid (P := Try.prog) wd g (p * 3) 51 (wl x) _ ((WRD.out.2.2 _ _ HLX.out).1) Try.underlying51 rfl infoWk1) rfl (by kernel_rfl) T0 ?_
              simp only [Act.put, List.getElem_toArray, List.getElem_cons_succ, List.getElem_cons_zero, List.setIfInBounds_toArray, List.set_cons_zero, List.set_cons_succ]
              refine held_takeX (i := 18) rfl (by kernel_rfl) (by kernel_rfl) (by kernel_rfl) (.pointer (some ⟨g, p * 3, none⟩)) (fun _ _ _ h => h) T0 rfl (fun w _ => by go_simp; first | done | exact fun h => absurd h (by omega)) ?_
              simp only [Act.put, List.getElem_toArray, List.getElem_cons_succ, List.getElem_cons_zero, List.setIfInBounds_toArray, List.set_cons_zero, List.set_cons_succ]
              have WR1 := Lib.hid (WRD.out.set HLX.out (WRD.out.2.1 y (List.mem_of_getElem? HLY.out)))
              have WR2 := Lib.hid (WR1.out.set (k := p + 1) (x := y) (by rw [List.getElem?_set_ne (by omega)]; exact HLY.out) (WRD.out.2.1 x (List.mem_of_getElem? HLX.out)))
              have T1 : (wd.setCells g (p * 3) (wl y)).cell? ⟨bx, 1, none⟩ = some (.slice (some ⟨g, 0, none⟩) a.ws.length xcap) := (World.cell?_setCells_out g (wl y) _ wd ⟨bx, 1, none⟩ (fun h => absurd h (Ne.symm hg2))).trans T0
              have T2 : ((wd.setCells g (p * 3) (wl y)).setCells g ((p + 1) * 3) (wl x)).cell? ⟨bx, 1, none⟩ = some (.slice (some ⟨g, 0, none⟩) a.ws.length xcap) := (World.cell?_setCells_out g (wl x) _ _ ⟨bx, 1, none⟩ (fun h => absurd h (Ne.symm hg2))).trans T1
              refine held_storeG (i := 19) (by kernel_rfl) rfl rfl _ _ _ rfl ⟨g, p * 3, none⟩ (.agg #[.int .i64 y.kd, .int .i64 y.pl, .string y.wd]) rfl rfl (wd.setCells g (p * 3) (wl y)) (run_storeVar_mid wd g (p * 3) 51 #[.int .i64 y.kd, .int .i64 y.pl, .string y.wd] (WRD.out.2.2 _ _ HLX.out).2 infoWk1 (by kernel_rfl)) T1 ?_
              simp only [Act.put, List.getElem_toArray, List.getElem_cons_succ, List.getElem_cons_zero, List.setIfInBounds_toArray, List.set_cons_zero, List.set_cons_succ]
              clear T0
              refine held_takeX (i := 20) rfl (by kernel_rfl) (by kernel_rfl) (by kernel_rfl) (.pointer (some ⟨g, (p + 1) * 3, none⟩)) (fun _ _ _ h => h) T1 rfl (fun w _ => by go_simp; first | done | exact fun h => absurd h (by omega)) ?_
              simp only [Act.put, List.getElem_toArray, List.getElem_cons_succ, List.getElem_cons_zero, List.setIfInBounds_toArray, List.set_cons_zero, List.set_cons_succ]
              refine held_storeG (i := 21) (by kernel_rfl) rfl rfl _ _ _ rfl ⟨g, (p + 1) * 3, none⟩ (.agg #[.int .i64 x.kd, .int .i64 x.pl, .string x.wd]) rfl rfl ((wd.setCells g (p * 3) (wl y)).setCells g ((p + 1) * 3) (wl x)) (run_storeVar_mid (wd.setCells g (p * 3) (wl y)) g ((p + 1) * 3) 51 #[.int .i64 x.kd, .int .i64 x.pl, .string x.wd] (WR1.out.2.2 _ _ (by rw [List.getElem?_set_ne (by omega)]; exact HLY.out)).2 infoWk1 (by kernel_rfl)) T2 ?_
              simp only [Act.put, List.getElem_toArray, List.getElem_cons_succ, List.getElem_cons_zero, List.setIfInBounds_toArray, List.set_cons_zero, List.set_cons_succ]
              refine wpAnyH_done (by kernel_rfl) ?_ _
              rw [← swN_set HLX.out HLY.out] at WR2
              have HBS := Lib.hid (below_setCellsE (below_setCellsE BBD.out (b := g) hg1 (p * 3) (wl y)) (b := g) hg1 ((p + 1) * 3) (wl x))
              have HXS := Lib.hid (((heap_setCellsW (wd.setCells g (p * 3) (wl y)) g (Ne.symm hg2) (wl x) ((p + 1) * 3)).trans (heap_setCellsW wd g (Ne.symm hg2) (wl y) (p * 3))).trans XBD.out)
              have hzS : w7.heap.size ≤ ((wd.setCells g (p * 3) (wl y)).setCells g ((p + 1) * 3) (wl x)).heap.size := by rw [size_setCellsW, size_setCellsW]; exact hzD
              clear T1 T2 WR1 WRD XBD BBD hzD
              generalize (wd.setCells g (p * 3) (wl y)).setCells g ((p + 1) * 3) (wl x) = ws at *
              go_wp2_with fail
              go_roundw
              case rel => exact ⟨k + 1, by omega, by go_num, HBS.out, by omega, HXS.out, .inr ⟨g, rfl, hg1, hg2, hg3, by rw [HNX.out]; exact WR2.out⟩⟩
              case measure => (simp [intOf] <;> omega)
            · have j1 : ¬ (k : Int) < (o.length : Int) := by omega
              have ek : k = o.length := by omega
              rw [ek, List.take_of_length_le (Nat.le_refl _), HE.out.done] at HXG2
              clear HIOR HIO HIO5 ek
              have HIMR := Lib.hid (HIM5.out.below HBR.out)
              have HVR := Lib.hid (HV5.out.below HBR.out)
              have HBBR := Lib.hid (hb_below HBR.out HBB5.out (by omega))
              have HWX := Lib.hid (show WS wr (.slice xa a.ws.length xcap) V from by
                rcases HXG2.out with h | ⟨g, rfl, _, _, _, h⟩
                · have e : V = [] := List.eq_nil_of_length_eq_zero (by rw [HE.out.len, h]; rfl)
                  rw [e, h]
                  exact ⟨xa, xcap, rfl, Nat.zero_le _, x2, fun k x hx => by simp at hx⟩
                · have q := h.ws (c := xcap) (by rw [HE.out.len]; exact x1) x2
                  rwa [HE.out.len] at q)
              have HBW := Lib.hid HB'.out
              have HXB2 := Lib.hid HXR.out
              clear HBR HB' HXG2 HXG HXB HXR HB56 HB HA HBB HU HV HIM HIM5 HV5 HBB5 cA0 cA1 cBB0 cBB1
              go_upto_region 18 with fail
              have hm80 : ml.length ≤ 80 := by have := HE.out.mlen; omega
              go_loopw [13, 14, 15] (fun nv iv _ wq => ∃ i : Nat, i ≤ a.ws.length ∧ nv = .int .i64 (invN (ml.take i) : Int) ∧ iv = .int .i64 (i : Int) ∧ Below wr.heap.size wr wq) (fun _ iv _ _ => a.ws.length - (intOf iv).toNat)
              case atStart => exact ⟨0, Nat.zero_le _, rfl, rfl, Below.refl _ _⟩
              case round =>
                obtain ⟨i, hi, rfl, rfl, hbq⟩ := hrel
                rename World => wq
                have HBQ := Lib.hid hbq
                have hzq := hbq.size
                clear hbq
                by_cases hil : i < a.ws.length
                · have j0 : (0 : Int) ≤ (i : Int) := by omega
                  have j1 : (i : Int) < (a.ws.length : Int) := by omega
                  obtain ⟨zi, hzi⟩ : ∃ z, ml[i]? = some z := ⟨_, List.getElem?_eq_getElem (by have := HE.out.mlen; omega)⟩
                  have HZI := Lib.hid hzi
                  clear hzi
                  have HB1 := Lib.hid (inv_bd hm80 i)
                  generalize hni : invN (ml.take i) = ni at *
                  have HNI := Lib.hid hni
                  clear hni
                  go_upto_region 21 with fail
                  go_loopw [13, 15] (fun nv kv wv => ∃ k : Nat, k ≤ i ∧ nv = .int .i64 ((ni + (ml.take k).countP (fun y => decide (zi < y)) : Nat) : Int) ∧ kv = .int .i64 (k : Int) ∧ Below wr.heap.size wr wv) (fun _ kv _ => i - (intOf kv).toNat)
                  case atStart => exact ⟨0, Nat.zero_le _, rfl, rfl, HBQ.out⟩
                  case round =>
                    obtain ⟨k, hk2, rfl, rfl, hbv⟩ := hrel
                    rename World => wv
                    have HBV := Lib.hid hbv
                    have hzv := hbv.size
                    clear hbv
                    by_cases hkl2 : k < i
                    · have i0 : (0 : Int) ≤ (k : Int) := by omega
                      have i1 : (k : Int) < (i : Int) := by omega
                      have i2 : (k : Int) < (a.ws.length : Int) := by omega
                      obtain ⟨zk, hzk⟩ : ∃ z, ml[k]? = some z := ⟨_, List.getElem?_eq_getElem (by have := HE.out.mlen; omega)⟩
                      obtain ⟨_, _, e, _, _, _, hma⟩ := HIMR.out
                      injection e with e1 e2 e3
                      subst e1
                      obtain ⟨mb, mo, rfl, hmb, cm⟩ := hma k _ hzk
                      obtain ⟨_, _, e, _, cm2⟩ := hma i _ HZI.out
                      cases e
                      have CM := Lib.hid ((HBV.out.cell (p := ⟨mb, mo + k, none⟩) hmb).trans cm)
                      have CI := Lib.hid ((HBV.out.cell (p := ⟨mb, mo + i, none⟩) hmb).trans cm2)
                      have hmv : mb < wv.heap.size := by omega
                      have HC1 := Lib.hid (cnt_take (z := zi) hzk)
                      have HC2 := Lib.hid (cnt_bd hm80 k zi)
                      generalize hcc : (ml.take k).countP (fun y => decide (zi < y)) = cc at *
                      have HCC := Lib.hid hcc
                      clear hma cm cm2 hzk hcc
                      go_wp2_with fail
                      refine wp_region_class (fun w' => Below wv.heap.size wv w') 8 (by kernel_rfl) (by kernel_rfl) (Below.refl _ wv).drew ?_
                      simp only [List.take_succ_cons, List.take_zero, List.drop_succ_cons, List.drop_zero]
                      refine quiet_moveV rfl _ rfl (.slice (some ⟨mb, mo, none⟩) a.ws.length mc) rfl ?_
                      simp only [Act.put, List.setIfInBounds_toArray, List.set_cons_zero, List.set_cons_succ]
                      refine quiet_moveV rfl _ rfl (.int .i64 (k : Int)) rfl ?_
                      simp only [Act.put, List.setIfInBounds_toArray, List.set_cons_zero, List.set_cons_succ]
                      refine quiet_still rfl (.pointer (some ⟨mb, mo + k, none⟩)) (fun w _ => by go_simp; first | done | exact fun h => absurd h (by omega)) ?_
                      simp only [Act.put, List.setIfInBounds_toArray, List.set_cons_zero, List.set_cons_succ]
                      refine quiet_load1 rfl _ _ rfl ⟨mb, mo + k, none⟩ rfl (.int .i64 zk) (load_int _ _) (fun _ h => (h.cell (p := ⟨mb, mo + k, none⟩) hmv).trans CM.out) ?_
                      simp only [Act.put, List.setIfInBounds_toArray, List.set_cons_zero, List.set_cons_succ]
                      refine quiet_moveV rfl _ rfl (.slice (some ⟨mb, mo, none⟩) a.ws.length mc) rfl ?_
                      simp only [Act.put, List.setIfInBounds_toArray, List.set_cons_zero, List.set_cons_succ]
                      refine quiet_moveV rfl _ rfl (.int .i64 (i : Int)) rfl ?_
                      simp only [Act.put, List.setIfInBounds_toArray, List.set_cons_zero, List.set_cons_succ]
                      refine quiet_still rfl (.pointer (some ⟨mb, mo + i, none⟩)) (fun w _ => by go_simp; first | done | exact fun h => absurd h (by omega)) ?_
                      simp only [Act.put, List.setIfInBounds_toArray, List.set_cons_zero, List.set_cons_succ]
                      refine quiet_load1 rfl _ _ rfl ⟨mb, mo + i, none⟩ rfl (.int .i64 zi) (load_int _ _) (fun _ h => (h.cell (p := ⟨mb, mo + i, none⟩) hmv).trans CI.out) ?_
                      simp only [Act.put, List.setIfInBounds_toArray, List.set_cons_zero, List.set_cons_succ]
                      unfold wpQuiet
                      intro wz hbz
                      have HBZ := Lib.hid (HBV.out.trans (hbz.mono (by omega)))
                      clear hbz
                      have hw1 : IntKind.i64.wrap ((ni : Int) + (cc : Int) + 1) = ((ni + cc + 1 : Nat) : Int) := (IntWalk.i64_in _ (by have h1 := HB1.out; have h2 := HC2.out; omega)).trans (by omega)
                      by_cases hlt : zi < zk
                      · have hlt' : ¬ zk ≤ zi := by omega
                        have HN := Lib.hid (show ni + (ml.take (k + 1)).countP (fun y => decide (zi < y)) = ni + cc + 1 by rw [HC1.out, if_pos hlt]; omega)
                        go_wp2_with fail
                        go_roundw
                        case rel => exact ⟨k + 1, by omega, by rw [HN.out]; exact congrArg (Value.int .i64) (by first | omega | exact hw1 | exact (IntWalk.i64_left _).trans hw1 | exact (IntWalk.i64_left _).symm.trans hw1), by go_num, HBZ.out⟩
                        case measure => (simp [intOf] <;> omega)
                      · have HN := Lib.hid (show ni + (ml.take (k + 1)).countP (fun y => decide (zi < y)) = ni + cc by rw [HC1.out, if_neg hlt]; omega)
                        go_wp2_with fail
                        go_roundw
                        case rel => exact ⟨k + 1, by omega, by rw [HN.out], by go_num, HBZ.out⟩
                        case measure => (simp [intOf] <;> omega)
                    · have i1 : ¬ (k : Int) < (i : Int) := by omega
                      have ek : k = i := by omega
                      have HN := Lib.hid (show invN (ml.take (i + 1)) = ni + (ml.take k).countP (fun y => decide (zi < y)) by rw [inv_take HZI.out, HNI.out, ek])
                      clear ek
                      go_wp2_with fail
                      go_roundw
                      case rel => exact ⟨i + 1, by omega, by rw [HN.out], by go_num, HBV.out⟩
                      case measure => (simp [intOf] <;> omega)
                · have j1 : ¬ (i : Int) < (a.ws.length : Int) := by omega
                  have ei : i = a.ws.length := by omega
                  have HNN := Lib.hid (show invN (ml.take i) = o.length by rw [ei, List.take_of_length_le (by have := HE.out.mlen; omega), HE.out.olen])
                  rw [HNN.out]
                  clear ei
                  have HW8 := Lib.hid (HWX.out.below HBQ.out)
                  have HV8 := Lib.hid (HVR.out.below HBQ.out)
                  have HX8 := Lib.hid (hb_below HBQ.out HXB2.out (by omega))
                  have HBB8 := Lib.hid (hb_below HBQ.out HBBR.out (by omega))
                  have HB8 := Lib.hid (HBW.out.trans (HBQ.out.mono (by have := HBW.out.size; omega)))
                  have cx0 : wq.cell? ⟨bx, 0, none⟩ = some (.int .i64 a.pr) := cell_of_row wq _ 0 _ _ _ HX8.out
                  have cx1 : wq.cell? ⟨bx, 1, none⟩ = some (.slice xa a.ws.length xcap) := cell_of_row wq _ 1 _ _ _ HX8.out
                  have cb0 : wq.cell? ⟨w2.heap.size, 0, none⟩ = some (.int .i64 a.pr) := cell_of_row wq _ 0 _ _ _ HBB8.out
                  have cb1 : wq.cell? ⟨w2.heap.size, 1, none⟩ = some (.slice av V.length cap) := cell_of_row wq _ 1 _ _ _ HBB8.out
                  go_wp2_with fail
                  refine (HE.out.eqb _ _ wq HW8.out HV8.out).mono ?_
                  rintro e w9 ⟨rfl, b9⟩
                  have HB := Lib.hid (bon HB8.out b9)
                  clear b9
                  go_wp2_with fail
                  refine (CA.out _).mono ?_
                  rintro e wz ⟨rfl, bz⟩
                  have HBZ := Lib.hid (bon HB.out bz)
                  clear bz
                  go_wp2_with fail
                  go_ret
                  exact ⟨rfl, HBZ.out⟩
      · have k1000 : (1000 : Int) < (zs.length : Int) := by omega
        go_wp2_with fail
        refine (CA.out _).mono ?_
        rintro e wz ⟨rfl, bz⟩
        have HBZ := Lib.hid (bon HB.out bz)
        clear bz
        go_wp2_with fail
        go_ret
        exact ⟨rfl, HBZ.out⟩
    · have k80 : (80 : Int) < (a.ws.length : Int) := by omega
      go_wp2_with fail
      refine (CA.out _).mono ?_
      rintro e wz ⟨rfl, bz⟩
      have HBZ := Lib.hid (bon HB.out bz)
      clear bz
      go_wp2_with fail
      go_ret
      exact ⟨rfl, HBZ.out⟩
  · have hck' : (chkS a == 0) = false := beq_eq_false_iff_ne.2 hck
    go_wp2_with fail
    refine (CA.out _).mono ?_
    rintro e wz ⟨rfl, bz⟩
    have HBZ := Lib.hid (bon HB.out bz)
    clear bz
    go_wp2_with fail
    go_ret
    exact ⟨rfl, HBZ.out⟩
end Go.Proofs.Ytcjbjlepgdggpaa
