/- The least order of the reference. -/
import Derived.Test.YtpgipepnnnocgaaTLD
import Derived.Test.YtpgipepnnnocgaaTV
namespace Go.Proofs.Ytpgipepnnnocgaa
open Go.RowKit Go.Shelf Go.Lib
set_option maxRecDepth 100000
set_option linter.unusedSimpArgs false
attribute [local irreducible] wpQuiet
theorem best_next (W : List Wk) (D : Nat → Bool) (n : Nat) : bestTo W D (n + 1) = if (decide (bestTo W D n < 0) || decide ((wkN W n).pl < (wkN W (bestTo W D n).toNat).pl)) = true ∧ rdyB W D n = true then (n : Int) else bestTo W D n := rfl
theorem best_A {W : List Wk} {D : Nat → Bool} {n : Nat} (h : bestTo W D n = -1) : bestTo W D (n + 1) = if rdyB W D n = true then (n : Int) else -1 := by
  rw [best_next, h]
  simp
theorem best_B {W : List Wk} {D : Nat → Bool} {n j : Nat} {x y : Wk} (h : bestTo W D n = (j : Int)) (hx : W[n]? = some x) (hy : W[j]? = some y) (hl : x.pl < y.pl) : bestTo W D (n + 1) = if rdyB W D n = true then (n : Int) else (j : Int) := by
  rw [best_next, h, Int.toNat_natCast, wkN_get hx, wkN_get hy]
  simp [hl]
theorem best_C {W : List Wk} {D : Nat → Bool} {n j : Nat} {x y : Wk} (h : bestTo W D n = (j : Int)) (hx : W[n]? = some x) (hy : W[j]? = some y) (hl : ¬ x.pl < y.pl) : bestTo W D (n + 1) = (j : Int) := by
  rw [best_next, h, Int.toNat_natCast, wkN_get hx, wkN_get hy, if_neg]
  rintro ⟨h1, _⟩
  simp at h1
  omega
set_option maxHeartbeats 8000000 in
theorem refLeast_any (a : Sh) (u : Value) (w : World) (hu : WS w u a.ws) :
    Calls Try.prog 21 #[.agg #[.int .i64 a.pr, u]] w fun e w' => ∃ lv, e = .returned (.tuple #[lv, .int .i64 (chkS a)]) ∧ IS w' lv (lsV a) ∧ Below w.heap.size w w' := by
  have HU := Lib.hid hu
  have HNIL := Lib.hid (fun (W : World) => is_nil W)
  obtain ⟨ua, uc, rfl, k1, k2, _⟩ := id hu
  have CS := Lib.hid (fun W h => refCheck4_any a (.agg #[.int .i64 a.pr, .slice ua a.ws.length uc]) W ⟨_, rfl, h⟩)
  have HSA := Lib.hid (@chk_small a)
  have HOKV := Lib.hid (fun h => lsV_ok (s := a) h)
  have HNOV := Lib.hid (fun h => lsV_no (s := a) h)
  generalize lsV a = ml at *
  generalize chkS a = z at *
  clear hu
  go_enter Try.func21, Try.ntmps21
  go_wp2_with fail
  have B0 := below_alloc w (.cells #[.int .i64 a.pr, .slice ua a.ws.length uc] 24)
  have h0 := heap_alloc_new w (.cells #[.int .i64 a.pr, .slice ua a.ws.length uc] 24)
  have hz0 : w.heap.size + 1 ≤ (w.alloc (.cells #[.int .i64 a.pr, .slice ua a.ws.length uc] 24)).heap.size := by simp
  generalize w.alloc (.cells #[.int .i64 a.pr, .slice ua a.ws.length uc] 24) = W0 at *
  refine (CS.out W0 (HU.out.below B0)).mono ?_
  rintro e w1 ⟨rfl, b1⟩
  have H0 := Lib.hid (hb_below b1 h0 (by omega))
  have HB1 := Lib.hid (bon B0 b1)
  have hz1 : w.heap.size + 1 ≤ w1.heap.size := by have := b1.size; omega
  clear CS B0 h0 b1 hz0
  by_cases hz : z = 0
  · subst hz
    obtain ⟨p1, p2, psm⟩ := HSA.out (by trivial)
    have hn4 := psm.1
    have HSM := Lib.hid psm
    have HOV := Lib.hid (HOKV.out (by trivial))
    clear psm HSA HOKV HNOV
    have ca1 : w1.cell? ⟨w.heap.size, 1, none⟩ = some (.slice ua a.ws.length uc) := cell_of_row w1 _ 1 _ _ _ H0.out
    have hmk := mk_boolsN a.ws.length (by omega) w1
    obtain ⟨w2, hw2⟩ : ∃ w2, w2 = w1.alloc (.cells (madeCells #[.bool false] a.ws.length) 4) := ⟨_, rfl⟩
    have B2 := below_alloc w1 (.cells (madeCells #[.bool false] a.ws.length) 4)
    have o2 := bo_made a.ws.length w1.heap.size (by omega) w1 (Nat.le_refl _)
    rw [← hw2] at hmk B2 o2
    have hz2 := B2.size
    have HO2 := Lib.hid o2
    have hgl := o2.lt'
    have H02 := Lib.hid (hb_below B2 H0.out (by omega))
    have HB2 := Lib.hid B2
    clear hw2 o2 B2 H0
    go_wp2_with fail
    clear ca1 hmk
    go_loopw [6, 7, 8] (fun ov _ _ wr => ∃ k : Nat, k ≤ a.ws.length ∧ wr.ownsRow w2.heap.size 3 1 ov (LI (leastTo a.ws k)).length ((LI (leastTo a.ws k)).map (Value.int .i64)) ∧ BO w1.heap.size wr w1.heap.size a.ws.length (inL (leastTo a.ws k)) ∧ Below w1.heap.size w2 wr ∧ w2.heap.size ≤ wr.heap.size) (fun ov _ _ _ => a.ws.length - lnOf ov)
    case atStart => exact ⟨0, Nat.zero_le _, ⟨rfl, .inl ⟨rfl, rfl⟩⟩, HO2.out, Below.refl _ _, Nat.le_refl _⟩
    case round =>
      obtain ⟨k, hk, how, hbo, hbr, hzr⟩ := hrel
      rename World => wr
      have HOW := Lib.hid how
      have HBO := Lib.hid hbo
      have HBR := Lib.hid hbr
      have HCL := Lib.hid (leastTo_clo a.ws k hk)
      obtain ⟨oa, oc, rfl⟩ := own_form how
      have H0R := Lib.hid (hb_below hbr H02.out (by omega))
      have ca1 : wr.cell? ⟨w.heap.size, 1, none⟩ = some (.slice ua a.ws.length uc) := cell_of_row wr _ 1 _ _ _ H0R.out
      clear how hbo hbr HO2
      by_cases hkl : k < a.ws.length
      · have jj : ((LI (leastTo a.ws k)).length : Int) < (a.ws.length : Int) := by rw [LI_len, HCL.out.1]; omega
        have HBW := Lib.hid (show Below w.heap.size w wr from HB1.out.trans ((HB2.out.trans HBR.out).mono (by omega)))
        have HUW := Lib.hid (HU.out.below HBW.out)
        go_wp2_with fail
        clear ca1 jj
        go_loopw [7, 8] (fun bv iv wq => ∃ i : Nat, i ≤ a.ws.length ∧ iv = .int .i64 (i : Int) ∧ bv = .int .i64 (bestTo a.ws (inL (leastTo a.ws k)) i) ∧ Below wr.heap.size wr wq) (fun _ iv _ => a.ws.length - (intOf iv).toNat)
        case atStart => exact ⟨0, Nat.zero_le _, rfl, rfl, Below.refl _ _⟩
        case round =>
          obtain ⟨i, hi, rfl, rfl, hbq⟩ := hrel
          rename World => wq
          have HBQ := Lib.hid hbq
          have hzq := hbq.size
          have H0Q := Lib.hid (hb_below hbq H0R.out (by omega))
          have cq0 : wq.cell? ⟨w.heap.size, 1, none⟩ = some (.slice ua a.ws.length uc) := cell_of_row wq _ 1 _ _ _ H0Q.out
          clear hbq
          by_cases hil : i < a.ws.length
          · have j6 : (i : Int) < (a.ws.length : Int) := by omega
            have j7 : (0 : Int) ≤ (i : Int) := by omega
            obtain ⟨x, hx⟩ : ∃ x, a.ws[i]? = some x := ⟨_, List.getElem?_eq_getElem hil⟩
            have HX := Lib.hid hx
            have HAQ := Lib.hid (HUW.out.below HBQ.out)
            obtain ⟨wb, wo, rfl, hwb, hwr⟩ := ws_get HAQ.out hx
            have HXR := Lib.hid hwr
            have HBOQ := Lib.hid (show BO w1.heap.size wq w1.heap.size a.ws.length (inL (leastTo a.ws k)) from own_below HBO.out HBQ.out)
            have hw0 : w.heap.size < wq.heap.size := by omega
            have HC0 := Lib.hid (cell_of_row wq w.heap.size 1 _ _ _ H0Q.out)
            have CR := Lib.hid (fun V (h : Below wq.heap.size wq V) => refReady_any a.pr a.ws (some ⟨wb, wo, none⟩) uc w1.heap.size w1.heap.size a.ws.length i (inL (leastTo a.ws k)) V (HAQ.out.below h) HSM.out (own_below HBOQ.out h) rfl hil)
            clear hwr hx
            rcases bestTo_spec a.ws (inL (leastTo a.ws k)) i with ⟨hb1, _⟩ | ⟨j, hb1, hji, _, _⟩
            · have HBA := Lib.hid (best_A hb1)
              rw [hb1]
              clear hb1
              go_wp2_with fail
              cases hr : rdyB a.ws (inL (leastTo a.ws k)) i
              · rw [hr] at CR
                rw [hr, if_neg (by simp)] at HBA
                refine wp_region_class (fun w' => Below wq.heap.size wq w') 22 (by kernel_rfl) (by kernel_rfl) (Below.refl _ wq).drew ?_
                simp only [List.take_succ_cons, List.take_zero, List.drop_succ_cons, List.drop_zero]
                refine quiet_moveV rfl _ rfl (.int .i64 (-1)) rfl ?_
                simp only [Act.put, List.setIfInBounds_toArray, List.set_cons_zero, List.set_cons_succ]
                refine quiet_still rfl (.bool true) (fun w _ => by go_simp) ?_
                simp only [Act.put, List.setIfInBounds_toArray, List.set_cons_zero, List.set_cons_succ]
                refine quiet_moveV rfl _ rfl (.bool true) rfl ?_
                simp only [Act.put, List.setIfInBounds_toArray, List.set_cons_zero, List.set_cons_succ]
                refine quiet_skip (by kernel_rfl) ?_
                simp only [Act.put, List.setIfInBounds_toArray, List.set_cons_zero, List.set_cons_succ]
                refine quiet_skip (by kernel_rfl) ?_
                simp only [Act.put, List.setIfInBounds_toArray, List.set_cons_zero, List.set_cons_succ]
                refine quiet_skip (by kernel_rfl) ?_
                simp only [Act.put, List.setIfInBounds_toArray, List.set_cons_zero, List.set_cons_succ]
                refine quiet_skip (by kernel_rfl) ?_
                simp only [Act.put, List.setIfInBounds_toArray, List.set_cons_zero, List.set_cons_succ]
                refine quiet_skip (by kernel_rfl) ?_
                simp only [Act.put, List.setIfInBounds_toArray, List.set_cons_zero, List.set_cons_succ]
                refine quiet_skip (by kernel_rfl) ?_
                simp only [Act.put, List.setIfInBounds_toArray, List.set_cons_zero, List.set_cons_succ]
                refine quiet_skip (by kernel_rfl) ?_
                simp only [Act.put, List.setIfInBounds_toArray, List.set_cons_zero, List.set_cons_succ]
                refine quiet_skip (by kernel_rfl) ?_
                simp only [Act.put, List.setIfInBounds_toArray, List.set_cons_zero, List.set_cons_succ]
                refine quiet_skip (by kernel_rfl) ?_
                simp only [Act.put, List.setIfInBounds_toArray, List.set_cons_zero, List.set_cons_succ]
                refine quiet_skip (by kernel_rfl) ?_
                simp only [Act.put, List.setIfInBounds_toArray, List.set_cons_zero, List.set_cons_succ]
                refine quiet_skip (by kernel_rfl) ?_
                simp only [Act.put, List.setIfInBounds_toArray, List.set_cons_zero, List.set_cons_succ]
                refine quiet_skip (by kernel_rfl) ?_
                simp only [Act.put, List.setIfInBounds_toArray, List.set_cons_zero, List.set_cons_succ]
                refine quiet_skip (by kernel_rfl) ?_
                simp only [Act.put, List.setIfInBounds_toArray, List.set_cons_zero, List.set_cons_succ]
                refine quiet_still rfl (.bool true) (fun w _ => by go_simp) ?_
                simp only [Act.put, List.setIfInBounds_toArray, List.set_cons_zero, List.set_cons_succ]
                refine quiet_moveV rfl _ rfl (.bool true) rfl ?_
                simp only [Act.put, List.setIfInBounds_toArray, List.set_cons_zero, List.set_cons_succ]
                refine quietW_load_mid (by kernel_rfl) _ _ rfl w.heap.size 0 rfl [.int .i64 a.pr, .slice (some ⟨wb, wo, none⟩) a.ws.length uc] _ (fun V h => range_of_heap (hb_below h H0Q.out hw0)) Try.underlying24 rfl (by kernel_rfl) ?_
                simp only [Act.put, List.setIfInBounds_toArray, List.set_cons_zero, List.set_cons_succ]
                refine quietW_moveV (by kernel_rfl) _ rfl (.slice (some ⟨w1.heap.size, 0, none⟩) a.ws.length a.ws.length) rfl ?_
                simp only [Act.put, List.setIfInBounds_toArray, List.set_cons_zero, List.set_cons_succ]
                refine quietW_moveV (by kernel_rfl) _ rfl (.int .i64 (i : Int)) rfl ?_
                simp only [Act.put, List.setIfInBounds_toArray, List.set_cons_zero, List.set_cons_succ]
                refine quietW_call (by kernel_rfl) 49 _ _ rfl (enter_of Try.func49 (by decide) (by intro h; cases h)) _ (fun V h => (CR.out V h).mono fun e w' ⟨he, hw⟩ => ⟨he, h.trans (hw.mono h.size)⟩) ?_
                simp only [Act.put, List.setIfInBounds_toArray, List.set_cons_zero, List.set_cons_succ]
                unfold wpQuiet
                intro wz hb
                have HB5 := Lib.hid (HBQ.out.trans (hb.mono (by omega)))
                clear hb
                go_wp2_with fail
                go_roundw
                case rel => exact ⟨i + 1, by omega, by go_num, by rw [HBA.out], HB5.out⟩
                case measure => (simp [intOf] <;> omega)
              · rw [hr] at CR
                rw [hr, if_pos rfl] at HBA
                refine wp_region_class (fun w' => Below wq.heap.size wq w') 22 (by kernel_rfl) (by kernel_rfl) (Below.refl _ wq).drew ?_
                simp only [List.take_succ_cons, List.take_zero, List.drop_succ_cons, List.drop_zero]
                refine quiet_moveV rfl _ rfl (.int .i64 (-1)) rfl ?_
                simp only [Act.put, List.setIfInBounds_toArray, List.set_cons_zero, List.set_cons_succ]
                refine quiet_still rfl (.bool true) (fun w _ => by go_simp) ?_
                simp only [Act.put, List.setIfInBounds_toArray, List.set_cons_zero, List.set_cons_succ]
                refine quiet_moveV rfl _ rfl (.bool true) rfl ?_
                simp only [Act.put, List.setIfInBounds_toArray, List.set_cons_zero, List.set_cons_succ]
                refine quiet_skip (by kernel_rfl) ?_
                simp only [Act.put, List.setIfInBounds_toArray, List.set_cons_zero, List.set_cons_succ]
                refine quiet_skip (by kernel_rfl) ?_
                simp only [Act.put, List.setIfInBounds_toArray, List.set_cons_zero, List.set_cons_succ]
                refine quiet_skip (by kernel_rfl) ?_
                simp only [Act.put, List.setIfInBounds_toArray, List.set_cons_zero, List.set_cons_succ]
                refine quiet_skip (by kernel_rfl) ?_
                simp only [Act.put, List.setIfInBounds_toArray, List.set_cons_zero, List.set_cons_succ]
                refine quiet_skip (by kernel_rfl) ?_
                simp only [Act.put, List.setIfInBounds_toArray, List.set_cons_zero, List.set_cons_succ]
                refine quiet_skip (by kernel_rfl) ?_
                simp only [Act.put, List.setIfInBounds_toArray, List.set_cons_zero, List.set_cons_succ]
                refine quiet_skip (by kernel_rfl) ?_
                simp only [Act.put, List.setIfInBounds_toArray, List.set_cons_zero, List.set_cons_succ]
                refine quiet_skip (by kernel_rfl) ?_
                simp only [Act.put, List.setIfInBounds_toArray, List.set_cons_zero, List.set_cons_succ]
                refine quiet_skip (by kernel_rfl) ?_
                simp only [Act.put, List.setIfInBounds_toArray, List.set_cons_zero, List.set_cons_succ]
                refine quiet_skip (by kernel_rfl) ?_
                simp only [Act.put, List.setIfInBounds_toArray, List.set_cons_zero, List.set_cons_succ]
                refine quiet_skip (by kernel_rfl) ?_
                simp only [Act.put, List.setIfInBounds_toArray, List.set_cons_zero, List.set_cons_succ]
                refine quiet_skip (by kernel_rfl) ?_
                simp only [Act.put, List.setIfInBounds_toArray, List.set_cons_zero, List.set_cons_succ]
                refine quiet_skip (by kernel_rfl) ?_
                simp only [Act.put, List.setIfInBounds_toArray, List.set_cons_zero, List.set_cons_succ]
                refine quiet_still rfl (.bool true) (fun w _ => by go_simp) ?_
                simp only [Act.put, List.setIfInBounds_toArray, List.set_cons_zero, List.set_cons_succ]
                refine quiet_moveV rfl _ rfl (.bool true) rfl ?_
                simp only [Act.put, List.setIfInBounds_toArray, List.set_cons_zero, List.set_cons_succ]
                refine quietW_load_mid (by kernel_rfl) _ _ rfl w.heap.size 0 rfl [.int .i64 a.pr, .slice (some ⟨wb, wo, none⟩) a.ws.length uc] _ (fun V h => range_of_heap (hb_below h H0Q.out hw0)) Try.underlying24 rfl (by kernel_rfl) ?_
                simp only [Act.put, List.setIfInBounds_toArray, List.set_cons_zero, List.set_cons_succ]
                refine quietW_moveV (by kernel_rfl) _ rfl (.slice (some ⟨w1.heap.size, 0, none⟩) a.ws.length a.ws.length) rfl ?_
                simp only [Act.put, List.setIfInBounds_toArray, List.set_cons_zero, List.set_cons_succ]
                refine quietW_moveV (by kernel_rfl) _ rfl (.int .i64 (i : Int)) rfl ?_
                simp only [Act.put, List.setIfInBounds_toArray, List.set_cons_zero, List.set_cons_succ]
                refine quietW_call (by kernel_rfl) 49 _ _ rfl (enter_of Try.func49 (by decide) (by intro h; cases h)) _ (fun V h => (CR.out V h).mono fun e w' ⟨he, hw⟩ => ⟨he, h.trans (hw.mono h.size)⟩) ?_
                simp only [Act.put, List.setIfInBounds_toArray, List.set_cons_zero, List.set_cons_succ]
                unfold wpQuiet
                intro wz hb
                have HB5 := Lib.hid (HBQ.out.trans (hb.mono (by omega)))
                clear hb
                go_wp2_with fail
                go_roundw
                case rel => exact ⟨i + 1, by omega, by go_num, by rw [HBA.out], HB5.out⟩
                case measure => (simp [intOf] <;> omega)
            · obtain ⟨y, hy⟩ : ∃ y, a.ws[j]? = some y := ⟨_, List.getElem?_eq_getElem (by omega)⟩
              obtain ⟨_, _, e, _, hyr⟩ := ws_get HAQ.out hy
              cases e
              have HYR := Lib.hid hyr
              have j8 : ¬ ((j : Int) < 0) := by omega
              have j9 : (0 : Int) ≤ (j : Int) := by omega
              have j10 : (j : Int) < (a.ws.length : Int) := by omega
              by_cases hlt : x.pl < y.pl
              · have HBA := Lib.hid (best_B hb1 HX.out hy hlt)
                rw [hb1]
                clear hb1 hyr hy
                go_wp2_with fail
                cases hr : rdyB a.ws (inL (leastTo a.ws k)) i
                · rw [hr] at CR
                  rw [hr, if_neg (by simp)] at HBA
                  refine wp_region_class (fun w' => Below wq.heap.size wq w') 22 (by kernel_rfl) (by kernel_rfl) (Below.refl _ wq).drew ?_
                  simp only [List.take_succ_cons, List.take_zero, List.drop_succ_cons, List.drop_zero]
                  refine quiet_moveV rfl _ rfl (.int .i64 (j : Int)) rfl ?_
                  simp only [Act.put, List.setIfInBounds_toArray, List.set_cons_zero, List.set_cons_succ]
                  refine quiet_still rfl (.bool false) (fun w _ => by go_simp) ?_
                  simp only [Act.put, List.setIfInBounds_toArray, List.set_cons_zero, List.set_cons_succ]
                  refine quiet_moveV rfl _ rfl (.bool false) rfl ?_
                  simp only [Act.put, List.setIfInBounds_toArray, List.set_cons_zero, List.set_cons_succ]
                  refine quietW_still (by kernel_rfl) (.pointer (some ⟨w.heap.size, 1, none⟩)) (fun w _ => by go_simp) ?_
                  simp only [Act.put, List.setIfInBounds_toArray, List.set_cons_zero, List.set_cons_succ]
                  refine quietW_load1 (by kernel_rfl) _ _ rfl ⟨w.heap.size, 1, none⟩ rfl (.slice (some ⟨wb, wo, none⟩) a.ws.length uc) (load_ws _ _) (fun _ h => (h.cell (p := ⟨w.heap.size, 1, none⟩) hw0).trans HC0.out) ?_
                  simp only [Act.put, List.setIfInBounds_toArray, List.set_cons_zero, List.set_cons_succ]
                  refine quietW_moveV (by kernel_rfl) _ rfl (.int .i64 (i : Int)) rfl ?_
                  simp only [Act.put, List.setIfInBounds_toArray, List.set_cons_zero, List.set_cons_succ]
                  refine quietW_still (by kernel_rfl) (.pointer (some ⟨wb, wo + i * 3, none⟩)) (fun w _ => by go_simp) ?_
                  simp only [Act.put, List.setIfInBounds_toArray, List.set_cons_zero, List.set_cons_succ]
                  refine quietW_still (by kernel_rfl) (.pointer (some ⟨wb, wo + i * 3 + 1, none⟩)) (fun w _ => by go_simp) ?_
                  simp only [Act.put, List.setIfInBounds_toArray, List.set_cons_zero, List.set_cons_succ]
                  refine quietW_load1 (by kernel_rfl) _ _ rfl ⟨wb, wo + i * 3 + 1, none⟩ rfl (.int .i64 x.pl) (load_int _ _) (fun _ h => (h.cell (p := ⟨wb, wo + i * 3 + 1, none⟩) hwb).trans (HXR.out 1 _ rfl)) ?_
                  simp only [Act.put, List.setIfInBounds_toArray, List.set_cons_zero, List.set_cons_succ]
                  refine quietW_still (by kernel_rfl) (.pointer (some ⟨w.heap.size, 1, none⟩)) (fun w _ => by go_simp) ?_
                  simp only [Act.put, List.setIfInBounds_toArray, List.set_cons_zero, List.set_cons_succ]
                  refine quietW_load1 (by kernel_rfl) _ _ rfl ⟨w.heap.size, 1, none⟩ rfl (.slice (some ⟨wb, wo, none⟩) a.ws.length uc) (load_ws _ _) (fun _ h => (h.cell (p := ⟨w.heap.size, 1, none⟩) hw0).trans HC0.out) ?_
                  simp only [Act.put, List.setIfInBounds_toArray, List.set_cons_zero, List.set_cons_succ]
                  refine quietW_moveV (by kernel_rfl) _ rfl (.int .i64 (j : Int)) rfl ?_
                  simp only [Act.put, List.setIfInBounds_toArray, List.set_cons_zero, List.set_cons_succ]
                  refine quietW_still (by kernel_rfl) (.pointer (some ⟨wb, wo + j * 3, none⟩)) (fun w _ => by go_simp) ?_
                  simp only [Act.put, List.setIfInBounds_toArray, List.set_cons_zero, List.set_cons_succ]
                  refine quietW_still (by kernel_rfl) (.pointer (some ⟨wb, wo + j * 3 + 1, none⟩)) (fun w _ => by go_simp) ?_
                  simp only [Act.put, List.setIfInBounds_toArray, List.set_cons_zero, List.set_cons_succ]
                  refine quietW_load1 (by kernel_rfl) _ _ rfl ⟨wb, wo + j * 3 + 1, none⟩ rfl (.int .i64 y.pl) (load_int _ _) (fun _ h => (h.cell (p := ⟨wb, wo + j * 3 + 1, none⟩) hwb).trans (HYR.out 1 _ rfl)) ?_
                  simp only [Act.put, List.setIfInBounds_toArray, List.set_cons_zero, List.set_cons_succ]
                  refine quietW_still (by kernel_rfl) (.bool true) (fun w _ => by go_simp) ?_
                  simp only [Act.put, List.setIfInBounds_toArray, List.set_cons_zero, List.set_cons_succ]
                  refine quiet_still rfl (.bool true) (fun w _ => by go_simp) ?_
                  simp only [Act.put, List.setIfInBounds_toArray, List.set_cons_zero, List.set_cons_succ]
                  refine quiet_moveV rfl _ rfl (.bool true) rfl ?_
                  simp only [Act.put, List.setIfInBounds_toArray, List.set_cons_zero, List.set_cons_succ]
                  refine quietW_load_mid (by kernel_rfl) _ _ rfl w.heap.size 0 rfl [.int .i64 a.pr, .slice (some ⟨wb, wo, none⟩) a.ws.length uc] _ (fun V h => range_of_heap (hb_below h H0Q.out hw0)) Try.underlying24 rfl (by kernel_rfl) ?_
                  simp only [Act.put, List.setIfInBounds_toArray, List.set_cons_zero, List.set_cons_succ]
                  refine quietW_moveV (by kernel_rfl) _ rfl (.slice (some ⟨w1.heap.size, 0, none⟩) a.ws.length a.ws.length) rfl ?_
                  simp only [Act.put, List.setIfInBounds_toArray, List.set_cons_zero, List.set_cons_succ]
                  refine quietW_moveV (by kernel_rfl) _ rfl (.int .i64 (i : Int)) rfl ?_
                  simp only [Act.put, List.setIfInBounds_toArray, List.set_cons_zero, List.set_cons_succ]
                  refine quietW_call (by kernel_rfl) 49 _ _ rfl (enter_of Try.func49 (by decide) (by intro h; cases h)) _ (fun V h => (CR.out V h).mono fun e w' ⟨he, hw⟩ => ⟨he, h.trans (hw.mono h.size)⟩) ?_
                  simp only [Act.put, List.setIfInBounds_toArray, List.set_cons_zero, List.set_cons_succ]
                  unfold wpQuiet
                  intro wz hb
                  have HB5 := Lib.hid (HBQ.out.trans (hb.mono (by omega)))
                  clear hb
                  go_wp2_with fail
                  go_roundw
                  case rel => exact ⟨i + 1, by omega, by go_num, by rw [HBA.out], HB5.out⟩
                  case measure => (simp [intOf] <;> omega)
                · rw [hr] at CR
                  rw [hr, if_pos rfl] at HBA
                  refine wp_region_class (fun w' => Below wq.heap.size wq w') 22 (by kernel_rfl) (by kernel_rfl) (Below.refl _ wq).drew ?_
                  simp only [List.take_succ_cons, List.take_zero, List.drop_succ_cons, List.drop_zero]
                  refine quiet_moveV rfl _ rfl (.int .i64 (j : Int)) rfl ?_
                  simp only [Act.put, List.setIfInBounds_toArray, List.set_cons_zero, List.set_cons_succ]
                  refine quiet_still rfl (.bool false) (fun w _ => by go_simp) ?_
                  simp only [Act.put, List.setIfInBounds_toArray, List.set_cons_zero, List.set_cons_succ]
                  refine quiet_moveV rfl _ rfl (.bool false) rfl ?_
                  simp only [Act.put, List.setIfInBounds_toArray, List.set_cons_zero, List.set_cons_succ]
                  refine quietW_still (by kernel_rfl) (.pointer (some ⟨w.heap.size, 1, none⟩)) (fun w _ => by go_simp) ?_
                  simp only [Act.put, List.setIfInBounds_toArray, List.set_cons_zero, List.set_cons_succ]
                  refine quietW_load1 (by kernel_rfl) _ _ rfl ⟨w.heap.size, 1, none⟩ rfl (.slice (some ⟨wb, wo, none⟩) a.ws.length uc) (load_ws _ _) (fun _ h => (h.cell (p := ⟨w.heap.size, 1, none⟩) hw0).trans HC0.out) ?_
                  simp only [Act.put, List.setIfInBounds_toArray, List.set_cons_zero, List.set_cons_succ]
                  refine quietW_moveV (by kernel_rfl) _ rfl (.int .i64 (i : Int)) rfl ?_
                  simp only [Act.put, List.setIfInBounds_toArray, List.set_cons_zero, List.set_cons_succ]
                  refine quietW_still (by kernel_rfl) (.pointer (some ⟨wb, wo + i * 3, none⟩)) (fun w _ => by go_simp) ?_
                  simp only [Act.put, List.setIfInBounds_toArray, List.set_cons_zero, List.set_cons_succ]
                  refine quietW_still (by kernel_rfl) (.pointer (some ⟨wb, wo + i * 3 + 1, none⟩)) (fun w _ => by go_simp) ?_
                  simp only [Act.put, List.setIfInBounds_toArray, List.set_cons_zero, List.set_cons_succ]
                  refine quietW_load1 (by kernel_rfl) _ _ rfl ⟨wb, wo + i * 3 + 1, none⟩ rfl (.int .i64 x.pl) (load_int _ _) (fun _ h => (h.cell (p := ⟨wb, wo + i * 3 + 1, none⟩) hwb).trans (HXR.out 1 _ rfl)) ?_
                  simp only [Act.put, List.setIfInBounds_toArray, List.set_cons_zero, List.set_cons_succ]
                  refine quietW_still (by kernel_rfl) (.pointer (some ⟨w.heap.size, 1, none⟩)) (fun w _ => by go_simp) ?_
                  simp only [Act.put, List.setIfInBounds_toArray, List.set_cons_zero, List.set_cons_succ]
                  refine quietW_load1 (by kernel_rfl) _ _ rfl ⟨w.heap.size, 1, none⟩ rfl (.slice (some ⟨wb, wo, none⟩) a.ws.length uc) (load_ws _ _) (fun _ h => (h.cell (p := ⟨w.heap.size, 1, none⟩) hw0).trans HC0.out) ?_
                  simp only [Act.put, List.setIfInBounds_toArray, List.set_cons_zero, List.set_cons_succ]
                  refine quietW_moveV (by kernel_rfl) _ rfl (.int .i64 (j : Int)) rfl ?_
                  simp only [Act.put, List.setIfInBounds_toArray, List.set_cons_zero, List.set_cons_succ]
                  refine quietW_still (by kernel_rfl) (.pointer (some ⟨wb, wo + j * 3, none⟩)) (fun w _ => by go_simp) ?_
                  simp only [Act.put, List.setIfInBounds_toArray, List.set_cons_zero, List.set_cons_succ]
                  refine quietW_still (by kernel_rfl) (.pointer (some ⟨wb, wo + j * 3 + 1, none⟩)) (fun w _ => by go_simp) ?_
                  simp only [Act.put, List.setIfInBounds_toArray, List.set_cons_zero, List.set_cons_succ]
                  refine quietW_load1 (by kernel_rfl) _ _ rfl ⟨wb, wo + j * 3 + 1, none⟩ rfl (.int .i64 y.pl) (load_int _ _) (fun _ h => (h.cell (p := ⟨wb, wo + j * 3 + 1, none⟩) hwb).trans (HYR.out 1 _ rfl)) ?_
                  simp only [Act.put, List.setIfInBounds_toArray, List.set_cons_zero, List.set_cons_succ]
                  refine quietW_still (by kernel_rfl) (.bool true) (fun w _ => by go_simp) ?_
                  simp only [Act.put, List.setIfInBounds_toArray, List.set_cons_zero, List.set_cons_succ]
                  refine quiet_still rfl (.bool true) (fun w _ => by go_simp) ?_
                  simp only [Act.put, List.setIfInBounds_toArray, List.set_cons_zero, List.set_cons_succ]
                  refine quiet_moveV rfl _ rfl (.bool true) rfl ?_
                  simp only [Act.put, List.setIfInBounds_toArray, List.set_cons_zero, List.set_cons_succ]
                  refine quietW_load_mid (by kernel_rfl) _ _ rfl w.heap.size 0 rfl [.int .i64 a.pr, .slice (some ⟨wb, wo, none⟩) a.ws.length uc] _ (fun V h => range_of_heap (hb_below h H0Q.out hw0)) Try.underlying24 rfl (by kernel_rfl) ?_
                  simp only [Act.put, List.setIfInBounds_toArray, List.set_cons_zero, List.set_cons_succ]
                  refine quietW_moveV (by kernel_rfl) _ rfl (.slice (some ⟨w1.heap.size, 0, none⟩) a.ws.length a.ws.length) rfl ?_
                  simp only [Act.put, List.setIfInBounds_toArray, List.set_cons_zero, List.set_cons_succ]
                  refine quietW_moveV (by kernel_rfl) _ rfl (.int .i64 (i : Int)) rfl ?_
                  simp only [Act.put, List.setIfInBounds_toArray, List.set_cons_zero, List.set_cons_succ]
                  refine quietW_call (by kernel_rfl) 49 _ _ rfl (enter_of Try.func49 (by decide) (by intro h; cases h)) _ (fun V h => (CR.out V h).mono fun e w' ⟨he, hw⟩ => ⟨he, h.trans (hw.mono h.size)⟩) ?_
                  simp only [Act.put, List.setIfInBounds_toArray, List.set_cons_zero, List.set_cons_succ]
                  unfold wpQuiet
                  intro wz hb
                  have HB5 := Lib.hid (HBQ.out.trans (hb.mono (by omega)))
                  clear hb
                  go_wp2_with fail
                  go_roundw
                  case rel => exact ⟨i + 1, by omega, by go_num, by rw [HBA.out], HB5.out⟩
                  case measure => (simp [intOf] <;> omega)
              · have HBA := Lib.hid (best_C hb1 HX.out hy hlt)
                rw [hb1]
                clear hb1 hyr hy CR
                go_wp2_with fail
                refine wp_region_class (fun w' => Below wq.heap.size wq w') 22 (by kernel_rfl) (by kernel_rfl) (Below.refl _ wq).drew ?_
                simp only [List.take_succ_cons, List.take_zero, List.drop_succ_cons, List.drop_zero]
                refine quiet_moveV rfl _ rfl (.int .i64 (j : Int)) rfl ?_
                simp only [Act.put, List.setIfInBounds_toArray, List.set_cons_zero, List.set_cons_succ]
                refine quiet_still rfl (.bool false) (fun w _ => by go_simp) ?_
                simp only [Act.put, List.setIfInBounds_toArray, List.set_cons_zero, List.set_cons_succ]
                refine quiet_moveV rfl _ rfl (.bool false) rfl ?_
                simp only [Act.put, List.setIfInBounds_toArray, List.set_cons_zero, List.set_cons_succ]
                refine quietW_still (by kernel_rfl) (.pointer (some ⟨w.heap.size, 1, none⟩)) (fun w _ => by go_simp) ?_
                simp only [Act.put, List.setIfInBounds_toArray, List.set_cons_zero, List.set_cons_succ]
                refine quietW_load1 (by kernel_rfl) _ _ rfl ⟨w.heap.size, 1, none⟩ rfl (.slice (some ⟨wb, wo, none⟩) a.ws.length uc) (load_ws _ _) (fun _ h => (h.cell (p := ⟨w.heap.size, 1, none⟩) hw0).trans HC0.out) ?_
                simp only [Act.put, List.setIfInBounds_toArray, List.set_cons_zero, List.set_cons_succ]
                refine quietW_moveV (by kernel_rfl) _ rfl (.int .i64 (i : Int)) rfl ?_
                simp only [Act.put, List.setIfInBounds_toArray, List.set_cons_zero, List.set_cons_succ]
                refine quietW_still (by kernel_rfl) (.pointer (some ⟨wb, wo + i * 3, none⟩)) (fun w _ => by go_simp) ?_
                simp only [Act.put, List.setIfInBounds_toArray, List.set_cons_zero, List.set_cons_succ]
                refine quietW_still (by kernel_rfl) (.pointer (some ⟨wb, wo + i * 3 + 1, none⟩)) (fun w _ => by go_simp) ?_
                simp only [Act.put, List.setIfInBounds_toArray, List.set_cons_zero, List.set_cons_succ]
                refine quietW_load1 (by kernel_rfl) _ _ rfl ⟨wb, wo + i * 3 + 1, none⟩ rfl (.int .i64 x.pl) (load_int _ _) (fun _ h => (h.cell (p := ⟨wb, wo + i * 3 + 1, none⟩) hwb).trans (HXR.out 1 _ rfl)) ?_
                simp only [Act.put, List.setIfInBounds_toArray, List.set_cons_zero, List.set_cons_succ]
                refine quietW_still (by kernel_rfl) (.pointer (some ⟨w.heap.size, 1, none⟩)) (fun w _ => by go_simp) ?_
                simp only [Act.put, List.setIfInBounds_toArray, List.set_cons_zero, List.set_cons_succ]
                refine quietW_load1 (by kernel_rfl) _ _ rfl ⟨w.heap.size, 1, none⟩ rfl (.slice (some ⟨wb, wo, none⟩) a.ws.length uc) (load_ws _ _) (fun _ h => (h.cell (p := ⟨w.heap.size, 1, none⟩) hw0).trans HC0.out) ?_
                simp only [Act.put, List.setIfInBounds_toArray, List.set_cons_zero, List.set_cons_succ]
                refine quietW_moveV (by kernel_rfl) _ rfl (.int .i64 (j : Int)) rfl ?_
                simp only [Act.put, List.setIfInBounds_toArray, List.set_cons_zero, List.set_cons_succ]
                refine quietW_still (by kernel_rfl) (.pointer (some ⟨wb, wo + j * 3, none⟩)) (fun w _ => by go_simp) ?_
                simp only [Act.put, List.setIfInBounds_toArray, List.set_cons_zero, List.set_cons_succ]
                refine quietW_still (by kernel_rfl) (.pointer (some ⟨wb, wo + j * 3 + 1, none⟩)) (fun w _ => by go_simp) ?_
                simp only [Act.put, List.setIfInBounds_toArray, List.set_cons_zero, List.set_cons_succ]
                refine quietW_load1 (by kernel_rfl) _ _ rfl ⟨wb, wo + j * 3 + 1, none⟩ rfl (.int .i64 y.pl) (load_int _ _) (fun _ h => (h.cell (p := ⟨wb, wo + j * 3 + 1, none⟩) hwb).trans (HYR.out 1 _ rfl)) ?_
                simp only [Act.put, List.setIfInBounds_toArray, List.set_cons_zero, List.set_cons_succ]
                refine quietW_still (by kernel_rfl) (.bool false) (fun w _ => by go_simp) ?_
                simp only [Act.put, List.setIfInBounds_toArray, List.set_cons_zero, List.set_cons_succ]
                refine quiet_still rfl (.bool false) (fun w _ => by go_simp) ?_
                simp only [Act.put, List.setIfInBounds_toArray, List.set_cons_zero, List.set_cons_succ]
                refine quiet_moveV rfl _ rfl (.bool false) rfl ?_
                simp only [Act.put, List.setIfInBounds_toArray, List.set_cons_zero, List.set_cons_succ]
                refine quiet_skip (by kernel_rfl) ?_
                simp only [Act.put, List.setIfInBounds_toArray, List.set_cons_zero, List.set_cons_succ]
                refine quiet_skip (by kernel_rfl) ?_
                simp only [Act.put, List.setIfInBounds_toArray, List.set_cons_zero, List.set_cons_succ]
                refine quiet_skip (by kernel_rfl) ?_
                simp only [Act.put, List.setIfInBounds_toArray, List.set_cons_zero, List.set_cons_succ]
                refine quiet_skip (by kernel_rfl) ?_
                simp only [Act.put, List.setIfInBounds_toArray, List.set_cons_zero, List.set_cons_succ]
                unfold wpQuiet
                intro wz hb
                have HB5 := Lib.hid (HBQ.out.trans (hb.mono (by omega)))
                clear hb
                go_wp2_with fail
                go_roundw
                case rel => exact ⟨i + 1, by omega, by go_num, by rw [HBA.out], HB5.out⟩
                case measure => (simp [intOf] <;> omega)
          · have j6 : ¬ (i : Int) < (a.ws.length : Int) := by omega
            have e : i = a.ws.length := by omega
            subst e
            obtain ⟨j, hbj, hja, hrj⟩ := least_best hkl
            rw [hbj]
            have HLN := Lib.hid (least_next hbj)
            have j4 : (0 : Int) ≤ (j : Int) := by omega
            have j5 : (j : Int) < (a.ws.length : Int) := by omega
            have hboq : BO w1.heap.size wq w1.heap.size a.ws.length (inL (leastTo a.ws k)) := own_below HBO.out HBQ.out
            have hcj := hboq.cell hja
            have hfj := hboq.frozen j
            have hbs := hboq.set j
            rw [← inL_snoc, ← HLN.out] at hbs
            have HBS := Lib.hid hbs
            have HOS := Lib.hid (own_setOther (own_below HOW.out HBQ.out) (g := w1.heap.size) hgl j (.bool true))
            have HB4 := Lib.hid (show Below w1.heap.size w2 (wq.setCell ⟨w1.heap.size, j, none⟩ (.bool true)) from (HBR.out.trans (HBQ.out.mono (by omega))).setCell (p := ⟨w1.heap.size, j, none⟩) (Nat.le_refl _) _)
            have HLL := Lib.hid (show (LI (leastTo a.ws k)).length < 100000 by rw [LI_len, HCL.out.1]; omega)
            have hzs : (wq.setCell ⟨w1.heap.size, j, none⟩ (.bool true)).heap.size = wq.heap.size := by simp
            have HZS := Lib.hid hzs
            clear hboq hbs hzs hbj hrj
            go_upto_region 13 with fail
            go_upto_region 14 with fail
            generalize wq.setCell ⟨w1.heap.size, j, none⟩ (.bool true) = ws at *
            have HZX := Lib.hid (show w2.heap.size ≤ ws.heap.size by have := HZS.out; omega)
            clear hcj hfj cq0
            go_wp2_with (at_builtin; refine app_one (w0 := ws) w2.heap.size _ (LI (leastTo a.ws k)) (j : Int) rfl _ _ rfl rfl HOS.out rfl HLL.out (Below.refl _ _) HZX.out ?_; intro g1 cap1 wA hown1 hb1)
            have HOA := Lib.hid hown1
            have HBA := Lib.hid (own_blk HBS.out hgl hb1)
            have HBB := Lib.hid (HB4.out.trans (hb1.mono (by omega)))
            have hzA : w2.heap.size ≤ wA.heap.size := by have := hb1.size; have := HZX.out; omega
            have hlk : (leastTo a.ws k).length = k := HCL.out.1
            clear hown1 hb1
            go_wp2_with fail
            go_roundw
            case rel => exact ⟨k + 1, hkl, by rw [HLN.out, LI_snoc, List.length_append]; exact HOA.out, HBA.out, HBB.out, hzA⟩
            case measure => (simp [intOf, lnOf, LI_len, hlk] <;> omega)
      · have e : k = a.ws.length := by omega
        subst e
        have jj : ¬ ((LI (leastTo a.ws a.ws.length)).length : Int) < (a.ws.length : Int) := by rw [LI_len, HCL.out.1]; omega
        have HIS := Lib.hid (is_own HOW.out rfl)
        have HBF := Lib.hid (HB1.out.trans ((HB2.out.trans HBR.out).mono (by omega)))
        go_wp2_with fail
        go_ret2
        exact ⟨_, rfl, by rw [HOV.out]; exact HIS.out, HBF.out⟩
  · have hz' : (z == 0) = false := beq_eq_false_iff_ne.2 hz
    have e := HNOV.out hz
    subst e
    go_wp2_with fail
    go_ret2
    exact ⟨_, rfl, HNIL.out _, HB1.out⟩
end Go.Proofs.Ytpgipepnnnocgaa
