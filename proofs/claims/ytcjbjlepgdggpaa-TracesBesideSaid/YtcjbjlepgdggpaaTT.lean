/- The reference of orders between sheets. -/
import Derived.Test.YtcjbjlepgdggpaaTR
import Derived.Test.YtcjbjlepgdggpaaTN
import Derived.Test.YtcjbjlepgdggpaaFR
namespace Go.Proofs.Ytcjbjlepgdggpaa
open Go.RowKit Go.Shelf Go.Lib
set_option maxRecDepth 100000
set_option linter.unusedSimpArgs false
attribute [local irreducible] wpQuiet
theorem rdy_to {W : List Wk} {A : Nat → Bool} {i k : Nat} (h : ∀ a, a < k → (A a || !tchN W a i) = true) (hk : (A k || !tchN W k i) = true) : ∀ a, a < k + 1 → (A a || !tchN W a i) = true := fun a ha => by
  by_cases e : a = k
  · subst e; exact hk
  · exact h a (by omega)
theorem rdyB_no {W : List Wk} {A : Nat → Bool} {i k : Nat} (hk : k < i) (h : (A k || !tchN W k i) = false) : rdyB W A i = false := by
  unfold rdyB
  rw [show (List.range i).all (fun a => A a || !tchN W a i) = false by
    rw [List.all_eq_false]
    exact ⟨k, List.mem_range.2 hk, by rw [h]; simp⟩, Bool.and_false]
theorem rdyB_all {W : List Wk} {A : Nat → Bool} {i : Nat} (h : ∀ a, a < i → (A a || !tchN W a i) = true) : rdyB W A i = !A i := by
  unfold rdyB
  rw [show (List.range i).all (fun a => A a || !tchN W a i) = true from List.all_eq_true.2 fun a ha => h a (List.mem_range.1 ha), Bool.and_true]
set_option maxHeartbeats 4000000 in
set_option maxRecDepth 100000 in
theorem refReady_any (pr : Int) (W : List Wk) (ua : Option Addr) (uc B g n i : Nat) (A : Nat → Bool) (w : World) (hu : WS w (.slice ua W.length uc) W) (hsm : Small W) (hA : BO B w g n A) (hn : n = W.length) (hi : i < W.length) :
    Calls Try.prog 49 #[.agg #[.int .i64 pr, .slice ua W.length uc], .slice (some ⟨g, 0, none⟩) n n, .int .i64 (i : Int)] w fun e w' => e = .returned (.bool (rdyB W A i)) ∧ Below w.heap.size w w' := by
  have HU := Lib.hid hu
  have HA := Lib.hid hA
  have HSM := Lib.hid hsm
  have hl4 := hsm.1
  obtain ⟨x, hx⟩ : ∃ x, W[i]? = some x := ⟨_, List.getElem?_eq_getElem hi⟩
  have HX := Lib.hid hx
  have hgl : g < w.heap.size := by
    rcases hA.2 with ⟨e, _⟩ | ⟨g', cap, cur, e, _, hg, _⟩
    · cases e
    · cases e; exact (Array.getElem?_eq_some_iff.1 hg).1
  have HN := Lib.hid hn
  have HR := Lib.hid (fun k => @rdyB_no W A i k)
  have HR2 := Lib.hid (@rdyB_all W A i)
  generalize rdyB W A i = res at *
  clear hu hA hsm hx
  go_enter Try.func49, Try.ntmps49
  go_wp2_with fail
  have B0 := below_alloc w (.cells #[.int .i64 pr, .slice ua W.length uc] 24)
  have h0 := heap_alloc_new w (.cells #[.int .i64 pr, .slice ua W.length uc] 24)
  have hz0 : (w.alloc (.cells #[.int .i64 pr, .slice ua W.length uc] 24)).heap.size = w.heap.size + 1 := by simp
  generalize w.alloc (.cells #[.int .i64 pr, .slice ua W.length uc] 24) = W0 at *
  have HB0 := Lib.hid B0
  have H0 := Lib.hid h0
  clear B0 h0
  go_loopw [7] (fun kv wr => ∃ k : Nat, k ≤ i ∧ kv = .int .i64 (k : Int) ∧ Below W0.heap.size W0 wr ∧ ∀ a, a < k → (A a || !tchN W a i) = true) (fun kv _ => i - (intOf kv).toNat)
  case atStart => exact ⟨0, Nat.zero_le _, rfl, Below.refl _ _, fun a h => by omega⟩
  case round =>
    obtain ⟨k, hk, rfl, hbr, hall⟩ := hrel
    rename World => wr
    have HBR := Lib.hid hbr
    have HALL := Lib.hid hall
    have hzr := hbr.size
    have hbw : Below w.heap.size w wr := HB0.out.trans (hbr.mono (by omega))
    have HBW := Lib.hid hbw
    have HAR := Lib.hid (HA.out.below hbw)
    clear hbr hall hbw
    by_cases hkl : k < i
    · have j0 : (0 : Int) ≤ (k : Int) := by omega
      have j1 : (k : Int) < (i : Int) := by omega
      have j2 : (k : Int) < (n : Int) := by have := HN.out; omega
      have j3 : (k : Int) < (W.length : Int) := by omega
      have j4 : (i : Int) < (W.length : Int) := by omega
      have j5 : (0 : Int) ≤ (i : Int) := by omega
      obtain ⟨y, hy⟩ : ∃ y, W[k]? = some y := ⟨_, List.getElem?_eq_getElem (by omega)⟩
      have hUR := HU.out.below HBW.out
      obtain ⟨ub, uo, rfl, hub, hyr⟩ := ws_get hUR hy
      obtain ⟨_, _, e, _, hxr⟩ := ws_get hUR HX.out
      cases e
      have HYR := Lib.hid hyr
      have HXR := Lib.hid hxr
      have HAC := Lib.hid (HAR.out.cell (j := k) (by have := HN.out; omega))
      have hgr : g < wr.heap.size := by omega
      have hw0 : w.heap.size < wr.heap.size := by omega
      have HS1 := Lib.hid (cell_of_row wr w.heap.size 1 _ _ _ (hb_below HBR.out H0.out (by omega)))
      have CT := Lib.hid (fun V => refTouch_any y x V (HSM.out.2 y (List.mem_of_getElem? hy)) (HSM.out.2 x (List.mem_of_getElem? HX.out)))
      have HTV := Lib.hid (show touchP y x = tchN W k i by unfold tchN; rw [wkN_get hy, wkN_get HX.out])
      rw [HTV.out] at CT
      unfold Wk.val at CT
      clear hUR hyr hxr hy
      go_wp2_with fail
      cases hA1 : A k
      · cases hT : tchN W k i
        · rw [hA1] at HAC
          rw [hT] at CT
          have HOK := Lib.hid (rdy_to HALL.out (by rw [hA1, hT]; rfl))
          refine wp_region_class (fun w' => Below wr.heap.size wr w') 17 (by kernel_rfl) (by kernel_rfl) (Below.refl _ wr).drew ?_
          simp only [List.take_succ_cons, List.take_zero, List.drop_succ_cons, List.drop_zero]
          refine quiet_moveV rfl _ rfl (.slice (some ⟨g, 0, none⟩) n n) rfl ?_
          simp only [Act.put, List.setIfInBounds_toArray, List.set_cons_zero, List.set_cons_succ]
          refine quiet_moveV rfl _ rfl (.int .i64 (k : Int)) rfl ?_
          simp only [Act.put, List.setIfInBounds_toArray, List.set_cons_zero, List.set_cons_succ]
          refine quiet_still rfl (.pointer (some ⟨g, k, none⟩)) (fun w _ => by go_simp) ?_
          simp only [Act.put, List.setIfInBounds_toArray, List.set_cons_zero, List.set_cons_succ]
          refine quiet_load1 rfl _ _ rfl ⟨g, k, none⟩ rfl (.bool false) (load_boolA _ _) (fun _ h => (h.cell (p := ⟨g, k, none⟩) hgr).trans HAC.out) ?_
          simp only [Act.put, List.setIfInBounds_toArray, List.set_cons_zero, List.set_cons_succ]
          refine quiet_still rfl (.bool true) (fun w _ => by go_simp) ?_
          simp only [Act.put, List.setIfInBounds_toArray, List.set_cons_zero, List.set_cons_succ]
          refine quiet_moveV rfl _ rfl (.bool true) rfl ?_
          simp only [Act.put, List.setIfInBounds_toArray, List.set_cons_zero, List.set_cons_succ]
          refine quietW_still (by kernel_rfl) (.pointer (some ⟨w.heap.size, 1, none⟩)) (fun w _ => by go_simp) ?_
          simp only [Act.put, List.setIfInBounds_toArray, List.set_cons_zero, List.set_cons_succ]
          refine quietW_load1 (by kernel_rfl) _ _ rfl ⟨w.heap.size, 1, none⟩ rfl (.slice (some ⟨ub, uo, none⟩) W.length uc) (load_ws _ _) (fun _ h => (h.cell (p := ⟨w.heap.size, 1, none⟩) hw0).trans HS1.out) ?_
          simp only [Act.put, List.setIfInBounds_toArray, List.set_cons_zero, List.set_cons_succ]
          refine quietW_moveV (by kernel_rfl) _ rfl (.int .i64 (k : Int)) rfl ?_
          simp only [Act.put, List.setIfInBounds_toArray, List.set_cons_zero, List.set_cons_succ]
          refine quietW_still (by kernel_rfl) (.pointer (some ⟨ub, uo + k * 3, none⟩)) (fun w _ => by go_simp) ?_
          simp only [Act.put, List.setIfInBounds_toArray, List.set_cons_zero, List.set_cons_succ]
          refine quietW_load_mid (by kernel_rfl) _ _ rfl ub (uo + k * 3) rfl [.int .i64 y.kd, .int .i64 y.pl, .string y.wd] _ (fun V h => range_below3 HYR.out hub h) Try.underlying51 rfl (by kernel_rfl) ?_
          simp only [Act.put, List.setIfInBounds_toArray, List.set_cons_zero, List.set_cons_succ]
          refine quietW_still (by kernel_rfl) (.pointer (some ⟨w.heap.size, 1, none⟩)) (fun w _ => by go_simp) ?_
          simp only [Act.put, List.setIfInBounds_toArray, List.set_cons_zero, List.set_cons_succ]
          refine quietW_load1 (by kernel_rfl) _ _ rfl ⟨w.heap.size, 1, none⟩ rfl (.slice (some ⟨ub, uo, none⟩) W.length uc) (load_ws _ _) (fun _ h => (h.cell (p := ⟨w.heap.size, 1, none⟩) hw0).trans HS1.out) ?_
          simp only [Act.put, List.setIfInBounds_toArray, List.set_cons_zero, List.set_cons_succ]
          refine quietW_moveV (by kernel_rfl) _ rfl (.int .i64 (i : Int)) rfl ?_
          simp only [Act.put, List.setIfInBounds_toArray, List.set_cons_zero, List.set_cons_succ]
          refine quietW_still (by kernel_rfl) (.pointer (some ⟨ub, uo + i * 3, none⟩)) (fun w _ => by go_simp) ?_
          simp only [Act.put, List.setIfInBounds_toArray, List.set_cons_zero, List.set_cons_succ]
          refine quietW_load_mid (by kernel_rfl) _ _ rfl ub (uo + i * 3) rfl [.int .i64 x.kd, .int .i64 x.pl, .string x.wd] _ (fun V h => range_below3 HXR.out hub h) Try.underlying51 rfl (by kernel_rfl) ?_
          simp only [Act.put, List.setIfInBounds_toArray, List.set_cons_zero, List.set_cons_succ]
          refine quietW_call (by kernel_rfl) 38 _ _ rfl (enter_of Try.func38 (by decide) (by intro h; cases h)) _ (fun W h => (CT.out W).mono fun e w' ⟨he, hw⟩ => ⟨he, h.trans (hw.mono h.size)⟩) ?_
          simp only [Act.put, List.setIfInBounds_toArray, List.set_cons_zero, List.set_cons_succ]
          unfold wpQuiet
          intro w2 hb
          have HB2 := Lib.hid (HBR.out.trans (hb.mono (by omega)))
          clear hb
          go_wp2_with fail
          go_roundw
          case rel => exact ⟨k + 1, by omega, by go_num, HB2.out, HOK.out⟩
          case measure => (simp [intOf] <;> omega)
        · rw [hA1] at HAC
          rw [hT] at CT
          have e := HR.out k hkl (by rw [hA1, hT]; rfl)
          subst e
          refine wp_region_class (fun w' => Below wr.heap.size wr w') 17 (by kernel_rfl) (by kernel_rfl) (Below.refl _ wr).drew ?_
          simp only [List.take_succ_cons, List.take_zero, List.drop_succ_cons, List.drop_zero]
          refine quiet_moveV rfl _ rfl (.slice (some ⟨g, 0, none⟩) n n) rfl ?_
          simp only [Act.put, List.setIfInBounds_toArray, List.set_cons_zero, List.set_cons_succ]
          refine quiet_moveV rfl _ rfl (.int .i64 (k : Int)) rfl ?_
          simp only [Act.put, List.setIfInBounds_toArray, List.set_cons_zero, List.set_cons_succ]
          refine quiet_still rfl (.pointer (some ⟨g, k, none⟩)) (fun w _ => by go_simp) ?_
          simp only [Act.put, List.setIfInBounds_toArray, List.set_cons_zero, List.set_cons_succ]
          refine quiet_load1 rfl _ _ rfl ⟨g, k, none⟩ rfl (.bool false) (load_boolA _ _) (fun _ h => (h.cell (p := ⟨g, k, none⟩) hgr).trans HAC.out) ?_
          simp only [Act.put, List.setIfInBounds_toArray, List.set_cons_zero, List.set_cons_succ]
          refine quiet_still rfl (.bool true) (fun w _ => by go_simp) ?_
          simp only [Act.put, List.setIfInBounds_toArray, List.set_cons_zero, List.set_cons_succ]
          refine quiet_moveV rfl _ rfl (.bool true) rfl ?_
          simp only [Act.put, List.setIfInBounds_toArray, List.set_cons_zero, List.set_cons_succ]
          refine quietW_still (by kernel_rfl) (.pointer (some ⟨w.heap.size, 1, none⟩)) (fun w _ => by go_simp) ?_
          simp only [Act.put, List.setIfInBounds_toArray, List.set_cons_zero, List.set_cons_succ]
          refine quietW_load1 (by kernel_rfl) _ _ rfl ⟨w.heap.size, 1, none⟩ rfl (.slice (some ⟨ub, uo, none⟩) W.length uc) (load_ws _ _) (fun _ h => (h.cell (p := ⟨w.heap.size, 1, none⟩) hw0).trans HS1.out) ?_
          simp only [Act.put, List.setIfInBounds_toArray, List.set_cons_zero, List.set_cons_succ]
          refine quietW_moveV (by kernel_rfl) _ rfl (.int .i64 (k : Int)) rfl ?_
          simp only [Act.put, List.setIfInBounds_toArray, List.set_cons_zero, List.set_cons_succ]
          refine quietW_still (by kernel_rfl) (.pointer (some ⟨ub, uo + k * 3, none⟩)) (fun w _ => by go_simp) ?_
          simp only [Act.put, List.setIfInBounds_toArray, List.set_cons_zero, List.set_cons_succ]
          refine quietW_load_mid (by kernel_rfl) _ _ rfl ub (uo + k * 3) rfl [.int .i64 y.kd, .int .i64 y.pl, .string y.wd] _ (fun V h => range_below3 HYR.out hub h) Try.underlying51 rfl (by kernel_rfl) ?_
          simp only [Act.put, List.setIfInBounds_toArray, List.set_cons_zero, List.set_cons_succ]
          refine quietW_still (by kernel_rfl) (.pointer (some ⟨w.heap.size, 1, none⟩)) (fun w _ => by go_simp) ?_
          simp only [Act.put, List.setIfInBounds_toArray, List.set_cons_zero, List.set_cons_succ]
          refine quietW_load1 (by kernel_rfl) _ _ rfl ⟨w.heap.size, 1, none⟩ rfl (.slice (some ⟨ub, uo, none⟩) W.length uc) (load_ws _ _) (fun _ h => (h.cell (p := ⟨w.heap.size, 1, none⟩) hw0).trans HS1.out) ?_
          simp only [Act.put, List.setIfInBounds_toArray, List.set_cons_zero, List.set_cons_succ]
          refine quietW_moveV (by kernel_rfl) _ rfl (.int .i64 (i : Int)) rfl ?_
          simp only [Act.put, List.setIfInBounds_toArray, List.set_cons_zero, List.set_cons_succ]
          refine quietW_still (by kernel_rfl) (.pointer (some ⟨ub, uo + i * 3, none⟩)) (fun w _ => by go_simp) ?_
          simp only [Act.put, List.setIfInBounds_toArray, List.set_cons_zero, List.set_cons_succ]
          refine quietW_load_mid (by kernel_rfl) _ _ rfl ub (uo + i * 3) rfl [.int .i64 x.kd, .int .i64 x.pl, .string x.wd] _ (fun V h => range_below3 HXR.out hub h) Try.underlying51 rfl (by kernel_rfl) ?_
          simp only [Act.put, List.setIfInBounds_toArray, List.set_cons_zero, List.set_cons_succ]
          refine quietW_call (by kernel_rfl) 38 _ _ rfl (enter_of Try.func38 (by decide) (by intro h; cases h)) _ (fun W h => (CT.out W).mono fun e w' ⟨he, hw⟩ => ⟨he, h.trans (hw.mono h.size)⟩) ?_
          simp only [Act.put, List.setIfInBounds_toArray, List.set_cons_zero, List.set_cons_succ]
          unfold wpQuiet
          intro w2 hb
          have HB2 := Lib.hid (HBW.out.trans (hb.mono (by omega)))
          clear hb
          go_wp2_with fail
          go_ret
          exact ⟨rfl, HB2.out⟩
      · rw [hA1] at HAC
        have HOK := Lib.hid (rdy_to HALL.out (by rw [hA1]; rfl))
        refine wp_region_class (fun w' => Below wr.heap.size wr w') 17 (by kernel_rfl) (by kernel_rfl) (Below.refl _ wr).drew ?_
        simp only [List.take_succ_cons, List.take_zero, List.drop_succ_cons, List.drop_zero]
        refine quiet_moveV rfl _ rfl (.slice (some ⟨g, 0, none⟩) n n) rfl ?_
        simp only [Act.put, List.setIfInBounds_toArray, List.set_cons_zero, List.set_cons_succ]
        refine quiet_moveV rfl _ rfl (.int .i64 (k : Int)) rfl ?_
        simp only [Act.put, List.setIfInBounds_toArray, List.set_cons_zero, List.set_cons_succ]
        refine quiet_still rfl (.pointer (some ⟨g, k, none⟩)) (fun w _ => by go_simp) ?_
        simp only [Act.put, List.setIfInBounds_toArray, List.set_cons_zero, List.set_cons_succ]
        refine quiet_load1 rfl _ _ rfl ⟨g, k, none⟩ rfl (.bool true) (load_boolA _ _) (fun _ h => (h.cell (p := ⟨g, k, none⟩) hgr).trans HAC.out) ?_
        simp only [Act.put, List.setIfInBounds_toArray, List.set_cons_zero, List.set_cons_succ]
        refine quiet_still rfl (.bool false) (fun w _ => by go_simp) ?_
        simp only [Act.put, List.setIfInBounds_toArray, List.set_cons_zero, List.set_cons_succ]
        refine quiet_moveV rfl _ rfl (.bool false) rfl ?_
        simp only [Act.put, List.setIfInBounds_toArray, List.set_cons_zero, List.set_cons_succ]
        refine quiet_skip (by kernel_rfl) ?_
        simp only [Act.put, List.setIfInBounds_toArray, List.set_cons_zero, List.set_cons_succ]
        refine quiet_skip (by kernel_rfl) ?_
        simp only [Act.put, List.setIfInBounds_toArray, List.set_cons_zero, List.set_cons_succ]
        refine quiet_skip (by kernel_rfl) ?_
        simp only [Act.put, List.setIfInBounds_toArray, List.set_cons_zero, List.set_cons_succ]
        refine quiet_skip (by kernel_rfl) ?_
        simp only [Act.put, List.setIfInBounds_toArray, List.set_cons_zero, List.set_cons_succ]
        refine quiet_skip (by kernel_rfl) ?_
        simp only [Act.put, List.setIfInBounds_toArray, List.set_cons_zero, List.set_cons_succ]
        refine quiet_skip (by kernel_rfl) ?_
        simp only [Act.put, List.setIfInBounds_toArray, List.set_cons_zero, List.set_cons_succ]
        refine quiet_skip (by kernel_rfl) ?_
        simp only [Act.put, List.setIfInBounds_toArray, List.set_cons_zero, List.set_cons_succ]
        refine quiet_skip (by kernel_rfl) ?_
        simp only [Act.put, List.setIfInBounds_toArray, List.set_cons_zero, List.set_cons_succ]
        refine quiet_skip (by kernel_rfl) ?_
        simp only [Act.put, List.setIfInBounds_toArray, List.set_cons_zero, List.set_cons_succ]
        refine quiet_skip (by kernel_rfl) ?_
        simp only [Act.put, List.setIfInBounds_toArray, List.set_cons_zero, List.set_cons_succ]
        refine quiet_skip (by kernel_rfl) ?_
        simp only [Act.put, List.setIfInBounds_toArray, List.set_cons_zero, List.set_cons_succ]
        unfold wpQuiet
        intro w2 hb
        have HB2 := Lib.hid (HBR.out.trans (hb.mono (by omega)))
        clear hb
        go_wp2_with fail
        go_roundw
        case rel => exact ⟨k + 1, by omega, by go_num, HB2.out, HOK.out⟩
        case measure => (simp [intOf] <;> omega)
    · have e : k = i := by omega
      subst e
      have j1 : ¬ (k : Int) < (k : Int) := by omega
      have j0 : (0 : Int) ≤ (k : Int) := by omega
      have j2 : (k : Int) < (n : Int) := by have := HN.out; omega
      have hac := HAR.out.cell (j := k) (by have := HN.out; omega)
      have e := HR2.out HALL.out
      subst e
      go_wp2_with fail
      go_ret
      exact ⟨rfl, HBW.out⟩
end Go.Proofs.Ytcjbjlepgdggpaa
