/- The reference's Order. -/
import Derived.Test.YtenfeekchggioaaOQ
import Derived.Test.YtenfeekchggioaaFR
namespace Go.Proofs.Ytenfeekchggioaa
open Go.RowKit Go.Shelf
set_option linter.unusedSimpArgs false
attribute [local irreducible] wpQuiet
theorem mk_boolsN (n : Nat) (hn : n < 100000) (W : World) : (Instr.makeSlice 75 (.int .i64 (n : Int)) (.int .i64 (n : Int))).run Try.prog W = .ok (.slice (some ⟨W.heap.size, 0, none⟩) n n) (W.alloc (.cells (madeCells #[.bool false] n) 4)) := by
  obtain ⟨i0, hi, hz0, hz1, hz2⟩ := info_parts infoBool
  have h := run_make (P := Try.prog) W 75 4 i0 (.bool false) Try.underlying75 hi hz0 .i64 .i64 (n : Int) (n : Int) (by omega) (by omega) (by rw [hz2]; omega) (by omega)
  rw [hz1] at h
  simp at h
  exact h
theorem load_boolA (ad : Addr) (v : Value) (w : World) (h : w.cell? ad = some v) : (Instr.loadAt 4 (.pointer (some ad))).run Try.prog w = .ok v w := by
  simp [Instr.loadAt, Instr.sureAddr, loadVar, go_sem, Try.isAgg4, h]
def blC (n : Nat) (A : Nat → Bool) : List Value := (List.range n).map fun (j : Nat) => .bool (A j)
theorem blC_len (n : Nat) (A : Nat → Bool) : (blC n A).length = n := by simp [blC]
theorem blC_get (n : Nat) (A : Nat → Bool) {j : Nat} (h : j < n) : (blC n A)[j]? = some (.bool (A j)) := by simp [blC, h]
theorem blC_set (n : Nat) (A : Nat → Bool) (i : Nat) : (blC n A).set i (.bool true) = blC n (fun j => decide (j = i) || A j) := by
  apply List.ext_getElem?
  intro j
  rw [List.getElem?_set]
  by_cases c : i = j
  · subst c
    rw [if_pos rfl, blC_len]
    by_cases h : i < n
    · rw [if_pos h, blC_get _ _ h]
      simp
    · rw [if_neg h, List.getElem?_eq_none (by rw [blC_len]; omega)]
  · rw [if_neg c]
    by_cases h : j < n
    · rw [blC_get _ _ h, blC_get _ _ h, decide_eq_false (show ¬ j = i from fun h => c h.symm), Bool.false_or]
    · rw [List.getElem?_eq_none (by rw [blC_len]; omega), List.getElem?_eq_none (by rw [blC_len]; omega)]
theorem blC_made (n : Nat) : (madeCells #[.bool false] n).toList = blC n (fun _ => false) := by
  apply List.ext_getElem?
  intro j
  by_cases h : j < n
  · rw [Array.getElem?_toList, made_one _ _ _ h, blC_get _ _ h]
  · rw [List.getElem?_eq_none (by simp [madeCells]; omega), List.getElem?_eq_none (by rw [blC_len]; omega)]
/-- An own row of Booleans. -/
def BO (B : Nat) (w : World) (g n : Nat) (A : Nat → Bool) : Prop := w.ownsRow B 4 1 (.slice (some ⟨g, 0, none⟩) n n) n (blC n A)
theorem bo_made (n B : Nat) (hn : n < 100000) (W : World) (hB : B ≤ W.heap.size) : BO B (W.alloc (.cells (madeCells #[.bool false] n) 4)) W.heap.size n (fun _ => false) := by
  unfold BO
  rw [← blC_made]
  exact World.ownsRow_lit W _ n hB (by unfold maxLen; omega) (by rw [size_madeCells]; omega)
theorem BO.below {B g n : Nat} {w w' : World} {A : Nat → Bool} (h : BO B w g n A) (hb : Below w.heap.size w w') : BO B w' g n A := own_below h hb
theorem BO.cell {B g n : Nat} {w : World} {A : Nat → Bool} (h : BO B w g n A) {j : Nat} (hj : j < n) : w.cell? ⟨g, j, none⟩ = some (.bool (A j)) := by
  have := World.ownsRow.cellAt h j (by omega)
  rwa [blC_get _ _ hj] at this
theorem BO.frozen {B g n : Nat} {w : World} {A : Nat → Bool} (h : BO B w g n A) (j : Nat) : w.frozen? ⟨g, j, none⟩ = false := World.ownsRow.frozenAt h j
theorem BO.set {B g n : Nat} {w : World} {A : Nat → Bool} (h : BO B w g n A) (i : Nat) : BO B (w.setCell ⟨g, i, none⟩ (.bool true)) g n (fun j => decide (j = i) || A j) := by
  unfold BO
  rw [← blC_set]
  exact (World.ownsRow.stored h i (.bool true)).1
theorem BO.ge {B g n : Nat} {w : World} {A : Nat → Bool} (h : BO B w g n A) : B ≤ g := (World.ownsRow.lt h g rfl).1
set_option maxRecDepth 100000 in
set_option maxHeartbeats 16000000 in
theorem refOrder_any (s : Sh) (v : Value) (os : List Int) (dv : Value) (w : World) (hv : SV w v s) (hd : IS w dv os) (hc : chkS s = 0) (hol : os.length ≤ 50000) :
    Calls Try.prog 29 #[v, dv] w fun e w' => e = .returned (.bool (refOrdB s.ws os)) ∧ Below w.heap.size w w' := by
  obtain ⟨u, rfl, hu⟩ := hv
  obtain ⟨sa, sc, rfl, q1, q2, _, hI⟩ := hd
  obtain ⟨ua, uc, rfl, k1, k2, hU⟩ := id hu
  have HI := Lib.hid hI
  have HU := Lib.hid hU
  obtain ⟨s1, s2, hsm⟩ := chk_small hc
  have HSM := Lib.hid hsm
  have HOB := Lib.hid (show refOrdB s.ws os = (decide (os.length = s.ws.length) && (List.range os.length).all (goodAt s.ws os)) from rfl)
  generalize refOrdB s.ws os = ob at *
  clear hI hU hu hc hsm
  go_enter Try.func29, Try.ntmps29
  have h0 := heap_alloc_new w (.cells #[.int .i64 s.pr, .slice ua s.ws.length uc] 24)
  have b0 := below_alloc w (.cells #[.int .i64 s.pr, .slice ua s.ws.length uc] 24)
  have z0 : (w.alloc (.cells #[.int .i64 s.pr, .slice ua s.ws.length uc] 24)).heap.size = w.heap.size + 1 := by simp
  by_cases hl : os.length = s.ws.length
  · have hln : ((os.length : Int) != (s.ws.length : Int)) = false := by rw [bne_eq_false_iff_eq]; omega
    have HL := Lib.hid hl
    have hw4 : s.ws.length ≤ 400 := HSM.out.1
    clear hl
    go_upto_region 3 with fail
    generalize w.alloc (.cells #[.int .i64 s.pr, .slice ua s.ws.length uc] 24) = w0 at *
    have hmk := fun W => mk_boolsN os.length (by omega) W
    have hbo := bo_made os.length w0.heap.size (by omega) w0 (Nat.le_refl _)
    rw [z0] at hbo
    have hb1 := below_alloc w0 (.cells (madeCells #[.bool false] os.length) 4)
    go_wp2_with fail
    clear hmk
    generalize w0.alloc (.cells (madeCells #[.bool false] os.length) 4) = w1 at *
    have H1 := Lib.hid ((hb1.block _ (by omega)).trans h0)
    have HB1 := Lib.hid (bon b0 hb1)
    have HBO := Lib.hid hbo
    have HZ1 := Lib.hid (show w.heap.size < w.heap.size + 1 by omega)
    have HN0 := Lib.hid (show doneS (os.take 0) = fun _ => false by rw [List.take_zero, doneS_nil])
    clear h0 b0 hb1 hbo z0
    go_loopw [6] (fun i wr => ∃ k : Nat, k ≤ os.length ∧ i = .int .i64 (k : Int) ∧ (∀ j, j < k → goodAt s.ws os j = true) ∧ BO (w.heap.size + 1) wr (w.heap.size + 1) os.length (doneS (os.take k)) ∧ wr.heap[w.heap.size]? = some (.cells #[.int .i64 s.pr, .slice ua s.ws.length uc] 24 (0, 0)) ∧ Below w.heap.size w wr) (fun i _ => os.length - (intOf i).toNat)
    case atStart => exact ⟨0, Nat.zero_le _, rfl, (fun j hj => by omega), by rw [HN0.out]; exact HBO.out, H1.out, HB1.out⟩
    case round =>
      clear H1 HB1 HBO HN0
      obtain ⟨k, hk, rfl, hgo, hbo, hx, hb⟩ := hrel
      have HG := Lib.hid hgo
      have HO := Lib.hid hbo
      have HX := Lib.hid hx
      have HB := Lib.hid hb
      clear hgo hbo hx hb
      by_cases hkl : k < os.length
      · obtain ⟨z, hz⟩ : ∃ z, os[k]? = some z := ⟨_, List.getElem?_eq_getElem hkl⟩
        obtain ⟨b, off, rfl, hbl, hcz⟩ := HI.out k z hz
        have cz : wr.cell? ⟨b, off + k, none⟩ = some (.int .i64 z) := (HB.out.cell (p := ⟨b, off + k, none⟩) hbl).trans hcz
        have HKZ := Lib.hid hz
        have j0 : (0 : Int) ≤ (k : Int) := by omega
        have j1 : (k : Int) < (os.length : Int) := by omega
        have HGA := Lib.hid (show goodAt s.ws os k = ((decide (0 ≤ z) && decide (z < (s.ws.length : Int))) && !doneS (os.take k) z.toNat && (List.range z.toNat).all fun a => !tchN s.ws a z.toNat || doneS (os.take k) a) by unfold goodAt; rw [hz])
        have HBADK := Lib.hid (show goodAt s.ws os k = false → ob = false from fun h => by
          rw [HOB.out, show (List.range os.length).all (goodAt s.ws os) = false from List.all_eq_false.2 ⟨k, List.mem_range.2 hkl, by rw [h]; decide⟩, Bool.and_false])
        clear hcz hz
        by_cases hneg : z < 0
        · have e : ob = false := HBADK.out (by rw [HGA.out, decide_eq_false (show ¬ 0 ≤ z by omega)]; rfl)
          subst e
          go_wp2_with fail
          go_ret
          exact ⟨rfl, HB.out⟩
        by_cases hbig : (os.length : Int) ≤ z
        · have e : ob = false := HBADK.out (by have := HL.out; rw [HGA.out, decide_eq_false (show ¬ z < (s.ws.length : Int) by omega), Bool.and_false]; rfl)
          subst e
          have hnn : ¬ z < 0 := hneg
          go_wp2_with fail
          go_ret
          exact ⟨rfl, HB.out⟩
        obtain ⟨i, rfl⟩ : ∃ i : Nat, z = (i : Int) := ⟨z.toNat, by omega⟩
        have hil : i < os.length := by omega
        have i0 : ¬ (i : Int) < 0 := by omega
        have i00 : (0 : Int) ≤ (i : Int) := by omega
        have i1 : ¬ (os.length : Int) ≤ (i : Int) := by omega
        have i11 : (i : Int) < (os.length : Int) := by omega
        have HGB := Lib.hid (show goodAt s.ws os k = (!doneS (os.take k) i && (List.range i).all fun a => !tchN s.ws a i || doneS (os.take k) a) by
          have := HL.out
          rw [HGA.out, decide_eq_true (show (0 : Int) ≤ (i : Int) by omega), decide_eq_true (show (i : Int) < (s.ws.length : Int) by omega)]
          simp)
        clear hneg hbig HGA
        have ci := HO.out.cell hil
        by_cases hdn : doneS (os.take k) i = true
        · rw [hdn] at ci
          have e : ob = false := HBADK.out (by rw [HGB.out, hdn]; rfl)
          subst e
          clear hdn
          go_wp2_with fail
          go_ret
          exact ⟨rfl, HB.out⟩
        have hdn' : doneS (os.take k) i = false := by simpa using hdn
        rw [hdn'] at ci
        have HGC := Lib.hid (show goodAt s.ws os k = (List.range i).all fun a => !tchN s.ws a i || doneS (os.take k) a by rw [HGB.out, hdn']; rfl)
        have HIL := Lib.hid hil
        clear hdn hdn' HGB
        go_wp2_with fail
        clear ci cz
        go_loopw [8] (fun x wx => ∃ a : Nat, a ≤ i ∧ x = .int .i64 (a : Int) ∧ (∀ j, j < a → (!tchN s.ws j i || doneS (os.take k) j) = true) ∧ Below wr.heap.size wr wx) (fun x _ => i - (intOf x).toNat)
        case atStart => exact ⟨0, Nat.zero_le _, rfl, (fun j hj => by omega), Below.refl _ _⟩
        case round =>
          obtain ⟨a, ha, rfl, hno, hbx⟩ := hrel
          rename World => wx
          have HNO := Lib.hid hno
          have HBX := Lib.hid hbx
          have HO2 := Lib.hid (HO.out.below hbx)
          have hx2 := (hbx.block _ (Array.getElem?_eq_some_iff.1 HX.out).1).trans HX.out
          have HX2 := Lib.hid hx2
          have HB2 := Lib.hid (bon HB.out hbx)
          have hzx := (Array.getElem?_eq_some_iff.1 hx2).1
          clear hno hbx
          by_cases hai : a < i
          · have a0 : (a : Int) < (i : Int) := by omega
            have a00 : (0 : Int) ≤ (a : Int) := by omega
            have g1 : wx.cell? ⟨w.heap.size, 1, none⟩ = some (.slice ua s.ws.length uc) := cell_of_row wx _ 1 _ _ _ hx2
            have hL := HL.out
            obtain ⟨y1, hy1⟩ : ∃ y1, s.ws[a]? = some y1 := ⟨_, List.getElem?_eq_getElem (by omega)⟩
            obtain ⟨y2, hy2⟩ : ∃ y2, s.ws[i]? = some y2 := ⟨_, List.getElem?_eq_getElem (by omega)⟩
            have hp1 := HSM.out.2 y1 (List.mem_of_getElem? hy1)
            have hp2 := HSM.out.2 y2 (List.mem_of_getElem? hy2)
            have htc : tchN s.ws a i = touchP y1 y2 := by unfold tchN; rw [wkN_get hy1, wkN_get hy2]
            obtain ⟨b1, off1, rfl, hb1, hr1, _⟩ := HU.out a y1 hy1
            obtain ⟨b1', off1', e', _, hr2, _⟩ := HU.out i y2 hy2
            cases e'
            have RGy1 := Lib.hid (range_below3 hr1 hb1 HB2.out)
            have RGy2 := Lib.hid (range_below3 hr2 hb1 HB2.out)
            have CT := Lib.hid (fun W => refTouch_any y1 y2 W hp1 hp2)
            have n1 : (a : Int) < (s.ws.length : Int) := by omega
            have n2 : (i : Int) < (s.ws.length : Int) := by omega
            have n3 : (a : Int) < (os.length : Int) := by omega
            have hb1x : b1 < wx.heap.size := by have := HB2.out.size; omega
            have gb := HO2.out.cell (show a < os.length by omega)
            have hgb : w.heap.size + 1 < wx.heap.size := (World.ownsRow.lt HO2.out _ rfl).2
            clear hy1 hy2 hp1 hp2 hr1 hr2 hx2 hL
            by_cases ht : touchP y1 y2 = true
            · rw [ht] at CT htc
              by_cases hd : doneS (os.take k) a = true
              · rw [hd] at gb
                have HNN := Lib.hid (show ∀ j, j < a + 1 → (!tchN s.ws j i || doneS (os.take k) j) = true from fun j hj => by
                  by_cases e : j = a
                  · rw [e, hd]; simp
                  · exact HNO.out j (by omega))
                clear ht hd htc
                go_wp2_with fail
                refine wp_region_class (fun w' => Below wx.heap.size wx w') 17 (by kernel_rfl) (by kernel_rfl) (Below.refl _ wx).drew ?_
                simp only [List.take_succ_cons, List.take_zero, List.drop_succ_cons, List.drop_zero]
                refine quiet_still rfl (.pointer (some ⟨w.heap.size, 1, none⟩)) (fun w _ => by go_simp) ?_
                simp only [Act.put, List.setIfInBounds_toArray, List.set_cons_zero, List.set_cons_succ]
                refine quiet_load1 rfl _ _ rfl ⟨w.heap.size, 1, none⟩ rfl (.slice (some ⟨b1, off1, none⟩) s.ws.length uc) (load_ws _ _) (fun _ h => (h.cell (p := ⟨w.heap.size, 1, none⟩) hzx).trans g1) ?_
                simp only [Act.put, List.setIfInBounds_toArray, List.set_cons_zero, List.set_cons_succ]
                refine quiet_moveV rfl _ rfl (.int .i64 (a : Int)) rfl ?_
                simp only [Act.put, List.setIfInBounds_toArray, List.set_cons_zero, List.set_cons_succ]
                refine quiet_still rfl (.pointer (some ⟨b1, off1 + a * 3, none⟩)) (fun w _ => by go_simp) ?_
                simp only [Act.put, List.setIfInBounds_toArray, List.set_cons_zero, List.set_cons_succ]
                refine quiet_load_mid rfl _ _ rfl b1 (off1 + a * 3) rfl [.int .i64 y1.kd, .int .i64 y1.pl, .string y1.wd] _ (fun W h => range_below3 RGy1.out hb1x h) Try.underlying48 rfl (by kernel_rfl) ?_
                simp only [Act.put, List.setIfInBounds_toArray, List.set_cons_zero, List.set_cons_succ]
                refine quiet_still rfl (.pointer (some ⟨w.heap.size, 1, none⟩)) (fun w _ => by go_simp) ?_
                simp only [Act.put, List.setIfInBounds_toArray, List.set_cons_zero, List.set_cons_succ]
                refine quiet_load1 rfl _ _ rfl ⟨w.heap.size, 1, none⟩ rfl (.slice (some ⟨b1, off1, none⟩) s.ws.length uc) (load_ws _ _) (fun _ h => (h.cell (p := ⟨w.heap.size, 1, none⟩) hzx).trans g1) ?_
                simp only [Act.put, List.setIfInBounds_toArray, List.set_cons_zero, List.set_cons_succ]
                refine quiet_moveV rfl _ rfl (.int .i64 (i : Int)) rfl ?_
                simp only [Act.put, List.setIfInBounds_toArray, List.set_cons_zero, List.set_cons_succ]
                refine quiet_still rfl (.pointer (some ⟨b1, off1 + i * 3, none⟩)) (fun w _ => by go_simp) ?_
                simp only [Act.put, List.setIfInBounds_toArray, List.set_cons_zero, List.set_cons_succ]
                refine quiet_load_mid rfl _ _ rfl b1 (off1 + i * 3) rfl [.int .i64 y2.kd, .int .i64 y2.pl, .string y2.wd] _ (fun W h => range_below3 RGy2.out hb1x h) Try.underlying48 rfl (by kernel_rfl) ?_
                simp only [Act.put, List.setIfInBounds_toArray, List.set_cons_zero, List.set_cons_succ]
                refine quiet_call rfl 30 _ _ rfl (enter_of Try.func30 (by decide) (by intro h; cases h)) _ (fun W h => (CT.out W).mono fun e w' ⟨he, hw⟩ => ⟨he, h.trans (hw.mono h.size)⟩) ?_
                simp only [Act.put, List.setIfInBounds_toArray, List.set_cons_zero, List.set_cons_succ]
                refine quiet_moveV rfl _ rfl (.bool true) rfl ?_
                simp only [Act.put, List.setIfInBounds_toArray, List.set_cons_zero, List.set_cons_succ]
                refine quietW_moveV (by kernel_rfl) _ rfl (.slice (some ⟨w.heap.size + 1, 0, none⟩) os.length os.length) rfl ?_
                simp only [Act.put, List.setIfInBounds_toArray, List.set_cons_zero, List.set_cons_succ]
                refine quietW_moveV (by kernel_rfl) _ rfl (.int .i64 (a : Int)) rfl ?_
                simp only [Act.put, List.setIfInBounds_toArray, List.set_cons_zero, List.set_cons_succ]
                refine quietW_still (by kernel_rfl) (.pointer (some ⟨w.heap.size + 1, a, none⟩)) (fun w _ => by go_simp) ?_
                simp only [Act.put, List.setIfInBounds_toArray, List.set_cons_zero, List.set_cons_succ]
                refine quietW_load1 (by kernel_rfl) _ _ rfl ⟨w.heap.size + 1, a, none⟩ rfl (.bool true) (load_boolA _ _) (fun _ h => (h.cell (p := ⟨w.heap.size + 1, a, none⟩) hgb).trans gb) ?_
                simp only [Act.put, List.setIfInBounds_toArray, List.set_cons_zero, List.set_cons_succ]
                refine quietW_still (by kernel_rfl) (.bool false) (fun w _ => by go_simp) ?_
                simp only [Act.put, List.setIfInBounds_toArray, List.set_cons_zero, List.set_cons_succ]
                unfold wpQuiet
                intro wq hb
                clear g1 gb
                have HBQ := Lib.hid (HBX.out.trans (hb.mono HBX.out.size))
                clear hb
                go_wp2_with fail
                go_roundw
                case rel => exact ⟨a + 1, hai, by go_num, HNN.out, HBQ.out⟩
                case measure => (simp [intOf] <;> omega)
              · have hd' : doneS (os.take k) a = false := by simpa using hd
                rw [hd'] at gb
                have e : ob = false := HBADK.out (by rw [HGC.out]; exact List.all_eq_false.2 ⟨a, List.mem_range.2 hai, by rw [htc, hd']; decide⟩)
                subst e
                clear ht hd hd' htc
                go_wp2_with fail
                refine wp_region_class (fun w' => Below wx.heap.size wx w') 17 (by kernel_rfl) (by kernel_rfl) (Below.refl _ wx).drew ?_
                simp only [List.take_succ_cons, List.take_zero, List.drop_succ_cons, List.drop_zero]
                refine quiet_still rfl (.pointer (some ⟨w.heap.size, 1, none⟩)) (fun w _ => by go_simp) ?_
                simp only [Act.put, List.setIfInBounds_toArray, List.set_cons_zero, List.set_cons_succ]
                refine quiet_load1 rfl _ _ rfl ⟨w.heap.size, 1, none⟩ rfl (.slice (some ⟨b1, off1, none⟩) s.ws.length uc) (load_ws _ _) (fun _ h => (h.cell (p := ⟨w.heap.size, 1, none⟩) hzx).trans g1) ?_
                simp only [Act.put, List.setIfInBounds_toArray, List.set_cons_zero, List.set_cons_succ]
                refine quiet_moveV rfl _ rfl (.int .i64 (a : Int)) rfl ?_
                simp only [Act.put, List.setIfInBounds_toArray, List.set_cons_zero, List.set_cons_succ]
                refine quiet_still rfl (.pointer (some ⟨b1, off1 + a * 3, none⟩)) (fun w _ => by go_simp) ?_
                simp only [Act.put, List.setIfInBounds_toArray, List.set_cons_zero, List.set_cons_succ]
                refine quiet_load_mid rfl _ _ rfl b1 (off1 + a * 3) rfl [.int .i64 y1.kd, .int .i64 y1.pl, .string y1.wd] _ (fun W h => range_below3 RGy1.out hb1x h) Try.underlying48 rfl (by kernel_rfl) ?_
                simp only [Act.put, List.setIfInBounds_toArray, List.set_cons_zero, List.set_cons_succ]
                refine quiet_still rfl (.pointer (some ⟨w.heap.size, 1, none⟩)) (fun w _ => by go_simp) ?_
                simp only [Act.put, List.setIfInBounds_toArray, List.set_cons_zero, List.set_cons_succ]
                refine quiet_load1 rfl _ _ rfl ⟨w.heap.size, 1, none⟩ rfl (.slice (some ⟨b1, off1, none⟩) s.ws.length uc) (load_ws _ _) (fun _ h => (h.cell (p := ⟨w.heap.size, 1, none⟩) hzx).trans g1) ?_
                simp only [Act.put, List.setIfInBounds_toArray, List.set_cons_zero, List.set_cons_succ]
                refine quiet_moveV rfl _ rfl (.int .i64 (i : Int)) rfl ?_
                simp only [Act.put, List.setIfInBounds_toArray, List.set_cons_zero, List.set_cons_succ]
                refine quiet_still rfl (.pointer (some ⟨b1, off1 + i * 3, none⟩)) (fun w _ => by go_simp) ?_
                simp only [Act.put, List.setIfInBounds_toArray, List.set_cons_zero, List.set_cons_succ]
                refine quiet_load_mid rfl _ _ rfl b1 (off1 + i * 3) rfl [.int .i64 y2.kd, .int .i64 y2.pl, .string y2.wd] _ (fun W h => range_below3 RGy2.out hb1x h) Try.underlying48 rfl (by kernel_rfl) ?_
                simp only [Act.put, List.setIfInBounds_toArray, List.set_cons_zero, List.set_cons_succ]
                refine quiet_call rfl 30 _ _ rfl (enter_of Try.func30 (by decide) (by intro h; cases h)) _ (fun W h => (CT.out W).mono fun e w' ⟨he, hw⟩ => ⟨he, h.trans (hw.mono h.size)⟩) ?_
                simp only [Act.put, List.setIfInBounds_toArray, List.set_cons_zero, List.set_cons_succ]
                refine quiet_moveV rfl _ rfl (.bool true) rfl ?_
                simp only [Act.put, List.setIfInBounds_toArray, List.set_cons_zero, List.set_cons_succ]
                refine quietW_moveV (by kernel_rfl) _ rfl (.slice (some ⟨w.heap.size + 1, 0, none⟩) os.length os.length) rfl ?_
                simp only [Act.put, List.setIfInBounds_toArray, List.set_cons_zero, List.set_cons_succ]
                refine quietW_moveV (by kernel_rfl) _ rfl (.int .i64 (a : Int)) rfl ?_
                simp only [Act.put, List.setIfInBounds_toArray, List.set_cons_zero, List.set_cons_succ]
                refine quietW_still (by kernel_rfl) (.pointer (some ⟨w.heap.size + 1, a, none⟩)) (fun w _ => by go_simp) ?_
                simp only [Act.put, List.setIfInBounds_toArray, List.set_cons_zero, List.set_cons_succ]
                refine quietW_load1 (by kernel_rfl) _ _ rfl ⟨w.heap.size + 1, a, none⟩ rfl (.bool false) (load_boolA _ _) (fun _ h => (h.cell (p := ⟨w.heap.size + 1, a, none⟩) hgb).trans gb) ?_
                simp only [Act.put, List.setIfInBounds_toArray, List.set_cons_zero, List.set_cons_succ]
                refine quietW_still (by kernel_rfl) (.bool true) (fun w _ => by go_simp) ?_
                simp only [Act.put, List.setIfInBounds_toArray, List.set_cons_zero, List.set_cons_succ]
                unfold wpQuiet
                intro wq hb
                clear g1 gb
                have HBQ := Lib.hid (HB2.out.trans (hb.mono HB2.out.size))
                clear hb
                go_wp2_with fail
                go_ret
                exact ⟨rfl, HBQ.out⟩
            · have ht' : touchP y1 y2 = false := by simpa using ht
              rw [ht'] at CT htc
              have HNN := Lib.hid (show ∀ j, j < a + 1 → (!tchN s.ws j i || doneS (os.take k) j) = true from fun j hj => by
                by_cases e : j = a
                · rw [e, htc]; rfl
                · exact HNO.out j (by omega))
              clear ht ht' htc
              go_wp2_with fail
              refine wp_region_class (fun w' => Below wx.heap.size wx w') 17 (by kernel_rfl) (by kernel_rfl) (Below.refl _ wx).drew ?_
              simp only [List.take_succ_cons, List.take_zero, List.drop_succ_cons, List.drop_zero]
              refine quiet_still rfl (.pointer (some ⟨w.heap.size, 1, none⟩)) (fun w _ => by go_simp) ?_
              simp only [Act.put, List.setIfInBounds_toArray, List.set_cons_zero, List.set_cons_succ]
              refine quiet_load1 rfl _ _ rfl ⟨w.heap.size, 1, none⟩ rfl (.slice (some ⟨b1, off1, none⟩) s.ws.length uc) (load_ws _ _) (fun _ h => (h.cell (p := ⟨w.heap.size, 1, none⟩) hzx).trans g1) ?_
              simp only [Act.put, List.setIfInBounds_toArray, List.set_cons_zero, List.set_cons_succ]
              refine quiet_moveV rfl _ rfl (.int .i64 (a : Int)) rfl ?_
              simp only [Act.put, List.setIfInBounds_toArray, List.set_cons_zero, List.set_cons_succ]
              refine quiet_still rfl (.pointer (some ⟨b1, off1 + a * 3, none⟩)) (fun w _ => by go_simp) ?_
              simp only [Act.put, List.setIfInBounds_toArray, List.set_cons_zero, List.set_cons_succ]
              refine quiet_load_mid rfl _ _ rfl b1 (off1 + a * 3) rfl [.int .i64 y1.kd, .int .i64 y1.pl, .string y1.wd] _ (fun W h => range_below3 RGy1.out hb1x h) Try.underlying48 rfl (by kernel_rfl) ?_
              simp only [Act.put, List.setIfInBounds_toArray, List.set_cons_zero, List.set_cons_succ]
              refine quiet_still rfl (.pointer (some ⟨w.heap.size, 1, none⟩)) (fun w _ => by go_simp) ?_
              simp only [Act.put, List.setIfInBounds_toArray, List.set_cons_zero, List.set_cons_succ]
              refine quiet_load1 rfl _ _ rfl ⟨w.heap.size, 1, none⟩ rfl (.slice (some ⟨b1, off1, none⟩) s.ws.length uc) (load_ws _ _) (fun _ h => (h.cell (p := ⟨w.heap.size, 1, none⟩) hzx).trans g1) ?_
              simp only [Act.put, List.setIfInBounds_toArray, List.set_cons_zero, List.set_cons_succ]
              refine quiet_moveV rfl _ rfl (.int .i64 (i : Int)) rfl ?_
              simp only [Act.put, List.setIfInBounds_toArray, List.set_cons_zero, List.set_cons_succ]
              refine quiet_still rfl (.pointer (some ⟨b1, off1 + i * 3, none⟩)) (fun w _ => by go_simp) ?_
              simp only [Act.put, List.setIfInBounds_toArray, List.set_cons_zero, List.set_cons_succ]
              refine quiet_load_mid rfl _ _ rfl b1 (off1 + i * 3) rfl [.int .i64 y2.kd, .int .i64 y2.pl, .string y2.wd] _ (fun W h => range_below3 RGy2.out hb1x h) Try.underlying48 rfl (by kernel_rfl) ?_
              simp only [Act.put, List.setIfInBounds_toArray, List.set_cons_zero, List.set_cons_succ]
              refine quiet_call rfl 30 _ _ rfl (enter_of Try.func30 (by decide) (by intro h; cases h)) _ (fun W h => (CT.out W).mono fun e w' ⟨he, hw⟩ => ⟨he, h.trans (hw.mono h.size)⟩) ?_
              simp only [Act.put, List.setIfInBounds_toArray, List.set_cons_zero, List.set_cons_succ]
              refine quiet_moveV rfl _ rfl (.bool false) rfl ?_
              simp only [Act.put, List.setIfInBounds_toArray, List.set_cons_zero, List.set_cons_succ]
              refine quiet_skip (by kernel_rfl) ?_
              simp only [Act.put, List.setIfInBounds_toArray, List.set_cons_zero, List.set_cons_succ]
              refine quiet_skip (by kernel_rfl) ?_
              simp only [Act.put, List.setIfInBounds_toArray, List.set_cons_zero, List.set_cons_succ]
              refine quiet_skip (by kernel_rfl) ?_
              simp only [Act.put, List.setIfInBounds_toArray, List.set_cons_zero, List.set_cons_succ]
              refine quiet_skip (by kernel_rfl) ?_
              simp only [Act.put, List.setIfInBounds_toArray, List.set_cons_zero, List.set_cons_succ]
              refine quiet_skip (by kernel_rfl) ?_
              simp only [Act.put, List.setIfInBounds_toArray, List.set_cons_zero, List.set_cons_succ]
              unfold wpQuiet
              intro wq hb
              clear g1 gb
              have HBQ := Lib.hid (HBX.out.trans (hb.mono HBX.out.size))
              clear hb
              go_wp2_with fail
              go_roundw
              case rel => exact ⟨a + 1, hai, by go_num, HNN.out, HBQ.out⟩
              case measure => (simp [intOf] <;> omega)
          · have a0 : ¬ (a : Int) < (i : Int) := by omega
            have HGK := Lib.hid (show goodAt s.ws os k = true by
              rw [HGC.out, List.all_eq_true]
              intro j hj
              exact HNO.out j (by have := List.mem_range.1 hj; omega))
            have HGN := Lib.hid (show ∀ j, j < k + 1 → goodAt s.ws os j = true from fun j hj => by
              by_cases e : j = k
              · rw [e]; exact HGK.out
              · exact HG.out j (by omega))
            have hs := HO2.out.set i
            rw [doneS_snoc os k i HKZ.out] at hs
            have HS := Lib.hid hs
            have hL := HL.out
            have hgw : w.heap.size < w.heap.size + 1 := HZ1.out
            have HB3 := Lib.hid (HB2.out.setCell (p := ⟨w.heap.size + 1, i, none⟩) (Nat.le_of_lt hgw) (.bool true))
            have HX3 := Lib.hid ((show (wx.setCell ⟨w.heap.size + 1, i, none⟩ (.bool true)).heap[w.heap.size]? = wx.heap[w.heap.size]? from heap_setCell_other _ _ _ _ (by simp only []; omega)).trans HX2.out)
            have ci := HO2.out.cell HIL.out
            have fi := HO2.out.frozen i
            clear hs hx2 hL
            go_wp2_with fail
            go_roundw
            case rel => exact ⟨k + 1, hkl, by go_num, HGN.out, HS.out, HX3.out, HB3.out⟩
            case measure => (simp [intOf] <;> omega)
      · have j1 : ¬ (k : Int) < (os.length : Int) := by omega
        have e : ob = true := by
          rw [HOB.out, decide_eq_true HL.out, Bool.true_and, List.all_eq_true]
          intro j hj
          exact HG.out j (by have := List.mem_range.1 hj; omega)
        subst e
        go_wp2_with fail
        go_ret
        exact ⟨rfl, HB.out⟩
  · have hln : ((os.length : Int) != (s.ws.length : Int)) = true := by rw [bne_iff_ne]; omega
    have e : ob = false := by rw [HOB.out, decide_eq_false hl]; rfl
    subst e
    clear hl
    go_wp2_with fail
    go_ret
    exact ⟨rfl, b0⟩
end Go.Proofs.Ytenfeekchggioaa
