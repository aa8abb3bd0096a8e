/- The levels of the reference. -/
import Derived.Test.YtpgipepnnnocgaaTLB
import Derived.Test.YtpgipepnnnocgaaTT
namespace Go.Proofs.Ytpgipepnnnocgaa
open Go.RowKit Go.Shelf Go.Lib
set_option maxRecDepth 100000
set_option linter.unusedSimpArgs false
attribute [local irreducible] wpQuiet
theorem lv_le (W : List Wk) : ∀ m i, i < m → lv W i ≤ i
  | 0, i, h => by omega
  | m + 1, i, h => by
    rcases (lvOf_spec W i i (Nat.le_refl _)).2 with h0 | ⟨a, h1, _, h3⟩
    · unfold lv; omega
    · have := lv_le W m a (by omega)
      unfold lv at this ⊢
      rw [h3]
      unfold lv
      omega
theorem lvOf_le (W : List Wk) {k n : Nat} (h : n ≤ k) : lvOf W (lvL W k) k n ≤ n := by
  rcases (lvOf_spec W k n h).2 with h0 | ⟨a, h1, _, h3⟩
  · omega
  · have := lv_le W (a + 1) a (by omega)
    omega
theorem lvOf_step (W : List Wk) {k n : Nat} (h : n < k) : lvOf W (lvL W k) k (n + 1) = if tchN W n k = true then max (lvOf W (lvL W k) k n) (lv W n + 1) else lvOf W (lvL W k) k n := by rw [lvOf_next, lvL_getD W h]
theorem LI_get (W : List Wk) {k n : Nat} (h : n < k) : (LI (lvL W k))[n]? = some (lv W n : Int) := by
  unfold LI
  rw [List.getElem?_map, lvL_get _ _ _ h]
  rfl
set_option maxHeartbeats 4000000 in
theorem refLevels_any (s : Sh) (v : Value) (w : World) (hv : SV w v s) :
    Calls Try.prog 23 #[v] w fun e w' => ∃ lv, e = .returned (.tuple #[lv, .int .i64 (chkS s)]) ∧ IS w' lv (lvV s) ∧ Below w.heap.size w w' := by
  have HV := Lib.hid hv
  obtain ⟨u, rfl, hu⟩ := hv
  obtain ⟨ua, uc, rfl, k1, k2, _⟩ := id hu
  have HU := Lib.hid hu
  have CS := Lib.hid (fun W h => refCheck4_any s (.agg #[.int .i64 s.pr, .slice ua s.ws.length uc]) W h)
  have HOK := Lib.hid (fun h => lvV_ok (s := s) h)
  have HNO := Lib.hid (fun h => lvV_no (s := s) h)
  have HSM := Lib.hid (@chk_small s)
  have HNIL := Lib.hid (fun (W : World) => is_nil W)
  generalize lvV s = lvs at *
  generalize chkS s = z at *
  clear hu
  go_enter Try.func23, Try.ntmps23
  go_wp2_with fail
  have B0 := below_alloc w (.cells #[.int .i64 s.pr, .slice ua s.ws.length uc] 24)
  have h0 := heap_alloc_new w (.cells #[.int .i64 s.pr, .slice ua s.ws.length uc] 24)
  have hz0 : w.heap.size + 1 ≤ (w.alloc (.cells #[.int .i64 s.pr, .slice ua s.ws.length uc] 24)).heap.size := by simp
  generalize w.alloc (.cells #[.int .i64 s.pr, .slice ua s.ws.length uc] 24) = W0 at *
  refine (CS.out W0 (HV.out.below B0)).mono ?_
  rintro e w1 ⟨rfl, b1⟩
  have H0 := Lib.hid (hb_below b1 h0 (by omega))
  have HB1 := Lib.hid (bon B0 b1)
  have hz1 : w.heap.size + 1 ≤ w1.heap.size := by have := b1.size; omega
  clear CS B0 h0 b1 hz0
  by_cases hz : z = 0
  · subst hz
    obtain ⟨p1, p2, psm⟩ := HSM.out rfl
    have hn4 := psm.1
    have HM := Lib.hid psm
    have HOK2 := Lib.hid (HOK.out rfl)
    clear psm HSM HOK HNO
    have ca1 : w1.cell? ⟨w.heap.size, 1, none⟩ = some (.slice ua s.ws.length uc) := cell_of_row w1 _ 1 _ _ _ H0.out
    go_wp2_with fail
    clear ca1
    go_loopw [5, 6, 7, 8] (fun ov iv _ _ wr => ∃ k : Nat, k ≤ s.ws.length ∧ iv = .int .i64 (k : Int) ∧ wr.ownsRow w1.heap.size 3 1 ov (LI (lvL s.ws k)).length ((LI (lvL s.ws k)).map (Value.int .i64)) ∧ Below w1.heap.size w1 wr) (fun _ iv _ _ _ => s.ws.length - (intOf iv).toNat)
    case atStart => exact ⟨0, Nat.zero_le _, rfl, ⟨rfl, .inl ⟨rfl, rfl⟩⟩, Below.refl _ _⟩
    case round =>
      obtain ⟨i, hi, rfl, how, hbr⟩ := hrel
      rename World => wr
      have HOW := Lib.hid how
      have HBR := Lib.hid hbr
      have hzr := hbr.size
      obtain ⟨oa, oc, rfl⟩ := own_form how
      have H0R := Lib.hid (hb_below hbr H0.out (by omega))
      have ca1 : wr.cell? ⟨w.heap.size, 1, none⟩ = some (.slice ua s.ws.length uc) := cell_of_row wr _ 1 _ _ _ H0R.out
      clear how hbr
      by_cases hil : i < s.ws.length
      · have j0 : (0 : Int) ≤ (i : Int) := by omega
        have j1 : (i : Int) < (s.ws.length : Int) := by omega
        obtain ⟨x, hx⟩ : ∃ x, s.ws[i]? = some x := ⟨_, List.getElem?_eq_getElem hil⟩
        have HX := Lib.hid hx
        clear hx
        go_wp2_with fail
        clear ca1
        go_loopw [7, 8] (fun lvv kv wq => ∃ k : Nat, k ≤ i ∧ kv = .int .i64 (k : Int) ∧ lvv = .int .i64 (lvOf s.ws (lvL s.ws i) i k : Int) ∧ Below wr.heap.size wr wq) (fun _ kv _ => i - (intOf kv).toNat)
        case atStart => exact ⟨0, Nat.zero_le _, rfl, rfl, Below.refl _ _⟩
        case round =>
          obtain ⟨k, hk, rfl, rfl, hbq⟩ := hrel
          rename World => wq
          have HBQ := Lib.hid hbq
          have hzq := hbq.size
          have HOQ := Lib.hid (own_below HOW.out hbq)
          clear hbq
          by_cases hki : k < i
          · have j2 : (k : Int) < (i : Int) := by omega
            have j3 : (0 : Int) ≤ (k : Int) := by omega
            have j4 : (k : Int) < (s.ws.length : Int) := by omega
            have j5 : (k : Int) < ((LI (lvL s.ws i)).length : Int) := by rw [LI_len, lvL_len]; omega
            obtain ⟨y, hy⟩ : ∃ y, s.ws[k]? = some y := ⟨_, List.getElem?_eq_getElem (by omega)⟩
            have hbq' : Below w.heap.size w wq := HB1.out.trans (HBR.out.mono (by omega) |>.trans (HBQ.out.mono (by omega)))
            have hUR := HU.out.below hbq'
            obtain ⟨ub, uo, rfl, hub, hyr⟩ := ws_get hUR hy
            obtain ⟨_, _, e, _, hxr⟩ := ws_get hUR HX.out
            cases e
            have HYR := Lib.hid hyr
            have HXR := Lib.hid hxr
            have hw0 : w.heap.size < wq.heap.size := by omega
            have HS1 := Lib.hid (cell_of_row wq w.heap.size 1 _ _ _ (hb_below HBQ.out H0R.out (by omega)))
            have CT := Lib.hid (fun V => refTouch_any y x V (HM.out.2 y (List.mem_of_getElem? hy)) (HM.out.2 x (List.mem_of_getElem? HX.out)))
            have HTV := Lib.hid (show touchP y x = tchN s.ws k i by unfold tchN; rw [wkN_get hy, wkN_get HX.out])
            rw [HTV.out] at CT
            unfold Wk.val at CT
            have HLN := Lib.hid (lvOf_step s.ws hki)
            have hIS := is_own HOQ.out rfl
            obtain ⟨_, _, e, _, _, _, hat⟩ := hIS
            cases e
            obtain ⟨ob, oo, rfl, hob, hoc⟩ := hat k _ (LI_get s.ws hki)
            have HOC := Lib.hid hoc
            have hl1 := lvOf_le s.ws hk
            have hl2 := lv_le s.ws (k + 1) k (by omega)
            clear hbq' hUR hyr hxr hy hat hoc
            have hlo : (0 : Int) ≤ (lvOf s.ws (lvL s.ws i) i k : Int) := by omega
            go_wp2_with fail
            cases hT : tchN s.ws k i
            · rw [hT] at CT
              rw [hT, if_neg (by simp)] at HLN
              refine wp_region_class (fun w' => Below wq.heap.size wq w') 10 (by kernel_rfl) (by kernel_rfl) (Below.refl _ wq).drew ?_
              simp only [List.take_succ_cons, List.take_zero, List.drop_succ_cons, List.drop_zero]
              refine quiet_still rfl (.pointer (some ⟨w.heap.size, 1, none⟩)) (fun w _ => by go_simp) ?_
              simp only [Act.put, List.setIfInBounds_toArray, List.set_cons_zero, List.set_cons_succ]
              refine quiet_load1 rfl _ _ rfl ⟨w.heap.size, 1, none⟩ rfl (.slice (some ⟨ub, uo, none⟩) s.ws.length uc) (load_ws _ _) (fun _ h => (h.cell (p := ⟨w.heap.size, 1, none⟩) hw0).trans HS1.out) ?_
              simp only [Act.put, List.setIfInBounds_toArray, List.set_cons_zero, List.set_cons_succ]
              refine quiet_moveV rfl _ rfl (.int .i64 (k : Int)) rfl ?_
              simp only [Act.put, List.setIfInBounds_toArray, List.set_cons_zero, List.set_cons_succ]
              refine quiet_still rfl (.pointer (some ⟨ub, uo + k * 3, none⟩)) (fun w _ => by go_simp) ?_
              simp only [Act.put, List.setIfInBounds_toArray, List.set_cons_zero, List.set_cons_succ]
              refine quiet_load_mid rfl _ _ rfl ub (uo + k * 3) rfl [.int .i64 y.kd, .int .i64 y.pl, .string y.wd] _ (fun V h => range_below3 HYR.out hub h) Try.underlying51 rfl (by kernel_rfl) ?_
              simp only [Act.put, List.setIfInBounds_toArray, List.set_cons_zero, List.set_cons_succ]
              refine quiet_still rfl (.pointer (some ⟨w.heap.size, 1, none⟩)) (fun w _ => by go_simp) ?_
              simp only [Act.put, List.setIfInBounds_toArray, List.set_cons_zero, List.set_cons_succ]
              refine quiet_load1 rfl _ _ rfl ⟨w.heap.size, 1, none⟩ rfl (.slice (some ⟨ub, uo, none⟩) s.ws.length uc) (load_ws _ _) (fun _ h => (h.cell (p := ⟨w.heap.size, 1, none⟩) hw0).trans HS1.out) ?_
              simp only [Act.put, List.setIfInBounds_toArray, List.set_cons_zero, List.set_cons_succ]
              refine quiet_moveV rfl _ rfl (.int .i64 (i : Int)) rfl ?_
              simp only [Act.put, List.setIfInBounds_toArray, List.set_cons_zero, List.set_cons_succ]
              refine quiet_still rfl (.pointer (some ⟨ub, uo + i * 3, none⟩)) (fun w _ => by go_simp) ?_
              simp only [Act.put, List.setIfInBounds_toArray, List.set_cons_zero, List.set_cons_succ]
              refine quiet_load_mid rfl _ _ rfl ub (uo + i * 3) rfl [.int .i64 x.kd, .int .i64 x.pl, .string x.wd] _ (fun V h => range_below3 HXR.out hub h) Try.underlying51 rfl (by kernel_rfl) ?_
              simp only [Act.put, List.setIfInBounds_toArray, List.set_cons_zero, List.set_cons_succ]
              unfold wpQuiet
              intro wa hba
              have HBA2 := Lib.hid hba
              clear hba
              go_wp2_with fail
              refine (CT.out wa).mono ?_
              rintro e w2 ⟨rfl, hbb⟩
              have HB2 := Lib.hid (HBQ.out.trans ((HBA2.out.trans (hbb.mono HBA2.out.size)).mono (by omega)))
              clear hbb
              go_wp2_with fail
              go_roundw
              case rel => exact ⟨k + 1, by omega, by go_num, by rw [HLN.out], HB2.out⟩
              case measure => (simp [intOf] <;> omega)
            · rw [hT] at CT
              rw [hT, if_pos rfl] at HLN
              refine wp_region_class (fun w' => Below wq.heap.size wq w') 10 (by kernel_rfl) (by kernel_rfl) (Below.refl _ wq).drew ?_
              simp only [List.take_succ_cons, List.take_zero, List.drop_succ_cons, List.drop_zero]
              refine quiet_still rfl (.pointer (some ⟨w.heap.size, 1, none⟩)) (fun w _ => by go_simp) ?_
              simp only [Act.put, List.setIfInBounds_toArray, List.set_cons_zero, List.set_cons_succ]
              refine quiet_load1 rfl _ _ rfl ⟨w.heap.size, 1, none⟩ rfl (.slice (some ⟨ub, uo, none⟩) s.ws.length uc) (load_ws _ _) (fun _ h => (h.cell (p := ⟨w.heap.size, 1, none⟩) hw0).trans HS1.out) ?_
              simp only [Act.put, List.setIfInBounds_toArray, List.set_cons_zero, List.set_cons_succ]
              refine quiet_moveV rfl _ rfl (.int .i64 (k : Int)) rfl ?_
              simp only [Act.put, List.setIfInBounds_toArray, List.set_cons_zero, List.set_cons_succ]
              refine quiet_still rfl (.pointer (some ⟨ub, uo + k * 3, none⟩)) (fun w _ => by go_simp) ?_
              simp only [Act.put, List.setIfInBounds_toArray, List.set_cons_zero, List.set_cons_succ]
              refine quiet_load_mid rfl _ _ rfl ub (uo + k * 3) rfl [.int .i64 y.kd, .int .i64 y.pl, .string y.wd] _ (fun V h => range_below3 HYR.out hub h) Try.underlying51 rfl (by kernel_rfl) ?_
              simp only [Act.put, List.setIfInBounds_toArray, List.set_cons_zero, List.set_cons_succ]
              refine quiet_still rfl (.pointer (some ⟨w.heap.size, 1, none⟩)) (fun w _ => by go_simp) ?_
              simp only [Act.put, List.setIfInBounds_toArray, List.set_cons_zero, List.set_cons_succ]
              refine quiet_load1 rfl _ _ rfl ⟨w.heap.size, 1, none⟩ rfl (.slice (some ⟨ub, uo, none⟩) s.ws.length uc) (load_ws _ _) (fun _ h => (h.cell (p := ⟨w.heap.size, 1, none⟩) hw0).trans HS1.out) ?_
              simp only [Act.put, List.setIfInBounds_toArray, List.set_cons_zero, List.set_cons_succ]
              refine quiet_moveV rfl _ rfl (.int .i64 (i : Int)) rfl ?_
              simp only [Act.put, List.setIfInBounds_toArray, List.set_cons_zero, List.set_cons_succ]
              refine quiet_still rfl (.pointer (some ⟨ub, uo + i * 3, none⟩)) (fun w _ => by go_simp) ?_
              simp only [Act.put, List.setIfInBounds_toArray, List.set_cons_zero, List.set_cons_succ]
              refine quiet_load_mid rfl _ _ rfl ub (uo + i * 3) rfl [.int .i64 x.kd, .int .i64 x.pl, .string x.wd] _ (fun V h => range_below3 HXR.out hub h) Try.underlying51 rfl (by kernel_rfl) ?_
              simp only [Act.put, List.setIfInBounds_toArray, List.set_cons_zero, List.set_cons_succ]
              unfold wpQuiet
              intro wa hba
              have HBA2 := Lib.hid hba
              clear hba
              go_wp2_with fail
              refine (CT.out wa).mono ?_
              rintro e w2 ⟨rfl, hbb⟩
              have hb := HBA2.out.trans (hbb.mono HBA2.out.size)
              have HB2 := Lib.hid (HBQ.out.trans (hb.mono (by omega)))
              clear hbb
              have hc2 : w2.cell? ⟨ob, oo + k, none⟩ = some (.int .i64 (lv s.ws k : Int)) := (hb.cell (p := ⟨ob, oo + k, none⟩) hob).trans HOC.out
              have hmx := iteMax (lvOf s.ws (lvL s.ws i) i k) (lv s.ws k)
              have hwp := wrap1 (lv s.ws k) (by omega)
              clear hb
              generalize lvOf s.ws (lvL s.ws i) i k = p at *
              generalize lv s.ws k = q at *
              go_wp2_with fail
              go_roundw
              case rel => exact ⟨k + 1, by omega, by go_num, by rw [HLN.out], HB2.out⟩
              case measure => (simp [intOf] <;> omega)
          · have j2 : ¬ (k : Int) < (i : Int) := by omega
            have e : k = i := by omega
            subst e
            have HLL := Lib.hid (show (LI (lvL s.ws k)).length < 100000 by rw [LI_len, lvL_len]; omega)
            have hzw : w1.heap.size ≤ wq.heap.size := by omega
            have HLS := Lib.hid (show LI (lvL s.ws (k + 1)) = LI (lvL s.ws k) ++ [((lvOf s.ws (lvL s.ws k) k k : Nat) : Int)] by rw [lvL, LI_snoc])
            generalize lvOf s.ws (lvL s.ws k) k k = p at *
            go_wp2_with (at_builtin; refine app_one (w0 := wq) w1.heap.size _ (LI (lvL s.ws k)) (p : Int) rfl _ _ rfl rfl HOQ.out rfl HLL.out (Below.refl _ _) hzw ?_; intro g1 cap1 wA hown1 hb1)
            have HOA := Lib.hid hown1
            have HBA := Lib.hid ((HBR.out.trans (HBQ.out.mono hzr)).trans hb1)
            clear hown1 hb1
            go_wp2_with fail
            go_roundw
            case rel => exact ⟨k + 1, hil, by go_num, by rw [HLS.out, List.length_append]; exact HOA.out, HBA.out⟩
            case measure => (simp [intOf] <;> omega)
      · have j1 : ¬ (i : Int) < (s.ws.length : Int) := by omega
        have e : i = s.ws.length := by omega
        subst e
        have HIS := Lib.hid (is_own HOW.out rfl)
        have HBF := Lib.hid (HB1.out.trans (HBR.out.mono (by omega)))
        go_wp2_with fail
        go_ret2
        exact ⟨_, rfl, by rw [HOK2.out]; exact HIS.out, HBF.out⟩
  · have hz' : (z == 0) = false := beq_eq_false_iff_ne.2 hz
    have e := HNO.out hz
    subst e
    go_wp2_with fail
    go_ret2
    exact ⟨_, rfl, HNIL.out _, HB1.out⟩
end Go.Proofs.Ytpgipepnnnocgaa
