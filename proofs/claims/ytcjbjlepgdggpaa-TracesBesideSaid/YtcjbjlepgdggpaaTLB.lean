/- The levels of the program. -/
import Derived.Test.YtcjbjlepgdggpaaTLA
import Derived.Test.YtcjbjlepgdggpaaTL
namespace Go.Proofs.Ytcjbjlepgdggpaa
open Go.RowKit Go.Shelf Go.Lib
set_option maxRecDepth 100000
set_option linter.unusedSimpArgs false
attribute [local irreducible] wpQuiet
theorem iteMax (a b : Nat) : (if (a : Int) < (b : Int) + 1 then (b : Int) + 1 else (a : Int)) = ((max a (b + 1) : Nat) : Int) := by
  split <;> omega
theorem wrap1 (m : Nat) (h : m ≤ 2000) : IntKind.i64.wrap ((m : Int) + 1) = (m : Int) + 1 := by
  simp only [IntKind.wrap, IntKind.bits, IntKind.signed]
  simp
  omega
set_option maxHeartbeats 4000000 in
theorem Levels_any (s : Sh) (v : Value) (w : World) (hv : SV w v s) :
    Calls Try.prog 22 #[v] w fun e w' => ∃ lv, e = .returned (.tuple #[lv, .int .i64 (chkS s)]) ∧ IS w' lv (lvV s) ∧ Below w.heap.size w w' := by
  have HV := Lib.hid hv
  obtain ⟨u, rfl, hu⟩ := hv
  obtain ⟨ua, uc, rfl, k1, k2, _⟩ := id hu
  have CS := Lib.hid (fun W h => steps5_any s (.agg #[.int .i64 s.pr, .slice ua s.ws.length uc]) W h)
  have HST := Lib.hid (fun h => stepV_ok (s := s) h)
  have HNI := Lib.hid (fun h => niC_lv (s := s) h)
  have HLE := Lib.hid (fun h => lvV_len (s := s) h)
  have HNO := Lib.hid (fun h => lvV_no (s := s) h)
  have HSM := Lib.hid (@chk_small s)
  have HNIL := Lib.hid (fun (W : World) => is_nil W)
  generalize lvV s = lvs at *
  clear hu
  go_enter Try.func22, Try.ntmps22
  go_wp2_with fail
  have B0 := below_alloc w (.cells #[.int .i64 s.pr, .slice ua s.ws.length uc] 24)
  have h0 := heap_alloc_new w (.cells #[.int .i64 s.pr, .slice ua s.ws.length uc] 24)
  have hz0 : w.heap.size + 1 ≤ (w.alloc (.cells #[.int .i64 s.pr, .slice ua s.ws.length uc] 24)).heap.size := by simp
  generalize w.alloc (.cells #[.int .i64 s.pr, .slice ua s.ws.length uc] 24) = W0 at *
  refine (CS.out W0 (HV.out.below B0)).mono ?_
  rintro e w1 ⟨sv, rfl, hES, b1⟩
  have H0 := Lib.hid (hb_below b1 h0 (by omega))
  have HB1 := Lib.hid (bon B0 b1)
  have HE1 := Lib.hid hES
  have HZ1 := Lib.hid (show w.heap.size + 1 ≤ w1.heap.size by have := b1.size; omega)
  obtain ⟨ea, ec, rfl, _⟩ := id hES
  clear CS B0 h0 b1 hES hz0
  by_cases hchk : chkS s = 0
  · have HC := Lib.hid hchk
    rw [hchk]
    obtain ⟨p1, p2, psm⟩ := HSM.out hchk
    have hn4 := psm.1
    clear hchk psm
    have q1 : w1.cell? ⟨w.heap.size, 1, none⟩ = some (.slice ua s.ws.length uc) := cell_of_row w1 _ 1 _ _ _ H0.out
    have HES := Lib.hid (show ∀ e ∈ stepV s, ∃ a b : Nat, e.fr = (a : Int) ∧ e.to = (b : Int) ∧ a < b ∧ b < s.ws.length from fun e he => by
      rw [HST.out HC.out] at he
      obtain ⟨a, b, h1, h2, h3, h4, _⟩ := step_char he
      exact ⟨a, b, h1, h2, h3, h4⟩)
    have HLN := Lib.hid (Nat.le_trans (keep_len (edgesV s) (edgesV s).length) (edgesV_len s))
    rw [List.take_length] at HLN
    have HLN2 := Lib.hid (show (stepV s).length ≤ 2000 from HLN.out)
    have HNI2 := Lib.hid (HNI.out HC.out)
    have HLE2 := Lib.hid (HLE.out HC.out)
    have hmk := mk_intsN s.ws.length (by omega) w1
    obtain ⟨w2, hw2⟩ : ∃ w2, w2 = w1.alloc (.cells (madeCells #[.int .i64 0] s.ws.length) 3) := ⟨_, rfl⟩
    have B2 := below_alloc w1 (.cells (madeCells #[.int .i64 0] s.ws.length) 3)
    have o2 := no_made s.ws.length w1.heap.size (by omega) w1 (Nat.le_refl _)
    rw [← hw2] at hmk B2 o2
    have HO2 := Lib.hid o2
    have HB2 := Lib.hid B2
    have hz2 := o2.lt
    clear hw2 o2 B2 HLN HSM HNI HLE HNO HST
    go_wp2_with fail
    clear hmk q1
    go_loopw [8, 23] (fun _ i wr => ∃ k : Nat, k ≤ (stepV s).length ∧ i = .int .i64 (k : Int) ∧ NO w1.heap.size wr w1.heap.size s.ws.length (plv ((stepV s).take k)) ∧ Below w1.heap.size w1 wr) (fun _ i _ => (stepV s).length - (intOf i).toNat)
    case atStart => exact ⟨0, Nat.zero_le _, rfl, HO2.out, HB2.out⟩
    case round =>
      clear HO2 HB2
      obtain ⟨k, hk, rfl, hno, hbr⟩ := hrel
      rename World => wr
      have HNR := Lib.hid hno
      have HBR := Lib.hid hbr
      have hzr := hno.lt
      clear hno hbr
      by_cases hkl : k < (stepV s).length
      · have j0 : (0 : Int) ≤ (k : Int) := by omega
        have j1 : (k : Int) < ((stepV s).length : Int) := by omega
        obtain ⟨x, hx⟩ : ∃ x, (stepV s)[k]? = some x := ⟨_, List.getElem?_eq_getElem hkl⟩
        obtain ⟨a, b, ha, hb, hab, hbn⟩ := HES.out x (List.mem_of_getElem? hx)
        obtain ⟨eb, eo, rfl, heb, hr, _⟩ := es_get HE1.out hx
        have HR := Lib.hid (range_below3 hr heb HBR.out)
        have hnx : plv ((stepV s).take (k + 1)) = updN (plv ((stepV s).take k)) b (max (plv ((stepV s).take k) b) (plv ((stepV s).take k) a + 1)) := by
          rw [List.take_add_one, hx, Option.toList_some, plv_snoc, hb, ha, Int.toNat_natCast, Int.toNat_natCast]
        have HNX := Lib.hid hnx
        have hpl : ∀ i, plv ((stepV s).take k) i ≤ 2000 := fun i => Nat.le_trans (plv_le _ _ rfl i) (by rw [List.length_take]; have := HLN2.out; omega)
        have hla := hpl a
        have hlb := hpl b
        obtain ⟨xf, xo, xt, xi⟩ := x
        simp only at ha hb
        subst ha hb
        unfold Ed.cs at HR
        clear hx hr hnx hpl
        generalize plv ((stepV s).take k) = F at *
        go_upto_region 8 with (refine wpList_load_mid rfl 76 (.tmp 25) rfl eb (eo + k * 4) rfl [.int .i64 (a : Int), .int .i64 xo, .int .i64 (b : Int), .int .i64 xi] _ HR.out Try.underlying76 rfl infoEd4 ?_)
        have h7 := heap_alloc_new wr (.cells #[.int .i64 (a : Int), .int .i64 xo, .int .i64 (b : Int), .int .i64 xi] 76)
        have b7 := below_alloc wr (.cells #[.int .i64 (a : Int), .int .i64 xo, .int .i64 (b : Int), .int .i64 xi] 76)
        have z7 : wr.heap.size < (wr.alloc (.cells #[.int .i64 (a : Int), .int .i64 xo, .int .i64 (b : Int), .int .i64 xi] 76)).heap.size := by simp
        have HB7 := Lib.hid (HBR.out.trans (b7.mono (by omega)))
        have HN7 := Lib.hid (HNR.out.belowB b7 hzr)
        have H7 := Lib.hid h7
        generalize wr.alloc (.cells #[.int .i64 (a : Int), .int .i64 xo, .int .i64 (b : Int), .int .i64 xi] 76) = w7 at *
        clear h7 b7
        have i0 : (0 : Int) ≤ (b : Int) := by omega
        have i1 : (b : Int) < (s.ws.length : Int) := by omega
        have i2 : (0 : Int) ≤ (a : Int) := by omega
        have i3 : (a : Int) < (s.ws.length : Int) := by omega
        have han : a < s.ws.length := by omega
        have hg7 : w1.heap.size < w7.heap.size := by omega
        have HA7 := Lib.hid (HN7.out.cell han)
        have HC7 := Lib.hid (HN7.out.cell hbn)
        have hmx := iteMax (F b) (F a)
        have hwp := wrap1 (F a) hla
        refine wp_region_class (fun V => Below w7.heap.size w7 V) 16 (by kernel_rfl) (by kernel_rfl) (Below.refl _ w7).drew ?_
        simp only [List.take_succ_cons, List.take_zero, List.drop_succ_cons, List.drop_zero]
        refine quiet_moveV rfl _ rfl (.slice (some ⟨w1.heap.size, 0, none⟩) s.ws.length s.ws.length) rfl ?_
        simp only [Act.put, List.setIfInBounds_toArray, List.set_cons_zero, List.set_cons_succ]
        refine quiet_still rfl (.pointer (some ⟨wr.heap.size, 2, none⟩)) (fun w _ => by go_simp) ?_
        simp only [Act.put, List.setIfInBounds_toArray, List.set_cons_zero, List.set_cons_succ]
        refine quiet_load1 rfl _ _ rfl ⟨wr.heap.size, 2, none⟩ rfl (.int .i64 (b : Int)) (load_int _ _) (fun V h => cell_of_row V _ 2 _ _ _ (hb_below h H7.out (by omega))) ?_
        simp only [Act.put, List.setIfInBounds_toArray, List.set_cons_zero, List.set_cons_succ]
        refine quiet_moveV rfl _ rfl (.slice (some ⟨w1.heap.size, 0, none⟩) s.ws.length s.ws.length) rfl ?_
        simp only [Act.put, List.setIfInBounds_toArray, List.set_cons_zero, List.set_cons_succ]
        refine quiet_still rfl (.pointer (some ⟨wr.heap.size, 2, none⟩)) (fun w _ => by go_simp) ?_
        simp only [Act.put, List.setIfInBounds_toArray, List.set_cons_zero, List.set_cons_succ]
        refine quiet_load1 rfl _ _ rfl ⟨wr.heap.size, 2, none⟩ rfl (.int .i64 (b : Int)) (load_int _ _) (fun V h => cell_of_row V _ 2 _ _ _ (hb_below h H7.out (by omega))) ?_
        simp only [Act.put, List.setIfInBounds_toArray, List.set_cons_zero, List.set_cons_succ]
        refine quiet_still rfl (.pointer (some ⟨w1.heap.size, b, none⟩)) (fun w _ => by go_simp) ?_
        simp only [Act.put, List.setIfInBounds_toArray, List.set_cons_zero, List.set_cons_succ]
        refine quiet_load1 rfl _ _ rfl ⟨w1.heap.size, b, none⟩ rfl (.int .i64 (F b : Int)) (load_int _ _) (fun V h => (h.cell (p := ⟨w1.heap.size, b, none⟩) hg7).trans HC7.out) ?_
        simp only [Act.put, List.setIfInBounds_toArray, List.set_cons_zero, List.set_cons_succ]
        refine quiet_moveV rfl _ rfl (.slice (some ⟨w1.heap.size, 0, none⟩) s.ws.length s.ws.length) rfl ?_
        simp only [Act.put, List.setIfInBounds_toArray, List.set_cons_zero, List.set_cons_succ]
        refine quiet_still rfl (.pointer (some ⟨wr.heap.size, 0, none⟩)) (fun w _ => by go_simp) ?_
        simp only [Act.put, List.setIfInBounds_toArray, List.set_cons_zero, List.set_cons_succ]
        refine quiet_load1 rfl _ _ rfl ⟨wr.heap.size, 0, none⟩ rfl (.int .i64 (a : Int)) (load_int _ _) (fun V h => cell_of_row V _ 0 _ _ _ (hb_below h H7.out (by omega))) ?_
        simp only [Act.put, List.setIfInBounds_toArray, List.set_cons_zero, List.set_cons_succ]
        refine quiet_still rfl (.pointer (some ⟨w1.heap.size, a, none⟩)) (fun w _ => by go_simp) ?_
        simp only [Act.put, List.setIfInBounds_toArray, List.set_cons_zero, List.set_cons_succ]
        refine quiet_load1 rfl _ _ rfl ⟨w1.heap.size, a, none⟩ rfl (.int .i64 (F a : Int)) (load_int _ _) (fun V h => (h.cell (p := ⟨w1.heap.size, a, none⟩) hg7).trans HA7.out) ?_
        simp only [Act.put, List.setIfInBounds_toArray, List.set_cons_zero, List.set_cons_succ]
        refine quiet_still rfl (.int .i64 ((F a : Int) + 1)) (fun w _ => by have := hwp; go_simp; try exact hwp) ?_
        simp only [Act.put, List.setIfInBounds_toArray, List.set_cons_zero, List.set_cons_succ]
        refine quiet_still rfl (.int .i64 ((max (F b) (F a + 1) : Nat) : Int)) (fun w _ => by go_simp; try exact hmx) ?_
        simp only [Act.put, List.setIfInBounds_toArray, List.set_cons_zero, List.set_cons_succ]
        refine quiet_still rfl (.pointer (some ⟨w1.heap.size, b, none⟩)) (fun w _ => by go_simp) ?_
        simp only [Act.put, List.setIfInBounds_toArray, List.set_cons_zero, List.set_cons_succ]
        unfold wpQuiet
        intro V hV
        have hno := HN7.out.belowB hV (by omega)
        have c9 := hno.cell hbn
        have f9 := hno.frozen b
        have HS := Lib.hid (hno.set b (max (F b) (F a + 1)))
        rw [← HNX.out] at HS
        have HBS := Lib.hid ((HB7.out.trans (hV.mono (by omega))).setCell (p := ⟨w1.heap.size, b, none⟩) (Nat.le_refl _) (.int .i64 ((max (F b) (F a + 1) : Nat) : Int)))
        clear hV hno hmx hwp
        generalize max (F b) (F a + 1) = z at *
        have hl2 := HLN2.out
        go_wp2_with fail
        go_roundw
        case rel => exact ⟨k + 1, hkl, by go_num, HS.out, HBS.out⟩
        case measure => (simp [intOf] <;> omega)
      · have j1 : ¬ (k : Int) < ((stepV s).length : Int) := by omega
        have e : k = (stepV s).length := by omega
        subst e
        rw [List.take_length] at HNR
        have HIS := Lib.hid (is_own (by have h := HNR.out; unfold NO at h; rw [HNI2.out] at h; exact h) HLE2.out)
        have HBF := Lib.hid (HB1.out.trans (HBR.out.mono (by have := HZ1.out; omega)))
        go_wp2_with fail
        go_ret2
        exact ⟨_, by rw [HC.out]; rfl, HIS.out, HBF.out⟩
  · have hz : (chkS s == 0) = false := beq_eq_false_iff_ne.2 hchk
    have e := HNO.out hchk
    subst e
    go_wp2_with fail
    go_ret2
    exact ⟨_, rfl, HNIL.out _, HB1.out⟩
end Go.Proofs.Ytcjbjlepgdggpaa
