/- The law of orders. -/
import Derived.Test.YtokaeiilhfbeoaaOS
import Derived.Test.YtokaeiilhfbeoaaOL
namespace Go.Proofs.Ytokaeiilhfbeoaa
open Go.RowKit Go.Shelf
set_option linter.unusedSimpArgs false
attribute [local irreducible] wpQuiet
theorem ws_get {w : World} {a : Option Addr} {n c k : Nat} {W : List Wk} {x : Wk} (h : WS w (.slice a n c) W) (hx : W[k]? = some x) : ∃ b off, a = some ⟨b, off, none⟩ ∧ b < w.heap.size ∧ w.rangeAt b (off + k * 3) [.int .i64 x.kd, .int .i64 x.pl, .string x.wd] := by
  obtain ⟨a', c', e, _, _, hg⟩ := h
  cases e
  obtain ⟨b, off, e2, hb, hr, _⟩ := hg k x hx
  exact ⟨b, off, e2, hb, hr⟩
set_option maxRecDepth 100000 in
set_option maxHeartbeats 8000000 in
theorem same4_yes (s : Sh) (u v : Value) (w : World) (hu : SV w u s) (hv : SV w v s) (hl : s.ws.length ≤ 1000) : Calls Try.prog 28 #[u, v] w fun e w' => e = .returned (.bool true) ∧ Below w.heap.size w w' := by
  obtain ⟨u, rfl, hu⟩ := hu
  obtain ⟨v, rfl, hv⟩ := hv
  have HU := Lib.hid hu
  have HV := Lib.hid hv
  obtain ⟨a1, c1, rfl, _⟩ := hu
  obtain ⟨a2, c2, rfl, _⟩ := hv
  go_enter Try.func28, Try.ntmps28
  go_wp2_with fail
  have h0 := heap_alloc2_old w (.cells #[.int .i64 s.pr, .slice a1 s.ws.length c1] 24) (.cells #[.int .i64 s.pr, .slice a2 s.ws.length c2] 24)
  have h1 := heap_alloc2_new w (.cells #[.int .i64 s.pr, .slice a1 s.ws.length c1] 24) (.cells #[.int .i64 s.pr, .slice a2 s.ws.length c2] 24)
  have hD := (below_alloc w (.cells #[.int .i64 s.pr, .slice a1 s.ws.length c1] 24)).alloc (show w.heap.size ≤ (w.alloc (.cells #[.int .i64 s.pr, .slice a1 s.ws.length c1] 24)).heap.size by simp) (.cells #[.int .i64 s.pr, .slice a2 s.ws.length c2] 24)
  have hS : ((w.alloc (.cells #[.int .i64 s.pr, .slice a1 s.ws.length c1] 24)).alloc (.cells #[.int .i64 s.pr, .slice a2 s.ws.length c2] 24)).heap.size = w.heap.size + 2 := by simp
  have HU2 := Lib.hid (HU.out.below hD)
  have HV2 := Lib.hid (HV.out.below hD)
  generalize (w.alloc (.cells #[.int .i64 s.pr, .slice a1 s.ws.length c1] 24)).alloc (.cells #[.int .i64 s.pr, .slice a2 s.ws.length c2] 24) = wa at *
  have HS := Lib.hid hS
  have H0 := Lib.hid h0
  have H1 := Lib.hid h1
  have DD := Lib.hid hD
  clear h0 h1 hD hS HU HV
  go_loopw [5] (fun i wr => ∃ k : Nat, k ≤ s.ws.length ∧ i = .int .i64 (k : Int) ∧ Below wa.heap.size wa wr) (fun i _ => s.ws.length - (intOf i).toNat)
  case atStart => exact ⟨0, Nat.zero_le _, rfl, Below.refl _ _⟩
  case round =>
    obtain ⟨k, hk, rfl, hbw⟩ := hrel
    rename World => wk
    have HB := Lib.hid hbw
    have hzz := hbw.size
    have HZ := Lib.hid hzz
    have hz2 : w.heap.size + 2 ≤ wk.heap.size := by have := HS.out; omega
    have HX0 := Lib.hid (hb_below HB.out H0.out (by have := HS.out; omega))
    have HX1 := Lib.hid (hb_below HB.out H1.out (by have := HS.out; omega))
    clear hbw
    have g0 : wk.cell? ⟨w.heap.size, 1, none⟩ = some (.slice a1 s.ws.length c1) := cell_of_row wk _ 1 _ _ _ HX0.out
    have g1 : wk.cell? ⟨w.heap.size + 1, 1, none⟩ = some (.slice a2 s.ws.length c2) := cell_of_row wk _ 1 _ _ _ HX1.out
    have l0 : w.heap.size < wk.heap.size := by omega
    have l1 : w.heap.size + 1 < wk.heap.size := by omega
    by_cases hkl : k < s.ws.length
    · have k0 : (0 : Int) ≤ (k : Int) := by omega
      have k1 : (k : Int) < (s.ws.length : Int) := by omega
      obtain ⟨x, hx⟩ : ∃ x, s.ws[k]? = some x := ⟨_, List.getElem?_eq_getElem hkl⟩
      obtain ⟨b1, o1, rfl, hb1, hr1⟩ := ws_get (HU2.out.below HB.out) hx
      obtain ⟨b2, o2, rfl, hb2, hr2⟩ := ws_get (HV2.out.below HB.out) hx
      have HR1 := Lib.hid hr1
      have HR2 := Lib.hid hr2
      clear hr1 hr2 hx
      go_wp2_with fail
      refine wp_region_class (fun w' => Below wk.heap.size wk w') 10 (by kernel_rfl) (by kernel_rfl) (Below.refl _ wk).drew ?_
      simp only [List.take_succ_cons, List.take_zero, List.drop_succ_cons, List.drop_zero]
      refine quiet_still rfl (.pointer (some ⟨w.heap.size, 1, none⟩)) (fun w _ => by go_simp) ?_
      simp only [Act.put, List.setIfInBounds_toArray, List.set_cons_zero, List.set_cons_succ]
      refine quiet_load1 rfl _ _ rfl ⟨w.heap.size, 1, none⟩ rfl (.slice (some ⟨b1, o1, none⟩) s.ws.length c1) (load_ws _ _) (fun _ h => (h.cell (p := ⟨w.heap.size, 1, none⟩) l0).trans g0) ?_
      simp only [Act.put, List.setIfInBounds_toArray, List.set_cons_zero, List.set_cons_succ]
      refine quiet_moveV rfl _ rfl (.int .i64 (k : Int)) rfl ?_
      simp only [Act.put, List.setIfInBounds_toArray, List.set_cons_zero, List.set_cons_succ]
      refine quiet_still rfl (.pointer (some ⟨b1, o1 + k * 3, none⟩)) (fun w _ => by go_simp) ?_
      simp only [Act.put, List.setIfInBounds_toArray, List.set_cons_zero, List.set_cons_succ]
      refine quiet_load_mid rfl _ _ rfl b1 (o1 + k * 3) rfl [.int .i64 x.kd, .int .i64 x.pl, .string x.wd] _ (fun W h => range_below3 HR1.out hb1 h) Try.underlying48 rfl (by kernel_rfl) ?_
      simp only [Act.put, List.setIfInBounds_toArray, List.set_cons_zero, List.set_cons_succ]
      refine quiet_still rfl (.pointer (some ⟨w.heap.size + 1, 1, none⟩)) (fun w _ => by go_simp) ?_
      simp only [Act.put, List.setIfInBounds_toArray, List.set_cons_zero, List.set_cons_succ]
      refine quiet_load1 rfl _ _ rfl ⟨w.heap.size + 1, 1, none⟩ rfl (.slice (some ⟨b2, o2, none⟩) s.ws.length c2) (load_ws _ _) (fun _ h => (h.cell (p := ⟨w.heap.size + 1, 1, none⟩) l1).trans g1) ?_
      simp only [Act.put, List.setIfInBounds_toArray, List.set_cons_zero, List.set_cons_succ]
      refine quiet_moveV rfl _ rfl (.int .i64 (k : Int)) rfl ?_
      simp only [Act.put, List.setIfInBounds_toArray, List.set_cons_zero, List.set_cons_succ]
      refine quiet_still rfl (.pointer (some ⟨b2, o2 + k * 3, none⟩)) (fun w _ => by go_simp) ?_
      simp only [Act.put, List.setIfInBounds_toArray, List.set_cons_zero, List.set_cons_succ]
      refine quiet_load_mid rfl _ _ rfl b2 (o2 + k * 3) rfl [.int .i64 x.kd, .int .i64 x.pl, .string x.wd] _ (fun W h => range_below3 HR2.out hb2 h) Try.underlying48 rfl (by kernel_rfl) ?_
      simp only [Act.put, List.setIfInBounds_toArray, List.set_cons_zero, List.set_cons_succ]
      unfold wpQuiet
      intro wq hb
      have HBQ := Lib.hid (HB.out.trans (hb.mono HZ.out))
      clear g0 g1 hb
      go_wp2_with fail
      go_roundw
      case rel => exact ⟨k + 1, hkl, by go_num, HBQ.out⟩
      case measure => (simp [intOf] <;> omega)
    · have k1 : ¬ (k : Int) < (s.ws.length : Int) := by omega
      go_wp2_with fail
      go_ret
      exact ⟨rfl, DD.out.trans (HB.out.mono DD.out.size)⟩
theorem reoL_len (W : List Wk) (os : List Int) : (reoL W os).length = os.length := by unfold reoL; rw [List.length_map]
theorem reoS_len (s : Sh) (os : List Int) : (reoS s os).ws.length ≤ 400 := by
  by_cases hq : reoE s os = 0
  · have e : reoS s os = ⟨s.pr, reoL s.ws os⟩ := by unfold reoS; rw [if_pos hq]
    rw [e]
    unfold reoE at hq
    by_cases hc : chkS s = 0
    · rw [if_neg (by simp [hc])] at hq
      by_cases ho : ordB s.pr.toNat s.ws os = true
      · obtain ⟨_, _, h3⟩ := chk_small hc
        show (reoL s.ws os).length ≤ 400
        rw [reoL_len, (ordB_in ho).1]
        exact h3.1
      · rw [if_neg ho] at hq
        cases hq
    · rw [if_pos hc] at hq
      exact absurd hq hc
  · have e : reoS s os = ⟨0, []⟩ := by unfold reoS; rw [if_neg hq]
    rw [e]
    exact Nat.zero_le _
set_option maxRecDepth 100000 in
set_option maxHeartbeats 8000000 in
theorem orders_row (s : Sh) (os : List Int) (v dv : Value) (w : World) (hv : SV w v s) (_ : (Lit.int .i64 s.pr).wf = true) (hd : IS w dv os) (_ : ∀ z ∈ os, -9223372036854775808 ≤ z ∧ z ≤ 9223372036854775807) : Calls Try.prog 6 #[v, dv] w fun e w' => e = .returned (.bool true) ∧ Below w.heap.size w w' := by
  have HV := Lib.hid hv
  have HD := Lib.hid hd
  obtain ⟨u, rfl, hu⟩ := hv
  obtain ⟨ua, uc, rfl, _⟩ := id hu
  obtain ⟨sa, sc, rfl, q1, q2, _⟩ := hd
  have CF := Lib.hid (fun W h => Far_any s (.agg #[.int .i64 s.pr, .slice ua s.ws.length uc]) W h)
  have CS := Lib.hid (fun W => shown_any W)
  clear hu
  go_enter Try.func6, Try.ntmps6
  go_wp2_with fail
  have h0 := heap_alloc_new w (.cells #[.int .i64 s.pr, .slice ua s.ws.length uc] 24)
  have b0 := below_alloc w (.cells #[.int .i64 s.pr, .slice ua s.ws.length uc] 24)
  have z0 : (w.alloc (.cells #[.int .i64 s.pr, .slice ua s.ws.length uc] 24)).heap.size = w.heap.size + 1 := by simp
  generalize w.alloc (.cells #[.int .i64 s.pr, .slice ua s.ws.length uc] 24) = w0 at *
  refine (CF.out w0 (HV.out.below b0)).mono ?_
  rintro e w1 ⟨rfl, b1⟩
  have H1 := Lib.hid ((b1.block _ (by omega)).trans h0)
  have HB1 := Lib.hid (bon b0 b1)
  have HZ1 := Lib.hid (show w.heap.size + 1 ≤ w1.heap.size by have := b1.size; omega)
  clear h0 b0 z0 b1 CF
  by_cases hf : farB s = true
  · rw [hf]
    clear hf
    go_wp2_with fail
    refine (CS.out _).mono ?_
    rintro e w2 ⟨rfl, b2⟩
    have HB2 := Lib.hid (bon HB1.out b2)
    clear b2
    go_wp2_with fail
    go_ret
    exact ⟨rfl, HB2.out⟩
  have hf' : farB s = false := by simpa using hf
  rw [hf']
  clear hf hf'
  by_cases hl : 2000 < os.length
  · have l1 : (2000 : Int) < (os.length : Int) := by omega
    clear hl
    go_wp2_with fail
    refine (CS.out _).mono ?_
    rintro e w2 ⟨rfl, b2⟩
    have HB2 := Lib.hid (bon HB1.out b2)
    clear b2
    go_wp2_with fail
    go_ret
    exact ⟨rfl, HB2.out⟩
  have l1 : ¬ (2000 : Int) < (os.length : Int) := by omega
  have CR := Lib.hid (fun W h1 h2 => Reorder_any s (.agg #[.int .i64 s.pr, .slice ua s.ws.length uc]) os (.slice sa os.length sc) W h1 h2 (by omega))
  have CQ := Lib.hid (fun W h1 h2 => refReorder_any s (.agg #[.int .i64 s.pr, .slice ua s.ws.length uc]) os (.slice sa os.length sc) W h1 h2 (by omega))
  have HLN := Lib.hid (reoS_len s os)
  generalize reoS s os = rs at *
  generalize reoE s os = re at *
  clear hl
  have g0 : w1.cell? ⟨w.heap.size, 0, none⟩ = some (.int .i64 s.pr) := cell_of_row w1 _ 0 _ _ _ H1.out
  have g1 : w1.cell? ⟨w.heap.size, 1, none⟩ = some (.slice ua s.ws.length uc) := cell_of_row w1 _ 1 _ _ _ H1.out
  go_wp2_with fail
  refine (CR.out w1 (HV.out.below HB1.out) (HD.out.below HB1.out)).mono ?_
  rintro e w2 ⟨u2, rfl, hs2, b2⟩
  have E2 := Lib.hid hs2
  obtain ⟨y2, rfl, hy2⟩ := hs2
  obtain ⟨a2, c2, rfl, _⟩ := hy2
  have H2 := Lib.hid ((b2.block _ (by have := HZ1.out; omega)).trans H1.out)
  have HB2 := Lib.hid (bon HB1.out b2)
  have HZ2 := Lib.hid (Nat.le_trans HZ1.out b2.size)
  clear b2 g0 g1
  go_upto_region 4 with fail
  obtain ⟨b5, hbe5⟩ : ∃ b, b = w2.heap.size := ⟨_, rfl⟩
  rw [← hbe5]
  have h5 : (w2.alloc (.cells #[.int .i64 rs.pr, .slice a2 rs.ws.length c2] 24)).heap[b5]? = _ := hb_new hbe5
  have d5 : Below w2.heap.size w2 (w2.alloc (.cells #[.int .i64 rs.pr, .slice a2 rs.ws.length c2] 24)) := below_alloc _ _
  have z5 : b5 < (w2.alloc (.cells #[.int .i64 rs.pr, .slice a2 rs.ws.length c2] 24)).heap.size := by rw [hbe5]; simp
  have hr5 : w.heap.size + 1 ≤ b5 := by rw [hbe5]; exact HZ2.out
  generalize w2.alloc (.cells #[.int .i64 rs.pr, .slice a2 rs.ws.length c2] 24) = w3 at *
  have E3 := Lib.hid (E2.out.below d5)
  have H3 := Lib.hid ((d5.block _ (by omega)).trans H2.out)
  have H5 := Lib.hid h5
  have HB3 := Lib.hid (bon HB2.out d5)
  clear h5 d5 hbe5
  have g0 : w3.cell? ⟨w.heap.size, 0, none⟩ = some (.int .i64 s.pr) := cell_of_row w3 _ 0 _ _ _ H3.out
  have g1 : w3.cell? ⟨w.heap.size, 1, none⟩ = some (.slice ua s.ws.length uc) := cell_of_row w3 _ 1 _ _ _ H3.out
  go_wp2_with fail
  refine (CQ.out w3 (HV.out.below HB3.out) (HD.out.below HB3.out)).mono ?_
  rintro e w4 ⟨u4, rfl, hs4, b4⟩
  have E4 := Lib.hid hs4
  obtain ⟨y4, rfl, hy4⟩ := hs4
  obtain ⟨a3, c3, rfl, _⟩ := hy4
  have F4 := Lib.hid (E3.out.below b4)
  have H54 := Lib.hid ((b4.block _ z5).trans H5.out)
  have HB4 := Lib.hid (bon HB3.out b4)
  have z54 : b5 < w4.heap.size := Nat.lt_of_lt_of_le z5 b4.size
  clear b4 g0 g1
  go_upto_region 5 with fail
  obtain ⟨b7, hbe7⟩ : ∃ b, b = w4.heap.size := ⟨_, rfl⟩
  rw [← hbe7]
  have h7 : (w4.alloc (.cells #[.int .i64 rs.pr, .slice a3 rs.ws.length c3] 24)).heap[b7]? = _ := hb_new hbe7
  have d7 : Below w4.heap.size w4 (w4.alloc (.cells #[.int .i64 rs.pr, .slice a3 rs.ws.length c3] 24)) := below_alloc _ _
  have H55 := Lib.hid ((d7.block _ z54).trans H54.out)
  have E5 := Lib.hid (E4.out.below d7)
  have F5 := Lib.hid (F4.out.below d7)
  have HB5 := Lib.hid (bon HB4.out d7)
  generalize w4.alloc (.cells #[.int .i64 rs.pr, .slice a3 rs.ws.length c3] 24) = w5 at *
  have p0 : w5.cell? ⟨b5, 0, none⟩ = some (.int .i64 rs.pr) := cell_of_row w5 _ 0 _ _ _ H55.out
  have p1 : w5.cell? ⟨b5, 1, none⟩ = some (.slice a2 rs.ws.length c2) := cell_of_row w5 _ 1 _ _ _ H55.out
  have r0 : w5.cell? ⟨b7, 0, none⟩ = some (.int .i64 rs.pr) := cell_of_row w5 _ 0 _ _ _ h7
  have r1 : w5.cell? ⟨b7, 1, none⟩ = some (.slice a3 rs.ws.length c3) := cell_of_row w5 _ 1 _ _ _ h7
  clear h7 d7 hbe7
  go_wp2_with fail
  refine (same4_yes rs _ _ w5 F5.out E5.out (Nat.le_trans HLN.out (by decide))).mono ?_
  rintro e w6 ⟨rfl, b6⟩
  have HB6 := Lib.hid (bon HB5.out b6)
  clear b6 p0 p1 r0 r1
  go_wp2_with fail
  refine (CS.out _).mono ?_
  rintro e w7 ⟨rfl, b7⟩
  have HB7 := Lib.hid (bon HB6.out b7)
  clear b7
  go_wp2_with fail
  go_ret
  exact ⟨rfl, HB7.out⟩
end Go.Proofs.Ytokaeiilhfbeoaa
