/- Reorder. -/
import Derived.Test.YtenfeekchggioaaOH
namespace Go.Proofs.Ytenfeekchggioaa
open Go.RowKit Go.Shelf
set_option linter.unusedSimpArgs false
theorem ws_nil (w : World) : WS w (.slice none 0 0) [] := ⟨none, 0, rfl, Nat.le_refl _, Nat.zero_le _, fun k x hx => by cases hx⟩
theorem chk_words {s : Sh} (h : chkS s = 0) : ∀ x ∈ s.ws, x.wd.size ≤ 16 := by
  unfold chkS at h
  split at h
  · cases h
  split at h
  · cases h
  split at h
  · cases h
  · rename_i _ _ c
    intro x hx
    have := List.all_eq_true.1 (by simpa using c : s.ws.all shortW = true) x hx
    unfold shortW stV at this
    split at this
    · simp at this
    · omega
def reoE (s : Sh) (os : List Int) : Int := if chkS s ≠ 0 then chkS s else if ordB s.pr.toNat s.ws os = true then 0 else 4
/-- The works in an order. -/
def reoL (W : List Wk) (os : List Int) : List Wk := os.map fun z => wkN W z.toNat
def reoS (s : Sh) (os : List Int) : Sh := if reoE s os = 0 then ⟨s.pr, reoL s.ws os⟩ else ⟨0, []⟩
theorem ordB_in {pr : Nat} {W : List Wk} {os : List Int} (h : ordB pr W os = true) : os.length = W.length ∧ ∀ z ∈ os, 0 ≤ z ∧ z < (W.length : Int) := by
  unfold ordB permB at h
  simp only [Bool.and_eq_true, decide_eq_true_eq, List.all_eq_true] at h
  exact ⟨h.1.1.1, h.1.1.2⟩
set_option maxRecDepth 100000 in
set_option maxHeartbeats 16000000 in
theorem Reorder_any (s : Sh) (v : Value) (os : List Int) (dv : Value) (w : World) (hv : SV w v s) (hd : IS w dv os) (hol : os.length ≤ 100000) :
    Calls Try.prog 26 #[v, dv] w fun e w' => ∃ u, e = .returned (.tuple #[u, .int .i64 (reoE s os)]) ∧ SV w' u (reoS s os) ∧ Below w.heap.size w w' := by
  have HV := Lib.hid hv
  have HD := Lib.hid hd
  obtain ⟨u, rfl, hu⟩ := hv
  obtain ⟨sa, sc, rfl, q1, q2, _, hI⟩ := hd
  obtain ⟨ua, uc, rfl, k1, k2, hU⟩ := id hu
  have HI := Lib.hid hI
  have HU := Lib.hid hU
  have CK := Lib.hid (fun W h => check_any s (.agg #[.int .i64 s.pr, .slice ua s.ws.length uc]) W h)
  have CO := Lib.hid (fun W h1 h2 h3 => isOrder_any s (.agg #[.int .i64 s.pr, .slice ua s.ws.length uc]) os (.slice sa os.length sc) W h1 h2 h3 hol)
  have HRE := Lib.hid (show reoE s os = if chkS s ≠ 0 then chkS s else if ordB s.pr.toNat s.ws os = true then 0 else 4 from rfl)
  have HRS := Lib.hid (show reoS s os = if reoE s os = 0 then ⟨s.pr, reoL s.ws os⟩ else ⟨0, []⟩ from rfl)
  have HSM0 := Lib.hid (@chk_small s)
  have HWD0 := Lib.hid (@chk_words s)
  have HOI0 := Lib.hid (@ordB_in s.pr.toNat s.ws os)
  generalize reoS s os = rs at *
  generalize reoE s os = re at *
  generalize ordB s.pr.toNat s.ws os = ob at *
  generalize chkS s = z at *
  clear hI hU hu
  go_enter Try.func26, Try.ntmps26
  go_wp2_with fail
  have e0 := heap_alloc2_old w (.cells #[.int .i64 s.pr, .slice ua s.ws.length uc] 24) (.cells #[.int .i64 0, .slice none 0 0] 24)
  have e1 := heap_alloc2_new w (.cells #[.int .i64 s.pr, .slice ua s.ws.length uc] 24) (.cells #[.int .i64 0, .slice none 0 0] 24)
  have eb := (below_alloc w (.cells #[.int .i64 s.pr, .slice ua s.ws.length uc] 24)).alloc (show w.heap.size ≤ (w.alloc (.cells #[.int .i64 s.pr, .slice ua s.ws.length uc] 24)).heap.size by simp) (.cells #[.int .i64 0, .slice none 0 0] 24)
  have ez : ((w.alloc (.cells #[.int .i64 s.pr, .slice ua s.ws.length uc] 24)).alloc (.cells #[.int .i64 0, .slice none 0 0] 24)).heap.size = w.heap.size + 2 := by simp
  generalize (w.alloc (.cells #[.int .i64 s.pr, .slice ua s.ws.length uc] 24)).alloc (.cells #[.int .i64 0, .slice none 0 0] 24) = w0 at *
  refine (CK.out w0 (HV.out.below eb)).mono ?_
  rintro e w1 ⟨rfl, b1⟩
  have H0 := Lib.hid ((b1.block _ (by omega)).trans e0)
  have H1 := Lib.hid ((b1.block _ (by omega)).trans e1)
  have HB1 := Lib.hid (bon eb b1)
  have HZ1 := Lib.hid (show w.heap.size + 2 ≤ w1.heap.size by have := b1.size; omega)
  clear e0 e1 eb ez b1 CK
  have g0 : w1.cell? ⟨w.heap.size, 0, none⟩ = some (.int .i64 s.pr) := cell_of_row w1 _ 0 _ _ _ H0.out
  have g1 : w1.cell? ⟨w.heap.size, 1, none⟩ = some (.slice ua s.ws.length uc) := cell_of_row w1 _ 1 _ _ _ H0.out
  by_cases q : z = 0
  · subst q
    obtain ⟨s1, s2, hsm⟩ := HSM0.out rfl
    have HSM := Lib.hid hsm
    have HWD := Lib.hid (HWD0.out rfl)
    clear hsm HSM0 HWD0
    go_wp2_with fail
    refine (CO.out w1 (HV.out.below HB1.out) (HD.out.below HB1.out) (by first | rfl | trivial)).mono ?_
    rintro e w2 ⟨rfl, b2⟩
    have H0' := Lib.hid ((b2.block _ (by have := HZ1.out; omega)).trans H0.out)
    have H1' := Lib.hid ((b2.block _ (by have := HZ1.out; omega)).trans H1.out)
    have HB2 := Lib.hid (bon HB1.out b2)
    have HZ2 := Lib.hid (show w.heap.size + 2 ≤ w2.heap.size by have := b2.size; have := HZ1.out; omega)
    clear b2 g0 g1 CO H0 H1 HB1 HZ1
    have g0 : w2.cell? ⟨w.heap.size, 0, none⟩ = some (.int .i64 s.pr) := cell_of_row w2 _ 0 _ _ _ H0'.out
    have g1 : w2.cell? ⟨w.heap.size, 1, none⟩ = some (.slice ua s.ws.length uc) := cell_of_row w2 _ 1 _ _ _ H0'.out
    cases ob
    · have e : re = 4 := by rw [HRE.out, if_neg (by simp), if_neg (by decide)]
      have es : rs = ⟨0, []⟩ := by rw [HRS.out, e, if_neg (by decide)]
      subst e
      subst es
      go_wp2_with (refine store_rowP rfl 24 (.tmp 4) (.tmp 21) rfl (w.heap.size + 1) #[.int .i64 0, .slice none 0 0] rfl rfl 24 _ H1'.out (by kernel_rfl) rfl (by kernel_rfl) ?_; intro wf hf hk2 hzf hBf)
      exact bodyPost_ret (results_row_tmp rfl _ _ (w.heap.size + 1) 24 _ (0, 0) _ _ rfl rfl hf Try.underlying24 rfl (by kernel_rfl)) rfl ⟨_, rfl, ⟨_, rfl, ws_nil _⟩, hBf _ _ HB2.out (by omega)⟩
    · have e : re = 0 := by rw [HRE.out, if_neg (by simp), if_pos rfl]
      have es : rs = ⟨s.pr, reoL s.ws os⟩ := by rw [HRS.out, e, if_pos rfl]
      obtain ⟨hol2, hin⟩ := HOI0.out rfl
      have HIN := Lib.hid hin
      have hw4 : s.ws.length ≤ 400 := HSM.out.1
      subst e
      subst es
      have hmk := fun W => mk_works os.length (by omega) W
      have HM := Lib.hid (wo_made os.length (w.heap.size + 2) (by omega) w2 HZ2.out)
      have HB3 := Lib.hid (HB2.out.alloc (by have := HZ2.out; omega) (.cells (mkW os.length) 48))
      have H03 := Lib.hid ((Below.heap_alloc w2 (.cells (mkW os.length) 48) _ (show w.heap.size < w2.heap.size by have := HZ2.out; omega)).trans H0'.out)
      have H13 := Lib.hid ((Below.heap_alloc w2 (.cells (mkW os.length) 48) _ (show w.heap.size + 1 < w2.heap.size by have := HZ2.out; omega)).trans H1'.out)
      have HZ3 := Lib.hid (show w.heap.size + 2 ≤ (w2.alloc (.cells (mkW os.length) 48)).heap.size by have := HZ2.out; simp; omega)
      clear hin hol2
      go_wp2_with fail
      clear hmk g0 g1
      go_loopw [7, 27] (fun vo i wr => ∃ k : Nat, k ≤ os.length ∧ i = .int .i64 (k : Int) ∧ WO (w.heap.size + 2) wr vo (reoL s.ws (os.take k)) ∧ Below w.heap.size w wr ∧ wr.heap[w.heap.size]? = some (.cells #[.int .i64 s.pr, .slice ua s.ws.length uc] 24 (0, 0)) ∧ wr.heap[w.heap.size + 1]? = some (.cells #[.int .i64 0, .slice none 0 0] 24 (0, 0)) ∧ w.heap.size + 2 ≤ wr.heap.size) (fun _ i _ => os.length - (intOf i).toNat)
      case atStart => exact ⟨0, Nat.zero_le _, rfl, HM.out, HB3.out, H03.out, H13.out, HZ3.out⟩
      case round =>
        clear HM HB3 H03 H13 HZ3
        obtain ⟨k, hk, rfl, hwo, hb, h0, h1, hz⟩ := hrel
        have HWO := Lib.hid hwo
        have HBW := Lib.hid hb
        have H0W := Lib.hid h0
        have H1W := Lib.hid h1
        have HZW := Lib.hid hz
        have hlen : (reoL s.ws (os.take k)).length = k := by unfold reoL; rw [List.length_map, List.length_take]; omega
        have HLE := Lib.hid hlen
        clear hwo hb h1 hz hlen
        have g0 : wr.cell? ⟨w.heap.size, 0, none⟩ = some (.int .i64 s.pr) := cell_of_row wr _ 0 _ _ _ h0
        have g1 : wr.cell? ⟨w.heap.size, 1, none⟩ = some (.slice ua s.ws.length uc) := cell_of_row wr _ 1 _ _ _ h0
        clear h0
        by_cases hkl : k < os.length
        · obtain ⟨z, hz⟩ : ∃ z, os[k]? = some z := ⟨_, List.getElem?_eq_getElem hkl⟩
          have hzr := HIN.out z (List.mem_of_getElem? hz)
          obtain ⟨i, rfl⟩ : ∃ i : Nat, z = (i : Int) := ⟨z.toNat, by omega⟩
          obtain ⟨b, off, rfl, hbl, hcz⟩ := HI.out k _ hz
          have cz : wr.cell? ⟨b, off + k, none⟩ = some (.int .i64 (i : Int)) := (HBW.out.cell (p := ⟨b, off + k, none⟩) hbl).trans hcz
          have j0 : (0 : Int) ≤ (k : Int) := by omega
          have j1 : (k : Int) < (os.length : Int) := by omega
          have i0 : (0 : Int) ≤ (i : Int) := by omega
          have i1 : (i : Int) < (s.ws.length : Int) := by omega
          obtain ⟨x, hx⟩ : ∃ x, s.ws[i]? = some x := ⟨_, List.getElem?_eq_getElem (by omega)⟩
          have hxs := HWD.out x (List.mem_of_getElem? hx)
          have HNX := Lib.hid (show reoL s.ws (os.take (k + 1)) = reoL s.ws (os.take k) ++ [x] by unfold reoL wkN; rw [List.take_add_one, hz, List.map_append]; simp [hx])
          obtain ⟨b2, off2, rfl, hb2, hr2, _⟩ := HU.out i x hx
          have HRX := Lib.hid (range_below3 hr2 hb2 HBW.out)
          clear hcz hz hx hr2
          go_upto_region 11 with (refine wpList_load_mid rfl 48 (.tmp 34) rfl b2 (off2 + i * 3) rfl [.int .i64 x.kd, .int .i64 x.pl, .string x.wd] _ HRX.out Try.underlying48 rfl (by kernel_rfl) ?_)
          have h9 := heap_alloc_new wr (.cells #[.int .i64 x.kd, .int .i64 x.pl, .string x.wd] 48)
          have b9 := below_alloc wr (.cells #[.int .i64 x.kd, .int .i64 x.pl, .string x.wd] 48)
          generalize wr.alloc (.cells #[.int .i64 x.kd, .int .i64 x.pl, .string x.wd] 48) = w5 at *
          have c2 : w5.cell? ⟨wr.heap.size, 2, none⟩ = some (.string x.wd) := cell_of_row w5 _ 2 _ _ _ h9
          have HB5 := Lib.hid b9
          have H95 := Lib.hid h9
          clear h9 b9 g0 g1 cz
          go_wp2_with fail
          refine (Clone_any x.wd _ (by omega)).mono ?_
          rintro e w6 ⟨rfl, b6⟩
          have hlt6 : wr.heap.size < w5.heap.size := (Array.getElem?_eq_some_iff.1 H95.out).1
          have h96 := (b6.block _ hlt6).trans H95.out
          have d2 : w6.cell? ⟨wr.heap.size, 2, none⟩ = some (.string x.wd) := cell_of_row w6 _ 2 _ _ _ h96
          have f2 : w6.frozen? ⟨wr.heap.size, 2, none⟩ = false := by simp [World.frozen?, h96]
          have HB6 := Lib.hid (HB5.out.trans (b6.mono (Nat.le_of_lt hlt6)))
          have h97 : (w6.setCell ⟨wr.heap.size, 2, none⟩ (.string x.wd)).heap[wr.heap.size]? = some (.cells #[.int .i64 x.kd, .int .i64 x.pl, .string x.wd] 48 (0, 0)) := setCell_cells w6 _ 2 [.int .i64 x.kd, .int .i64 x.pl, .string x.wd] _ _ h96
          have H97 := Lib.hid h97
          have HB7 := Lib.hid (HB6.out.setCell (p := ⟨wr.heap.size, 2, none⟩) (Nat.le_refl _) (.string x.wd))
          clear b6 h96 h97 c2
          go_upto_region 12 with fail
          generalize w6.setCell ⟨wr.heap.size, 2, none⟩ (.string x.wd) = w7 at *
          clear d2 f2
          have HW7 := Lib.hid (HWO.out.below HB7.out)
          have HZ7 := Lib.hid (Nat.le_trans HZW.out HB7.out.size)
          obtain ⟨a9, c9, hv9⟩ := own_form HW7.out
          subst hv9
          have r0 : w7.cell? ⟨wr.heap.size, 0, none⟩ = some (.int .i64 x.kd) := cell_of_row w7 _ 0 _ _ _ H97.out
          have r1 : w7.cell? ⟨wr.heap.size, 1, none⟩ = some (.int .i64 x.pl) := cell_of_row w7 _ 1 _ _ _ H97.out
          have r2 : w7.cell? ⟨wr.heap.size, 2, none⟩ = some (.string x.wd) := cell_of_row w7 _ 2 _ _ _ H97.out
          go_wp2_with (at_builtin; refine app_wk (w0 := w7) (w.heap.size + 2) _ (reoL s.ws (os.take k)) x rfl _ _ rfl rfl HW7.out rfl (by rw [HLE.out]; omega) (Below.refl _ _) HZ7.out ?_; intro v8 w8 hown8 hb8; obtain ⟨a8, c8, hv8⟩ := own_form hown8; subst hv8)
          have HO8 := Lib.hid hown8
          have HB8 := Lib.hid hb8
          clear hown8 hb8 r0 r1 r2
          go_wp2_with fail
          go_roundw
          case rel => exact ⟨k + 1, hkl, by go_num, by rw [HNX.out]; have h := HO8.out; rw [List.length_append, List.length_singleton] at h; exact h, HBW.out.trans ((HB7.out.mono (by have := HZW.out; omega)).trans (HB8.out.mono (by omega))), (HB8.out.block _ (by omega)).trans ((HB7.out.block _ (by have := HZW.out; omega)).trans H0W.out), (HB8.out.block _ (by omega)).trans ((HB7.out.block _ (by have := HZW.out; omega)).trans H1W.out), Nat.le_trans HZ7.out HB8.out.size⟩
          case measure => (simp [intOf] <;> omega)
        · have k1 : ¬ (k : Int) < (os.length : Int) := by omega
          have e : k = os.length := by omega
          subst e
          rw [List.take_length] at HWO
          obtain ⟨a9, c9, hv9⟩ := own_form HWO.out
          subst hv9
          have HSZ := Lib.hid (show ∀ y ∈ reoL s.ws os, y.wd.size ≤ maxLen from fun y hy => by
            obtain ⟨z, hz, rfl⟩ := List.mem_map.1 hy
            have hzr := HIN.out z hz
            have : wkN s.ws z.toNat ∈ s.ws := by unfold wkN; rw [List.getElem?_eq_getElem (by omega)]; exact List.getElem_mem _
            have := HWD.out _ this
            unfold maxLen
            omega)
          go_wp2_with (refine store_rowP rfl 24 (.tmp 4) (.tmp 48) rfl (w.heap.size + 1) #[.int .i64 s.pr, .slice a9 (reoL s.ws os).length c9] rfl rfl 24 _ H1W.out (by kernel_rfl) rfl (by kernel_rfl) ?_; intro wf hf hk2 hzf hBf)
          have HWF := Lib.hid (show WO (w.heap.size + 2) wf _ (reoL s.ws os) from own_keep HWO.out (fun j hj => hk2 j (by omega)))
          exact bodyPost_ret (results_row_tmp rfl _ _ (w.heap.size + 1) 24 _ (0, 0) _ _ rfl rfl hf Try.underlying24 rfl (by kernel_rfl)) rfl ⟨_, rfl, ⟨_, rfl, ws_own HWF.out HSZ.out⟩, hBf _ _ HBW.out (by omega)⟩
  · have e : re = z := by rw [HRE.out, if_pos q]
    have es : rs = ⟨0, []⟩ := by rw [HRS.out, e, if_neg q]
    subst e
    subst es
    go_wp2_with (refine store_rowP rfl 24 (.tmp 4) (.tmp 15) rfl (w.heap.size + 1) #[.int .i64 0, .slice none 0 0] rfl rfl 24 _ H1.out (by kernel_rfl) rfl (by kernel_rfl) ?_; intro wf hf hk2 hzf hBf)
    exact bodyPost_ret (results_row_tmp rfl _ _ (w.heap.size + 1) 24 _ (0, 0) _ _ rfl rfl hf Try.underlying24 rfl (by kernel_rfl)) rfl ⟨_, rfl, ⟨_, rfl, ws_nil _⟩, hBf _ _ HB1.out (by omega)⟩
end Go.Proofs.Ytenfeekchggioaa
