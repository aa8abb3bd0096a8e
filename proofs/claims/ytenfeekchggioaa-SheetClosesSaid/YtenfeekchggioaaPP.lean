/- The law of lines. -/
import Derived.Test.YtenfeekchggioaaPL
import Derived.Test.YtenfeekchggioaaPM
import Derived.Test.YtenfeekchggioaaOL
namespace Go.Proofs.Ytenfeekchggioaa
open Go.RowKit Go.Shelf
set_option linter.unusedSimpArgs false
attribute [local irreducible] wpQuiet
noncomputable def lnV (s : Sh) (ds : List Int) : List Int := if progE s ds = 0 then lineL s.pr.toNat s.ws ds else []
noncomputable def rdV (s : Sh) (ds : List Int) : List Int := if progE s ds = 0 then readyL s.pr.toNat s.ws ds else []
theorem lnV_ref (s : Sh) (ds : List Int) : (if clE s ds = 0 then refLineTo s.pr.toNat s.ws ds s.pr.toNat else []) = lnV s ds := by
  rw [clE_eq]
  unfold lnV
  by_cases h : progE s ds = 0
  · rw [if_pos h, if_pos h]
    obtain ⟨h1, h2, _⟩ := prog_clo h
    exact (line_eq (okDone_mem h2) (fun x hx => ((chk_small h1).2.2.2 x hx).1)).symm
  · rw [if_neg h, if_neg h]
theorem rdV_ref (s : Sh) (ds : List Int) : (if clE s ds = 0 then refReadyTo s.ws ds s.ws.length else []) = rdV s ds := by
  rw [clE_eq]
  unfold rdV
  by_cases h : progE s ds = 0
  · rw [if_pos h, if_pos h]
    obtain ⟨_, _, h3⟩ := prog_clo h
    exact (readyL_eq h3).symm
  · rw [if_neg h, if_neg h]
theorem lnV_len (s : Sh) (ds : List Int) : (lnV s ds).length ≤ 1000 := by
  unfold lnV
  by_cases h : progE s ds = 0
  · rw [if_pos h, lineL_len]
    have := (chk_small (prog_clo h).1).2.1
    omega
  · rw [if_neg h]; simp
theorem rdV_len (s : Sh) (ds : List Int) : (rdV s ds).length ≤ 1000 := by
  unfold rdV
  by_cases h : progE s ds = 0
  · rw [if_pos h]
    have h1 := (chk_small (prog_clo h).1).2.2.1
    have := readyTo_len s.pr.toNat s.ws ds s.ws.length
    unfold readyL
    omega
  · rw [if_neg h]; simp
theorem Line_v (s : Sh) (v : Value) (ds : List Int) (dv : Value) (w : World) (hv : SV w v s) (hd : IS w dv ds) (hdl : ds.length ≤ 100000) :
    Calls Try.prog 17 #[v, dv] w fun e w' => ∃ u, e = .returned (.tuple #[u, .int .i64 (progE s ds)]) ∧ IS w' u (lnV s ds) ∧ Below w.heap.size w w' := Line_any s v ds dv w hv hd hdl
theorem Ready_v (s : Sh) (v : Value) (ds : List Int) (dv : Value) (w : World) (hv : SV w v s) (hd : IS w dv ds) (hdl : ds.length ≤ 100000) :
    Calls Try.prog 19 #[v, dv] w fun e w' => ∃ u, e = .returned (.tuple #[u, .int .i64 (progE s ds)]) ∧ IS w' u (rdV s ds) ∧ Below w.heap.size w w' := Ready_any s v ds dv w hv hd hdl
theorem refLine_v (s : Sh) (v : Value) (ds : List Int) (dv : Value) (w : World) (hv : SV w v s) (hd : IS w dv ds) (hdl : ds.length ≤ 100000) :
    Calls Try.prog 18 #[v, dv] w fun e w' => ∃ u, e = .returned (.tuple #[u, .int .i64 (progE s ds)]) ∧ IS w' u (lnV s ds) ∧ Below w.heap.size w w' := by
  rw [← lnV_ref, ← clE_eq]
  exact refLine_any s v ds dv w hv hd hdl
theorem refReady_v (s : Sh) (v : Value) (ds : List Int) (dv : Value) (w : World) (hv : SV w v s) (hd : IS w dv ds) (hdl : ds.length ≤ 100000) :
    Calls Try.prog 20 #[v, dv] w fun e w' => ∃ u, e = .returned (.tuple #[u, .int .i64 (progE s ds)]) ∧ IS w' u (rdV s ds) ∧ Below w.heap.size w w' := by
  rw [← rdV_ref, ← clE_eq]
  exact refReady_any s v ds dv w hv hd hdl
set_option maxRecDepth 100000 in
set_option maxHeartbeats 8000000 in
theorem lines_row (s : Sh) (ds : List Int) (v dv : Value) (w : World) (hv : SV w v s) (_ : (Lit.int .i64 s.pr).wf = true) (hd : IS w dv ds) (_ : ∀ z ∈ ds, -9223372036854775808 ≤ z ∧ z ≤ 9223372036854775807) : Calls Try.prog 4 #[v, dv] w fun e w' => e = .returned (.bool true) ∧ Below w.heap.size w w' := by
  have HV := Lib.hid hv
  have HD := Lib.hid hd
  obtain ⟨u, rfl, hu⟩ := hv
  obtain ⟨ua, uc, rfl, _⟩ := id hu
  obtain ⟨sa, sc, rfl, q1, q2, _⟩ := id hd
  have CF := Lib.hid (fun W h => Far_any s (.agg #[.int .i64 s.pr, .slice ua s.ws.length uc]) W h)
  have CS := Lib.hid (fun W => shown_any W)
  clear hu
  go_enter Try.func4, Try.ntmps4
  go_wp2_with fail
  have h0 := heap_alloc_new w (.cells #[.int .i64 s.pr, .slice ua s.ws.length uc] 24)
  have b0 := below_alloc w (.cells #[.int .i64 s.pr, .slice ua s.ws.length uc] 24)
  have z0 : (w.alloc (.cells #[.int .i64 s.pr, .slice ua s.ws.length uc] 24)).heap.size = w.heap.size + 1 := by simp
  generalize w.alloc (.cells #[.int .i64 s.pr, .slice ua s.ws.length uc] 24) = w0 at *
  refine (CF.out w0 (HV.out.below b0)).mono ?_
  rintro e w1 ⟨rfl, b1⟩
  have H1 := Lib.hid ((b1.block _ (by omega)).trans h0)
  have HB1 := Lib.hid (bon b0 b1)
  have HZ1 := Lib.hid (show w.heap.size + 1 ≤ w1.heap.size by have := b1.size; omega)
  clear h0 b0 z0 b1 CF
  by_cases hf : farB s = true
  · rw [hf]
    clear hf
    go_wp2_with fail
    refine (CS.out _).mono ?_
    rintro e w2 ⟨rfl, b2⟩
    have HB2 := Lib.hid (bon HB1.out b2)
    clear b2
    go_wp2_with fail
    go_ret
    exact ⟨rfl, HB2.out⟩
  have hf' : farB s = false := by simpa using hf
  rw [hf']
  clear hf hf'
  by_cases hl : 1000 < ds.length
  · have l1 : (1000 : Int) < (ds.length : Int) := by omega
    clear hl
    go_wp2_with fail
    refine (CS.out _).mono ?_
    rintro e w2 ⟨rfl, b2⟩
    have HB2 := Lib.hid (bon HB1.out b2)
    clear b2
    go_wp2_with fail
    go_ret
    exact ⟨rfl, HB2.out⟩
  have l1 : ¬ (1000 : Int) < (ds.length : Int) := by omega
  have C1 := Lib.hid (fun W h1 h2 => Line_v s (.agg #[.int .i64 s.pr, .slice ua s.ws.length uc]) ds (.slice sa ds.length sc) W h1 h2 (by omega))
  have C2 := Lib.hid (fun W h1 h2 => refLine_v s (.agg #[.int .i64 s.pr, .slice ua s.ws.length uc]) ds (.slice sa ds.length sc) W h1 h2 (by omega))
  have C3 := Lib.hid (fun W h1 h2 => Ready_v s (.agg #[.int .i64 s.pr, .slice ua s.ws.length uc]) ds (.slice sa ds.length sc) W h1 h2 (by omega))
  have C4 := Lib.hid (fun W h1 h2 => refReady_v s (.agg #[.int .i64 s.pr, .slice ua s.ws.length uc]) ds (.slice sa ds.length sc) W h1 h2 (by omega))
  have HLL := Lib.hid (lnV_len s ds)
  have HRL := Lib.hid (rdV_len s ds)
  generalize lnV s ds = lv at *
  generalize rdV s ds = rv at *
  generalize progE s ds = pe at *
  have hpe : (pe == pe) = true := beq_self_eq_true pe
  clear hl
  have g0 : w1.cell? ⟨w.heap.size, 0, none⟩ = some (.int .i64 s.pr) := cell_of_row w1 _ 0 _ _ _ H1.out
  have g1 : w1.cell? ⟨w.heap.size, 1, none⟩ = some (.slice ua s.ws.length uc) := cell_of_row w1 _ 1 _ _ _ H1.out
  go_wp2_with fail
  refine (C1.out w1 (HV.out.below HB1.out) (HD.out.below HB1.out)).mono ?_
  rintro e w2 ⟨u1, rfl, hi, b2⟩
  have E1 := Lib.hid hi
  obtain ⟨x1, y1, rfl, _, _, _, _⟩ := hi
  have H2 := Lib.hid ((b2.block _ (by have := HZ1.out; omega)).trans H1.out)
  have HB2 := Lib.hid (bon HB1.out b2)
  have HZ2 := Lib.hid (Nat.le_trans HZ1.out b2.size)
  clear b2 g0 g1
  have g0 : w2.cell? ⟨w.heap.size, 0, none⟩ = some (.int .i64 s.pr) := cell_of_row w2 _ 0 _ _ _ H2.out
  have g1 : w2.cell? ⟨w.heap.size, 1, none⟩ = some (.slice ua s.ws.length uc) := cell_of_row w2 _ 1 _ _ _ H2.out
  go_wp2_with fail
  refine (C2.out w2 (HV.out.below HB2.out) (HD.out.below HB2.out)).mono ?_
  rintro e w3 ⟨u2, rfl, hi, b2⟩
  have E2 := Lib.hid hi
  replace E1 := Lib.hid (E1.out.below b2)
  obtain ⟨x2, y2, rfl, _, _, _, _⟩ := hi
  have H3 := Lib.hid ((b2.block _ (by have := HZ2.out; omega)).trans H2.out)
  have HB3 := Lib.hid (bon HB2.out b2)
  have HZ3 := Lib.hid (Nat.le_trans HZ2.out b2.size)
  clear b2 g0 g1
  have g0 : w3.cell? ⟨w.heap.size, 0, none⟩ = some (.int .i64 s.pr) := cell_of_row w3 _ 0 _ _ _ H3.out
  have g1 : w3.cell? ⟨w.heap.size, 1, none⟩ = some (.slice ua s.ws.length uc) := cell_of_row w3 _ 1 _ _ _ H3.out
  go_wp2_with fail
  refine (C3.out w3 (HV.out.below HB3.out) (HD.out.below HB3.out)).mono ?_
  rintro e w4 ⟨u3, rfl, hi, b2⟩
  have E3 := Lib.hid hi
  replace E1 := Lib.hid (E1.out.below b2)
  replace E2 := Lib.hid (E2.out.below b2)
  obtain ⟨x3, y3, rfl, _, _, _, _⟩ := hi
  have H4 := Lib.hid ((b2.block _ (by have := HZ3.out; omega)).trans H3.out)
  have HB4 := Lib.hid (bon HB3.out b2)
  have HZ4 := Lib.hid (Nat.le_trans HZ3.out b2.size)
  clear b2 g0 g1
  have g0 : w4.cell? ⟨w.heap.size, 0, none⟩ = some (.int .i64 s.pr) := cell_of_row w4 _ 0 _ _ _ H4.out
  have g1 : w4.cell? ⟨w.heap.size, 1, none⟩ = some (.slice ua s.ws.length uc) := cell_of_row w4 _ 1 _ _ _ H4.out
  go_wp2_with fail
  refine (C4.out w4 (HV.out.below HB4.out) (HD.out.below HB4.out)).mono ?_
  rintro e w5 ⟨u4, rfl, hi, b2⟩
  have E4 := Lib.hid hi
  replace E1 := Lib.hid (E1.out.below b2)
  replace E2 := Lib.hid (E2.out.below b2)
  replace E3 := Lib.hid (E3.out.below b2)
  obtain ⟨x4, y4, rfl, _, _, _, _⟩ := hi
  have H5 := Lib.hid ((b2.block _ (by have := HZ4.out; omega)).trans H4.out)
  have HB5 := Lib.hid (bon HB4.out b2)
  have HZ5 := Lib.hid (Nat.le_trans HZ4.out b2.size)
  clear b2 g0 g1
  go_wp2_with fail
  refine (sameI_yes lv _ _ _ E1.out E2.out (Nat.le_trans HLL.out (by decide))).mono ?_
  rintro e w6 ⟨rfl, b6⟩
  have HB6 := Lib.hid (bon HB5.out b6)
  have E5 := Lib.hid (E3.out.below b6)
  have E6 := Lib.hid (E4.out.below b6)
  clear b6
  go_wp2_with fail
  refine (sameI_yes rv _ _ _ E5.out E6.out (Nat.le_trans HRL.out (by decide))).mono ?_
  rintro e w7 ⟨rfl, b7⟩
  have HB7 := Lib.hid (bon HB6.out b7)
  clear b7
  go_wp2_with fail
  refine (CS.out _).mono ?_
  rintro e w8 ⟨rfl, b8⟩
  have HB8 := Lib.hid (bon HB7.out b8)
  clear b8
  go_wp2_with fail
  go_ret
  exact ⟨rfl, HB8.out⟩
end Go.Proofs.Ytenfeekchggioaa
