/- The law of edges. -/
import Derived.Test.YtokaeiilhfbeoaaOO
import Derived.Test.YtokaeiilhfbeoaaOL
namespace Go.Proofs.Ytokaeiilhfbeoaa
open Go.RowKit Go.Shelf
set_option linter.unusedSimpArgs false
attribute [local irreducible] wpQuiet
theorem downE_len (W : List Wk) : ∀ (L : List Wk) (i : Nat), (downE W L i).length = 2 * L.length
  | [], _ => rfl
  | y :: L, i => by simp only [downE, List.length_cons, downE_len W L (i + 1)]; omega
theorem edgesL_len (pr : Nat) (W : List Wk) : (edgesL pr W).length = pr + 2 * W.length := by
  unfold edgesL
  rw [List.length_append, List.length_map, List.length_range, downE_len]
theorem edgesV_len (s : Sh) : (edgesV s).length ≤ 2000 := by
  unfold edgesV
  split
  · rename_i h
    obtain ⟨h1, h2, h3⟩ := chk_small h
    rw [edgesL_len]
    have := h3.1
    omega
  · simp
set_option maxRecDepth 100000 in
set_option maxHeartbeats 8000000 in
theorem edges_row (s : Sh) (v : Value) (w : World) (hv : SV w v s) (_ : (Lit.int .i64 s.pr).wf = true) : Calls Try.prog 3 #[v] w fun e w' => e = .returned (.bool true) ∧ Below w.heap.size w w' := by
  have HV := Lib.hid hv
  obtain ⟨u, rfl, hu⟩ := hv
  obtain ⟨ua, uc, rfl, k1, k2, hU⟩ := id hu
  have CF := Lib.hid (fun W h => Far_any s (.agg #[.int .i64 s.pr, .slice ua s.ws.length uc]) W h)
  have CS := Lib.hid (fun W => shown_any W)
  clear hU hu
  go_enter Try.func3, Try.ntmps3
  go_wp2_with fail
  have h0 := heap_alloc_new w (.cells #[.int .i64 s.pr, .slice ua s.ws.length uc] 24)
  have b0 := below_alloc w (.cells #[.int .i64 s.pr, .slice ua s.ws.length uc] 24)
  have z0 : (w.alloc (.cells #[.int .i64 s.pr, .slice ua s.ws.length uc] 24)).heap.size = w.heap.size + 1 := by simp
  generalize w.alloc (.cells #[.int .i64 s.pr, .slice ua s.ws.length uc] 24) = w0 at *
  refine (CF.out w0 (HV.out.below b0)).mono ?_
  rintro e w1 ⟨rfl, b1⟩
  have H1 := Lib.hid ((b1.block _ (by omega)).trans h0)
  have HB1 := Lib.hid (bon b0 b1)
  have HZ1 := Lib.hid (show w.heap.size + 1 ≤ w1.heap.size by have := b1.size; omega)
  clear h0 b0 z0 b1 CF
  by_cases hf : farB s = true
  · rw [hf]
    clear hf
    go_wp2_with fail
    refine (CS.out _).mono ?_
    rintro e w2 ⟨rfl, b2⟩
    have HB2 := Lib.hid (bon HB1.out b2)
    clear b2
    go_wp2_with fail
    go_ret
    exact ⟨rfl, HB2.out⟩
  · have hf' : farB s = false := by simpa using hf
    rw [hf']
    clear hf hf'
    have CE := Lib.hid (fun W h => Edges_any s (.agg #[.int .i64 s.pr, .slice ua s.ws.length uc]) W h)
    have CR := Lib.hid (fun W h => refEdges_any s (.agg #[.int .i64 s.pr, .slice ua s.ws.length uc]) W h)
    have C1 := Lib.hid (fun W h => check_any s (.agg #[.int .i64 s.pr, .slice ua s.ws.length uc]) W h)
    have C2 := Lib.hid (fun W h => refCheck4_any s (.agg #[.int .i64 s.pr, .slice ua s.ws.length uc]) W h)
    have HLN := Lib.hid (edgesV_len s)
    generalize edgesV s = ev at *
    generalize chkS s = z at *
    have g0 : w1.cell? ⟨w.heap.size, 0, none⟩ = some (.int .i64 s.pr) := cell_of_row w1 _ 0 _ _ _ H1.out
    have g1 : w1.cell? ⟨w.heap.size, 1, none⟩ = some (.slice ua s.ws.length uc) := cell_of_row w1 _ 1 _ _ _ H1.out
    go_wp2_with fail
    refine (CE.out w1 (HV.out.below HB1.out)).mono ?_
    rintro e w2 ⟨v2, rfl, ho2, _, b2⟩
    have E2 := Lib.hid (es_own ho2)
    have H2 := Lib.hid ((b2.block _ (by have := HZ1.out; omega)).trans H1.out)
    have HB2 := Lib.hid (bon HB1.out b2)
    have HZ2 := Lib.hid (Nat.le_trans HZ1.out b2.size)
    clear b2 ho2 g0 g1
    have g0 : w2.cell? ⟨w.heap.size, 0, none⟩ = some (.int .i64 s.pr) := cell_of_row w2 _ 0 _ _ _ H2.out
    have g1 : w2.cell? ⟨w.heap.size, 1, none⟩ = some (.slice ua s.ws.length uc) := cell_of_row w2 _ 1 _ _ _ H2.out
    go_wp2_with fail
    refine (CR.out w2 (HV.out.below HB2.out)).mono ?_
    rintro e w3 ⟨v3, rfl, ho3, b3⟩
    have E3 := Lib.hid ho3
    have F3 := Lib.hid (E2.out.below b3)
    have H3 := Lib.hid ((b3.block _ (by have := HZ2.out; omega)).trans H2.out)
    have HB3 := Lib.hid (bon HB2.out b3)
    have HZ3 := Lib.hid (Nat.le_trans HZ2.out b3.size)
    clear b3 ho3 g0 g1
    obtain ⟨a2, c2, hv2, _⟩ := id F3.out
    subst hv2
    obtain ⟨a3, c3, hv3, _⟩ := id E3.out
    subst hv3
    have hlt : w.heap.size < w3.heap.size := by have := HZ3.out; omega
    go_wp2_with fail
    refine wp_region_class (fun w' => Below w3.heap.size w3 w') 18 (by kernel_rfl) (by kernel_rfl) (Below.refl _ w3).drew ?_
    simp only [List.take_succ_cons, List.take_zero, List.drop_succ_cons, List.drop_zero]
    refine quiet_load_mid rfl _ _ rfl w.heap.size 0 rfl [.int .i64 s.pr, .slice ua s.ws.length uc] _ (fun W h => rangeH ((h.block _ hlt).trans H3.out)) Try.underlying24 rfl (by kernel_rfl) ?_
    simp only [Act.put, List.setIfInBounds_toArray, List.set_cons_zero, List.set_cons_succ]
    refine quiet_call rfl 14 _ _ rfl (enter_of Try.func14 (by decide) (by intro h; cases h)) _ (fun W h => (C1.out W (HV.out.below (HB3.out.trans (h.mono HB3.out.size)))).mono fun e w' ⟨he, hw⟩ => ⟨he, h.trans (hw.mono h.size)⟩) ?_
    simp only [Act.put, List.setIfInBounds_toArray, List.set_cons_zero, List.set_cons_succ]
    refine quiet_load_mid rfl _ _ rfl w.heap.size 0 rfl [.int .i64 s.pr, .slice ua s.ws.length uc] _ (fun W h => rangeH ((h.block _ hlt).trans H3.out)) Try.underlying24 rfl (by kernel_rfl) ?_
    simp only [Act.put, List.setIfInBounds_toArray, List.set_cons_zero, List.set_cons_succ]
    refine quiet_call rfl 15 _ _ rfl (enter_of Try.func15 (by decide) (by intro h; cases h)) _ (fun W h => (C2.out W (HV.out.below (HB3.out.trans (h.mono HB3.out.size)))).mono fun e w' ⟨he, hw⟩ => ⟨he, h.trans (hw.mono h.size)⟩) ?_
    simp only [Act.put, List.setIfInBounds_toArray, List.set_cons_zero, List.set_cons_succ]
    refine quiet_still rfl (.bool true) (fun w _ => by go_simp) ?_
    simp only [Act.put, List.setIfInBounds_toArray, List.set_cons_zero, List.set_cons_succ]
    refine quiet_moveV rfl _ rfl (.bool true) rfl ?_
    simp only [Act.put, List.setIfInBounds_toArray, List.set_cons_zero, List.set_cons_succ]
    refine quietW_moveV (by kernel_rfl) _ rfl (.slice a2 ev.length c2) rfl ?_
    simp only [Act.put, List.setIfInBounds_toArray, List.set_cons_zero, List.set_cons_succ]
    refine quietW_moveV (by kernel_rfl) _ rfl (.slice a3 ev.length c3) rfl ?_
    simp only [Act.put, List.setIfInBounds_toArray, List.set_cons_zero, List.set_cons_succ]
    refine quietW_call (by kernel_rfl) 16 _ _ rfl (enter_of Try.func16 (by decide) (by intro h; cases h)) _ (fun W h => (sameE_yes ev _ _ W (F3.out.below h) (E3.out.below h) HLN.out).mono fun e w' ⟨he, hw⟩ => ⟨he, h.trans (hw.mono h.size)⟩) ?_
    simp only [Act.put, List.setIfInBounds_toArray, List.set_cons_zero, List.set_cons_succ]
    refine quiet_still rfl (.bool true) (fun w _ => by go_simp) ?_
    simp only [Act.put, List.setIfInBounds_toArray, List.set_cons_zero, List.set_cons_succ]
    refine quiet_moveV rfl _ rfl (.bool true) rfl ?_
    simp only [Act.put, List.setIfInBounds_toArray, List.set_cons_zero, List.set_cons_succ]
    refine quietW_moveV (by kernel_rfl) _ rfl (.int .i64 z) rfl ?_
    simp only [Act.put, List.setIfInBounds_toArray, List.set_cons_zero, List.set_cons_succ]
    refine quietW_moveV (by kernel_rfl) _ rfl (.int .i64 z) rfl ?_
    simp only [Act.put, List.setIfInBounds_toArray, List.set_cons_zero, List.set_cons_succ]
    refine quietW_still (by kernel_rfl) (.bool true) (fun w _ => by go_simp) ?_
    simp only [Act.put, List.setIfInBounds_toArray, List.set_cons_zero, List.set_cons_succ]
    refine quiet_still rfl (.bool true) (fun w _ => by go_simp) ?_
    simp only [Act.put, List.setIfInBounds_toArray, List.set_cons_zero, List.set_cons_succ]
    refine quiet_moveV rfl _ rfl (.bool true) rfl ?_
    simp only [Act.put, List.setIfInBounds_toArray, List.set_cons_zero, List.set_cons_succ]
    refine quietW_call (by kernel_rfl) 11 _ _ rfl (enter_of Try.func11 (by decide) (by intro h; cases h)) _ (fun W h => (CS.out W).mono fun e w' ⟨he, hw⟩ => ⟨he, h.trans (hw.mono h.size)⟩) ?_
    simp only [Act.put, List.setIfInBounds_toArray, List.set_cons_zero, List.set_cons_succ]
    refine quiet_still rfl (.bool true) (fun w _ => by go_simp) ?_
    simp only [Act.put, List.setIfInBounds_toArray, List.set_cons_zero, List.set_cons_succ]
    unfold wpQuiet
    intro wq hb
    have HBQ := Lib.hid (HB3.out.trans (hb.mono HB3.out.size))
    clear hb
    go_wp2_with fail
    go_ret
    exact ⟨by first | rfl | (simp; done), HBQ.out⟩
end Go.Proofs.Ytokaeiilhfbeoaa
