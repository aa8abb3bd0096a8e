/- Make of the program at some names; Width. -/
import Derived.Test.YtabpjiidbailiaaXB
import Derived.Laws.EntriesVeiled
namespace Go.Proofs.Ytabpjiidbailiaa
open Go.RowKit Go.MapKept
set_option linter.unusedSimpArgs false
attribute [local irreducible] wpQuiet
section
variable {P : Program} {w : World}
theorem lookup_hit {kt et t : TypeId} {es : Array MapEntry} {clock r i : Nat} {v : Value} (key : Value) (d : TypeDesc) (hm : P.underlying t = some (.map kt et)) (hd : P.underlying kt = some d) (hb : w.heap[r]? = some (.map es clock)) (hk : IsKey d key) (hf : Instr.findNow d key es.toList 0 = some (some (i, v))) :
    (Instr.lookup t (.map (some r)) key true).run P w = .ok (.tuple #[v, .bool true]) w := by
  simp [Instr.lookup, run_underlying hm, MapKept.run_getObj_map hb, run_checkKey hd hk, run_findKey hd hf, Result.andThen]
theorem lookup_miss {kt et t : TypeId} {es : Array MapEntry} {clock r : Nat} {z : Value} (key : Value) (d : TypeDesc) (hm : P.underlying t = some (.map kt et)) (hd : P.underlying kt = some d) (hb : w.heap[r]? = some (.map es clock)) (hk : IsKey d key) (hf : Instr.findNow d key es.toList 0 = some none) (hz : (zeroValue et).run P w = .ok z w) :
    (Instr.lookup t (.map (some r)) key true).run P w = .ok (.tuple #[z, .bool false]) w := by
  simp [Instr.lookup, run_underlying hm, MapKept.run_getObj_map hb, run_checkKey hd hk, run_findKey hd hf, hz, Result.andThen]
end
set_option maxHeartbeats 4000000 in
set_option maxRecDepth 100000 in
theorem clo_fan (z : Int) (s : Nat) (w : World) (hlt : s < w.heap.size) (h0 : w.cell? ⟨s, 0, none⟩ = some (.int .i64 z)) : Calls Try.prog 55 #[.slice (some ⟨s, 0, none⟩) 1 1] w (Out (fanM z) w) := by
  have CF := Lib.hid (fun W => Fan_any z W)
  generalize fanM z = M at *
  unfold Out at *
  have d0 : (w.alloc (.cells #[.int .i64 0, .slice none 0 0] 24)).cell? ⟨s, 0, none⟩ = some (.int .i64 z) := ((below_alloc w _).cell (p := ⟨s, 0, none⟩) hlt).trans h0
  clear h0
  go_enter Try.func55, Try.ntmps55
  go_wp2_with fail
  have h0 : (w.alloc (.cells #[.int .i64 0, .slice none 0 0] 24)).heap[w.heap.size]? = some (.cells #[.int .i64 0, .slice none 0 0] 24 (0, 0)) := heap_alloc_new _ _
  have D0 := Lib.hid (below_alloc w (.cells #[.int .i64 0, .slice none 0 0] 24))
  have H0 := Lib.hid h0
  have hgs : w.heap.size < (w.alloc (.cells #[.int .i64 0, .slice none 0 0] 24)).heap.size := by simp
  generalize (w.alloc (.cells #[.int .i64 0, .slice none 0 0] 24)) = wa at *
  clear h0
  refine (CF.out _).mono ?_
  rintro e w1 ⟨vv, rfl, hin, hb⟩
  obtain ⟨a1, c1, ee, _⟩ := id hin
  subst ee
  have HN := Lib.hid hin
  have H1 := Lib.hid (hb_below hb H0.out hgs)
  have D1 := Lib.hid (D0.out.trans (hb.mono (Nat.le_of_lt hgs)))
  clear hb hin
  go_wp2_with (refine store_row rfl _ _ _ rfl w.heap.size _ rfl rfl _ _ H1.out (by kernel_rfl) rfl (by kernel_rfl) ?_)
  intro wf hf hk2 hzf hB
  have HF := Lib.hid hf
  have DF := Lib.hid (hB _ _ D1.out (Nat.le_refl _))
  have SF := Lib.hid (ws_store HN.out H1.out hk2 hzf)
  clear hf hk2 hzf hB
  go_wp2_with fail
  exact bodyPost_ret (results_bt rfl _ _ w.heap.size rfl rfl HF.out Try.underlying24 rfl (by kernel_rfl)) rfl ⟨_, rfl, SF.out, DF.out⟩
set_option maxHeartbeats 4000000 in
set_option maxRecDepth 100000 in
theorem clo_foot (z y : Int) (s : Nat) (w : World) (hlt : s < w.heap.size) (h0 : w.cell? ⟨s, 0, none⟩ = some (.int .i64 z)) (h1 : w.cell? ⟨s, 1, none⟩ = some (.int .i64 y)) : Calls Try.prog 56 #[.slice (some ⟨s, 0, none⟩) 2 2] w (Out (footM z y) w) := by
  have CF := Lib.hid (fun W => Footside_any z y W)
  generalize footM z y = M at *
  unfold Out at *
  have d0 : (w.alloc (.cells #[.int .i64 0, .slice none 0 0] 24)).cell? ⟨s, 0, none⟩ = some (.int .i64 z) := ((below_alloc w _).cell (p := ⟨s, 0, none⟩) hlt).trans h0
  have d1 : (w.alloc (.cells #[.int .i64 0, .slice none 0 0] 24)).cell? ⟨s, 1, none⟩ = some (.int .i64 y) := ((below_alloc w _).cell (p := ⟨s, 1, none⟩) hlt).trans h1
  clear h0 h1
  go_enter Try.func56, Try.ntmps56
  go_wp2_with fail
  have h0 : (w.alloc (.cells #[.int .i64 0, .slice none 0 0] 24)).heap[w.heap.size]? = some (.cells #[.int .i64 0, .slice none 0 0] 24 (0, 0)) := heap_alloc_new _ _
  have D0 := Lib.hid (below_alloc w (.cells #[.int .i64 0, .slice none 0 0] 24))
  have H0 := Lib.hid h0
  have hgs : w.heap.size < (w.alloc (.cells #[.int .i64 0, .slice none 0 0] 24)).heap.size := by simp
  generalize (w.alloc (.cells #[.int .i64 0, .slice none 0 0] 24)) = wa at *
  clear h0
  go_region_law (first
    | (go_simp; go_at_call 17; refine (CF.out _).mono ?_; rintro e w1 ⟨vv, rfl, hin, hb0⟩; have hb : Below wa.heap.size wa w1 := (by first | exact hb0 | exact ((Below.refl _ wa).drew).trans hb0); obtain ⟨a1, c1, ee, _⟩ := id hin; subst ee; have HN := Lib.hid hin; have H1 := Lib.hid (hb_below hb H0.out hgs); have D1 := Lib.hid (D0.out.trans (hb.mono (Nat.le_of_lt hgs))); have e0 := cell_of_heap (j := 0) H1.out rfl; have e1 := cell_of_heap (j := 1) H1.out rfl; have f0 := frozen_of_heap H1.out 0; have f1 := frozen_of_heap H1.out 1; clear hb hb0 hin))
  all_goals
    have HF := Lib.hid (show ((w1.setCell ⟨w.heap.size, 0, none⟩ (.int .i64 M.p)).setCell ⟨w.heap.size, 1, none⟩ (.slice a1 M.L.length c1)).heap[w.heap.size]? = some (.cells #[.int .i64 M.p, .slice a1 M.L.length c1] 24 (0, 0)) from heap_setCell_same _ _ _ _ _ _ (heap_setCell_same _ _ _ _ _ _ H1.out))
    have SF := Lib.hid (ws_store (wf := ((w1.setCell ⟨w.heap.size, 0, none⟩ (.int .i64 M.p)).setCell ⟨w.heap.size, 1, none⟩ (.slice a1 M.L.length c1))) HN.out H1.out (fun k hn => (heap_setCell_other _ _ _ _ hn).trans (heap_setCell_other _ _ _ _ hn)) (by simp))
    have DF := Lib.hid ((D1.out.setCell (p := ⟨w.heap.size, 0, none⟩) (Nat.le_refl _) (.int .i64 M.p)).setCell (p := ⟨w.heap.size, 1, none⟩) (Nat.le_refl _) (.slice a1 M.L.length c1))
    go_wp2_with fail
    exact bodyPost_ret (results_bt rfl _ _ w.heap.size rfl rfl HF.out Try.underlying24 rfl (by kernel_rfl)) rfl ⟨_, rfl, SF.out, DF.out⟩
set_option maxHeartbeats 4000000 in
set_option maxRecDepth 100000 in
theorem make_spider1 (s : Nat) (w : World) : Calls Try.prog 24 #[.string ⟨#[115, 112, 105, 100, 101, 114]⟩, .slice (some ⟨s, 0, none⟩) 1 1] w (Out (moBad 2) w) := by
  unfold Out moBad
  go_enter Try.func24, Try.ntmps24
  go_wp2_with fail
  have h0 : (w.alloc (.cells #[.int .i64 0, .slice none 0 0] 24)).heap[w.heap.size]? = some (.cells #[.int .i64 0, .slice none 0 0] 24 (0, 0)) := heap_alloc_new _ _
  have D0 := Lib.hid (below_alloc w (.cells #[.int .i64 0, .slice none 0 0] 24))
  have H0 := Lib.hid h0
  have hgs : w.heap.size < (w.alloc (.cells #[.int .i64 0, .slice none 0 0] 24)).heap.size := by simp
  generalize (w.alloc (.cells #[.int .i64 0, .slice none 0 0] 24)) = wa at *
  clear h0
  refine (motifs_any _).mono ?_
  rintro e w1 ⟨rfl, hm, hz, hb⟩
  have H1 := Lib.hid (hb_below hb H0.out hgs)
  have D1 := Lib.hid (D0.out.trans (hb.mono (Nat.le_of_lt hgs)))
  have hs1 := hb.size
  have HZ := Lib.hid hz
  clear hb hz
  have EL := lookup_hit (P := Try.prog) (i := 2) (v := .agg #[.int .i64 2, .func (.func 54) #[] #[]]) (.string ⟨#[115, 112, 105, 100, 101, 114]⟩) .string Try.underlying65 Try.underlying9 hm trivial (by kernel_rfl)
  clear hm
  have h2 := heap_alloc_new w1 (.cells #[.int .i64 2, .func (.func 54) #[] #[]] 63)
  have b2 := below_alloc w1 (.cells #[.int .i64 2, .func (.func 54) #[] #[]] 63)
  go_upto_region 2 with fail
  generalize w1.alloc (.cells #[.int .i64 2, .func (.func 54) #[] #[]] 63) = wb at *
  clear EL
  have c0 := cell_of_heap (j := 0) h2 rfl
  have c1 := cell_of_heap (j := 1) h2 rfl
  have H2 := Lib.hid (hb_below b2 H1.out (by omega))
  have D2 := Lib.hid (D1.out.trans (b2.mono (by omega)))
  have hs2 := b2.size
  clear b2 h2
  go_wp2_with (refine store_row rfl _ _ _ rfl w.heap.size _ rfl rfl _ _ H2.out (by kernel_rfl) rfl (by kernel_rfl) ?_)
  intro wf hf hk2 hzf hB
  have HF := Lib.hid hf
  have DF := Lib.hid (hB _ _ D2.out (Nat.le_refl _))
  clear hf hk2 hzf hB
  go_wp2_with fail
  exact bodyPost_ret (results_bt rfl _ _ w.heap.size rfl rfl HF.out Try.underlying24 rfl (by kernel_rfl)) rfl ⟨_, rfl, ws_nil _, DF.out⟩
set_option maxHeartbeats 4000000 in
set_option maxRecDepth 100000 in
theorem make_star (w : World) : Calls Try.prog 24 #[.string ⟨#[115, 116, 97, 114]⟩, .slice none 0 0] w (Out (moBad 4) w) := by
  unfold Out moBad
  go_enter Try.func24, Try.ntmps24
  go_wp2_with fail
  have h0 : (w.alloc (.cells #[.int .i64 0, .slice none 0 0] 24)).heap[w.heap.size]? = some (.cells #[.int .i64 0, .slice none 0 0] 24 (0, 0)) := heap_alloc_new _ _
  have D0 := Lib.hid (below_alloc w (.cells #[.int .i64 0, .slice none 0 0] 24))
  have H0 := Lib.hid h0
  have hgs : w.heap.size < (w.alloc (.cells #[.int .i64 0, .slice none 0 0] 24)).heap.size := by simp
  generalize (w.alloc (.cells #[.int .i64 0, .slice none 0 0] 24)) = wa at *
  clear h0
  refine (motifs_any _).mono ?_
  rintro e w1 ⟨rfl, hm, hz, hb⟩
  have H1 := Lib.hid (hb_below hb H0.out hgs)
  have D1 := Lib.hid (D0.out.trans (hb.mono (Nat.le_of_lt hgs)))
  have hs1 := hb.size
  have HZ := Lib.hid hz
  clear hb hz
  have EL := lookup_miss (P := Try.prog) (z := .agg #[.int .i64 0, .nilFunc]) (.string ⟨#[115, 116, 97, 114]⟩) .string Try.underlying65 Try.underlying9 hm trivial (by kernel_rfl) (by rfl)
  clear hm
  have h2 := heap_alloc_new w1 (.cells #[.int .i64 0, .nilFunc] 63)
  have b2 := below_alloc w1 (.cells #[.int .i64 0, .nilFunc] 63)
  go_upto_region 2 with fail
  generalize w1.alloc (.cells #[.int .i64 0, .nilFunc] 63) = wb at *
  clear EL
  have c0 := cell_of_heap (j := 0) h2 rfl
  have c1 := cell_of_heap (j := 1) h2 rfl
  have H2 := Lib.hid (hb_below b2 H1.out (by omega))
  have D2 := Lib.hid (D1.out.trans (b2.mono (by omega)))
  have hs2 := b2.size
  clear b2 h2
  go_wp2_with (refine store_row rfl _ _ _ rfl w.heap.size _ rfl rfl _ _ H2.out (by kernel_rfl) rfl (by kernel_rfl) ?_)
  intro wf hf hk2 hzf hB
  have HF := Lib.hid hf
  have DF := Lib.hid (hB _ _ D2.out (Nat.le_refl _))
  clear hf hk2 hzf hB
  go_wp2_with fail
  exact bodyPost_ret (results_bt rfl _ _ w.heap.size rfl rfl HF.out Try.underlying24 rfl (by kernel_rfl)) rfl ⟨_, rfl, ws_nil _, DF.out⟩
set_option maxHeartbeats 4000000 in
set_option maxRecDepth 100000 in
theorem make_fan13 (s : Nat) (w : World) (hlt : s < w.heap.size) (h0' : w.cell? ⟨s, 0, none⟩ = some (.int .i64 13)) : Calls Try.prog 24 #[.string ⟨#[102, 97, 110]⟩, .slice (some ⟨s, 0, none⟩) 1 1] w (Out (fanM 13) w) := by
  have CL := clo_fan 13 s
  generalize fanM 13 = M at *
  replace CL := Lib.hid CL
  unfold Out
  go_enter Try.func24, Try.ntmps24
  go_wp2_with fail
  have h0 : (w.alloc (.cells #[.int .i64 0, .slice none 0 0] 24)).heap[w.heap.size]? = some (.cells #[.int .i64 0, .slice none 0 0] 24 (0, 0)) := heap_alloc_new _ _
  have D0 := Lib.hid (below_alloc w (.cells #[.int .i64 0, .slice none 0 0] 24))
  have H0 := Lib.hid h0
  have hgs : w.heap.size < (w.alloc (.cells #[.int .i64 0, .slice none 0 0] 24)).heap.size := by simp
  generalize (w.alloc (.cells #[.int .i64 0, .slice none 0 0] 24)) = wa at *
  clear h0
  refine (motifs_any _).mono ?_
  rintro e w1 ⟨rfl, hm, hz, hb⟩
  have H1 := Lib.hid (hb_below hb H0.out hgs)
  have D1 := Lib.hid (D0.out.trans (hb.mono (Nat.le_of_lt hgs)))
  have hs1 := hb.size
  have HZ := Lib.hid hz
  clear hb hz
  have EL := lookup_hit (P := Try.prog) (i := 3) (v := .agg #[.int .i64 1, .func (.func 55) #[] #[]]) (.string ⟨#[102, 97, 110]⟩) .string Try.underlying65 Try.underlying9 hm trivial (by kernel_rfl)
  clear hm
  have h2 := heap_alloc_new w1 (.cells #[.int .i64 1, .func (.func 55) #[] #[]] 63)
  have b2 := below_alloc w1 (.cells #[.int .i64 1, .func (.func 55) #[] #[]] 63)
  go_upto_region 2 with fail
  generalize w1.alloc (.cells #[.int .i64 1, .func (.func 55) #[] #[]] 63) = wb at *
  clear EL
  have c0 := cell_of_heap (j := 0) h2 rfl
  have c1 := cell_of_heap (j := 1) h2 rfl
  have H2 := Lib.hid (hb_below b2 H1.out (by omega))
  have D2 := Lib.hid (D1.out.trans (b2.mono (by omega)))
  have hs2 := b2.size
  go_wp2_with fail
  refine (CL.out _ (by have := D2.out.size; omega) ((D2.out.cell (p := ⟨s, 0, none⟩) hlt).trans h0')).mono ?_
  rintro e w3 ⟨vv, rfl, hin, hb⟩
  obtain ⟨a3, c3, ee, _⟩ := id hin
  subst ee
  have HN := Lib.hid hin
  have H3 := Lib.hid (hb_below hb H2.out (by omega))
  have D3 := Lib.hid (D2.out.trans (hb.mono (by omega)))
  clear hb hin c0 c1 h2 b2
  go_wp2_with (refine store_row rfl _ _ _ rfl w.heap.size _ rfl rfl _ _ H3.out (by kernel_rfl) rfl (by kernel_rfl) ?_)
  intro wf hf hk2 hzf hB
  have HF := Lib.hid hf
  have DF := Lib.hid (hB _ _ D3.out (Nat.le_refl _))
  have SF := Lib.hid (ws_store HN.out H3.out hk2 hzf)
  clear hf hk2 hzf hB
  go_wp2_with fail
  exact bodyPost_ret (results_bt rfl _ _ w.heap.size rfl rfl HF.out Try.underlying24 rfl (by kernel_rfl)) rfl ⟨_, rfl, SF.out, DF.out⟩
set_option maxHeartbeats 4000000 in
set_option maxRecDepth 100000 in
theorem make_foot31 (s : Nat) (w : World) (hlt : s < w.heap.size) (h0' : w.cell? ⟨s, 0, none⟩ = some (.int .i64 3)) (h1' : w.cell? ⟨s, 1, none⟩ = some (.int .i64 1)) : Calls Try.prog 24 #[.string ⟨#[102, 111, 111, 116, 115, 105, 100, 101]⟩, .slice (some ⟨s, 0, none⟩) 2 2] w (Out (footM 3 1) w) := by
  have CL := clo_foot 3 1 s
  generalize footM 3 1 = M at *
  replace CL := Lib.hid CL
  unfold Out
  go_enter Try.func24, Try.ntmps24
  go_wp2_with fail
  have h0 : (w.alloc (.cells #[.int .i64 0, .slice none 0 0] 24)).heap[w.heap.size]? = some (.cells #[.int .i64 0, .slice none 0 0] 24 (0, 0)) := heap_alloc_new _ _
  have D0 := Lib.hid (below_alloc w (.cells #[.int .i64 0, .slice none 0 0] 24))
  have H0 := Lib.hid h0
  have hgs : w.heap.size < (w.alloc (.cells #[.int .i64 0, .slice none 0 0] 24)).heap.size := by simp
  generalize (w.alloc (.cells #[.int .i64 0, .slice none 0 0] 24)) = wa at *
  clear h0
  refine (motifs_any _).mono ?_
  rintro e w1 ⟨rfl, hm, hz, hb⟩
  have H1 := Lib.hid (hb_below hb H0.out hgs)
  have D1 := Lib.hid (D0.out.trans (hb.mono (Nat.le_of_lt hgs)))
  have hs1 := hb.size
  have HZ := Lib.hid hz
  clear hb hz
  have EL := lookup_hit (P := Try.prog) (i := 4) (v := .agg #[.int .i64 2, .func (.func 56) #[] #[]]) (.string ⟨#[102, 111, 111, 116, 115, 105, 100, 101]⟩) .string Try.underlying65 Try.underlying9 hm trivial (by kernel_rfl)
  clear hm
  have h2 := heap_alloc_new w1 (.cells #[.int .i64 2, .func (.func 56) #[] #[]] 63)
  have b2 := below_alloc w1 (.cells #[.int .i64 2, .func (.func 56) #[] #[]] 63)
  go_upto_region 2 with fail
  generalize w1.alloc (.cells #[.int .i64 2, .func (.func 56) #[] #[]] 63) = wb at *
  clear EL
  have c0 := cell_of_heap (j := 0) h2 rfl
  have c1 := cell_of_heap (j := 1) h2 rfl
  have H2 := Lib.hid (hb_below b2 H1.out (by omega))
  have D2 := Lib.hid (D1.out.trans (b2.mono (by omega)))
  have hs2 := b2.size
  go_wp2_with fail
  refine (CL.out _ (by have := D2.out.size; omega) ((D2.out.cell (p := ⟨s, 0, none⟩) hlt).trans h0') ((D2.out.cell (p := ⟨s, 1, none⟩) hlt).trans h1')).mono ?_
  rintro e w3 ⟨vv, rfl, hin, hb⟩
  obtain ⟨a3, c3, ee, _⟩ := id hin
  subst ee
  have HN := Lib.hid hin
  have H3 := Lib.hid (hb_below hb H2.out (by omega))
  have D3 := Lib.hid (D2.out.trans (hb.mono (by omega)))
  clear hb hin c0 c1 h2 b2
  go_wp2_with (refine store_row rfl _ _ _ rfl w.heap.size _ rfl rfl _ _ H3.out (by kernel_rfl) rfl (by kernel_rfl) ?_)
  intro wf hf hk2 hzf hB
  have HF := Lib.hid hf
  have DF := Lib.hid (hB _ _ D3.out (Nat.le_refl _))
  have SF := Lib.hid (ws_store HN.out H3.out hk2 hzf)
  clear hf hk2 hzf hB
  go_wp2_with fail
  exact bodyPost_ret (results_bt rfl _ _ w.heap.size rfl rfl HF.out Try.underlying24 rfl (by kernel_rfl)) rfl ⟨_, rfl, SF.out, DF.out⟩
set_option maxHeartbeats 4000000 in
set_option maxRecDepth 100000 in
theorem width_foot31 (s : Nat) (w : World) (hlt : s < w.heap.size) (h0' : w.cell? ⟨s, 0, none⟩ = some (.int .i64 3)) (h1' : w.cell? ⟨s, 1, none⟩ = some (.int .i64 1)) : Calls Try.prog 26 #[.string ⟨#[102, 111, 111, 116, 115, 105, 100, 101]⟩, .slice (some ⟨s, 0, none⟩) 2 2] w fun e w' => e = .returned (.tuple #[.int .i64 4, .int .i64 0]) ∧ Below w.heap.size w w' := by
  have CM : Calls Try.prog 24 #[.string ⟨#[102, 111, 111, 116, 115, 105, 100, 101]⟩, .slice (some ⟨s, 0, none⟩) 2 2] w fun e w' => ∃ a n c, e = .returned (.tuple #[.agg #[.int .i64 4, .slice a n c], .int .i64 0]) ∧ Below w.heap.size w w' := by
    refine (make_foot31 s w hlt h0' h1').mono ?_
    rintro e w' ⟨v, rfl, hv, hb⟩
    obtain ⟨a, c, ee, _⟩ := hv
    subst ee
    exact ⟨a, _, c, rfl, hb⟩
  go_enter Try.func26, Try.ntmps26
  go_wp2_with fail
  refine CM.mono ?_
  rintro e w1 ⟨a, n, c, rfl, hb⟩
  have h2 := heap_alloc_new w1 (.cells #[.int .i64 4, .slice a n c] 24)
  have b2 := below_alloc w1 (.cells #[.int .i64 4, .slice a n c] 24)
  have c0 := cell_of_heap (j := 0) h2 rfl
  have HB := Lib.hid (hb.trans (b2.mono hb.size))
  clear hb h2 b2
  go_wp2_with fail
  go_ret2
  exact ⟨rfl, HB.out⟩
end Go.Proofs.Ytabpjiidbailiaa
