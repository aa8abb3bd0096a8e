/- The closures of the motifs. -/
import Derived.Test.YtabpjiidbailiaaXC
namespace Go.Proofs.Ytabpjiidbailiaa
open Go.RowKit Go.MapKept
set_option linter.unusedSimpArgs false
attribute [local irreducible] wpQuiet
def millM : Mo := ⟨4, millL, 0⟩
set_option maxHeartbeats 4000000 in
set_option maxRecDepth 100000 in
theorem cl_plait (z : Int) (s off c : Nat) (w : World) (hlt : s < w.heap.size) (h0 : w.cell? ⟨s, off, none⟩ = some (.int .i64 z)) : Calls Try.prog 52 #[.slice (some ⟨s, off, none⟩) 1 c] w (Out (plaitM z) w) := by
  have CF := Lib.hid (fun W => Plait_any z W)
  generalize plaitM z = M at *
  unfold Out at *
  have d0 : (w.alloc (.cells #[.int .i64 0, .slice none 0 0] 24)).cell? ⟨s, off, none⟩ = some (.int .i64 z) := ((below_alloc w _).cell (p := ⟨s, off, none⟩) hlt).trans h0
  clear h0
  go_enter Try.func52, Try.ntmps52
  go_wp2_with fail
  have h0 : (w.alloc (.cells #[.int .i64 0, .slice none 0 0] 24)).heap[w.heap.size]? = some (.cells #[.int .i64 0, .slice none 0 0] 24 (0, 0)) := heap_alloc_new _ _
  have D0 := Lib.hid (below_alloc w (.cells #[.int .i64 0, .slice none 0 0] 24))
  have H0 := Lib.hid h0
  have hgs : w.heap.size < (w.alloc (.cells #[.int .i64 0, .slice none 0 0] 24)).heap.size := by simp
  generalize (w.alloc (.cells #[.int .i64 0, .slice none 0 0] 24)) = wa at *
  clear h0
  refine (CF.out _).mono ?_
  rintro e w1 ⟨vv, rfl, hin, hb⟩
  obtain ⟨a1, c1, ee, _⟩ := id hin
  subst ee
  have HN := Lib.hid hin
  have H1 := Lib.hid (hb_below hb H0.out hgs)
  have D1 := Lib.hid (D0.out.trans (hb.mono (Nat.le_of_lt hgs)))
  clear hb hin
  go_wp2_with (refine store_row rfl _ _ _ rfl w.heap.size _ rfl rfl _ _ H1.out (by kernel_rfl) rfl (by kernel_rfl) ?_)
  intro wf hf hk2 hzf hB
  have HF := Lib.hid hf
  have DF := Lib.hid (hB _ _ D1.out (Nat.le_refl _))
  have SF := Lib.hid (ws_store HN.out H1.out hk2 hzf)
  clear hf hk2 hzf hB
  go_wp2_with fail
  exact bodyPost_ret (results_bt rfl _ _ w.heap.size rfl rfl HF.out Try.underlying24 rfl (by kernel_rfl)) rfl ⟨_, rfl, SF.out, DF.out⟩
set_option maxHeartbeats 4000000 in
set_option maxRecDepth 100000 in
theorem cl_picot (z : Int) (s off c : Nat) (w : World) (hlt : s < w.heap.size) (h0 : w.cell? ⟨s, off, none⟩ = some (.int .i64 z)) : Calls Try.prog 53 #[.slice (some ⟨s, off, none⟩) 1 c] w (Out (picotM z) w) := by
  have CF := Lib.hid (fun W => Picot_any z W)
  generalize picotM z = M at *
  unfold Out at *
  have d0 : (w.alloc (.cells #[.int .i64 0, .slice none 0 0] 24)).cell? ⟨s, off, none⟩ = some (.int .i64 z) := ((below_alloc w _).cell (p := ⟨s, off, none⟩) hlt).trans h0
  clear h0
  go_enter Try.func53, Try.ntmps53
  go_wp2_with fail
  have h0 : (w.alloc (.cells #[.int .i64 0, .slice none 0 0] 24)).heap[w.heap.size]? = some (.cells #[.int .i64 0, .slice none 0 0] 24 (0, 0)) := heap_alloc_new _ _
  have D0 := Lib.hid (below_alloc w (.cells #[.int .i64 0, .slice none 0 0] 24))
  have H0 := Lib.hid h0
  have hgs : w.heap.size < (w.alloc (.cells #[.int .i64 0, .slice none 0 0] 24)).heap.size := by simp
  generalize (w.alloc (.cells #[.int .i64 0, .slice none 0 0] 24)) = wa at *
  clear h0
  refine (CF.out _).mono ?_
  rintro e w1 ⟨vv, rfl, hin, hb⟩
  obtain ⟨a1, c1, ee, _⟩ := id hin
  subst ee
  have HN := Lib.hid hin
  have H1 := Lib.hid (hb_below hb H0.out hgs)
  have D1 := Lib.hid (D0.out.trans (hb.mono (Nat.le_of_lt hgs)))
  clear hb hin
  go_wp2_with (refine store_row rfl _ _ _ rfl w.heap.size _ rfl rfl _ _ H1.out (by kernel_rfl) rfl (by kernel_rfl) ?_)
  intro wf hf hk2 hzf hB
  have HF := Lib.hid hf
  have DF := Lib.hid (hB _ _ D1.out (Nat.le_refl _))
  have SF := Lib.hid (ws_store HN.out H1.out hk2 hzf)
  clear hf hk2 hzf hB
  go_wp2_with fail
  exact bodyPost_ret (results_bt rfl _ _ w.heap.size rfl rfl HF.out Try.underlying24 rfl (by kernel_rfl)) rfl ⟨_, rfl, SF.out, DF.out⟩
set_option maxHeartbeats 4000000 in
set_option maxRecDepth 100000 in
theorem cl_spider (z y : Int) (s off c : Nat) (w : World) (hlt : s < w.heap.size) (h0 : w.cell? ⟨s, off, none⟩ = some (.int .i64 z)) (h1 : w.cell? ⟨s, off + 1, none⟩ = some (.int .i64 y)) : Calls Try.prog 54 #[.slice (some ⟨s, off, none⟩) 2 c] w (Out (spiderM z y) w) := by
  have CF := Lib.hid (fun W => Spider_any z y W)
  generalize spiderM z y = M at *
  unfold Out at *
  have d0 : (w.alloc (.cells #[.int .i64 0, .slice none 0 0] 24)).cell? ⟨s, off, none⟩ = some (.int .i64 z) := ((below_alloc w _).cell (p := ⟨s, off, none⟩) hlt).trans h0
  have d1 : (w.alloc (.cells #[.int .i64 0, .slice none 0 0] 24)).cell? ⟨s, off + 1, none⟩ = some (.int .i64 y) := ((below_alloc w _).cell (p := ⟨s, off + 1, none⟩) hlt).trans h1
  clear h0 h1
  go_enter Try.func54, Try.ntmps54
  go_wp2_with fail
  have h0 : (w.alloc (.cells #[.int .i64 0, .slice none 0 0] 24)).heap[w.heap.size]? = some (.cells #[.int .i64 0, .slice none 0 0] 24 (0, 0)) := heap_alloc_new _ _
  have D0 := Lib.hid (below_alloc w (.cells #[.int .i64 0, .slice none 0 0] 24))
  have H0 := Lib.hid h0
  have hgs : w.heap.size < (w.alloc (.cells #[.int .i64 0, .slice none 0 0] 24)).heap.size := by simp
  generalize (w.alloc (.cells #[.int .i64 0, .slice none 0 0] 24)) = wa at *
  clear h0
  go_region_law (first
    | (go_simp; go_at_call 13; refine (CF.out _).mono ?_; rintro e w1 ⟨vv, rfl, hin, hb0⟩; have hb : Below wa.heap.size wa w1 := (by first | exact hb0 | exact ((Below.refl _ wa).drew).trans hb0); obtain ⟨a1, c1, ee, _⟩ := id hin; subst ee; have HN := Lib.hid hin; have H1 := Lib.hid (hb_below hb H0.out hgs); have D1 := Lib.hid (D0.out.trans (hb.mono (Nat.le_of_lt hgs))); have e0 := cell_of_heap (j := 0) H1.out rfl; have e1 := cell_of_heap (j := 1) H1.out rfl; have f0 := frozen_of_heap H1.out 0; have f1 := frozen_of_heap H1.out 1; clear hb hb0 hin))
  all_goals
    have HF := Lib.hid (show ((w1.setCell ⟨w.heap.size, 0, none⟩ (.int .i64 M.p)).setCell ⟨w.heap.size, 1, none⟩ (.slice a1 M.L.length c1)).heap[w.heap.size]? = some (.cells #[.int .i64 M.p, .slice a1 M.L.length c1] 24 (0, 0)) from heap_setCell_same _ _ _ _ _ _ (heap_setCell_same _ _ _ _ _ _ H1.out))
    have SF := Lib.hid (ws_store (wf := ((w1.setCell ⟨w.heap.size, 0, none⟩ (.int .i64 M.p)).setCell ⟨w.heap.size, 1, none⟩ (.slice a1 M.L.length c1))) HN.out H1.out (fun k hn => (heap_setCell_other _ _ _ _ hn).trans (heap_setCell_other _ _ _ _ hn)) (by simp))
    have DF := Lib.hid ((D1.out.setCell (p := ⟨w.heap.size, 0, none⟩) (Nat.le_refl _) (.int .i64 M.p)).setCell (p := ⟨w.heap.size, 1, none⟩) (Nat.le_refl _) (.slice a1 M.L.length c1))
    go_wp2_with fail
    exact bodyPost_ret (results_bt rfl _ _ w.heap.size rfl rfl HF.out Try.underlying24 rfl (by kernel_rfl)) rfl ⟨_, rfl, SF.out, DF.out⟩
set_option maxHeartbeats 4000000 in
set_option maxRecDepth 100000 in
theorem cl_fan (z : Int) (s off c : Nat) (w : World) (hlt : s < w.heap.size) (h0 : w.cell? ⟨s, off, none⟩ = some (.int .i64 z)) : Calls Try.prog 55 #[.slice (some ⟨s, off, none⟩) 1 c] w (Out (fanM z) w) := by
  have CF := Lib.hid (fun W => Fan_any z W)
  generalize fanM z = M at *
  unfold Out at *
  have d0 : (w.alloc (.cells #[.int .i64 0, .slice none 0 0] 24)).cell? ⟨s, off, none⟩ = some (.int .i64 z) := ((below_alloc w _).cell (p := ⟨s, off, none⟩) hlt).trans h0
  clear h0
  go_enter Try.func55, Try.ntmps55
  go_wp2_with fail
  have h0 : (w.alloc (.cells #[.int .i64 0, .slice none 0 0] 24)).heap[w.heap.size]? = some (.cells #[.int .i64 0, .slice none 0 0] 24 (0, 0)) := heap_alloc_new _ _
  have D0 := Lib.hid (below_alloc w (.cells #[.int .i64 0, .slice none 0 0] 24))
  have H0 := Lib.hid h0
  have hgs : w.heap.size < (w.alloc (.cells #[.int .i64 0, .slice none 0 0] 24)).heap.size := by simp
  generalize (w.alloc (.cells #[.int .i64 0, .slice none 0 0] 24)) = wa at *
  clear h0
  refine (CF.out _).mono ?_
  rintro e w1 ⟨vv, rfl, hin, hb⟩
  obtain ⟨a1, c1, ee, _⟩ := id hin
  subst ee
  have HN := Lib.hid hin
  have H1 := Lib.hid (hb_below hb H0.out hgs)
  have D1 := Lib.hid (D0.out.trans (hb.mono (Nat.le_of_lt hgs)))
  clear hb hin
  go_wp2_with (refine store_row rfl _ _ _ rfl w.heap.size _ rfl rfl _ _ H1.out (by kernel_rfl) rfl (by kernel_rfl) ?_)
  intro wf hf hk2 hzf hB
  have HF := Lib.hid hf
  have DF := Lib.hid (hB _ _ D1.out (Nat.le_refl _))
  have SF := Lib.hid (ws_store HN.out H1.out hk2 hzf)
  clear hf hk2 hzf hB
  go_wp2_with fail
  exact bodyPost_ret (results_bt rfl _ _ w.heap.size rfl rfl HF.out Try.underlying24 rfl (by kernel_rfl)) rfl ⟨_, rfl, SF.out, DF.out⟩
set_option maxHeartbeats 4000000 in
set_option maxRecDepth 100000 in
theorem cl_footside (z y : Int) (s off c : Nat) (w : World) (hlt : s < w.heap.size) (h0 : w.cell? ⟨s, off, none⟩ = some (.int .i64 z)) (h1 : w.cell? ⟨s, off + 1, none⟩ = some (.int .i64 y)) : Calls Try.prog 56 #[.slice (some ⟨s, off, none⟩) 2 c] w (Out (footM z y) w) := by
  have CF := Lib.hid (fun W => Footside_any z y W)
  generalize footM z y = M at *
  unfold Out at *
  have d0 : (w.alloc (.cells #[.int .i64 0, .slice none 0 0] 24)).cell? ⟨s, off, none⟩ = some (.int .i64 z) := ((below_alloc w _).cell (p := ⟨s, off, none⟩) hlt).trans h0
  have d1 : (w.alloc (.cells #[.int .i64 0, .slice none 0 0] 24)).cell? ⟨s, off + 1, none⟩ = some (.int .i64 y) := ((below_alloc w _).cell (p := ⟨s, off + 1, none⟩) hlt).trans h1
  clear h0 h1
  go_enter Try.func56, Try.ntmps56
  go_wp2_with fail
  have h0 : (w.alloc (.cells #[.int .i64 0, .slice none 0 0] 24)).heap[w.heap.size]? = some (.cells #[.int .i64 0, .slice none 0 0] 24 (0, 0)) := heap_alloc_new _ _
  have D0 := Lib.hid (below_alloc w (.cells #[.int .i64 0, .slice none 0 0] 24))
  have H0 := Lib.hid h0
  have hgs : w.heap.size < (w.alloc (.cells #[.int .i64 0, .slice none 0 0] 24)).heap.size := by simp
  generalize (w.alloc (.cells #[.int .i64 0, .slice none 0 0] 24)) = wa at *
  clear h0
  go_region_law (first
    | (go_simp; go_at_call 17; refine (CF.out _).mono ?_; rintro e w1 ⟨vv, rfl, hin, hb0⟩; have hb : Below wa.heap.size wa w1 := (by first | exact hb0 | exact ((Below.refl _ wa).drew).trans hb0); obtain ⟨a1, c1, ee, _⟩ := id hin; subst ee; have HN := Lib.hid hin; have H1 := Lib.hid (hb_below hb H0.out hgs); have D1 := Lib.hid (D0.out.trans (hb.mono (Nat.le_of_lt hgs))); have e0 := cell_of_heap (j := 0) H1.out rfl; have e1 := cell_of_heap (j := 1) H1.out rfl; have f0 := frozen_of_heap H1.out 0; have f1 := frozen_of_heap H1.out 1; clear hb hb0 hin))
  all_goals
    have HF := Lib.hid (show ((w1.setCell ⟨w.heap.size, 0, none⟩ (.int .i64 M.p)).setCell ⟨w.heap.size, 1, none⟩ (.slice a1 M.L.length c1)).heap[w.heap.size]? = some (.cells #[.int .i64 M.p, .slice a1 M.L.length c1] 24 (0, 0)) from heap_setCell_same _ _ _ _ _ _ (heap_setCell_same _ _ _ _ _ _ H1.out))
    have SF := Lib.hid (ws_store (wf := ((w1.setCell ⟨w.heap.size, 0, none⟩ (.int .i64 M.p)).setCell ⟨w.heap.size, 1, none⟩ (.slice a1 M.L.length c1))) HN.out H1.out (fun k hn => (heap_setCell_other _ _ _ _ hn).trans (heap_setCell_other _ _ _ _ hn)) (by simp))
    have DF := Lib.hid ((D1.out.setCell (p := ⟨w.heap.size, 0, none⟩) (Nat.le_refl _) (.int .i64 M.p)).setCell (p := ⟨w.heap.size, 1, none⟩) (Nat.le_refl _) (.slice a1 M.L.length c1))
    go_wp2_with fail
    exact bodyPost_ret (results_bt rfl _ _ w.heap.size rfl rfl HF.out Try.underlying24 rfl (by kernel_rfl)) rfl ⟨_, rfl, SF.out, DF.out⟩
set_option maxHeartbeats 4000000 in
set_option maxRecDepth 100000 in
theorem cl_windmill (v : Value) (w : World) : Calls Try.prog 57 #[v] w (Out millM w) := by
  unfold Out millM
  go_enter Try.func57, Try.ntmps57
  go_wp2_with fail
  have h0 : (w.alloc (.cells #[.int .i64 0, .slice none 0 0] 24)).heap[w.heap.size]? = some (.cells #[.int .i64 0, .slice none 0 0] 24 (0, 0)) := heap_alloc_new _ _
  have D0 := Lib.hid (below_alloc w (.cells #[.int .i64 0, .slice none 0 0] 24))
  have H0 := Lib.hid h0
  have hgs : w.heap.size < (w.alloc (.cells #[.int .i64 0, .slice none 0 0] 24)).heap.size := by simp
  generalize (w.alloc (.cells #[.int .i64 0, .slice none 0 0] 24)) = wa at *
  clear h0
  refine (Windmill_any _).mono ?_
  rintro e w1 ⟨vv, rfl, hin, hb⟩
  obtain ⟨a1, c1, ee, _⟩ := id hin
  subst ee
  have HN := Lib.hid hin
  have H1 := Lib.hid (hb_below hb H0.out hgs)
  have D1 := Lib.hid (D0.out.trans (hb.mono (Nat.le_of_lt hgs)))
  clear hb hin
  go_wp2_with (refine store_row rfl _ _ _ rfl w.heap.size _ rfl rfl _ _ H1.out (by kernel_rfl) rfl (by kernel_rfl) ?_)
  intro wf hf hk2 hzf hB
  have HF := Lib.hid hf
  have DF := Lib.hid (hB _ _ D1.out (Nat.le_refl _))
  have SF := Lib.hid (ws_store HN.out H1.out hk2 hzf)
  clear hf hk2 hzf hB
  go_wp2_with fail
  exact bodyPost_ret (results_bt rfl _ _ w.heap.size rfl rfl HF.out Try.underlying24 rfl (by kernel_rfl)) rfl ⟨_, rfl, SF.out, DF.out⟩
end Go.Proofs.Ytabpjiidbailiaa
