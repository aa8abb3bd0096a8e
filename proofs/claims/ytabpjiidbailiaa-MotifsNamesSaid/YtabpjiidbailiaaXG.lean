/- Make and Width of the reference, whatever the name and the sizes. -/
import Derived.Test.YtabpjiidbailiaaXF
import Derived.Test.YtabpjiidbailiaaWT
import Derived.Test.YtabpjiidbailiaaWX
namespace Go.Proofs.Ytabpjiidbailiaa
open Go.RowKit Go.MapKept
set_option linter.unusedSimpArgs false
attribute [local irreducible] wpQuiet
theorem str_ne {a b : ByteArray} (h : ¬ a = b) : (a.toList == b.toList) = false := by
  rw [beq_eq_false_iff_ne, ByteArray.toList_eq, ByteArray.toList_eq]
  exact fun e => h (ByteArray.ext (Array.toList_inj.mp e))
theorem str_ne' {a : ByteArray} {l : List UInt8} (h : ¬ a = ⟨l.toArray⟩) : (a.toList == l) = false := by
  rw [beq_eq_false_iff_ne, ByteArray.toList_eq]
  exact fun e => h (ByteArray.ext (Array.toList_inj.mp e))
set_option maxHeartbeats 4000000 in
set_option maxRecDepth 100000 in
theorem rm_plait_len (a : Option Addr) (n c : Nat) (hq : ((n : Int) == 1) = false) (w : World) : Calls Try.prog 25 #[.string ⟨#[112, 108, 97, 105, 116]⟩, .slice a n c] w (Out (moBad 2) w) := by
  unfold Out moBad at *
  go_enter Try.func25, Try.ntmps25
  go_wp2_with fail
  exact bodyPost_ret (results_bt rfl _ _ w.heap.size rfl rfl (heap_alloc_new _ _) Try.underlying24 rfl (by kernel_rfl)) rfl ⟨_, rfl, ws_nil _, below_alloc w _⟩
set_option maxHeartbeats 4000000 in
set_option maxRecDepth 100000 in
theorem rm_plait (z : Int) (s off c : Nat) (w : World) (hlt : s < w.heap.size) (h0 : w.cell? ⟨s, off, none⟩ = some (.int .i64 z)) : Calls Try.prog 25 #[.string ⟨#[112, 108, 97, 105, 116]⟩, .slice (some ⟨s, off, none⟩) 1 c] w (Out (plaitM z) w) := by
  have CF := Lib.hid (fun W => refPlait_any z W)
  generalize plaitM z = M at *
  unfold Out at *
  have d0 : (w.alloc (.cells #[.int .i64 0, .slice none 0 0] 24)).cell? ⟨s, off, none⟩ = some (.int .i64 z) := ((below_alloc w _).cell (p := ⟨s, off, none⟩) hlt).trans h0
  clear h0
  unfold Out at *
  go_enter Try.func25, Try.ntmps25
  go_wp2_with fail
  have h0 : (w.alloc (.cells #[.int .i64 0, .slice none 0 0] 24)).heap[w.heap.size]? = some (.cells #[.int .i64 0, .slice none 0 0] 24 (0, 0)) := heap_alloc_new _ _
  have D0 := Lib.hid (below_alloc w (.cells #[.int .i64 0, .slice none 0 0] 24))
  have H0 := Lib.hid h0
  have hgs : w.heap.size < (w.alloc (.cells #[.int .i64 0, .slice none 0 0] 24)).heap.size := by simp
  generalize (w.alloc (.cells #[.int .i64 0, .slice none 0 0] 24)) = wa at *
  clear h0
  refine (CF.out _).mono ?_
  rintro e w1 ⟨vv, rfl, hin, hb⟩
  obtain ⟨a1, c1, ee, _⟩ := id hin
  subst ee
  have HN := Lib.hid hin
  have H1 := Lib.hid (hb_below hb H0.out hgs)
  have D1 := Lib.hid (D0.out.trans (hb.mono (Nat.le_of_lt hgs)))
  clear hb hin
  go_wp2_with (refine store_row rfl _ _ _ rfl w.heap.size _ rfl rfl _ _ H1.out (by kernel_rfl) rfl (by kernel_rfl) ?_)
  intro wf hf hk2 hzf hB
  have HF := Lib.hid hf
  have DF := Lib.hid (hB _ _ D1.out (Nat.le_refl _))
  have SF := Lib.hid (ws_store HN.out H1.out hk2 hzf)
  clear hf hk2 hzf hB
  go_wp2_with fail
  exact bodyPost_ret (results_bt rfl _ _ w.heap.size rfl rfl HF.out Try.underlying24 rfl (by kernel_rfl)) rfl ⟨_, rfl, SF.out, DF.out⟩
set_option maxHeartbeats 4000000 in
set_option maxRecDepth 100000 in
theorem rm_picot_len (a : Option Addr) (n c : Nat) (hq : ((n : Int) == 1) = false) (w : World) : Calls Try.prog 25 #[.string ⟨#[112, 105, 99, 111, 116]⟩, .slice a n c] w (Out (moBad 2) w) := by
  unfold Out moBad at *
  go_enter Try.func25, Try.ntmps25
  go_wp2_with fail
  exact bodyPost_ret (results_bt rfl _ _ w.heap.size rfl rfl (heap_alloc_new _ _) Try.underlying24 rfl (by kernel_rfl)) rfl ⟨_, rfl, ws_nil _, below_alloc w _⟩
set_option maxHeartbeats 4000000 in
set_option maxRecDepth 100000 in
theorem rm_picot (z : Int) (s off c : Nat) (w : World) (hlt : s < w.heap.size) (h0 : w.cell? ⟨s, off, none⟩ = some (.int .i64 z)) : Calls Try.prog 25 #[.string ⟨#[112, 105, 99, 111, 116]⟩, .slice (some ⟨s, off, none⟩) 1 c] w (Out (picotM z) w) := by
  have CF := Lib.hid (fun W => refPicot_any z W)
  generalize picotM z = M at *
  unfold Out at *
  have d0 : (w.alloc (.cells #[.int .i64 0, .slice none 0 0] 24)).cell? ⟨s, off, none⟩ = some (.int .i64 z) := ((below_alloc w _).cell (p := ⟨s, off, none⟩) hlt).trans h0
  clear h0
  unfold Out at *
  go_enter Try.func25, Try.ntmps25
  go_wp2_with fail
  have h0 : (w.alloc (.cells #[.int .i64 0, .slice none 0 0] 24)).heap[w.heap.size]? = some (.cells #[.int .i64 0, .slice none 0 0] 24 (0, 0)) := heap_alloc_new _ _
  have D0 := Lib.hid (below_alloc w (.cells #[.int .i64 0, .slice none 0 0] 24))
  have H0 := Lib.hid h0
  have hgs : w.heap.size < (w.alloc (.cells #[.int .i64 0, .slice none 0 0] 24)).heap.size := by simp
  generalize (w.alloc (.cells #[.int .i64 0, .slice none 0 0] 24)) = wa at *
  clear h0
  refine (CF.out _).mono ?_
  rintro e w1 ⟨vv, rfl, hin, hb⟩
  obtain ⟨a1, c1, ee, _⟩ := id hin
  subst ee
  have HN := Lib.hid hin
  have H1 := Lib.hid (hb_below hb H0.out hgs)
  have D1 := Lib.hid (D0.out.trans (hb.mono (Nat.le_of_lt hgs)))
  clear hb hin
  go_wp2_with (refine store_row rfl _ _ _ rfl w.heap.size _ rfl rfl _ _ H1.out (by kernel_rfl) rfl (by kernel_rfl) ?_)
  intro wf hf hk2 hzf hB
  have HF := Lib.hid hf
  have DF := Lib.hid (hB _ _ D1.out (Nat.le_refl _))
  have SF := Lib.hid (ws_store HN.out H1.out hk2 hzf)
  clear hf hk2 hzf hB
  go_wp2_with fail
  exact bodyPost_ret (results_bt rfl _ _ w.heap.size rfl rfl HF.out Try.underlying24 rfl (by kernel_rfl)) rfl ⟨_, rfl, SF.out, DF.out⟩
set_option maxHeartbeats 4000000 in
set_option maxRecDepth 100000 in
theorem rm_spider_len (a : Option Addr) (n c : Nat) (hq : ((n : Int) == 2) = false) (w : World) : Calls Try.prog 25 #[.string ⟨#[115, 112, 105, 100, 101, 114]⟩, .slice a n c] w (Out (moBad 2) w) := by
  unfold Out moBad at *
  go_enter Try.func25, Try.ntmps25
  go_wp2_with fail
  exact bodyPost_ret (results_bt rfl _ _ w.heap.size rfl rfl (heap_alloc_new _ _) Try.underlying24 rfl (by kernel_rfl)) rfl ⟨_, rfl, ws_nil _, below_alloc w _⟩
set_option maxHeartbeats 4000000 in
set_option maxRecDepth 100000 in
theorem rm_spider (z y : Int) (s off c : Nat) (w : World) (hlt : s < w.heap.size) (h0 : w.cell? ⟨s, off, none⟩ = some (.int .i64 z)) (h1 : w.cell? ⟨s, off + 1, none⟩ = some (.int .i64 y)) : Calls Try.prog 25 #[.string ⟨#[115, 112, 105, 100, 101, 114]⟩, .slice (some ⟨s, off, none⟩) 2 c] w (Out (spiderM z y) w) := by
  have CF := Lib.hid (fun W => refSpider_any z y W)
  generalize spiderM z y = M at *
  unfold Out at *
  have d0 : (w.alloc (.cells #[.int .i64 0, .slice none 0 0] 24)).cell? ⟨s, off, none⟩ = some (.int .i64 z) := ((below_alloc w _).cell (p := ⟨s, off, none⟩) hlt).trans h0
  have d1 : (w.alloc (.cells #[.int .i64 0, .slice none 0 0] 24)).cell? ⟨s, off + 1, none⟩ = some (.int .i64 y) := ((below_alloc w _).cell (p := ⟨s, off + 1, none⟩) hlt).trans h1
  clear h0 h1
  unfold Out at *
  go_enter Try.func25, Try.ntmps25
  go_wp2_with fail
  have h0 : (w.alloc (.cells #[.int .i64 0, .slice none 0 0] 24)).heap[w.heap.size]? = some (.cells #[.int .i64 0, .slice none 0 0] 24 (0, 0)) := heap_alloc_new _ _
  have D0 := Lib.hid (below_alloc w (.cells #[.int .i64 0, .slice none 0 0] 24))
  have H0 := Lib.hid h0
  have hgs : w.heap.size < (w.alloc (.cells #[.int .i64 0, .slice none 0 0] 24)).heap.size := by simp
  generalize (w.alloc (.cells #[.int .i64 0, .slice none 0 0] 24)) = wa at *
  clear h0
  go_region_law (first
    | (go_simp; go_at_call 14; refine (CF.out _).mono ?_; rintro e w1 ⟨vv, rfl, hin, hb0⟩; have hb : Below wa.heap.size wa w1 := (by first | exact hb0 | exact ((Below.refl _ wa).drew).trans hb0); obtain ⟨a1, c1, ee, _⟩ := id hin; subst ee; have HN := Lib.hid hin; have H1 := Lib.hid (hb_below hb H0.out hgs); have D1 := Lib.hid (D0.out.trans (hb.mono (Nat.le_of_lt hgs))); have e0 := cell_of_heap (j := 0) H1.out rfl; have e1 := cell_of_heap (j := 1) H1.out rfl; have f0 := frozen_of_heap H1.out 0; have f1 := frozen_of_heap H1.out 1; clear hb hb0 hin))
  all_goals
    have HF := Lib.hid (show ((w1.setCell ⟨w.heap.size, 0, none⟩ (.int .i64 M.p)).setCell ⟨w.heap.size, 1, none⟩ (.slice a1 M.L.length c1)).heap[w.heap.size]? = some (.cells #[.int .i64 M.p, .slice a1 M.L.length c1] 24 (0, 0)) from heap_setCell_same _ _ _ _ _ _ (heap_setCell_same _ _ _ _ _ _ H1.out))
    have SF := Lib.hid (ws_store (wf := ((w1.setCell ⟨w.heap.size, 0, none⟩ (.int .i64 M.p)).setCell ⟨w.heap.size, 1, none⟩ (.slice a1 M.L.length c1))) HN.out H1.out (fun k hn => (heap_setCell_other _ _ _ _ hn).trans (heap_setCell_other _ _ _ _ hn)) (by simp))
    have DF := Lib.hid ((D1.out.setCell (p := ⟨w.heap.size, 0, none⟩) (Nat.le_refl _) (.int .i64 M.p)).setCell (p := ⟨w.heap.size, 1, none⟩) (Nat.le_refl _) (.slice a1 M.L.length c1))
    go_wp2_with fail
    exact bodyPost_ret (results_bt rfl _ _ w.heap.size rfl rfl HF.out Try.underlying24 rfl (by kernel_rfl)) rfl ⟨_, rfl, SF.out, DF.out⟩
set_option maxHeartbeats 4000000 in
set_option maxRecDepth 100000 in
theorem rm_fan_len (a : Option Addr) (n c : Nat) (hq : ((n : Int) == 1) = false) (w : World) : Calls Try.prog 25 #[.string ⟨#[102, 97, 110]⟩, .slice a n c] w (Out (moBad 2) w) := by
  unfold Out moBad at *
  go_enter Try.func25, Try.ntmps25
  go_wp2_with fail
  exact bodyPost_ret (results_bt rfl _ _ w.heap.size rfl rfl (heap_alloc_new _ _) Try.underlying24 rfl (by kernel_rfl)) rfl ⟨_, rfl, ws_nil _, below_alloc w _⟩
set_option maxHeartbeats 4000000 in
set_option maxRecDepth 100000 in
theorem rm_fan (z : Int) (s off c : Nat) (w : World) (hlt : s < w.heap.size) (h0 : w.cell? ⟨s, off, none⟩ = some (.int .i64 z)) : Calls Try.prog 25 #[.string ⟨#[102, 97, 110]⟩, .slice (some ⟨s, off, none⟩) 1 c] w (Out (fanM z) w) := by
  have CF := Lib.hid (fun W => refFan_any z W)
  generalize fanM z = M at *
  unfold Out at *
  have d0 : (w.alloc (.cells #[.int .i64 0, .slice none 0 0] 24)).cell? ⟨s, off, none⟩ = some (.int .i64 z) := ((below_alloc w _).cell (p := ⟨s, off, none⟩) hlt).trans h0
  clear h0
  unfold Out at *
  go_enter Try.func25, Try.ntmps25
  go_wp2_with fail
  have h0 : (w.alloc (.cells #[.int .i64 0, .slice none 0 0] 24)).heap[w.heap.size]? = some (.cells #[.int .i64 0, .slice none 0 0] 24 (0, 0)) := heap_alloc_new _ _
  have D0 := Lib.hid (below_alloc w (.cells #[.int .i64 0, .slice none 0 0] 24))
  have H0 := Lib.hid h0
  have hgs : w.heap.size < (w.alloc (.cells #[.int .i64 0, .slice none 0 0] 24)).heap.size := by simp
  generalize (w.alloc (.cells #[.int .i64 0, .slice none 0 0] 24)) = wa at *
  clear h0
  refine (CF.out _).mono ?_
  rintro e w1 ⟨vv, rfl, hin, hb⟩
  obtain ⟨a1, c1, ee, _⟩ := id hin
  subst ee
  have HN := Lib.hid hin
  have H1 := Lib.hid (hb_below hb H0.out hgs)
  have D1 := Lib.hid (D0.out.trans (hb.mono (Nat.le_of_lt hgs)))
  clear hb hin
  go_wp2_with (refine store_row rfl _ _ _ rfl w.heap.size _ rfl rfl _ _ H1.out (by kernel_rfl) rfl (by kernel_rfl) ?_)
  intro wf hf hk2 hzf hB
  have HF := Lib.hid hf
  have DF := Lib.hid (hB _ _ D1.out (Nat.le_refl _))
  have SF := Lib.hid (ws_store HN.out H1.out hk2 hzf)
  clear hf hk2 hzf hB
  go_wp2_with fail
  exact bodyPost_ret (results_bt rfl _ _ w.heap.size rfl rfl HF.out Try.underlying24 rfl (by kernel_rfl)) rfl ⟨_, rfl, SF.out, DF.out⟩
set_option maxHeartbeats 4000000 in
set_option maxRecDepth 100000 in
theorem rm_footside_len (a : Option Addr) (n c : Nat) (hq : ((n : Int) == 2) = false) (w : World) : Calls Try.prog 25 #[.string ⟨#[102, 111, 111, 116, 115, 105, 100, 101]⟩, .slice a n c] w (Out (moBad 2) w) := by
  unfold Out moBad at *
  go_enter Try.func25, Try.ntmps25
  go_wp2_with fail
  exact bodyPost_ret (results_bt rfl _ _ w.heap.size rfl rfl (heap_alloc_new _ _) Try.underlying24 rfl (by kernel_rfl)) rfl ⟨_, rfl, ws_nil _, below_alloc w _⟩
set_option maxHeartbeats 4000000 in
set_option maxRecDepth 100000 in
theorem rm_footside (z y : Int) (s off c : Nat) (w : World) (hlt : s < w.heap.size) (h0 : w.cell? ⟨s, off, none⟩ = some (.int .i64 z)) (h1 : w.cell? ⟨s, off + 1, none⟩ = some (.int .i64 y)) : Calls Try.prog 25 #[.string ⟨#[102, 111, 111, 116, 115, 105, 100, 101]⟩, .slice (some ⟨s, off, none⟩) 2 c] w (Out (footM z y) w) := by
  have CF := Lib.hid (fun W => refFootside_any z y W)
  generalize footM z y = M at *
  unfold Out at *
  have d0 : (w.alloc (.cells #[.int .i64 0, .slice none 0 0] 24)).cell? ⟨s, off, none⟩ = some (.int .i64 z) := ((below_alloc w _).cell (p := ⟨s, off, none⟩) hlt).trans h0
  have d1 : (w.alloc (.cells #[.int .i64 0, .slice none 0 0] 24)).cell? ⟨s, off + 1, none⟩ = some (.int .i64 y) := ((below_alloc w _).cell (p := ⟨s, off + 1, none⟩) hlt).trans h1
  clear h0 h1
  unfold Out at *
  go_enter Try.func25, Try.ntmps25
  go_wp2_with fail
  have h0 : (w.alloc (.cells #[.int .i64 0, .slice none 0 0] 24)).heap[w.heap.size]? = some (.cells #[.int .i64 0, .slice none 0 0] 24 (0, 0)) := heap_alloc_new _ _
  have D0 := Lib.hid (below_alloc w (.cells #[.int .i64 0, .slice none 0 0] 24))
  have H0 := Lib.hid h0
  have hgs : w.heap.size < (w.alloc (.cells #[.int .i64 0, .slice none 0 0] 24)).heap.size := by simp
  generalize (w.alloc (.cells #[.int .i64 0, .slice none 0 0] 24)) = wa at *
  clear h0
  go_region_law (first
    | (go_simp; go_at_call 18; refine (CF.out _).mono ?_; rintro e w1 ⟨vv, rfl, hin, hb0⟩; have hb : Below wa.heap.size wa w1 := (by first | exact hb0 | exact ((Below.refl _ wa).drew).trans hb0); obtain ⟨a1, c1, ee, _⟩ := id hin; subst ee; have HN := Lib.hid hin; have H1 := Lib.hid (hb_below hb H0.out hgs); have D1 := Lib.hid (D0.out.trans (hb.mono (Nat.le_of_lt hgs))); have e0 := cell_of_heap (j := 0) H1.out rfl; have e1 := cell_of_heap (j := 1) H1.out rfl; have f0 := frozen_of_heap H1.out 0; have f1 := frozen_of_heap H1.out 1; clear hb hb0 hin))
  all_goals
    have HF := Lib.hid (show ((w1.setCell ⟨w.heap.size, 0, none⟩ (.int .i64 M.p)).setCell ⟨w.heap.size, 1, none⟩ (.slice a1 M.L.length c1)).heap[w.heap.size]? = some (.cells #[.int .i64 M.p, .slice a1 M.L.length c1] 24 (0, 0)) from heap_setCell_same _ _ _ _ _ _ (heap_setCell_same _ _ _ _ _ _ H1.out))
    have SF := Lib.hid (ws_store (wf := ((w1.setCell ⟨w.heap.size, 0, none⟩ (.int .i64 M.p)).setCell ⟨w.heap.size, 1, none⟩ (.slice a1 M.L.length c1))) HN.out H1.out (fun k hn => (heap_setCell_other _ _ _ _ hn).trans (heap_setCell_other _ _ _ _ hn)) (by simp))
    have DF := Lib.hid ((D1.out.setCell (p := ⟨w.heap.size, 0, none⟩) (Nat.le_refl _) (.int .i64 M.p)).setCell (p := ⟨w.heap.size, 1, none⟩) (Nat.le_refl _) (.slice a1 M.L.length c1))
    go_wp2_with fail
    exact bodyPost_ret (results_bt rfl _ _ w.heap.size rfl rfl HF.out Try.underlying24 rfl (by kernel_rfl)) rfl ⟨_, rfl, SF.out, DF.out⟩
set_option maxHeartbeats 4000000 in
set_option maxRecDepth 100000 in
theorem rm_windmill_len (a : Option Addr) (n c : Nat) (hq : ((n : Int) == 0) = false) (w : World) : Calls Try.prog 25 #[.string ⟨#[119, 105, 110, 100, 109, 105, 108, 108]⟩, .slice a n c] w (Out (moBad 2) w) := by
  unfold Out moBad at *
  go_enter Try.func25, Try.ntmps25
  go_wp2_with fail
  exact bodyPost_ret (results_bt rfl _ _ w.heap.size rfl rfl (heap_alloc_new _ _) Try.underlying24 rfl (by kernel_rfl)) rfl ⟨_, rfl, ws_nil _, below_alloc w _⟩
set_option maxHeartbeats 4000000 in
set_option maxRecDepth 100000 in
theorem rm_windmill (a : Option Addr) (c : Nat) (w : World) : Calls Try.prog 25 #[.string ⟨#[119, 105, 110, 100, 109, 105, 108, 108]⟩, .slice a 0 c] w (Out (millM) w) := by
  unfold Out millM at *
  go_enter Try.func25, Try.ntmps25
  go_wp2_with fail
  have h0 : (w.alloc (.cells #[.int .i64 0, .slice none 0 0] 24)).heap[w.heap.size]? = some (.cells #[.int .i64 0, .slice none 0 0] 24 (0, 0)) := heap_alloc_new _ _
  have D0 := Lib.hid (below_alloc w (.cells #[.int .i64 0, .slice none 0 0] 24))
  have H0 := Lib.hid h0
  have hgs : w.heap.size < (w.alloc (.cells #[.int .i64 0, .slice none 0 0] 24)).heap.size := by simp
  generalize (w.alloc (.cells #[.int .i64 0, .slice none 0 0] 24)) = wa at *
  clear h0
  refine (refWindmill_any _).mono ?_
  rintro e w1 ⟨vv, rfl, hin, hb⟩
  obtain ⟨a1, c1, ee, _⟩ := id hin
  subst ee
  have HN := Lib.hid hin
  have H1 := Lib.hid (hb_below hb H0.out hgs)
  have D1 := Lib.hid (D0.out.trans (hb.mono (Nat.le_of_lt hgs)))
  clear hb hin
  go_wp2_with (refine store_row rfl _ _ _ rfl w.heap.size _ rfl rfl _ _ H1.out (by kernel_rfl) rfl (by kernel_rfl) ?_)
  intro wf hf hk2 hzf hB
  have HF := Lib.hid hf
  have DF := Lib.hid (hB _ _ D1.out (Nat.le_refl _))
  have SF := Lib.hid (ws_store HN.out H1.out hk2 hzf)
  clear hf hk2 hzf hB
  go_wp2_with fail
  exact bodyPost_ret (results_bt rfl _ _ w.heap.size rfl rfl HF.out Try.underlying24 rfl (by kernel_rfl)) rfl ⟨_, rfl, SF.out, DF.out⟩
set_option maxHeartbeats 4000000 in
set_option maxRecDepth 100000 in
theorem rm_none (name : ByteArray) (n0 : (name.toList == [112, 108, 97, 105, 116]) = false) (n1 : (name.toList == [112, 105, 99, 111, 116]) = false) (n2 : (name.toList == [115, 112, 105, 100, 101, 114]) = false) (n3 : (name.toList == [102, 97, 110]) = false) (n4 : (name.toList == [102, 111, 111, 116, 115, 105, 100, 101]) = false) (n5 : (name.toList == [119, 105, 110, 100, 109, 105, 108, 108]) = false) (v : Value) (w : World) : Calls Try.prog 25 #[.string name, v] w (Out (moBad 4) w) := by
  unfold Out moBad at *
  go_enter Try.func25, Try.ntmps25
  go_wp2_with fail
  exact bodyPost_ret (results_bt rfl _ _ w.heap.size rfl rfl (heap_alloc_new _ _) Try.underlying24 rfl (by kernel_rfl)) rfl ⟨_, rfl, ws_nil _, below_alloc w _⟩
theorem refMake_any (name : ByteArray) (zs : List Int) (v : Value) (w : World) (hv : IS w v zs) : Calls Try.prog 25 #[.string name, v] w (Out (makeM name zs) w) := by
  obtain ⟨a, c, rfl, hlc⟩ := id hv
  unfold makeM
  by_cases e0 : name = bPlait
  · rw [if_pos e0]
    subst e0
    match zs, hv with
    | [z], hv =>
      obtain ⟨b, off, rfl, hlt, h0⟩ := is_cell hv (k := 0) rfl
      exact rm_plait z b off c w hlt h0
    | [], hv => exact rm_plait_len a _ c (by simp) w
    | z :: y :: zs, hv => exact rm_plait_len a _ c (by simp; omega) w
  rw [if_neg e0]
  by_cases e1 : name = bPicot
  · rw [if_pos e1]
    subst e1
    match zs, hv with
    | [z], hv =>
      obtain ⟨b, off, rfl, hlt, h0⟩ := is_cell hv (k := 0) rfl
      exact rm_picot z b off c w hlt h0
    | [], hv => exact rm_picot_len a _ c (by simp) w
    | z :: y :: zs, hv => exact rm_picot_len a _ c (by simp; omega) w
  rw [if_neg e1]
  by_cases e2 : name = bSpider
  · rw [if_pos e2]
    subst e2
    match zs, hv with
    | [z, y], hv =>
      obtain ⟨b, off, rfl, hlt, h0⟩ := is_cell hv (k := 0) rfl
      obtain ⟨b', off', e, _, h1⟩ := is_cell hv (k := 1) rfl
      cases e
      exact rm_spider z y b off c w hlt h0 h1
    | [], hv => exact rm_spider_len a _ c (by simp) w
    | [z], hv => exact rm_spider_len a _ c (by simp) w
    | z :: y :: x :: zs, hv => exact rm_spider_len a _ c (by simp; omega) w
  rw [if_neg e2]
  by_cases e3 : name = bFan
  · rw [if_pos e3]
    subst e3
    match zs, hv with
    | [z], hv =>
      obtain ⟨b, off, rfl, hlt, h0⟩ := is_cell hv (k := 0) rfl
      exact rm_fan z b off c w hlt h0
    | [], hv => exact rm_fan_len a _ c (by simp) w
    | z :: y :: zs, hv => exact rm_fan_len a _ c (by simp; omega) w
  rw [if_neg e3]
  by_cases e4 : name = bFootside
  · rw [if_pos e4]
    subst e4
    match zs, hv with
    | [z, y], hv =>
      obtain ⟨b, off, rfl, hlt, h0⟩ := is_cell hv (k := 0) rfl
      obtain ⟨b', off', e, _, h1⟩ := is_cell hv (k := 1) rfl
      cases e
      exact rm_footside z y b off c w hlt h0 h1
    | [], hv => exact rm_footside_len a _ c (by simp) w
    | [z], hv => exact rm_footside_len a _ c (by simp) w
    | z :: y :: x :: zs, hv => exact rm_footside_len a _ c (by simp; omega) w
  rw [if_neg e4]
  by_cases e5 : name = bWindmill
  · rw [if_pos e5]
    subst e5
    match zs, hv with
    | [], hv => exact rm_windmill a c w
    | z :: zs, hv => exact rm_windmill_len a _ c (by simp; omega) w
  rw [if_neg e5]
  exact rm_none name (str_ne' e0) (str_ne' e1) (str_ne' e2) (str_ne' e3) (str_ne' e4) (str_ne' e5) _ w
set_option maxHeartbeats 4000000 in
set_option maxRecDepth 100000 in
theorem refWidth_any (name : ByteArray) (zs : List Int) (v : Value) (w : World) (hv : IS w v zs) : Calls Try.prog 27 #[.string name, v] w fun e w' => e = .returned (.tuple #[.int .i64 (makeM name zs).p, .int .i64 (makeM name zs).e]) ∧ Below w.heap.size w w' := by
  have CM : Calls Try.prog 25 #[.string name, v] w fun e w' => ∃ a n c, e = .returned (.tuple #[.agg #[.int .i64 (makeM name zs).p, .slice a n c], .int .i64 (makeM name zs).e]) ∧ Below w.heap.size w w' := by
    refine (refMake_any name zs v w hv).mono ?_
    rintro e w' ⟨v, rfl, hv, hb⟩
    obtain ⟨a, c, ee, _⟩ := hv
    subst ee
    exact ⟨a, _, c, rfl, hb⟩
  generalize makeM name zs = M at *
  clear hv
  go_enter Try.func27, Try.ntmps27
  go_wp2_with fail
  refine CM.mono ?_
  rintro e w1 ⟨a, n, c, rfl, hb⟩
  have h2 := heap_alloc_new w1 (.cells #[.int .i64 M.p, .slice a n c] 24)
  have b2 := below_alloc w1 (.cells #[.int .i64 M.p, .slice a n c] 24)
  have c0 := cell_of_heap (j := 0) h2 rfl
  have HB := Lib.hid (hb.trans (b2.mono hb.size))
  clear hb h2 b2
  go_wp2_with fail
  go_ret2
  exact ⟨rfl, HB.out⟩
end Go.Proofs.Ytabpjiidbailiaa
