/- Make and Width of the program, whatever the name and the sizes. -/
import Derived.Test.YtabpjiidbailiaaXE
namespace Go.Proofs.Ytabpjiidbailiaa
open Go.RowKit Go.MapKept
set_option linter.unusedSimpArgs false
attribute [local irreducible] wpQuiet
def bPlait : ByteArray := ⟨#[112, 108, 97, 105, 116]⟩
def bPicot : ByteArray := ⟨#[112, 105, 99, 111, 116]⟩
def bSpider : ByteArray := ⟨#[115, 112, 105, 100, 101, 114]⟩
def bFan : ByteArray := ⟨#[102, 97, 110]⟩
def bFootside : ByteArray := ⟨#[102, 111, 111, 116, 115, 105, 100, 101]⟩
def bWindmill : ByteArray := ⟨#[119, 105, 110, 100, 109, 105, 108, 108]⟩
/-- What Make answers. -/
def makeM (name : ByteArray) (zs : List Int) : Mo :=
  if name = bPlait then (match zs with | [z] => plaitM z | _ => moBad 2)
  else if name = bPicot then (match zs with | [z] => picotM z | _ => moBad 2)
  else if name = bSpider then (match zs with | [z, y] => spiderM z y | _ => moBad 2)
  else if name = bFan then (match zs with | [z] => fanM z | _ => moBad 2)
  else if name = bFootside then (match zs with | [z, y] => footM z y | _ => moBad 2)
  else if name = bWindmill then (match zs with | [] => millM  | _ => moBad 2)
  else moBad 4
theorem find_none (name : ByteArray) (n0 : ¬ name = bPlait) (n1 : ¬ name = bPicot) (n2 : ¬ name = bSpider) (n3 : ¬ name = bFan) (n4 : ¬ name = bFootside) (n5 : ¬ name = bWindmill) : Instr.findNow .string (.string name) motEs.toList 0 = some none := by
  rcases findNow_spec (d := .string) (k := .string name) trivial motEs.toList 0 (by
    intro x hx
    simp only [motEs, List.mem_cons, List.not_mem_nil, or_false] at hx
    rcases hx with rfl | rfl | rfl | rfl | rfl | rfl <;> trivial) with ⟨h, _⟩ | ⟨j, e, _, h2, h3⟩
  · exact h
  · exfalso
    have hx := List.mem_of_getElem? h2
    simp only [motEs, List.mem_cons, List.not_mem_nil, or_false] at hx
    rcases hx with rfl | rfl | rfl | rfl | rfl | rfl
    · injection h3 with h4; exact n0 h4.symm
    · injection h3 with h4; exact n1 h4.symm
    · injection h3 with h4; exact n2 h4.symm
    · injection h3 with h4; exact n3 h4.symm
    · injection h3 with h4; exact n4 h4.symm
    · injection h3 with h4; exact n5 h4.symm
set_option maxHeartbeats 4000000 in
set_option maxRecDepth 100000 in
theorem mk_plait_len (a : Option Addr) (n c : Nat) (hq : ((n : Int) == 1) = false) (w : World) : Calls Try.prog 24 #[.string ⟨#[112, 108, 97, 105, 116]⟩, .slice a n c] w (Out (moBad 2) w) := by
  unfold Out moBad
  go_enter Try.func24, Try.ntmps24
  go_wp2_with fail
  have h0 : (w.alloc (.cells #[.int .i64 0, .slice none 0 0] 24)).heap[w.heap.size]? = some (.cells #[.int .i64 0, .slice none 0 0] 24 (0, 0)) := heap_alloc_new _ _
  have D0 := Lib.hid (below_alloc w (.cells #[.int .i64 0, .slice none 0 0] 24))
  have H0 := Lib.hid h0
  have hgs : w.heap.size < (w.alloc (.cells #[.int .i64 0, .slice none 0 0] 24)).heap.size := by simp
  generalize (w.alloc (.cells #[.int .i64 0, .slice none 0 0] 24)) = wa at *
  clear h0
  refine (motifs_any _).mono ?_
  rintro e w1 ⟨rfl, hm, hz, hb⟩
  have H1 := Lib.hid (hb_below hb H0.out hgs)
  have D1 := Lib.hid (D0.out.trans (hb.mono (Nat.le_of_lt hgs)))
  have hs1 := hb.size
  have HZ := Lib.hid hz
  clear hb hz
  have EL := lookup_hit (P := Try.prog) (i := 0) (v := .agg #[.int .i64 1, .func (.func 52) #[] #[]]) (.string ⟨#[112, 108, 97, 105, 116]⟩) .string Try.underlying65 Try.underlying9 hm trivial (by kernel_rfl)
  clear hm
  have h2 := heap_alloc_new w1 (.cells #[.int .i64 1, .func (.func 52) #[] #[]] 63)
  have b2 := below_alloc w1 (.cells #[.int .i64 1, .func (.func 52) #[] #[]] 63)
  go_upto_region 2 with fail
  generalize w1.alloc (.cells #[.int .i64 1, .func (.func 52) #[] #[]] 63) = wb at *
  clear EL
  have c0 := cell_of_heap (j := 0) h2 rfl
  have c1 := cell_of_heap (j := 1) h2 rfl
  have H2 := Lib.hid (hb_below b2 H1.out (by omega))
  have D2 := Lib.hid (D1.out.trans (b2.mono (by omega)))
  have hs2 := b2.size
  clear b2 h2
  go_wp2_with (refine store_row rfl _ _ _ rfl w.heap.size _ rfl rfl _ _ H2.out (by kernel_rfl) rfl (by kernel_rfl) ?_)
  intro wf hf hk2 hzf hB
  have HF := Lib.hid hf
  have DF := Lib.hid (hB _ _ D2.out (Nat.le_refl _))
  clear hf hk2 hzf hB
  go_wp2_with fail
  exact bodyPost_ret (results_bt rfl _ _ w.heap.size rfl rfl HF.out Try.underlying24 rfl (by kernel_rfl)) rfl ⟨_, rfl, ws_nil _, DF.out⟩
set_option maxHeartbeats 4000000 in
set_option maxRecDepth 100000 in
theorem mk_plait (z : Int) (s off c : Nat) (w : World) (hlt : s < w.heap.size) (g0 : w.cell? ⟨s, off, none⟩ = some (.int .i64 z)) : Calls Try.prog 24 #[.string ⟨#[112, 108, 97, 105, 116]⟩, .slice (some ⟨s, off, none⟩) 1 c] w (Out (plaitM z) w) := by
  have CL := cl_plait z s off c
  generalize plaitM z = M at *
  replace CL := Lib.hid CL
  unfold Out
  go_enter Try.func24, Try.ntmps24
  go_wp2_with fail
  have h0 : (w.alloc (.cells #[.int .i64 0, .slice none 0 0] 24)).heap[w.heap.size]? = some (.cells #[.int .i64 0, .slice none 0 0] 24 (0, 0)) := heap_alloc_new _ _
  have D0 := Lib.hid (below_alloc w (.cells #[.int .i64 0, .slice none 0 0] 24))
  have H0 := Lib.hid h0
  have hgs : w.heap.size < (w.alloc (.cells #[.int .i64 0, .slice none 0 0] 24)).heap.size := by simp
  generalize (w.alloc (.cells #[.int .i64 0, .slice none 0 0] 24)) = wa at *
  clear h0
  refine (motifs_any _).mono ?_
  rintro e w1 ⟨rfl, hm, hz, hb⟩
  have H1 := Lib.hid (hb_below hb H0.out hgs)
  have D1 := Lib.hid (D0.out.trans (hb.mono (Nat.le_of_lt hgs)))
  have hs1 := hb.size
  have HZ := Lib.hid hz
  clear hb hz
  have EL := lookup_hit (P := Try.prog) (i := 0) (v := .agg #[.int .i64 1, .func (.func 52) #[] #[]]) (.string ⟨#[112, 108, 97, 105, 116]⟩) .string Try.underlying65 Try.underlying9 hm trivial (by kernel_rfl)
  clear hm
  have h2 := heap_alloc_new w1 (.cells #[.int .i64 1, .func (.func 52) #[] #[]] 63)
  have b2 := below_alloc w1 (.cells #[.int .i64 1, .func (.func 52) #[] #[]] 63)
  go_upto_region 2 with fail
  generalize w1.alloc (.cells #[.int .i64 1, .func (.func 52) #[] #[]] 63) = wb at *
  clear EL
  have c0 := cell_of_heap (j := 0) h2 rfl
  have c1 := cell_of_heap (j := 1) h2 rfl
  have H2 := Lib.hid (hb_below b2 H1.out (by omega))
  have D2 := Lib.hid (D1.out.trans (b2.mono (by omega)))
  have hs2 := b2.size
  go_wp2_with fail
  refine (CL.out _ (by have := D2.out.size; omega) ((D2.out.cell (p := ⟨s, off, none⟩) hlt).trans g0)).mono ?_
  rintro e w3 ⟨vv, rfl, hin, hb⟩
  obtain ⟨a3, c3, ee, _⟩ := id hin
  subst ee
  have HN := Lib.hid hin
  have H3 := Lib.hid (hb_below hb H2.out (by omega))
  have D3 := Lib.hid (D2.out.trans (hb.mono (by omega)))
  clear hb hin c0 c1 h2 b2
  go_wp2_with (refine store_row rfl _ _ _ rfl w.heap.size _ rfl rfl _ _ H3.out (by kernel_rfl) rfl (by kernel_rfl) ?_)
  intro wf hf hk2 hzf hB
  have HF := Lib.hid hf
  have DF := Lib.hid (hB _ _ D3.out (Nat.le_refl _))
  have SF := Lib.hid (ws_store HN.out H3.out hk2 hzf)
  clear hf hk2 hzf hB
  go_wp2_with fail
  exact bodyPost_ret (results_bt rfl _ _ w.heap.size rfl rfl HF.out Try.underlying24 rfl (by kernel_rfl)) rfl ⟨_, rfl, SF.out, DF.out⟩
set_option maxHeartbeats 4000000 in
set_option maxRecDepth 100000 in
theorem mk_picot_len (a : Option Addr) (n c : Nat) (hq : ((n : Int) == 1) = false) (w : World) : Calls Try.prog 24 #[.string ⟨#[112, 105, 99, 111, 116]⟩, .slice a n c] w (Out (moBad 2) w) := by
  unfold Out moBad
  go_enter Try.func24, Try.ntmps24
  go_wp2_with fail
  have h0 : (w.alloc (.cells #[.int .i64 0, .slice none 0 0] 24)).heap[w.heap.size]? = some (.cells #[.int .i64 0, .slice none 0 0] 24 (0, 0)) := heap_alloc_new _ _
  have D0 := Lib.hid (below_alloc w (.cells #[.int .i64 0, .slice none 0 0] 24))
  have H0 := Lib.hid h0
  have hgs : w.heap.size < (w.alloc (.cells #[.int .i64 0, .slice none 0 0] 24)).heap.size := by simp
  generalize (w.alloc (.cells #[.int .i64 0, .slice none 0 0] 24)) = wa at *
  clear h0
  refine (motifs_any _).mono ?_
  rintro e w1 ⟨rfl, hm, hz, hb⟩
  have H1 := Lib.hid (hb_below hb H0.out hgs)
  have D1 := Lib.hid (D0.out.trans (hb.mono (Nat.le_of_lt hgs)))
  have hs1 := hb.size
  have HZ := Lib.hid hz
  clear hb hz
  have EL := lookup_hit (P := Try.prog) (i := 1) (v := .agg #[.int .i64 1, .func (.func 53) #[] #[]]) (.string ⟨#[112, 105, 99, 111, 116]⟩) .string Try.underlying65 Try.underlying9 hm trivial (by kernel_rfl)
  clear hm
  have h2 := heap_alloc_new w1 (.cells #[.int .i64 1, .func (.func 53) #[] #[]] 63)
  have b2 := below_alloc w1 (.cells #[.int .i64 1, .func (.func 53) #[] #[]] 63)
  go_upto_region 2 with fail
  generalize w1.alloc (.cells #[.int .i64 1, .func (.func 53) #[] #[]] 63) = wb at *
  clear EL
  have c0 := cell_of_heap (j := 0) h2 rfl
  have c1 := cell_of_heap (j := 1) h2 rfl
  have H2 := Lib.hid (hb_below b2 H1.out (by omega))
  have D2 := Lib.hid (D1.out.trans (b2.mono (by omega)))
  have hs2 := b2.size
  clear b2 h2
  go_wp2_with (refine store_row rfl _ _ _ rfl w.heap.size _ rfl rfl _ _ H2.out (by kernel_rfl) rfl (by kernel_rfl) ?_)
  intro wf hf hk2 hzf hB
  have HF := Lib.hid hf
  have DF := Lib.hid (hB _ _ D2.out (Nat.le_refl _))
  clear hf hk2 hzf hB
  go_wp2_with fail
  exact bodyPost_ret (results_bt rfl _ _ w.heap.size rfl rfl HF.out Try.underlying24 rfl (by kernel_rfl)) rfl ⟨_, rfl, ws_nil _, DF.out⟩
set_option maxHeartbeats 4000000 in
set_option maxRecDepth 100000 in
theorem mk_picot (z : Int) (s off c : Nat) (w : World) (hlt : s < w.heap.size) (g0 : w.cell? ⟨s, off, none⟩ = some (.int .i64 z)) : Calls Try.prog 24 #[.string ⟨#[112, 105, 99, 111, 116]⟩, .slice (some ⟨s, off, none⟩) 1 c] w (Out (picotM z) w) := by
  have CL := cl_picot z s off c
  generalize picotM z = M at *
  replace CL := Lib.hid CL
  unfold Out
  go_enter Try.func24, Try.ntmps24
  go_wp2_with fail
  have h0 : (w.alloc (.cells #[.int .i64 0, .slice none 0 0] 24)).heap[w.heap.size]? = some (.cells #[.int .i64 0, .slice none 0 0] 24 (0, 0)) := heap_alloc_new _ _
  have D0 := Lib.hid (below_alloc w (.cells #[.int .i64 0, .slice none 0 0] 24))
  have H0 := Lib.hid h0
  have hgs : w.heap.size < (w.alloc (.cells #[.int .i64 0, .slice none 0 0] 24)).heap.size := by simp
  generalize (w.alloc (.cells #[.int .i64 0, .slice none 0 0] 24)) = wa at *
  clear h0
  refine (motifs_any _).mono ?_
  rintro e w1 ⟨rfl, hm, hz, hb⟩
  have H1 := Lib.hid (hb_below hb H0.out hgs)
  have D1 := Lib.hid (D0.out.trans (hb.mono (Nat.le_of_lt hgs)))
  have hs1 := hb.size
  have HZ := Lib.hid hz
  clear hb hz
  have EL := lookup_hit (P := Try.prog) (i := 1) (v := .agg #[.int .i64 1, .func (.func 53) #[] #[]]) (.string ⟨#[112, 105, 99, 111, 116]⟩) .string Try.underlying65 Try.underlying9 hm trivial (by kernel_rfl)
  clear hm
  have h2 := heap_alloc_new w1 (.cells #[.int .i64 1, .func (.func 53) #[] #[]] 63)
  have b2 := below_alloc w1 (.cells #[.int .i64 1, .func (.func 53) #[] #[]] 63)
  go_upto_region 2 with fail
  generalize w1.alloc (.cells #[.int .i64 1, .func (.func 53) #[] #[]] 63) = wb at *
  clear EL
  have c0 := cell_of_heap (j := 0) h2 rfl
  have c1 := cell_of_heap (j := 1) h2 rfl
  have H2 := Lib.hid (hb_below b2 H1.out (by omega))
  have D2 := Lib.hid (D1.out.trans (b2.mono (by omega)))
  have hs2 := b2.size
  go_wp2_with fail
  refine (CL.out _ (by have := D2.out.size; omega) ((D2.out.cell (p := ⟨s, off, none⟩) hlt).trans g0)).mono ?_
  rintro e w3 ⟨vv, rfl, hin, hb⟩
  obtain ⟨a3, c3, ee, _⟩ := id hin
  subst ee
  have HN := Lib.hid hin
  have H3 := Lib.hid (hb_below hb H2.out (by omega))
  have D3 := Lib.hid (D2.out.trans (hb.mono (by omega)))
  clear hb hin c0 c1 h2 b2
  go_wp2_with (refine store_row rfl _ _ _ rfl w.heap.size _ rfl rfl _ _ H3.out (by kernel_rfl) rfl (by kernel_rfl) ?_)
  intro wf hf hk2 hzf hB
  have HF := Lib.hid hf
  have DF := Lib.hid (hB _ _ D3.out (Nat.le_refl _))
  have SF := Lib.hid (ws_store HN.out H3.out hk2 hzf)
  clear hf hk2 hzf hB
  go_wp2_with fail
  exact bodyPost_ret (results_bt rfl _ _ w.heap.size rfl rfl HF.out Try.underlying24 rfl (by kernel_rfl)) rfl ⟨_, rfl, SF.out, DF.out⟩
set_option maxHeartbeats 4000000 in
set_option maxRecDepth 100000 in
theorem mk_spider_len (a : Option Addr) (n c : Nat) (hq : ((n : Int) == 2) = false) (w : World) : Calls Try.prog 24 #[.string ⟨#[115, 112, 105, 100, 101, 114]⟩, .slice a n c] w (Out (moBad 2) w) := by
  unfold Out moBad
  go_enter Try.func24, Try.ntmps24
  go_wp2_with fail
  have h0 : (w.alloc (.cells #[.int .i64 0, .slice none 0 0] 24)).heap[w.heap.size]? = some (.cells #[.int .i64 0, .slice none 0 0] 24 (0, 0)) := heap_alloc_new _ _
  have D0 := Lib.hid (below_alloc w (.cells #[.int .i64 0, .slice none 0 0] 24))
  have H0 := Lib.hid h0
  have hgs : w.heap.size < (w.alloc (.cells #[.int .i64 0, .slice none 0 0] 24)).heap.size := by simp
  generalize (w.alloc (.cells #[.int .i64 0, .slice none 0 0] 24)) = wa at *
  clear h0
  refine (motifs_any _).mono ?_
  rintro e w1 ⟨rfl, hm, hz, hb⟩
  have H1 := Lib.hid (hb_below hb H0.out hgs)
  have D1 := Lib.hid (D0.out.trans (hb.mono (Nat.le_of_lt hgs)))
  have hs1 := hb.size
  have HZ := Lib.hid hz
  clear hb hz
  have EL := lookup_hit (P := Try.prog) (i := 2) (v := .agg #[.int .i64 2, .func (.func 54) #[] #[]]) (.string ⟨#[115, 112, 105, 100, 101, 114]⟩) .string Try.underlying65 Try.underlying9 hm trivial (by kernel_rfl)
  clear hm
  have h2 := heap_alloc_new w1 (.cells #[.int .i64 2, .func (.func 54) #[] #[]] 63)
  have b2 := below_alloc w1 (.cells #[.int .i64 2, .func (.func 54) #[] #[]] 63)
  go_upto_region 2 with fail
  generalize w1.alloc (.cells #[.int .i64 2, .func (.func 54) #[] #[]] 63) = wb at *
  clear EL
  have c0 := cell_of_heap (j := 0) h2 rfl
  have c1 := cell_of_heap (j := 1) h2 rfl
  have H2 := Lib.hid (hb_below b2 H1.out (by omega))
  have D2 := Lib.hid (D1.out.trans (b2.mono (by omega)))
  have hs2 := b2.size
  clear b2 h2
  go_wp2_with (refine store_row rfl _ _ _ rfl w.heap.size _ rfl rfl _ _ H2.out (by kernel_rfl) rfl (by kernel_rfl) ?_)
  intro wf hf hk2 hzf hB
  have HF := Lib.hid hf
  have DF := Lib.hid (hB _ _ D2.out (Nat.le_refl _))
  clear hf hk2 hzf hB
  go_wp2_with fail
  exact bodyPost_ret (results_bt rfl _ _ w.heap.size rfl rfl HF.out Try.underlying24 rfl (by kernel_rfl)) rfl ⟨_, rfl, ws_nil _, DF.out⟩
set_option maxHeartbeats 4000000 in
set_option maxRecDepth 100000 in
theorem mk_spider (z y : Int) (s off c : Nat) (w : World) (hlt : s < w.heap.size) (g0 : w.cell? ⟨s, off, none⟩ = some (.int .i64 z)) (g1 : w.cell? ⟨s, off + 1, none⟩ = some (.int .i64 y)) : Calls Try.prog 24 #[.string ⟨#[115, 112, 105, 100, 101, 114]⟩, .slice (some ⟨s, off, none⟩) 2 c] w (Out (spiderM z y) w) := by
  have CL := cl_spider z y s off c
  generalize spiderM z y = M at *
  replace CL := Lib.hid CL
  unfold Out
  go_enter Try.func24, Try.ntmps24
  go_wp2_with fail
  have h0 : (w.alloc (.cells #[.int .i64 0, .slice none 0 0] 24)).heap[w.heap.size]? = some (.cells #[.int .i64 0, .slice none 0 0] 24 (0, 0)) := heap_alloc_new _ _
  have D0 := Lib.hid (below_alloc w (.cells #[.int .i64 0, .slice none 0 0] 24))
  have H0 := Lib.hid h0
  have hgs : w.heap.size < (w.alloc (.cells #[.int .i64 0, .slice none 0 0] 24)).heap.size := by simp
  generalize (w.alloc (.cells #[.int .i64 0, .slice none 0 0] 24)) = wa at *
  clear h0
  refine (motifs_any _).mono ?_
  rintro e w1 ⟨rfl, hm, hz, hb⟩
  have H1 := Lib.hid (hb_below hb H0.out hgs)
  have D1 := Lib.hid (D0.out.trans (hb.mono (Nat.le_of_lt hgs)))
  have hs1 := hb.size
  have HZ := Lib.hid hz
  clear hb hz
  have EL := lookup_hit (P := Try.prog) (i := 2) (v := .agg #[.int .i64 2, .func (.func 54) #[] #[]]) (.string ⟨#[115, 112, 105, 100, 101, 114]⟩) .string Try.underlying65 Try.underlying9 hm trivial (by kernel_rfl)
  clear hm
  have h2 := heap_alloc_new w1 (.cells #[.int .i64 2, .func (.func 54) #[] #[]] 63)
  have b2 := below_alloc w1 (.cells #[.int .i64 2, .func (.func 54) #[] #[]] 63)
  go_upto_region 2 with fail
  generalize w1.alloc (.cells #[.int .i64 2, .func (.func 54) #[] #[]] 63) = wb at *
  clear EL
  have c0 := cell_of_heap (j := 0) h2 rfl
  have c1 := cell_of_heap (j := 1) h2 rfl
  have H2 := Lib.hid (hb_below b2 H1.out (by omega))
  have D2 := Lib.hid (D1.out.trans (b2.mono (by omega)))
  have hs2 := b2.size
  go_wp2_with fail
  refine (CL.out _ (by have := D2.out.size; omega) ((D2.out.cell (p := ⟨s, off, none⟩) hlt).trans g0) ((D2.out.cell (p := ⟨s, off + 1, none⟩) hlt).trans g1)).mono ?_
  rintro e w3 ⟨vv, rfl, hin, hb⟩
  obtain ⟨a3, c3, ee, _⟩ := id hin
  subst ee
  have HN := Lib.hid hin
  have H3 := Lib.hid (hb_below hb H2.out (by omega))
  have D3 := Lib.hid (D2.out.trans (hb.mono (by omega)))
  clear hb hin c0 c1 h2 b2
  go_wp2_with (refine store_row rfl _ _ _ rfl w.heap.size _ rfl rfl _ _ H3.out (by kernel_rfl) rfl (by kernel_rfl) ?_)
  intro wf hf hk2 hzf hB
  have HF := Lib.hid hf
  have DF := Lib.hid (hB _ _ D3.out (Nat.le_refl _))
  have SF := Lib.hid (ws_store HN.out H3.out hk2 hzf)
  clear hf hk2 hzf hB
  go_wp2_with fail
  exact bodyPost_ret (results_bt rfl _ _ w.heap.size rfl rfl HF.out Try.underlying24 rfl (by kernel_rfl)) rfl ⟨_, rfl, SF.out, DF.out⟩
set_option maxHeartbeats 4000000 in
set_option maxRecDepth 100000 in
theorem mk_fan_len (a : Option Addr) (n c : Nat) (hq : ((n : Int) == 1) = false) (w : World) : Calls Try.prog 24 #[.string ⟨#[102, 97, 110]⟩, .slice a n c] w (Out (moBad 2) w) := by
  unfold Out moBad
  go_enter Try.func24, Try.ntmps24
  go_wp2_with fail
  have h0 : (w.alloc (.cells #[.int .i64 0, .slice none 0 0] 24)).heap[w.heap.size]? = some (.cells #[.int .i64 0, .slice none 0 0] 24 (0, 0)) := heap_alloc_new _ _
  have D0 := Lib.hid (below_alloc w (.cells #[.int .i64 0, .slice none 0 0] 24))
  have H0 := Lib.hid h0
  have hgs : w.heap.size < (w.alloc (.cells #[.int .i64 0, .slice none 0 0] 24)).heap.size := by simp
  generalize (w.alloc (.cells #[.int .i64 0, .slice none 0 0] 24)) = wa at *
  clear h0
  refine (motifs_any _).mono ?_
  rintro e w1 ⟨rfl, hm, hz, hb⟩
  have H1 := Lib.hid (hb_below hb H0.out hgs)
  have D1 := Lib.hid (D0.out.trans (hb.mono (Nat.le_of_lt hgs)))
  have hs1 := hb.size
  have HZ := Lib.hid hz
  clear hb hz
  have EL := lookup_hit (P := Try.prog) (i := 3) (v := .agg #[.int .i64 1, .func (.func 55) #[] #[]]) (.string ⟨#[102, 97, 110]⟩) .string Try.underlying65 Try.underlying9 hm trivial (by kernel_rfl)
  clear hm
  have h2 := heap_alloc_new w1 (.cells #[.int .i64 1, .func (.func 55) #[] #[]] 63)
  have b2 := below_alloc w1 (.cells #[.int .i64 1, .func (.func 55) #[] #[]] 63)
  go_upto_region 2 with fail
  generalize w1.alloc (.cells #[.int .i64 1, .func (.func 55) #[] #[]] 63) = wb at *
  clear EL
  have c0 := cell_of_heap (j := 0) h2 rfl
  have c1 := cell_of_heap (j := 1) h2 rfl
  have H2 := Lib.hid (hb_below b2 H1.out (by omega))
  have D2 := Lib.hid (D1.out.trans (b2.mono (by omega)))
  have hs2 := b2.size
  clear b2 h2
  go_wp2_with (refine store_row rfl _ _ _ rfl w.heap.size _ rfl rfl _ _ H2.out (by kernel_rfl) rfl (by kernel_rfl) ?_)
  intro wf hf hk2 hzf hB
  have HF := Lib.hid hf
  have DF := Lib.hid (hB _ _ D2.out (Nat.le_refl _))
  clear hf hk2 hzf hB
  go_wp2_with fail
  exact bodyPost_ret (results_bt rfl _ _ w.heap.size rfl rfl HF.out Try.underlying24 rfl (by kernel_rfl)) rfl ⟨_, rfl, ws_nil _, DF.out⟩
set_option maxHeartbeats 4000000 in
set_option maxRecDepth 100000 in
theorem mk_fan (z : Int) (s off c : Nat) (w : World) (hlt : s < w.heap.size) (g0 : w.cell? ⟨s, off, none⟩ = some (.int .i64 z)) : Calls Try.prog 24 #[.string ⟨#[102, 97, 110]⟩, .slice (some ⟨s, off, none⟩) 1 c] w (Out (fanM z) w) := by
  have CL := cl_fan z s off c
  generalize fanM z = M at *
  replace CL := Lib.hid CL
  unfold Out
  go_enter Try.func24, Try.ntmps24
  go_wp2_with fail
  have h0 : (w.alloc (.cells #[.int .i64 0, .slice none 0 0] 24)).heap[w.heap.size]? = some (.cells #[.int .i64 0, .slice none 0 0] 24 (0, 0)) := heap_alloc_new _ _
  have D0 := Lib.hid (below_alloc w (.cells #[.int .i64 0, .slice none 0 0] 24))
  have H0 := Lib.hid h0
  have hgs : w.heap.size < (w.alloc (.cells #[.int .i64 0, .slice none 0 0] 24)).heap.size := by simp
  generalize (w.alloc (.cells #[.int .i64 0, .slice none 0 0] 24)) = wa at *
  clear h0
  refine (motifs_any _).mono ?_
  rintro e w1 ⟨rfl, hm, hz, hb⟩
  have H1 := Lib.hid (hb_below hb H0.out hgs)
  have D1 := Lib.hid (D0.out.trans (hb.mono (Nat.le_of_lt hgs)))
  have hs1 := hb.size
  have HZ := Lib.hid hz
  clear hb hz
  have EL := lookup_hit (P := Try.prog) (i := 3) (v := .agg #[.int .i64 1, .func (.func 55) #[] #[]]) (.string ⟨#[102, 97, 110]⟩) .string Try.underlying65 Try.underlying9 hm trivial (by kernel_rfl)
  clear hm
  have h2 := heap_alloc_new w1 (.cells #[.int .i64 1, .func (.func 55) #[] #[]] 63)
  have b2 := below_alloc w1 (.cells #[.int .i64 1, .func (.func 55) #[] #[]] 63)
  go_upto_region 2 with fail
  generalize w1.alloc (.cells #[.int .i64 1, .func (.func 55) #[] #[]] 63) = wb at *
  clear EL
  have c0 := cell_of_heap (j := 0) h2 rfl
  have c1 := cell_of_heap (j := 1) h2 rfl
  have H2 := Lib.hid (hb_below b2 H1.out (by omega))
  have D2 := Lib.hid (D1.out.trans (b2.mono (by omega)))
  have hs2 := b2.size
  go_wp2_with fail
  refine (CL.out _ (by have := D2.out.size; omega) ((D2.out.cell (p := ⟨s, off, none⟩) hlt).trans g0)).mono ?_
  rintro e w3 ⟨vv, rfl, hin, hb⟩
  obtain ⟨a3, c3, ee, _⟩ := id hin
  subst ee
  have HN := Lib.hid hin
  have H3 := Lib.hid (hb_below hb H2.out (by omega))
  have D3 := Lib.hid (D2.out.trans (hb.mono (by omega)))
  clear hb hin c0 c1 h2 b2
  go_wp2_with (refine store_row rfl _ _ _ rfl w.heap.size _ rfl rfl _ _ H3.out (by kernel_rfl) rfl (by kernel_rfl) ?_)
  intro wf hf hk2 hzf hB
  have HF := Lib.hid hf
  have DF := Lib.hid (hB _ _ D3.out (Nat.le_refl _))
  have SF := Lib.hid (ws_store HN.out H3.out hk2 hzf)
  clear hf hk2 hzf hB
  go_wp2_with fail
  exact bodyPost_ret (results_bt rfl _ _ w.heap.size rfl rfl HF.out Try.underlying24 rfl (by kernel_rfl)) rfl ⟨_, rfl, SF.out, DF.out⟩
set_option maxHeartbeats 4000000 in
set_option maxRecDepth 100000 in
theorem mk_footside_len (a : Option Addr) (n c : Nat) (hq : ((n : Int) == 2) = false) (w : World) : Calls Try.prog 24 #[.string ⟨#[102, 111, 111, 116, 115, 105, 100, 101]⟩, .slice a n c] w (Out (moBad 2) w) := by
  unfold Out moBad
  go_enter Try.func24, Try.ntmps24
  go_wp2_with fail
  have h0 : (w.alloc (.cells #[.int .i64 0, .slice none 0 0] 24)).heap[w.heap.size]? = some (.cells #[.int .i64 0, .slice none 0 0] 24 (0, 0)) := heap_alloc_new _ _
  have D0 := Lib.hid (below_alloc w (.cells #[.int .i64 0, .slice none 0 0] 24))
  have H0 := Lib.hid h0
  have hgs : w.heap.size < (w.alloc (.cells #[.int .i64 0, .slice none 0 0] 24)).heap.size := by simp
  generalize (w.alloc (.cells #[.int .i64 0, .slice none 0 0] 24)) = wa at *
  clear h0
  refine (motifs_any _).mono ?_
  rintro e w1 ⟨rfl, hm, hz, hb⟩
  have H1 := Lib.hid (hb_below hb H0.out hgs)
  have D1 := Lib.hid (D0.out.trans (hb.mono (Nat.le_of_lt hgs)))
  have hs1 := hb.size
  have HZ := Lib.hid hz
  clear hb hz
  have EL := lookup_hit (P := Try.prog) (i := 4) (v := .agg #[.int .i64 2, .func (.func 56) #[] #[]]) (.string ⟨#[102, 111, 111, 116, 115, 105, 100, 101]⟩) .string Try.underlying65 Try.underlying9 hm trivial (by kernel_rfl)
  clear hm
  have h2 := heap_alloc_new w1 (.cells #[.int .i64 2, .func (.func 56) #[] #[]] 63)
  have b2 := below_alloc w1 (.cells #[.int .i64 2, .func (.func 56) #[] #[]] 63)
  go_upto_region 2 with fail
  generalize w1.alloc (.cells #[.int .i64 2, .func (.func 56) #[] #[]] 63) = wb at *
  clear EL
  have c0 := cell_of_heap (j := 0) h2 rfl
  have c1 := cell_of_heap (j := 1) h2 rfl
  have H2 := Lib.hid (hb_below b2 H1.out (by omega))
  have D2 := Lib.hid (D1.out.trans (b2.mono (by omega)))
  have hs2 := b2.size
  clear b2 h2
  go_wp2_with (refine store_row rfl _ _ _ rfl w.heap.size _ rfl rfl _ _ H2.out (by kernel_rfl) rfl (by kernel_rfl) ?_)
  intro wf hf hk2 hzf hB
  have HF := Lib.hid hf
  have DF := Lib.hid (hB _ _ D2.out (Nat.le_refl _))
  clear hf hk2 hzf hB
  go_wp2_with fail
  exact bodyPost_ret (results_bt rfl _ _ w.heap.size rfl rfl HF.out Try.underlying24 rfl (by kernel_rfl)) rfl ⟨_, rfl, ws_nil _, DF.out⟩
set_option maxHeartbeats 4000000 in
set_option maxRecDepth 100000 in
theorem mk_footside (z y : Int) (s off c : Nat) (w : World) (hlt : s < w.heap.size) (g0 : w.cell? ⟨s, off, none⟩ = some (.int .i64 z)) (g1 : w.cell? ⟨s, off + 1, none⟩ = some (.int .i64 y)) : Calls Try.prog 24 #[.string ⟨#[102, 111, 111, 116, 115, 105, 100, 101]⟩, .slice (some ⟨s, off, none⟩) 2 c] w (Out (footM z y) w) := by
  have CL := cl_footside z y s off c
  generalize footM z y = M at *
  replace CL := Lib.hid CL
  unfold Out
  go_enter Try.func24, Try.ntmps24
  go_wp2_with fail
  have h0 : (w.alloc (.cells #[.int .i64 0, .slice none 0 0] 24)).heap[w.heap.size]? = some (.cells #[.int .i64 0, .slice none 0 0] 24 (0, 0)) := heap_alloc_new _ _
  have D0 := Lib.hid (below_alloc w (.cells #[.int .i64 0, .slice none 0 0] 24))
  have H0 := Lib.hid h0
  have hgs : w.heap.size < (w.alloc (.cells #[.int .i64 0, .slice none 0 0] 24)).heap.size := by simp
  generalize (w.alloc (.cells #[.int .i64 0, .slice none 0 0] 24)) = wa at *
  clear h0
  refine (motifs_any _).mono ?_
  rintro e w1 ⟨rfl, hm, hz, hb⟩
  have H1 := Lib.hid (hb_below hb H0.out hgs)
  have D1 := Lib.hid (D0.out.trans (hb.mono (Nat.le_of_lt hgs)))
  have hs1 := hb.size
  have HZ := Lib.hid hz
  clear hb hz
  have EL := lookup_hit (P := Try.prog) (i := 4) (v := .agg #[.int .i64 2, .func (.func 56) #[] #[]]) (.string ⟨#[102, 111, 111, 116, 115, 105, 100, 101]⟩) .string Try.underlying65 Try.underlying9 hm trivial (by kernel_rfl)
  clear hm
  have h2 := heap_alloc_new w1 (.cells #[.int .i64 2, .func (.func 56) #[] #[]] 63)
  have b2 := below_alloc w1 (.cells #[.int .i64 2, .func (.func 56) #[] #[]] 63)
  go_upto_region 2 with fail
  generalize w1.alloc (.cells #[.int .i64 2, .func (.func 56) #[] #[]] 63) = wb at *
  clear EL
  have c0 := cell_of_heap (j := 0) h2 rfl
  have c1 := cell_of_heap (j := 1) h2 rfl
  have H2 := Lib.hid (hb_below b2 H1.out (by omega))
  have D2 := Lib.hid (D1.out.trans (b2.mono (by omega)))
  have hs2 := b2.size
  go_wp2_with fail
  refine (CL.out _ (by have := D2.out.size; omega) ((D2.out.cell (p := ⟨s, off, none⟩) hlt).trans g0) ((D2.out.cell (p := ⟨s, off + 1, none⟩) hlt).trans g1)).mono ?_
  rintro e w3 ⟨vv, rfl, hin, hb⟩
  obtain ⟨a3, c3, ee, _⟩ := id hin
  subst ee
  have HN := Lib.hid hin
  have H3 := Lib.hid (hb_below hb H2.out (by omega))
  have D3 := Lib.hid (D2.out.trans (hb.mono (by omega)))
  clear hb hin c0 c1 h2 b2
  go_wp2_with (refine store_row rfl _ _ _ rfl w.heap.size _ rfl rfl _ _ H3.out (by kernel_rfl) rfl (by kernel_rfl) ?_)
  intro wf hf hk2 hzf hB
  have HF := Lib.hid hf
  have DF := Lib.hid (hB _ _ D3.out (Nat.le_refl _))
  have SF := Lib.hid (ws_store HN.out H3.out hk2 hzf)
  clear hf hk2 hzf hB
  go_wp2_with fail
  exact bodyPost_ret (results_bt rfl _ _ w.heap.size rfl rfl HF.out Try.underlying24 rfl (by kernel_rfl)) rfl ⟨_, rfl, SF.out, DF.out⟩
set_option maxHeartbeats 4000000 in
set_option maxRecDepth 100000 in
theorem mk_windmill_len (a : Option Addr) (n c : Nat) (hq : ((n : Int) == 0) = false) (w : World) : Calls Try.prog 24 #[.string ⟨#[119, 105, 110, 100, 109, 105, 108, 108]⟩, .slice a n c] w (Out (moBad 2) w) := by
  unfold Out moBad
  go_enter Try.func24, Try.ntmps24
  go_wp2_with fail
  have h0 : (w.alloc (.cells #[.int .i64 0, .slice none 0 0] 24)).heap[w.heap.size]? = some (.cells #[.int .i64 0, .slice none 0 0] 24 (0, 0)) := heap_alloc_new _ _
  have D0 := Lib.hid (below_alloc w (.cells #[.int .i64 0, .slice none 0 0] 24))
  have H0 := Lib.hid h0
  have hgs : w.heap.size < (w.alloc (.cells #[.int .i64 0, .slice none 0 0] 24)).heap.size := by simp
  generalize (w.alloc (.cells #[.int .i64 0, .slice none 0 0] 24)) = wa at *
  clear h0
  refine (motifs_any _).mono ?_
  rintro e w1 ⟨rfl, hm, hz, hb⟩
  have H1 := Lib.hid (hb_below hb H0.out hgs)
  have D1 := Lib.hid (D0.out.trans (hb.mono (Nat.le_of_lt hgs)))
  have hs1 := hb.size
  have HZ := Lib.hid hz
  clear hb hz
  have EL := lookup_hit (P := Try.prog) (i := 5) (v := .agg #[.int .i64 0, .func (.func 57) #[] #[]]) (.string ⟨#[119, 105, 110, 100, 109, 105, 108, 108]⟩) .string Try.underlying65 Try.underlying9 hm trivial (by kernel_rfl)
  clear hm
  have h2 := heap_alloc_new w1 (.cells #[.int .i64 0, .func (.func 57) #[] #[]] 63)
  have b2 := below_alloc w1 (.cells #[.int .i64 0, .func (.func 57) #[] #[]] 63)
  go_upto_region 2 with fail
  generalize w1.alloc (.cells #[.int .i64 0, .func (.func 57) #[] #[]] 63) = wb at *
  clear EL
  have c0 := cell_of_heap (j := 0) h2 rfl
  have c1 := cell_of_heap (j := 1) h2 rfl
  have H2 := Lib.hid (hb_below b2 H1.out (by omega))
  have D2 := Lib.hid (D1.out.trans (b2.mono (by omega)))
  have hs2 := b2.size
  clear b2 h2
  go_wp2_with (refine store_row rfl _ _ _ rfl w.heap.size _ rfl rfl _ _ H2.out (by kernel_rfl) rfl (by kernel_rfl) ?_)
  intro wf hf hk2 hzf hB
  have HF := Lib.hid hf
  have DF := Lib.hid (hB _ _ D2.out (Nat.le_refl _))
  clear hf hk2 hzf hB
  go_wp2_with fail
  exact bodyPost_ret (results_bt rfl _ _ w.heap.size rfl rfl HF.out Try.underlying24 rfl (by kernel_rfl)) rfl ⟨_, rfl, ws_nil _, DF.out⟩
set_option maxHeartbeats 4000000 in
set_option maxRecDepth 100000 in
theorem mk_windmill (a : Option Addr) (c : Nat) (w : World) : Calls Try.prog 24 #[.string ⟨#[119, 105, 110, 100, 109, 105, 108, 108]⟩, .slice a 0 c] w (Out (millM) w) := by
  have CL := cl_windmill (.slice a 0 c)
  generalize millM = M at *
  replace CL := Lib.hid CL
  unfold Out
  go_enter Try.func24, Try.ntmps24
  go_wp2_with fail
  have h0 : (w.alloc (.cells #[.int .i64 0, .slice none 0 0] 24)).heap[w.heap.size]? = some (.cells #[.int .i64 0, .slice none 0 0] 24 (0, 0)) := heap_alloc_new _ _
  have D0 := Lib.hid (below_alloc w (.cells #[.int .i64 0, .slice none 0 0] 24))
  have H0 := Lib.hid h0
  have hgs : w.heap.size < (w.alloc (.cells #[.int .i64 0, .slice none 0 0] 24)).heap.size := by simp
  generalize (w.alloc (.cells #[.int .i64 0, .slice none 0 0] 24)) = wa at *
  clear h0
  refine (motifs_any _).mono ?_
  rintro e w1 ⟨rfl, hm, hz, hb⟩
  have H1 := Lib.hid (hb_below hb H0.out hgs)
  have D1 := Lib.hid (D0.out.trans (hb.mono (Nat.le_of_lt hgs)))
  have hs1 := hb.size
  have HZ := Lib.hid hz
  clear hb hz
  have EL := lookup_hit (P := Try.prog) (i := 5) (v := .agg #[.int .i64 0, .func (.func 57) #[] #[]]) (.string ⟨#[119, 105, 110, 100, 109, 105, 108, 108]⟩) .string Try.underlying65 Try.underlying9 hm trivial (by kernel_rfl)
  clear hm
  have h2 := heap_alloc_new w1 (.cells #[.int .i64 0, .func (.func 57) #[] #[]] 63)
  have b2 := below_alloc w1 (.cells #[.int .i64 0, .func (.func 57) #[] #[]] 63)
  go_upto_region 2 with fail
  generalize w1.alloc (.cells #[.int .i64 0, .func (.func 57) #[] #[]] 63) = wb at *
  clear EL
  have c0 := cell_of_heap (j := 0) h2 rfl
  have c1 := cell_of_heap (j := 1) h2 rfl
  have H2 := Lib.hid (hb_below b2 H1.out (by omega))
  have D2 := Lib.hid (D1.out.trans (b2.mono (by omega)))
  have hs2 := b2.size
  go_wp2_with fail
  refine (CL.out _).mono ?_
  rintro e w3 ⟨vv, rfl, hin, hb⟩
  obtain ⟨a3, c3, ee, _⟩ := id hin
  subst ee
  have HN := Lib.hid hin
  have H3 := Lib.hid (hb_below hb H2.out (by omega))
  have D3 := Lib.hid (D2.out.trans (hb.mono (by omega)))
  clear hb hin c0 c1 h2 b2
  go_wp2_with (refine store_row rfl _ _ _ rfl w.heap.size _ rfl rfl _ _ H3.out (by kernel_rfl) rfl (by kernel_rfl) ?_)
  intro wf hf hk2 hzf hB
  have HF := Lib.hid hf
  have DF := Lib.hid (hB _ _ D3.out (Nat.le_refl _))
  have SF := Lib.hid (ws_store HN.out H3.out hk2 hzf)
  clear hf hk2 hzf hB
  go_wp2_with fail
  exact bodyPost_ret (results_bt rfl _ _ w.heap.size rfl rfl HF.out Try.underlying24 rfl (by kernel_rfl)) rfl ⟨_, rfl, SF.out, DF.out⟩
set_option maxHeartbeats 4000000 in
set_option maxRecDepth 100000 in
theorem mk_none (name : ByteArray) (hnf : Instr.findNow .string (.string name) motEs.toList 0 = some none) (v : Value) (w : World) : Calls Try.prog 24 #[.string name, v] w (Out (moBad 4) w) := by
  have HN := Lib.hid hnf
  clear hnf
  unfold Out moBad
  go_enter Try.func24, Try.ntmps24
  go_wp2_with fail
  have h0 : (w.alloc (.cells #[.int .i64 0, .slice none 0 0] 24)).heap[w.heap.size]? = some (.cells #[.int .i64 0, .slice none 0 0] 24 (0, 0)) := heap_alloc_new _ _
  have D0 := Lib.hid (below_alloc w (.cells #[.int .i64 0, .slice none 0 0] 24))
  have H0 := Lib.hid h0
  have hgs : w.heap.size < (w.alloc (.cells #[.int .i64 0, .slice none 0 0] 24)).heap.size := by simp
  generalize (w.alloc (.cells #[.int .i64 0, .slice none 0 0] 24)) = wa at *
  clear h0
  refine (motifs_any _).mono ?_
  rintro e w1 ⟨rfl, hm, hz, hb⟩
  have H1 := Lib.hid (hb_below hb H0.out hgs)
  have D1 := Lib.hid (D0.out.trans (hb.mono (Nat.le_of_lt hgs)))
  have hs1 := hb.size
  have HZ := Lib.hid hz
  clear hb hz
  have EL := lookup_miss (P := Try.prog) (z := .agg #[.int .i64 0, .nilFunc]) (.string name) .string Try.underlying65 Try.underlying9 hm trivial HN.out (by rfl)
  clear hm
  have h2 := heap_alloc_new w1 (.cells #[.int .i64 0, .nilFunc] 63)
  have b2 := below_alloc w1 (.cells #[.int .i64 0, .nilFunc] 63)
  go_upto_region 2 with fail
  generalize w1.alloc (.cells #[.int .i64 0, .nilFunc] 63) = wb at *
  clear EL
  have c0 := cell_of_heap (j := 0) h2 rfl
  have c1 := cell_of_heap (j := 1) h2 rfl
  have H2 := Lib.hid (hb_below b2 H1.out (by omega))
  have D2 := Lib.hid (D1.out.trans (b2.mono (by omega)))
  have hs2 := b2.size
  clear b2 h2
  go_wp2_with (refine store_row rfl _ _ _ rfl w.heap.size _ rfl rfl _ _ H2.out (by kernel_rfl) rfl (by kernel_rfl) ?_)
  intro wf hf hk2 hzf hB
  have HF := Lib.hid hf
  have DF := Lib.hid (hB _ _ D2.out (Nat.le_refl _))
  clear hf hk2 hzf hB
  go_wp2_with fail
  exact bodyPost_ret (results_bt rfl _ _ w.heap.size rfl rfl HF.out Try.underlying24 rfl (by kernel_rfl)) rfl ⟨_, rfl, ws_nil _, DF.out⟩
theorem is_cell {w : World} {a : Option Addr} {n c k : Nat} {zs : List Int} {z : Int} (h : IS w (.slice a n c) zs) (hz : zs[k]? = some z) : ∃ b off, a = some ⟨b, off, none⟩ ∧ b < w.heap.size ∧ w.cell? ⟨b, off + k, none⟩ = some (.int .i64 z) := by
  obtain ⟨a', c', e, _, _, _, h3⟩ := h
  cases e
  exact h3 k z hz
theorem Make_any (name : ByteArray) (zs : List Int) (v : Value) (w : World) (hv : IS w v zs) : Calls Try.prog 24 #[.string name, v] w (Out (makeM name zs) w) := by
  obtain ⟨a, c, rfl, hlc⟩ := id hv
  unfold makeM
  by_cases e0 : name = bPlait
  · rw [if_pos e0]
    subst e0
    match zs, hv with
    | [z], hv =>
      obtain ⟨b, off, rfl, hlt, h0⟩ := is_cell hv (k := 0) rfl
      exact mk_plait z b off c w hlt h0
    | [], hv => exact mk_plait_len a _ c (by simp) w
    | z :: y :: zs, hv => exact mk_plait_len a _ c (by simp; omega) w
  rw [if_neg e0]
  by_cases e1 : name = bPicot
  · rw [if_pos e1]
    subst e1
    match zs, hv with
    | [z], hv =>
      obtain ⟨b, off, rfl, hlt, h0⟩ := is_cell hv (k := 0) rfl
      exact mk_picot z b off c w hlt h0
    | [], hv => exact mk_picot_len a _ c (by simp) w
    | z :: y :: zs, hv => exact mk_picot_len a _ c (by simp; omega) w
  rw [if_neg e1]
  by_cases e2 : name = bSpider
  · rw [if_pos e2]
    subst e2
    match zs, hv with
    | [z, y], hv =>
      obtain ⟨b, off, rfl, hlt, h0⟩ := is_cell hv (k := 0) rfl
      obtain ⟨b', off', e, _, h1⟩ := is_cell hv (k := 1) rfl
      cases e
      exact mk_spider z y b off c w hlt h0 h1
    | [], hv => exact mk_spider_len a _ c (by simp) w
    | [z], hv => exact mk_spider_len a _ c (by simp) w
    | z :: y :: x :: zs, hv => exact mk_spider_len a _ c (by simp; omega) w
  rw [if_neg e2]
  by_cases e3 : name = bFan
  · rw [if_pos e3]
    subst e3
    match zs, hv with
    | [z], hv =>
      obtain ⟨b, off, rfl, hlt, h0⟩ := is_cell hv (k := 0) rfl
      exact mk_fan z b off c w hlt h0
    | [], hv => exact mk_fan_len a _ c (by simp) w
    | z :: y :: zs, hv => exact mk_fan_len a _ c (by simp; omega) w
  rw [if_neg e3]
  by_cases e4 : name = bFootside
  · rw [if_pos e4]
    subst e4
    match zs, hv with
    | [z, y], hv =>
      obtain ⟨b, off, rfl, hlt, h0⟩ := is_cell hv (k := 0) rfl
      obtain ⟨b', off', e, _, h1⟩ := is_cell hv (k := 1) rfl
      cases e
      exact mk_footside z y b off c w hlt h0 h1
    | [], hv => exact mk_footside_len a _ c (by simp) w
    | [z], hv => exact mk_footside_len a _ c (by simp) w
    | z :: y :: x :: zs, hv => exact mk_footside_len a _ c (by simp; omega) w
  rw [if_neg e4]
  by_cases e5 : name = bWindmill
  · rw [if_pos e5]
    subst e5
    match zs, hv with
    | [], hv => exact mk_windmill a c w
    | z :: zs, hv => exact mk_windmill_len a _ c (by simp; omega) w
  rw [if_neg e5]
  exact mk_none name (find_none name e0 e1 e2 e3 e4 e5) _ w
set_option maxHeartbeats 4000000 in
set_option maxRecDepth 100000 in
theorem Width_any (name : ByteArray) (zs : List Int) (v : Value) (w : World) (hv : IS w v zs) : Calls Try.prog 26 #[.string name, v] w fun e w' => e = .returned (.tuple #[.int .i64 (makeM name zs).p, .int .i64 (makeM name zs).e]) ∧ Below w.heap.size w w' := by
  have CM : Calls Try.prog 24 #[.string name, v] w fun e w' => ∃ a n c, e = .returned (.tuple #[.agg #[.int .i64 (makeM name zs).p, .slice a n c], .int .i64 (makeM name zs).e]) ∧ Below w.heap.size w w' := by
    refine (Make_any name zs v w hv).mono ?_
    rintro e w' ⟨v, rfl, hv, hb⟩
    obtain ⟨a, c, ee, _⟩ := hv
    subst ee
    exact ⟨a, _, c, rfl, hb⟩
  generalize makeM name zs = M at *
  clear hv
  go_enter Try.func26, Try.ntmps26
  go_wp2_with fail
  refine CM.mono ?_
  rintro e w1 ⟨a, n, c, rfl, hb⟩
  have h2 := heap_alloc_new w1 (.cells #[.int .i64 M.p, .slice a n c] 24)
  have b2 := below_alloc w1 (.cells #[.int .i64 M.p, .slice a n c] 24)
  have c0 := cell_of_heap (j := 0) h2 rfl
  have HB := Lib.hid (hb.trans (b2.mono hb.size))
  clear hb h2 b2
  go_wp2_with fail
  go_ret2
  exact ⟨rfl, HB.out⟩
def namesV : Array Value := #[.string ⟨#[112, 108, 97, 105, 116]⟩, .string ⟨#[112, 105, 99, 111, 116]⟩, .string ⟨#[115, 112, 105, 100, 101, 114]⟩, .string ⟨#[102, 97, 110]⟩, .string ⟨#[102, 111, 111, 116, 115, 105, 100, 101]⟩, .string ⟨#[119, 105, 110, 100, 109, 105, 108, 108]⟩]
set_option maxRecDepth 100000 in
theorem Names_any (w : World) : Calls Try.prog 22 #[] w fun e w' => e = .returned (.slice (some ⟨w.heap.size, 0, none⟩) 6 6) ∧ w' = w.alloc (.cells namesV 9) := by
  unfold namesV
  go_enter Try.func22, Try.ntmps22
  go_wp2_with fail
  go_ret
  exact ⟨rfl, rfl⟩
set_option maxRecDepth 100000 in
theorem refNames_any (w : World) : Calls Try.prog 23 #[] w fun e w' => e = .returned (.slice (some ⟨w.heap.size, 0, none⟩) 6 6) ∧ w' = w.alloc (.cells namesV 9) := by
  unfold namesV
  go_enter Try.func23, Try.ntmps23
  go_wp2_with fail
  go_ret
  exact ⟨rfl, rfl⟩
end Go.Proofs.Ytabpjiidbailiaa
