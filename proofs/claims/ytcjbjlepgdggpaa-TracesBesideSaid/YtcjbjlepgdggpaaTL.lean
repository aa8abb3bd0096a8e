/- Orders; the examples' sheets. -/
import Derived.Test.YtcjbjlepgdggpaaTK
namespace Go.Proofs.Ytcjbjlepgdggpaa
open Go.RowKit Go.Shelf Go.Lib
set_option maxRecDepth 100000
set_option linter.unusedSimpArgs false
attribute [local irreducible] wpQuiet
def ordV (s : Sh) : Int := if cntE s = 0 then (ordN s.ws.length (rdyM s.ws.length (frs (stepV s))) 0 : Int) else 0
set_option maxHeartbeats 4000000 in
set_option maxRecDepth 100000 in
theorem Orders_any (s : Sh) (v : Value) (w : World) (hv : SV w v s) :
    Calls Try.prog 26 #[v] w fun e w' => e = .returned (.tuple #[.int .i64 (ordV s), .int .i64 (cntE s)]) ∧ Below w.heap.size w w' := by
  have HV := Lib.hid hv
  obtain ⟨u, rfl, hu⟩ := hv
  obtain ⟨ua, uc, rfl, k1, k2, _⟩ := id hu
  have CS := Lib.hid (fun W h => countsOf_any s (.agg #[.int .i64 s.pr, .slice ua s.ws.length uc]) W h)
  have HO := Lib.hid (show ordV s = if cntE s = 0 then (ordN s.ws.length (rdyM s.ws.length (frs (stepV s))) 0 : Int) else 0 from rfl)
  generalize ordV s = ov at *
  generalize hzz : cntE s = z at *
  have HZZ := Lib.hid hzz
  clear hu hzz
  go_enter Try.func26, Try.ntmps26
  go_wp2_with fail
  have B0 := below_alloc w (.cells #[.int .i64 s.pr, .slice ua s.ws.length uc] 24)
  generalize w.alloc (.cells #[.int .i64 s.pr, .slice ua s.ws.length uc] 24) = W0 at *
  refine (CS.out W0 (HV.out.below B0)).mono ?_
  rintro e w1 ⟨cs, rfl, hl, h1, b1, hok⟩
  have HB1 := Lib.hid (bon B0 b1)
  have HL := Lib.hid hl
  have HON := Lib.hid h1
  have HOK := Lib.hid hok
  have HZ0 := Lib.hid B0.size
  have q2 := heap_alloc_new w1 (.cells #[.int .i64 0, .int .u16 0, .int .u16 0, .int .u16 0, .int .u16 0, .int .u16 0, .int .u16 0, .int .u16 0, .int .u16 0, .int .u16 0, .int .u16 0, .int .u16 0, .int .u16 0, .int .u16 0, .int .u16 0, .int .u16 0, .int .u16 0, .map none] 82)
  have hq := Lib.hid (below_alloc w1 (.cells #[.int .i64 0, .int .u16 0, .int .u16 0, .int .u16 0, .int .u16 0, .int .u16 0, .int .u16 0, .int .u16 0, .int .u16 0, .int .u16 0, .int .u16 0, .int .u16 0, .int .u16 0, .int .u16 0, .int .u16 0, .int .u16 0, .int .u16 0, .map none] 82))
  have HI := Lib.hid (show (Try.prog.info? 82).map (·.size) = some cs.toArray.size by rw [List.size_toArray, HL.out]; kernel_rfl)
  have HH := Lib.hid (show (#[.int .i64 0, .int .u16 0, .int .u16 0, .int .u16 0, .int .u16 0, .int .u16 0, .int .u16 0, .int .u16 0, .int .u16 0, .int .u16 0, .int .u16 0, .int .u16 0, .int .u16 0, .int .u16 0, .int .u16 0, .int .u16 0, .int .u16 0, .map none] : Array Value).size = cs.toArray.size by rw [show cs.toArray.size = 18 by rw [List.size_toArray]; exact HL.out]; rfl)
  clear B0 b1 hl h1 hok CS
  by_cases hz : z = 0
  · have HZ := Lib.hid (HZZ.out.trans hz)
    have HOK2 := Lib.hid (HOK.out hz)
    have HE : ov = (ordN s.ws.length (rdyM s.ws.length (frs (stepV s))) 0 : Int) := by rw [HO.out, if_pos hz]
    subst HE
    subst hz
    clear HO HOK
    go_upto_region 2 with (first | (refine store_row rfl  82 (.tmp 4) (.tmp 9) rfl w1.heap.size cs.toArray rfl rfl 82 _ q2 HI.out HH.out HON.out ?_; intro w2 h2 k2 z2 b2))
    obtain ⟨mb, rfl, hm, hmb⟩ := HOK2.out
    have hb2 := b2 w1.heap.size w1 hq.out (Nat.le_refl _)
    have hm2 : OI w2 s.ws.length (rdyM s.ws.length (frs (stepV s))) mb := by
      obtain ⟨f, ⟨D, ⟨es, ck, d1, d3⟩, d2⟩, f2, f3⟩ := hm
      have := (Array.getElem?_eq_some_iff.1 d1).1
      exact ⟨f, ⟨D, ⟨es, ck, hb_below hb2 d1 this, d3⟩, d2⟩, f2, f3⟩
    have hn16 : s.ws.length ≤ 16 := by
      refine Nat.le_of_not_lt fun h => ?_
      have e := HZ.out
      unfold cntE at e
      by_cases hc : chkS s ≠ 0
      · rw [if_pos hc] at e; exact hc e
      · rw [if_neg hc, if_pos h] at e; cases e
    have hck : chkS s = 0 := by
      refine Classical.byContradiction fun h => ?_
      have e := HZ.out
      unfold cntE at e
      rw [if_pos h] at e
      exact h e
    have hcf : ∀ i, frs (stepV s) i < 2 ^ 16 := fun i => frs_lt (fun e he => by
      rw [stepV_ok hck] at he
      obtain ⟨a, b, h1, h2, h3, h4, _⟩ := step_char he
      omega) i
    have CO := Lib.hid (orders_any s.ws.length w1.heap.size mb (frs (stepV s)) hn16 hcf (by have := hm.lt; omega) _ 0 w2 (Nat.le_refl _) (by decide) h2 hm2)
    have HBX := Lib.hid (show Below w.heap.size w w2 from bon HB1.out hb2)
    generalize hov : ordN s.ws.length (rdyM s.ws.length (frs (stepV s))) 0 = ov at *
    have HOVE := Lib.hid hov
    clear hov
    clear hm hm2 hn16 hck hcf h2 k2 b2 hb2 HOK2 q2
    go_wp2_with fail
    refine CO.out.mono ?_
    rintro e w3 ⟨rfl, _, hg⟩
    have HBY := Lib.hid (show Below w.heap.size w w3 from Below.grown HBX.out hg HBX.out.size (fun k e => by cases e; exact Nat.le_trans HZ0.out hmb))
    clear hg
    go_wp2_with fail
    go_ret2
    exact ⟨by rw [HOVE.out]; rfl, HBY.out⟩
  · have HE : ov = 0 := by rw [HO.out, if_neg hz]
    subst HE
    have hz' : (z == 0) = false := beq_eq_false_iff_ne.2 hz
    clear hz HO HOK
    go_upto_region 2 with (first | (refine store_row rfl  82 (.tmp 4) (.tmp 9) rfl w1.heap.size cs.toArray rfl rfl 82 _ q2 HI.out HH.out HON.out ?_; intro w2 h2 k2 z2 b2))
    have hb2 := b2 w1.heap.size w1 hq.out (Nat.le_refl _)
    have HBX := Lib.hid (show Below w.heap.size w w2 from bon HB1.out hb2)
    clear h2 k2 b2 hb2 q2
    go_wp2_with fail
    go_ret2
    exact ⟨rfl, HBX.out⟩
def wkCT (p : Int) : Wk := ⟨1, p, ⟨#[67, 84]⟩⟩
def wkCTC (p : Int) : Wk := ⟨1, p, ⟨#[67, 84, 67]⟩⟩
def shA : Sh := ⟨4, [wkCT 0, wkCTC 2, wkCT 1]⟩
def shB : Sh := ⟨4, [wkCTC 2, wkCT 0, wkCT 1]⟩
def Wk.cs (x : Wk) : List Value := [.int .i64 x.kd, .int .i64 x.pl, .string x.wd]
theorem ws_heap {L : List Wk} {w : World} {g : Nat} (hg : w.heap[g]? = some (.cells (L.flatMap Wk.cs).toArray 51 (0, 0))) (hl : L.length ≤ maxLen) (hs : ∀ x ∈ L, x.wd.size ≤ maxLen) : WS w (.slice (some ⟨g, 0, none⟩) L.length L.length) L :=
  ⟨_, _, rfl, Nat.le_refl _, hl, fun k x hx => ⟨g, 0, rfl, (Array.getElem?_eq_some_iff.1 hg).1, fun j v hj => by
    have hj3 : j < 3 := (List.getElem?_eq_some_iff.1 hj).1
    rw [cell_of_row _ _ _ _ _ _ hg, List.getElem?_toArray, Nat.zero_add, flat_get Wk.cs 3 (fun _ => rfl) L k x hx j hj3]
    exact hj, hs x (List.mem_of_getElem? hx)⟩⟩
theorem ws_get {w : World} {a : Option Addr} {n c k : Nat} {W : List Wk} {x : Wk} (h : WS w (.slice a n c) W) (hx : W[k]? = some x) : ∃ b off, a = some ⟨b, off, none⟩ ∧ b < w.heap.size ∧ w.rangeAt b (off + k * 3) x.cs := by
  obtain ⟨a', c', e, _, _, hg⟩ := h
  cases e
  obtain ⟨b, off, e2, hb, hr, _⟩ := hg k x hx
  exact ⟨b, off, e2, hb, hr⟩
theorem results_cellS {P : Program} {fn : Func} {p : Tmp} {ty : TypeId} (h : fn.results = #[.cell p ty]) (tmps : Array Value) (w : World) (g : Nat) (t : TypeId) (cs : Array Value) (fr : Nat × Nat) (d : TypeDesc)
    (hp : tmps.getD p undef = .pointer (some ⟨g, 0, none⟩)) (hg : w.heap[g]? = some (.cells cs t fr)) (hu : P.underlying ty = some d) (hd : (match d with | .struct _ | .array _ _ => true | _ => false) = true) (hi : (P.info? ty).map (·.size) = some cs.size) :
    (results fn tmps).run P w = .ok (.agg cs) w := by
  have hp' : tmps[p]?.getD undef = .pointer (some ⟨g, 0, none⟩) := by simpa using hp
  simp [results, h, hp', asAddr, run_loadVar_row w g t ty cs fr d hg hu hd hi]
set_option maxHeartbeats 4000000 in
set_option maxRecDepth 100000 in
theorem First_any (w : World) : Calls Try.prog 41 #[] w fun e w' => ∃ g, e = .returned (.agg #[.int .i64 4, .slice (some ⟨g, 0, none⟩) 3 3]) ∧ WS w' (.slice (some ⟨g, 0, none⟩) 3 3) shA.ws ∧ Below w.heap.size w w' := by
  go_enter Try.func41, Try.ntmps41
  go_wp2_with fail
  have h0 := heap_alloc2_old w (.cells #[.int .i64 4, .slice (some ⟨w.heap.size + 1, 0, none⟩) 3 3] 24) (.cells (shA.ws.flatMap Wk.cs).toArray 51)
  have h1 := heap_alloc2_new w (.cells #[.int .i64 4, .slice (some ⟨w.heap.size + 1, 0, none⟩) 3 3] 24) (.cells (shA.ws.flatMap Wk.cs).toArray 51)
  refine bodyPost_ret (results_cellS rfl _ _ w.heap.size 24 _ (0, 0) _ rfl h0 Try.underlying24 rfl (by kernel_rfl)) rfl ?_
  exact ⟨w.heap.size + 1, rfl, ws_heap (L := shA.ws) h1 (by decide) (by decide), (below_alloc _ _).alloc (by simp) _⟩
set_option maxHeartbeats 4000000 in
set_option maxRecDepth 100000 in
theorem Second_any (w : World) : Calls Try.prog 42 #[] w fun e w' => ∃ g, e = .returned (.agg #[.int .i64 4, .slice (some ⟨g, 0, none⟩) 3 3]) ∧ WS w' (.slice (some ⟨g, 0, none⟩) 3 3) shB.ws ∧ Below w.heap.size w w' := by
  have CF := Lib.hid (fun W => First_any W)
  go_enter Try.func42, Try.ntmps42
  go_wp2_with fail
  refine (CF.out _).mono ?_
  rintro e w1 ⟨g, rfl, hws, hb⟩
  have HB := Lib.hid hb
  have HWS := Lib.hid hws
  obtain ⟨b0, o0, e0, l0, r0⟩ := ws_get hws (k := 0) rfl
  obtain ⟨b1, o1, e1, l1, r1⟩ := ws_get hws (k := 1) rfl
  obtain ⟨b2, o2, e2, l2, r2⟩ := ws_get hws (k := 2) rfl
  cases e0
  cases e1
  cases e2
  have R0 := Lib.hid (show w1.rangeAt g 0 [.int .i64 1, .int .i64 0, .string ⟨#[67, 84]⟩] from r0)
  have R1 := Lib.hid (show w1.rangeAt g 3 [.int .i64 1, .int .i64 2, .string ⟨#[67, 84, 67]⟩] from r1)
  have R2 := Lib.hid (show w1.rangeAt g 6 [.int .i64 1, .int .i64 1, .string ⟨#[67, 84]⟩] from r2)
  have E : ∀ W, (Instr.field 24 (.agg #[.int .i64 4, .slice (some ⟨g, 0, none⟩) 3 3]) 1).run Try.prog W = .ok (.slice (some ⟨g, 0, none⟩) 3 3) W := fun W => by kernel_rfl
  have HZ := Lib.hid l0
  clear hws r0 r1 r2 hb
  go_wp2_with fail
  have h0 : w1.heap[w.heap.size]? = some (.cells #[.int .i64 0, .slice none 0 0] 24 (0, 0)) := hb_below HB.out (heap_alloc_new _ _) (by simp)
  refine wp_region_class (fun V => Below w1.heap.size w1 V) 9 (by kernel_rfl) (by kernel_rfl) (Below.refl _ w1).drew ?_
  simp only [List.take_succ_cons, List.take_zero, List.drop_succ_cons, List.drop_zero]
  refine quiet_moveV rfl _ rfl (.slice (some ⟨g, 0, none⟩) 3 3) rfl ?_
  simp only [Act.put, List.setIfInBounds_toArray, List.set_cons_zero, List.set_cons_succ]
  refine quiet_still rfl (.pointer (some ⟨g, 3, none⟩)) (fun w _ => by go_simp) ?_
  simp only [Act.put, List.setIfInBounds_toArray, List.set_cons_zero, List.set_cons_succ]
  refine quiet_load_mid rfl _ _ rfl g 3 rfl [.int .i64 1, .int .i64 2, .string ⟨#[67, 84, 67]⟩] _ (fun V h => range_below3 R1.out HZ.out h) Try.underlying51 rfl (by kernel_rfl) ?_
  simp only [Act.put, List.setIfInBounds_toArray, List.set_cons_zero, List.set_cons_succ]
  refine quiet_moveV rfl _ rfl (.slice (some ⟨g, 0, none⟩) 3 3) rfl ?_
  simp only [Act.put, List.setIfInBounds_toArray, List.set_cons_zero, List.set_cons_succ]
  refine quiet_still rfl (.pointer (some ⟨g, 0, none⟩)) (fun w _ => by go_simp) ?_
  simp only [Act.put, List.setIfInBounds_toArray, List.set_cons_zero, List.set_cons_succ]
  refine quiet_load_mid rfl _ _ rfl g 0 rfl [.int .i64 1, .int .i64 0, .string ⟨#[67, 84]⟩] _ (fun V h => range_below3 R0.out HZ.out h) Try.underlying51 rfl (by kernel_rfl) ?_
  simp only [Act.put, List.setIfInBounds_toArray, List.set_cons_zero, List.set_cons_succ]
  refine quiet_moveV rfl _ rfl (.slice (some ⟨g, 0, none⟩) 3 3) rfl ?_
  simp only [Act.put, List.setIfInBounds_toArray, List.set_cons_zero, List.set_cons_succ]
  refine quiet_still rfl (.pointer (some ⟨g, 6, none⟩)) (fun w _ => by go_simp) ?_
  simp only [Act.put, List.setIfInBounds_toArray, List.set_cons_zero, List.set_cons_succ]
  refine quiet_load_mid rfl _ _ rfl g 6 rfl [.int .i64 1, .int .i64 1, .string ⟨#[67, 84]⟩] _ (fun V h => range_below3 R2.out HZ.out h) Try.underlying51 rfl (by kernel_rfl) ?_
  simp only [Act.put, List.setIfInBounds_toArray, List.set_cons_zero, List.set_cons_succ]
  unfold wpQuiet
  intro V hV
  have H0 := Lib.hid (hb_below hV h0 (Array.getElem?_eq_some_iff.1 h0).1)
  have HBV := Lib.hid ((Below.trans (below_alloc w (.cells #[.int .i64 0, .slice none 0 0] 24)) (HB.out.mono (by simp))).trans (hV.mono (by have := HB.out.size; simp at this; omega)))
  have hbz := HBV.out.size
  have h1 := heap_alloc_new V (.cells (shB.ws.flatMap Wk.cs).toArray 51)
  have hBA := HBV.out.alloc hbz (.cells (shB.ws.flatMap Wk.cs).toArray 51)
  have H1 := Lib.hid h1
  have HBA := Lib.hid hBA
  have HW0 := Lib.hid (hb_old (o' := .cells (shB.ws.flatMap Wk.cs).toArray 51) H0.out (Array.getElem?_eq_some_iff.1 H0.out).1)
  have hlt := (Array.getElem?_eq_some_iff.1 H0.out).1
  clear hV h0 E h1 hBA
  go_wp2_with (first | (refine store_row rfl 24 (.tmp 0) (.tmp 14) rfl w.heap.size #[.int .i64 4, .slice (some ⟨V.heap.size, 0, none⟩) 3 3] rfl rfl 24 _ HW0.out (by kernel_rfl) rfl (by simp [Value.oneCell']) ?_; intro wf hf hk2 hzf hBf))
  refine bodyPost_ret (results_cellS rfl _ _ w.heap.size 24 _ (0, 0) _ rfl hf Try.underlying24 rfl (by kernel_rfl)) rfl ?_
  exact ⟨V.heap.size, rfl, ws_heap (L := shB.ws) (hk2 _ _ H1.out (by omega)) (by decide) (by decide), hBf _ _ HBA.out (Nat.le_refl _)⟩
end Go.Proofs.Ytcjbjlepgdggpaa
