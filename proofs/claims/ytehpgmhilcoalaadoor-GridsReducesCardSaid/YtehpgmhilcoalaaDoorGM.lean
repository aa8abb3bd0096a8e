/- led, lead. Laws of results. -/
import Derived.Test.YtehpgmhilcoalaaDoorGK
import Derived.Test.YtehpgmhilcoalaaDoorGO
namespace Go.Proofs.YtehpgmhilcoalaaDoor
open Go.RowKit Go.Lib
set_option linter.unusedSimpArgs false
set_option linter.unusedVariables false
section
variable {P : Program} {fn : Func}
theorem results_bt {p q : Tmp} {ty : TypeId} (h : fn.results = #[.cell p ty, .tmp q]) (tmps : Array Value) (w : World) (g : Nat) {t : TypeId} {cs : Array Value} {fr : Nat × Nat} {d : TypeDesc} {u : Value}
    (hp : tmps.getD p undef = .pointer (some ⟨g, 0, none⟩)) (hq : tmps.getD q undef = u) (hg : w.heap[g]? = some (.cells cs t fr))
    (hu : P.underlying ty = some d) (hd : (match d with | .struct _ | .array _ _ => true | _ => false) = true) (hi : (P.info? ty).map (·.size) = some cs.size) :
    (results fn tmps).run P w = .ok (.tuple #[.agg cs, u]) w := by
  have hp' : tmps[p]?.getD undef = .pointer (some ⟨g, 0, none⟩) := by simpa using hp
  have hq' : tmps[q]?.getD undef = u := by simpa using hq
  simp [results, h, hp', hq', asAddr, run_loadVar_row w g t ty cs fr d hg hu hd hi]
theorem results_bb {p q : Tmp} {ty ty' : TypeId} (h : fn.results = #[.cell p ty, .cell q ty']) (tmps : Array Value) (w : World) (g g' : Nat) {t t' : TypeId} {cs cs' : Array Value} {fr fr' : Nat × Nat} {d d' : TypeDesc}
    (hp : tmps.getD p undef = .pointer (some ⟨g, 0, none⟩)) (hq : tmps.getD q undef = .pointer (some ⟨g', 0, none⟩)) (hg : w.heap[g]? = some (.cells cs t fr)) (hg' : w.heap[g']? = some (.cells cs' t' fr'))
    (hu : P.underlying ty = some d) (hd : (match d with | .struct _ | .array _ _ => true | _ => false) = true) (hi : (P.info? ty).map (·.size) = some cs.size)
    (hu' : P.underlying ty' = some d') (hd' : (match d' with | .struct _ | .array _ _ => true | _ => false) = true) (hi' : (P.info? ty').map (·.size) = some cs'.size) :
    (results fn tmps).run P w = .ok (.tuple #[.agg cs, .agg cs']) w := by
  have hp' : tmps[p]?.getD undef = .pointer (some ⟨g, 0, none⟩) := by simpa using hp
  have hq' : tmps[q]?.getD undef = .pointer (some ⟨g', 0, none⟩) := by simpa using hq
  simp [results, h, hp', hq', asAddr, run_loadVar_row w g t ty cs fr d hg hu hd hi, run_loadVar_row w g' t' ty' cs' fr' d' hg' hu' hd' hi']
theorem results_bbt {p q r : Tmp} {ty ty' : TypeId} (h : fn.results = #[.cell p ty, .cell q ty', .tmp r]) (tmps : Array Value) (w : World) (g g' : Nat) {t t' : TypeId} {cs cs' : Array Value} {fr fr' : Nat × Nat} {d d' : TypeDesc} {u : Value}
    (hp : tmps.getD p undef = .pointer (some ⟨g, 0, none⟩)) (hq : tmps.getD q undef = .pointer (some ⟨g', 0, none⟩)) (hr : tmps.getD r undef = u) (hg : w.heap[g]? = some (.cells cs t fr)) (hg' : w.heap[g']? = some (.cells cs' t' fr'))
    (hu : P.underlying ty = some d) (hd : (match d with | .struct _ | .array _ _ => true | _ => false) = true) (hi : (P.info? ty).map (·.size) = some cs.size)
    (hu' : P.underlying ty' = some d') (hd' : (match d' with | .struct _ | .array _ _ => true | _ => false) = true) (hi' : (P.info? ty').map (·.size) = some cs'.size) :
    (results fn tmps).run P w = .ok (.tuple #[.agg cs, .agg cs', u]) w := by
  have hp' : tmps[p]?.getD undef = .pointer (some ⟨g, 0, none⟩) := by simpa using hp
  have hq' : tmps[q]?.getD undef = .pointer (some ⟨g', 0, none⟩) := by simpa using hq
  have hr' : tmps[r]?.getD undef = u := by simpa using hr
  simp [results, h, hp', hq', hr', asAddr, run_loadVar_row w g t ty cs fr d hg hu hd hi, run_loadVar_row w g' t' ty' cs' fr' d' hg' hu' hd' hi']
end
set_option maxHeartbeats 4000000 in
set_option maxRecDepth 100000 in
theorem led_any (l : Lat) (m : Mat) (w : World) : Calls Tryd.prog 69 #[l.val, m.val] w fun e w' => e = .returned ((led l m).w.val) ∧ Below w.heap.size w w' := by
  have C1 := fun W => product_any l ⟨m.a, m.c⟩ ⟨m.a, m.c⟩ W
  have C2 := fun W => product_any l ⟨m.a, m.c⟩ ⟨m.b, m.d⟩ W
  have C3 := fun W => product_any l ⟨m.b, m.d⟩ ⟨m.b, m.d⟩ W
  have e : (led l m).w = ⟨wrap64 (prod l ⟨m.a, m.c⟩ ⟨m.a, m.c⟩), wrap64 (prod l ⟨m.a, m.c⟩ ⟨m.b, m.d⟩), wrap64 (prod l ⟨m.b, m.d⟩ ⟨m.b, m.d⟩)⟩ := rfl
  rw [e]
  clear e
  generalize wrap64 (prod l ⟨m.a, m.c⟩ ⟨m.a, m.c⟩) = u1 at *
  generalize wrap64 (prod l ⟨m.a, m.c⟩ ⟨m.b, m.d⟩) = u2 at *
  generalize wrap64 (prod l ⟨m.b, m.d⟩ ⟨m.b, m.d⟩) = u3 at *
  unfold Lat.val Mat.val Pt.val at *
  have H1 := Lib.hid C1
  have H2 := Lib.hid C2
  have H3 := Lib.hid C3
  clear C1 C2 C3
  go_enter Tryd.func69, Tryd.ntmps69
  go_wp2_with fail
  go_wp2_with fail
  go_region
  · obtain ⟨w1, hw1⟩ : ∃ W, W = (((((w.alloc (.cells #[.int .i64 l.a, .int .i64 l.b, .int .i64 l.c] 23)).alloc (.cells #[.int .i64 m.a, .int .i64 m.b, .int .i64 m.c, .int .i64 m.d] 40)).alloc (.cells #[.int .i64 0, .int .i64 0, .int .i64 0] 23)).alloc (.cells #[.int .i64 m.a, .int .i64 m.c] 25)).alloc (.cells #[.int .i64 m.b, .int .i64 m.d] 25)).drew := ⟨_, rfl⟩
    rw [← hw1]
    have h0 : w1.heap[w.heap.size]? = some (.cells #[.int .i64 l.a, .int .i64 l.b, .int .i64 l.c] 23 (0, 0)) := by rw [hw1]; exact (by repeat (first | (refine hb_new ?_; (first | omega | (simp; omega) | (simp; done))) | (refine hb_old ?_ ?_; rotate_left; focus (first | omega | (simp; omega) | (simp; done))) | refine hb_drew ?_))
    have h1 : w1.heap[w.heap.size + 1]? = some (.cells #[.int .i64 m.a, .int .i64 m.b, .int .i64 m.c, .int .i64 m.d] 40 (0, 0)) := by rw [hw1]; exact (by repeat (first | (refine hb_new ?_; (first | omega | (simp; omega) | (simp; done))) | (refine hb_old ?_ ?_; rotate_left; focus (first | omega | (simp; omega) | (simp; done))) | refine hb_drew ?_))
    have h2 : w1.heap[w.heap.size + 1 + 1]? = some (.cells #[.int .i64 0, .int .i64 0, .int .i64 0] 23 (0, 0)) := by rw [hw1]; exact (by repeat (first | (refine hb_new ?_; (first | omega | (simp; omega) | (simp; done))) | (refine hb_old ?_ ?_; rotate_left; focus (first | omega | (simp; omega) | (simp; done))) | refine hb_drew ?_))
    have h3 : w1.heap[w.heap.size + 1 + 1 + 1]? = some (.cells #[.int .i64 m.a, .int .i64 m.c] 25 (0, 0)) := by rw [hw1]; exact (by repeat (first | (refine hb_new ?_; (first | omega | (simp; omega) | (simp; done))) | (refine hb_old ?_ ?_; rotate_left; focus (first | omega | (simp; omega) | (simp; done))) | refine hb_drew ?_))
    have h4 : w1.heap[w.heap.size + 1 + 1 + 1 + 1]? = some (.cells #[.int .i64 m.b, .int .i64 m.d] 25 (0, 0)) := by rw [hw1]; exact (by repeat (first | (refine hb_new ?_; (first | omega | (simp; omega) | (simp; done))) | (refine hb_old ?_ ?_; rotate_left; focus (first | omega | (simp; omega) | (simp; done))) | refine hb_drew ?_))
    have hb : Below w.heap.size w w1 := by rw [hw1]; exact (by repeat (first | exact Below.refl _ _ | refine Below.alloc ?_ (by first | omega | (simp; omega) | (simp; done)) _ | refine Below.drew ?_))
    have s1 : w.heap.size + 1 + 1 + 1 + 1 + 1 ≤ w1.heap.size := by rw [hw1]; simp
    have y1 := Below.size hb
    try simp only [World.size_alloc, World.size_drew] at y1
    have D1 := Lib.hid (show Below w.heap.size w w1 from Below.trans (by repeat (first | exact Below.refl _ _ | refine Below.alloc ?_ (by first | omega | (simp; omega) | (simp; done)) _)) (Below.mono hb (by first | omega | (simp; omega) | (simp; done))))
    have z1 := D1.out.size
    clear hb hw1
    try clear c0_0
    have c0_0 := cell_of_heap h0 (j := 0) rfl
    try clear f0_0
    have f0_0 := frozen_of_heap h0 0
    try clear c0_1
    have c0_1 := cell_of_heap h0 (j := 1) rfl
    try clear f0_1
    have f0_1 := frozen_of_heap h0 1
    try clear c0_2
    have c0_2 := cell_of_heap h0 (j := 2) rfl
    try clear f0_2
    have f0_2 := frozen_of_heap h0 2
    try clear c1_0
    have c1_0 := cell_of_heap h1 (j := 0) rfl
    try clear f1_0
    have f1_0 := frozen_of_heap h1 0
    try clear c1_1
    have c1_1 := cell_of_heap h1 (j := 1) rfl
    try clear f1_1
    have f1_1 := frozen_of_heap h1 1
    try clear c1_2
    have c1_2 := cell_of_heap h1 (j := 2) rfl
    try clear f1_2
    have f1_2 := frozen_of_heap h1 2
    try clear c1_3
    have c1_3 := cell_of_heap h1 (j := 3) rfl
    try clear f1_3
    have f1_3 := frozen_of_heap h1 3
    try clear c2_0
    have c2_0 := cell_of_heap h2 (j := 0) rfl
    try clear f2_0
    have f2_0 := frozen_of_heap h2 0
    try clear c2_1
    have c2_1 := cell_of_heap h2 (j := 1) rfl
    try clear f2_1
    have f2_1 := frozen_of_heap h2 1
    try clear c2_2
    have c2_2 := cell_of_heap h2 (j := 2) rfl
    try clear f2_2
    have f2_2 := frozen_of_heap h2 2
    try clear c3_0
    have c3_0 := cell_of_heap h3 (j := 0) rfl
    try clear f3_0
    have f3_0 := frozen_of_heap h3 0
    try clear c3_1
    have c3_1 := cell_of_heap h3 (j := 1) rfl
    try clear f3_1
    have f3_1 := frozen_of_heap h3 1
    try clear c4_0
    have c4_0 := cell_of_heap h4 (j := 0) rfl
    try clear f4_0
    have f4_0 := frozen_of_heap h4 0
    try clear c4_1
    have c4_1 := cell_of_heap h4 (j := 1) rfl
    try clear f4_1
    have f4_1 := frozen_of_heap h4 1
    go_wp2_with fail
    try clear c0_0
    try clear f0_0
    try clear c0_1
    try clear f0_1
    try clear c0_2
    try clear f0_2
    try clear c1_0
    try clear f1_0
    try clear c1_1
    try clear f1_1
    try clear c1_2
    try clear f1_2
    try clear c1_3
    try clear f1_3
    try clear c2_0
    try clear f2_0
    try clear c2_1
    try clear f2_1
    try clear c2_2
    try clear f2_2
    try clear c3_0
    try clear f3_0
    try clear c3_1
    try clear f3_1
    try clear c4_0
    try clear f4_0
    try clear c4_1
    try clear f4_1
    refine wp_region_class (fun w' => Below w1.heap.size w1 w') 13 (by kernel_rfl) (by kernel_rfl) (Below.refl _ w1).drew ?_
    simp only [List.take_succ_cons, List.take_zero, List.drop_succ_cons, List.drop_zero]
    refine quiet_load_mid rfl _ _ rfl _ _ rfl _ _ (fun w' h => range_of_heap (hb_below h h0 (by first | omega | (simp; omega) | (simp; done)))) Tryd.underlying23 rfl (by kernel_rfl) ?_
    simp only [Act.put, List.setIfInBounds_toArray, List.set_cons_zero, List.set_cons_succ]
    refine quiet_load_mid rfl _ _ rfl _ _ rfl _ _ (fun w' h => range_of_heap (hb_below h h3 (by first | omega | (simp; omega) | (simp; done)))) Tryd.underlying25 rfl (by kernel_rfl) ?_
    simp only [Act.put, List.setIfInBounds_toArray, List.set_cons_zero, List.set_cons_succ]
    refine quiet_load_mid rfl _ _ rfl _ _ rfl _ _ (fun w' h => range_of_heap (hb_below h h3 (by first | omega | (simp; omega) | (simp; done)))) Tryd.underlying25 rfl (by kernel_rfl) ?_
    simp only [Act.put, List.setIfInBounds_toArray, List.set_cons_zero, List.set_cons_succ]
    refine quiet_call rfl 51 _ _ rfl (enter_of Tryd.func51 (by decide) (by intro h; cases h)) _ (in_class_b H1.out) ?_
    simp only [Act.put, List.setIfInBounds_toArray, List.set_cons_zero, List.set_cons_succ]
    refine quiet_load_mid rfl _ _ rfl _ _ rfl _ _ (fun w' h => range_of_heap (hb_below h h0 (by first | omega | (simp; omega) | (simp; done)))) Tryd.underlying23 rfl (by kernel_rfl) ?_
    simp only [Act.put, List.setIfInBounds_toArray, List.set_cons_zero, List.set_cons_succ]
    refine quiet_load_mid rfl _ _ rfl _ _ rfl _ _ (fun w' h => range_of_heap (hb_below h h3 (by first | omega | (simp; omega) | (simp; done)))) Tryd.underlying25 rfl (by kernel_rfl) ?_
    simp only [Act.put, List.setIfInBounds_toArray, List.set_cons_zero, List.set_cons_succ]
    refine quiet_load_mid rfl _ _ rfl _ _ rfl _ _ (fun w' h => range_of_heap (hb_below h h4 (by first | omega | (simp; omega) | (simp; done)))) Tryd.underlying25 rfl (by kernel_rfl) ?_
    simp only [Act.put, List.setIfInBounds_toArray, List.set_cons_zero, List.set_cons_succ]
    refine quiet_call rfl 51 _ _ rfl (enter_of Tryd.func51 (by decide) (by intro h; cases h)) _ (in_class_b H2.out) ?_
    simp only [Act.put, List.setIfInBounds_toArray, List.set_cons_zero, List.set_cons_succ]
    refine quiet_load_mid rfl _ _ rfl _ _ rfl _ _ (fun w' h => range_of_heap (hb_below h h0 (by first | omega | (simp; omega) | (simp; done)))) Tryd.underlying23 rfl (by kernel_rfl) ?_
    simp only [Act.put, List.setIfInBounds_toArray, List.set_cons_zero, List.set_cons_succ]
    refine quiet_load_mid rfl _ _ rfl _ _ rfl _ _ (fun w' h => range_of_heap (hb_below h h4 (by first | omega | (simp; omega) | (simp; done)))) Tryd.underlying25 rfl (by kernel_rfl) ?_
    simp only [Act.put, List.setIfInBounds_toArray, List.set_cons_zero, List.set_cons_succ]
    refine quiet_load_mid rfl _ _ rfl _ _ rfl _ _ (fun w' h => range_of_heap (hb_below h h4 (by first | omega | (simp; omega) | (simp; done)))) Tryd.underlying25 rfl (by kernel_rfl) ?_
    simp only [Act.put, List.setIfInBounds_toArray, List.set_cons_zero, List.set_cons_succ]
    refine quiet_call rfl 51 _ _ rfl (enter_of Tryd.func51 (by decide) (by intro h; cases h)) _ (in_class_b H3.out) ?_
    simp only [Act.put, List.setIfInBounds_toArray, List.set_cons_zero, List.set_cons_succ]
    refine quiet_still rfl _ (fun w _ => by go_simp; rfl) ?_
    simp only [Act.put, List.setIfInBounds_toArray, List.set_cons_zero, List.set_cons_succ]
    intro w2 hb
    replace h0 : w2.heap[w.heap.size]? = some (.cells #[.int .i64 l.a, .int .i64 l.b, .int .i64 l.c] 23 (0, 0)) := hb_below hb (by repeat (first | exact h0 | (refine hb_new ?_; (first | omega | (simp; omega) | (simp; done))) | (refine hb_old ?_ ?_; rotate_left; focus (first | omega | (simp; omega) | (simp; done))) | refine hb_drew ?_)) (by first | omega | (simp; omega) | (simp; done))
    replace h1 : w2.heap[w.heap.size + 1]? = some (.cells #[.int .i64 m.a, .int .i64 m.b, .int .i64 m.c, .int .i64 m.d] 40 (0, 0)) := hb_below hb (by repeat (first | exact h1 | (refine hb_new ?_; (first | omega | (simp; omega) | (simp; done))) | (refine hb_old ?_ ?_; rotate_left; focus (first | omega | (simp; omega) | (simp; done))) | refine hb_drew ?_)) (by first | omega | (simp; omega) | (simp; done))
    replace h2 : w2.heap[w.heap.size + 1 + 1]? = some (.cells #[.int .i64 0, .int .i64 0, .int .i64 0] 23 (0, 0)) := hb_below hb (by repeat (first | exact h2 | (refine hb_new ?_; (first | omega | (simp; omega) | (simp; done))) | (refine hb_old ?_ ?_; rotate_left; focus (first | omega | (simp; omega) | (simp; done))) | refine hb_drew ?_)) (by first | omega | (simp; omega) | (simp; done))
    replace h3 : w2.heap[w.heap.size + 1 + 1 + 1]? = some (.cells #[.int .i64 m.a, .int .i64 m.c] 25 (0, 0)) := hb_below hb (by repeat (first | exact h3 | (refine hb_new ?_; (first | omega | (simp; omega) | (simp; done))) | (refine hb_old ?_ ?_; rotate_left; focus (first | omega | (simp; omega) | (simp; done))) | refine hb_drew ?_)) (by first | omega | (simp; omega) | (simp; done))
    replace h4 : w2.heap[w.heap.size + 1 + 1 + 1 + 1]? = some (.cells #[.int .i64 m.b, .int .i64 m.d] 25 (0, 0)) := hb_below hb (by repeat (first | exact h4 | (refine hb_new ?_; (first | omega | (simp; omega) | (simp; done))) | (refine hb_old ?_ ?_; rotate_left; focus (first | omega | (simp; omega) | (simp; done))) | refine hb_drew ?_)) (by first | omega | (simp; omega) | (simp; done))
    have y2 := Below.size hb
    try simp only [World.size_alloc, World.size_drew] at y2
    have D2 := Lib.hid (show Below w.heap.size w w2 from Below.trans (by repeat (first | exact D1.out | exact Below.refl _ _ | refine Below.alloc ?_ (by first | omega | (simp; omega) | (simp; done)) _)) (Below.mono hb (by first | omega | (simp; omega) | (simp; done))))
    have z2 := D2.out.size
    clear hb
    try clear c0_0
    have c0_0 := cell_of_heap h0 (j := 0) rfl
    try clear f0_0
    have f0_0 := frozen_of_heap h0 0
    try clear c0_1
    have c0_1 := cell_of_heap h0 (j := 1) rfl
    try clear f0_1
    have f0_1 := frozen_of_heap h0 1
    try clear c0_2
    have c0_2 := cell_of_heap h0 (j := 2) rfl
    try clear f0_2
    have f0_2 := frozen_of_heap h0 2
    try clear c1_0
    have c1_0 := cell_of_heap h1 (j := 0) rfl
    try clear f1_0
    have f1_0 := frozen_of_heap h1 0
    try clear c1_1
    have c1_1 := cell_of_heap h1 (j := 1) rfl
    try clear f1_1
    have f1_1 := frozen_of_heap h1 1
    try clear c1_2
    have c1_2 := cell_of_heap h1 (j := 2) rfl
    try clear f1_2
    have f1_2 := frozen_of_heap h1 2
    try clear c1_3
    have c1_3 := cell_of_heap h1 (j := 3) rfl
    try clear f1_3
    have f1_3 := frozen_of_heap h1 3
    try clear c2_0
    have c2_0 := cell_of_heap h2 (j := 0) rfl
    try clear f2_0
    have f2_0 := frozen_of_heap h2 0
    try clear c2_1
    have c2_1 := cell_of_heap h2 (j := 1) rfl
    try clear f2_1
    have f2_1 := frozen_of_heap h2 1
    try clear c2_2
    have c2_2 := cell_of_heap h2 (j := 2) rfl
    try clear f2_2
    have f2_2 := frozen_of_heap h2 2
    try clear c3_0
    have c3_0 := cell_of_heap h3 (j := 0) rfl
    try clear f3_0
    have f3_0 := frozen_of_heap h3 0
    try clear c3_1
    have c3_1 := cell_of_heap h3 (j := 1) rfl
    try clear f3_1
    have f3_1 := frozen_of_heap h3 1
    try clear c4_0
    have c4_0 := cell_of_heap h4 (j := 0) rfl
    try clear f4_0
    have f4_0 := frozen_of_heap h4 0
    try clear c4_1
    have c4_1 := cell_of_heap h4 (j := 1) rfl
    try clear f4_1
    have f4_1 := frozen_of_heap h4 1
    refine store_row rfl _ _ _ rfl (w.heap.size + 1 + 1) _ rfl rfl _ _ h2 (by kernel_rfl) rfl (by kernel_rfl) ?_
    intro w3 hn hk hz hB
    simp only [Act.put, List.setIfInBounds_toArray, List.set_cons_zero, List.set_cons_succ]
    replace h0 := hk _ _ h0 (by first | omega | assumption | (apply Ne.symm; assumption) | (simp; omega))
    replace h1 := hk _ _ h1 (by first | omega | assumption | (apply Ne.symm; assumption) | (simp; omega))
    replace h2 : w3.heap[w.heap.size + 1 + 1]? = some (.cells #[.int .i64 u1, .int .i64 u2, .int .i64 u3] 23 (0, 0)) := hn
    replace h3 := hk _ _ h3 (by first | omega | assumption | (apply Ne.symm; assumption) | (simp; omega))
    replace h4 := hk _ _ h4 (by first | omega | assumption | (apply Ne.symm; assumption) | (simp; omega))
    have D3 := Lib.hid (hB _ _ D2.out (by first | omega | (simp; omega)))
    have z3 := D3.out.size
    have y3 : w3.heap.size = w2.heap.size := hz
    clear hn hk hz hB
    go_wp2_with fail
    refine bodyPost_ret (results_cell_row rfl _ _ (w.heap.size + 1 + 1) _ _ (0, 0) _ rfl h2 Tryd.underlying23 rfl (by kernel_rfl)) rfl ⟨rfl, D3.out⟩
  · obtain ⟨w1, hw1⟩ : ∃ W, W = (((((w.alloc (.cells #[.int .i64 l.a, .int .i64 l.b, .int .i64 l.c] 23)).alloc (.cells #[.int .i64 m.a, .int .i64 m.b, .int .i64 m.c, .int .i64 m.d] 40)).alloc (.cells #[.int .i64 0, .int .i64 0, .int .i64 0] 23)).alloc (.cells #[.int .i64 m.b, .int .i64 m.d] 25)).alloc (.cells #[.int .i64 m.a, .int .i64 m.c] 25)).drew := ⟨_, rfl⟩
    rw [← hw1]
    have h0 : w1.heap[w.heap.size]? = some (.cells #[.int .i64 l.a, .int .i64 l.b, .int .i64 l.c] 23 (0, 0)) := by rw [hw1]; exact (by repeat (first | (refine hb_new ?_; (first | omega | (simp; omega) | (simp; done))) | (refine hb_old ?_ ?_; rotate_left; focus (first | omega | (simp; omega) | (simp; done))) | refine hb_drew ?_))
    have h1 : w1.heap[w.heap.size + 1]? = some (.cells #[.int .i64 m.a, .int .i64 m.b, .int .i64 m.c, .int .i64 m.d] 40 (0, 0)) := by rw [hw1]; exact (by repeat (first | (refine hb_new ?_; (first | omega | (simp; omega) | (simp; done))) | (refine hb_old ?_ ?_; rotate_left; focus (first | omega | (simp; omega) | (simp; done))) | refine hb_drew ?_))
    have h2 : w1.heap[w.heap.size + 1 + 1]? = some (.cells #[.int .i64 0, .int .i64 0, .int .i64 0] 23 (0, 0)) := by rw [hw1]; exact (by repeat (first | (refine hb_new ?_; (first | omega | (simp; omega) | (simp; done))) | (refine hb_old ?_ ?_; rotate_left; focus (first | omega | (simp; omega) | (simp; done))) | refine hb_drew ?_))
    have h3 : w1.heap[w.heap.size + 1 + 1 + 1]? = some (.cells #[.int .i64 m.b, .int .i64 m.d] 25 (0, 0)) := by rw [hw1]; exact (by repeat (first | (refine hb_new ?_; (first | omega | (simp; omega) | (simp; done))) | (refine hb_old ?_ ?_; rotate_left; focus (first | omega | (simp; omega) | (simp; done))) | refine hb_drew ?_))
    have h4 : w1.heap[w.heap.size + 1 + 1 + 1 + 1]? = some (.cells #[.int .i64 m.a, .int .i64 m.c] 25 (0, 0)) := by rw [hw1]; exact (by repeat (first | (refine hb_new ?_; (first | omega | (simp; omega) | (simp; done))) | (refine hb_old ?_ ?_; rotate_left; focus (first | omega | (simp; omega) | (simp; done))) | refine hb_drew ?_))
    have hb : Below w.heap.size w w1 := by rw [hw1]; exact (by repeat (first | exact Below.refl _ _ | refine Below.alloc ?_ (by first | omega | (simp; omega) | (simp; done)) _ | refine Below.drew ?_))
    have s1 : w.heap.size + 1 + 1 + 1 + 1 + 1 ≤ w1.heap.size := by rw [hw1]; simp
    have y1 := Below.size hb
    try simp only [World.size_alloc, World.size_drew] at y1
    have D1 := Lib.hid (show Below w.heap.size w w1 from Below.trans (by repeat (first | exact Below.refl _ _ | refine Below.alloc ?_ (by first | omega | (simp; omega) | (simp; done)) _)) (Below.mono hb (by first | omega | (simp; omega) | (simp; done))))
    have z1 := D1.out.size
    clear hb hw1
    try clear c0_0
    have c0_0 := cell_of_heap h0 (j := 0) rfl
    try clear f0_0
    have f0_0 := frozen_of_heap h0 0
    try clear c0_1
    have c0_1 := cell_of_heap h0 (j := 1) rfl
    try clear f0_1
    have f0_1 := frozen_of_heap h0 1
    try clear c0_2
    have c0_2 := cell_of_heap h0 (j := 2) rfl
    try clear f0_2
    have f0_2 := frozen_of_heap h0 2
    try clear c1_0
    have c1_0 := cell_of_heap h1 (j := 0) rfl
    try clear f1_0
    have f1_0 := frozen_of_heap h1 0
    try clear c1_1
    have c1_1 := cell_of_heap h1 (j := 1) rfl
    try clear f1_1
    have f1_1 := frozen_of_heap h1 1
    try clear c1_2
    have c1_2 := cell_of_heap h1 (j := 2) rfl
    try clear f1_2
    have f1_2 := frozen_of_heap h1 2
    try clear c1_3
    have c1_3 := cell_of_heap h1 (j := 3) rfl
    try clear f1_3
    have f1_3 := frozen_of_heap h1 3
    try clear c2_0
    have c2_0 := cell_of_heap h2 (j := 0) rfl
    try clear f2_0
    have f2_0 := frozen_of_heap h2 0
    try clear c2_1
    have c2_1 := cell_of_heap h2 (j := 1) rfl
    try clear f2_1
    have f2_1 := frozen_of_heap h2 1
    try clear c2_2
    have c2_2 := cell_of_heap h2 (j := 2) rfl
    try clear f2_2
    have f2_2 := frozen_of_heap h2 2
    try clear c3_0
    have c3_0 := cell_of_heap h3 (j := 0) rfl
    try clear f3_0
    have f3_0 := frozen_of_heap h3 0
    try clear c3_1
    have c3_1 := cell_of_heap h3 (j := 1) rfl
    try clear f3_1
    have f3_1 := frozen_of_heap h3 1
    try clear c4_0
    have c4_0 := cell_of_heap h4 (j := 0) rfl
    try clear f4_0
    have f4_0 := frozen_of_heap h4 0
    try clear c4_1
    have c4_1 := cell_of_heap h4 (j := 1) rfl
    try clear f4_1
    have f4_1 := frozen_of_heap h4 1
    go_wp2_with fail
    try clear c0_0
    try clear f0_0
    try clear c0_1
    try clear f0_1
    try clear c0_2
    try clear f0_2
    try clear c1_0
    try clear f1_0
    try clear c1_1
    try clear f1_1
    try clear c1_2
    try clear f1_2
    try clear c1_3
    try clear f1_3
    try clear c2_0
    try clear f2_0
    try clear c2_1
    try clear f2_1
    try clear c2_2
    try clear f2_2
    try clear c3_0
    try clear f3_0
    try clear c3_1
    try clear f3_1
    try clear c4_0
    try clear f4_0
    try clear c4_1
    try clear f4_1
    refine wp_region_class (fun w' => Below w1.heap.size w1 w') 13 (by kernel_rfl) (by kernel_rfl) (Below.refl _ w1).drew ?_
    simp only [List.take_succ_cons, List.take_zero, List.drop_succ_cons, List.drop_zero]
    refine quiet_load_mid rfl _ _ rfl _ _ rfl _ _ (fun w' h => range_of_heap (hb_below h h0 (by first | omega | (simp; omega) | (simp; done)))) Tryd.underlying23 rfl (by kernel_rfl) ?_
    simp only [Act.put, List.setIfInBounds_toArray, List.set_cons_zero, List.set_cons_succ]
    refine quiet_load_mid rfl _ _ rfl _ _ rfl _ _ (fun w' h => range_of_heap (hb_below h h4 (by first | omega | (simp; omega) | (simp; done)))) Tryd.underlying25 rfl (by kernel_rfl) ?_
    simp only [Act.put, List.setIfInBounds_toArray, List.set_cons_zero, List.set_cons_succ]
    refine quiet_load_mid rfl _ _ rfl _ _ rfl _ _ (fun w' h => range_of_heap (hb_below h h4 (by first | omega | (simp; omega) | (simp; done)))) Tryd.underlying25 rfl (by kernel_rfl) ?_
    simp only [Act.put, List.setIfInBounds_toArray, List.set_cons_zero, List.set_cons_succ]
    refine quiet_call rfl 51 _ _ rfl (enter_of Tryd.func51 (by decide) (by intro h; cases h)) _ (in_class_b H1.out) ?_
    simp only [Act.put, List.setIfInBounds_toArray, List.set_cons_zero, List.set_cons_succ]
    refine quiet_load_mid rfl _ _ rfl _ _ rfl _ _ (fun w' h => range_of_heap (hb_below h h0 (by first | omega | (simp; omega) | (simp; done)))) Tryd.underlying23 rfl (by kernel_rfl) ?_
    simp only [Act.put, List.setIfInBounds_toArray, List.set_cons_zero, List.set_cons_succ]
    refine quiet_load_mid rfl _ _ rfl _ _ rfl _ _ (fun w' h => range_of_heap (hb_below h h4 (by first | omega | (simp; omega) | (simp; done)))) Tryd.underlying25 rfl (by kernel_rfl) ?_
    simp only [Act.put, List.setIfInBounds_toArray, List.set_cons_zero, List.set_cons_succ]
    refine quiet_load_mid rfl _ _ rfl _ _ rfl _ _ (fun w' h => range_of_heap (hb_below h h3 (by first | omega | (simp; omega) | (simp; done)))) Tryd.underlying25 rfl (by kernel_rfl) ?_
    simp only [Act.put, List.setIfInBounds_toArray, List.set_cons_zero, List.set_cons_succ]
    refine quiet_call rfl 51 _ _ rfl (enter_of Tryd.func51 (by decide) (by intro h; cases h)) _ (in_class_b H2.out) ?_
    simp only [Act.put, List.setIfInBounds_toArray, List.set_cons_zero, List.set_cons_succ]
    refine quiet_load_mid rfl _ _ rfl _ _ rfl _ _ (fun w' h => range_of_heap (hb_below h h0 (by first | omega | (simp; omega) | (simp; done)))) Tryd.underlying23 rfl (by kernel_rfl) ?_
    simp only [Act.put, List.setIfInBounds_toArray, List.set_cons_zero, List.set_cons_succ]
    refine quiet_load_mid rfl _ _ rfl _ _ rfl _ _ (fun w' h => range_of_heap (hb_below h h3 (by first | omega | (simp; omega) | (simp; done)))) Tryd.underlying25 rfl (by kernel_rfl) ?_
    simp only [Act.put, List.setIfInBounds_toArray, List.set_cons_zero, List.set_cons_succ]
    refine quiet_load_mid rfl _ _ rfl _ _ rfl _ _ (fun w' h => range_of_heap (hb_below h h3 (by first | omega | (simp; omega) | (simp; done)))) Tryd.underlying25 rfl (by kernel_rfl) ?_
    simp only [Act.put, List.setIfInBounds_toArray, List.set_cons_zero, List.set_cons_succ]
    refine quiet_call rfl 51 _ _ rfl (enter_of Tryd.func51 (by decide) (by intro h; cases h)) _ (in_class_b H3.out) ?_
    simp only [Act.put, List.setIfInBounds_toArray, List.set_cons_zero, List.set_cons_succ]
    refine quiet_still rfl _ (fun w _ => by go_simp; rfl) ?_
    simp only [Act.put, List.setIfInBounds_toArray, List.set_cons_zero, List.set_cons_succ]
    intro w2 hb
    replace h0 : w2.heap[w.heap.size]? = some (.cells #[.int .i64 l.a, .int .i64 l.b, .int .i64 l.c] 23 (0, 0)) := hb_below hb (by repeat (first | exact h0 | (refine hb_new ?_; (first | omega | (simp; omega) | (simp; done))) | (refine hb_old ?_ ?_; rotate_left; focus (first | omega | (simp; omega) | (simp; done))) | refine hb_drew ?_)) (by first | omega | (simp; omega) | (simp; done))
    replace h1 : w2.heap[w.heap.size + 1]? = some (.cells #[.int .i64 m.a, .int .i64 m.b, .int .i64 m.c, .int .i64 m.d] 40 (0, 0)) := hb_below hb (by repeat (first | exact h1 | (refine hb_new ?_; (first | omega | (simp; omega) | (simp; done))) | (refine hb_old ?_ ?_; rotate_left; focus (first | omega | (simp; omega) | (simp; done))) | refine hb_drew ?_)) (by first | omega | (simp; omega) | (simp; done))
    replace h2 : w2.heap[w.heap.size + 1 + 1]? = some (.cells #[.int .i64 0, .int .i64 0, .int .i64 0] 23 (0, 0)) := hb_below hb (by repeat (first | exact h2 | (refine hb_new ?_; (first | omega | (simp; omega) | (simp; done))) | (refine hb_old ?_ ?_; rotate_left; focus (first | omega | (simp; omega) | (simp; done))) | refine hb_drew ?_)) (by first | omega | (simp; omega) | (simp; done))
    replace h3 : w2.heap[w.heap.size + 1 + 1 + 1]? = some (.cells #[.int .i64 m.b, .int .i64 m.d] 25 (0, 0)) := hb_below hb (by repeat (first | exact h3 | (refine hb_new ?_; (first | omega | (simp; omega) | (simp; done))) | (refine hb_old ?_ ?_; rotate_left; focus (first | omega | (simp; omega) | (simp; done))) | refine hb_drew ?_)) (by first | omega | (simp; omega) | (simp; done))
    replace h4 : w2.heap[w.heap.size + 1 + 1 + 1 + 1]? = some (.cells #[.int .i64 m.a, .int .i64 m.c] 25 (0, 0)) := hb_below hb (by repeat (first | exact h4 | (refine hb_new ?_; (first | omega | (simp; omega) | (simp; done))) | (refine hb_old ?_ ?_; rotate_left; focus (first | omega | (simp; omega) | (simp; done))) | refine hb_drew ?_)) (by first | omega | (simp; omega) | (simp; done))
    have y2 := Below.size hb
    try simp only [World.size_alloc, World.size_drew] at y2
    have D2 := Lib.hid (show Below w.heap.size w w2 from Below.trans (by repeat (first | exact D1.out | exact Below.refl _ _ | refine Below.alloc ?_ (by first | omega | (simp; omega) | (simp; done)) _)) (Below.mono hb (by first | omega | (simp; omega) | (simp; done))))
    have z2 := D2.out.size
    clear hb
    try clear c0_0
    have c0_0 := cell_of_heap h0 (j := 0) rfl
    try clear f0_0
    have f0_0 := frozen_of_heap h0 0
    try clear c0_1
    have c0_1 := cell_of_heap h0 (j := 1) rfl
    try clear f0_1
    have f0_1 := frozen_of_heap h0 1
    try clear c0_2
    have c0_2 := cell_of_heap h0 (j := 2) rfl
    try clear f0_2
    have f0_2 := frozen_of_heap h0 2
    try clear c1_0
    have c1_0 := cell_of_heap h1 (j := 0) rfl
    try clear f1_0
    have f1_0 := frozen_of_heap h1 0
    try clear c1_1
    have c1_1 := cell_of_heap h1 (j := 1) rfl
    try clear f1_1
    have f1_1 := frozen_of_heap h1 1
    try clear c1_2
    have c1_2 := cell_of_heap h1 (j := 2) rfl
    try clear f1_2
    have f1_2 := frozen_of_heap h1 2
    try clear c1_3
    have c1_3 := cell_of_heap h1 (j := 3) rfl
    try clear f1_3
    have f1_3 := frozen_of_heap h1 3
    try clear c2_0
    have c2_0 := cell_of_heap h2 (j := 0) rfl
    try clear f2_0
    have f2_0 := frozen_of_heap h2 0
    try clear c2_1
    have c2_1 := cell_of_heap h2 (j := 1) rfl
    try clear f2_1
    have f2_1 := frozen_of_heap h2 1
    try clear c2_2
    have c2_2 := cell_of_heap h2 (j := 2) rfl
    try clear f2_2
    have f2_2 := frozen_of_heap h2 2
    try clear c3_0
    have c3_0 := cell_of_heap h3 (j := 0) rfl
    try clear f3_0
    have f3_0 := frozen_of_heap h3 0
    try clear c3_1
    have c3_1 := cell_of_heap h3 (j := 1) rfl
    try clear f3_1
    have f3_1 := frozen_of_heap h3 1
    try clear c4_0
    have c4_0 := cell_of_heap h4 (j := 0) rfl
    try clear f4_0
    have f4_0 := frozen_of_heap h4 0
    try clear c4_1
    have c4_1 := cell_of_heap h4 (j := 1) rfl
    try clear f4_1
    have f4_1 := frozen_of_heap h4 1
    refine store_row rfl _ _ _ rfl (w.heap.size + 1 + 1) _ rfl rfl _ _ h2 (by kernel_rfl) rfl (by kernel_rfl) ?_
    intro w3 hn hk hz hB
    simp only [Act.put, List.setIfInBounds_toArray, List.set_cons_zero, List.set_cons_succ]
    replace h0 := hk _ _ h0 (by first | omega | assumption | (apply Ne.symm; assumption) | (simp; omega))
    replace h1 := hk _ _ h1 (by first | omega | assumption | (apply Ne.symm; assumption) | (simp; omega))
    replace h2 : w3.heap[w.heap.size + 1 + 1]? = some (.cells #[.int .i64 u1, .int .i64 u2, .int .i64 u3] 23 (0, 0)) := hn
    replace h3 := hk _ _ h3 (by first | omega | assumption | (apply Ne.symm; assumption) | (simp; omega))
    replace h4 := hk _ _ h4 (by first | omega | assumption | (apply Ne.symm; assumption) | (simp; omega))
    have D3 := Lib.hid (hB _ _ D2.out (by first | omega | (simp; omega)))
    have z3 := D3.out.size
    have y3 : w3.heap.size = w2.heap.size := hz
    clear hn hk hz hB
    go_wp2_with fail
    refine bodyPost_ret (results_cell_row rfl _ _ (w.heap.size + 1 + 1) _ _ (0, 0) _ rfl h2 Tryd.underlying23 rfl (by kernel_rfl)) rfl ⟨rfl, D3.out⟩
end Go.Proofs.YtehpgmhilcoalaaDoor
