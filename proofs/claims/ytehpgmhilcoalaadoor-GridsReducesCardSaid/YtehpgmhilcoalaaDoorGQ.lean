/- compare. -/
import Derived.Test.YtehpgmhilcoalaaDoorGP
namespace Go.Proofs.YtehpgmhilcoalaaDoor
open Go.RowKit Go.Lib
set_option linter.unusedSimpArgs false
set_option linter.unusedVariables false
def cmpM (m n : Mat) : Int := firstOf [cmpI m.a n.a, cmpI m.b n.b, cmpI m.c n.c, cmpI m.d n.d]
theorem or4 (a b c d : Int) (W : World) (T : TypeId) (B : Nat) (hB : W.heap.size = B) :
    Calls Tryd.prog 88 #[.slice (some ⟨B, 0, none⟩) 4 4] (W.alloc (.cells #[.int .i64 a, .int .i64 b, .int .i64 c, .int .i64 d] T)) fun e w' => e = .returned (.int .i64 (firstOf [a, b, c, d])) ∧ w' = W.alloc (.cells #[.int .i64 a, .int .i64 b, .int .i64 c, .int .i64 d] T) :=
  hB ▸ Or_any [a, b, c, d] (some ⟨W.heap.size, 0, none⟩) 4 _ (by simp) (by unfold maxLen; omega) (intsAt_lit W [a, b, c, d] T)
set_option maxHeartbeats 1000000 in
set_option maxRecDepth 100000 in
theorem compare_any (m n : Mat) (w : World) : Calls Tryd.prog 66 #[m.val, n.val] w fun e w' => e = .returned (.int .i64 (cmpM m n)) ∧ w' = ((((w.alloc (.cells #[.int .i64 m.a, .int .i64 m.b, .int .i64 m.c, .int .i64 m.d] 40)).alloc (.cells #[.int .i64 n.a, .int .i64 n.b, .int .i64 n.c, .int .i64 n.d] 40)).drew).alloc (.cells #[.int .i64 (cmpI m.a n.a), .int .i64 (cmpI m.b n.b), .int .i64 (cmpI m.c n.c), .int .i64 (cmpI m.d n.d)] 3)) := by
  have C1 := fun W => Compare64_any m.a n.a W
  have C2 := fun W => Compare64_any m.b n.b W
  have C3 := fun W => Compare64_any m.c n.c W
  have C4 := fun W => Compare64_any m.d n.d W
  unfold cmpM
  have C5 := fun W T B hB => or4 (cmpI m.a n.a) (cmpI m.b n.b) (cmpI m.c n.c) (cmpI m.d n.d) W T B hB
  generalize firstOf _ = r at *
  generalize cmpI m.a n.a = e1 at *
  generalize cmpI m.b n.b = e2 at *
  generalize cmpI m.c n.c = e3 at *
  generalize cmpI m.d n.d = e4 at *
  unfold Mat.val
  have H1 := Lib.hid C1
  have H2 := Lib.hid C2
  have H3 := Lib.hid C3
  have H4 := Lib.hid C4
  have H5 := Lib.hid C5
  clear C1 C2 C3 C4 C5
  go_enter Tryd.func66, Tryd.ntmps66
  go_wp2_with fail
  go_wp2_with fail
  obtain ⟨w1, hw1⟩ : ∃ W, W = ((w.alloc (.cells #[.int .i64 m.a, .int .i64 m.b, .int .i64 m.c, .int .i64 m.d] 40)).alloc (.cells #[.int .i64 n.a, .int .i64 n.b, .int .i64 n.c, .int .i64 n.d] 40)) := ⟨_, rfl⟩
  rw [← hw1]
  have h0 : w1.heap[w.heap.size]? = some (.cells #[.int .i64 m.a, .int .i64 m.b, .int .i64 m.c, .int .i64 m.d] 40 (0, 0)) := by rw [hw1]; exact (by repeat (first | (refine hb_new ?_; (first | omega | (simp; omega) | (simp; done))) | (refine hb_old ?_ ?_; rotate_left; focus (first | omega | (simp; omega) | (simp; done))) | refine hb_drew ?_))
  have h1 : w1.heap[w.heap.size + 1]? = some (.cells #[.int .i64 n.a, .int .i64 n.b, .int .i64 n.c, .int .i64 n.d] 40 (0, 0)) := by rw [hw1]; exact (by repeat (first | (refine hb_new ?_; (first | omega | (simp; omega) | (simp; done))) | (refine hb_old ?_ ?_; rotate_left; focus (first | omega | (simp; omega) | (simp; done))) | refine hb_drew ?_))
  refine wp_region_class (fun w' => w' = w1.drew) 20 (by kernel_rfl) (by kernel_rfl) rfl ?_
  simp only [List.take_succ_cons, List.take_zero, List.drop_succ_cons, List.drop_zero]
  refine quiet_still rfl _ (fun w _ => by go_simp; rfl) ?_
  simp only [Act.put, List.setIfInBounds_toArray, List.set_cons_zero, List.set_cons_succ]
  refine quiet_load1 rfl _ _ rfl _ (by rfl) _ (load_i64 _ _) (fun w' h => by subst h; exact cell_of_heap (W := w1.drew) h0 (j := 0) rfl) ?_
  simp only [Act.put, List.setIfInBounds_toArray, List.set_cons_zero, List.set_cons_succ]
  refine quiet_still rfl _ (fun w _ => by go_simp; rfl) ?_
  simp only [Act.put, List.setIfInBounds_toArray, List.set_cons_zero, List.set_cons_succ]
  refine quiet_load1 rfl _ _ rfl _ (by rfl) _ (load_i64 _ _) (fun w' h => by subst h; exact cell_of_heap (W := w1.drew) h1 (j := 0) rfl) ?_
  simp only [Act.put, List.setIfInBounds_toArray, List.set_cons_zero, List.set_cons_succ]
  refine quiet_call rfl 55 _ _ rfl (enter_of Tryd.func55 (by decide) (by intro h; cases h)) _ (fun w' h => (H1.out w').mono fun e w2 ⟨he, hw⟩ => ⟨he, hw.trans h⟩) ?_
  simp only [Act.put, List.setIfInBounds_toArray, List.set_cons_zero, List.set_cons_succ]
  refine quiet_still rfl _ (fun w _ => by go_simp; rfl) ?_
  simp only [Act.put, List.setIfInBounds_toArray, List.set_cons_zero, List.set_cons_succ]
  refine quiet_load1 rfl _ _ rfl _ (by rfl) _ (load_i64 _ _) (fun w' h => by subst h; exact cell_of_heap (W := w1.drew) h0 (j := 1) rfl) ?_
  simp only [Act.put, List.setIfInBounds_toArray, List.set_cons_zero, List.set_cons_succ]
  refine quiet_still rfl _ (fun w _ => by go_simp; rfl) ?_
  simp only [Act.put, List.setIfInBounds_toArray, List.set_cons_zero, List.set_cons_succ]
  refine quiet_load1 rfl _ _ rfl _ (by rfl) _ (load_i64 _ _) (fun w' h => by subst h; exact cell_of_heap (W := w1.drew) h1 (j := 1) rfl) ?_
  simp only [Act.put, List.setIfInBounds_toArray, List.set_cons_zero, List.set_cons_succ]
  refine quiet_call rfl 55 _ _ rfl (enter_of Tryd.func55 (by decide) (by intro h; cases h)) _ (fun w' h => (H2.out w').mono fun e w2 ⟨he, hw⟩ => ⟨he, hw.trans h⟩) ?_
  simp only [Act.put, List.setIfInBounds_toArray, List.set_cons_zero, List.set_cons_succ]
  refine quiet_still rfl _ (fun w _ => by go_simp; rfl) ?_
  simp only [Act.put, List.setIfInBounds_toArray, List.set_cons_zero, List.set_cons_succ]
  refine quiet_load1 rfl _ _ rfl _ (by rfl) _ (load_i64 _ _) (fun w' h => by subst h; exact cell_of_heap (W := w1.drew) h0 (j := 2) rfl) ?_
  simp only [Act.put, List.setIfInBounds_toArray, List.set_cons_zero, List.set_cons_succ]
  refine quiet_still rfl _ (fun w _ => by go_simp; rfl) ?_
  simp only [Act.put, List.setIfInBounds_toArray, List.set_cons_zero, List.set_cons_succ]
  refine quiet_load1 rfl _ _ rfl _ (by rfl) _ (load_i64 _ _) (fun w' h => by subst h; exact cell_of_heap (W := w1.drew) h1 (j := 2) rfl) ?_
  simp only [Act.put, List.setIfInBounds_toArray, List.set_cons_zero, List.set_cons_succ]
  refine quiet_call rfl 55 _ _ rfl (enter_of Tryd.func55 (by decide) (by intro h; cases h)) _ (fun w' h => (H3.out w').mono fun e w2 ⟨he, hw⟩ => ⟨he, hw.trans h⟩) ?_
  simp only [Act.put, List.setIfInBounds_toArray, List.set_cons_zero, List.set_cons_succ]
  refine quiet_still rfl _ (fun w _ => by go_simp; rfl) ?_
  simp only [Act.put, List.setIfInBounds_toArray, List.set_cons_zero, List.set_cons_succ]
  refine quiet_load1 rfl _ _ rfl _ (by rfl) _ (load_i64 _ _) (fun w' h => by subst h; exact cell_of_heap (W := w1.drew) h0 (j := 3) rfl) ?_
  simp only [Act.put, List.setIfInBounds_toArray, List.set_cons_zero, List.set_cons_succ]
  refine quiet_still rfl _ (fun w _ => by go_simp; rfl) ?_
  simp only [Act.put, List.setIfInBounds_toArray, List.set_cons_zero, List.set_cons_succ]
  refine quiet_load1 rfl _ _ rfl _ (by rfl) _ (load_i64 _ _) (fun w' h => by subst h; exact cell_of_heap (W := w1.drew) h1 (j := 3) rfl) ?_
  simp only [Act.put, List.setIfInBounds_toArray, List.set_cons_zero, List.set_cons_succ]
  refine quiet_call rfl 55 _ _ rfl (enter_of Tryd.func55 (by decide) (by intro h; cases h)) _ (fun w' h => (H4.out w').mono fun e w2 ⟨he, hw⟩ => ⟨he, hw.trans h⟩) ?_
  simp only [Act.put, List.setIfInBounds_toArray, List.set_cons_zero, List.set_cons_succ]
  intro w2 hw2
  have HW := Lib.hid (hw2.trans (congrArg World.drew hw1))
  clear hw2 hw1
  clear h0 h1
  go_wp2_with fail
  refine (H5.out _ _ _ rfl).mono ?_
  rintro e w3 ⟨rfl, rfl⟩
  go_wp2_with fail
  go_ret
  exact ⟨rfl, by rw [HW.out]⟩
end Go.Proofs.YtehpgmhilcoalaaDoor
