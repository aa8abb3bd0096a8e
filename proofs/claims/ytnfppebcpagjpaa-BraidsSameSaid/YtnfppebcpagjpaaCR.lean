/- Where strands end: the line, its letters' numbers and signs; newLine, cross, number, sign, size walked. -/
import Derived.Test.YtnfppebcpagjpaaCP
namespace Go.Proofs.Ytnfppebcpagjpaa
open Go.RowKit Go.Lib
/-- The place left of the letter. -/
def num (z : Int) : Nat := z.natAbs - 1
def sgn (z : Int) : Int := if z < 0 then -1 else 1
theorem num_lt {n : Nat} {z : Int} (h : Letter n z) : num z + 1 < n := by
  obtain ⟨h1, h2, h3⟩ := h
  unfold num
  omega
theorem num_abs {z : Int} (h : z ≠ 0) : (num z : Int) + 1 = if z < 0 then -z else z := by
  unfold num
  split <;> omega
/-- The line after a word: which strand lies in each place. -/
def lineP (ws : List Int) : Pm := ws.foldl (fun a z => a.pre (num z)) idP
theorem lineP_next {ws : List Int} {k : Nat} {x : Int} (h : ws[k]? = some x) : lineP (ws.take (k + 1)) = (lineP (ws.take k)).pre (num x) := by
  rw [take_more h]
  simp [lineP]
theorem lineP_snoc (ws : List Int) (x : Int) : lineP (ws ++ [x]) = (lineP ws).pre (num x) := by simp [lineP]
theorem lineP_in {n : Nat} (ws : List Int) : Word n ws → (lineP ws).In n := by
  induction ws using snoc_ind with
  | h0 => intro _; exact idP_in n
  | h1 l a ih =>
    intro h
    rw [lineP_snoc]
    exact (ih h.left).pre (num_lt (h a (by simp)))
theorem infoLn : (Try.prog.info? 61).map (fun i => i.size) = some 12 := by kernel_rfl
theorem hiLn (s : Pm) : (Try.prog.info? 61).map (·.size) = some (pc s).size := by rw [pc_size]; exact infoLn
set_option maxHeartbeats 1000000 in
set_option maxRecDepth 100000 in
theorem newLine_any (w : World) :
    Calls Try.prog 54 #[] w fun e w' => e = .returned (.agg (pc idP)) ∧ Below w.heap.size w w' := by
  go_enter Try.func54, Try.ntmps54
  go_wp2_with fail
  go_loopw [3] (fun i wr => ∃ (k : Nat) (f : Nat → Nat), k ≤ 12 ∧ i = .int .i64 k ∧ wr.heap[w.heap.size]? = some (.cells (pcF fun _ => 0) 61 (0, 0)) ∧ wr.heap[w.heap.size + 1]? = some (.cells (pcF f) 61 (0, 0)) ∧ (∀ x, x < k → f x = x) ∧ Below w.heap.size w wr) (fun i _ => 12 - (intOf i).toNat)
  case atStart => exact ⟨0, fun _ => 0, by omega, rfl, heap_alloc2_old _ _ _, heap_alloc2_new _ _ _, fun x h => by omega, (below_alloc w _).alloc (by simp) _⟩
  case round =>
    obtain ⟨k, f, hk, rfl, hr0, hr1, hf, hb⟩ := hrel
    have Hf := Lib.hid hf
    have Hr0 := Lib.hid hr0
    have Hr1 := Lib.hid hr1
    clear hf
    by_cases h12 : k < 12
    · have c1 := cell_of_row wr _ k _ _ _ hr1
      rw [pcF_get f h12] at c1
      have f1 := frozen_of_row wr _ k _ _ hr1
      have hset := heap_setCell_same wr (w.heap.size + 1) k _ 61 (.int .i64 (k : Int)) hr1
      rw [pcF_set f k h12] at hset
      have Hset := Lib.hid hset
      have Ho := Lib.hid (heap_setCell_other wr ⟨w.heap.size + 1, k, none⟩ (.int .i64 (k : Int)) (k := w.heap.size) (by simp <;> omega))
      clear hset hr0 hr1
      go_wp2_with fail
      go_roundw
      case rel => exact ⟨k + 1, _, by omega, by go_num, Ho.out.trans Hr0.out, Hset.out, fun x hx => by
          by_cases e : x = k
          · simp [e]
          · simp only [if_neg e]; exact Hf.out x (by omega), hb.setCell (p := ⟨w.heap.size + 1, k, none⟩) (by simp) _⟩
      case measure => (simp [intOf] <;> omega)
    · obtain rfl : k = 12 := by omega
      have e : pcF f = pc idP := pcF_ext fun x hx => Hf.out x hx
      rw [e] at hr1
      clear Hr1 Hr0 Hf
      go_wp2_with (first
        | (refine wpList_load_row rfl 61 (.tmp 1) rfl (w.heap.size + 1) rfl 61 (pc idP) (0, 0) _ hr1 Try.underlying61 rfl (hiLn _) ?_)
        | (refine wpList_store_row rfl 61 (.tmp 0) (.tmp 10) rfl w.heap.size (pc idP) rfl rfl 61 _ hr0 (hiLn _) rfl (pc_one _) ?_))
      refine bodyPost_ret (v := .agg (pc idP)) (results_cell_row rfl _ _ w.heap.size 61 (pc idP) (0, 0) _ rfl (setRow_heap _ _ _ _ _ _ hr0) Try.underlying61 rfl (hiLn _)) rfl ⟨rfl, ?_⟩
      exact below_setRow hb (by omega) _


set_option maxHeartbeats 400000 in
set_option maxRecDepth 100000 in
theorem number_any (z : Int) (h0 : z ≠ 0) (hz : -100000 < z ∧ z < 100000) (w : World) :
    Calls Try.prog 59 #[.int .i64 z] w fun e w' => e = .returned (.int .i64 ((num z : Int) + 1)) ∧ w' = w := by
  have hn := num_abs h0
  have hw : IntKind.i64.wrap (-z) = -z := IntWalk.i64_in _ (by omega)
  obtain ⟨m, hm⟩ : ∃ m : Int, m = (num z : Int) + 1 := ⟨_, rfl⟩
  rw [← hm] at hn ⊢
  clear hm
  by_cases hlt : z < 0
  · rw [if_pos hlt] at hn
    subst hn
    have q : ¬ -z ≤ z := by omega
    clear h0
    go_enter Try.func59, Try.ntmps59
    go_wp2_with fail
    go_ret
    exact ⟨rfl, rfl⟩
  · rw [if_neg hlt] at hn
    subst hn
    have q : -m ≤ m := by omega
    clear h0
    go_enter Try.func59, Try.ntmps59
    go_wp2_with fail
    go_ret
    exact ⟨rfl, rfl⟩
set_option maxHeartbeats 400000 in
set_option maxRecDepth 100000 in
theorem refsize_any (z : Int) (h0 : z ≠ 0) (hz : -100000 < z ∧ z < 100000) (w : World) :
    Calls Try.prog 57 #[.int .i64 z] w fun e w' => e = .returned (.int .i64 ((num z : Int) + 1)) ∧ w' = w := by
  have hn := num_abs h0
  have hw : IntKind.i64.wrap (-z) = -z := IntWalk.i64_in _ (by omega)
  obtain ⟨m, hm⟩ : ∃ m : Int, m = (num z : Int) + 1 := ⟨_, rfl⟩
  rw [← hm] at hn ⊢
  clear hm
  by_cases hlt : z < 0
  · rw [if_pos hlt] at hn
    subst hn
    have q : ¬ -z ≤ z := by omega
    clear h0
    go_enter Try.func57, Try.ntmps57
    go_wp2_with fail
    go_ret
    exact ⟨rfl, rfl⟩
  · rw [if_neg hlt] at hn
    subst hn
    have q : -m ≤ m := by omega
    clear h0
    go_enter Try.func57, Try.ntmps57
    go_wp2_with fail
    go_ret
    exact ⟨rfl, rfl⟩
set_option maxHeartbeats 400000 in
set_option maxRecDepth 100000 in
theorem sign_any (z : Int) (w : World) :
    Calls Try.prog 60 #[.int .i64 z] w fun e w' => e = .returned (.int .i64 (sgn z)) ∧ w' = w := by
  obtain ⟨r, hr⟩ : ∃ r, r = sgn z := ⟨_, rfl⟩
  rw [← hr]
  unfold sgn at hr
  go_enter Try.func60, Try.ntmps60
  by_cases hlt : z < 0
  · rw [if_pos hlt] at hr
    subst hr
    go_wp2_with fail
    go_ret
    exact ⟨rfl, rfl⟩
  · rw [if_neg hlt] at hr
    subst hr
    go_wp2_with fail
    go_ret
    exact ⟨rfl, rfl⟩
set_option maxHeartbeats 1000000 in
set_option maxRecDepth 100000 in
theorem cross_any (lb : Nat) (s : Pm) (k : Nat) (z : Int) (hk : k = num z) (hk2 : k + 1 < 12) (h0 : z ≠ 0) (hz : -100000 < z ∧ z < 100000) (w : World) (hr : w.heap[lb]? = some (.cells (pc s) 61 (0, 0))) :
    Calls Try.prog 55 #[.pointer (some ⟨lb, 0, none⟩), .int .i64 z] w fun e w' => e = .returned (.tuple #[]) ∧ w'.heap[lb]? = some (.cells (pc (s.pre k)) 61 (0, 0)) ∧ Below lb w w' := by
  have CN := Lib.hid (number_any z h0 hz w)
  rw [← hk] at CN
  have c0 := (cell_of_row w lb k _ _ _ hr).trans (pc_get s (by omega))
  have c1 := (cell_of_row w lb (k + 1) _ _ _ hr).trans (pc_get s hk2)
  have f0 := frozen_of_row w lb k _ _ hr
  have f1 := frozen_of_row w lb (k + 1) _ _ hr
  have r1 := heap_setCell_same w lb k _ 61 (.int .i64 (s.f (k + 1) : Int)) hr
  have r2 := heap_setCell_same _ lb (k + 1) _ 61 (.int .i64 (s.f k : Int)) r1
  rw [pc_swap s hk2] at r2
  have R2 := Lib.hid r2
  have HB := Lib.hid (((Below.refl lb w).setCell (p := ⟨lb, k, none⟩) (Nat.le_refl _) (.int .i64 (s.f (k + 1) : Int))).setCell (p := ⟨lb, k + 1, none⟩) (Nat.le_refl _) (.int .i64 (s.f k : Int)))
  have n0 : IntKind.i64.wrap (k : Int) = (k : Int) := num_in (by omega) (by omega)
  have n1 : (0 : Int) ≤ (k : Int) := by omega
  have n2 : (k : Int) < 12 := by omega
  have n3 : (0 : Int) ≤ (k : Int) + 1 := by omega
  have n4 : (k : Int) + 1 < 12 := by omega
  have n5 : ((k : Int) + 1).toNat = k + 1 := by omega
  clear hr r1 r2 hk
  go_enter Try.func55, Try.ntmps55
  go_wp2_with fail
  refine CN.out.mono ?_
  rintro e w1 ⟨rfl, rfl⟩
  go_wp2_with fail
  go_region
  go_wp2_with fail
  go_end0
  exact ⟨rfl, R2.out, HB.out.drew⟩
end Go.Proofs.Ytnfppebcpagjpaa
