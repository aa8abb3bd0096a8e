/- Contracts of the functions of package braids that make simple braids by loops: flat, delta, backwards, turned. -/
import Derived.Test.YtmefpaoakblndaaGreatDoorBF
namespace Go.Proofs.YtmefpaoakblndaaGreatDoor
open Go.RowKit

/-- Twelve cells by any function. -/
def pcF (f : Nat → Nat) : Array Value := cellsL ((List.range 12).map f)
theorem pcF_pc (s : Pm) : pcF s.f = pc s := rfl
theorem pcF_size (f : Nat → Nat) : (pcF f).size = 12 := by simp [pcF, cellsL_size]
theorem pcF_get (f : Nat → Nat) {i : Nat} (h : i < 12) : (pcF f)[i]? = some (.int .i64 (f i : Int)) := by
  unfold pcF
  rw [cellsL_get (by simp; exact h)]
  simp
theorem pcF_ext {f g : Nat → Nat} (h : ∀ x, x < 12 → f x = g x) : pcF f = pcF g := by
  unfold pcF
  congr 1
  exact List.map_congr_left fun x hx => h x (List.mem_range.1 hx)
theorem pcF_set (f : Nat → Nat) {k : Nat} (v : Nat) (hk : k < 12) : (pcF f).setIfInBounds k (.int .i64 (v : Int)) = pcF (fun x => if x = k then v else f x) := by
  apply Array.ext_getElem?
  intro j
  rw [Array.getElem?_setIfInBounds]
  rcases Nat.lt_or_ge j 12 with hj | hj
  · by_cases e : k = j
    · rw [if_pos e, if_pos (by rw [pcF_size]; exact hk), pcF_get _ hj]; simp only [if_pos e.symm]
    · rw [if_neg e, pcF_get _ hj, pcF_get _ hj]; simp only [if_neg (fun x : j = k => e x.symm)]
  · rw [if_neg (by omega), Array.getElem?_eq_none (by rw [pcF_size]; omega), Array.getElem?_eq_none (by rw [pcF_size]; omega)]
theorem pcF_zero : pcF (fun _ => 0) = #[.int .i64 0, .int .i64 0, .int .i64 0, .int .i64 0, .int .i64 0, .int .i64 0, .int .i64 0, .int .i64 0, .int .i64 0, .int .i64 0, .int .i64 0, .int .i64 0] := rfl
theorem hi59F (f : Nat → Nat) : (Tryz.prog.info? 108).map (·.size) = some (pcF f).size := by rw [pcF_size]; exact info59
theorem pcF_one (f : Nat → Nat) : (pcF f).all (·.oneCell') = true := by
  rw [Array.all_eq_true]
  intro i hi
  rw [pcF_size] at hi
  have h := pcF_get f hi
  rw [Array.getElem?_eq_getElem (by rw [pcF_size]; exact hi)] at h
  rw [Option.some.inj h]
  rfl

theorem heap3_0 (w : World) (a b c : Obj) : (((w.alloc a).alloc b).alloc c).heap[w.heap.size]? = some a := (Below.heap_alloc _ _ _ (by simp; omega)).trans (heap_alloc2_old _ _ _)
theorem heap3_1 (w : World) (a b c : Obj) : (((w.alloc a).alloc b).alloc c).heap[w.heap.size + 1]? = some b := (Below.heap_alloc _ _ _ (by simp)).trans (heap_alloc2_new _ _ _)
theorem heap3_2 (w : World) (a b c : Obj) : (((w.alloc a).alloc b).alloc c).heap[w.heap.size + 1 + 1]? = some c := by
  have h := heap_alloc_new ((w.alloc a).alloc b) c
  simpa using h
theorem below3 (w : World) (a b c : Obj) : Below w.heap.size w (((w.alloc a).alloc b).alloc c) := ((below_alloc w _).alloc (by simp) _).alloc (by simp; omega) _
theorem run_index_simple (s : Pm) (i : Nat) (w : World) (hi : i < 12) :
    (Instr.index 108 (.agg (pc s)) (.int .i64 (i : Int))).run Tryz.prog w = .ok (.int .i64 (s.f i : Int)) w := by
  have g := pc_get s hi
  simp [Instr.index, run_underlying Tryz.underlying108, asIntOf, go_sem, hi, Tryz.sizeOf3, Tryz.isAgg3, g]

set_option maxHeartbeats 1000000 in
set_option maxRecDepth 100000 in
theorem flat_any (w : World) :
    Calls Tryz.prog 132 #[] w fun e w' => e = .returned (.agg (pc idP)) ∧ Below w.heap.size w w' := by
  go_enter Tryz.func132, Tryz.ntmps132
  go_wp2_with fail
  go_loopw [3] (fun i wr => ∃ (k : Nat) (f : Nat → Nat), k ≤ 12 ∧ i = .int .i64 k ∧ wr.heap[w.heap.size]? = some (.cells (pcF fun _ => 0) 108 (0, 0)) ∧ wr.heap[w.heap.size + 1]? = some (.cells (pcF f) 108 (0, 0)) ∧ (∀ x, x < k → f x = x) ∧ Below w.heap.size w wr) (fun i _ => 12 - (intOf i).toNat)
  case atStart => exact ⟨0, fun _ => 0, by omega, rfl, heap_alloc2_old _ _ _, heap_alloc2_new _ _ _, fun x h => by omega, (below_alloc w _).alloc (by simp) _⟩
  case round =>
    obtain ⟨k, f, hk, rfl, hr0, hr1, hf, hb⟩ := hrel
    have Hf := Lib.hid hf
    have Hr0 := Lib.hid hr0
    have Hr1 := Lib.hid hr1
    clear hf
    by_cases h12 : k < 12
    · have c1 := cell_of_row wr _ k _ _ _ hr1
      rw [pcF_get f h12] at c1
      have f1 := frozen_of_row wr _ k _ _ hr1
      have hset := heap_setCell_same wr (w.heap.size + 1) k _ 108 (.int .i64 (k : Int)) hr1
      rw [pcF_set f k h12] at hset
      have Hset := Lib.hid hset
      have Ho := Lib.hid (heap_setCell_other wr ⟨w.heap.size + 1, k, none⟩ (.int .i64 (k : Int)) (k := w.heap.size) (by simp <;> omega))
      clear hset hr0 hr1
      go_wp2_with fail
      go_roundw
      case rel => exact ⟨k + 1, _, by omega, by go_num, Ho.out.trans Hr0.out, Hset.out, fun x hx => by
          by_cases e : x = k
          · simp [e]
          · simp only [if_neg e]; exact Hf.out x (by omega), hb.setCell (p := ⟨w.heap.size + 1, k, none⟩) (by simp) _⟩
      case measure => (simp [intOf] <;> omega)
    · obtain rfl : k = 12 := by omega
      have e : pcF f = pc idP := pcF_ext fun x hx => Hf.out x hx
      rw [e] at hr1
      clear Hr1 Hr0 Hf
      go_wp2_with (first
        | (refine wpList_load_row rfl 108 (.tmp 1) rfl (w.heap.size + 1) rfl 108 (pc idP) (0, 0) _ hr1 Tryz.underlying108 rfl (hi59 _) ?_)
        | (refine wpList_store_row rfl 108 (.tmp 0) (.tmp 10) rfl w.heap.size (pc idP) rfl rfl 108 _ hr0 (hi59 _) rfl (pc_one _) ?_))
      refine bodyPost_ret (v := .agg (pc idP)) (results_cell_row rfl _ _ w.heap.size 108 (pc idP) (0, 0) _ rfl (setRow_heap _ _ _ _ _ _ hr0) Tryz.underlying108 rfl (hi59 _)) rfl ⟨rfl, ?_⟩
      exact below_setRow hb (by omega) _

theorem num_in {z : Int} {m : Nat} (h : z = (m : Int)) (hm : m < 100000) : IntKind.i64.wrap z = (m : Int) := by rw [h]; exact IntWalk.i64_in _ (by omega)

set_option maxHeartbeats 1000000 in
set_option maxRecDepth 100000 in
theorem delta_any (n : Nat) (hn : n ≤ 12) (w : World) :
    Calls Tryz.prog 135 #[.int .i64 (n : Int)] w fun e w' => e = .returned (.agg (pc (dl n))) ∧ Below w.heap.size w w' := by
  go_enter Tryz.func135, Tryz.ntmps135
  go_wp2_with fail
  refine (flat_any _).mono ?_
  rintro e w1 ⟨rfl, hb1⟩
  have hz := hb1.size
  simp only [World.size_alloc] at hz
  have hr0 := (hb1.block w.heap.size (by simp)).trans (heap_alloc_new _ _)
  rw [← pcF_zero] at hr0
  have hbw : Below w.heap.size w w1 := (below_alloc w _).trans (hb1.mono (by simp))
  have Hr0 := Lib.hid hr0
  have Hbw := Lib.hid hbw
  clear hr0 hb1 hbw
  go_wp2_with (refine wpList_store_row rfl 108 (.tmp 3) (.tmp 5) rfl w1.heap.size (pc idP) rfl rfl 108 _ (heap_alloc_new _ _) (hi59 _) rfl (pc_one _) ?_)
  go_loopw [7] (fun i wr => ∃ (k : Nat) (f : Nat → Nat), k ≤ n ∧ i = .int .i64 k ∧ wr.heap[w.heap.size]? = some (.cells (pcF fun _ => 0) 108 (0, 0)) ∧ wr.heap[w1.heap.size]? = some (.cells (pcF f) 108 (0, 0)) ∧ (∀ x, f x = if x < k then rev n x else x) ∧ Below w.heap.size w wr) (fun i _ => n - (intOf i).toNat)
  case atStart => exact ⟨0, fun x => x, by omega, rfl, (setRow_other _ _ _ _ (by omega)).trans ((Below.heap_alloc _ _ _ (by omega)).trans Hr0.out), setRow_heap _ _ _ _ _ _ (heap_alloc_new _ _), fun x => by simp, below_setRow (Hbw.out.alloc (by omega) _) (by omega) _⟩
  case round =>
    obtain ⟨k, f, hk, rfl, hr0, hr1, hf, hb⟩ := hrel
    have Hf := Lib.hid hf
    have Hr0 := Lib.hid hr0
    have Hr1 := Lib.hid hr1
    clear hf
    by_cases h12 : k < n
    · have c1 := cell_of_row wr _ k _ _ _ hr1
      rw [pcF_get f (by omega)] at c1
      have f1 := frozen_of_row wr _ k _ _ hr1
      have hset := heap_setCell_same wr w1.heap.size k _ 108 (.int .i64 ((n - 1 - k : Nat) : Int)) hr1
      rw [pcF_set f _ (by omega)] at hset
      have Hset := Lib.hid hset
      have Ho := Lib.hid (heap_setCell_other wr ⟨w1.heap.size, k, none⟩ (.int .i64 ((n - 1 - k : Nat) : Int)) (k := w.heap.size) (by show w.heap.size ≠ w1.heap.size; omega))
      have n1 : IntKind.i64.wrap ((n : Int) - 1) = ((n - 1 : Nat) : Int) := num_in (by omega) (by omega)
      have n2 : IntKind.i64.wrap (((n - 1 : Nat) : Int) - (k : Int)) = ((n - 1 - k : Nat) : Int) := num_in (by omega) (by omega)
      have k12 : (k : Int) < 12 := by omega
      clear hset hr0 hr1
      go_wp2_with fail
      go_roundw
      case rel => exact ⟨k + 1, _, by omega, by go_num, Ho.out.trans Hr0.out, Hset.out, fun x => by
          by_cases e : x = k
          · simp only [if_pos e]; rw [if_pos (by omega), e, rev_lt h12]
          · simp only [if_neg e]; rw [Hf.out x]
            by_cases h : x < k
            · rw [if_pos h, if_pos (by omega)]
            · rw [if_neg h, if_neg (by omega)], hb.setCell (p := ⟨w1.heap.size, k, none⟩) (by show w.heap.size ≤ w1.heap.size; omega) _⟩
      case measure => (simp [intOf] <;> omega)
    · obtain rfl : k = n := by omega
      have e : pcF f = pc (dl k) := pcF_ext fun x _ => by
        rw [Hf.out x]
        by_cases h : x < k
        · rw [if_pos h]; rfl
        · rw [if_neg h]; exact (rev_ge (by omega)).symm
      rw [e] at hr1
      clear Hr1 Hr0 Hf
      go_wp2_with (first
        | (refine wpList_load_row rfl 108 (.tmp 3) rfl w1.heap.size rfl 108 (pc (dl k)) (0, 0) _ hr1 Tryz.underlying108 rfl (hi59 _) ?_)
        | (refine wpList_store_row rfl 108 (.tmp 2) (.tmp 17) rfl w.heap.size (pc (dl k)) rfl rfl 108 _ hr0 (hi59 _) rfl (pc_one _) ?_))
      refine bodyPost_ret (v := .agg (pc (dl k))) (results_cell_row rfl _ _ w.heap.size 108 (pc (dl k)) (0, 0) _ rfl (setRow_heap _ _ _ _ _ _ hr0) Tryz.underlying108 rfl (hi59 _)) rfl ⟨rfl, ?_⟩
      exact below_setRow hb (by omega) _

def Pm.inv (s : Pm) : Pm := ⟨s.g, s.f, s.gf, s.fg⟩
theorem Pm.inv_inv (s : Pm) : s.inv.inv = s := rfl
theorem Pm.In.inv {s : Pm} {n : Nat} (h : s.In n) : s.inv.In n := fun x hx => h.g x hx
theorem inv_beg (s : Pm) (k : Nat) : s.inv.beg k ↔ s.fin k := Iff.rfl
theorem inv_pre (s : Pm) (k : Nat) : s.inv.pre k = (s.post k).inv := rfl
theorem Pm.In.more {s : Pm} {n m : Nat} (h : s.In n) (hm : n ≤ m) : s.In m := fun x hx => h x (by omega)

set_option maxHeartbeats 1000000 in
set_option maxRecDepth 100000 in
theorem turned_any (s : Pm) (n : Nat) (hn : n ≤ 12) (hs : s.In n) (w : World) :
    Calls Tryz.prog 147 #[.agg (pc s), .int .i64 (n : Int)] w fun e w' => e = .returned (.agg (pc (tu n s))) ∧ Below w.heap.size w w' := by
  have Hs := Lib.hid hs
  clear hs
  go_enter Tryz.func147, Tryz.ntmps147
  go_wp2_with (first
    | (refine wpList_load_row rfl 108 (.tmp 2) rfl w.heap.size rfl 108 (pc s) (0, 0) _ (heap_alloc2_old _ _ _) Tryz.underlying108 rfl (hi59 _) ?_)
    | (refine wpList_store_row rfl 108 (.tmp 5) (.tmp 7) rfl (w.heap.size + 1 + 1) (pc s) rfl rfl 108 _ (heap3_2 _ _ _ _) (hi59 _) rfl (pc_one _) ?_))
  go_loopw [9] (fun i wr => ∃ (k : Nat) (f : Nat → Nat), k ≤ n ∧ i = .int .i64 k ∧ wr.heap[w.heap.size]? = some (.cells (pc s) 108 (0, 0)) ∧ wr.heap[w.heap.size + 1]? = some (.cells (pcF fun _ => 0) 108 (0, 0)) ∧ wr.heap[w.heap.size + 1 + 1]? = some (.cells (pcF f) 108 (0, 0)) ∧ (∀ x, f x = if x < k then rev n (s.f (rev n x)) else s.f x) ∧ Below w.heap.size w wr) (fun i _ => n - (intOf i).toNat)
  case atStart =>
    exact ⟨0, s.f, by omega, rfl, (setRow_other _ _ _ _ (by omega)).trans (heap3_0 _ _ _ _), (setRow_other _ _ _ _ (by omega)).trans (heap3_1 _ _ _ _),
      setRow_heap _ _ _ _ _ _ (heap3_2 _ _ _ _), fun x => by simp, below_setRow (below3 _ _ _ _) (by omega) _⟩
  case round =>
    obtain ⟨k, f, hk, rfl, hr0, hr1, hr2, hf, hb⟩ := hrel
    have Hf := Lib.hid hf
    have Hr0 := Lib.hid hr0
    have Hr1 := Lib.hid hr1
    have Hr2 := Lib.hid hr2
    clear hf
    by_cases h12 : k < n
    · have hsl := Hs.out.lt (show n - 1 - k < n by omega)
      have c2 := cell_of_row wr _ k _ _ _ hr2
      rw [pcF_get f (by omega)] at c2
      have f2 := frozen_of_row wr _ k _ _ hr2
      have c0 := cell_of_row wr _ (n - 1 - k) _ _ _ hr0
      rw [pc_get s (by omega)] at c0
      have hset := heap_setCell_same wr (w.heap.size + 1 + 1) k _ 108 (.int .i64 ((n - 1 - s.f (n - 1 - k) : Nat) : Int)) hr2
      rw [pcF_set f _ (by omega)] at hset
      have Hset := Lib.hid hset
      have Ho := Lib.hid (heap_setCell_other wr ⟨w.heap.size + 1 + 1, k, none⟩ (.int .i64 ((n - 1 - s.f (n - 1 - k) : Nat) : Int)) (k := w.heap.size) (by simp <;> omega))
      have Ho1 := Lib.hid (heap_setCell_other wr ⟨w.heap.size + 1 + 1, k, none⟩ (.int .i64 ((n - 1 - s.f (n - 1 - k) : Nat) : Int)) (k := w.heap.size + 1) (by simp <;> omega))
      have n1 : IntKind.i64.wrap ((n : Int) - 1) = ((n - 1 : Nat) : Int) := num_in (by omega) (by omega)
      have n2 : IntKind.i64.wrap (((n - 1 : Nat) : Int) - (k : Int)) = ((n - 1 - k : Nat) : Int) := num_in (by omega) (by omega)
      have n3 : IntKind.i64.wrap (((n - 1 : Nat) : Int) - (s.f (n - 1 - k) : Int)) = ((n - 1 - s.f (n - 1 - k) : Nat) : Int) := num_in (by omega) (by omega)
      have k12 : (k : Int) < 12 := by omega
      have k13 : ((n - 1 - k : Nat) : Int) < 12 := by omega
      clear hset hr0 hr1 hr2
      go_wp2_with fail
      go_roundw
      case rel => exact ⟨k + 1, _, by omega, by go_num, Ho.out.trans Hr0.out, Ho1.out.trans Hr1.out, Hset.out, fun x => by
          by_cases e : x = k
          · simp only [if_pos e]; rw [if_pos (by omega), e, rev_lt h12, rev_lt hsl]
          · simp only [if_neg e]; rw [Hf.out x]
            by_cases h : x < k
            · rw [if_pos h, if_pos (by omega)]
            · rw [if_neg h, if_neg (by omega)], hb.setCell (p := ⟨w.heap.size + 1 + 1, k, none⟩) (by show w.heap.size ≤ w.heap.size + 1 + 1; omega) _⟩
      case measure => (simp [intOf] <;> omega)
    · obtain rfl : k = n := by omega
      have e : pcF f = pc (tu k s) := pcF_ext fun x _ => by
        rw [Hf.out x]
        by_cases h : x < k
        · rw [if_pos h]; rfl
        · rw [if_neg h]; exact ((tu_in Hs.out) x (by omega)).symm ▸ Hs.out x (by omega)
      rw [e] at hr2
      clear Hr1 Hr0 Hf Hr2 hr0
      go_wp2_with (first
        | (refine wpList_load_row rfl 108 (.tmp 5) rfl (w.heap.size + 1 + 1) rfl 108 (pc (tu k s)) (0, 0) _ hr2 Tryz.underlying108 rfl (hi59 _) ?_)
        | (refine wpList_store_row rfl 108 (.tmp 4) (.tmp 24) rfl (w.heap.size + 1) (pc (tu k s)) rfl rfl 108 _ hr1 (hi59 _) rfl (pc_one _) ?_))
      refine bodyPost_ret (v := .agg (pc (tu k s))) (results_cell_row rfl _ _ (w.heap.size + 1) 108 (pc (tu k s)) (0, 0) _ rfl (setRow_heap _ _ _ _ _ _ hr1) Tryz.underlying108 rfl (hi59 _)) rfl ⟨rfl, ?_⟩
      exact below_setRow hb (by omega) _

set_option maxHeartbeats 1000000 in
set_option maxRecDepth 100000 in
theorem backwards_any (s : Pm) (hs : s.In 12) (w : World) :
    Calls Tryz.prog 150 #[.agg (pc s)] w fun e w' => e = .returned (.agg (pc s.inv)) ∧ Below w.heap.size w w' := by
  have Hs := Lib.hid hs
  clear hs
  go_enter Tryz.func150, Tryz.ntmps150
  go_wp2_with (refine wpList_load_row rfl 108 (.tmp 1) rfl w.heap.size rfl 108 (pc s) (0, 0) _ (heap3_0 _ _ _ _) Tryz.underlying108 rfl (hi59 _) ?_)
  go_loopw [7] (fun i wr => ∃ (k : Nat) (f : Nat → Nat), k ≤ 12 ∧ i = .int .i64 k ∧ wr.heap[w.heap.size + 1]? = some (.cells (pcF fun _ => 0) 108 (0, 0)) ∧ wr.heap[w.heap.size + 1 + 1]? = some (.cells (pcF f) 108 (0, 0)) ∧ (∀ x, x < k → f (s.f x) = x) ∧ Below w.heap.size w wr) (fun i _ => 12 - (intOf i).toNat)
  case atStart =>
    exact ⟨0, fun _ => 0, by omega, rfl, heap3_1 _ _ _ _, heap3_2 _ _ _ _, fun x h => by omega, below3 _ _ _ _⟩
  case round =>
    obtain ⟨k, f, hk, rfl, hr1, hr2, hf, hb⟩ := hrel
    have Hf := Lib.hid hf
    have Hr1 := Lib.hid hr1
    have Hr2 := Lib.hid hr2
    clear hf
    by_cases h12 : k < 12
    · have hsl := Hs.out.lt h12
      have c2 := cell_of_row wr _ (s.f k) _ _ _ hr2
      rw [pcF_get f (by omega)] at c2
      have f2 := frozen_of_row wr _ (s.f k) _ _ hr2
      have g1 := fun w => run_index_simple s k w h12
      have hset := heap_setCell_same wr (w.heap.size + 1 + 1) (s.f k) _ 108 (.int .i64 (k : Int)) hr2
      rw [pcF_set f _ hsl] at hset
      have Hset := Lib.hid hset
      have Ho1 := Lib.hid (heap_setCell_other wr ⟨w.heap.size + 1 + 1, s.f k, none⟩ (.int .i64 (k : Int)) (k := w.heap.size + 1) (by simp <;> omega))
      have k12 : (s.f k : Int) < 12 := by omega
      clear hset hr1 hr2
      go_wp2_with fail
      go_roundw
      case rel => exact ⟨k + 1, _, by omega, by go_num, Ho1.out.trans Hr1.out, Hset.out, fun x hx => by
          by_cases e : x = k
          · simp [e]
          · simp only [if_neg (fun e' : s.f x = s.f k => e (s.inj e'))]; exact Hf.out x (by omega), hb.setCell (p := ⟨w.heap.size + 1 + 1, s.f k, none⟩) (by show w.heap.size ≤ w.heap.size + 1 + 1; omega) _⟩
      case measure => (simp [intOf] <;> omega)
    · obtain rfl : k = 12 := by omega
      have e : pcF f = pc s.inv := pcF_ext fun x hx => by
        have := Hf.out (s.g x) (Hs.out.glt hx)
        rw [s.fg] at this
        exact this
      rw [e] at hr2
      clear Hr1 Hf Hr2
      go_wp2_with (first
        | (refine wpList_load_row rfl 108 (.tmp 3) rfl (w.heap.size + 1 + 1) rfl 108 (pc s.inv) (0, 0) _ hr2 Tryz.underlying108 rfl (hi59 _) ?_)
        | (refine wpList_store_row rfl 108 (.tmp 2) (.tmp 15) rfl (w.heap.size + 1) (pc s.inv) rfl rfl 108 _ hr1 (hi59 _) rfl (pc_one _) ?_))
      refine bodyPost_ret (v := .agg (pc s.inv)) (results_cell_row rfl _ _ (w.heap.size + 1) 108 (pc s.inv) (0, 0) _ rfl (setRow_heap _ _ _ _ _ _ hr1) Tryz.underlying108 rfl (hi59 _)) rfl ⟨rfl, ?_⟩
      exact below_setRow hb (by omega) _
end Go.Proofs.YtmefpaoakblndaaGreatDoor
