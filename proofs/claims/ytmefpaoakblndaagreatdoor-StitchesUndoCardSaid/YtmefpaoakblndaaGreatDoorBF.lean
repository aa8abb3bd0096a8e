/- Contracts of the small functions of package braids on simple braids: begins, swapped, flat, delta, backwards, turned. -/
import Derived.Test.YtmefpaoakblndaaGreatDoorRows
import Derived.Test.YtmefpaoakblndaaGreatDoorBE
import Derived.WalkKit
import Derived.WalkSpells
import Derived.WalkLawsBesides
import Derived.WalkSmall
import Derived.Lib.Hide
import Derived.Laws.Rows
import Derived.Laws.Tables
import Derived.Laws.CopyOwn
import Derived.Deep.QuietTactic
import Derived.BigQuiet
import Derived.Deep.LoopGhost
import Derived.Deep.RegionWith
namespace Go.Proofs.YtmefpaoakblndaaGreatDoor
open Go.RowKit

theorem retB {a b : Bool} (h : a = b) : Ending.returned (.bool a) = .returned (.bool b) := by rw [h]
theorem below_alloc (w : World) (o : Obj) : Below w.heap.size w (w.alloc o) := (Below.refl _ _).alloc (Nat.le_refl _) _
def cellsL (l : List Nat) : Array Value := (l.map fun x : Nat => Value.int .i64 (x : Int)).toArray
/-- The twelve cells of a simple braid. -/
def pc (s : Pm) : Array Value := cellsL ((List.range 12).map s.f)
theorem cellsL_size (l : List Nat) : (cellsL l).size = l.length := by simp [cellsL]
theorem pc_size (s : Pm) : (pc s).size = 12 := by simp [pc, cellsL_size]
theorem cellsL_get {l : List Nat} {i : Nat} (h : i < l.length) : (cellsL l)[i]? = some (.int .i64 (l[i] : Int)) := by
  simp [cellsL, h]
theorem pc_get (s : Pm) {i : Nat} (h : i < 12) : (pc s)[i]? = some (.int .i64 (s.f i : Int)) := by
  unfold pc
  rw [cellsL_get (by simp; exact h)]
  simp

theorem info59 : (Tryz.prog.info? 108).map (fun i => i.size) = some 12 := by kernel_rfl

set_option maxHeartbeats 400000 in
theorem begins_any (s : Pm) (i : Nat) (hi : i + 1 < 12) (w : World) :
    Calls Tryz.prog 151 #[.agg (pc s), .int .i64 ((i : Int) + 1)] w fun e w' => e = .returned (.bool (decide (s.beg i))) ∧ Below w.heap.size w w' := by
  have c0 := (World.cell?_alloc_at (w := w) (pc s) 108 w.heap.size i rfl).trans (pc_get s (by omega))
  have c1 := (World.cell?_alloc_at (w := w) (pc s) 108 w.heap.size (i + 1) rfl).trans (pc_get s hi)
  have n0 : IntKind.i64.wrap ((i : Int) + 1 - 1) = (i : Int) := by rw [show (i : Int) + 1 - 1 = (i : Int) by omega]; exact IntWalk.i64_in _ (by omega)
  have n1 : (0 : Int) ≤ (i : Int) := by omega
  have n2 : (i : Int) < 12 := by omega
  have n3 : (0 : Int) ≤ (i : Int) + 1 := by omega
  have n4 : (i : Int) + 1 < 12 := by omega
  have n5 : ((i : Int) + 1).toNat = i + 1 := by omega
  have n6 : ((i : Int)).toNat = i := by omega
  go_enter Tryz.func151, Tryz.ntmps151
  go_wp2_with fail
  go_quiet (fail)
  go_wp2_with fail
  go_ret
  exact ⟨retB (decide_eq_decide.2 (by unfold Pm.beg; omega)), below_drewN (below_alloc w _) _⟩
theorem hi59 (s : Pm) : (Tryz.prog.info? 108).map (·.size) = some (pc s).size := by rw [pc_size]; exact info59
theorem pc_one (s : Pm) : (pc s).all (·.oneCell') = true := by
  rw [Array.all_eq_true]
  intro i hi
  rw [pc_size] at hi
  have h := pc_get s hi
  rw [Array.getElem?_eq_getElem (by rw [pc_size]; exact hi)] at h
  rw [Option.some.inj h]
  rfl
theorem pc_ext {c : Array Value} {s : Pm} (hs : c.size = 12) (h : ∀ j, j < 12 → c[j]? = some (Value.int .i64 (s.f j : Int))) : c = pc s := by
  apply Array.ext_getElem?
  intro j
  rcases Nat.lt_or_ge j 12 with hj | hj
  · rw [h j hj, pc_get s hj]
  · rw [Array.getElem?_eq_none (by omega), Array.getElem?_eq_none (by rw [pc_size]; omega)]
theorem pc_swap (s : Pm) {i : Nat} (hi : i + 1 < 12) : ((pc s).setIfInBounds i (.int .i64 (s.f (i + 1) : Int))).setIfInBounds (i + 1) (.int .i64 (s.f i : Int)) = pc (s.pre i) := by
  refine pc_ext (by simp [pc_size]) fun j hj => ?_
  show _ = some (Value.int .i64 ((s.f (sw i j) : Nat) : Int))
  rw [Array.getElem?_setIfInBounds, Array.getElem?_setIfInBounds]
  by_cases h1 : j = i + 1
  · subst h1; rw [if_pos rfl, if_pos (by simp [pc_size]; omega), sw_r]
  · rw [if_neg (fun e => h1 e.symm)]
    by_cases h2 : j = i
    · subst h2; rw [if_pos rfl, if_pos (by rw [pc_size]; omega), sw_l]
    · rw [if_neg (fun e => h2 e.symm), sw_o h2 h1, pc_get s hj]

theorem cell_box2 (w : World) (c : Array Value) (o : Obj) {j : Nat} {u : Value} (h : c[j]? = some u) : ((w.alloc (.cells c 108)).alloc o).cell? ⟨w.heap.size, j, none⟩ = some u :=
  (World.cell?_alloc_past (w := w.alloc (.cells c 108)) o w.heap.size j (by simp)).trans ((World.cell?_alloc_at (w := w) c 108 w.heap.size j rfl).trans h)

set_option maxHeartbeats 400000 in
theorem swapped_any (s : Pm) (i : Nat) (hi : i + 1 < 12) (w : World) :
    Calls Tryz.prog 133 #[.agg (pc s), .int .i64 ((i : Int) + 1)] w fun e w' => e = .returned (.agg (pc (s.pre i))) ∧ Below w.heap.size w w' := by
  have c0 := fun o => cell_box2 w (pc s) o (pc_get s (show i < 12 by omega))
  have c1 := fun o => cell_box2 w (pc s) o (pc_get s hi)
  have c2 := fun v o => cell_box2 w ((pc s).setIfInBounds i v) o (j := i + 1) (by rw [Array.getElem?_setIfInBounds, if_neg (by omega)]; exact pc_get s hi)
  have c3 := fun v o => cell_box2 w ((pc s).setIfInBounds (i + 1) v) o (j := i) (by rw [Array.getElem?_setIfInBounds, if_neg (by omega)]; exact pc_get s (show i < 12 by omega))
  have n0 : IntKind.i64.wrap ((i : Int) + 1 - 1) = (i : Int) := by rw [show (i : Int) + 1 - 1 = (i : Int) by omega]; exact IntWalk.i64_in _ (by omega)
  have n1 : (0 : Int) ≤ (i : Int) := by omega
  have n2 : (i : Int) < 12 := by omega
  have n3 : (0 : Int) ≤ (i : Int) + 1 := by omega
  have n4 : (i : Int) + 1 < 12 := by omega
  have n5 : ((i : Int) + 1).toNat = i + 1 := by omega
  have n6 : ((i : Int)).toNat = i := by omega
  go_enter Tryz.func133, Tryz.ntmps133
  go_wp2_with fail
  go_region
  have hset := pc_swap s hi
  go_wp2_with (first
    | (refine wpList_load_row rfl 108 (.tmp 2) rfl w.heap.size rfl 108 (pc (s.pre i)) (0, 0) _ (by first | exact heap_alloc2_old _ _ _ | (rw [← hset]; exact heap_alloc2_old _ _ _)) Tryz.underlying108 rfl (hi59 _) ?_)
    | (refine wpList_store_row rfl 108 (.tmp 4) (.tmp 17) rfl (w.heap.size + 1) (pc (s.pre i)) rfl rfl 108 _ (heap_alloc2_new _ _ _) (hi59 _) rfl (pc_one _) ?_))
  refine bodyPost_ret (v := .agg (pc (s.pre i))) (results_cell_row rfl _ _ (w.heap.size + 1) 108 (pc (s.pre i)) (0, 0) _ rfl (setRow_heap _ _ _ _ _ _ (heap_alloc2_new _ _ _)) Tryz.underlying108 rfl (hi59 _)) rfl ⟨rfl, ?_⟩
  exact below_setRow ((((below_alloc w _).alloc (by simp) _)).drew) (by omega) _
end Go.Proofs.YtmefpaoakblndaaGreatDoor
