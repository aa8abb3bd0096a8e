/- The reference's Touch and Takes. -/
import Derived.Test.YtcjbjlepgdggpaaFL
namespace Go.Proofs.Ytcjbjlepgdggpaa
open Go.RowKit Go.Shelf Go.Lib
attribute [local go_sem] Oper.semAt_some
theorem refTouch_any (x y : Wk) (w : World) (hx : 0 ≤ x.pl ∧ x.pl ≤ 100) (hy : 0 ≤ y.pl ∧ y.pl ≤ 100) :
    Calls Try.prog 38 #[x.val, y.val] w fun e w' => e = .returned (.bool (touchP x y)) ∧ Below w.heap.size w w' := by
  unfold Wk.val touchP
  have B : Below w.heap.size w ((w.alloc (.cells #[.int .i64 x.kd, .int .i64 x.pl, .string x.wd] 51)).alloc (.cells #[.int .i64 y.kd, .int .i64 y.pl, .string y.wd] 51)) := (below_alloc w _).alloc (by simp) _
  have c0 : ((w.alloc (.cells #[.int .i64 x.kd, .int .i64 x.pl, .string x.wd] 51)).alloc (.cells #[.int .i64 y.kd, .int .i64 y.pl, .string y.wd] 51)).cell? ⟨w.heap.size, 1, none⟩ = some (.int .i64 x.pl) := cell_of_row _ _ 1 _ _ _ (heap_alloc2_old _ _ _)
  have c1 : ((w.alloc (.cells #[.int .i64 x.kd, .int .i64 x.pl, .string x.wd] 51)).alloc (.cells #[.int .i64 y.kd, .int .i64 y.pl, .string y.wd] 51)).cell? ⟨w.heap.size + 1, 1, none⟩ = some (.int .i64 y.pl) := cell_of_row _ _ 1 _ _ _ (heap_alloc2_new _ _ _)
  have n1 : IntKind.i64.wrap (x.pl - y.pl) = x.pl - y.pl := IntWalk.i64_in _ (by omega)
  have n2 : IntKind.i64.wrap (y.pl - x.pl) = y.pl - x.pl := IntWalk.i64_in _ (by omega)
  by_cases h : x.pl - y.pl ≤ 1
  · by_cases h2 : y.pl - x.pl ≤ 1
    · go_enter Try.func38, Try.ntmps38
      go_wp2_with fail
      go_ret
      exact ⟨boolR (by rw [decide_eq_true (show x.pl - y.pl < 2 by omega), decide_eq_true (show y.pl - x.pl < 2 by omega)]; rfl), B⟩
    · go_enter Try.func38, Try.ntmps38
      go_wp2_with fail
      go_ret
      exact ⟨boolR (by rw [decide_eq_true (show x.pl - y.pl < 2 by omega), decide_eq_false (show ¬ y.pl - x.pl < 2 by omega)]; rfl), B⟩
  · go_enter Try.func38, Try.ntmps38
    go_wp2_with fail
    go_ret
    exact ⟨boolR (by rw [decide_eq_false (show ¬ x.pl - y.pl < 2 by omega)]; rfl), B⟩
/-- Whether a work takes a place. -/
def takesP (x : Wk) (p : Int) : Bool := decide (p = x.pl) || decide (p = x.pl + 1)
end Go.Proofs.Ytcjbjlepgdggpaa
