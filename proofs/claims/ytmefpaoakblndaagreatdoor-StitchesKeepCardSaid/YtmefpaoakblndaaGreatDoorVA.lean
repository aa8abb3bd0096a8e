/- Words of stitches: what letters do; crosses, twists and crossings walked on both sides. -/
import Derived.Test.YtmefpaoakblndaaGreatDoorVQ
namespace Go.Proofs.YtmefpaoakblndaaGreatDoor
open Go.RowKit Go.Lib
def crX (c : UInt8) : Int := if c = 67 then 1 else if c = 99 then -1 else 0
def twL (c : UInt8) : Int := if c = 84 ∨ c = 76 then 1 else if c = 116 ∨ c = 108 then -1 else 0
def twR (c : UInt8) : Int := if c = 84 ∨ c = 82 then 1 else if c = 116 ∨ c = 114 then -1 else 0
def cndC (c : UInt8) : List Int := [2 * crX c, -twL c, -3 * twR c]
def crL (c : UInt8) : List Int := (cndC c).filter (· ≠ 0)
def crW (l : List UInt8) : List Int := l.flatMap crL
theorem byte_all {p : UInt8 → Bool} (h : (List.range 256).all (fun n => p (UInt8.ofNat n)) = true) (c : UInt8) : p c = true := by
  have := List.all_eq_true.1 h c.toNat (List.mem_range.2 c.toNat_lt)
  simpa using this
theorem crL_len (c : UInt8) : (crL c).length ≤ 2 := by
  have := byte_all (p := fun c => decide ((crL c).length ≤ 2)) (by decide +kernel) c
  simpa using this
theorem crW_len (l : List UInt8) : (crW l).length ≤ 2 * l.length := by
  induction l with
  | nil => simp [crW]
  | cons c l ih => have := crL_len c; simp only [crW, List.flatMap_cons, List.length_append, List.length_cons] at ih ⊢; omega
theorem crW_take {l : List UInt8} {k : Nat} {c : UInt8} (h : l[k]? = some c) : crW (l.take (k + 1)) = crW (l.take k) ++ crL c := by
  rw [List.take_add_one, h]; simp [crW]
/-- The letters that undo, flip, mirror. -/
def lets : List UInt8 := [67, 76, 82, 84, 80, 99, 108, 114, 116]
def tabU : List UInt8 := [99, 108, 114, 116, 80, 67, 76, 82, 84]
def tabF : List UInt8 := [67, 82, 76, 84, 80, 99, 114, 108, 116]
def tabM : List UInt8 := [99, 114, 108, 116, 80, 67, 82, 76, 84]
def chg (t : List UInt8) (c : UInt8) : UInt8 := t.getD (lets.idxOf c) 0
def uns (c : UInt8) : UInt8 := chg tabU c
def flp (c : UInt8) : UInt8 := chg tabF c
def mir (c : UInt8) : UInt8 := chg tabM c
/-- A letter without T and t. -/
def lng (c : UInt8) : List UInt8 := if c = 84 then [76, 82] else if c = 116 then [108, 114] else [c]
def szI (z : Int) : Int := if z < 0 then -z else z
def mvC (l : List UInt8) : Int := (l.map fun c => szI (crX c)).sum
def mvT (l : List UInt8) : Int := (l.map fun c => szI (twL c) + szI (twR c)).sum
def mvP (l : List UInt8) : Int := l.count 80
theorem mv_lng (l : List UInt8) : ((l.flatMap lng).count 67 + (l.flatMap lng).count 99 : Int) = mvC l ∧ ((l.flatMap lng).count 76 + (l.flatMap lng).count 82 + (l.flatMap lng).count 108 + (l.flatMap lng).count 114 : Int) = mvT l ∧ ((l.flatMap lng).count 80 : Int) = mvP l := by
  induction l with
  | nil => decide
  | cons c l ih =>
    have h := byte_all (p := fun c => decide (((lng c).count 67 + (lng c).count 99 : Int) = szI (crX c) ∧ ((lng c).count 76 + (lng c).count 82 + (lng c).count 108 + (lng c).count 114 : Int) = szI (twL c) + szI (twR c) ∧ ((lng c).count 80 : Int) = ([c].count 80 : Nat))) (by decide +kernel) c
    rw [decide_eq_true_iff] at h
    simp only [mvC, mvT, mvP, List.flatMap_cons, List.count_append, List.map_cons, List.sum_cons, Int.natCast_add] at ih ⊢
    rw [show (c :: l).count 80 = [c].count 80 + l.count 80 by rw [← List.count_append]; rfl]
    simp only [Int.natCast_add]
    omega
theorem is_lit (W : World) (xs : List Int) (t : TypeId) (hl : xs.length < 100) : IS (W.alloc (.cells (xs.map (Value.int .i64)).toArray t)) (.slice (some ⟨W.heap.size, 0, none⟩) xs.length xs.length) xs :=
  ⟨_, _, rfl, Nat.le_refl _, by unfold maxLen; omega, (fun e => by cases e), fun k z hk => ⟨W.heap.size, 0, rfl, by simp, by
    rw [Lib.cell_of_heap (heap_alloc_new W _), Nat.zero_add]
    simp [hk]⟩⟩
theorem u8_ne {c d : UInt8} (h : ¬ c = d) : ((c.toNat : Int) == (d.toNat : Int)) = false := by
  rw [beq_eq_false_iff_ne]
  intro e
  exact h (UInt8.toNat_inj.1 (by exact_mod_cast e))
set_option maxHeartbeats 400000 in
set_option maxRecDepth 100000 in
theorem crosses_any (c : UInt8) (w : World) :
    Calls Tryz.prog 42 #[.int .u8 (c.toNat : Int)] w fun e w' => e = .returned (.int .i64 (crX c)) ∧ w' = w := by
  by_cases h67 : c = 67
  · subst h67
    go_enter Tryz.func42, Tryz.ntmps42
    go_wp2_with fail
    go_ret
    exact ⟨rfl, rfl⟩
  by_cases h99 : c = 99
  · subst h99
    go_enter Tryz.func42, Tryz.ntmps42
    go_wp2_with fail
    go_ret
    exact ⟨rfl, rfl⟩
  have e67 : ((c.toNat : Int) == 67) = false := u8_ne h67
  have e99 : ((c.toNat : Int) == 99) = false := u8_ne h99
  have z : crX c = 0 := by simp [crX, h67, h99]
  rw [z]
  clear z
  go_enter Tryz.func42, Tryz.ntmps42
  go_wp2_with fail
  go_ret
  exact ⟨rfl, rfl⟩
set_option maxHeartbeats 400000 in
set_option maxRecDepth 100000 in
theorem twists_any (c : UInt8) (w : World) :
    Calls Tryz.prog 40 #[.int .u8 (c.toNat : Int)] w fun e w' => e = .returned (.tuple #[.int .i64 (twL c), .int .i64 (twR c)]) ∧ w' = w := by
  by_cases h84 : c = 84
  · subst h84
    go_enter Tryz.func40, Tryz.ntmps40
    go_wp2_with fail
    go_ret2
    exact ⟨rfl, rfl⟩
  by_cases h82 : c = 82
  · subst h82
    go_enter Tryz.func40, Tryz.ntmps40
    go_wp2_with fail
    go_ret2
    exact ⟨rfl, rfl⟩
  by_cases h76 : c = 76
  · subst h76
    go_enter Tryz.func40, Tryz.ntmps40
    go_wp2_with fail
    go_ret2
    exact ⟨rfl, rfl⟩
  by_cases h116 : c = 116
  · subst h116
    go_enter Tryz.func40, Tryz.ntmps40
    go_wp2_with fail
    go_ret2
    exact ⟨rfl, rfl⟩
  by_cases h114 : c = 114
  · subst h114
    go_enter Tryz.func40, Tryz.ntmps40
    go_wp2_with fail
    go_ret2
    exact ⟨rfl, rfl⟩
  by_cases h108 : c = 108
  · subst h108
    go_enter Tryz.func40, Tryz.ntmps40
    go_wp2_with fail
    go_ret2
    exact ⟨rfl, rfl⟩
  have e84 : ((c.toNat : Int) == 84) = false := u8_ne h84
  have e82 : ((c.toNat : Int) == 82) = false := u8_ne h82
  have e76 : ((c.toNat : Int) == 76) = false := u8_ne h76
  have e116 : ((c.toNat : Int) == 116) = false := u8_ne h116
  have e114 : ((c.toNat : Int) == 114) = false := u8_ne h114
  have e108 : ((c.toNat : Int) == 108) = false := u8_ne h108
  have z : twL c = 0 := by simp [twL, h84, h76, h116, h108]
  have z2 : twR c = 0 := by simp [twR, h84, h82, h116, h114]
  rw [z, z2]
  clear z z2
  go_enter Tryz.func40, Tryz.ntmps40
  go_wp2_with fail
  go_ret2
  exact ⟨rfl, rfl⟩
set_option maxHeartbeats 400000 in
set_option maxRecDepth 100000 in
theorem refcrossing_any (c : UInt8) (w : World) :
    Calls Tryz.prog 60 #[.int .u8 (c.toNat : Int)] w fun e w' => ∃ v, e = .returned v ∧ IS w' v (crL c) ∧ Below w.heap.size w w' := by
  by_cases h67 : c = 67
  · subst h67
    go_enter Tryz.func60, Tryz.ntmps60
    go_wp2_with fail
    go_ret
    exact ⟨_, rfl, is_lit w [2] 3 (by decide), below_alloc w _⟩
  by_cases h76 : c = 76
  · subst h76
    go_enter Tryz.func60, Tryz.ntmps60
    go_wp2_with fail
    go_ret
    exact ⟨_, rfl, is_lit w [-1] 3 (by decide), below_alloc w _⟩
  by_cases h82 : c = 82
  · subst h82
    go_enter Tryz.func60, Tryz.ntmps60
    go_wp2_with fail
    go_ret
    exact ⟨_, rfl, is_lit w [-3] 3 (by decide), below_alloc w _⟩
  by_cases h84 : c = 84
  · subst h84
    go_enter Tryz.func60, Tryz.ntmps60
    go_wp2_with fail
    go_ret
    exact ⟨_, rfl, is_lit w [-1, -3] 3 (by decide), below_alloc w _⟩
  by_cases h99 : c = 99
  · subst h99
    go_enter Tryz.func60, Tryz.ntmps60
    go_wp2_with fail
    go_ret
    exact ⟨_, rfl, is_lit w [-2] 3 (by decide), below_alloc w _⟩
  by_cases h108 : c = 108
  · subst h108
    go_enter Tryz.func60, Tryz.ntmps60
    go_wp2_with fail
    go_ret
    exact ⟨_, rfl, is_lit w [1] 3 (by decide), below_alloc w _⟩
  by_cases h114 : c = 114
  · subst h114
    go_enter Tryz.func60, Tryz.ntmps60
    go_wp2_with fail
    go_ret
    exact ⟨_, rfl, is_lit w [3] 3 (by decide), below_alloc w _⟩
  by_cases h116 : c = 116
  · subst h116
    go_enter Tryz.func60, Tryz.ntmps60
    go_wp2_with fail
    go_ret
    exact ⟨_, rfl, is_lit w [1, 3] 3 (by decide), below_alloc w _⟩
  have e67 : ((c.toNat : Int) == 67) = false := u8_ne h67
  have e76 : ((c.toNat : Int) == 76) = false := u8_ne h76
  have e82 : ((c.toNat : Int) == 82) = false := u8_ne h82
  have e84 : ((c.toNat : Int) == 84) = false := u8_ne h84
  have e99 : ((c.toNat : Int) == 99) = false := u8_ne h99
  have e108 : ((c.toNat : Int) == 108) = false := u8_ne h108
  have e114 : ((c.toNat : Int) == 114) = false := u8_ne h114
  have e116 : ((c.toNat : Int) == 116) = false := u8_ne h116
  have z : crL c = [] := by simp [crL, cndC, crX, twL, twR, h67, h76, h82, h84, h99, h108, h114, h116]
  rw [z]
  clear z
  go_enter Tryz.func60, Tryz.ntmps60
  go_wp2_with fail
  go_ret
  exact ⟨_, rfl, is_nil w, Below.refl _ w⟩
set_option maxHeartbeats 400000 in
theorem size_any (z : Int) (hz : -100000 < z ∧ z < 100000) (w : World) :
    Calls Tryz.prog 41 #[.int .i64 z] w fun e w' => e = .returned (.int .i64 (szI z)) ∧ w' = w := by
  have hw : IntKind.i64.wrap (-z) = -z := IntWalk.i64_in _ (by omega)
  by_cases h : z < 0
  · have hm : szI z = -z := if_pos h
    have h1 : z < -z := by omega
    have h2 : ¬ -z < z := by omega
    rw [hm]
    go_enter Tryz.func41, Tryz.ntmps41
    go_wp2_with fail
    go_ret
    exact ⟨rfl, rfl⟩
  · have hm : szI z = z := if_neg h
    have h1 : ¬ z < -z := by omega
    rw [hm]
    go_enter Tryz.func41, Tryz.ntmps41
    go_wp2_with fail
    go_ret
    exact ⟨by first | rfl | (congr 2; omega) | (simp; omega), rfl⟩
end Go.Proofs.YtmefpaoakblndaaGreatDoor
