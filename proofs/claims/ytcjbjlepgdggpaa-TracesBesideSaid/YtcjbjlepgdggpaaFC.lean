/- Works: what Check asks of each. -/
import Derived.Test.YtcjbjlepgdggpaaFB
import Derived.Lib.Strings
namespace Go.Proofs.Ytcjbjlepgdggpaa
open Go.RowKit Go.Lib
structure Wk where
  kd : Int
  pl : Int
  wd : ByteArray
def Wk.val (x : Wk) : Value := .agg #[.int .i64 x.kd, .int .i64 x.pl, .string x.wd]
def Wk.fits (x : Wk) (pairs : Int) : Bool := decide (0 ≤ x.pl) && decide (x.pl ≤ pairs - 2) && (decide (x.kd = 1) || (decide (x.kd = 2) && decide (x.wd.size = 0)))
theorem toList_data (s : ByteArray) : s.toList = s.data.toList := Lib.toList_data s
theorem size_len (s : ByteArray) : s.data.toList.length = s.size := (Lib.size_eq s).symm
theorem toList_nil {s : ByteArray} (h : s.size = 0) : s.toList = [] := by rw [toList_data]; exact List.eq_nil_of_length_eq_zero (by rw [size_len]; exact h)
theorem toList_cons {s : ByteArray} (h : ¬ s.size = 0) : s.toList.isEmpty = false ∧ ¬ s.toList = [] := by
  have : ¬ s.toList = [] := by rw [toList_data]; intro e; have := congrArg List.length e; rw [size_len] at this; exact h (by simpa using this)
  exact ⟨by simpa using this, this⟩
theorem toList_empty (s : ByteArray) : s.toList.isEmpty = decide (s.size = 0) := by
  by_cases h : s.size = 0
  · rw [toList_nil h, decide_eq_true h]; rfl
  · obtain ⟨h1, _⟩ := toList_cons h
    rw [decide_eq_false h]
    cases e : s.toList with
    | nil => simp [e] at h1
    | cons a l => rfl
set_option maxHeartbeats 400000 in
theorem isShort_any (x : Wk) (w : World) (hs : x.wd.size ≤ maxLen) :
    Calls Try.prog 66 #[x.val] w fun e w' => e = .returned (.bool (!decide (stV x.wd = 3))) ∧ Below w.heap.size w w' := by
  have hr0 := heap_alloc_new w (.cells #[.int .i64 x.kd, .int .i64 x.pl, .string x.wd] 51)
  have c2 : (w.alloc (.cells #[.int .i64 x.kd, .int .i64 x.pl, .string x.wd] 51)).cell? ⟨w.heap.size, 2, none⟩ = some (.string x.wd) := cell_of_row _ _ 2 _ _ _ hr0
  have CS := Lib.hid (fun w => stCheck_any x.wd w hs)
  have HB := Lib.hid (below_alloc w (.cells #[.int .i64 x.kd, .int .i64 x.pl, .string x.wd] 51))
  unfold Wk.val
  clear hr0
  go_enter Try.func66, Try.ntmps66
  go_wp2_with fail
  refine (CS.out _).mono ?_
  rintro e w1 ⟨rfl, rfl⟩
  go_wp2_with fail
  go_ret
  exact ⟨by by_cases h : stV x.wd = 3 <;> simp [h], HB.out⟩
set_option maxHeartbeats 400000 in
theorem isSpelt_any (x : Wk) (w : World) (hs : x.wd.size ≤ maxLen) :
    Calls Try.prog 67 #[x.val] w fun e w' => e = .returned (.bool (decide (stV x.wd = 0))) ∧ Below w.heap.size w w' := by
  have hr0 := heap_alloc_new w (.cells #[.int .i64 x.kd, .int .i64 x.pl, .string x.wd] 51)
  have c2 : (w.alloc (.cells #[.int .i64 x.kd, .int .i64 x.pl, .string x.wd] 51)).cell? ⟨w.heap.size, 2, none⟩ = some (.string x.wd) := cell_of_row _ _ 2 _ _ _ hr0
  have CS := Lib.hid (fun w => stCheck_any x.wd w hs)
  have HB := Lib.hid (below_alloc w (.cells #[.int .i64 x.kd, .int .i64 x.pl, .string x.wd] 51))
  unfold Wk.val
  clear hr0
  go_enter Try.func67, Try.ntmps67
  go_wp2_with fail
  refine (CS.out _).mono ?_
  rintro e w1 ⟨rfl, rfl⟩
  go_wp2_with fail
  go_ret
  exact ⟨by by_cases h : stV x.wd = 0 <;> simp [h], HB.out⟩
set_option maxHeartbeats 400000 in
theorem isAs_any (x : Wk) (pairs : Int) (hp : -1000 ≤ pairs ∧ pairs ≤ 1000) (w : World) :
    Calls Try.prog 64 #[x.val, .int .i64 pairs] w fun e w' => e = .returned (.bool (x.fits pairs)) ∧ Below w.heap.size w w' := by
  have hr0 := heap_alloc_new w (.cells #[.int .i64 x.kd, .int .i64 x.pl, .string x.wd] 51)
  have c0 : (w.alloc (.cells #[.int .i64 x.kd, .int .i64 x.pl, .string x.wd] 51)).cell? ⟨w.heap.size, 0, none⟩ = some (.int .i64 x.kd) := cell_of_row _ _ 0 _ _ _ hr0
  have c1 : (w.alloc (.cells #[.int .i64 x.kd, .int .i64 x.pl, .string x.wd] 51)).cell? ⟨w.heap.size, 1, none⟩ = some (.int .i64 x.pl) := cell_of_row _ _ 1 _ _ _ hr0
  have c2 : (w.alloc (.cells #[.int .i64 x.kd, .int .i64 x.pl, .string x.wd] 51)).cell? ⟨w.heap.size, 2, none⟩ = some (.string x.wd) := cell_of_row _ _ 2 _ _ _ hr0
  have HB := Lib.hid (below_alloc w (.cells #[.int .i64 x.kd, .int .i64 x.pl, .string x.wd] 51))
  have hw : IntKind.i64.wrap (pairs - 2) = pairs - 2 := IntWalk.i64_in _ (by omega)
  have HF := Lib.hid (show x.fits pairs = (decide (0 ≤ x.pl) && decide (x.pl ≤ pairs - 2) && (decide (x.kd = 1) || (decide (x.kd = 2) && decide (x.wd.size = 0)))) from rfl)
  unfold Wk.val
  clear hr0
  generalize x.fits pairs = f at *
  obtain ⟨kd, pl, wd⟩ := x
  dsimp only at *
  by_cases h1 : pl < 0
  · have e : f = false := by rw [HF.out, decide_eq_false (show ¬ 0 ≤ pl by omega)]; simp
    subst e
    clear HF
    go_enter Try.func64, Try.ntmps64
    go_wp2_with fail
    go_ret
    exact ⟨rfl, HB.out⟩
  · by_cases h2 : pairs - 2 < pl
    · have e : f = false := by rw [HF.out, decide_eq_false (show ¬ pl ≤ pairs - 2 by omega)]; simp
      subst e
      clear HF
      go_enter Try.func64, Try.ntmps64
      go_wp2_with fail
      go_ret
      exact ⟨rfl, HB.out⟩
    · have e0 : f = (decide (kd = 1) || (decide (kd = 2) && decide (wd.size = 0))) := by
        rw [HF.out, decide_eq_true (show 0 ≤ pl by omega), decide_eq_true (show pl ≤ pairs - 2 by omega)]; simp
      have E0 := Lib.hid e0
      clear HF e0
      by_cases h3 : kd = 1
      · have e : f = true := by rw [E0.out, decide_eq_true h3]; rfl
        subst e
        subst h3
        clear E0
        go_enter Try.func64, Try.ntmps64
        go_wp2_with fail
        go_ret
        exact ⟨rfl, HB.out⟩
      · have h3b : (kd == 1) = false := by simpa using h3
        by_cases h4 : kd = 2
        · subst h4
          have e : f = decide (wd.size = 0) := by rw [E0.out]; rfl
          clear E0
          have He := Lib.hid e
          clear e
          go_enter Try.func64, Try.ntmps64
          go_wp2_with fail
          go_ret
          refine ⟨?_, HB.out⟩
          show Ending.returned (.bool wd.toList.isEmpty) = _
          rw [toList_empty, ← He.out]
        · have h4b : (kd == 2) = false := by simpa using h4
          have e : f = false := by rw [E0.out, decide_eq_false h3, decide_eq_false h4]; rfl
          subst e
          clear E0
          go_enter Try.func64, Try.ntmps64
          go_wp2_with fail
          go_ret
          exact ⟨rfl, HB.out⟩
end Go.Proofs.Ytcjbjlepgdggpaa
