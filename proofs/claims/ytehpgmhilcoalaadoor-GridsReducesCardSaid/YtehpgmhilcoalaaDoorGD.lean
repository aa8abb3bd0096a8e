/- Comparing and testing: isNaN, Compare, Or, within, from, sign; the tests of validity on both sides. -/
import Derived.Test.YtehpgmhilcoalaaDoorGC
namespace Go.Proofs.YtehpgmhilcoalaaDoor
open Go.RowKit Go.Lib
set_option linter.unusedSimpArgs false
def inB (lo hi n : Int) : Bool := decide (lo ≤ n) && decide (n ≤ hi)
def cmpI (a b : Int) : Int := if a < b then -1 else if b < a then 1 else 0
def firstOf : List Int → Int
  | [] => 0
  | x :: xs => if x ≠ 0 then x else firstOf xs
theorem isNaN64_any (a : Int) (w : World) : Calls Tryd.prog 82 #[.int .i64 a] w fun e w' => e = .returned (.bool false) ∧ w' = w := by
  go_enter Tryd.func82, Tryd.ntmps82
  go_wp2_with fail
  go_ret
  exact ⟨by simp, rfl⟩
theorem isNaN_any (a : Int) (w : World) : Calls Tryd.prog 83 #[.int .i64 a] w fun e w' => e = .returned (.bool false) ∧ w' = w := by
  go_enter Tryd.func83, Tryd.ntmps83
  go_wp2_with fail
  go_ret
  exact ⟨by simp, rfl⟩
theorem Compare64_any (a b : Int) (w : World) : Calls Tryd.prog 55 #[.int .i64 a, .int .i64 b] w fun e w' => e = .returned (.int .i64 (cmpI a b)) ∧ w' = w := by
  have CN := Lib.hid (fun a w => isNaN64_any a w)
  have H := Lib.hid (show cmpI a b = if a < b then -1 else if b < a then 1 else 0 from rfl)
  generalize cmpI a b = c at *
  by_cases h1 : a < b
  · obtain rfl : c = -1 := by rw [H.out, if_pos h1]
    clear H
    go_enter Tryd.func55, Tryd.ntmps55
    go_wp2_with fail
    refine (CN.out _ _).mono ?_
    rintro e w' ⟨rfl, rfl⟩
    go_wp2_with fail
    refine (CN.out _ _).mono ?_
    rintro e w' ⟨rfl, rfl⟩
    go_wp2_with fail
    go_ret
    exact ⟨rfl, rfl⟩
  · by_cases h2 : b < a
    · obtain rfl : c = 1 := by rw [H.out, if_neg h1, if_pos h2]
      clear H
      go_enter Tryd.func55, Tryd.ntmps55
      go_wp2_with fail
      refine (CN.out _ _).mono ?_
      rintro e w' ⟨rfl, rfl⟩
      go_wp2_with fail
      refine (CN.out _ _).mono ?_
      rintro e w' ⟨rfl, rfl⟩
      go_wp2_with fail
      go_ret
      exact ⟨rfl, rfl⟩
    · obtain rfl : c = 0 := by rw [H.out, if_neg h1, if_neg h2]
      clear H
      go_enter Tryd.func55, Tryd.ntmps55
      go_wp2_with fail
      refine (CN.out _ _).mono ?_
      rintro e w' ⟨rfl, rfl⟩
      go_wp2_with fail
      refine (CN.out _ _).mono ?_
      rintro e w' ⟨rfl, rfl⟩
      go_wp2_with fail
      go_ret
      exact ⟨rfl, rfl⟩
theorem Compare_any (a b : Int) (w : World) : Calls Tryd.prog 59 #[.int .i64 a, .int .i64 b] w fun e w' => e = .returned (.int .i64 (cmpI a b)) ∧ w' = w := by
  have CN := Lib.hid (fun a w => isNaN_any a w)
  have H := Lib.hid (show cmpI a b = if a < b then -1 else if b < a then 1 else 0 from rfl)
  generalize cmpI a b = c at *
  by_cases h1 : a < b
  · obtain rfl : c = -1 := by rw [H.out, if_pos h1]
    clear H
    go_enter Tryd.func59, Tryd.ntmps59
    go_wp2_with fail
    refine (CN.out _ _).mono ?_
    rintro e w' ⟨rfl, rfl⟩
    go_wp2_with fail
    refine (CN.out _ _).mono ?_
    rintro e w' ⟨rfl, rfl⟩
    go_wp2_with fail
    go_ret
    exact ⟨rfl, rfl⟩
  · by_cases h2 : b < a
    · obtain rfl : c = 1 := by rw [H.out, if_neg h1, if_pos h2]
      clear H
      go_enter Tryd.func59, Tryd.ntmps59
      go_wp2_with fail
      refine (CN.out _ _).mono ?_
      rintro e w' ⟨rfl, rfl⟩
      go_wp2_with fail
      refine (CN.out _ _).mono ?_
      rintro e w' ⟨rfl, rfl⟩
      go_wp2_with fail
      go_ret
      exact ⟨rfl, rfl⟩
    · obtain rfl : c = 0 := by rw [H.out, if_neg h1, if_neg h2]
      clear H
      go_enter Tryd.func59, Tryd.ntmps59
      go_wp2_with fail
      refine (CN.out _ _).mono ?_
      rintro e w' ⟨rfl, rfl⟩
      go_wp2_with fail
      refine (CN.out _ _).mono ?_
      rintro e w' ⟨rfl, rfl⟩
      go_wp2_with fail
      go_ret
      exact ⟨rfl, rfl⟩
theorem sign_any (a : Int) (w : World) : Calls Tryd.prog 57 #[.int .i64 a] w fun e w' => e = .returned (.int .i64 (cmpI a 0)) ∧ w' = w := by
  have H := Lib.hid (show cmpI a 0 = if a < 0 then -1 else if 0 < a then 1 else 0 from rfl)
  generalize cmpI a 0 = c at *
  by_cases h1 : a < 0
  · obtain rfl : c = -1 := by rw [H.out, if_pos h1]
    clear H
    go_enter Tryd.func57, Tryd.ntmps57
    go_wp2_with fail
    go_ret
    exact ⟨rfl, rfl⟩
  · by_cases h2 : 0 < a
    · obtain rfl : c = 1 := by rw [H.out, if_neg h1, if_pos h2]
      clear H
      go_enter Tryd.func57, Tryd.ntmps57
      go_wp2_with fail
      go_ret
      exact ⟨rfl, rfl⟩
    · obtain rfl : c = 0 := by rw [H.out, if_neg h1, if_neg h2]
      clear H
      go_enter Tryd.func57, Tryd.ntmps57
      go_wp2_with fail
      go_ret
      exact ⟨rfl, rfl⟩
theorem from_any (n lo hi : Int) (w : World) : Calls Tryd.prog 53 #[.int .i64 n, .int .i64 lo, .int .i64 hi] w fun e w' => e = .returned (.bool (inB lo hi n)) ∧ w' = w := by
  have H := Lib.hid (show inB lo hi n = (decide (lo ≤ n) && decide (n ≤ hi)) from rfl)
  generalize inB lo hi n = c at *
  by_cases h1 : lo ≤ n
  · obtain rfl : c = decide (n ≤ hi) := by rw [H.out, decide_eq_true h1]; rfl
    clear H
    go_enter Tryd.func53, Tryd.ntmps53
    go_wp2_with fail
    go_ret
    exact ⟨rfl, rfl⟩
  · obtain rfl : c = false := by rw [H.out, decide_eq_false h1]; rfl
    have h1' : decide (lo ≤ n) = false := decide_eq_false h1
    clear H h1
    go_enter Tryd.func53, Tryd.ntmps53
    go_wp2_with fail
    go_ret
    exact ⟨rfl, rfl⟩
def okP (p : Pt) : Bool := inB (-1000000) (1000000) p.x && inB (-1000000) (1000000) p.y
theorem rPoint_any (p : Pt) (w : World) : Calls Tryd.prog 74 #[p.val] w fun e w' => e = .returned (.bool (okP p)) ∧ Below w.heap.size w w' := by
  simp only [okP]
  obtain ⟨v0, v1⟩ := p
  simp only [Pt.val, Mat.val]
  have C0 := Lib.hid (fun w => from_any v0 (-1000000) (1000000) w)
  have C1 := Lib.hid (fun w => from_any v1 (-1000000) (1000000) w)
  generalize inB (-1000000) (1000000) v0 = b0 at *
  generalize inB (-1000000) (1000000) v1 = b1 at *
  cases b0
  · go_enter Tryd.func74, Tryd.ntmps74
    go_wp2_with fail
    refine (C0.out _).mono ?_
    rintro e w' ⟨rfl, rfl⟩
    go_wp2_with fail
    go_ret
    exact ⟨by simp, (by repeat (first | assumption | exact Below.refl _ _ | refine Below.alloc ?_ (by simp <;> omega) _))⟩
  · skip
    cases b1
    · go_enter Tryd.func74, Tryd.ntmps74
      go_wp2_with fail
      refine (C0.out _).mono ?_
      rintro e w' ⟨rfl, rfl⟩
      go_wp2_with fail
      refine (C1.out _).mono ?_
      rintro e w' ⟨rfl, rfl⟩
      go_wp2_with fail
      go_ret
      exact ⟨by simp, (by repeat (first | assumption | exact Below.refl _ _ | refine Below.alloc ?_ (by simp <;> omega) _))⟩
    · go_enter Tryd.func74, Tryd.ntmps74
      go_wp2_with fail
      refine (C0.out _).mono ?_
      rintro e w' ⟨rfl, rfl⟩
      go_wp2_with fail
      refine (C1.out _).mono ?_
      rintro e w' ⟨rfl, rfl⟩
      go_wp2_with fail
      go_ret
      exact ⟨by simp, (by repeat (first | assumption | exact Below.refl _ _ | refine Below.alloc ?_ (by simp <;> omega) _))⟩
def okM (m : Mat) : Bool := inB (-10000) (10000) m.a && inB (-10000) (10000) m.b && inB (-10000) (10000) m.c && inB (-10000) (10000) m.d
theorem rMatrix_any (m : Mat) (w : World) : Calls Tryd.prog 40 #[m.val] w fun e w' => e = .returned (.bool (okM m)) ∧ Below w.heap.size w w' := by
  simp only [okM]
  obtain ⟨v0, v1, v2, v3⟩ := m
  simp only [Pt.val, Mat.val]
  have C0 := Lib.hid (fun w => from_any v0 (-10000) (10000) w)
  have C1 := Lib.hid (fun w => from_any v1 (-10000) (10000) w)
  have C2 := Lib.hid (fun w => from_any v2 (-10000) (10000) w)
  have C3 := Lib.hid (fun w => from_any v3 (-10000) (10000) w)
  generalize inB (-10000) (10000) v0 = b0 at *
  generalize inB (-10000) (10000) v1 = b1 at *
  generalize inB (-10000) (10000) v2 = b2 at *
  generalize inB (-10000) (10000) v3 = b3 at *
  cases b0
  · go_enter Tryd.func40, Tryd.ntmps40
    go_wp2_with fail
    refine (C0.out _).mono ?_
    rintro e w' ⟨rfl, rfl⟩
    go_wp2_with fail
    go_ret
    exact ⟨by simp, (by repeat (first | assumption | exact Below.refl _ _ | refine Below.alloc ?_ (by simp <;> omega) _))⟩
  · skip
    cases b1
    · go_enter Tryd.func40, Tryd.ntmps40
      go_wp2_with fail
      refine (C0.out _).mono ?_
      rintro e w' ⟨rfl, rfl⟩
      go_wp2_with fail
      refine (C1.out _).mono ?_
      rintro e w' ⟨rfl, rfl⟩
      go_wp2_with fail
      go_ret
      exact ⟨by simp, (by repeat (first | assumption | exact Below.refl _ _ | refine Below.alloc ?_ (by simp <;> omega) _))⟩
    · skip
      cases b2
      · go_enter Tryd.func40, Tryd.ntmps40
        go_wp2_with fail
        refine (C0.out _).mono ?_
        rintro e w' ⟨rfl, rfl⟩
        go_wp2_with fail
        refine (C1.out _).mono ?_
        rintro e w' ⟨rfl, rfl⟩
        go_wp2_with fail
        refine (C2.out _).mono ?_
        rintro e w' ⟨rfl, rfl⟩
        go_wp2_with fail
        go_ret
        exact ⟨by simp, (by repeat (first | assumption | exact Below.refl _ _ | refine Below.alloc ?_ (by simp <;> omega) _))⟩
      · skip
        cases b3
        · go_enter Tryd.func40, Tryd.ntmps40
          go_wp2_with fail
          refine (C0.out _).mono ?_
          rintro e w' ⟨rfl, rfl⟩
          go_wp2_with fail
          refine (C1.out _).mono ?_
          rintro e w' ⟨rfl, rfl⟩
          go_wp2_with fail
          refine (C2.out _).mono ?_
          rintro e w' ⟨rfl, rfl⟩
          go_wp2_with fail
          refine (C3.out _).mono ?_
          rintro e w' ⟨rfl, rfl⟩
          go_wp2_with fail
          go_ret
          exact ⟨by simp, (by repeat (first | assumption | exact Below.refl _ _ | refine Below.alloc ?_ (by simp <;> omega) _))⟩
        · go_enter Tryd.func40, Tryd.ntmps40
          go_wp2_with fail
          refine (C0.out _).mono ?_
          rintro e w' ⟨rfl, rfl⟩
          go_wp2_with fail
          refine (C1.out _).mono ?_
          rintro e w' ⟨rfl, rfl⟩
          go_wp2_with fail
          refine (C2.out _).mono ?_
          rintro e w' ⟨rfl, rfl⟩
          go_wp2_with fail
          refine (C3.out _).mono ?_
          rintro e w' ⟨rfl, rfl⟩
          go_wp2_with fail
          go_ret
          exact ⟨by simp, (by repeat (first | assumption | exact Below.refl _ _ | refine Below.alloc ?_ (by simp <;> omega) _))⟩
def okS (m : Mat) : Bool := inB (-1000000) (1000000) m.a && inB (-1000000) (1000000) m.b && inB (-1000000) (1000000) m.c && inB (-1000000) (1000000) m.d
theorem rSmall_any (m : Mat) (w : World) : Calls Tryd.prog 78 #[m.val] w fun e w' => e = .returned (.bool (okS m)) ∧ Below w.heap.size w w' := by
  simp only [okS]
  obtain ⟨v0, v1, v2, v3⟩ := m
  simp only [Pt.val, Mat.val]
  have C0 := Lib.hid (fun w => from_any v0 (-1000000) (1000000) w)
  have C1 := Lib.hid (fun w => from_any v1 (-1000000) (1000000) w)
  have C2 := Lib.hid (fun w => from_any v2 (-1000000) (1000000) w)
  have C3 := Lib.hid (fun w => from_any v3 (-1000000) (1000000) w)
  generalize inB (-1000000) (1000000) v0 = b0 at *
  generalize inB (-1000000) (1000000) v1 = b1 at *
  generalize inB (-1000000) (1000000) v2 = b2 at *
  generalize inB (-1000000) (1000000) v3 = b3 at *
  cases b0
  · go_enter Tryd.func78, Tryd.ntmps78
    go_wp2_with fail
    refine (C0.out _).mono ?_
    rintro e w' ⟨rfl, rfl⟩
    go_wp2_with fail
    go_ret
    exact ⟨by simp, (by repeat (first | assumption | exact Below.refl _ _ | refine Below.alloc ?_ (by simp <;> omega) _))⟩
  · skip
    cases b1
    · go_enter Tryd.func78, Tryd.ntmps78
      go_wp2_with fail
      refine (C0.out _).mono ?_
      rintro e w' ⟨rfl, rfl⟩
      go_wp2_with fail
      refine (C1.out _).mono ?_
      rintro e w' ⟨rfl, rfl⟩
      go_wp2_with fail
      go_ret
      exact ⟨by simp, (by repeat (first | assumption | exact Below.refl _ _ | refine Below.alloc ?_ (by simp <;> omega) _))⟩
    · skip
      cases b2
      · go_enter Tryd.func78, Tryd.ntmps78
        go_wp2_with fail
        refine (C0.out _).mono ?_
        rintro e w' ⟨rfl, rfl⟩
        go_wp2_with fail
        refine (C1.out _).mono ?_
        rintro e w' ⟨rfl, rfl⟩
        go_wp2_with fail
        refine (C2.out _).mono ?_
        rintro e w' ⟨rfl, rfl⟩
        go_wp2_with fail
        go_ret
        exact ⟨by simp, (by repeat (first | assumption | exact Below.refl _ _ | refine Below.alloc ?_ (by simp <;> omega) _))⟩
      · skip
        cases b3
        · go_enter Tryd.func78, Tryd.ntmps78
          go_wp2_with fail
          refine (C0.out _).mono ?_
          rintro e w' ⟨rfl, rfl⟩
          go_wp2_with fail
          refine (C1.out _).mono ?_
          rintro e w' ⟨rfl, rfl⟩
          go_wp2_with fail
          refine (C2.out _).mono ?_
          rintro e w' ⟨rfl, rfl⟩
          go_wp2_with fail
          refine (C3.out _).mono ?_
          rintro e w' ⟨rfl, rfl⟩
          go_wp2_with fail
          go_ret
          exact ⟨by simp, (by repeat (first | assumption | exact Below.refl _ _ | refine Below.alloc ?_ (by simp <;> omega) _))⟩
        · go_enter Tryd.func78, Tryd.ntmps78
          go_wp2_with fail
          refine (C0.out _).mono ?_
          rintro e w' ⟨rfl, rfl⟩
          go_wp2_with fail
          refine (C1.out _).mono ?_
          rintro e w' ⟨rfl, rfl⟩
          go_wp2_with fail
          refine (C2.out _).mono ?_
          rintro e w' ⟨rfl, rfl⟩
          go_wp2_with fail
          refine (C3.out _).mono ?_
          rintro e w' ⟨rfl, rfl⟩
          go_wp2_with fail
          go_ret
          exact ⟨by simp, (by repeat (first | assumption | exact Below.refl _ _ | refine Below.alloc ?_ (by simp <;> omega) _))⟩
end Go.Proofs.YtehpgmhilcoalaaDoor
