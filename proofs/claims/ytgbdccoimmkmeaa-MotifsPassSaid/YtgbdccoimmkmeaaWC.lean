/- What the motifs are; between, stitch. -/
import Derived.Test.YtgbdccoimmkmeaaWB
namespace Go.Proofs.Ytgbdccoimmkmeaa
/-- Works at places that go up; that go down. -/
def upL (wd : ByteArray) (a : Int) (n : Nat) : List Wk := (List.range n).map fun (i : Nat) => ⟨a + (i : Int), wd⟩
def dnL (wd : ByteArray) (a : Int) (n : Nat) : List Wk := (List.range n).map fun (i : Nat) => ⟨a - (i : Int), wd⟩
theorem upL_next (wd : ByteArray) (a : Int) (n : Nat) : upL wd a (n + 1) = upL wd a n ++ [⟨a + (n : Int), wd⟩] := by simp [upL, List.range_succ]
theorem dnL_next (wd : ByteArray) (a : Int) (n : Nat) : dnL wd a (n + 1) = dnL wd a n ++ [⟨a - (n : Int), wd⟩] := by simp [dnL, List.range_succ]
theorem upL_len (wd : ByteArray) (a : Int) (n : Nat) : (upL wd a n).length = n := by simp [upL]
theorem dnL_len (wd : ByteArray) (a : Int) (n : Nat) : (dnL wd a n).length = n := by simp [dnL]
def sCTC : ByteArray := ⟨#[67, 84, 67]⟩
def sRP : ByteArray := ⟨#[82, 80]⟩
def sLLP : ByteArray := ⟨#[76, 76, 80]⟩
def sP : ByteArray := ⟨#[80]⟩
def sCT : ByteArray := ⟨#[67, 84]⟩
def sT (t : Nat) : ByteArray := ⟨(List.replicate t 84).toArray⟩
def legsL (n t : Nat) : List Wk := if t = 0 then [] else (List.range n).map fun (k : Nat) => ⟨2 * (k : Int), sT t⟩
def bodyL (n : Nat) : List Wk := (List.range n).flatMap fun (j : Nat) => upL sCTC ((n : Int) - 1 - (j : Int)) n
def fanRowL (k : Nat) : List Wk := upL sCTC 0 k ++ [⟨(k : Int) - 1, sRP⟩] ++ dnL sCTC ((k : Int) - 1) k
def fanL (n : Nat) : List Wk := ((List.range n).flatMap fun i => fanRowL (i + 1)) ++ (List.range (n - 1)).flatMap fun i => fanRowL (n - 1 - i)
def footRow (n : Nat) : List Wk := dnL sCTC ((n : Int) - 1) n ++ [⟨0, sLLP⟩] ++ upL sCTC 0 n
def repL (m : Nat) (W : List Wk) : List Wk := (List.range m).flatMap fun _ => W
def picotW (n : Nat) : ByteArray := ⟨(List.replicate n (76 : UInt8) ++ [80] ++ List.replicate n 76).toArray⟩
def spiderL (n t : Nat) : List Wk := legsL n t ++ bodyL n ++ [⟨(n : Int) - 1, sP⟩] ++ bodyL n ++ legsL n t
def millL : List Wk := [⟨1, sCTC⟩, ⟨0, sCTC⟩, ⟨2, sCTC⟩, ⟨1, sP⟩, ⟨1, sCTC⟩]
open Go.RowKit Go.Lib
set_option linter.unusedSimpArgs false
set_option maxRecDepth 100000 in
theorem between_any (a n b : Int) (r : Bool) (hr : r = (decide (a ≤ n) && decide (n ≤ b))) (w : World) : Calls Try.prog 33 #[.int .i64 a, .int .i64 n, .int .i64 b] w fun e w' => e = .returned (.bool r) ∧ w' = w := by
  by_cases h1 : a ≤ n
  · by_cases h2 : n ≤ b
    · obtain rfl : r = true := by rw [hr]; simp [h1, h2]
      clear hr
      go_enter Try.func33, Try.ntmps33
      go_wp2_with fail
      go_ret
      exact ⟨by first | rfl | (simp; done), by first | trivial | rfl⟩
    · obtain rfl : r = false := by rw [hr]; simp [h1, h2]
      clear hr
      go_enter Try.func33, Try.ntmps33
      go_wp2_with fail
      go_ret
      exact ⟨by first | rfl | (simp; done) | (simp; omega), by first | trivial | rfl⟩
  · obtain rfl : r = false := by rw [hr]; simp [h1]
    clear hr
    go_enter Try.func33, Try.ntmps33
    go_wp2_with fail
    go_ret
    exact ⟨by first | rfl | (simp; done) | (simp; omega), by first | trivial | rfl⟩
set_option maxRecDepth 100000 in
theorem stitch_any (wd : ByteArray) (p : Int) (w : World) : Calls Try.prog 44 #[.string wd, .int .i64 p] w fun e w' => e = .returned (.agg #[.int .i64 1, .int .i64 p, .string wd]) ∧ Below w.heap.size w w' := by
  go_enter Try.func44, Try.ntmps44
  go_wp2_with fail
  exact bodyPost_ret (results_cell_row rfl _ _ w.heap.size 51 #[.int .i64 1, .int .i64 p, .string wd] (0, 0) _ rfl (heap_alloc_new _ _) Try.underlying51 rfl (by kernel_rfl)) rfl ⟨rfl, below_alloc w _⟩
set_option maxRecDepth 100000 in
theorem refstitch_any (wd : ByteArray) (p : Int) (w : World) : Calls Try.prog 36 #[.string wd, .int .i64 p] w fun e w' => e = .returned (.agg #[.int .i64 1, .int .i64 p, .string wd]) ∧ Below w.heap.size w w' := by
  go_enter Try.func36, Try.ntmps36
  go_wp2_with fail
  exact bodyPost_ret (results_cell_row rfl _ _ w.heap.size 51 #[.int .i64 1, .int .i64 p, .string wd] (0, 0) _ rfl (heap_alloc_new _ _) Try.underlying51 rfl (by kernel_rfl)) rfl ⟨rfl, below_alloc w _⟩
end Go.Proofs.Ytgbdccoimmkmeaa
