/- Straight functions of the program: steps, products, and within. -/
import Derived.Test.YtehpgmhilcoalaaDoorGA
import Derived.Test.YtehpgmhilcoalaaDoorGB
namespace Go.Proofs.YtehpgmhilcoalaaDoor
open Go.RowKit Go.Lib
set_option linter.unusedSimpArgs false
def Pt.val (p : Pt) : Value := .agg #[.int .i64 p.x, .int .i64 p.y]
def Lat.val (l : Lat) : Value := .agg #[.int .i64 l.a, .int .i64 l.b, .int .i64 l.c]
def Mat.val (m : Mat) : Value := .agg #[.int .i64 m.a, .int .i64 m.b, .int .i64 m.c, .int .i64 m.d]
structure Mov where (m : Mat) (t : Pt)
  deriving DecidableEq
def Mov.val (m : Mov) : Value := .agg #[.int .i64 m.m.a, .int .i64 m.m.b, .int .i64 m.m.c, .int .i64 m.m.d, .int .i64 m.t.x, .int .i64 m.t.y]
/-! Reckoning modulo the words. -/
theorem wrap64_al (a b : Int) : wrap64 (wrap64 a + b) = wrap64 (a + b) := by unfold wrap64; omega
theorem wrap64_ar (a b : Int) : wrap64 (a + wrap64 b) = wrap64 (a + b) := by unfold wrap64; omega
theorem wrap64_sl (a b : Int) : wrap64 (wrap64 a - b) = wrap64 (a - b) := by unfold wrap64; omega
theorem wrap64_sr (a b : Int) : wrap64 (a - wrap64 b) = wrap64 (a - b) := by unfold wrap64; omega
theorem wrap64_n (a : Int) : wrap64 (-wrap64 a) = wrap64 (-a) := by unfold wrap64; omega
theorem wrap64_w (a : Int) : wrap64 (wrap64 a) = wrap64 a := by unfold wrap64; omega
theorem wrap64_k (a k : Int) : wrap64 (a - 18446744073709551616 * k) = wrap64 a := by unfold wrap64; omega
theorem wrap64_q (a : Int) : ∃ k, wrap64 a = a - 18446744073709551616 * k := ⟨(a + 9223372036854775808) / 18446744073709551616, by unfold wrap64; omega⟩
theorem wrap64_ml (a b : Int) : wrap64 (wrap64 a * b) = wrap64 (a * b) := by
  obtain ⟨k, hk⟩ := wrap64_q a
  rw [hk, show (a - 18446744073709551616 * k) * b = a * b - 18446744073709551616 * (k * b) by grind, wrap64_k]
theorem wrap64_mr (a b : Int) : wrap64 (a * wrap64 b) = wrap64 (a * b) := by rw [Int.mul_comm, wrap64_ml, Int.mul_comm]
theorem wrap64_id {a : Int} (h : -9000000000000000000 ≤ a ∧ a ≤ 9000000000000000000) : wrap64 a = a := IntWalk.wrap64_in _ (by omega)
def Pt.w (p : Pt) : Pt := ⟨wrap64 p.x, wrap64 p.y⟩
def Mat.w (m : Mat) : Mat := ⟨wrap64 m.a, wrap64 m.b, wrap64 m.c, wrap64 m.d⟩
def Lat.w (l : Lat) : Lat := ⟨wrap64 l.a, wrap64 l.b, wrap64 l.c⟩
def stepP (p q : Pt) : Pt := ⟨q.x - p.x, q.y - p.y⟩
def crossP (s t : Pt) : Int := s.x * t.y - s.y * t.x
def image (m : Mat) (p : Pt) : Pt := ⟨m.a * p.x + m.b * p.y, m.c * p.x + m.d * p.y⟩
def appl (m : Mov) (p : Pt) : Pt := ⟨m.m.a * p.x + m.m.b * p.y + m.t.x, m.m.c * p.x + m.m.d * p.y + m.t.y⟩
set_option maxHeartbeats 400000 in
theorem product_any (l : Lat) (s : Pt) (t : Pt) (w : World) :
    Calls Tryd.prog 51 #[l.val, s.val, t.val] w fun e w' => e = .returned (.int .i64 (wrap64 (prod l s t))) ∧ Below w.heap.size w w' := by
  simp only [Pt.val, Lat.val, Mat.val, Mov.val]
  go_enter Tryd.func51, Tryd.ntmps51
  go_wp2_with fail
  go_ret
  refine ⟨?_, (by repeat (first | exact Below.refl _ _ | refine Below.alloc ?_ (by simp <;> omega) _))⟩
  simp only [prod, wrap64_al, wrap64_ar, wrap64_sl, wrap64_sr, wrap64_n, wrap64_w, wrap64_ml, wrap64_mr]
  first | done | rfl | (congr 3; grind)
set_option maxHeartbeats 400000 in
theorem rProduct_any (l : Lat) (s : Pt) (t : Pt) (w : World) :
    Calls Tryd.prog 47 #[l.val, s.val, t.val] w fun e w' => e = .returned (.int .i64 (wrap64 (prod l s t))) ∧ Below w.heap.size w w' := by
  simp only [Pt.val, Lat.val, Mat.val, Mov.val]
  go_enter Tryd.func47, Tryd.ntmps47
  go_wp2_with fail
  go_ret
  refine ⟨?_, (by repeat (first | exact Below.refl _ _ | refine Below.alloc ?_ (by simp <;> omega) _))⟩
  simp only [prod, wrap64_al, wrap64_ar, wrap64_sl, wrap64_sr, wrap64_n, wrap64_w, wrap64_ml, wrap64_mr]
  first | done | rfl | (congr 3; grind)
set_option maxHeartbeats 400000 in
theorem step_any (p : Pt) (q : Pt) (w : World) :
    Calls Tryd.prog 52 #[p.val, q.val] w fun e w' => e = .returned ((stepP p q).w.val) ∧ Below w.heap.size w w' := by
  simp only [Pt.val, Lat.val, Mat.val, Mov.val]
  go_enter Tryd.func52, Tryd.ntmps52
  go_wp2_with fail
  refine bodyPost_ret (by simp [results, Tryd.results52, go_sem]; rfl) rfl ⟨?_, (by repeat (first | exact Below.refl _ _ | refine Below.alloc ?_ (by simp <;> omega) _))⟩
  first | done | rfl | (simp only [stepP, Pt.w, Pt.val, wrap64_al, wrap64_ar, wrap64_sl, wrap64_sr, wrap64_n, wrap64_w, wrap64_ml, wrap64_mr]; first | done | rfl | (congr; all_goals grind))
set_option maxHeartbeats 400000 in
theorem rStep_any (p : Pt) (q : Pt) (w : World) :
    Calls Tryd.prog 48 #[p.val, q.val] w fun e w' => e = .returned ((stepP p q).w.val) ∧ Below w.heap.size w w' := by
  simp only [Pt.val, Lat.val, Mat.val, Mov.val]
  go_enter Tryd.func48, Tryd.ntmps48
  go_wp2_with fail
  refine bodyPost_ret (by simp [results, Tryd.results48, go_sem]; rfl) rfl ⟨?_, (by repeat (first | exact Below.refl _ _ | refine Below.alloc ?_ (by simp <;> omega) _))⟩
  first | done | rfl | (simp only [stepP, Pt.w, Pt.val, wrap64_al, wrap64_ar, wrap64_sl, wrap64_sr, wrap64_n, wrap64_w, wrap64_ml, wrap64_mr]; first | done | rfl | (congr; all_goals grind))
set_option maxHeartbeats 400000 in
theorem across_any (s : Pt) (t : Pt) (w : World) :
    Calls Tryd.prog 56 #[s.val, t.val] w fun e w' => e = .returned (.int .i64 (wrap64 (crossP s t))) ∧ Below w.heap.size w w' := by
  simp only [Pt.val, Lat.val, Mat.val, Mov.val]
  go_enter Tryd.func56, Tryd.ntmps56
  go_wp2_with fail
  go_ret
  refine ⟨?_, (by repeat (first | exact Below.refl _ _ | refine Below.alloc ?_ (by simp <;> omega) _))⟩
  simp only [crossP, Int.mul_comm t.x s.y, wrap64_al, wrap64_ar, wrap64_sl, wrap64_sr, wrap64_n, wrap64_w, wrap64_ml, wrap64_mr]
  first | done | rfl | (congr 3; grind)
set_option maxHeartbeats 400000 in
theorem rCross_any (s : Pt) (t : Pt) (w : World) :
    Calls Tryd.prog 58 #[s.val, t.val] w fun e w' => e = .returned (.int .i64 (wrap64 (crossP s t))) ∧ Below w.heap.size w w' := by
  simp only [Pt.val, Lat.val, Mat.val, Mov.val]
  go_enter Tryd.func58, Tryd.ntmps58
  go_wp2_with fail
  go_ret
  refine ⟨?_, (by repeat (first | exact Below.refl _ _ | refine Below.alloc ?_ (by simp <;> omega) _))⟩
  simp only [crossP, wrap64_al, wrap64_ar, wrap64_sl, wrap64_sr, wrap64_n, wrap64_w, wrap64_ml, wrap64_mr]
  first | done | rfl | (congr 3; grind)
set_option maxHeartbeats 400000 in
theorem determinant_any (m : Mat) (w : World) :
    Calls Tryd.prog 76 #[m.val] w fun e w' => e = .returned (.int .i64 (wrap64 m.det)) ∧ Below w.heap.size w w' := by
  simp only [Pt.val, Lat.val, Mat.val, Mov.val]
  go_enter Tryd.func76, Tryd.ntmps76
  go_wp2_with fail
  go_ret
  refine ⟨?_, (by repeat (first | exact Below.refl _ _ | refine Below.alloc ?_ (by simp <;> omega) _))⟩
  simp only [Mat.det, wrap64_al, wrap64_ar, wrap64_sl, wrap64_sr, wrap64_n, wrap64_w, wrap64_ml, wrap64_mr]
  first | done | rfl | (congr 3; grind)
set_option maxHeartbeats 400000 in
theorem rDet_any (l : Lat) (w : World) :
    Calls Tryd.prog 54 #[l.val] w fun e w' => e = .returned (.int .i64 (wrap64 l.det)) ∧ Below w.heap.size w w' := by
  simp only [Pt.val, Lat.val, Mat.val, Mov.val]
  go_enter Tryd.func54, Tryd.ntmps54
  go_wp2_with fail
  go_ret
  refine ⟨?_, (by repeat (first | exact Below.refl _ _ | refine Below.alloc ?_ (by simp <;> omega) _))⟩
  simp only [Lat.det, wrap64_al, wrap64_ar, wrap64_sl, wrap64_sr, wrap64_n, wrap64_w, wrap64_ml, wrap64_mr]
  first | done | rfl | (congr 3; grind)
set_option maxHeartbeats 400000 in
theorem times_any (m : Mat) (n : Mat) (w : World) :
    Calls Tryd.prog 64 #[m.val, n.val] w fun e w' => e = .returned ((m.times n).w.val) ∧ Below w.heap.size w w' := by
  simp only [Pt.val, Lat.val, Mat.val, Mov.val]
  go_enter Tryd.func64, Tryd.ntmps64
  go_wp2_with fail
  refine bodyPost_ret (by simp [results, Tryd.results64, go_sem]; rfl) rfl ⟨?_, (by repeat (first | exact Below.refl _ _ | refine Below.alloc ?_ (by simp <;> omega) _))⟩
  first | done | rfl | (simp only [Mat.times, Mat.w, Mat.val, wrap64_al, wrap64_ar, wrap64_sl, wrap64_sr, wrap64_n, wrap64_w, wrap64_ml, wrap64_mr]; first | done | rfl | (congr; all_goals grind))
set_option maxHeartbeats 400000 in
theorem rTimes_any (m : Mat) (n : Mat) (w : World) :
    Calls Tryd.prog 42 #[m.val, n.val] w fun e w' => e = .returned ((m.times n).w.val) ∧ Below w.heap.size w w' := by
  simp only [Pt.val, Lat.val, Mat.val, Mov.val]
  go_enter Tryd.func42, Tryd.ntmps42
  go_wp2_with fail
  refine bodyPost_ret (by simp [results, Tryd.results42, go_sem]; rfl) rfl ⟨?_, (by repeat (first | exact Below.refl _ _ | refine Below.alloc ?_ (by simp <;> omega) _))⟩
  first | done | rfl | (simp only [Mat.times, Mat.w, Mat.val, wrap64_al, wrap64_ar, wrap64_sl, wrap64_sr, wrap64_n, wrap64_w, wrap64_ml, wrap64_mr]; first | done | rfl | (congr; all_goals grind))
set_option maxHeartbeats 400000 in
theorem applied_any (m : Mov) (p : Pt) (w : World) :
    Calls Tryd.prog 72 #[m.val, p.val] w fun e w' => e = .returned ((appl m p).w.val) ∧ Below w.heap.size w w' := by
  simp only [Pt.val, Lat.val, Mat.val, Mov.val]
  go_enter Tryd.func72, Tryd.ntmps72
  go_wp2_with fail
  refine bodyPost_ret (by simp [results, Tryd.results72, go_sem]; rfl) rfl ⟨?_, (by repeat (first | exact Below.refl _ _ | refine Below.alloc ?_ (by simp <;> omega) _))⟩
  first | done | rfl | (simp only [appl, Pt.w, Pt.val, wrap64_al, wrap64_ar, wrap64_sl, wrap64_sr, wrap64_n, wrap64_w, wrap64_ml, wrap64_mr]; first | done | rfl | (congr; all_goals grind))
set_option maxHeartbeats 400000 in
theorem rImage_any (m : Mat) (p : Pt) (w : World) :
    Calls Tryd.prog 77 #[m.val, p.val] w fun e w' => e = .returned ((image m p).w.val) ∧ Below w.heap.size w w' := by
  simp only [Pt.val, Lat.val, Mat.val, Mov.val]
  go_enter Tryd.func77, Tryd.ntmps77
  go_wp2_with fail
  refine bodyPost_ret (by simp [results, Tryd.results77, go_sem]; rfl) rfl ⟨?_, (by repeat (first | exact Below.refl _ _ | refine Below.alloc ?_ (by simp <;> omega) _))⟩
  first | done | rfl | (simp only [image, Pt.w, Pt.val, wrap64_al, wrap64_ar, wrap64_sl, wrap64_sr, wrap64_n, wrap64_w, wrap64_ml, wrap64_mr]; first | done | rfl | (congr; all_goals grind))
set_option maxHeartbeats 400000 in
theorem lMat_any (a : Int) (b : Int) (c : Int) (d : Int) (w : World) :
    Calls Tryd.prog 44 #[.int .i64 a, .int .i64 b, .int .i64 c, .int .i64 d] w fun e w' => e = .returned (Mat.val ⟨a, b, c, d⟩) ∧ Below w.heap.size w w' := by
  go_enter Tryd.func44, Tryd.ntmps44
  go_wp2_with fail
  refine bodyPost_ret (by simp [results, Tryd.results44, go_sem]; rfl) rfl ⟨?_, (by repeat (first | exact Below.refl _ _ | refine Below.alloc ?_ (by simp <;> omega) _))⟩
  first | done | rfl | (simp only [Mat.val, wrap64_al, wrap64_ar, wrap64_sl, wrap64_sr, wrap64_n, wrap64_w, wrap64_ml, wrap64_mr]; first | done | rfl | (congr; all_goals grind))
set_option maxHeartbeats 400000 in
theorem lPt_any (a : Int) (b : Int) (w : World) :
    Calls Tryd.prog 45 #[.int .i64 a, .int .i64 b] w fun e w' => e = .returned (Pt.val ⟨a, b⟩) ∧ Below w.heap.size w w' := by
  go_enter Tryd.func45, Tryd.ntmps45
  go_wp2_with fail
  refine bodyPost_ret (by simp [results, Tryd.results45, go_sem]; rfl) rfl ⟨?_, (by repeat (first | exact Below.refl _ _ | refine Below.alloc ?_ (by simp <;> omega) _))⟩
  first | done | rfl | (simp only [Pt.val, wrap64_al, wrap64_ar, wrap64_sl, wrap64_sr, wrap64_n, wrap64_w, wrap64_ml, wrap64_mr]; first | done | rfl | (congr; all_goals grind))
end Go.Proofs.YtehpgmhilcoalaaDoor
