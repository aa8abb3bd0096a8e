/- Before, Chain. -/
import Derived.Test.YtenfeekchggioaaOC
namespace Go.Proofs.Ytenfeekchggioaa
open Go.RowKit Go.Shelf Go.Lib
set_option linter.unusedSimpArgs false
set_option maxRecDepth 100000 in
set_option maxHeartbeats 4000000 in
theorem Before_any (s : Sh) (v : Value) (a b : Int) (w : World) (hv : SV w v s) :
    Calls Try.prog 22 #[v, .int .i64 a, .int .i64 b] w fun e w' => e = .returned (.tuple #[.bool (decide (0 < (chainV s a b).length)), .int .i64 (chainE s a b)]) ∧ Below w.heap.size w w' := by
  have HV := Lib.hid hv
  obtain ⟨u, rfl, hu⟩ := hv
  have CC := Lib.hid (fun W h => chain_any s (.agg #[.int .i64 s.pr, u]) a b W h)
  generalize chainE s a b = ce at *
  generalize chainV s a b = cv at *
  clear hu
  go_enter Try.func22, Try.ntmps22
  go_wp2_with fail
  have B0 := below_alloc w (.cells #[.int .i64 s.pr, u] 24)
  generalize w.alloc (.cells #[.int .i64 s.pr, u] 24) = W0 at *
  refine (CC.out W0 (HV.out.below B0)).mono ?_
  rintro e w1 ⟨v1, rfl, hv1, b1⟩
  have HB := Lib.hid (bon B0 b1)
  have HI := Lib.hid hv1
  obtain ⟨sa, sc, rfl, q1, q2, _, _⟩ := hv1
  clear B0 b1
  by_cases h : 0 < cv.length
  · have h' : (0 : Int) < (cv.length : Int) := by omega
    have HH := Lib.hid (decide_eq_true h)
    clear h
    go_wp2_with fail
    go_ret2
    rw [HH.out]
    exact ⟨rfl, HB.out⟩
  · have h' : ¬ (0 : Int) < (cv.length : Int) := by omega
    have HH := Lib.hid (decide_eq_false h)
    clear h
    go_wp2_with fail
    go_ret2
    rw [HH.out]
    exact ⟨rfl, HB.out⟩
def chainE2 (s : Sh) (a b : Int) : Int := if chainE s a b = 0 ∧ (chainV s a b).length = 0 then 4 else chainE s a b
set_option maxRecDepth 100000 in
set_option maxHeartbeats 4000000 in
theorem Chain_any (s : Sh) (v : Value) (a b : Int) (w : World) (hv : SV w v s) :
    Calls Try.prog 24 #[v, .int .i64 a, .int .i64 b] w fun e w' => ∃ u, e = .returned (.tuple #[u, .int .i64 (chainE2 s a b)]) ∧ IS w' u (chainV s a b) ∧ Below w.heap.size w w' := by
  have HDE := Lib.hid (show chainE2 s a b = if chainE s a b = 0 ∧ (chainV s a b).length = 0 then 4 else chainE s a b from rfl)
  generalize chainE2 s a b = c2 at *
  have HV := Lib.hid hv
  obtain ⟨u, rfl, hu⟩ := hv
  have CC := Lib.hid (fun W h => chain_any s (.agg #[.int .i64 s.pr, u]) a b W h)
  generalize chainE s a b = ce at *
  generalize chainV s a b = cv at *
  clear hu
  go_enter Try.func24, Try.ntmps24
  go_wp2_with fail
  have B0 := below_alloc w (.cells #[.int .i64 s.pr, u] 24)
  generalize w.alloc (.cells #[.int .i64 s.pr, u] 24) = W0 at *
  refine (CC.out W0 (HV.out.below B0)).mono ?_
  rintro e w1 ⟨v1, rfl, hv1, b1⟩
  have HB := Lib.hid (bon B0 b1)
  have HI := Lib.hid hv1
  obtain ⟨sa, sc, rfl, q1, q2, _, _⟩ := hv1
  clear B0 b1
  by_cases h : ce = 0
  · by_cases h2 : cv.length = 0
    · have e : c2 = 4 := by rw [HDE.out, if_pos ⟨h, h2⟩]
      have e2 : cv = [] := List.eq_nil_of_length_eq_zero h2
      subst e h
      subst e2
      go_wp2_with fail
      go_ret2
      exact ⟨_, rfl, is_nil _, HB.out⟩
    · have e : c2 = 0 := by rw [HDE.out, if_neg (fun x => h2 x.2), h]
      have h3 : ((cv.length : Int) == 0) = false := by rw [beq_eq_false_iff_ne]; omega
      subst e h
      have HH := Lib.hid h2
      clear h2
      go_wp2_with fail
      go_ret2
      exact ⟨_, rfl, HI.out, HB.out⟩
  · have e : c2 = ce := by rw [HDE.out, if_neg (fun x => h x.1)]
    have h3 : (ce == 0) = false := by rw [beq_eq_false_iff_ne]; exact h
    subst e
    have HH := Lib.hid h
    clear h
    go_wp2_with fail
    go_ret2
    exact ⟨_, rfl, HI.out, HB.out⟩
end Go.Proofs.Ytenfeekchggioaa
