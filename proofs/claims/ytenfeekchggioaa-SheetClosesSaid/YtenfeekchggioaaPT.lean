/- The law of chains. -/
import Derived.Test.YtenfeekchggioaaPS
import Derived.Test.YtenfeekchggioaaOL
namespace Go.Proofs.Ytenfeekchggioaa
open Go.RowKit Go.Shelf
set_option linter.unusedSimpArgs false
attribute [local irreducible] wpQuiet
theorem chainV_len (s : Sh) (a b : Int) : (chainV s a b).length ≤ 1000 := by
  unfold chainV
  by_cases h : chainE s a b = 0
  · rw [if_pos h]
    obtain ⟨h1, h2, h3⟩ := chainE_zero h
    have hw := (chk_small h1).2.2.1
    by_cases hab : a.toNat < b.toNat
    · rcases chainL_cases (W := s.ws) (a := a.toNat) (b := b.toNat) hab (by omega) with ⟨_, e⟩ | ⟨c, hc, e⟩
      · rw [e]; simp
      · rw [e, List.length_map, List.length_reverse]
        have := hc.1.bound
        rw [hc.2.1] at this
        omega
    · unfold chainL
      rw [chainR_none (by omega)]
      simp
  · rw [if_neg h]; simp
theorem Before_v (s : Sh) (v : Value) (a b : Int) (w : World) (hv : SV w v s) :
    Calls Try.prog 22 #[v, .int .i64 a, .int .i64 b] w fun e w' => e = .returned (.tuple #[.bool (befV s a b), .int .i64 (chainE s a b)]) ∧ Below w.heap.size w w' := by
  rw [← bef_eq]
  exact Before_any s v a b w hv
set_option maxRecDepth 100000 in
set_option maxHeartbeats 8000000 in
theorem chains_row (s : Sh) (a b : Int) (v : Value) (w : World) (hv : SV w v s) (_ : (Lit.int .i64 s.pr).wf = true) (_ : (Lit.int .i64 a).wf = true) (_ : (Lit.int .i64 b).wf = true) : Calls Try.prog 5 #[v, .int .i64 a, .int .i64 b] w fun e w' => e = .returned (.bool true) ∧ Below w.heap.size w w' := by
  have HV := Lib.hid hv
  obtain ⟨u, rfl, hu⟩ := hv
  obtain ⟨ua, uc, rfl, _⟩ := id hu
  have CF := Lib.hid (fun W h => Far_any s (.agg #[.int .i64 s.pr, .slice ua s.ws.length uc]) W h)
  have CS := Lib.hid (fun W => shown_any W)
  have C1 := Lib.hid (fun W h => Before_v s (.agg #[.int .i64 s.pr, .slice ua s.ws.length uc]) a b W h)
  have C2 := Lib.hid (fun W h => refBefore_any s (.agg #[.int .i64 s.pr, .slice ua s.ws.length uc]) a b W h)
  have C3 := Lib.hid (fun W h => Chain_any s (.agg #[.int .i64 s.pr, .slice ua s.ws.length uc]) a b W h)
  have C4 := Lib.hid (fun W h => refChain_any s (.agg #[.int .i64 s.pr, .slice ua s.ws.length uc]) a b W h)
  have HLL := Lib.hid (chainV_len s a b)
  generalize chainV s a b = cv at *
  generalize befV s a b = bv at *
  generalize chainE2 s a b = c2 at *
  generalize chainE s a b = ce at *
  have h1e : (ce == ce) = true := beq_self_eq_true ce
  have h2e : (c2 == c2) = true := beq_self_eq_true c2
  clear hu
  go_enter Try.func5, Try.ntmps5
  go_wp2_with fail
  have h0 := heap_alloc_new w (.cells #[.int .i64 s.pr, .slice ua s.ws.length uc] 24)
  have b0 := below_alloc w (.cells #[.int .i64 s.pr, .slice ua s.ws.length uc] 24)
  have z0 : (w.alloc (.cells #[.int .i64 s.pr, .slice ua s.ws.length uc] 24)).heap.size = w.heap.size + 1 := by simp
  generalize w.alloc (.cells #[.int .i64 s.pr, .slice ua s.ws.length uc] 24) = w0 at *
  refine (CF.out w0 (HV.out.below b0)).mono ?_
  rintro e w1 ⟨rfl, b1⟩
  have H1 := Lib.hid ((b1.block _ (by omega)).trans h0)
  have HB1 := Lib.hid (bon b0 b1)
  have HZ1 := Lib.hid (show w.heap.size + 1 ≤ w1.heap.size by have := b1.size; omega)
  clear h0 b0 z0 b1 CF
  by_cases hf : farB s = true
  · rw [hf]
    clear hf
    go_wp2_with fail
    refine (CS.out _).mono ?_
    rintro e w2 ⟨rfl, b2⟩
    have HB2 := Lib.hid (bon HB1.out b2)
    clear b2
    go_wp2_with fail
    go_ret
    exact ⟨rfl, HB2.out⟩
  have hf' : farB s = false := by simpa using hf
  rw [hf']
  clear hf hf'
  have g0 : w1.cell? ⟨w.heap.size, 0, none⟩ = some (.int .i64 s.pr) := cell_of_row w1 _ 0 _ _ _ H1.out
  have g1 : w1.cell? ⟨w.heap.size, 1, none⟩ = some (.slice ua s.ws.length uc) := cell_of_row w1 _ 1 _ _ _ H1.out
  go_wp2_with fail
  refine (C1.out w1 (HV.out.below HB1.out)).mono ?_
  rintro e w2 ⟨rfl, b2⟩
  have H2 := Lib.hid ((b2.block _ (by have := HZ1.out; omega)).trans H1.out)
  have HB2 := Lib.hid (bon HB1.out b2)
  have HZ2 := Lib.hid (Nat.le_trans HZ1.out b2.size)
  clear b2 g0 g1
  have g0 : w2.cell? ⟨w.heap.size, 0, none⟩ = some (.int .i64 s.pr) := cell_of_row w2 _ 0 _ _ _ H2.out
  have g1 : w2.cell? ⟨w.heap.size, 1, none⟩ = some (.slice ua s.ws.length uc) := cell_of_row w2 _ 1 _ _ _ H2.out
  go_wp2_with fail
  refine (C2.out w2 (HV.out.below HB2.out)).mono ?_
  rintro e w3 ⟨rfl, b2⟩
  have H3 := Lib.hid ((b2.block _ (by have := HZ2.out; omega)).trans H2.out)
  have HB3 := Lib.hid (bon HB2.out b2)
  have HZ3 := Lib.hid (Nat.le_trans HZ2.out b2.size)
  clear b2 g0 g1
  have g0 : w3.cell? ⟨w.heap.size, 0, none⟩ = some (.int .i64 s.pr) := cell_of_row w3 _ 0 _ _ _ H3.out
  have g1 : w3.cell? ⟨w.heap.size, 1, none⟩ = some (.slice ua s.ws.length uc) := cell_of_row w3 _ 1 _ _ _ H3.out
  go_wp2_with fail
  refine (C3.out w3 (HV.out.below HB3.out)).mono ?_
  rintro e w4 ⟨u3, rfl, hi, b2⟩
  have E3 := Lib.hid hi
  obtain ⟨x3, y3, rfl, _, _, _, _⟩ := hi
  have H4 := Lib.hid ((b2.block _ (by have := HZ3.out; omega)).trans H3.out)
  have HB4 := Lib.hid (bon HB3.out b2)
  have HZ4 := Lib.hid (Nat.le_trans HZ3.out b2.size)
  clear b2 g0 g1
  have g0 : w4.cell? ⟨w.heap.size, 0, none⟩ = some (.int .i64 s.pr) := cell_of_row w4 _ 0 _ _ _ H4.out
  have g1 : w4.cell? ⟨w.heap.size, 1, none⟩ = some (.slice ua s.ws.length uc) := cell_of_row w4 _ 1 _ _ _ H4.out
  go_wp2_with fail
  refine (C4.out w4 (HV.out.below HB4.out)).mono ?_
  rintro e w5 ⟨u4, rfl, hi, b2⟩
  have E4 := Lib.hid hi
  replace E3 := Lib.hid (E3.out.below b2)
  obtain ⟨x4, y4, rfl, _, _, _, _⟩ := hi
  have H5 := Lib.hid ((b2.block _ (by have := HZ4.out; omega)).trans H4.out)
  have HB5 := Lib.hid (bon HB4.out b2)
  have HZ5 := Lib.hid (Nat.le_trans HZ4.out b2.size)
  clear b2 g0 g1
  cases bv
  all_goals
    go_wp2_with fail
    refine (sameI_yes cv _ _ _ E3.out E4.out (Nat.le_trans HLL.out (by decide))).mono ?_
    rintro e w6 ⟨rfl, b6⟩
    have HB6 := Lib.hid (bon HB5.out b6)
    clear b6
    go_wp2_with fail
    refine (CS.out _).mono ?_
    rintro e w8 ⟨rfl, b8⟩
    have HB8 := Lib.hid (bon HB6.out b8)
    clear b8
    go_wp2_with fail
    go_ret
    exact ⟨rfl, HB8.out⟩
end Go.Proofs.Ytenfeekchggioaa
