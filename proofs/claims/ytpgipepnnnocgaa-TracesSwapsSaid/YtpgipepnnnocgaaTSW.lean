/- The law of exchanges. -/
import Derived.Test.YtpgipepnnnocgaaTZ
namespace Go.Proofs.Ytpgipepnnnocgaa
open Go.RowKit Go.Shelf Go.Lib
set_option maxRecDepth 100000
set_option linter.unusedSimpArgs false
attribute [local irreducible] wpQuiet
theorem swGo_len2 (t : List Int) : (swOut t).getD [] = [] ∨ ((swOut t).getD []).length ≤ 5001 := by
  right
  unfold swOut
  split
  · simp
  · rw [Option.getD_some]
    exact (swGo_len t 5001).2
theorem swV_len (a b : Sh) : (swV a b).length ≤ 200000 := by
  unfold swV
  split
  · rw [LI_len]
    rcases swGo_len2 (matchL b a) with h | h
    · rw [h]; simp
    · omega
  · simp
set_option maxHeartbeats 8000000 in
theorem swaps_law (a b : Sh) (u v : Value) (w : World) (hu : WS w u a.ws) (hv : WS w v b.ws) :
    Calls Try.prog 5 #[.agg #[.int .i64 a.pr, u], .agg #[.int .i64 b.pr, v]] w fun e w' => e = .returned (.bool true) ∧ Below w.heap.size w w' := by
  have HU := Lib.hid hu
  have HV := Lib.hid hv
  obtain ⟨ua, uc, rfl, k1, k2, _⟩ := id hu
  obtain ⟨va, vc, rfl, k3, k4, _⟩ := id hv
  have CA := Lib.hid (fun W => awake_any W)
  have F1 := Lib.hid (fun W h => far_any a 110 (.slice ua a.ws.length uc) W h)
  have F2 := Lib.hid (fun W h => far_any b 110 (.slice va b.ws.length vc) W h)
  have C1 := Lib.hid (fun W h1 h2 => Swaps_any a b (.slice ua a.ws.length uc) (.slice va b.ws.length vc) W h1 h2)
  have C2 := Lib.hid (fun W h1 h2 => refSwaps_any a b (.slice ua a.ws.length uc) (.slice va b.ws.length vc) W h1 h2)
  have HML := Lib.hid (swV_len a b)
  generalize swV a b = ml at *
  generalize swE a b = me at *
  generalize farB a 110 = fa at *
  generalize farB b 110 = fb at *
  clear hu hv
  go_enter Try.func5, Try.ntmps5
  go_wp2_with fail
  have B0 : Below w.heap.size w ((w.alloc (.cells #[.int .i64 a.pr, .slice ua a.ws.length uc] 24)).alloc (.cells #[.int .i64 b.pr, .slice va b.ws.length vc] 24)) := (below_alloc _ _).alloc (by simp) _
  have h0 := heap_alloc2_old w (.cells #[.int .i64 a.pr, .slice ua a.ws.length uc] 24) (.cells #[.int .i64 b.pr, .slice va b.ws.length vc] 24)
  have h1 := heap_alloc2_new w (.cells #[.int .i64 a.pr, .slice ua a.ws.length uc] 24) (.cells #[.int .i64 b.pr, .slice va b.ws.length vc] 24)
  have hz0 : w.heap.size + 2 ≤ ((w.alloc (.cells #[.int .i64 a.pr, .slice ua a.ws.length uc] 24)).alloc (.cells #[.int .i64 b.pr, .slice va b.ws.length vc] 24)).heap.size := by simp
  generalize (w.alloc (.cells #[.int .i64 a.pr, .slice ua a.ws.length uc] 24)).alloc (.cells #[.int .i64 b.pr, .slice va b.ws.length vc] 24) = W0 at *
  refine (F1.out W0 (HU.out.below B0)).mono ?_
  rintro e w1 ⟨rfl, b1⟩
  have H01 := Lib.hid (hb_below b1 h0 (by omega))
  have H11 := Lib.hid (hb_below b1 h1 (by omega))
  have HB1 := Lib.hid (bon B0 b1)
  have hz1 : w.heap.size + 2 ≤ w1.heap.size := Nat.le_trans hz0 b1.size
  try clear ca0 ca1 cb0 cb1
  have ca0 : w1.cell? ⟨w.heap.size, 0, none⟩ = some (.int .i64 a.pr) := cell_of_row w1 _ 0 _ _ _ H01.out
  have ca1 : w1.cell? ⟨w.heap.size, 1, none⟩ = some (.slice ua a.ws.length uc) := cell_of_row w1 _ 1 _ _ _ H01.out
  have cb0 : w1.cell? ⟨w.heap.size + 1, 0, none⟩ = some (.int .i64 b.pr) := cell_of_row w1 _ 0 _ _ _ H11.out
  have cb1 : w1.cell? ⟨w.heap.size + 1, 1, none⟩ = some (.slice va b.ws.length vc) := cell_of_row w1 _ 1 _ _ _ H11.out
  clear b1
  cases fa
  · go_wp2_with fail
    refine (F2.out w1 (HV.out.below HB1.out)).mono ?_
    rintro e w2 ⟨rfl, b2⟩
    have H02 := Lib.hid (hb_below b2 H01.out (by omega))
    have H12 := Lib.hid (hb_below b2 H11.out (by omega))
    have HB2 := Lib.hid (bon HB1.out b2)
    have hz2 : w.heap.size + 2 ≤ w2.heap.size := Nat.le_trans hz1 b2.size
    try clear ca0 ca1 cb0 cb1
    have ca0 : w2.cell? ⟨w.heap.size, 0, none⟩ = some (.int .i64 a.pr) := cell_of_row w2 _ 0 _ _ _ H02.out
    have ca1 : w2.cell? ⟨w.heap.size, 1, none⟩ = some (.slice ua a.ws.length uc) := cell_of_row w2 _ 1 _ _ _ H02.out
    have cb0 : w2.cell? ⟨w.heap.size + 1, 0, none⟩ = some (.int .i64 b.pr) := cell_of_row w2 _ 0 _ _ _ H12.out
    have cb1 : w2.cell? ⟨w.heap.size + 1, 1, none⟩ = some (.slice va b.ws.length vc) := cell_of_row w2 _ 1 _ _ _ H12.out
    clear b2
    cases fb
    · go_wp2_with fail
      refine (C1.out w2 (HU.out.below HB2.out) (HV.out.below HB2.out)).mono ?_
      rintro e w3 ⟨lv, rfl, how, b3⟩
      have I5 := Lib.hid how
      obtain ⟨la, lc, rfl, _⟩ := how
      have H03 := Lib.hid (hb_below b3 H02.out (by omega))
      have H13 := Lib.hid (hb_below b3 H12.out (by omega))
      have HB3 := Lib.hid (bon HB2.out b3)
      have hz3 : w.heap.size + 2 ≤ w3.heap.size := Nat.le_trans hz2 b3.size
      try clear ca0 ca1 cb0 cb1
      have ca0 : w3.cell? ⟨w.heap.size, 0, none⟩ = some (.int .i64 a.pr) := cell_of_row w3 _ 0 _ _ _ H03.out
      have ca1 : w3.cell? ⟨w.heap.size, 1, none⟩ = some (.slice ua a.ws.length uc) := cell_of_row w3 _ 1 _ _ _ H03.out
      have cb0 : w3.cell? ⟨w.heap.size + 1, 0, none⟩ = some (.int .i64 b.pr) := cell_of_row w3 _ 0 _ _ _ H13.out
      have cb1 : w3.cell? ⟨w.heap.size + 1, 1, none⟩ = some (.slice va b.ws.length vc) := cell_of_row w3 _ 1 _ _ _ H13.out
      clear b3
      go_wp2_with fail
      refine (C2.out w3 (HU.out.below HB3.out) (HV.out.below HB3.out)).mono ?_
      rintro e w4 ⟨mv, rfl, him, b4⟩
      have I6 := Lib.hid him
      have I56 := Lib.hid (I5.out.below b4)
      obtain ⟨mma, mmc, rfl, _⟩ := him
      have H04 := Lib.hid (hb_below b4 H03.out (by omega))
      have H14 := Lib.hid (hb_below b4 H13.out (by omega))
      have HB4 := Lib.hid (bon HB3.out b4)
      have hz4 : w.heap.size + 2 ≤ w4.heap.size := Nat.le_trans hz3 b4.size
      try clear ca0 ca1 cb0 cb1
      have ca0 : w4.cell? ⟨w.heap.size, 0, none⟩ = some (.int .i64 a.pr) := cell_of_row w4 _ 0 _ _ _ H04.out
      have ca1 : w4.cell? ⟨w.heap.size, 1, none⟩ = some (.slice ua a.ws.length uc) := cell_of_row w4 _ 1 _ _ _ H04.out
      have cb0 : w4.cell? ⟨w.heap.size + 1, 0, none⟩ = some (.int .i64 b.pr) := cell_of_row w4 _ 0 _ _ _ H14.out
      have cb1 : w4.cell? ⟨w.heap.size + 1, 1, none⟩ = some (.slice va b.ws.length vc) := cell_of_row w4 _ 1 _ _ _ H14.out
      clear b4
      go_wp2_with fail
      refine (sameI_yes ml _ _ w4 I56.out I6.out HML.out).mono ?_
      rintro e w7 ⟨rfl, b7⟩
      have HB7 := Lib.hid (bon HB4.out b7)
      clear b7
      go_wp2_with fail
      refine (CA.out w7).mono ?_
      rintro e w8 ⟨rfl, b8⟩
      have HB8 := Lib.hid (bon HB7.out b8)
      clear b8
      go_wp2_with fail
      go_ret
      exact ⟨rfl, HB8.out⟩
    · go_wp2_with fail
      refine (CA.out w2).mono ?_
      rintro e w3 ⟨rfl, b3⟩
      have HB3 := Lib.hid (bon HB2.out b3)
      clear b3
      go_wp2_with fail
      go_ret
      exact ⟨rfl, HB3.out⟩
  · go_wp2_with fail
    refine (CA.out w1).mono ?_
    rintro e w2 ⟨rfl, b2⟩
    have HB2 := Lib.hid (bon HB1.out b2)
    clear b2
    go_wp2_with fail
    go_ret
    exact ⟨rfl, HB2.out⟩
theorem swaps_row (a b : Sh) (v0 v1 : Value) (w : World) (h0 : SV w v0 a) (_ : (Lit.int .i64 a.pr).wf = true) (h1 : SV w v1 b) (_ : (Lit.int .i64 b.pr).wf = true) : Calls Try.prog 5 #[v0, v1] w fun e w' => e = .returned (.bool true) ∧ Below w.heap.size w w' := by
  obtain ⟨u, rfl, hu⟩ := h0
  obtain ⟨v, rfl, hv⟩ := h1
  exact swaps_law a b u v w hu hv
end Go.Proofs.Ytpgipepnnnocgaa
