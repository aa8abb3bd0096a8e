/- The law of least orders and levels. -/
import Derived.Test.YtpgipepnnnocgaaTLE
import Derived.Test.YtpgipepnnnocgaaTLC
import Derived.Test.YtpgipepnnnocgaaTW
namespace Go.Proofs.Ytpgipepnnnocgaa
open Go.RowKit Go.Shelf Go.Lib
set_option maxRecDepth 100000
set_option linter.unusedSimpArgs false
attribute [local irreducible] wpQuiet
theorem lsV_len (s : Sh) : (lsV s).length ≤ 200000 := by
  unfold lsV
  split
  · rename_i h
    rw [LI_len, (leastTo_clo s.ws s.ws.length (Nat.le_refl _)).1]
    have := (chk_small h).2.2.1
    omega
  · simp
theorem lvV_len2 (s : Sh) : (lvV s).length ≤ 200000 := by
  unfold lvV
  split
  · rename_i h
    rw [LI_len, lvL_len]
    have := (chk_small h).2.2.1
    omega
  · simp
set_option maxHeartbeats 8000000 in
theorem least_law (a : Sh) (u : Value) (w : World) (hu : WS w u a.ws) :
    Calls Try.prog 4 #[.agg #[.int .i64 a.pr, u]] w fun e w' => e = .returned (.bool true) ∧ Below w.heap.size w w' := by
  have HU := Lib.hid hu
  obtain ⟨ua, uc, rfl, k1, k2, _⟩ := id hu
  have CA := Lib.hid (fun W => awake_any W)
  have F1 := Lib.hid (fun W h => far_any a 80 (.slice ua a.ws.length uc) W h)
  have C1 := Lib.hid (fun W h => Least_any a (.slice ua a.ws.length uc) W h)
  have C2 := Lib.hid (fun W h => refLeast_any a (.slice ua a.ws.length uc) W h)
  have C3 := Lib.hid (fun W h => Levels_any a (.agg #[.int .i64 a.pr, .slice ua a.ws.length uc]) W ⟨_, rfl, h⟩)
  have C4 := Lib.hid (fun W h => refLevels_any a (.agg #[.int .i64 a.pr, .slice ua a.ws.length uc]) W ⟨_, rfl, h⟩)
  have HML := Lib.hid (lsV_len a)
  have HNL := Lib.hid (lvV_len2 a)
  generalize lsV a = ml at *
  generalize lvV a = nl at *
  generalize chkS a = me at *
  generalize farB a 80 = fa at *
  clear hu
  go_enter Try.func4, Try.ntmps4
  go_wp2_with fail
  have B0 := below_alloc w (.cells #[.int .i64 a.pr, .slice ua a.ws.length uc] 24)
  have h0 := heap_alloc_new w (.cells #[.int .i64 a.pr, .slice ua a.ws.length uc] 24)
  have hz0 : w.heap.size + 1 ≤ (w.alloc (.cells #[.int .i64 a.pr, .slice ua a.ws.length uc] 24)).heap.size := by simp
  generalize w.alloc (.cells #[.int .i64 a.pr, .slice ua a.ws.length uc] 24) = W0 at *
  refine (F1.out W0 (HU.out.below B0)).mono ?_
  rintro e w1 ⟨rfl, b1⟩
  have H1 := Lib.hid (hb_below b1 h0 (by omega))
  have HB1 := Lib.hid (bon B0 b1)
  have hz1 : w.heap.size + 1 ≤ w1.heap.size := Nat.le_trans hz0 b1.size
  try clear ca0 ca1
  have ca0 : w1.cell? ⟨w.heap.size, 0, none⟩ = some (.int .i64 a.pr) := cell_of_row w1 _ 0 _ _ _ H1.out
  have ca1 : w1.cell? ⟨w.heap.size, 1, none⟩ = some (.slice ua a.ws.length uc) := cell_of_row w1 _ 1 _ _ _ H1.out
  clear b1 B0 h0 hz0
  cases fa
  · go_wp2_with fail
    refine (C1.out w1 (HU.out.below HB1.out)).mono ?_
    rintro e w2 ⟨v2, rfl, i2, b2⟩
    have I2 := Lib.hid i2
    obtain ⟨a2, c2, rfl, _⟩ := i2
    have H2 := Lib.hid (hb_below b2 H1.out (by omega))
    have HB2 := Lib.hid (bon HB1.out b2)
    have hz2 : w.heap.size + 1 ≤ w2.heap.size := Nat.le_trans hz1 b2.size
    try clear ca0 ca1
    have ca0 : w2.cell? ⟨w.heap.size, 0, none⟩ = some (.int .i64 a.pr) := cell_of_row w2 _ 0 _ _ _ H2.out
    have ca1 : w2.cell? ⟨w.heap.size, 1, none⟩ = some (.slice ua a.ws.length uc) := cell_of_row w2 _ 1 _ _ _ H2.out
    clear b2
    go_wp2_with fail
    refine (C2.out w2 (HU.out.below HB2.out)).mono ?_
    rintro e w3 ⟨v3, rfl, i3, b3⟩
    have I23 := Lib.hid (I2.out.below b3)
    have I3 := Lib.hid i3
    obtain ⟨a3, c3, rfl, _⟩ := i3
    have H3 := Lib.hid (hb_below b3 H2.out (by omega))
    have HB3 := Lib.hid (bon HB2.out b3)
    have hz3 : w.heap.size + 1 ≤ w3.heap.size := Nat.le_trans hz2 b3.size
    try clear ca0 ca1
    have ca0 : w3.cell? ⟨w.heap.size, 0, none⟩ = some (.int .i64 a.pr) := cell_of_row w3 _ 0 _ _ _ H3.out
    have ca1 : w3.cell? ⟨w.heap.size, 1, none⟩ = some (.slice ua a.ws.length uc) := cell_of_row w3 _ 1 _ _ _ H3.out
    clear b3
    go_wp2_with fail
    refine (C3.out w3 (HU.out.below HB3.out)).mono ?_
    rintro e w4 ⟨v4, rfl, i4, b4⟩
    have I24 := Lib.hid (I23.out.below b4)
    have I34 := Lib.hid (I3.out.below b4)
    have I4 := Lib.hid i4
    obtain ⟨a4, c4, rfl, _⟩ := i4
    have H4 := Lib.hid (hb_below b4 H3.out (by omega))
    have HB4 := Lib.hid (bon HB3.out b4)
    have hz4 : w.heap.size + 1 ≤ w4.heap.size := Nat.le_trans hz3 b4.size
    try clear ca0 ca1
    have ca0 : w4.cell? ⟨w.heap.size, 0, none⟩ = some (.int .i64 a.pr) := cell_of_row w4 _ 0 _ _ _ H4.out
    have ca1 : w4.cell? ⟨w.heap.size, 1, none⟩ = some (.slice ua a.ws.length uc) := cell_of_row w4 _ 1 _ _ _ H4.out
    clear b4
    go_wp2_with fail
    refine (C4.out w4 (HU.out.below HB4.out)).mono ?_
    rintro e w5 ⟨v5, rfl, i5, b5⟩
    have I25 := Lib.hid (I24.out.below b5)
    have I35 := Lib.hid (I34.out.below b5)
    have I45 := Lib.hid (I4.out.below b5)
    have I5 := Lib.hid i5
    obtain ⟨a5, c5, rfl, _⟩ := i5
    have HB5 := Lib.hid (bon HB4.out b5)
    clear b5
    go_wp2_with fail
    refine (sameI_yes ml _ _ w5 I25.out I35.out HML.out).mono ?_
    rintro e w6 ⟨rfl, b6⟩
    have I46 := Lib.hid (I45.out.below b6)
    have I56 := Lib.hid (I5.out.below b6)
    have HB6 := Lib.hid (bon HB5.out b6)
    clear b6
    go_wp2_with fail
    refine (sameI_yes nl _ _ w6 I46.out I56.out HNL.out).mono ?_
    rintro e w7 ⟨rfl, b7⟩
    have HB7 := Lib.hid (bon HB6.out b7)
    clear b7
    go_wp2_with fail
    refine (CA.out w7).mono ?_
    rintro e w8 ⟨rfl, b8⟩
    have HB8 := Lib.hid (bon HB7.out b8)
    clear b8
    go_wp2_with fail
    go_ret
    exact ⟨rfl, HB8.out⟩
  · go_wp2_with fail
    refine (CA.out w1).mono ?_
    rintro e w2 ⟨rfl, b2⟩
    have HB2 := Lib.hid (bon HB1.out b2)
    clear b2
    go_wp2_with fail
    go_ret
    exact ⟨rfl, HB2.out⟩
theorem least_row (a : Sh) (v0 : Value) (w : World) (h0 : SV w v0 a) (_ : (Lit.int .i64 a.pr).wf = true) : Calls Try.prog 4 #[v0] w fun e w' => e = .returned (.bool true) ∧ Below w.heap.size w w' := by
  obtain ⟨u, rfl, hu⟩ := h0
  exact least_law a u w hu
end Go.Proofs.Ytpgipepnnnocgaa
