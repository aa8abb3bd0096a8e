/- The reference's two, Before. -/
import Derived.Test.YtenfeekchggioaaPB
import Derived.Test.YtenfeekchggioaaPA
import Derived.Test.YtenfeekchggioaaON
import Derived.Test.YtenfeekchggioaaOD
namespace Go.Proofs.Ytenfeekchggioaa
open Go.RowKit Go.Shelf
set_option linter.unusedSimpArgs false
attribute [local irreducible] wpQuiet
theorem chainE_err {s : Sh} {a b : Int} (h : chkS s ≠ 0) : chainE s a b = chkS s := by unfold chainE; rw [if_pos h]
theorem chainE_ok {s : Sh} {a b : Int} (h : chkS s = 0) (h2 : (0 ≤ a ∧ a < (s.ws.length : Int)) ∧ (0 ≤ b ∧ b < (s.ws.length : Int))) : chainE s a b = 0 := by unfold chainE; rw [if_neg (by simp [h]), if_pos h2]
theorem chainE_bad {s : Sh} {a b : Int} (h : chkS s = 0) (h2 : ¬ ((0 ≤ a ∧ a < (s.ws.length : Int)) ∧ (0 ≤ b ∧ b < (s.ws.length : Int)))) : chainE s a b = 2 := by unfold chainE; rw [if_neg (by simp [h]), if_neg h2]
theorem chainE_zero {s : Sh} {a b : Int} (h : chainE s a b = 0) : chkS s = 0 ∧ (0 ≤ a ∧ a < (s.ws.length : Int)) ∧ (0 ≤ b ∧ b < (s.ws.length : Int)) := by
  unfold chainE at h
  split at h
  · rename_i c; exact absurd h c
  · rename_i c
    split at h
    · rename_i c2; exact ⟨by simpa using c, c2⟩
    · cases h
set_option maxRecDepth 100000 in
set_option maxHeartbeats 4000000 in
theorem refTwo_any (s : Sh) (v : Value) (a b : Int) (w : World) (hv : SV w v s) :
    Calls Try.prog 48 #[v, .int .i64 a, .int .i64 b] w fun e w' => e = .returned (.int .i64 (chainE s a b)) ∧ Below w.heap.size w w' := by
  have HV := Lib.hid hv
  obtain ⟨u, rfl, hu⟩ := hv
  obtain ⟨ua, uc, rfl, k1, k2, hU⟩ := id hu
  have CK := Lib.hid (fun W h => refCheck4_any s (.agg #[.int .i64 s.pr, .slice ua s.ws.length uc]) W h)
  have HE1 := Lib.hid (@chainE_err s a b)
  have HE2 := Lib.hid (@chainE_ok s a b)
  have HE3 := Lib.hid (@chainE_bad s a b)
  generalize chainE s a b = ce at *
  generalize chkS s = z at *
  clear hU hu
  go_enter Try.func48, Try.ntmps48
  go_wp2_with fail
  have h0 := heap_alloc_new w (.cells #[.int .i64 s.pr, .slice ua s.ws.length uc] 24)
  have b0 := below_alloc w (.cells #[.int .i64 s.pr, .slice ua s.ws.length uc] 24)
  have z0 : (w.alloc (.cells #[.int .i64 s.pr, .slice ua s.ws.length uc] 24)).heap.size = w.heap.size + 1 := by simp
  generalize w.alloc (.cells #[.int .i64 s.pr, .slice ua s.ws.length uc] 24) = w0 at *
  refine (CK.out w0 (HV.out.below b0)).mono ?_
  rintro e w1 ⟨rfl, b1⟩
  have h1 := (b1.block _ (by omega)).trans h0
  have HB1 := Lib.hid (bon b0 b1)
  have g1 : w1.cell? ⟨w.heap.size, 1, none⟩ = some (.slice ua s.ws.length uc) := cell_of_row w1 _ 1 _ _ _ h1
  clear h0 b0 z0 b1 CK h1
  by_cases q : z = 0
  · subst q
    by_cases a0 : a < 0
    · have e : ce = 2 := HE3.out (by first | rfl | trivial) (fun h => by omega)
      subst e
      go_wp2_with fail
      go_ret
      exact ⟨rfl, HB1.out⟩
    by_cases a1 : (s.ws.length : Int) ≤ a
    · have e : ce = 2 := HE3.out (by first | rfl | trivial) (fun h => by omega)
      subst e
      go_wp2_with fail
      go_ret
      exact ⟨rfl, HB1.out⟩
    by_cases b0 : b < 0
    · have e : ce = 2 := HE3.out (by first | rfl | trivial) (fun h => by omega)
      subst e
      go_wp2_with fail
      go_ret
      exact ⟨rfl, HB1.out⟩
    by_cases b1 : (s.ws.length : Int) ≤ b
    · have e : ce = 2 := HE3.out (by first | rfl | trivial) (fun h => by omega)
      subst e
      go_wp2_with fail
      go_ret
      exact ⟨rfl, HB1.out⟩
    have e : ce = 0 := HE2.out (by first | rfl | trivial) (by omega)
    subst e
    go_wp2_with fail
    go_ret
    exact ⟨rfl, HB1.out⟩
  · have e : ce = z := HE1.out q
    subst e
    have hq : (ce == 0) = false := by rw [beq_eq_false_iff_ne]; exact q
    go_wp2_with fail
    go_ret
    exact ⟨rfl, HB1.out⟩
/-- What Before says. -/
def befV (s : Sh) (a b : Int) : Bool := if chainE s a b = 0 then befN s.ws b.toNat a.toNat else false
set_option maxRecDepth 100000 in
set_option maxHeartbeats 4000000 in
theorem refBefore_any (s : Sh) (v : Value) (a b : Int) (w : World) (hv : SV w v s) :
    Calls Try.prog 23 #[v, .int .i64 a, .int .i64 b] w fun e w' => e = .returned (.tuple #[.bool (befV s a b), .int .i64 (chainE s a b)]) ∧ Below w.heap.size w w' := by
  have HV := Lib.hid hv
  obtain ⟨u, rfl, hu⟩ := hv
  obtain ⟨ua, uc, rfl, k1, k2, hU⟩ := id hu
  have CT := Lib.hid (fun W h => refTwo_any s (.agg #[.int .i64 s.pr, .slice ua s.ws.length uc]) a b W h)
  have CR := Lib.hid (fun W h hc => refRows_any s (.agg #[.int .i64 s.pr, .slice ua s.ws.length uc]) W h hc)
  have HBV := Lib.hid (show befV s a b = if chainE s a b = 0 then befN s.ws b.toNat a.toNat else false from rfl)
  have HEZ := Lib.hid (@chainE_zero s a b)
  generalize befV s a b = bv at *
  generalize chainE s a b = ce at *
  clear hU hu
  go_enter Try.func23, Try.ntmps23
  go_wp2_with fail
  have h0 := heap_alloc_new w (.cells #[.int .i64 s.pr, .slice ua s.ws.length uc] 24)
  have b0 := below_alloc w (.cells #[.int .i64 s.pr, .slice ua s.ws.length uc] 24)
  have z0 : (w.alloc (.cells #[.int .i64 s.pr, .slice ua s.ws.length uc] 24)).heap.size = w.heap.size + 1 := by simp
  generalize w.alloc (.cells #[.int .i64 s.pr, .slice ua s.ws.length uc] 24) = w0 at *
  refine (CT.out w0 (HV.out.below b0)).mono ?_
  rintro e w1 ⟨rfl, b1⟩
  have h1 := (b1.block _ (by omega)).trans h0
  have HB1 := Lib.hid (bon b0 b1)
  have g0 : w1.cell? ⟨w.heap.size, 0, none⟩ = some (.int .i64 s.pr) := cell_of_row w1 _ 0 _ _ _ h1
  have g1 : w1.cell? ⟨w.heap.size, 1, none⟩ = some (.slice ua s.ws.length uc) := cell_of_row w1 _ 1 _ _ _ h1
  clear h0 b0 z0 b1 CT h1
  by_cases q : ce = 0
  · subst q
    obtain ⟨hc, ⟨ha0, ha1⟩, hb0, hb1⟩ := HEZ.out rfl
    obtain ⟨i, rfl⟩ : ∃ i : Nat, a = (i : Int) := ⟨a.toNat, by omega⟩
    obtain ⟨j, rfl⟩ : ∃ j : Nat, b = (j : Int) := ⟨b.toNat, by omega⟩
    have hw4 : s.ws.length ≤ 400 := (chk_small hc).2.2.1
    have HC := Lib.hid hc
    have HB3 := Lib.hid (show bv = befN s.ws j i by have := HBV.out; simpa using this)
    clear hc HBV HEZ
    go_wp2_with fail
    refine (CR.out w1 (HV.out.below HB1.out) HC.out).mono ?_
    rintro e w5 ⟨vo, fs, B2, rfl, hown, hrows, hb5⟩
    obtain ⟨av, cv, hv9⟩ := own_form hown
    subst hv9
    obtain ⟨R, hR⟩ : ∃ R, (rowsL s.ws s.ws.length)[j]? = some R := ⟨_, List.getElem?_eq_getElem (by rw [rowsL_len]; omega)⟩
    obtain ⟨gb, hgb, hbo⟩ := hrows j R hR
    obtain ⟨go, hgo⟩ : ∃ go, av = some ⟨go, 0, none⟩ := by
      rcases hown.2 with ⟨e, h0⟩ | ⟨go, cap, cur, e, _⟩
      · omega
      · cases e
        exact ⟨go, rfl⟩
    subst hgo
    have co : w5.cell? ⟨go, j, none⟩ = some (.slice (some ⟨gb, 0, none⟩) s.ws.length s.ws.length) := (World.ownsRow.cellAt hown j (by omega)).trans hgb
    have cr := hbo.cell (show i < s.ws.length by omega)
    have HBF := Lib.hid (HB3.out.trans (bef_get hR i))
    have HB5 := Lib.hid (bon HB1.out hb5)
    clear hown hrows hR hgb hbo hb5 g0 g1
    generalize R i = r0 at *
    go_wp2_with fail
    go_ret2
    rw [HBF.out]
    exact ⟨rfl, HB5.out⟩
  · have hq : (ce != 0) = true := by rw [bne_iff_ne]; exact q
    have e : bv = false := by rw [HBV.out, if_neg q]
    subst e
    go_wp2_with fail
    go_ret2
    exact ⟨rfl, HB1.out⟩
/-- What is before a work has a chain to it. -/
theorem bef_ch {W : List Wk} {a : Nat} : ∀ (m b : Nat), b ≤ m → b < W.length → (befN W b a = true ↔ a < b ∧ ∃ c, Ch W a c ∧ hdN c = b)
  | 0, b, hm, hb => by
    constructor
    · intro h
      have := bef_lt b b (Nat.le_refl _) hb h
      omega
    · rintro ⟨h, _⟩; omega
  | m + 1, b, hm, hb => by
    constructor
    · intro h
      refine ⟨bef_lt b b (Nat.le_refl _) hb h, ?_⟩
      obtain ⟨k, h1, h2, h3⟩ := (bef_iff hb).1 h
      rcases h3 with rfl | h3
      · exact ⟨[b, a], ⟨h1, h2, rfl⟩, rfl⟩
      · obtain ⟨_, c, c1, c2⟩ := (bef_ch m k (by omega) (by omega)).1 h3
        exact ⟨b :: c, c1.cons (by omega) (by rw [c2]; exact h2), rfl⟩
    · rintro ⟨hab, c, hc, e⟩
      rcases hc.form with e2 | ⟨x, c', rfl, h2, h3, h4⟩
      · rw [e2] at e
        have e : a = b := e
        omega
      · have e : x = b := e
        subst e
        refine (bef_iff hb).2 ⟨hdN c', h3, h4, ?_⟩
        by_cases q : a = hdN c'
        · exact .inl q
        · have := h2.ge
          exact .inr ((bef_ch m (hdN c') (by omega) (by omega)).2 ⟨by omega, c', h2, rfl⟩)
theorem chainL_len {W : List Wk} {a b : Nat} (hb : b < W.length) : decide (0 < (chainL W a b).length) = befN W b a := by
  rw [Bool.eq_iff_iff, decide_eq_true_iff, bef_ch b b (Nat.le_refl _) hb]
  unfold chainL
  by_cases hab : a < b
  · have hf := chainR_found hab hb
    cases hc : chainR W a b with
    | none =>
      rw [hc] at hf
      simp only [Option.getD_none, List.reverse_nil, List.map_nil, List.length_nil]
      constructor
      · intro h; omega
      · rintro ⟨_, c, c1, c2⟩
        exact absurd c2 (hf c c1)
    | some c =>
      rw [hc] at hf
      have := hf.1.ne
      simp only [Option.getD_some, List.length_map, List.length_reverse]
      exact ⟨fun _ => ⟨hab, c, hf.1, hf.2.1⟩, fun _ => this⟩
  · rw [chainR_none (by omega)]
    simp
    intro h
    omega
theorem bef_eq (s : Sh) (a b : Int) : decide (0 < (chainV s a b).length) = befV s a b := by
  unfold chainV befV
  by_cases h : chainE s a b = 0
  · rw [if_pos h, if_pos h]
    have := (chainE_zero h).2.2
    exact chainL_len (by omega)
  · rw [if_neg h, if_neg h]; rfl
end Go.Proofs.Ytenfeekchggioaa
