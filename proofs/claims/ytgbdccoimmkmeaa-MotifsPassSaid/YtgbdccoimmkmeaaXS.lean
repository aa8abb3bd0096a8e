/- The law of the pairs that pass through each other. -/
import Derived.Test.YtgbdccoimmkmeaaXR
import Derived.Test.YtgbdccoimmkmeaaXA
namespace Go.Proofs.Ytgbdccoimmkmeaa
open Go.RowKit
set_option linter.unusedSimpArgs false
attribute [local irreducible] wpQuiet
set_option maxRecDepth 100000 in
set_option maxHeartbeats 8000000 in
theorem back_any (pr lb cl : Nat) (w : World) (hp : pr ≤ 24) (h : ∀ j : Nat, j < pr → w.cell? ⟨lb, j, none⟩ = some (.int .i64 (j : Int))) : Calls Try.prog 29 #[.slice (some ⟨lb, 0, none⟩) pr cl] w fun e w' => e = .returned (.bool true) ∧ w' = w := by
  have H := Lib.hid h
  clear h
  go_enter Try.func29, Try.ntmps29
  go_wp2_with fail
  go_loopw [3] (fun i wr => ∃ k : Nat, k ≤ pr ∧ i = .int .i64 (k : Int) ∧ wr = w) (fun i _ => pr - (intOf i).toNat)
  case atStart => exact ⟨0, Nat.zero_le _, rfl, rfl⟩
  case round =>
    obtain ⟨k, hk, rfl, hwr⟩ := hrel
    rename World => wr
    subst hwr
    by_cases hkn : k < pr
    · have k1 : (k : Int) < (pr : Int) := by omega
      have k0 : (0 : Int) ≤ (k : Int) := by omega
      have c0 := H.out k hkn
      go_wp2_with fail
      go_roundw
      case rel => exact ⟨k + 1, hkn, by go_num, trivial⟩
      case measure => (simp [intOf] <;> omega)
    · have k1 : ¬ (k : Int) < (pr : Int) := by omega
      go_wp2_with fail
      go_ret
      exact ⟨rfl, rfl⟩
/-- A sheet of pr pairs that was handed out with no fault. -/
def OutN (pr : Nat) (W : List Wk) (w : World) (e : Ending) (w' : World) : Prop := ∃ a c, e = .returned (.tuple #[.agg #[.int .i64 (pr : Int), .slice a W.length c], .int .i64 0]) ∧ WS w' (.slice a W.length c) W ∧ Below w.heap.size w w'
theorem outN {M : Mo} {pr : Nat} {W : List Wk} (h1 : M.p = (pr : Int)) (h2 : M.L = W) (h3 : M.e = 0) {w w' : World} {e : Ending} (h : Out M w e w') : OutN pr W w e w' := by
  obtain ⟨v, rfl, hw, hb⟩ := h
  obtain ⟨a, c, rfl, h4⟩ := id hw
  rw [h1, h2, h3]
  rw [h2] at hw
  exact ⟨a, c, rfl, hw, hb⟩
/-- What passes hands out. -/
def PN (pr : Nat) (l : List Nat) (lg : List (Nat × Nat)) (w : World) (e : Ending) (w' : World) : Prop := ∃ lb cl mb cm gs, e = .returned (.tuple #[.slice (some ⟨lb, 0, none⟩) pr cl, .slice (some ⟨mb, 0, none⟩) pr cm, .bool true]) ∧ P2 w.heap.size w' pr lb mb gs l lg ∧ Below w.heap.size w w'
theorem passN (pr : Nat) (W : List Wk) (v : Value) (w : World) (hv : WS w v W) (h2 : 2 ≤ pr) (h24 : pr ≤ 24) (hl : W.length ≤ 400) (hok : ∀ x ∈ W, okP pr x) :
    Calls Try.prog 28 #[.agg #[.int .i64 (pr : Int), v]] w (PN pr (runP (idL pr, []) W).1 (runP (idL pr, []) W).2 w) := by
  refine (passes_any pr W v w hv h2 h24 hl hok).mono ?_
  rintro e w' ⟨vl, vm, rfl, ⟨lb, cl, mb, cm, gs, rfl, rfl, hp⟩, hb⟩
  exact ⟨lb, cl, mb, cm, gs, rfl, hp, hb⟩
theorem idL_at {pr : Nat} {j : Nat} (h : j < pr) : (idL pr)[j]? = some j := by unfold idL; simp [h]
theorem P2.back {B pr lb mb : Nat} {w : World} {gs : List Nat} {lg : List (Nat × Nat)} (h : P2 B w pr lb mb gs (idL pr) lg) : ∀ j : Nat, j < pr → w.cell? ⟨lb, j, none⟩ = some (.int .i64 (j : Int)) := fun j hj => (h.lin j j (idL_at hj)).1
theorem P2.met {B pr lb mb : Nat} {w : World} {gs l : List Nat} {lg : List (Nat × Nat)} (h : P2 B w pr lb mb gs l lg) {i j : Nat} (hi : i < pr) (hj : j < pr) : ∃ g, w.cell? ⟨mb, i, none⟩ = some (slv pr g) ∧ w.cell? ⟨g, j, none⟩ = some (.int .i64 (metN lg i j : Int)) := by
  have hgi : i < gs.length := by rw [h.gl]; exact hi
  have hg : gs[i]? = some gs[i] := List.getElem?_eq_getElem hgi
  exact ⟨gs[i], h.tab i _ hg, (h.row i _ hg j hj).1⟩
theorem spider_len {n t : Nat} (h : n ≤ 6) : (spiderL n t).length ≤ 400 := by
  have h1 := legs_len n t
  have h2 := bodyL_len n
  have h3 : n * n ≤ 6 * 6 := Nat.mul_le_mul h h
  simp only [spiderL, List.length_append, List.length_singleton]
  omega
theorem fan_len : ∀ n, n < 13 → (fanL n).length ≤ 400 := by decide +kernel
theorem spider_met {n t i k : Nat} (h1 : 1 ≤ n) (h2 : n < 7) (hi : i < 2 * n) (hk : k < 2 * n) : metN (runP (idL (2 * n), []) (spiderL n t)).2 i k = (if (decide (i < n) != decide (k < n)) = true then 2 else 0) := by
  have h := spider_all n h2 h1
  unfold spiderB at h
  rw [spider_run]
  have h3 := (Bool.and_eq_true_iff.1 h).2
  have h4 := List.all_eq_true.1 (List.all_eq_true.1 h3 i (List.mem_range.2 hi)) k (List.mem_range.2 hk)
  exact beq_iff_eq.1 h4
theorem spider_line {n t : Nat} (h1 : 1 ≤ n) (h2 : n < 7) : (runP (idL (2 * n), []) (spiderL n t)).1 = idL (2 * n) := by
  have h := spider_all n h2 h1
  unfold spiderB at h
  rw [spider_run]
  exact beq_iff_eq.1 (Bool.and_eq_true_iff.1 h).1
theorem fan_met {n k : Nat} (h1 : 1 ≤ n) (h2 : n < 13) (h3 : 1 ≤ k) (hk : k ≤ n) : metN (runP (idL (n + 1), []) (fanL n)).2 0 k = 2 * (2 * (n - k) + 1) := by
  have h := fan_all n h2 h1
  unfold fanB2 at h
  have h4 := List.all_eq_true.1 (Bool.and_eq_true_iff.1 h).2 k (List.mem_range.2 (by omega))
  rcases Bool.or_eq_true_iff.1 h4 with h5 | h5
  · have := beq_iff_eq.1 h5
    omega
  · exact beq_iff_eq.1 h5
theorem fan_line {n : Nat} (h1 : 1 ≤ n) (h2 : n < 13) : (runP (idL (n + 1), []) (fanL n)).1 = idL (n + 1) := by
  have h := fan_all n h2 h1
  unfold fanB2 at h
  exact beq_iff_eq.1 (Bool.and_eq_true_iff.1 h).1
theorem spiderN (n t : Nat) (h1 : 1 ≤ n) (h2 : n ≤ 6) (h3 : t ≤ 16) (w : World) : Calls Try.prog 13 #[.int .i64 (n : Int), .int .i64 (t : Int)] w (OutN (2 * n) (spiderL n t) w) := by
  refine (Spider_any n t w).mono fun e w' h => outN ?_ ?_ ?_ h <;> unfold spiderM <;> rw [if_pos (by omega)] <;> try simp
theorem fanN (n : Nat) (h1 : 1 ≤ n) (h2 : n ≤ 12) (w : World) : Calls Try.prog 15 #[.int .i64 (n : Int)] w (OutN (n + 1) (fanL n) w) := by
  refine (Fan_any n w).mono fun e w' h => outN ?_ ?_ ?_ h <;> unfold fanM <;> rw [if_pos (by omega)] <;> try simp
theorem footN (n m : Nat) (h1 : 1 ≤ n) (h2 : n ≤ 23) (h3 : 1 ≤ m) (h4 : m ≤ 400 / (2 * n + 1)) (w : World) : Calls Try.prog 17 #[.int .i64 (n : Int), .int .i64 (m : Int)] w (OutN (n + 1) (repL m (footRow n)) w) := by
  have hd : ((400 / (2 * n + 1) : Nat) : Int) = 400 / (2 * (n : Int) + 1) := by
    rw [Int.natCast_ediv]
    rfl
  refine (Footside_any n m w).mono fun e w' h => outN ?_ ?_ ?_ h <;> unfold footM <;> rw [if_pos (by omega), if_pos (by omega)] <;> try simp
theorem foot_len {n m : Nat} (h4 : m ≤ 400 / (2 * n + 1)) : (repL m (footRow n)).length ≤ 400 := by
  rw [repL_len, footRow_len]
  have h5 : m * (2 * n + 1) ≤ 400 / (2 * n + 1) * (2 * n + 1) := Nat.mul_le_mul_right _ h4
  have h6 := Nat.div_mul_le_self 400 (2 * n + 1)
  omega
/-- All that the walk of the footside wants. -/
def FootF (N M q m p4 : Nat) (L4 : List Wk) (R4 : List Nat × List (Nat × Nat)) : Prop := (1 + (N : Int) % 23 = (q : Int) ∧ 1 ≤ q ∧ q ≤ 23 ∧ p4 = q + 1) ∧ (wrap64 (1 + (M : Int) % (400 / (2 * (q : Int) + 1))) = (m : Int) ∧ ¬ (400 : Int) / (2 * (q : Int) + 1) = 0 ∧ ¬ 2 * (q : Int) + 1 = 0 ∧ m ≤ 256) ∧
  (∀ W, Calls Try.prog 17 #[.int .i64 (q : Int), .int .i64 (m : Int)] W (OutN p4 L4 W)) ∧ (∀ v W, WS W v L4 → Calls Try.prog 28 #[.agg #[.int .i64 (p4 : Int), v]] W (PN p4 (idL p4) R4.2 W)) ∧ ∀ k, k < q → metN R4.2 q k = 2 * m
theorem foot_facts (N M : Nat) (_ : N < 256) (hM : M < 256) : ∃ q m p4 L4 R4, FootF N M q m p4 L4 R4 := by
  obtain ⟨q, hq⟩ : ∃ q, q = 1 + N % 23 := ⟨_, rfl⟩
  have HQ := Lib.hid hq
  have hd : (400 : Int) / (2 * (q : Int) + 1) = ((400 / (2 * q + 1) : Nat) : Int) := by
    rw [Int.natCast_ediv]
    rfl
  have hd1 : 1 ≤ 400 / (2 * q + 1) := by
    have := HQ.out
    exact (Nat.one_le_div_iff (by omega)).2 (by omega)
  have hd2 := Nat.mod_lt M (show 400 / (2 * q + 1) > 0 by omega)
  have hd3 := Nat.mod_le M (400 / (2 * q + 1))
  obtain ⟨m, hm⟩ : ∃ m, m = 1 + M % (400 / (2 * q + 1)) := ⟨_, rfl⟩
  have hm2 : m ≤ 400 / (2 * q + 1) := by omega
  have hq1 : 1 ≤ q ∧ q ≤ 23 := by have := HQ.out; omega
  have e6 : wrap64 (1 + (M : Int) % (400 / (2 * (q : Int) + 1))) = (m : Int) := by
    rw [hd, ← Int.natCast_emod, IntWalk.wrap64_in _ (by omega)]
    omega
  have z2 : ¬ (400 : Int) / (2 * (q : Int) + 1) = 0 := by rw [hd]; omega
  have hm256 : m ≤ 256 := by omega
  obtain ⟨p4, hp2⟩ : ∃ p, p = q + 1 := ⟨_, rfl⟩
  have hp4 : p4 ≤ 24 := by omega
  have CS : ∀ W, Calls Try.prog 17 #[.int .i64 (q : Int), .int .i64 (m : Int)] W (OutN p4 (repL m (footRow q)) W) := fun W => by
    rw [hp2]
    exact footN q m (by omega) (by omega) (by omega) hm2 W
  have hl1 : (repL m (footRow q)).length ≤ 400 := foot_len hm2
  have CP : ∀ v W, WS W v (repL m (footRow q)) → Calls Try.prog 28 #[.agg #[.int .i64 (p4 : Int), v]] W (PN p4 (idL p4) (runP (idL p4, []) (repL m (footRow q))).2 W) := fun v W hv => by
    have := passN p4 (repL m (footRow q)) v W hv (by omega) (by omega) hl1 (by rw [hp2]; exact ok_foot (by omega))
    rw [hp2] at this ⊢
    rw [(foot_rows (by omega) (by omega) m).1] at this
    exact this
  have HM1 := Lib.hid (show ∀ k, k < q → metN (runP (idL p4, []) (repL m (footRow q))).2 q k = 2 * m from fun k h1 => by rw [hp2]; exact (foot_rows (by omega) (by omega) m).2 k h1)
  exact ⟨q, m, p4, repL m (footRow q), runP (idL p4, []) (repL m (footRow q)), ⟨by omega, hq1.1, hq1.2, hp2⟩, ⟨e6, z2, by omega, hm256⟩, CS, CP, HM1.out⟩
set_option maxRecDepth 100000 in
set_option maxHeartbeats 16000000 in
theorem pass_law (N M : Nat) (hN : N < 256) (hM : M < 256) (w : World) : Calls Try.prog 5 #[.int .u8 (N : Int), .int .u8 (M : Int)] w fun e w' => e = .returned (.bool true) ∧ Below w.heap.size w w' := by
  obtain ⟨n, hn⟩ : ∃ n, n = 1 + N % 6 := ⟨_, rfl⟩
  obtain ⟨t, ht⟩ : ∃ t, t = M % 17 := ⟨_, rfl⟩
  obtain ⟨p2, hp2⟩ : ∃ p, p = 2 * n := ⟨_, rfl⟩
  have CS : ∀ W, Calls Try.prog 13 #[.int .i64 (n : Int), .int .i64 (t : Int)] W (OutN p2 (spiderL n t) W) := fun W => by
    rw [hp2]
    exact spiderN n t (by omega) (by omega) (by omega) W
  have hl1 : (spiderL n t).length ≤ 400 := spider_len (by omega)
  have CP : ∀ v W, WS W v (spiderL n t) → Calls Try.prog 28 #[.agg #[.int .i64 (p2 : Int), v]] W (PN p2 (idL p2) (runP (idL p2, []) (spiderL n t)).2 W) := fun v W hv => by
    have := passN p2 (spiderL n t) v W hv (by omega) (by omega) hl1 (by rw [hp2]; exact ok_spider (by omega) (by omega))
    rw [hp2] at this ⊢
    rw [spider_line (by omega) (by omega)] at this
    exact this
  have HM1 := Lib.hid (show ∀ i k, i < p2 → k < p2 → metN (runP (idL p2, []) (spiderL n t)).2 i k = (if (decide (i < n) != decide (k < n)) = true then 2 else 0) from fun i k hi hk => by
    rw [hp2] at hi hk ⊢
    exact spider_met (by omega) (by omega) hi hk)
  generalize spiderL n t = L1 at *
  generalize runP (idL p2, []) L1 = R1 at *
  have HCS := Lib.hid CS
  have HCP := Lib.hid CP
  have HL1 := Lib.hid hl1
  clear CS CP hl1
  have r1 : IntKind.i64.wrap (N : Int) = (N : Int) := IntWalk.i64_in _ (by omega)
  have r2 : IntKind.i64.wrap (M : Int) = (M : Int) := IntWalk.i64_in _ (by omega)
  have e1 : 1 + (N : Int) % 6 = (n : Int) := by omega
  have e2 : (M : Int) % 17 = (t : Int) := by omega
  have HFF := Lib.hid (foot_facts N M hN hM)
  have HN := Lib.hid (show n = 1 + N % 6 ∧ t = M % 17 ∧ p2 = 2 * n from ⟨hn, ht, hp2⟩)
  have hb12 : p2 ≤ 12 := by omega
  clear hn ht hp2
  go_enter Try.func5, Try.ntmps5
  go_wp2_with fail
  clear e1 e2
  refine (HCS.out _).mono ?_
  rintro e w1 ⟨a1, c1, rfl, hi1, hB1⟩
  have HI1 := Lib.hid hi1
  clear hi1
  have hX1 := heap_alloc_new w1 (.cells #[.int .i64 (p2 : Int), .slice a1 L1.length c1] 24)
  have hb1 := below_alloc w1 (.cells #[.int .i64 (p2 : Int), .slice a1 L1.length c1] 24)
  have hz1 : w1.heap.size < (w1.alloc (.cells #[.int .i64 (p2 : Int), .slice a1 L1.length c1] 24)).heap.size := by simp
  go_upto_region 3 with fail
  generalize w1.alloc (.cells #[.int .i64 (p2 : Int), .slice a1 L1.length c1] 24) = x1 at *
  have d1 := cell_of_heap (j := 0) hX1 rfl
  have f1 := cell_of_heap (j := 1) hX1 rfl
  have HI2 := Lib.hid (HI1.out.below hb1)
  have HX1 := Lib.hid hX1
  have HB1 := Lib.hid (hB1.trans (hb1.mono hB1.size))
  have HZ1 := Lib.hid hz1
  clear hX1 hb1 hz1 HI1 hB1
  go_wp2_with fail
  clear d1 f1
  refine (HCP.out _ _ HI2.out).mono ?_
  rintro e w2 ⟨lb1, cl1, mb1, cm1, gs1, rfl, hp, hB2⟩
  have HP1 := Lib.hid hp
  have HB2 := Lib.hid (HB1.out.trans (hB2.mono HB1.out.size))
  have HX2 := Lib.hid (hb_below hB2 HX1.out HZ1.out)
  clear hp hB2 HB1 HX1
  have d1 := cell_of_heap (j := 0) HX2.out rfl
  have f1 := cell_of_heap (j := 1) HX2.out rfl
  have e4 : IntKind.i64.wrap (2 * (n : Int)) = (p2 : Int) := (IntWalk.i64_in _ (by have := HN.out; omega)).trans (by have := HN.out; omega)
  go_upto_region 4 with fail
  go_wp2_with fail
  refine (back_any _ _ _ _ (by have := HN.out; omega) HP1.out.back).mono ?_
  rintro e w3 ⟨rfl, hw3⟩
  rename World => wx
  subst hw3
  go_wp2_with fail
  clear d1 f1
  go_loopw [11, 12, 13] (fun i _ _ wr => ∃ k : Nat, k ≤ p2 ∧ i = .int .i64 (k : Int) ∧ wr = wx) (fun i _ _ _ => p2 - (intOf i).toNat)
  case atStart => exact ⟨0, Nat.zero_le _, rfl, rfl⟩
  case round =>
    obtain ⟨k, hk, rfl, hwr⟩ := hrel
    rename World => wr
    subst hwr
    by_cases hkn : k < p2
    · have k1 : (k : Int) < (p2 : Int) := by omega
      have k0 : (0 : Int) ≤ (k : Int) := by omega
      go_wp2_with fail
      go_loopw [12, 13] (fun i _ wz => ∃ m : Nat, m ≤ p2 ∧ i = .int .i64 (m : Int) ∧ wz = wr) (fun i _ _ => p2 - (intOf i).toNat)
      case atStart => exact ⟨0, Nat.zero_le _, rfl, rfl⟩
      case round =>
        obtain ⟨m, hm, rfl, hwz⟩ := hrel
        rename World => wz
        subst hwz
        by_cases hmn : m < p2
        · have m1 : (m : Int) < (p2 : Int) := by omega
          have m0 : (0 : Int) ≤ (m : Int) := by omega
          obtain ⟨g, q1, q2⟩ := HP1.out.met hkn hmn
          by_cases hk1 : k < n
          · by_cases hm1 : m < n
            · have i1 : (k : Int) < (n : Int) := by omega
              have i2 : (m : Int) < (n : Int) := by omega
              rw [show metN R1.2 k m = 0 from (HM1.out k m hkn hmn).trans (by simp [hk1, hm1])] at q2
              clear hk1 hm1
              go_wp2_with fail
              go_roundw
              case rel => exact ⟨m + 1, hmn, by go_num, trivial⟩
              case measure => (simp [intOf] <;> omega)
            · have i1 : (k : Int) < (n : Int) := by omega
              have i2 : ¬ (m : Int) < (n : Int) := by omega
              rw [show metN R1.2 k m = 2 from (HM1.out k m hkn hmn).trans (by simp [hk1, hm1])] at q2
              clear hk1 hm1
              go_wp2_with fail
              go_roundw
              case rel => exact ⟨m + 1, hmn, by go_num, trivial⟩
              case measure => (simp [intOf] <;> omega)
          · by_cases hm1 : m < n
            · have i1 : ¬ (k : Int) < (n : Int) := by omega
              have i2 : (m : Int) < (n : Int) := by omega
              rw [show metN R1.2 k m = 2 from (HM1.out k m hkn hmn).trans (by simp [hk1, hm1])] at q2
              clear hk1 hm1
              go_wp2_with fail
              go_roundw
              case rel => exact ⟨m + 1, hmn, by go_num, trivial⟩
              case measure => (simp [intOf] <;> omega)
            · have i1 : ¬ (k : Int) < (n : Int) := by omega
              have i2 : ¬ (m : Int) < (n : Int) := by omega
              rw [show metN R1.2 k m = 0 from (HM1.out k m hkn hmn).trans (by simp [hk1, hm1])] at q2
              clear hk1 hm1
              go_wp2_with fail
              go_roundw
              case rel => exact ⟨m + 1, hmn, by go_num, trivial⟩
              case measure => (simp [intOf] <;> omega)
        · have m1 : ¬ (m : Int) < (p2 : Int) := by omega
          go_wp2_with fail
          go_roundw
          case rel => exact ⟨k + 1, hkn, by go_num, trivial⟩
          case measure => (simp [intOf] <;> omega)
    · have k1 : ¬ (k : Int) < (p2 : Int) := by omega
      go_upto_region 17 with fail
      clear e4 HM1 HP1 HCS HCP HL1 hb12 HX2 k1 hkn hk HI2 HZ1
      obtain ⟨y, hy⟩ : ∃ y, y = 1 + N % 12 := ⟨_, rfl⟩
      have e1 : 1 + (N : Int) % 12 = (y : Int) := by omega
      obtain ⟨p3, hp2⟩ : ∃ p, p = y + 1 := ⟨_, rfl⟩
      have hb12 : p3 ≤ 13 := by omega
      have CS : ∀ W, Calls Try.prog 15 #[.int .i64 (y : Int)] W (OutN p3 (fanL y) W) := fun W => by
        rw [hp2]
        exact fanN y (by omega) (by omega) W
      have hl1 : (fanL y).length ≤ 400 := fan_len y (by omega)
      have CP : ∀ v W, WS W v (fanL y) → Calls Try.prog 28 #[.agg #[.int .i64 (p3 : Int), v]] W (PN p3 (idL p3) (runP (idL p3, []) (fanL y)).2 W) := fun v W hv => by
        have := passN p3 (fanL y) v W hv (by omega) (by omega) hl1 (by rw [hp2]; exact ok_fan)
        rw [hp2] at this ⊢
        rw [fan_line (by omega) (by omega)] at this
        exact this
      have HM1 := Lib.hid (show ∀ k, 1 ≤ k → k ≤ y → metN (runP (idL p3, []) (fanL y)).2 0 k = 2 * (2 * (y - k) + 1) from fun k h1 h2 => by rw [hp2]; exact fan_met (by omega) (by omega) h1 h2)
      have HY := Lib.hid (show 1 ≤ y ∧ y ≤ 12 ∧ p3 = y + 1 from ⟨by omega, by omega, hp2⟩)
      clear hy hp2
      generalize fanL y = L3 at *
      generalize runP (idL p3, []) L3 = R3 at *
      have HCS := Lib.hid CS
      have HCP := Lib.hid CP
      clear CS CP hl1
      go_wp2_with fail
      clear e1
      refine (HCS.out _).mono ?_
      rintro e w5 ⟨a5, c5, rfl, hi1, hB1⟩
      have HI1 := Lib.hid hi1
      clear hi1
      have hX1 := heap_alloc_new w5 (.cells #[.int .i64 (p3 : Int), .slice a5 L3.length c5] 24)
      have hb1 := below_alloc w5 (.cells #[.int .i64 (p3 : Int), .slice a5 L3.length c5] 24)
      have hz1 : w5.heap.size < (w5.alloc (.cells #[.int .i64 (p3 : Int), .slice a5 L3.length c5] 24)).heap.size := by simp
      go_upto_region 19 with fail
      generalize w5.alloc (.cells #[.int .i64 (p3 : Int), .slice a5 L3.length c5] 24) = x5 at *
      have d1 := cell_of_heap (j := 0) hX1 rfl
      have f1 := cell_of_heap (j := 1) hX1 rfl
      have HI2 := Lib.hid (HI1.out.below hb1)
      have HX1 := Lib.hid hX1
      have HB1 := Lib.hid (HB2.out.trans ((hB1.trans (hb1.mono hB1.size)).mono HB2.out.size))
      have HZ1 := Lib.hid hz1
      clear hX1 hb1 hz1 HI1 hB1 HB2
      go_wp2_with fail
      clear d1 f1
      refine (HCP.out _ _ HI2.out).mono ?_
      rintro e z5 ⟨lb1, cl1, mb1, cm1, gs1, rfl, hp, hB2⟩
      have HP1 := Lib.hid hp
      have HB2 := Lib.hid (HB1.out.trans (hB2.mono HB1.out.size))
      have HX2 := Lib.hid (hb_below hB2 HX1.out HZ1.out)
      clear hp hB2 HB1 HX1 HZ1 HI2
      have d1 := cell_of_heap (j := 0) HX2.out rfl
      have f1 := cell_of_heap (j := 1) HX2.out rfl
      have e5 : IntKind.i64.wrap ((y : Int) + 1) = (p3 : Int) := (IntWalk.i64_in _ (by have := HY.out; omega)).trans (by have := HY.out; omega)
      go_wp2_with fail
      refine (back_any _ _ _ _ (by omega) HP1.out.back).mono ?_
      rintro e w3 ⟨rfl, hw3⟩
      rename World => wx
      subst hw3
      have hy12 : y ≤ 12 := HY.out.2.1
      go_wp2_with fail
      clear d1 f1 e5
      go_loopw [16] (fun i wr => ∃ k : Nat, 1 ≤ k ∧ k ≤ y + 1 ∧ i = .int .i64 (k : Int) ∧ wr = wx) (fun i _ => y + 1 - (intOf i).toNat)
      case atStart => exact ⟨1, Nat.le_refl _, by omega, rfl, rfl⟩
      case round =>
        obtain ⟨k, hk0, hk, rfl, hwr⟩ := hrel
        rename World => wr
        subst hwr
        by_cases hkn : k ≤ y
        · have k1 : (k : Int) ≤ (y : Int) := by omega
          have k0 : (0 : Int) ≤ (k : Int) := by omega
          have k2 : (k : Int) < (p3 : Int) := by have := HY.out; omega
          have k3 : (0 : Int) < (p3 : Int) := by omega
          obtain ⟨g, q1, q2⟩ := HP1.out.met (i := 0) (j := k) (by omega) (by omega)
          rw [show ((metN R3.2 0 k : Nat) : Int) = 2 * (2 * ((y : Int) - (k : Int)) + 1) by rw [HM1.out k hk0 hkn]; omega] at q2
          go_wp2_with fail
          go_roundw
          case rel => exact ⟨k + 1, by omega, by omega, by go_num, trivial⟩
          case measure => (simp [intOf] <;> omega)
        · have k1 : ¬ (k : Int) ≤ (y : Int) := by omega
          clear hk hk0 hkn hb12 hy12 HX2 HCS HCP HM1 HP1 HY
          obtain ⟨q, m, p4, L4, R4, HF⟩ := HFF.out
          have e1 := HF.1.1
          have q23 := HF.1.2.2.1
          have e6 := HF.2.1.1
          have z2 := HF.2.1.2.1
          have z1 := HF.2.1.2.2.1
          have HQ := Lib.hid HF.1.2
          have HM6 := Lib.hid HF.2.1.2.2.2
          have HCS := Lib.hid HF.2.2.1
          have HCP := Lib.hid HF.2.2.2.1
          have HM1 := Lib.hid HF.2.2.2.2
          clear HF HFF
          go_upto_region 28 with fail
          go_upto_region 29 with fail
          go_wp2_with fail
          clear e1 z1 z2 e6 q23
          go_wp2_with fail
          refine (HCS.out _).mono ?_
          rintro e w6 ⟨a6, c6, rfl, hi1, hB1⟩
          have HI1 := Lib.hid hi1
          clear hi1
          have hX1 := heap_alloc_new w6 (.cells #[.int .i64 (p4 : Int), .slice a6 L4.length c6] 24)
          have hb1 := below_alloc w6 (.cells #[.int .i64 (p4 : Int), .slice a6 L4.length c6] 24)
          have hz1 : w6.heap.size < (w6.alloc (.cells #[.int .i64 (p4 : Int), .slice a6 L4.length c6] 24)).heap.size := by simp
          go_upto_region 30 with fail
          generalize w6.alloc (.cells #[.int .i64 (p4 : Int), .slice a6 L4.length c6] 24) = x6 at *
          have d1 := cell_of_heap (j := 0) hX1 rfl
          have f1 := cell_of_heap (j := 1) hX1 rfl
          have HI2 := Lib.hid (HI1.out.below hb1)
          have HX1 := Lib.hid hX1
          have HB1 := Lib.hid (HB2.out.trans ((hB1.trans (hb1.mono hB1.size)).mono HB2.out.size))
          have HZ1 := Lib.hid hz1
          clear hX1 hb1 hz1 HI1 hB1 HB2
          go_wp2_with fail
          clear d1 f1
          refine (HCP.out _ _ HI2.out).mono ?_
          rintro e z6 ⟨lb1, cl1, mb1, cm1, gs1, rfl, hp, hB2⟩
          have HP1 := Lib.hid hp
          have HB2 := Lib.hid (HB1.out.trans (hB2.mono HB1.out.size))
          have HX2 := Lib.hid (hb_below hB2 HX1.out HZ1.out)
          clear hp hB2 HB1 HX1 HZ1 HI2
          have d1 := cell_of_heap (j := 0) HX2.out rfl
          have f1 := cell_of_heap (j := 1) HX2.out rfl
          have e5 : IntKind.i64.wrap ((q : Int) + 1) = (p4 : Int) := (IntWalk.i64_in _ (by have := HQ.out; omega)).trans (by have := HQ.out; omega)
          go_wp2_with fail
          refine (back_any _ _ _ _ (by have := HQ.out; omega) HP1.out.back).mono ?_
          rintro e w3 ⟨rfl, hw3⟩
          rename World => wx
          subst hw3
          have hq23 : q ≤ 23 := HQ.out.2.1
          have hm256 : m ≤ 256 := HM6.out
          go_wp2_with fail
          clear d1 f1 e5
          go_loopw [20] (fun i wr => ∃ k : Nat, k ≤ q ∧ i = .int .i64 (k : Int) ∧ wr = wx) (fun i _ => q - (intOf i).toNat)
          case atStart => exact ⟨0, Nat.zero_le _, rfl, rfl⟩
          case round =>
            obtain ⟨k, hk, rfl, hwr⟩ := hrel
            rename World => wr
            subst hwr
            by_cases hkn : k < q
            · have k1 : (k : Int) < (q : Int) := by omega
              have k0 : (0 : Int) ≤ (k : Int) := by omega
              have k2 : (k : Int) < (p4 : Int) := by have := HQ.out; omega
              have k3 : (0 : Int) ≤ (q : Int) := by omega
              have k4 : (q : Int) < (p4 : Int) := by have := HQ.out; omega
              obtain ⟨g, q1, q2⟩ := HP1.out.met (i := q) (j := k) (by omega) (by omega)
              rw [show ((metN R4.2 q k : Nat) : Int) = 2 * (m : Int) by rw [HM1.out k hkn]; omega] at q2
              go_wp2_with fail
              go_roundw
              case rel => exact ⟨k + 1, hkn, by go_num, trivial⟩
              case measure => (simp [intOf] <;> omega)
            · have k1 : ¬ (k : Int) < (q : Int) := by omega
              go_upto_region 38 with fail
              clear k1 hkn hk hq23 hm256 HX2 HCS HCP HM1 HP1 HQ
              have CM : ∀ v W, WS W v millL → Calls Try.prog 28 #[.agg #[.int .i64 4, v]] W (PN 4 [2, 3, 0, 1] (runP (idL 4, []) millL).2 W) := fun v W hv => by
                have := passN 4 millL v W hv (by omega) (by omega) (by decide) ok_mill
                have hm := mill_all
                unfold millB at hm
                rw [beq_iff_eq.1 (Bool.and_eq_true_iff.1 (Bool.and_eq_true_iff.1 hm).1).1] at this
                exact this
              have CN : metN (runP (idL 4, []) millL).2 0 2 = 1 ∧ metN (runP (idL 4, []) millL).2 0 1 = 0 := by
                have hm := mill_all
                unfold millB at hm
                exact ⟨beq_iff_eq.1 (Bool.and_eq_true_iff.1 (Bool.and_eq_true_iff.1 hm).1).2, beq_iff_eq.1 (Bool.and_eq_true_iff.1 hm).2⟩
              generalize (runP (idL 4, []) millL).2 = R5 at *
              have HCM := Lib.hid CM
              have HCN := Lib.hid CN
              clear CM CN
              go_wp2_with fail
              refine (Windmill_any _).mono ?_
              rintro e y1 ⟨vy, rfl, hiy, hbn⟩
              have HB3 := Lib.hid (HB2.out.trans (hbn.mono HB2.out.size))
              have HI3 := Lib.hid hiy
              clear hbn hiy HB2
              go_wp2_with fail
              refine (HCM.out _ _ HI3.out).mono ?_
              rintro e y2 ⟨lb2, cl2, mb2, cm2, gs2, rfl, hp, hB2⟩
              have HB4 := Lib.hid (HB3.out.trans (hB2.mono HB3.out.size))
              obtain ⟨l0, _⟩ := hp.lin 0 2 rfl
              obtain ⟨l1, _⟩ := hp.lin 1 3 rfl
              obtain ⟨l2, _⟩ := hp.lin 2 0 rfl
              obtain ⟨l3, _⟩ := hp.lin 3 1 rfl
              obtain ⟨g2, q1, q2⟩ := hp.met (i := 0) (j := 2) (by omega) (by omega)
              obtain ⟨g3, q3, q4⟩ := hp.met (i := 0) (j := 1) (by omega) (by omega)
              rw [HCN.out.1] at q2
              rw [HCN.out.2] at q4
              have hgg : slv 4 g2 = slv 4 g3 := Option.some.inj (q1.symm.trans q3)
              have hgg2 : g2 = g3 := by injection hgg with h1; injection h1 with h2; injection h2
              subst hgg2
              clear hp hB2 hgg HB3 HI3 HCM HCN q3
              go_wp2_with fail
              refine (shown_any _).mono ?_
              rintro e y4 ⟨rfl, hbn⟩
              have HB5 := Lib.hid (HB4.out.trans (hbn.mono HB4.out.size))
              clear hbn
              go_wp2_with fail
              go_ret
              exact ⟨by first | rfl | (simp; done), HB5.out⟩
end Go.Proofs.Ytgbdccoimmkmeaa
