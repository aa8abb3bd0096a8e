/- legs, fanRow of the program. -/
import Derived.Test.YtgbdccoimmkmeaaWI
namespace Go.Proofs.Ytgbdccoimmkmeaa
open Go.RowKit
set_option linter.unusedSimpArgs false
theorem hatN {w : World} (vs : List Value) (Ls : List (List Wk)) (t : TypeId) (h : ∀ (k : Nat) L, Ls[k]? = some L → ∃ v, vs[k]? = some v ∧ WS w v L) : ∀ (k : Nat) L, Ls[k]? = some L → ∃ v, (w.alloc (.cells vs.toArray t)).cell? ⟨w.heap.size, k, none⟩ = some v ∧ WS (w.alloc (.cells vs.toArray t)) v L := fun k L hk => by
  obtain ⟨v, hv, hs⟩ := h k L hk
  exact ⟨v, by rw [World.cell?_alloc_new, List.getElem?_toArray]; exact hv, hs.below (below_alloc _ _)⟩
theorem three_at {w : World} {v1 v2 v3 : Value} {L1 L2 L3 : List Wk} (h1 : WS w v1 L1) (h2 : WS w v2 L2) (h3 : WS w v3 L3) : ∀ (k : Nat) L, [L1, L2, L3][k]? = some L → ∃ v, [v1, v2, v3][k]? = some v ∧ WS w v L := fun k L hk => by
  rcases k with _ | _ | _ | k
  · cases hk; exact ⟨_, rfl, h1⟩
  · cases hk; exact ⟨_, rfl, h2⟩
  · cases hk; exact ⟨_, rfl, h3⟩
  · cases hk
theorem five_at {w : World} {v1 v2 v3 v4 v5 : Value} {L1 L2 L3 L4 L5 : List Wk} (h1 : WS w v1 L1) (h2 : WS w v2 L2) (h3 : WS w v3 L3) (h4 : WS w v4 L4) (h5 : WS w v5 L5) : ∀ (k : Nat) L, [L1, L2, L3, L4, L5][k]? = some L → ∃ v, [v1, v2, v3, v4, v5][k]? = some v ∧ WS w v L := fun k L hk => by
  rcases k with _ | _ | _ | _ | _ | k
  · cases hk; exact ⟨_, rfl, h1⟩
  · cases hk; exact ⟨_, rfl, h2⟩
  · cases hk; exact ⟨_, rfl, h3⟩
  · cases hk; exact ⟨_, rfl, h4⟩
  · cases hk; exact ⟨_, rfl, h5⟩
  · cases hk
theorem one_up (wd : ByteArray) (a : Int) : upL wd a 1 = [⟨a, wd⟩] := by simp [upL]
set_option maxHeartbeats 4000000 in
set_option maxRecDepth 100000 in
theorem fanRow_any (n : Nat) (h1 : 1 ≤ n) (h2 : n ≤ 100) (w : World) : Calls Try.prog 43 #[.int .i64 (n : Int)] w fun e w' => ∃ v, e = .returned v ∧ WO w.heap.size w' v (fanRowL n) ∧ Below w.heap.size w w' := by
  have C1 := Lib.hid (fun t ht W => along_up sCTC 0 n h1 (by omega) (by omega) t ht W)
  have C2 := Lib.hid (fun a t ha ht W => along_up sRP a 1 (by omega) (by omega) ha t ht W)
  have C3 := Lib.hid (fun a t ha ht W => along_dn sCTC a n h1 (by omega) ha t ht W)
  have hln : (catL [upL sCTC 0 n, upL sRP ((n : Int) - 1) 1, dnL sCTC ((n : Int) - 1) n]).length < 50000 := by
    simp [catL, upL_len, dnL_len]; omega
  have hcat : catL [upL sCTC 0 n, upL sRP ((n : Int) - 1) 1, dnL sCTC ((n : Int) - 1) n] = fanRowL n := by
    simp [catL, fanRowL, one_up]
  have HLN := Lib.hid hln
  have HCAT := Lib.hid hcat
  clear hln hcat
  go_enter Try.func43, Try.ntmps43
  go_wp2_with fail
  refine (C1.out _ ?_ _).mono ?_
  · omega
  rintro e w1 ⟨v1, rfl, ho, hb⟩
  have S1 := Lib.hid (ws_own ho)
  have B1 := Lib.hid hb
  clear hb ho
  go_wp2_with fail
  refine (C2.out ((n : Int) - 1) ((n : Int) - 1) ?_ ?_ _).mono ?_
  · omega
  · omega
  rintro e w2 ⟨v2, rfl, ho, hb⟩
  replace S1 := Lib.hid (S1.out.below hb)
  have S2 := Lib.hid (ws_own ho)
  have B2 := Lib.hid (B1.out.trans (hb.mono B1.out.size))
  clear hb ho
  go_wp2_with fail
  refine (C3.out ((n : Int) - 1) 0 ?_ ?_ _).mono ?_
  · omega
  · omega
  rintro e w3 ⟨v3, rfl, ho, hb⟩
  replace S1 := Lib.hid (S1.out.below hb)
  replace S2 := Lib.hid (S2.out.below hb)
  have S3 := Lib.hid (ws_own ho)
  have B3 := Lib.hid (B2.out.trans (hb.mono B2.out.size))
  clear hb ho
  obtain ⟨a1, c1, e1, _⟩ := S1.out
  obtain ⟨a2, c2, e2, _⟩ := S2.out
  obtain ⟨a3, c3, e3, _⟩ := S3.out
  subst e1 e2 e3
  skip
  have CC := Lib.hid (Concat_any w3.heap.size 3 [upL sCTC 0 n, upL sRP ((n : Int) - 1) 1, dnL sCTC ((n : Int) - 1) n] (w3.alloc (.cells #[.slice a1 (upL sCTC 0 n).length c1, .slice a2 (upL sRP ((n : Int) - 1) 1).length c2, .slice a3 (dnL sCTC ((n : Int) - 1) n).length c3] 22)) rfl (by decide) (by simp) (hatN [.slice a1 (upL sCTC 0 n).length c1, .slice a2 (upL sRP ((n : Int) - 1) 1).length c2, .slice a3 (dnL sCTC ((n : Int) - 1) n).length c3] _ _ (three_at S1.out S2.out S3.out)) HLN.out)
  rw [HCAT.out] at CC
  go_wp2_with fail
  refine CC.out.mono ?_
  rintro e w4 ⟨v4, rfl, ho, hb⟩
  have hs3 := B3.out.size
  have O4 := Lib.hid (ho.mono (show w.heap.size ≤ (w3.alloc (.cells #[.slice a1 (upL sCTC 0 n).length c1, .slice a2 (upL sRP ((n : Int) - 1) 1).length c2, .slice a3 (dnL sCTC ((n : Int) - 1) n).length c3] 22)).heap.size by simp; omega))
  have B4 := Lib.hid (B3.out.trans (((below_alloc w3 _).trans (hb.mono (by simp))).mono B3.out.size))
  clear ho hb
  go_wp2_with fail
  go_ret
  exact ⟨_, rfl, O4.out, B4.out⟩
theorem legs_next (t k : Nat) : ((List.range (k + 1)).map fun (k : Nat) => (⟨2 * (k : Int), sT t⟩ : Wk)) = ((List.range k).map fun (k : Nat) => (⟨2 * (k : Int), sT t⟩ : Wk)) ++ [⟨2 * (k : Int), sT t⟩] := by simp [List.range_succ]
set_option maxHeartbeats 4000000 in
set_option maxRecDepth 100000 in
theorem legs_any (n t : Nat) (h1 : n ≤ 100) (h2 : t ≤ 100) (w : World) : Calls Try.prog 39 #[.int .i64 (n : Int), .int .i64 (t : Int)] w fun e w' => ∃ v, e = .returned v ∧ WO w.heap.size w' v (legsL n t) ∧ Below w.heap.size w w' := by
  by_cases ht : t = 0
  · subst ht
    go_enter Try.func39, Try.ntmps39
    go_wp2_with fail
    go_ret
    exact ⟨_, rfl, wo_nil _ _, Below.refl _ _⟩
  · have t0 : ((t : Int) == 0) = false := by rw [beq_eq_false_iff_ne]; omega
    have hL : legsL n t = (List.range n).map fun (k : Nat) => ⟨2 * (k : Int), sT t⟩ := by unfold legsL; rw [if_neg ht]
    have HL := Lib.hid hL
    have hrun : runsL [(84, t)] = List.replicate t 84 := by simp [runsL]
    have CW : ∀ (g : Nat) (W : World), g < W.heap.size → W.rangeAt g 0 [.string ⟨#[84]⟩, .int .i64 (t : Int)] → Calls Try.prog 37 #[.slice (some ⟨g, 0, none⟩) 1 1] W fun e w' => e = .returned (.string (sT t)) ∧ Below W.heap.size W w' := fun g W hg hr => by
      have := word_any [(84, t)] 1 rfl (by decide) (fun r hr => by rw [List.mem_singleton.1 hr]; exact h2) g W hg (fun k r hk => by
        rcases k with _ | k
        · cases hk
          rw [Nat.zero_mul]
          exact hr
        · cases hk)
      rw [hrun] at this
      exact this
    have HCW := Lib.hid CW
    clear hL hrun ht CW
    go_enter Try.func39, Try.ntmps39
    go_wp2_with fail
    go_loopw [5, 10] (fun v i wr => ∃ k : Nat, k ≤ n ∧ i = .int .i64 (k : Int) ∧ WO w.heap.size wr v ((List.range k).map fun (k : Nat) => ⟨2 * (k : Int), sT t⟩) ∧ Below w.heap.size w wr) (fun _ i _ => n - (intOf i).toNat)
    case atStart => exact ⟨0, Nat.zero_le _, rfl, wo_nil _ _, Below.refl _ _⟩
    case round =>
      obtain ⟨k, hk, rfl, hown, hbw⟩ := hrel
      have HO := Lib.hid hown
      have HB := Lib.hid hbw
      clear hown hbw
      rename World => wk
      by_cases hkl : k < n
      · have k0 : (0 : Int) ≤ (k : Int) := by omega
        have k1 : (k : Int) < (n : Int) := by omega
        have HN := Lib.hid (legs_next t k)
        have hlen : ((List.range k).map fun (k : Nat) => (⟨2 * (k : Int), sT t⟩ : Wk)).length ≤ 100 := by simp; omega
        generalize ((List.range k).map fun (k : Nat) => (⟨2 * (k : Int), sT t⟩ : Wk)) = D at *
        have HR := Lib.hid (show (wk.alloc (.cells #[.string ⟨#[84]⟩, .int .i64 (t : Int)] 56)).rangeAt wk.heap.size 0 [.string ⟨#[84]⟩, .int .i64 (t : Int)] from fun j v hj => by
          rw [Nat.zero_add, World.cell?_alloc_new, List.getElem?_toArray]; exact hj)
        go_wp2_with fail
        refine (HCW.out wk.heap.size _ (by simp) HR.out).mono ?_
        rintro e w2 ⟨rfl, hb⟩
        have hb2 : Below wk.heap.size wk w2 := (below_alloc wk _).trans (hb.mono (by simp))
        have HO2 := Lib.hid (HO.out.below hb2)
        have HB2 := Lib.hid (HB.out.trans (hb2.mono HB.out.size))
        clear hb hb2 HO HB
        go_wp2_with fail
        refine (stitch_any (sT t) _ _).mono ?_
        rintro e w3 ⟨rfl, hb⟩
        have HO3 := Lib.hid (HO2.out.below hb)
        have HB3 := Lib.hid (HB2.out.trans (hb.mono HB2.out.size))
        clear hb HO2 HB2
        go_wp2_with (refine app_wk w.heap.size _ D ⟨2 * (k : Int), sT t⟩ rfl _ _ rfl rfl HO3.out rfl (by omega) HB3.out HB3.out.size ?_)
        intro v' w' ho' hb'
        have HO4 := Lib.hid ho'
        have HB4 := Lib.hid hb'
        clear ho' hb'
        go_wp2_with fail
        go_roundw
        case rel => exact ⟨k + 1, hkl, by go_num, by rw [HN.out]; exact HO4.out, HB4.out⟩
        case measure => (simp [intOf] <;> omega)
      · have k1 : ¬ (k : Int) < (n : Int) := by omega
        obtain rfl : k = n := by omega
        go_wp2_with fail
        go_ret
        rw [HL.out]
        exact ⟨_, rfl, HO.out, HB.out⟩
end Go.Proofs.Ytgbdccoimmkmeaa
