/- The motifs of the reference: letters, body, Picot, Windmill. -/
import Derived.Test.YtgbdccoimmkmeaaWP
namespace Go.Proofs.Ytgbdccoimmkmeaa
theorem cat_lit (L M : List UInt8) : (⟨L.toArray⟩ : ByteArray) ++ ⟨M.toArray⟩ = ⟨(L ++ M).toArray⟩ := by
  apply ByteArray.ext
  apply Array.toList_inj.1
  rw [ByteArray.data_append, Array.toList_append]
open Go.RowKit
set_option linter.unusedSimpArgs false
set_option maxHeartbeats 1000000 in
set_option maxRecDepth 100000 in
theorem letters_any (c : UInt8) (n : Nat) (hn : n ≤ 1000) (w : World) : Calls Try.prog 38 #[.string ⟨#[c]⟩, .int .i64 (n : Int)] w fun e w' => e = .returned (.string ⟨(List.replicate n c).toArray⟩) ∧ w' = w := by
  go_enter Try.func38, Try.ntmps38
  go_wp2_with fail
  go_loopw [5, 6] (fun vo i wr => ∃ k : Nat, k ≤ n ∧ i = .int .i64 k ∧ vo = .string ⟨(List.replicate k c).toArray⟩ ∧ wr = w) (fun _ i _ => n - (intOf i).toNat)
  case atStart => exact ⟨0, Nat.zero_le _, rfl, rfl, rfl⟩
  case round =>
    obtain ⟨k, hk, rfl, rfl, rfl⟩ := hrel
    by_cases hkl : k < n
    · have k1 : (k : Int) < (n : Int) := by omega
      have HL := Lib.hid (cat_lit (List.replicate k c) [c])
      have hl1 : (⟨(List.replicate k c).toArray⟩ : ByteArray).size ≤ 1000 := by
        show ((List.replicate k c).toArray).size ≤ 1000
        simp only [List.size_toArray, List.length_replicate]; omega
      have hl2 : (⟨#[c]⟩ : ByteArray).size ≤ 1000 := by show (#[c] : Array UInt8).size ≤ 1000; simp
      go_wp2_with fail
      go_roundw
      case rel => exact ⟨k + 1, hkl, by go_num, by rw [List.replicate_succ']; exact congrArg Value.string HL.out, by first | trivial | rfl⟩
      case measure => (simp [intOf] <;> omega)
    · have k1 : ¬ (k : Int) < (n : Int) := by omega
      obtain rfl : k = n := by omega
      go_wp2_with fail
      go_ret
      exact ⟨rfl, by first | trivial | rfl⟩
set_option maxHeartbeats 4000000 in
set_option maxRecDepth 100000 in
theorem refbody_any (n : Nat) (h1 : 1 ≤ n) (h2 : n ≤ 10) (w : World) : Calls Try.prog 42 #[.int .i64 (n : Int)] w fun e w' => ∃ v, e = .returned v ∧ WO w.heap.size w' v (bodyL n) ∧ Below w.heap.size w w' := by
  go_enter Try.func42, Try.ntmps42
  go_wp2_with fail
  go_loopw [3, 4] (fun v i wr => ∃ k : Nat, k ≤ n ∧ i = .int .i64 ((n : Int) - 1 - (k : Int)) ∧ WO w.heap.size wr v (bodyK n k) ∧ Below w.heap.size w wr) (fun _ i _ => (intOf i + 1).toNat)
  case atStart => exact ⟨0, Nat.zero_le _, by congr 1; omega, wo_nil _ _, Below.refl _ _⟩
  case round =>
    obtain ⟨k, hk, rfl, hown, hbw⟩ := hrel
    have HO := Lib.hid hown
    have HB := Lib.hid hbw
    clear hown hbw
    rename World => wk
    by_cases hkl : k < n
    · obtain ⟨z, hz⟩ : ∃ z : Int, z = (n : Int) - 1 - (k : Int) := ⟨_, rfl⟩
      have HN := Lib.hid (show bodyK n (k + 1) = bodyK n k ++ upL sCTC z n by rw [bodyK_next, hz])
      have hlen : (bodyK n k).length ≤ 100 := by
        rw [bodyK_len]
        exact Nat.mul_le_mul (by omega : k ≤ 10) h2
      rw [← hz]
      have HZ := Lib.hid hz
      have z0 : 0 ≤ z := by omega
      have z1 : z ≤ 10 := by omega
      clear hz
      generalize bodyK n k = D at *
      go_wp2_with fail
      go_loopw [3, 5] (fun v i wr => ∃ j : Nat, j ≤ n ∧ i = .int .i64 (j : Int) ∧ WO w.heap.size wr v (D ++ upL sCTC z j) ∧ Below w.heap.size w wr) (fun _ i _ => n - (intOf i).toNat)
      case atStart => exact ⟨0, Nat.zero_le _, rfl, by simpa [upL] using HO.out, HB.out⟩
      case round =>
        obtain ⟨j, hj, rfl, hown, hbw⟩ := hrel
        have HO := Lib.hid hown
        have HB := Lib.hid hbw
        clear hown hbw
        rename World => wj
        by_cases hjl : j < n
        · have j0 : (0 : Int) ≤ (j : Int) := by omega
          have j1 : (j : Int) < (n : Int) := by omega
          have HNX := Lib.hid (upL_next sCTC z j)
          have hl3 : (D ++ upL sCTC z j).length ≤ 1000 := by rw [List.length_append, upL_len]; omega
          have HAS := Lib.hid (List.append_assoc D (upL sCTC z j) [⟨z + (j : Int), sCTC⟩])
          generalize D ++ upL sCTC z j = E at *
          go_wp2_with fail
          refine (refstitch_any sCTC _ _).mono ?_
          rintro e w3 ⟨rfl, hb⟩
          have HO3 := Lib.hid (HO.out.below hb)
          have HB3 := Lib.hid (HB.out.trans (hb.mono HB.out.size))
          clear hb
          go_wp2_with (refine app_wk w.heap.size _ E ⟨z + (j : Int), sCTC⟩ rfl _ _ rfl rfl HO3.out rfl (by omega) HB3.out HB3.out.size ?_)
          intro v' w' ho' hb'
          have HO4 := Lib.hid ho'
          have HB4 := Lib.hid hb'
          clear ho' hb'
          go_wp2_with fail
          go_roundw
          case rel => exact ⟨j + 1, hjl, by go_num, by rw [HNX.out]; first | (rw [← HAS.out]; exact HO4.out) | exact HO4.out, HB4.out⟩
          case measure => (simp [intOf] <;> omega)
        · have j1 : ¬ (j : Int) < (n : Int) := by omega
          obtain rfl : j = n := by omega
          go_wp2_with fail
          go_roundw
          case rel => exact ⟨k + 1, hkl, by have := HZ.out; congr 1; omega, by rw [HN.out]; exact HO.out, HB.out⟩
          case measure => have := HZ.out; simp [intOf]; omega
    · have e : k = n := by omega
      subst e
      have z0 : ¬ 0 ≤ (k : Int) - 1 - (k : Int) := by omega
      go_wp2_with fail
      go_ret
      exact ⟨_, rfl, HO.out, HB.out⟩
set_option maxHeartbeats 4000000 in
set_option maxRecDepth 100000 in
theorem refPicot_any (n : Int) (w : World) : Calls Try.prog 11 #[.int .i64 n] w (Out (picotM n) w) := by
  by_cases h : 1 ≤ n ∧ n ≤ 7
  · have h1 : ¬ n < 1 := by omega
    have h2 : ¬ 7 < n := by omega
    obtain ⟨k, rfl⟩ : ∃ k : Nat, n = (k : Int) := ⟨n.toNat, by omega⟩
    have hM : picotM (k : Int) = ⟨2, [⟨0, picotW k⟩], 0⟩ := by unfold picotM; rw [if_pos h]; simp
    have hk7 : k ≤ 7 := by omega
    have CL := Lib.hid (fun W => letters_any 76 k (by omega) W)
    have hw1 := cat_lit (List.replicate k 76) [80]
    have hw2 := cat_lit (List.replicate k 76 ++ [80]) (List.replicate k 76)
    have hpw : (⟨(List.replicate k 76).toArray⟩ : ByteArray) ++ ⟨#[80]⟩ ++ ⟨(List.replicate k 76).toArray⟩ = picotW k := by
      show _ ++ (⟨[80].toArray⟩ : ByteArray) ++ _ = _
      rw [hw1, hw2]; rfl
    have z1 : (⟨(List.replicate k 76).toArray⟩ : ByteArray).size ≤ 100 := by show ((List.replicate k 76).toArray).size ≤ 100; simp only [List.size_toArray, List.length_replicate]; omega
    have z2 : ((⟨(List.replicate k 76).toArray⟩ : ByteArray) ++ ⟨#[80]⟩).size ≤ 200 := by rw [ByteArray.size_append]; show _ + 1 ≤ 200; omega
    have z3 : (⟨#[80]⟩ : ByteArray).size ≤ 100 := by decide
    have HPW := Lib.hid hpw
    clear hw1 hw2 hpw
    rw [hM]
    unfold Out
    clear hM h
    generalize (⟨(List.replicate k 76).toArray⟩ : ByteArray) = LT at *
    go_enter Try.func11, Try.ntmps11
    go_wp2_with fail
    have h0 : (w.alloc (.cells #[.int .i64 0, .slice none 0 0] 24)).heap[w.heap.size]? = some (.cells #[.int .i64 0, .slice none 0 0] 24 (0, 0)) := heap_alloc_new _ _
    have D0 := Lib.hid (below_alloc w (.cells #[.int .i64 0, .slice none 0 0] 24))
    have H0 := Lib.hid h0
    clear h0
    have hgs : w.heap.size < (w.alloc (.cells #[.int .i64 0, .slice none 0 0] 24)).heap.size := by simp
    generalize (w.alloc (.cells #[.int .i64 0, .slice none 0 0] 24)) = wa at *
    refine (CL.out _).mono ?_
    rintro e w1 ⟨rfl, hw⟩
    obtain rfl := hw.symm
    clear hw
    go_wp2_with fail
    refine (CL.out _).mono ?_
    rintro e w1 ⟨rfl, hw⟩
    obtain rfl := hw.symm
    clear hw
    go_wp2_with fail
    skip
    refine (refstitch_any _ 0 _).mono ?_
    rintro e w1 ⟨rfl, hb⟩
    replace H0 := Lib.hid (hb_below hb H0.out (by omega))
    have hz1 := hb.size
    have D1 := Lib.hid (D0.out.trans (hb.mono D0.out.size))
    clear hb
    have O2 : Hid (WO (w.heap.size + 1) (w1.alloc (.cells #[.int .i64 1, .int .i64 0, .string (LT ++ ⟨#[80]⟩ ++ LT)] 51)) (.slice (some ⟨w1.heap.size, 0, none⟩) 1 1) [⟨0, picotW k⟩]) := by
      have := World.ownsRow_lit w1 #[.int .i64 1, .int .i64 0, .string (LT ++ ⟨#[80]⟩ ++ LT)] 1 (base := w.heap.size + 1) (e := 51) (size := 3) (by omega) (by unfold maxLen; omega) rfl
      rw [← HPW.out]
      exact this
    replace H0 := Lib.hid (hb_below (below_alloc w1 (.cells #[.int .i64 1, .int .i64 0, .string (LT ++ ⟨#[80]⟩ ++ LT)] 51)) H0.out (by omega))
    have D2 := Lib.hid (D1.out.trans ((below_alloc w1 (.cells #[.int .i64 1, .int .i64 0, .string (LT ++ ⟨#[80]⟩ ++ LT)] 51)).mono D1.out.size))
    go_wp2_with (refine store_row rfl _ _ _ rfl w.heap.size _ rfl rfl _ _ H0.out (by kernel_rfl) rfl (by kernel_rfl) ?_)
    intro wf hf hk hzf hB
    have HF := Lib.hid hf
    have SF := Lib.hid (ws_own (wo_keep O2.out (Nat.lt_succ_self _) (fun k ob h hn => (hk k hn).trans h)))
    have DF := Lib.hid (hB _ _ D2.out (Nat.le_refl _))
    clear hf hk hzf hB
    go_wp2_with fail
    exact bodyPost_ret (results_bt rfl _ _ w.heap.size rfl rfl HF.out Try.underlying24 rfl (by kernel_rfl)) rfl ⟨_, rfl, SF.out, DF.out⟩
  · have hM : picotM n = moBad 7 := by unfold picotM; rw [if_neg h]
    rw [hM]
    unfold Out moBad
    by_cases h1 : n < 1
    · clear hM h
      go_enter Try.func11, Try.ntmps11
      go_wp2_with fail
      exact bodyPost_ret (results_bt rfl _ _ w.heap.size rfl rfl (heap_alloc_new _ _) Try.underlying24 rfl (by kernel_rfl)) rfl ⟨_, rfl, ws_nil _, below_alloc w _⟩
    · have h2 : 7 < n := by omega
      clear hM h
      go_enter Try.func11, Try.ntmps11
      go_wp2_with fail
      exact bodyPost_ret (results_bt rfl _ _ w.heap.size rfl rfl (heap_alloc_new _ _) Try.underlying24 rfl (by kernel_rfl)) rfl ⟨_, rfl, ws_nil _, below_alloc w _⟩
set_option maxHeartbeats 4000000 in
set_option maxRecDepth 100000 in
theorem refWindmill_any (w : World) : Calls Try.prog 20 #[] w fun e w' => ∃ v, e = .returned (.agg #[.int .i64 4, v]) ∧ WS w' v millL ∧ Below w.heap.size w w' := by
  go_enter Try.func20, Try.ntmps20
  go_wp2_with fail
  have h0 : (w.alloc (.cells #[.int .i64 0, .slice none 0 0] 24)).heap[w.heap.size]? = some (.cells #[.int .i64 0, .slice none 0 0] 24 (0, 0)) := heap_alloc_new _ _
  have D0 := Lib.hid (below_alloc w (.cells #[.int .i64 0, .slice none 0 0] 24))
  have H0 := Lib.hid h0
  clear h0
  have hgs : w.heap.size < (w.alloc (.cells #[.int .i64 0, .slice none 0 0] 24)).heap.size := by simp
  generalize (w.alloc (.cells #[.int .i64 0, .slice none 0 0] 24)) = wa at *
  refine (refstitch_any sCTC 1 _).mono ?_
  rintro e w1 ⟨rfl, hb⟩
  replace H0 := Lib.hid (hb_below hb H0.out (by omega))
  have hz1 := hb.size
  have D1 := Lib.hid (D0.out.trans (hb.mono D0.out.size))
  clear hb
  go_wp2_with fail
  refine (refstitch_any sCTC 0 _).mono ?_
  rintro e w2 ⟨rfl, hb⟩
  replace H0 := Lib.hid (hb_below hb H0.out (by omega))
  have hz2 := hb.size
  have D2 := Lib.hid (D1.out.trans (hb.mono D1.out.size))
  clear hb
  go_wp2_with fail
  refine (refstitch_any sCTC 2 _).mono ?_
  rintro e w3 ⟨rfl, hb⟩
  replace H0 := Lib.hid (hb_below hb H0.out (by omega))
  have hz3 := hb.size
  have D3 := Lib.hid (D2.out.trans (hb.mono D2.out.size))
  clear hb
  go_wp2_with fail
  refine (refstitch_any sP 1 _).mono ?_
  rintro e w4 ⟨rfl, hb⟩
  replace H0 := Lib.hid (hb_below hb H0.out (by omega))
  have hz4 := hb.size
  have D4 := Lib.hid (D3.out.trans (hb.mono D3.out.size))
  clear hb
  go_wp2_with fail
  refine (refstitch_any sCTC 1 _).mono ?_
  rintro e w5 ⟨rfl, hb⟩
  replace H0 := Lib.hid (hb_below hb H0.out (by omega))
  have hz5 := hb.size
  have D5 := Lib.hid (D4.out.trans (hb.mono D4.out.size))
  clear hb
  have O6 : Hid (WO (w.heap.size + 1) (w5.alloc (.cells #[.int .i64 1, .int .i64 1, .string sCTC, .int .i64 1, .int .i64 0, .string sCTC, .int .i64 1, .int .i64 2, .string sCTC, .int .i64 1, .int .i64 1, .string sP, .int .i64 1, .int .i64 1, .string sCTC] 51)) (.slice (some ⟨w5.heap.size, 0, none⟩) 5 5) millL) := Lib.hid (World.ownsRow_lit w5 _ 5 (by omega) (by unfold maxLen; omega) rfl)
  replace H0 := Lib.hid (hb_below (below_alloc w5 (.cells #[.int .i64 1, .int .i64 1, .string sCTC, .int .i64 1, .int .i64 0, .string sCTC, .int .i64 1, .int .i64 2, .string sCTC, .int .i64 1, .int .i64 1, .string sP, .int .i64 1, .int .i64 1, .string sCTC] 51)) H0.out (by omega))
  have D6 := Lib.hid (D5.out.trans ((below_alloc w5 (.cells #[.int .i64 1, .int .i64 1, .string sCTC, .int .i64 1, .int .i64 0, .string sCTC, .int .i64 1, .int .i64 2, .string sCTC, .int .i64 1, .int .i64 1, .string sP, .int .i64 1, .int .i64 1, .string sCTC] 51)).mono D5.out.size))
  go_wp2_with (refine store_row rfl _ _ _ rfl w.heap.size _ rfl rfl _ _ H0.out (by kernel_rfl) rfl (by kernel_rfl) ?_)
  intro wf hf hk hzf hB
  have HF := Lib.hid hf
  have SF := Lib.hid (ws_own (wo_keep O6.out (Nat.lt_succ_self _) (fun k ob h hn => (hk k hn).trans h)))
  have DF := Lib.hid (hB _ _ D6.out (Nat.le_refl _))
  clear hf hk hzf hB
  go_wp2_with fail
  exact bodyPost_ret (results_b rfl _ _ w.heap.size rfl HF.out Try.underlying24 rfl (by kernel_rfl)) rfl ⟨_, rfl, SF.out, DF.out⟩
end Go.Proofs.Ytgbdccoimmkmeaa
