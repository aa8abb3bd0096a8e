/- body, fanRow of the program; sheets in boxes. -/
import Derived.Test.YtgbdccoimmkmeaaWG
namespace Go.Proofs.Ytgbdccoimmkmeaa
theorem bodyL_len (n : Nat) : (bodyL n).length = n * n := by
  unfold bodyL
  have key : ∀ k, ((List.range k).flatMap fun (j : Nat) => upL sCTC ((n : Int) - 1 - (j : Int)) n).length = k * n := by
    intro k
    induction k with
    | zero => simp
    | succ k ih => rw [List.range_succ, List.flatMap_append, List.length_append, ih, Nat.succ_mul]; simp [upL_len]
  exact key n
def bodyK (n k : Nat) : List Wk := (List.range k).flatMap fun (j : Nat) => upL sCTC ((n : Int) - 1 - (j : Int)) n
theorem bodyK_next (n k : Nat) : bodyK n (k + 1) = bodyK n k ++ upL sCTC ((n : Int) - 1 - (k : Int)) n := by simp [bodyK, List.range_succ]
theorem bodyK_len (n k : Nat) : (bodyK n k).length = k * n := by
  induction k with
  | zero => simp [bodyK]
  | succ k ih => rw [bodyK_next, List.length_append, ih, upL_len, Nat.succ_mul]
theorem fanRow_len (k : Nat) : (fanRowL k).length = 2 * k + 1 := by
  unfold fanRowL
  rw [List.length_append, List.length_append, upL_len, dnL_len]; simp; omega
open Go.RowKit
set_option linter.unusedSimpArgs false
set_option maxHeartbeats 2000000 in
set_option maxRecDepth 100000 in
theorem body_any (n : Nat) (h1 : 1 ≤ n) (h2 : n ≤ 10) (w : World) : Calls Try.prog 40 #[.int .i64 (n : Int)] w fun e w' => ∃ v, e = .returned v ∧ WO w.heap.size w' v (bodyL n) ∧ Below w.heap.size w w' := by
  go_enter Try.func40, Try.ntmps40
  go_wp2_with fail
  go_loopw [3, 4] (fun v i wr => ∃ k : Nat, k ≤ n ∧ i = .int .i64 ((n : Int) - 1 - (k : Int)) ∧ WO w.heap.size wr v (bodyK n k) ∧ Below w.heap.size w wr) (fun _ i _ => (intOf i + 1).toNat)
  case atStart => exact ⟨0, Nat.zero_le _, by congr 1; omega, wo_nil _ _, Below.refl _ _⟩
  case round =>
    obtain ⟨k, hk, rfl, hown, hbw⟩ := hrel
    have HO := Lib.hid hown
    have HB := Lib.hid hbw
    clear hown hbw
    rename World => wk
    by_cases hkl : k < n
    · obtain ⟨z, hz⟩ : ∃ z : Int, z = (n : Int) - 1 - (k : Int) := ⟨_, rfl⟩
      have HN := Lib.hid (show bodyK n (k + 1) = bodyK n k ++ upL sCTC z n by rw [bodyK_next, hz])
      have hlen : (bodyK n k).length ≤ 100 := by
        rw [bodyK_len]
        exact Nat.mul_le_mul (by omega : k ≤ 10) h2
      have CA := Lib.hid (fun t ht W => along_up sCTC z n h1 (by omega) (by omega) t ht W)
      rw [← hz]
      have HZ := Lib.hid hz
      have z0 : 0 ≤ z := by omega
      have z1 : z ≤ 10 := by omega
      clear hz
      generalize bodyK n k = D at *
      go_wp2_with fail
      refine (CA.out _ ?_ _).mono ?_
      · omega
      rintro e w3 ⟨u, rfl, hu, hb⟩
      have HO3 := Lib.hid (HO.out.below hb)
      have HB3 := Lib.hid (HB.out.trans (hb.mono HB.out.size))
      have HU := Lib.hid (ws_own hu)
      clear hu hb
      go_wp2_with (refine app_wks w.heap.size _ D _ rfl _ _ rfl rfl HO3.out _ rfl HU.out (by rw [upL_len]; omega) HB3.out HB3.out.size ?_)
      intro v' w' ho' hb'
      have HO4 := Lib.hid ho'
      have HB4 := Lib.hid hb'
      clear ho' hb'
      go_wp2_with fail
      go_roundw
      case rel => exact ⟨k + 1, hkl, by have := HZ.out; congr 1; omega, by rw [HN.out]; exact HO4.out, HB4.out⟩
      case measure => have := HZ.out; simp [intOf]; omega
    · have e : k = n := by omega
      subst e
      have z0 : ¬ 0 ≤ (k : Int) - 1 - (k : Int) := by omega
      go_wp2_with fail
      go_ret
      exact ⟨_, rfl, HO.out, HB.out⟩
end Go.Proofs.Ytgbdccoimmkmeaa
