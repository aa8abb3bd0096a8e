/- The check of a word, by the reference of layer 3. -/
import Derived.Test.YtcjbjlepgdggpaaFT
namespace Go.Proofs.Ytcjbjlepgdggpaa
open Go.RowKit Go.Shelf Go.Lib
attribute [local go_sem] Oper.semAt_some
def lettersU : List UInt8 := [67, 84, 76, 82, 80, 99, 116, 108, 114]
theorem refP (c : UInt8) : idxL c lettersU 0 < 0 ↔ isLt c = false := by
  have h : ∀ n : Fin 256, (decide (idxL (UInt8.ofNat n.val) lettersU 0 < 0)) = !isLt (UInt8.ofNat n.val) := by decide +kernel
  have h2 := h ⟨c.toNat, c.toNat_lt⟩
  simp only [UInt8.ofNat_toNat] at h2
  cases hc : isLt c with
  | true => rw [hc] at h2; simp at h2 ⊢; omega
  | false => rw [hc] at h2; simpa using h2
set_option maxHeartbeats 1000000 in
theorem refCheck3_any (s : ByteArray) (w : World) :
    Calls Try.prog 60 #[.string s] w fun e w' => e = .returned (.int .i64 (stV s)) ∧ w' = w := by
  by_cases hl : 16 < s.size
  · have e0 : stV s = 3 := if_pos hl
    have h1 : (16 : Int) < (s.size : Int) := by omega
    rw [e0]
    clear e0
    go_enter Try.func60, Try.ntmps60
    go_wp2_with fail
    go_ret
    exact ⟨rfl, rfl⟩
  · have e0 : stV s = if s.data.toList.all isLt = true then 0 else 6 := if_neg hl
    have h1 : ¬ (16 : Int) < (s.size : Int) := by omega
    have Z1 := Lib.hid (show s.data.toList.all isLt = true → stV s = 0 from fun h => by rw [e0, if_pos h])
    have Z2 := Lib.hid (show s.data.toList.all isLt = false → stV s = 6 from fun h => by rw [e0, h]; rfl)
    generalize stV s = z at *
    clear e0
    go_enter Try.func60, Try.ntmps60
    go_wp2_with fail
    go_loopw [3] (fun i wr => ∃ k : Nat, k ≤ s.size ∧ i = .int .i64 k ∧ (s.data.toList.take k).all isLt = true ∧ wr = w) (fun i _ => s.size - (intOf i).toNat)
    case atStart => exact ⟨0, Nat.zero_le _, rfl, rfl, rfl⟩
    case round =>
      obtain ⟨k, hk, rfl, hall, rfl⟩ := hrel
      have Hall := Lib.hid hall
      clear hall
      by_cases hlt : k < s.size
      · have j0 : (0 : Int) ≤ (k : Int) := by omega
        have j1 : (k : Int) < (s.size : Int) := by omega
        have hk2 : s.data.toList[k]? = some s[k] := by rw [List.getElem?_eq_getElem (by rw [size_len]; exact hlt)]; rfl
        have CI := Lib.hid (refIndex_any ⟨#[67, 84, 76, 82, 80, 99, 116, 108, 114]⟩ s[k] (by decide) wr)
        obtain ⟨q, hq⟩ : ∃ q, q = idxL s[k] lettersU 0 := ⟨_, rfl⟩
        have hf := refP s[k]
        rw [← hq] at hf
        have CI2 := Lib.hid (show Calls Try.prog 74 #[.string ⟨#[67, 84, 76, 82, 80, 99, 116, 108, 114]⟩, .int .u8 (s[k].toNat : Int)] wr fun e w' => e = .returned (.int .i64 q) ∧ w' = wr by rw [hq]; exact CI.out)
        clear CI hq
        by_cases hc : isLt s[k] = true
        · have hz : ¬ q < 0 := fun h => by rw [hf.1 h] at hc; cases hc
          have Hn := Lib.hid (show (s.data.toList.take (k + 1)).all isLt = true by rw [List.take_add_one, hk2, List.all_append, Hall.out]; simp [hc])
          clear hf hc hk2
          go_wp2_with fail
          refine CI2.out.mono ?_
          rintro e w1 ⟨rfl, rfl⟩
          go_wp2_with fail
          go_roundw
          case rel => exact ⟨k + 1, hlt, by go_num, Hn.out, by first | trivial | rfl⟩
          case measure => (simp [intOf] <;> omega)
        · have hz : q < 0 := hf.2 (by simpa using hc)
          have HZ := Lib.hid (Z2.out (by
            rw [List.all_eq_false]
            exact ⟨s[k], List.mem_of_getElem? hk2, hc⟩))
          clear hf hc hk2
          go_wp2_with fail
          refine CI2.out.mono ?_
          rintro e w1 ⟨rfl, rfl⟩
          go_wp2_with fail
          go_ret
          rw [HZ.out]
          exact ⟨rfl, rfl⟩
      · have j1 : ¬ (k : Int) < (s.size : Int) := by omega
        have HZ := Lib.hid (Z1.out (by have := Hall.out; rwa [List.take_of_length_le (by rw [size_len]; omega)] at this))
        go_wp2_with fail
        go_ret
        rw [HZ.out]
        exact ⟨rfl, rfl⟩
end Go.Proofs.Ytcjbjlepgdggpaa
