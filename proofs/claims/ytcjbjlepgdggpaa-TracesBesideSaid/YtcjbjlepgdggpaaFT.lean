/- The index of a byte in a text, by the reference. -/
import Derived.Test.YtcjbjlepgdggpaaFL
namespace Go.Proofs.Ytcjbjlepgdggpaa
open Go.RowKit Go.Shelf Go.Lib
attribute [local go_sem] Oper.semAt_some
/-- Where a byte comes first in a list, counted from k; -1: nowhere. -/
def idxL (c : UInt8) : List UInt8 → Nat → Int
  | [], _ => -1
  | b :: l, k => if b = c then (k : Int) else idxL c l (k + 1)
set_option maxHeartbeats 1000000 in
theorem refIndex_any (s : ByteArray) (c : UInt8) (hs : s.size ≤ 100000) (w : World) :
    Calls Try.prog 74 #[.string s, .int .u8 (c.toNat : Int)] w fun e w' => e = .returned (.int .i64 (idxL c s.data.toList 0)) ∧ w' = w := by
  obtain ⟨r, hr⟩ : ∃ r, r = idxL c s.data.toList 0 := ⟨_, rfl⟩
  rw [← hr]
  go_enter Try.func74, Try.ntmps74
  go_wp2_with fail
  go_loopw [5] (fun i wr => ∃ k : Nat, i = .int .i64 k ∧ k ≤ s.size ∧ r = idxL c (s.data.toList.drop k) k ∧ wr = w) (fun i _ => s.size - (intOf i).toNat)
  case atStart => exact ⟨0, rfl, Nat.zero_le _, hr, rfl⟩
  case round =>
    clear hr
    obtain ⟨k, rfl, hk, he, rfl⟩ := hrel
    have He := Lib.hid he
    clear he
    by_cases hkl : k < s.size
    · have j0 : (0 : Int) ≤ (k : Int) := by omega
      have j1 : (k : Int) < (s.size : Int) := by omega
      have hd : s.data.toList.drop k = s[k] :: s.data.toList.drop (k + 1) := List.drop_eq_getElem_cons (by rw [size_len]; exact hkl)
      by_cases hc : s[k] = c
      · have hb : ((s[k].toNat : Int) == (c.toNat : Int)) = true := by rw [hc]; exact beq_self_eq_true _
        have hE := Lib.hid (show r = (k : Int) by rw [He.out, hd]; exact if_pos hc)
        clear hd hc
        go_wp2_with fail
        go_ret
        rw [hE.out]
        exact ⟨rfl, rfl⟩
      · have hb : ((s[k].toNat : Int) == (c.toNat : Int)) = false := by
          rw [beq_eq_false_iff_ne]
          intro e
          exact hc (UInt8.toNat_inj.1 (by exact_mod_cast e))
        have hE := Lib.hid (show r = idxL c (s.data.toList.drop (k + 1)) (k + 1) by rw [He.out, hd]; exact if_neg hc)
        clear hd hc
        go_wp2_with fail
        go_roundw
        case rel => exact ⟨k + 1, by go_num, hkl, hE.out, by first | trivial | rfl⟩
        case measure => (simp [intOf] <;> omega)
    · have j1 : ¬ (k : Int) < (s.size : Int) := by omega
      have hE := Lib.hid (He.out.trans (by rw [List.drop_eq_nil_of_le (by rw [size_len]; omega)]))
      go_wp2_with fail
      go_ret
      rw [hE.out]
      exact ⟨rfl, rfl⟩
end Go.Proofs.Ytcjbjlepgdggpaa
