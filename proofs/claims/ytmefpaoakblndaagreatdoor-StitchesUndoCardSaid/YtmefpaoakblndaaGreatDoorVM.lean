/- How often a word moves: many, long, Moves on both sides. -/
import Derived.Test.YtmefpaoakblndaaGreatDoorVI
namespace Go.Proofs.YtmefpaoakblndaaGreatDoor
open Go.RowKit Go.Lib
set_option maxHeartbeats 1000000 in
set_option maxRecDepth 100000 in
theorem refmany_any (s : ByteArray) (c : UInt8) (hs : s.size ≤ 1000) (w : World) : Calls Tryz.prog 45 #[.string s, .int .u8 (c.toNat : Int)] w fun e w' => e = .returned (.int .i64 (s.data.toList.count c : Nat)) ∧ w' = w := by
  obtain ⟨r, hr⟩ : ∃ r, r = s.data.toList.count c := ⟨_, rfl⟩
  rw [← hr]
  have Hr := Lib.hid hr
  clear hr
  go_enter Tryz.func45, Tryz.ntmps45
  go_wp2_with fail
  go_loopw [5, 6] (fun vo i wr => ∃ k : Nat, k ≤ s.size ∧ i = .int .i64 k ∧ vo = .int .i64 (((s.data.toList.take k).count c : Nat) : Int) ∧ wr = w) (fun _ i _ => s.size - (intOf i).toNat)
  case atStart => exact ⟨0, Nat.zero_le _, rfl, rfl, rfl⟩
  case round =>
    obtain ⟨k, hk, rfl, rfl, rfl⟩ := hrel
    by_cases hkl : k < s.size
    · have k0 : (0 : Int) ≤ (k : Int) := by omega
      have k1 : (k : Int) < (s.size : Int) := by omega
      have hkb := byte_get hkl
      have hN : (s.data.toList.take (k + 1)).count c = (s.data.toList.take k).count c + if s[k] = c then 1 else 0 := by
        rw [List.take_add_one, hkb, List.count_append]
        simp only [Option.toList_some, List.count_cons, List.count_nil, beq_iff_eq, Nat.zero_add]
      have hcl : (s.data.toList.take k).count c ≤ 1000 := by
        have := List.count_le_length (a := c) (l := s.data.toList.take k)
        rw [List.length_take] at this
        omega
      obtain ⟨q, hq⟩ : ∃ q, q = (s.data.toList.take k).count c := ⟨_, rfl⟩
      rw [← hq] at hN hcl ⊢
      by_cases he : s[k] = c
      · have hb : ((s[k].toNat : Int) == (c.toNat : Int)) = true := by rw [he]; exact beq_self_eq_true _
        rw [if_pos he] at hN
        have HN := Lib.hid hN
        clear hN hkb hq he
        go_wp2_with fail
        go_roundw
        case rel => exact ⟨k + 1, hkl, by go_num, by rw [HN.out]; first | rfl | (congr 1; omega), by first | trivial | rfl⟩
        case measure => (simp [intOf] <;> omega)
      · have hb : ((s[k].toNat : Int) == (c.toNat : Int)) = false := u8_ne he
        rw [if_neg he] at hN
        have HN := Lib.hid hN
        clear hN hkb hq he
        go_wp2_with fail
        go_roundw
        case rel => exact ⟨k + 1, hkl, by go_num, by rw [HN.out]; rfl, by first | trivial | rfl⟩
        case measure => (simp [intOf] <;> omega)
    · have k1 : ¬ (k : Int) < (s.size : Int) := by omega
      have HE := Lib.hid (show s.data.toList.take k = s.data.toList from List.take_of_length_le (by simp; omega))
      go_wp2_with fail
      go_ret
      rw [HE.out, ← Hr.out]
      exact ⟨rfl, by first | trivial | rfl⟩
theorem cat_lit (L M : List UInt8) : (⟨L.toArray⟩ : ByteArray) ++ ⟨M.toArray⟩ = ⟨(L ++ M).toArray⟩ := by
  apply ByteArray.ext
  apply Array.toList_inj.1
  rw [ByteArray.data_append, Array.toList_append]
theorem lng_len (l : List UInt8) : (l.flatMap lng).length ≤ 2 * l.length := by
  induction l with
  | nil => simp
  | cons c l ih =>
    have := byte_all (p := fun c => decide ((lng c).length ≤ 2)) (by decide +kernel) c
    simp only [decide_eq_true_eq] at this
    simp only [List.flatMap_cons, List.length_append, List.length_cons]
    omega
set_option maxHeartbeats 1000000 in
set_option maxRecDepth 100000 in
theorem reflong_any (s : ByteArray) (hs : s.size ≤ 100) (w : World) : Calls Tryz.prog 44 #[.string s] w fun e w' => e = .returned (.string ⟨(s.data.toList.flatMap lng).toArray⟩) ∧ w' = w := by
  go_enter Tryz.func44, Tryz.ntmps44
  go_wp2_with fail
  go_loopw [3, 4] (fun vo i wr => ∃ k : Nat, k ≤ s.size ∧ i = .int .i64 k ∧ vo = .string ⟨((s.data.toList.take k).flatMap lng).toArray⟩ ∧ wr = w) (fun _ i _ => s.size - (intOf i).toNat)
  case atStart => exact ⟨0, Nat.zero_le _, rfl, rfl, rfl⟩
  case round =>
    obtain ⟨k, hk, rfl, rfl, rfl⟩ := hrel
    by_cases hkl : k < s.size
    · have k0 : (0 : Int) ≤ (k : Int) := by omega
      have k1 : (k : Int) < (s.size : Int) := by omega
      have hk2 : (k : Int) + 1 ≤ (s.size : Int) := by omega
      have hkb := byte_get hkl
      have hN : (s.data.toList.take (k + 1)).flatMap lng = (s.data.toList.take k).flatMap lng ++ lng s[k] := by
        rw [List.take_add_one, hkb, List.flatMap_append]; simp
      have hlen := lng_len (s.data.toList.take k)
      rw [List.length_take] at hlen
      have HC := Lib.hid (cat_one ((s.data.toList.take k).flatMap lng) s hkb)
      have HL := Lib.hid (fun M => cat_lit ((s.data.toList.take k).flatMap lng) M)
      have hl1 : (⟨((s.data.toList.take k).flatMap lng).toArray⟩ : ByteArray).size ≤ 1000 := by
        show (((s.data.toList.take k).flatMap lng).toArray).size ≤ 1000
        simp only [List.size_toArray]; omega
      have hl2 : (s.extract k (k + 1)).size ≤ 1000 := by rw [ByteArray.size_extract]; omega
      have hl3 : (⟨#[76, 82]⟩ : ByteArray).size ≤ 1000 := by decide
      have hl4 : (⟨#[108, 114]⟩ : ByteArray).size ≤ 1000 := by decide
      have HN := Lib.hid hN
      clear hN hkb hlen
      by_cases h84 : s[k] = 84
      · have e84 : ((s[k].toNat : Int) == 84) = true := by rw [h84]; rfl
        have HR := Lib.hid (HN.out.trans (by rw [h84]))
        clear h84
        go_wp2_with fail
        go_roundw
        case rel => exact ⟨k + 1, hkl, by go_num, by rw [HR.out]; exact congrArg Value.string (HL.out [76, 82]), by first | trivial | rfl⟩
        case measure => (simp [intOf] <;> omega)
      · have e84 : ((s[k].toNat : Int) == 84) = false := u8_ne h84
        by_cases h116 : s[k] = 116
        · have e116 : ((s[k].toNat : Int) == 116) = true := by rw [h116]; rfl
          have HR := Lib.hid (HN.out.trans (by rw [h116]))
          clear h84 h116
          go_wp2_with fail
          go_roundw
          case rel => exact ⟨k + 1, hkl, by go_num, by rw [HR.out]; exact congrArg Value.string (HL.out [108, 114]), by first | trivial | rfl⟩
          case measure => (simp [intOf] <;> omega)
        · have e116 : ((s[k].toNat : Int) == 116) = false := u8_ne h116
          have HR := Lib.hid (HN.out.trans (show _ = (s.data.toList.take k).flatMap lng ++ [s[k]] by simp [lng, h84, h116]))
          clear h84 h116
          go_wp2_with fail
          go_roundw
          case rel => exact ⟨k + 1, hkl, by go_num, by rw [HR.out, HC.out], by first | trivial | rfl⟩
          case measure => (simp [intOf] <;> omega)
    · have k1 : ¬ (k : Int) < (s.size : Int) := by omega
      have HE := Lib.hid (show s.data.toList.take k = s.data.toList from List.take_of_length_le (by simp; omega))
      go_wp2_with fail
      go_ret
      rw [HE.out]
      exact ⟨rfl, by first | trivial | rfl⟩
end Go.Proofs.YtmefpaoakblndaaGreatDoor
