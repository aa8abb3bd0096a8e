/- Check of layer 3, the program's and the reference's (out of XFB, XFT, XFU). -/
import Derived.Test.YtmefpaoakblndaaGreatDoorVA
import Derived.Laws.Externs
import Derived.Deep.LoopGhost
namespace Go.Proofs.YtmefpaoakblndaaGreatDoor
open Go.RowKit Go.Lib
theorem size_len (s : ByteArray) : s.data.toList.length = s.size := by simp
def lettersP : ByteArray := ⟨#[67, 76, 82, 84, 80, 99, 108, 114, 116]⟩
def lettersR : ByteArray := ⟨#[67, 84, 76, 82, 80, 99, 116, 108, 114]⟩
/-- A letter of a word of moves. -/
def isLt (c : UInt8) : Bool := [67, 76, 82, 84, 80, 99, 108, 114, 116].contains c
/-- The error of a word. -/
def stV (s : ByteArray) : Int := if 16 < s.size then 3 else if s.data.toList.all isLt = true then 0 else 6
theorem firstP (c : UInt8) : firstIdx lettersP c < 0 ↔ isLt c = false := by
  have h : ∀ n : Fin 256, (decide (firstIdx lettersP (UInt8.ofNat n.val) < 0)) = !isLt (UInt8.ofNat n.val) := by decide +kernel
  have h2 := h ⟨c.toNat, c.toNat_lt⟩
  simp only [UInt8.ofNat_toNat] at h2
  rw [← decide_eq_true_iff (p := firstIdx lettersP c < 0), h2]
  simp
theorem run_ibs (c : Int) (w : World) : (callFunc 83 #[.string lettersP, .int .u8 c]).run Tryz.prog w = .ok (.value (.int .i64 (firstIdx lettersP c.toNat.toUInt8))) w := by
  rw [run_callFunc_indexByte Tryz.func83 (by kernel_rfl) (by kernel_rfl) (by kernel_rfl) (by kernel_rfl), run_indexByte_string]
  rfl
set_option maxHeartbeats 400000 in
theorem ibL_any (c : UInt8) (w : World) :
    Calls Tryz.prog 64 #[.string lettersP, .int .u8 (c.toNat : Int)] w fun e w' => e = .returned (.int .i64 (firstIdx lettersP c)) ∧ w' = w := by
  have h := fun w => run_ibs (c.toNat : Int) w
  rw [show ((c.toNat : Int)).toNat.toUInt8 = c by simp] at h
  go_enter Tryz.func64, Tryz.ntmps64
  go_wp2_with fail
  go_ret
  exact ⟨rfl, rfl⟩
set_option maxHeartbeats 400000 in
theorem ibS_any (c : UInt8) (w : World) :
    Calls Tryz.prog 38 #[.string lettersP, .int .u8 (c.toNat : Int)] w fun e w' => e = .returned (.int .i64 (firstIdx lettersP c)) ∧ w' = w := by
  go_enter Tryz.func38, Tryz.ntmps38
  go_wp2_with fail
  refine (ibL_any c w).mono ?_
  rintro e w1 ⟨rfl, rfl⟩
  go_wp2_with fail
  go_ret
  exact ⟨rfl, rfl⟩
theorem toList_all {s : ByteArray} {k : Nat} (h : k < s.size) (ha : (s.data.toList.take k).all isLt = true) (hp : isLt s[k] = true) : (s.data.toList.take (k + 1)).all isLt = true := by
  rw [List.take_succ_eq_append_getElem (by simpa using h), List.all_append, ha]
  simp only [List.all_cons, List.all_nil, Bool.and_true, Bool.true_and]
  exact hp
theorem toList_not {s : ByteArray} {k : Nat} (h : k < s.size) (hp : isLt s[k] = false) : s.data.toList.all isLt = false := by
  rw [List.all_eq_false]; exact ⟨s[k], Array.getElem_mem_toList h, by simp [hp]⟩
theorem toList_end {s : ByteArray} {k : Nat} (h : ¬ k < s.size) (ha : (s.data.toList.take k).all isLt = true) : s.data.toList.all isLt = true := by
  rw [List.take_of_length_le (by simp; omega)] at ha; exact ha
set_option maxHeartbeats 400000 in
theorem stCheck_any (s : ByteArray) (w : World) (_ : s.size ≤ maxLen) :
    Calls Tryz.prog 14 #[.string s] w fun e w' => e = .returned (.int .i64 (stV s)) ∧ w' = w := by
  by_cases hl : 16 < s.size
  · have e0 : stV s = 3 := if_pos hl
    have h1 : (16 : Int) < (s.size : Int) := by omega
    rw [e0]
    clear e0
    go_enter Tryz.func14, Tryz.ntmps14
    go_wp2_with fail
    go_ret
    exact ⟨rfl, rfl⟩
  · have e0 : stV s = if s.data.toList.all isLt = true then 0 else 6 := if_neg hl
    have h1 : ¬ (16 : Int) < (s.size : Int) := by omega
    have Z1 := Lib.hid (show s.data.toList.all isLt = true → stV s = 0 from fun h => by rw [e0, if_pos h])
    have Z2 := Lib.hid (show s.data.toList.all isLt = false → stV s = 6 from fun h => by rw [e0, h]; rfl)
    generalize stV s = z at *
    clear e0
    go_enter Tryz.func14, Tryz.ntmps14
    go_wp2_with fail
    go_loop [9] (fun i => ∃ k : Nat, k ≤ s.size ∧ i = .int .i64 k ∧ (s.data.toList.take k).all isLt = true) (fun i => s.size - (intOf i).toNat)
    case atStart => exact ⟨0, Nat.zero_le _, rfl, rfl⟩
    case round =>
      obtain ⟨k, hk, rfl, hall⟩ := hrel
      have Hall := Lib.hid hall; clear hall
      by_cases hlt : k < s.size
      · have CI := Lib.hid (fun w => ibS_any s[k] w)
        have hf := firstP s[k]
        by_cases hc : isLt s[k] = true
        · have hz : ¬ firstIdx lettersP s[k] < 0 := fun h => by rw [hf.1 h] at hc; cases hc
          have Hc := Lib.hid hc
          clear hf hc
          go_wp2_with (go_at_call 38; refine (CI.out _).mono ?_; rintro e w1 ⟨rfl, rfl⟩)
          go_round
          case rel => exact ⟨k + 1, by omega, by go_num, toList_all hlt Hall.out Hc.out⟩
          case measure => simp [intOf]; omega
        · have hc' : isLt s[k] = false := by simpa using hc
          have hz : firstIdx lettersP s[k] < 0 := hf.2 hc'
          have Hn := Lib.hid (toList_not hlt hc')
          clear hf hc hc'
          go_wp2_with (go_at_call 38; refine (CI.out _).mono ?_; rintro e w1 ⟨rfl, rfl⟩)
          go_ret
          exact ⟨by rw [Z2.out Hn.out]; rfl, rfl⟩
      · go_wp2_with fail
        go_ret
        exact ⟨by rw [Z1.out (toList_end hlt Hall.out)]; rfl, rfl⟩
attribute [local go_sem] Oper.semAt_some
/-- Where a byte comes first in a list, counted from k; -1: nowhere. -/
def idxL (c : UInt8) : List UInt8 → Nat → Int
  | [], _ => -1
  | b :: l, k => if b = c then (k : Int) else idxL c l (k + 1)
set_option maxHeartbeats 1000000 in
theorem refIndex_any (s : ByteArray) (c : UInt8) (hs : s.size ≤ 100000) (w : World) :
    Calls Tryz.prog 39 #[.string s, .int .u8 (c.toNat : Int)] w fun e w' => e = .returned (.int .i64 (idxL c s.data.toList 0)) ∧ w' = w := by
  obtain ⟨r, hr⟩ : ∃ r, r = idxL c s.data.toList 0 := ⟨_, rfl⟩
  rw [← hr]
  go_enter Tryz.func39, Tryz.ntmps39
  go_wp2_with fail
  go_loopw [5] (fun i wr => ∃ k : Nat, i = .int .i64 k ∧ k ≤ s.size ∧ r = idxL c (s.data.toList.drop k) k ∧ wr = w) (fun i _ => s.size - (intOf i).toNat)
  case atStart => exact ⟨0, rfl, Nat.zero_le _, hr, rfl⟩
  case round =>
    clear hr
    obtain ⟨k, rfl, hk, he, rfl⟩ := hrel
    have He := Lib.hid he
    clear he
    by_cases hkl : k < s.size
    · have j0 : (0 : Int) ≤ (k : Int) := by omega
      have j1 : (k : Int) < (s.size : Int) := by omega
      have hd : s.data.toList.drop k = s[k] :: s.data.toList.drop (k + 1) := List.drop_eq_getElem_cons (by rw [size_len]; exact hkl)
      by_cases hc : s[k] = c
      · have hb : ((s[k].toNat : Int) == (c.toNat : Int)) = true := by rw [hc]; exact beq_self_eq_true _
        have hE := Lib.hid (show r = (k : Int) by rw [He.out, hd]; exact if_pos hc)
        clear hd hc
        go_wp2_with fail
        go_ret
        rw [hE.out]
        exact ⟨rfl, rfl⟩
      · have hb : ((s[k].toNat : Int) == (c.toNat : Int)) = false := by
          rw [beq_eq_false_iff_ne]
          intro e
          exact hc (UInt8.toNat_inj.1 (by exact_mod_cast e))
        have hE := Lib.hid (show r = idxL c (s.data.toList.drop (k + 1)) (k + 1) by rw [He.out, hd]; exact if_neg hc)
        clear hd hc
        go_wp2_with fail
        go_roundw
        case rel => exact ⟨k + 1, by go_num, hkl, hE.out, by first | trivial | rfl⟩
        case measure => (simp [intOf] <;> omega)
    · have j1 : ¬ (k : Int) < (s.size : Int) := by omega
      have hE := Lib.hid (He.out.trans (by rw [List.drop_eq_nil_of_le (by rw [size_len]; omega)]))
      go_wp2_with fail
      go_ret
      rw [hE.out]
      exact ⟨rfl, rfl⟩
attribute [local go_sem] Oper.semAt_some
def lettersU : List UInt8 := [67, 84, 76, 82, 80, 99, 116, 108, 114]
theorem refP (c : UInt8) : idxL c lettersU 0 < 0 ↔ isLt c = false := by
  have h : ∀ n : Fin 256, (decide (idxL (UInt8.ofNat n.val) lettersU 0 < 0)) = !isLt (UInt8.ofNat n.val) := by decide +kernel
  have h2 := h ⟨c.toNat, c.toNat_lt⟩
  simp only [UInt8.ofNat_toNat] at h2
  cases hc : isLt c with
  | true => rw [hc] at h2; simp at h2 ⊢; omega
  | false => rw [hc] at h2; simpa using h2
set_option maxHeartbeats 1000000 in
theorem refCheck3_any (s : ByteArray) (w : World) :
    Calls Tryz.prog 15 #[.string s] w fun e w' => e = .returned (.int .i64 (stV s)) ∧ w' = w := by
  by_cases hl : 16 < s.size
  · have e0 : stV s = 3 := if_pos hl
    have h1 : (16 : Int) < (s.size : Int) := by omega
    rw [e0]
    clear e0
    go_enter Tryz.func15, Tryz.ntmps15
    go_wp2_with fail
    go_ret
    exact ⟨rfl, rfl⟩
  · have e0 : stV s = if s.data.toList.all isLt = true then 0 else 6 := if_neg hl
    have h1 : ¬ (16 : Int) < (s.size : Int) := by omega
    have Z1 := Lib.hid (show s.data.toList.all isLt = true → stV s = 0 from fun h => by rw [e0, if_pos h])
    have Z2 := Lib.hid (show s.data.toList.all isLt = false → stV s = 6 from fun h => by rw [e0, h]; rfl)
    generalize stV s = z at *
    clear e0
    go_enter Tryz.func15, Tryz.ntmps15
    go_wp2_with fail
    go_loopw [3] (fun i wr => ∃ k : Nat, k ≤ s.size ∧ i = .int .i64 k ∧ (s.data.toList.take k).all isLt = true ∧ wr = w) (fun i _ => s.size - (intOf i).toNat)
    case atStart => exact ⟨0, Nat.zero_le _, rfl, rfl, rfl⟩
    case round =>
      obtain ⟨k, hk, rfl, hall, rfl⟩ := hrel
      have Hall := Lib.hid hall
      clear hall
      by_cases hlt : k < s.size
      · have j0 : (0 : Int) ≤ (k : Int) := by omega
        have j1 : (k : Int) < (s.size : Int) := by omega
        have hk2 : s.data.toList[k]? = some s[k] := by rw [List.getElem?_eq_getElem (by rw [size_len]; exact hlt)]; rfl
        have CI := Lib.hid (refIndex_any ⟨#[67, 84, 76, 82, 80, 99, 116, 108, 114]⟩ s[k] (by decide) wr)
        obtain ⟨q, hq⟩ : ∃ q, q = idxL s[k] lettersU 0 := ⟨_, rfl⟩
        have hf := refP s[k]
        rw [← hq] at hf
        have CI2 := Lib.hid (show Calls Tryz.prog 39 #[.string ⟨#[67, 84, 76, 82, 80, 99, 116, 108, 114]⟩, .int .u8 (s[k].toNat : Int)] wr fun e w' => e = .returned (.int .i64 q) ∧ w' = wr by rw [hq]; exact CI.out)
        clear CI hq
        by_cases hc : isLt s[k] = true
        · have hz : ¬ q < 0 := fun h => by rw [hf.1 h] at hc; cases hc
          have Hn := Lib.hid (show (s.data.toList.take (k + 1)).all isLt = true by rw [List.take_add_one, hk2, List.all_append, Hall.out]; simp [hc])
          clear hf hc hk2
          go_wp2_with fail
          refine CI2.out.mono ?_
          rintro e w1 ⟨rfl, rfl⟩
          go_wp2_with fail
          go_roundw
          case rel => exact ⟨k + 1, hlt, by go_num, Hn.out, by first | trivial | rfl⟩
          case measure => (simp [intOf] <;> omega)
        · have hz : q < 0 := hf.2 (by simpa using hc)
          have HZ := Lib.hid (Z2.out (by
            rw [List.all_eq_false]
            exact ⟨s[k], List.mem_of_getElem? hk2, hc⟩))
          clear hf hc hk2
          go_wp2_with fail
          refine CI2.out.mono ?_
          rintro e w1 ⟨rfl, rfl⟩
          go_wp2_with fail
          go_ret
          rw [HZ.out]
          exact ⟨rfl, rfl⟩
      · have j1 : ¬ (k : Int) < (s.size : Int) := by omega
        have HZ := Lib.hid (Z1.out (by have := Hall.out; rwa [List.take_of_length_le (by rw [size_len]; omega)] at this))
        go_wp2_with fail
        go_ret
        rw [HZ.out]
        exact ⟨rfl, rfl⟩
end Go.Proofs.YtmefpaoakblndaaGreatDoor
