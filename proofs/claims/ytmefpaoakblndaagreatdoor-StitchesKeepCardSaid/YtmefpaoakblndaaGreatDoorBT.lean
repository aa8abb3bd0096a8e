/- Words of letters: isLetter, Check, checkBoth walked. -/
import Derived.Test.YtmefpaoakblndaaGreatDoorBS
namespace Go.Proofs.YtmefpaoakblndaaGreatDoor
open Go.RowKit
def isL (n z : Int) : Bool := decide (z ≠ 0 ∧ -n < z ∧ z < n)
set_option maxHeartbeats 400000 in
set_option maxRecDepth 100000 in
theorem isLetter_any (n z : Int) (h1 : 1 ≤ n) (h2 : n ≤ 12) (w : World) :
    Calls Tryz.prog 81 #[.int .i64 n, .int .i64 z] w fun e w' => e = .returned (.bool (isL n z)) ∧ Below w.heap.size w w' := by
  have hwn : IntKind.i64.wrap (-n) = -n := IntWalk.i64_in _ (by omega)
  obtain ⟨m, hm⟩ : ∃ m : Int, m = -n := ⟨_, rfl⟩
  have hL : isL n z = (decide (z ≠ 0) && (decide (m < z) && decide (z < n))) := by unfold isL; rw [hm]; simp [Bool.decide_and]
  rw [← hm] at hwn
  rw [hL]
  clear hL
  go_enter Tryz.func81, Tryz.ntmps81
  by_cases a : z = 0
  · subst a
    go_wp2_with fail
    go_ret
    exact ⟨by simp, Below.refl _ w⟩
  · by_cases b : m < z
    · by_cases c : z < n
      · go_wp2_with fail
        go_ret
        exact ⟨by simp [a, b, c], Below.refl _ w⟩
      · go_wp2_with fail
        go_ret
        exact ⟨by simp [c], Below.refl _ w⟩
    · go_wp2_with fail
      go_ret
      exact ⟨by simp; omega, Below.refl _ w⟩
def checkV (n : Int) (ws : List Int) : Int := if n < 1 ∨ 12 < n then 2 else if 400 < ws.length then 3 else if ws.all (isL n) = true then 0 else 7
set_option maxHeartbeats 400000 in
set_option maxRecDepth 100000 in
theorem Check_any (n : Int) (ws : List Int) (sa : Option Addr) (sc : Nat) (w : World) (_ : ws.length ≤ sc) (_ : sc ≤ maxLen)
    (hc : ∀ k z, ws[k]? = some z → ∃ b off, sa = some ⟨b, off, none⟩ ∧ b < w.heap.size ∧ w.cell? ⟨b, off + k, none⟩ = some (.int .i64 z)) :
    Calls Tryz.prog 61 #[.int .i64 n, .slice sa ws.length sc] w fun e w' => e = .returned (.int .i64 (checkV n ws)) ∧ Below w.heap.size w w' := by
  have Hc := Lib.hid hc
  clear hc
  obtain ⟨v, hv⟩ : ∃ v, v = checkV n ws := ⟨_, rfl⟩
  rw [← hv]
  unfold checkV at hv
  go_enter Tryz.func61, Tryz.ntmps61
  by_cases a : n < 1
  · rw [if_pos (.inl a)] at hv
    go_wp2_with fail
    go_ret
    exact ⟨by first | rfl | (rw [hv]; rfl), Below.refl _ w⟩
  · by_cases b : 12 < n
    · rw [if_pos (.inr b)] at hv
      go_wp2_with fail
      go_ret
      exact ⟨by first | rfl | (rw [hv]; rfl), Below.refl _ w⟩
    · rw [if_neg (by omega)] at hv
      by_cases c : 400 < ws.length
      · rw [if_pos c] at hv
        have c' : (400 : Int) < (ws.length : Int) := by omega
        go_wp2_with fail
        go_ret
        exact ⟨by first | rfl | (rw [hv]; rfl), Below.refl _ w⟩
      · rw [if_neg c] at hv
        have c' : ¬ (400 : Int) < (ws.length : Int) := by omega
        go_wp2_with fail
        go_loopw [18] (fun i wr => ∃ k : Nat, k ≤ ws.length ∧ i = .int .i64 k ∧ (∀ y ∈ ws.take k, isL n y = true) ∧ Below w.heap.size w wr) (fun i _ => ws.length - (intOf i).toNat)
        case atStart => exact ⟨0, Nat.zero_le _, rfl, fun y hy => by simp at hy, Below.refl _ w⟩
        case round =>
          obtain ⟨k, hk, rfl, hall, hbw⟩ := hrel
          have Hall := Lib.hid hall
          have Hv := Lib.hid hv
          clear hall hv
          by_cases hkl : k < ws.length
          · obtain ⟨x, hx⟩ : ∃ x, ws[k]? = some x := ⟨_, List.getElem?_eq_getElem hkl⟩
            obtain ⟨bb, off, rfl, hB, hcx⟩ := Hc.out k x hx
            have hcr : wr.cell? ⟨bb, off + k, none⟩ = some (.int .i64 x) := (hbw.cell (p := ⟨bb, off + k, none⟩) hB).trans hcx
            have k0 : (0 : Int) ≤ (k : Int) := by omega
            have k1 : (k : Int) < (ws.length : Int) := by omega
            clear hcx
            go_wp2_with fail
            refine (isLetter_any n x (by omega) (by omega) wr).mono ?_
            rintro e w5 ⟨rfl, B5⟩
            have HB5 := Lib.hid (hbw.trans (B5.mono hbw.size))
            clear B5 hbw
            rcases hxl : isL n x with _ | _
            · go_wp2_with fail
              go_ret
              refine ⟨?_, HB5.out⟩
              have : ¬ ws.all (isL n) = true := fun h => by
                have := List.all_eq_true.1 h x (List.mem_of_getElem? hx)
                rw [hxl] at this
                cases this
              rw [Hv.out, if_neg this]
              rfl
            · have hnx : ∀ y ∈ ws.take (k + 1), isL n y = true := by
                intro y hy
                rw [List.take_add_one, hx] at hy
                rcases List.mem_append.1 hy with hy | hy
                · exact Hall.out y hy
                · obtain rfl : y = x := by simpa using hy
                  exact hxl
              have Hnx := Lib.hid hnx
              clear hnx
              go_wp2_with fail
              go_roundw
              case rel => exact ⟨k + 1, hkl, by go_num, Hnx.out, HB5.out⟩
              case measure => (simp [intOf] <;> omega)
          · obtain rfl : k = ws.length := by omega
            rw [List.take_length] at Hall
            go_wp2_with fail
            go_ret
            refine ⟨?_, hbw⟩
            rw [Hv.out, if_pos (List.all_eq_true.2 Hall.out)]
            rfl
end Go.Proofs.YtmefpaoakblndaaGreatDoor
