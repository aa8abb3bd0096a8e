/- The law's apart and signs walked. -/
import Derived.Test.YtnfppebcpagjpaaDO
import Derived.Test.YtnfppebcpagjpaaCL
namespace Go.Proofs.Ytnfppebcpagjpaa
open Go.RowKit Go.Lib
set_option maxHeartbeats 400000 in
set_option maxRecDepth 100000 in
theorem apart_any (a b : Int) (ha : a ≠ 0) (hb : b ≠ 0) (ka : -1000 < a ∧ a < 1000) (kb : -1000 < b ∧ b < 1000) (r : Bool) (hr : r = true ↔ Far a b) (w : World) :
    Calls Try.prog 74 #[.int .i64 a, .int .i64 b] w fun e w' => e = .returned (.bool r) ∧ w' = w := by
  have h1 : IntKind.i64.wrap (-a) = -a := IntWalk.i64_in _ (by omega)
  have h2 : IntKind.i64.wrap (-b) = -b := IntWalk.i64_in _ (by omega)
  have hf : Far a b ↔ ((a.natAbs : Int) - b.natAbs > 1 ∨ (a.natAbs : Int) - b.natAbs < -1) := by
    constructor
    · rintro ⟨i, j, h, k, l⟩; omega
    · intro h; exact ⟨a.natAbs, b.natAbs, by omega, by omega, by omega⟩
  rw [hf] at hr
  clear hf
  obtain ⟨x, hx⟩ : ∃ x : Int, x = (a.natAbs : Int) := ⟨_, rfl⟩
  obtain ⟨y, hy⟩ : ∃ y : Int, y = (b.natAbs : Int) := ⟨_, rfl⟩
  rw [← hx, ← hy] at hr
  have hw : IntKind.i64.wrap (x - y) = x - y := IntWalk.i64_in _ (by omega)
  have c : (1 < x - y ∧ r = true) ∨ (¬ 1 < x - y ∧ x - y < -1 ∧ r = true) ∨ (¬ 1 < x - y ∧ ¬ x - y < -1 ∧ r = false) := by
    rcases r with _ | _
    · right; right
      have : ¬ (x - y > 1 ∨ x - y < -1) := fun h => by simpa using hr.2 h
      exact ⟨by omega, by omega, rfl⟩
    · have h := hr.1 rfl
      by_cases h1 : 1 < x - y
      · exact .inl ⟨h1, rfl⟩
      · exact .inr (.inl ⟨h1, by omega, rfl⟩)
  clear hr
  by_cases sa : 0 < a
  · by_cases sb : 0 < b
    · obtain rfl : x = a := by omega
      obtain rfl : y = b := by omega
      have q1 : -x ≤ x := by omega
      have q2 : -y ≤ y := by omega
      clear ha hb hx hy
      go_enter Try.func74, Try.ntmps74
      rcases c with ⟨c1, rfl⟩ | ⟨c1, c2, rfl⟩ | ⟨c1, c2, rfl⟩
      all_goals
        go_wp2_with fail
        go_ret
        exact ⟨rfl, rfl⟩
    · obtain rfl : x = a := by omega
      obtain rfl : b = -y := by omega
      have q1 : -x ≤ x := by omega
      have q2 : ¬ y ≤ -y := by omega
      rw [Int.neg_neg] at h2
      clear ha hb hx hy
      go_enter Try.func74, Try.ntmps74
      rcases c with ⟨c1, rfl⟩ | ⟨c1, c2, rfl⟩ | ⟨c1, c2, rfl⟩
      all_goals
        go_wp2_with fail
        go_ret
        exact ⟨rfl, rfl⟩
  · by_cases sb : 0 < b
    · obtain rfl : a = -x := by omega
      obtain rfl : y = b := by omega
      have q1 : ¬ x ≤ -x := by omega
      rw [Int.neg_neg] at h1
      have q2 : -y ≤ y := by omega
      clear ha hb hx hy
      go_enter Try.func74, Try.ntmps74
      rcases c with ⟨c1, rfl⟩ | ⟨c1, c2, rfl⟩ | ⟨c1, c2, rfl⟩
      all_goals
        go_wp2_with fail
        go_ret
        exact ⟨rfl, rfl⟩
    · obtain rfl : a = -x := by omega
      obtain rfl : b = -y := by omega
      have q1 : ¬ x ≤ -x := by omega
      rw [Int.neg_neg] at h1
      have q2 : ¬ y ≤ -y := by omega
      rw [Int.neg_neg] at h2
      clear ha hb hx hy
      go_enter Try.func74, Try.ntmps74
      rcases c with ⟨c1, rfl⟩ | ⟨c1, c2, rfl⟩ | ⟨c1, c2, rfl⟩
      all_goals
        go_wp2_with fail
        go_ret
        exact ⟨rfl, rfl⟩
set_option maxHeartbeats 1000000 in
set_option maxRecDepth 100000 in
theorem signs_any (ws : List Int) (_ : ws.length ≤ 400) (v : Value) (w : World) (hv : IS w v ws) :
    Calls Try.prog 46 #[v] w fun e w' => e = .returned (.int .i64 (sumS ws)) ∧ w' = w := by
  obtain ⟨sa, sc, rfl, k1, k2, _, hI⟩ := hv
  unfold maxLen at k2
  have HI := Lib.hid hI
  clear hI
  go_enter Try.func46, Try.ntmps46
  go_wp2_with fail
  go_loopw [3, 4] (fun s i wr => ∃ (k : Nat) (S : Int), k ≤ ws.length ∧ i = .int .i64 k ∧ s = .int .i64 S ∧ S = sumS (ws.take k) ∧ -(k : Int) ≤ S ∧ S ≤ k ∧ wr = w) (fun _ i _ => ws.length - (intOf i).toNat)
  case atStart => exact ⟨0, 0, Nat.zero_le _, rfl, rfl, rfl, by omega, by omega, rfl⟩
  case round =>
    obtain ⟨k, S, hk, rfl, rfl, hS, b1, b2, rfl⟩ := hrel
    rename World => w
    have HS := Lib.hid hS
    clear hS
    by_cases hkl : k < ws.length
    · obtain ⟨z, hz⟩ : ∃ z, ws[k]? = some z := ⟨_, List.getElem?_eq_getElem hkl⟩
      obtain ⟨b, off, rfl, hb, hcz⟩ := HI.out k z hz
      have j0 : (0 : Int) ≤ (k : Int) := by omega
      have j1 : (k : Int) < (ws.length : Int) := by omega
      have Hn := Lib.hid (show sumS (ws.take (k + 1)) = S + if 0 < z then 1 else -1 by rw [take_more hz, sumS_app, ← HS.out, sumS_cons]; show _ = _; simp [sumS])
      clear hz
      by_cases hp : 0 < z
      · rw [if_pos hp] at Hn
        have hw : IntKind.i64.wrap (S + 1) = S + 1 := IntWalk.i64_in _ (by omega)
        go_wp2_with fail
        go_roundw
        case rel => exact ⟨k + 1, S + 1, hkl, by go_num, by first | rfl | simp, Hn.out.symm, by omega, by omega, trivial⟩
        case measure => (simp [intOf] <;> omega)
      · rw [if_neg hp] at Hn
        have hw : IntKind.i64.wrap (S - 1) = S - 1 := IntWalk.i64_in _ (by omega)
        go_wp2_with fail
        go_roundw
        case rel => exact ⟨k + 1, S - 1, hkl, by go_num, by first | rfl | simp, by rw [Hn.out]; omega, by omega, by omega, trivial⟩
        case measure => (simp [intOf] <;> omega)
    · have hlt : ¬ (k : Int) < (ws.length : Int) := by omega
      have he : k = ws.length := by omega
      have HE := Lib.hid (show sumS ws = S by rw [HS.out, he, List.take_length])
      clear he
      go_wp2_with fail
      go_ret
      exact ⟨by rw [HE.out]; rfl, rfl⟩
end Go.Proofs.Ytnfppebcpagjpaa
