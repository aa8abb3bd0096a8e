/- The powers of Delta, as a word: the program's deltas walked. -/
import Derived.Test.YtnfppebcpagjpaaDG
import Derived.Test.YtnfppebcpagjpaaDE
namespace Go.Proofs.Ytnfppebcpagjpaa
open Go.RowKit Go.Lib
theorem dw_len66 {n : Nat} (hn : n ≤ 12) : (dw n).length ≤ 66 := by
  have h : ∀ k : Fin 13, (dw k.val).length ≤ 66 := by decide +kernel
  exact h ⟨n, by omega⟩
set_option maxHeartbeats 400000 in
set_option maxRecDepth 100000 in
theorem numberAbs_any (z : Int) (hz : -100000 < z ∧ z < 100000) (w : World) :
    Calls Try.prog 59 #[.int .i64 z] w fun e w' => e = .returned (.int .i64 (z.natAbs : Int)) ∧ w' = w := by
  by_cases h0 : z = 0
  · subst h0
    go_enter Try.func59, Try.ntmps59
    go_wp2_with fail
    go_ret
    exact ⟨rfl, rfl⟩
  · have h := number_any z h0 hz w
    have e : (num z : Int) + 1 = (z.natAbs : Int) := by unfold num; omega
    rw [e] at h
    exact h
/-- The powers of Delta, at most so many. -/
def powC (n : Nat) (p : Int) : List Int := if p < 0 then rep (min p.natAbs 401) (inv (dw n)) else rep (min p.natAbs 401) (dw n)
set_option maxHeartbeats 1000000 in
set_option maxRecDepth 100000 in
theorem deltas_any (n : Nat) (hn : n ≤ 12) (p : Int) (w : World) :
    Calls Try.prog 64 #[.int .i64 (n : Int), .int .i64 p] w fun e w' => ∃ v', e = .returned v' ∧ w'.ownsRow w.heap.size 3 1 v' (powC n p).length ((powC n p).map (Value.int .i64)) ∧ Below w.heap.size w w' := by
  have Hdl := Lib.hid (dw_len66 hn)
  obtain ⟨q, hq⟩ : ∃ q : Nat, q = min p.natAbs 401 := ⟨_, rfl⟩
  have hq4 : q ≤ 401 := by omega
  have Hq := Lib.hid hq
  have Cn := Lib.hid (fun (z : Int) (hz : z = min (max p (-401)) 401) (w : World) => show Calls Try.prog 59 #[.int .i64 z] w fun e w' => e = .returned (.int .i64 (q : Int)) ∧ w' = w from by
    have h := numberAbs_any z (by omega) w
    rw [show (z.natAbs : Int) = (q : Int) by omega] at h
    exact h)
  unfold powC
  rw [← hq]
  clear hq
  by_cases hp : p < 0
  · rw [if_pos hp]
    go_enter Try.func64, Try.ntmps64
    go_wp2_with fail
    refine (delta_any n hn w).mono ?_
    rintro e w1 ⟨rfl, B1⟩
    have D1 := Lib.hid B1
    clear B1
    go_wp2_with fail
    refine (Least_any n hn (dl n) (dl_in n) w1).mono ?_
    rintro e w2 ⟨v2, rfl, O2, B2⟩
    have O2' : w2.ownsRow w1.heap.size 3 1 v2 (dw n).length ((dw n).map (Value.int .i64)) := O2
    have I2 := Lib.hid (is_own O2' rfl)
    have D2 := Lib.hid (bon D1.out B2)
    clear O2 O2' B2 D1
    go_wp2_with fail
    refine (inverse_any (dw n) v2 w2 I2.out (fun z hz => by have := dw_word n z hz; unfold Letter at this; omega) (by have := Hdl.out; omega)).mono ?_
    rintro e w3 ⟨v3, rfl, O3, B3⟩
    have I3 := Lib.hid (is_own O3 rfl)
    have D3 := Lib.hid (bon D2.out B3)
    clear O3 B3 D2
    go_wp2_with fail
    all_goals (
      refine (Cn.out _ (by omega) _).mono ?_
      rintro e w4 ⟨rfl, rfl⟩
      go_wp2_with fail
      refine (repeat_any (inv (dw n)) q (by rw [inv_len]; have := Hdl.out; omega) hq4 v3 _ I3.out).mono ?_
      rintro e w5 ⟨v5, rfl, O5, B5⟩
      have O := Lib.hid (own_mono O5 D3.out.size)
      have BB := Lib.hid (bon D3.out B5)
      clear O5 B5
      go_wp2_with fail
      go_ret
      exact ⟨_, rfl, O.out, BB.out⟩)
  · rw [if_neg hp]
    go_enter Try.func64, Try.ntmps64
    go_wp2_with fail
    refine (delta_any n hn w).mono ?_
    rintro e w1 ⟨rfl, B1⟩
    have D1 := Lib.hid B1
    clear B1
    go_wp2_with fail
    refine (Least_any n hn (dl n) (dl_in n) w1).mono ?_
    rintro e w2 ⟨v2, rfl, O2, B2⟩
    have O2' : w2.ownsRow w1.heap.size 3 1 v2 (dw n).length ((dw n).map (Value.int .i64)) := O2
    have I2 := Lib.hid (is_own O2' rfl)
    have D2 := Lib.hid (bon D1.out B2)
    clear O2 O2' B2 D1
    go_wp2_with fail
    all_goals (
      refine (Cn.out _ (by omega) _).mono ?_
      rintro e w4 ⟨rfl, rfl⟩
      go_wp2_with fail
      refine (repeat_any (dw n) q (by have := Hdl.out; omega) hq4 v2 _ I2.out).mono ?_
      rintro e w5 ⟨v5, rfl, O5, B5⟩
      have O := Lib.hid (own_mono O5 D2.out.size)
      have BB := Lib.hid (bon D2.out B5)
      clear O5 B5
      go_wp2_with fail
      go_ret
      exact ⟨_, rfl, O.out, BB.out⟩)
end Go.Proofs.Ytnfppebcpagjpaa
