/- The law of numbers. -/
import Derived.Test.YtojdihfcoijinaaDoorNI
import Derived.Test.YtojdihfcoijinaaDoorKA
namespace Go.Proofs.YtojdihfcoijinaaDoor
open Go.RowKit

set_option maxHeartbeats 1000000 in
set_option maxRecDepth 100000 in
theorem numbers_any (n lo hi : Int) (s : ByteArray) (w : World) (g : Glob w) (hs : s.size ≤ maxLen) (hn0 : -9223372036854775808 ≤ n) (hn1 : n ≤ 9223372036854775807) :
    Calls Tryd.prog 4 #[.int .i64 n, .agg #[.string s, .int .i64 lo, .int .i64 hi]] w fun e w' => e = .returned (.bool true) ∧ Below w.heap.size w w' := by
  have g0 : Glob (w.alloc (.cells #[.string s, .int .i64 lo, .int .i64 hi] 25)) := g.next (below_alloc w _)
  have hm := hs
  unfold maxLen at hs
  by_cases h : 20000 < s.size
  · go_enter Tryd.func4, Tryd.ntmps4
    go_wp2_with (go_at_call 10; refine (shown_any _ g0).mono ?_; rintro e w1 ⟨rfl, hb1⟩)
    go_ret
    exact ⟨rfl, below_on (below_alloc w _) hb1⟩
  · have hI := fun w g => Int_any s lo hi w g (by omega)
    have hR := fun w => refInt_any s lo hi w hm
    have hD := fun w g => Digits_any n w g hn0 hn1
    have hE := fun w => refDigits_any n w hn0 hn1
    have hlen := Lib.itoa_length_le n hn0 hn1
    have hB := fun w g => Int_any ⟨(Lib.itoa n).toArray⟩ (-9223372036854775808) 9223372036854775807 w g (by rw [← size_len]; show (Lib.itoa n).length ≤ _; omega)
    rw [show (⟨(Lib.itoa n).toArray⟩ : ByteArray).data.toList = Lib.itoa n from rfl, int_digits n hn0 hn1] at hB
    obtain ⟨I, hI0⟩ : ∃ I, intP s.data.toList lo hi = I := ⟨_, rfl⟩
    rw [hI0] at hI hR
    obtain ⟨i1, i2⟩ := I
    obtain ⟨D, hD0⟩ : ∃ D, (⟨(Lib.itoa n).toArray⟩ : ByteArray) = D := ⟨_, rfl⟩
    rw [hD0] at hD hE hB
    simp only at hI hR hB
    have HI := Lib.hid hI
    have HR := Lib.hid hR
    have HD := Lib.hid hD
    have HE := Lib.hid hE
    have HB := Lib.hid hB
    clear hI hR hD hE hB hI0 hD0 hlen
    have k0 := cell_alloc w #[.string s, .int .i64 lo, .int .i64 hi] 25 0 (by simp)
    have k1 := cell_alloc w #[.string s, .int .i64 lo, .int .i64 hi] 25 1 (by simp)
    have k2 := cell_alloc w #[.string s, .int .i64 lo, .int .i64 hi] 25 2 (by simp)
    have K0 := Lib.hid k0
    have K1 := Lib.hid k1
    have K2 := Lib.hid k2
    clear k0 k1 k2
    go_enter Tryd.func4, Tryd.ntmps4
    go_wp2_with (first
      | (go_at_call 10; refine (shown_any _ g6).mono ?_; rintro e w7 ⟨rfl, hb7⟩)
      | (go_at_call 18; refine (HE.out w5).mono ?_; rintro e w6 ⟨rfl, hb6⟩; have g6 := g5.next hb6)
      | (go_at_call 17; refine (HD.out w4 g4).mono ?_; rintro e w5 ⟨rfl, hb5⟩; have g5 := g4.next hb5)
      | (go_at_call 15; refine (HB.out w3 g3).mono ?_; rintro e w4 ⟨rfl, hb4⟩; have g4 := g3.next hb4)
      | (go_at_call 17; refine (HD.out w2 g2).mono ?_; rintro e w3 ⟨rfl, hb3⟩; have g3 := g2.next hb3)
      | (go_at_call 16; refine (HR.out w1).mono ?_; rintro e w2 ⟨rfl, hb2⟩; have g2 := g1.next hb2)
      | (go_at_call 15; refine (HI.out _ g0).mono ?_; rintro e w1 ⟨rfl, hb1⟩; have g1 := g0.next hb1
         have c0 := (hb1.cell (p := ⟨w.heap.size, 0, none⟩) (by rw [size_alloc]; exact Nat.lt_succ_self _)).trans K0.out
         have c1 := (hb1.cell (p := ⟨w.heap.size, 1, none⟩) (by rw [size_alloc]; exact Nat.lt_succ_self _)).trans K1.out
         have c2 := (hb1.cell (p := ⟨w.heap.size, 2, none⟩) (by rw [size_alloc]; exact Nat.lt_succ_self _)).trans K2.out))
    go_ret
    exact ⟨rfl, below_on (below_alloc w _) (below_on hb1 (below_on hb2 (below_on hb3 (below_on hb4 (below_on hb5 (below_on hb6 hb7))))))⟩
end Go.Proofs.YtojdihfcoijinaaDoor
