/- The law of words walked: Check, Inverse, Times and Reduce. -/
import Derived.Test.YteffdkoebigcnaaCJ
namespace Go.Proofs.Yteffdkoebigcnaa
open Go.RowKit Go.Lib
theorem bon {a b c : World} (h : Below a.heap.size a b) (k : Below b.heap.size b c) : Below a.heap.size a c := h.trans (k.mono h.size)
set_option maxHeartbeats 400000 in
set_option maxRecDepth 100000 in
theorem far_any (xs ys : List Int) (sa sb : Option Addr) (sc sd : Nat) (r : Bool) (hr : r = decide (1000 < xs.length ∨ 1000 < ys.length)) (w : World) :
    Calls Try.prog 13 #[.slice sa xs.length sc, .slice sb ys.length sd] w fun e w' => e = .returned (.bool r) ∧ w' = w := by
  go_enter Try.func13, Try.ntmps13
  by_cases h : 1000 < xs.length
  · have h' : (1000 : Int) < (xs.length : Int) := by omega
    have Hr := Lib.hid hr
    go_wp2_with fail
    go_ret
    exact ⟨by first | rfl | (rw [Hr.out]; simp [h]), rfl⟩
  · have h' : ¬ (1000 : Int) < (xs.length : Int) := by omega
    have Hr := Lib.hid hr
    by_cases k : 1000 < ys.length
    · have k' : (1000 : Int) < (ys.length : Int) := by omega
      go_wp2_with fail
      go_ret
      exact ⟨by first | rfl | (rw [Hr.out]; simp [k]), rfl⟩
    · have k' : ¬ (1000 : Int) < (ys.length : Int) := by omega
      go_wp2_with fail
      go_ret
      exact ⟨by first | rfl | (rw [Hr.out]; simp; omega), rfl⟩
set_option maxHeartbeats 1000000 in
set_option maxRecDepth 100000 in
theorem words_any (n : Int) (xs ys : List Int) (u v : Value) (w : World) (hu : IS w u xs) (hv : IS w v ys) :
    Calls Try.prog 3 #[.int .i64 n, u, v] w fun e w' => e = .returned (.bool true) ∧ Below w.heap.size w w' := by
  have Hu := Lib.hid hu
  have Hv := Lib.hid hv
  obtain ⟨sa, sc, rfl, h1, h2, _, hI⟩ := hu
  obtain ⟨sb, sd, rfl, k1, k2, _, kI⟩ := hv
  have HI := Lib.hid hI
  obtain ⟨r, hr⟩ : ∃ r, r = decide (1000 < xs.length ∨ 1000 < ys.length) := ⟨_, rfl⟩
  have CF := Lib.hid (fun w => far_any xs ys sa sb sc sd r hr w)
  have C1 := Lib.hid (fun w' (B : Below w.heap.size w w') => Inverse_any n xs _ w' (Hu.out.below B))
  have C2 := Lib.hid (fun w' (B : Below w.heap.size w w') => refInverse_any n xs _ w' (Hu.out.below B))
  have C3 := Lib.hid (fun w' (B : Below w.heap.size w w') => Check_any n xs sa sc w' h1 h2 (HI.out.below B))
  have C4 := Lib.hid (fun w' (B : Below w.heap.size w w') => refCheck_any n xs sa sc w' (HI.out.below B) h1 h2)
  have C5 := Lib.hid (fun w' (B : Below w.heap.size w w') => Times_any n xs ys _ _ w' (Hu.out.below B) (Hv.out.below B))
  have C6 := Lib.hid (fun w' (B : Below w.heap.size w w') => refTimes_any n xs ys _ _ w' (Hu.out.below B) (Hv.out.below B))
  have C7 := Lib.hid (fun w' (B : Below w.heap.size w w') => Reduce_any n xs _ w' (Hu.out.below B))
  have C8 := Lib.hid (fun w' (B : Below w.heap.size w w') => refReduce_any n xs _ w' (Hu.out.below B))
  generalize checkV n xs = c at C1 C2 C3 C4 C7 C8
  generalize invV n xs = I at C1 C2
  generalize timesV n xs ys = T at C5 C6
  generalize redV n xs = R at C7 C8
  obtain ⟨T1, T2⟩ := T
  dsimp only at C5 C6
  clear hI kI hr
  rcases r with _ | _
  · go_enter Try.func3, Try.ntmps3
    go_wp2_with fail
    refine (CF.out _).mono ?_
    rintro e w0 ⟨rfl, rfl⟩
    go_wp2_with fail
    refine (C1.out _ (Below.refl _ _)).mono ?_
    rintro e w1 ⟨v1, rfl, I1, B1⟩
    have D1 := Lib.hid B1
    have J1 := Lib.hid I1
    clear B1 I1
    go_wp2_with fail
    refine (C2.out _ D1.out).mono ?_
    rintro e w2 ⟨v2, rfl, I2, B2⟩
    have D2 := Lib.hid (bon D1.out B2)
    have J2 := Lib.hid I2
    have K1 := Lib.hid (J1.out.below B2)
    clear B2 I2 J1 D1
    go_wp2_with fail
    refine (C3.out _ D2.out).mono ?_
    rintro e w3 ⟨rfl, B3⟩
    have D3 := Lib.hid (bon D2.out B3)
    have K2 := Lib.hid (J2.out.below B3)
    have L1 := Lib.hid (K1.out.below B3)
    clear B3 J2 K1 D2
    go_wp2_with fail
    refine (C4.out _ D3.out).mono ?_
    rintro e w4 ⟨rfl, B4⟩
    have D4 := Lib.hid (bon D3.out B4)
    have L2 := Lib.hid (K2.out.below B4)
    have M1 := Lib.hid (L1.out.below B4)
    clear B4 K2 L1 D3
    go_wp2_with fail
    refine (sameInts_is M1.out L2.out true ⟨fun _ => rfl, fun _ => rfl⟩).mono ?_
    rintro e w5 ⟨rfl, B5⟩
    have D5 := Lib.hid (bon D4.out B5)
    clear B5 D4 M1 L2
    go_wp2_with fail
    refine (C5.out _ D5.out).mono ?_
    rintro e w6 ⟨v6, rfl, I6, B6⟩
    have D6 := Lib.hid (bon D5.out B6)
    have J6 := Lib.hid I6
    clear B6 D5 I6
    go_wp2_with fail
    refine (C6.out _ D6.out).mono ?_
    rintro e w7 ⟨v7, rfl, I7, B7⟩
    have D7 := Lib.hid (bon D6.out B7)
    have J7 := Lib.hid I7
    have K6 := Lib.hid (J6.out.below B7)
    clear B7 D6 I7 J6
    go_wp2_with fail
    refine (C7.out _ D7.out).mono ?_
    rintro e w8 ⟨v8, rfl, I8, B8⟩
    have D8 := Lib.hid (bon D7.out B8)
    have J8 := Lib.hid I8
    have K7 := Lib.hid (J7.out.below B8)
    have L6 := Lib.hid (K6.out.below B8)
    clear B8 D7 I8 J7 K6
    go_wp2_with fail
    refine (C8.out _ D8.out).mono ?_
    rintro e w9 ⟨v9, rfl, I9, B9⟩
    have D9 := Lib.hid (bon D8.out B9)
    have J9 := Lib.hid I9
    have K8 := Lib.hid (J8.out.below B9)
    have L7 := Lib.hid (K7.out.below B9)
    have M6 := Lib.hid (L6.out.below B9)
    clear B9 D8 I9 J8 K7 L6
    go_wp2_with fail
    refine (sameInts_is M6.out L7.out true ⟨fun _ => rfl, fun _ => rfl⟩).mono ?_
    rintro e w10 ⟨rfl, B10⟩
    have D10 := Lib.hid (bon D9.out B10)
    have N8 := Lib.hid (K8.out.below B10)
    have N9 := Lib.hid (J9.out.below B10)
    clear B10 D9 M6 L7 K8 J9
    go_wp2_with fail
    refine (sameInts_is N8.out N9.out true ⟨fun _ => rfl, fun _ => rfl⟩).mono ?_
    rintro e w11 ⟨rfl, B11⟩
    have D11 := Lib.hid (bon D10.out B11)
    clear B11 D10 N8 N9
    go_wp2_with fail
    refine (awake_any _).mono ?_
    rintro e w12 ⟨rfl, B12⟩
    go_wp2_with fail
    go_ret
    exact ⟨rfl, bon D11.out B12⟩
  · go_enter Try.func3, Try.ntmps3
    go_wp2_with fail
    refine (CF.out _).mono ?_
    rintro e w0 ⟨rfl, rfl⟩
    go_wp2_with fail
    refine (awake_any _).mono ?_
    rintro e w1 ⟨rfl, B1⟩
    go_wp2_with fail
    go_ret
    exact ⟨rfl, B1⟩
theorem words_row (n : Int) (xs ys : List Int) (u v : Value) (w : World) (_ : (Lit.int .i64 n).wf = true) (hu : IS w u xs) (_ : ∀ z ∈ xs, -9223372036854775808 ≤ z ∧ z ≤ 9223372036854775807) (hv : IS w v ys) (_ : ∀ z ∈ ys, -9223372036854775808 ≤ z ∧ z ≤ 9223372036854775807) :
    Calls Try.prog 3 #[.int .i64 n, u, v] w fun e w' => e = .returned (.bool true) ∧ Below w.heap.size w w' := words_any n xs ys u v w hu hv
end Go.Proofs.Yteffdkoebigcnaa
