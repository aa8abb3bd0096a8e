/- The law of permutations walked: Perm, Links, Drop and Lay. -/
import Derived.Test.YteffdkoebigcnaaDC
import Derived.Test.YteffdkoebigcnaaCZ
namespace Go.Proofs.Yteffdkoebigcnaa
open Go.RowKit Go.Lib
set_option maxHeartbeats 400000 in
set_option maxRecDepth 100000 in
theorem far1_any (xs : List Int) (sa : Option Addr) (sc : Nat) (r : Bool) (hr : r = decide (1000 < xs.length)) (w : World) :
    Calls Try.prog 13 #[.slice sa xs.length sc, .slice none 0 0] w fun e w' => e = .returned (.bool r) ∧ w' = w := by
  go_enter Try.func13, Try.ntmps13
  by_cases h : 1000 < xs.length
  · have h' : (1000 : Int) < (xs.length : Int) := by omega
    have Hr := Lib.hid hr
    go_wp2_with fail
    go_ret
    exact ⟨by first | rfl | (rw [Hr.out]; simp [h]), rfl⟩
  · have h' : ¬ (1000 : Int) < (xs.length : Int) := by omega
    have Hr := Lib.hid hr
    go_wp2_with fail
    go_ret
    exact ⟨by first | rfl | (rw [Hr.out]; simp; omega), rfl⟩
set_option maxHeartbeats 1000000 in
set_option maxRecDepth 100000 in
theorem perms_any (n : Int) (xs : List Int) (s : Int) (u : Value) (w : World) (hu : IS w u xs) :
    Calls Try.prog 4 #[.int .i64 n, u, .int .i64 s] w fun e w' => e = .returned (.bool true) ∧ Below w.heap.size w w' := by
  have Hu := Lib.hid hu
  obtain ⟨sa, sc, rfl, h1, h2, _, hI⟩ := hu
  obtain ⟨r, hr⟩ : ∃ r, r = decide (1000 < xs.length) := ⟨_, rfl⟩
  have CF := Lib.hid (fun w => far1_any xs sa sc r hr w)
  have C1 := Lib.hid (fun w' (B : Below w.heap.size w w') => Perm_any n xs _ w' (Hu.out.below B))
  have C2 := Lib.hid (fun w' (B : Below w.heap.size w w') => refPerm_any n xs _ w' (Hu.out.below B))
  have C3 := Lib.hid (fun w' (B : Below w.heap.size w w') => Links_any n xs _ w' (Hu.out.below B))
  have C4 := Lib.hid (fun w' (B : Below w.heap.size w w') => refLinks_any n xs _ w' (Hu.out.below B))
  have C5 := Lib.hid (fun w' (B : Below w.heap.size w w') => Drop_any n xs s _ w' (Hu.out.below B))
  have C6 := Lib.hid (fun w' (B : Below w.heap.size w w') => refDrop_any n xs s _ w' (Hu.out.below B))
  have C7 := Lib.hid (fun w' (B : Below w.heap.size w w') b => Lay_any n xs s b _ w' (Hu.out.below B))
  have C8 := Lib.hid (fun w' (B : Below w.heap.size w w') b => refLay_any n xs s b _ w' (Hu.out.below B))
  generalize checkV n xs = c at C1 C2 C3 C4
  generalize permV n xs = P at C1 C2
  generalize linksV n xs = M at C3 C4
  generalize dropV n xs s = D at C5 C6
  generalize layV n xs s = L at C7 C8
  obtain ⟨E1, E2⟩ := D
  dsimp only at C5 C6
  clear hI hr
  rcases r with _ | _
  · go_enter Try.func4, Try.ntmps4
    go_wp2_with fail
    refine (CF.out _).mono ?_
    rintro e w0 ⟨rfl, rfl⟩
    go_wp2_with fail
    refine (C1.out _ (Below.refl _ _)).mono ?_
    rintro e w1 ⟨v1, rfl, I1, B1⟩
    have D1 := Lib.hid B1
    have J1 := Lib.hid I1
    clear B1 I1
    go_wp2_with fail
    refine (C2.out _ D1.out).mono ?_
    rintro e w2 ⟨v2, rfl, I2, B2⟩
    have D2 := Lib.hid (bon D1.out B2)
    have J2 := Lib.hid I2
    have K1 := Lib.hid (J1.out.below B2)
    clear B2 I2 J1 D1
    go_wp2_with fail
    refine (C3.out _ D2.out).mono ?_
    rintro e w3 ⟨v3, rfl, I3, B3⟩
    have D3 := Lib.hid (bon D2.out B3)
    have J3 := Lib.hid I3
    have K2 := Lib.hid (J2.out.below B3)
    have L1 := Lib.hid (K1.out.below B3)
    clear B3 J2 K1 D2 I3
    go_wp2_with fail
    refine (C4.out _ D3.out).mono ?_
    rintro e w4 ⟨v4, rfl, I4, B4⟩
    have D4 := Lib.hid (bon D3.out B4)
    have J4 := Lib.hid I4
    have K3 := Lib.hid (J3.out.below B4)
    have L2 := Lib.hid (K2.out.below B4)
    have M1 := Lib.hid (L1.out.below B4)
    clear B4 K2 L1 D3 J3 I4
    go_wp2_with fail
    refine (sameInts_is M1.out L2.out true ⟨fun _ => rfl, fun _ => rfl⟩).mono ?_
    rintro e w5 ⟨rfl, B5⟩
    have D5 := Lib.hid (bon D4.out B5)
    have L3 := Lib.hid (K3.out.below B5)
    have K4 := Lib.hid (J4.out.below B5)
    clear B5 D4 M1 L2 K3 J4
    go_wp2_with fail
    refine (sameForm_fs L3.out K4.out true ⟨fun _ => rfl, fun _ => rfl⟩).mono ?_
    rintro e w6 ⟨rfl, B6⟩
    have D6 := Lib.hid (bon D5.out B6)
    clear B6 D5 L3 K4
    go_wp2_with fail
    refine (C5.out _ D6.out).mono ?_
    rintro e w7 ⟨v7, rfl, I7, B7⟩
    have D7 := Lib.hid (bon D6.out B7)
    have J7 := Lib.hid I7
    clear B7 D6 I7
    go_wp2_with fail
    refine (C6.out _ D7.out).mono ?_
    rintro e w8 ⟨v8, rfl, I8, B8⟩
    have D8 := Lib.hid (bon D7.out B8)
    have J8 := Lib.hid I8
    have K7 := Lib.hid (J7.out.below B8)
    clear B8 D7 I8 J7
    go_wp2_with fail
    refine (C7.out _ D8.out _).mono ?_
    rintro e w9 ⟨v9, rfl, I9, B9⟩
    have D9 := Lib.hid (bon D8.out B9)
    have J9 := Lib.hid I9
    have K8 := Lib.hid (J8.out.below B9)
    have L7 := Lib.hid (K7.out.below B9)
    clear B9 D8 I9 J8 K7
    go_wp2_with fail
    refine (C8.out _ D9.out _).mono ?_
    rintro e w10 ⟨v10, rfl, I10, B10⟩
    have D10 := Lib.hid (bon D9.out B10)
    have J10 := Lib.hid I10
    have K9 := Lib.hid (J9.out.below B10)
    have L8 := Lib.hid (K8.out.below B10)
    have M7 := Lib.hid (L7.out.below B10)
    clear B10 D9 I10 J9 K8 L7
    go_wp2_with fail
    refine (sameInts_is M7.out L8.out true ⟨fun _ => rfl, fun _ => rfl⟩).mono ?_
    rintro e w11 ⟨rfl, B11⟩
    have D11 := Lib.hid (bon D10.out B11)
    have L9 := Lib.hid (K9.out.below B11)
    have L10 := Lib.hid (J10.out.below B11)
    clear B11 D10 M7 L8 K9 J10
    go_wp2_with fail
    refine (sameInts_is L9.out L10.out true ⟨fun _ => rfl, fun _ => rfl⟩).mono ?_
    rintro e w12 ⟨rfl, B12⟩
    have D12 := Lib.hid (bon D11.out B12)
    clear B12 D11 L9 L10
    go_wp2_with fail
    refine (awake_any _).mono ?_
    rintro e w13 ⟨rfl, B13⟩
    go_wp2_with fail
    go_ret
    exact ⟨rfl, bon D12.out B13⟩
  · go_enter Try.func4, Try.ntmps4
    go_wp2_with fail
    refine (CF.out _).mono ?_
    rintro e w0 ⟨rfl, rfl⟩
    go_wp2_with fail
    refine (awake_any _).mono ?_
    rintro e w1 ⟨rfl, B1⟩
    go_wp2_with fail
    go_ret
    exact ⟨rfl, B1⟩
theorem perms_row (n : Int) (xs : List Int) (s : Int) (u : Value) (w : World) (_ : (Lit.int .i64 n).wf = true) (hu : IS w u xs) (_ : ∀ z ∈ xs, -9223372036854775808 ≤ z ∧ z ≤ 9223372036854775807) (_ : (Lit.int .i64 s).wf = true) :
    Calls Try.prog 4 #[.int .i64 n, u, .int .i64 s] w fun e w' => e = .returned (.bool true) ∧ Below w.heap.size w w' := perms_any n xs s u w hu
end Go.Proofs.Yteffdkoebigcnaa
