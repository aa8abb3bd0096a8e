/- The law of changes walked at every argument, for whatever the law's 'changed' is known to give. -/
import Derived.Test.YtnfppebcpagjpaaDY
namespace Go.Proofs.Ytnfppebcpagjpaa
open Go.RowKit Go.Lib
set_option maxHeartbeats 1000000 in
set_option maxRecDepth 100000 in
theorem changes_any (HCH : ChangedOk) (n : Int) (xs : List Int) (C : List (Nat × Nat × Nat)) (u v : Value) (w : World) (hu : IS w u xs) (hv : CHS w v C) :
    Calls Try.prog 9 #[.int .i64 n, u, v] w fun e w' => e = .returned (.bool true) ∧ Below w.heap.size w w' := by
  by_cases hok : xs.length ≤ 60 ∧ C.length ≤ 60 ∧ checkV n xs = 0
  · obtain ⟨m, rfl, m1, m2, _, hw⟩ := checkV_ok hok.2.2
    exact changes_ok HCH m m1 m2 xs hok.1 hw C hok.2.1 u v w hu hv
  · obtain ⟨sa, sc, rfl, h1, h2, _, hI⟩ := hu
    obtain ⟨ca, cc, rfl, k1, k2, hCC⟩ := hv
    unfold maxLen at k2
    have CK := Lib.hid (refCheck_any n xs sa sc w hI h1 h2)
    clear hI hCC
    by_cases q1 : (60 : Int) < (xs.length : Int)
    · clear CK hok
      go_enter Try.func9, Try.ntmps9
      go_wp2_with fail
      refine (awake_any _).mono ?_
      rintro e w1 ⟨rfl, B1⟩
      go_wp2_with fail
      go_ret
      exact ⟨rfl, B1⟩
    · by_cases q2 : (60 : Int) < (C.length : Int)
      · clear CK hok
        go_enter Try.func9, Try.ntmps9
        go_wp2_with fail
        refine (awake_any _).mono ?_
        rintro e w1 ⟨rfl, B1⟩
        go_wp2_with fail
        go_ret
        exact ⟨rfl, B1⟩
      · have hc : ¬ checkV n xs = 0 := fun h => hok ⟨by omega, by omega, h⟩
        generalize checkV n xs = c at CK hc
        have hcb : (c == 0) = false := by simpa using hc
        clear hok hc
        go_enter Try.func9, Try.ntmps9
        go_wp2_with fail
        refine CK.out.mono ?_
        rintro e w0 ⟨rfl, B0⟩
        have D0 := Lib.hid B0
        clear B0
        go_wp2_with fail
        refine (awake_any _).mono ?_
        rintro e w1 ⟨rfl, B1⟩
        go_wp2_with fail
        go_ret
        exact ⟨rfl, bon D0.out B1⟩
end Go.Proofs.Ytnfppebcpagjpaa
