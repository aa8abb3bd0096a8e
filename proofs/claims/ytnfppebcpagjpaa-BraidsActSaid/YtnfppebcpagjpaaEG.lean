/- The law of the action walked. -/
import Derived.Test.YtnfppebcpagjpaaEF
import Derived.Test.YtnfppebcpagjpaaCP
import Derived.Test.YtnfppebcpagjpaaCL
namespace Go.Proofs.Ytnfppebcpagjpaa
open Go.RowKit Go.Lib
set_option maxHeartbeats 2000000 in
set_option maxRecDepth 100000 in
theorem act_ok (m : Nat) (m1 : 1 ≤ m) (m2 : m ≤ 12) (xs ys : List Int) (u v : Value) (w : World) (hu : IS w u xs) (hv : IS w v ys) (hlx : xs.length ≤ 400) (hly : ys.length ≤ 400) (hx : Word m xs) (hy : Word m ys) :
    Calls Try.prog 7 #[.int .i64 (m : Int), u, v] w fun e w' => e = .returned (.bool true) ∧ Below w.heap.size w w' := by
  have Hu := Lib.hid hu
  have Hv := Lib.hid hv
  obtain ⟨sa, sc, rfl, h1, h2, _, hI⟩ := hu
  obtain ⟨sb, sd, rfl, k1, k2, _, kI⟩ := hv
  have hb0 : bothV m xs ys = 0 := by unfold bothV; rw [if_pos (checkV_of m1 m2 hlx hx)]; exact checkV_of m1 m2 hly hy
  have CB := Lib.hid (refBoth_any m xs ys sa sb sc sd w h1 h2 k1 k2 hI kI)
  rw [hb0] at CB
  have CA := Lib.hid (fun w h => refAct_any m m1 m2 xs hx (by omega) (.slice sa xs.length sc) w h)
  have CC := Lib.hid (fun w h => refAct_any m m1 m2 ys hy (by omega) (.slice sb ys.length sd) w h)
  have Hx := Lib.hid hx
  have Hy := Lib.hid hy
  clear hI kI hb0 hx hy
  cases ha : actV m xs with
  | none =>
    rw [ha] at CA
    cases hb : actV m ys with
    | none =>
      rw [hb] at CC
      clear ha hb
      go_enter Try.func7, Try.ntmps7
      go_wp2_with fail
      refine CB.out.mono ?_
      rintro e w0 ⟨rfl, B0⟩
      go_wp2_with fail
      refine (CA.out w0 (Hu.out.below B0)).mono ?_
      rintro e w1 ⟨g1, rfl, F1, B1⟩
      have BW1 := bon B0 B1
      go_wp2_with fail
      refine (CC.out w1 (Hv.out.below BW1)).mono ?_
      rintro e w2 ⟨g2, rfl, F2, B2⟩
      have BW2 := bon BW1 B2
      go_wp2_with fail
      refine (awake_any _).mono ?_
      rintro e w3 ⟨rfl, b3⟩
      go_wp2_with fail
      go_ret
      exact ⟨rfl, bon BW2 b3⟩
    | some H =>
      rw [hb] at CC
      clear ha hb
      go_enter Try.func7, Try.ntmps7
      go_wp2_with fail
      refine CB.out.mono ?_
      rintro e w0 ⟨rfl, B0⟩
      go_wp2_with fail
      refine (CA.out w0 (Hu.out.below B0)).mono ?_
      rintro e w1 ⟨g1, rfl, F1, B1⟩
      have BW1 := bon B0 B1
      go_wp2_with fail
      refine (CC.out w1 (Hv.out.below BW1)).mono ?_
      rintro e w2 ⟨g2, rfl, F2, B2⟩
      have BW2 := bon BW1 B2
      go_wp2_with fail
      refine (awake_any _).mono ?_
      rintro e w3 ⟨rfl, b3⟩
      go_wp2_with fail
      go_ret
      exact ⟨rfl, bon BW2 b3⟩
  | some G =>
    rw [ha] at CA
    cases hb : actV m ys with
    | none =>
      rw [hb] at CC
      clear ha hb
      go_enter Try.func7, Try.ntmps7
      go_wp2_with fail
      refine CB.out.mono ?_
      rintro e w0 ⟨rfl, B0⟩
      go_wp2_with fail
      refine (CA.out w0 (Hu.out.below B0)).mono ?_
      rintro e w1 ⟨g1, rfl, F1, B1⟩
      have BW1 := bon B0 B1
      go_wp2_with fail
      refine (CC.out w1 (Hv.out.below BW1)).mono ?_
      rintro e w2 ⟨g2, rfl, F2, B2⟩
      have BW2 := bon BW1 B2
      go_wp2_with fail
      refine (awake_any _).mono ?_
      rintro e w3 ⟨rfl, b3⟩
      go_wp2_with fail
      go_ret
      exact ⟨rfl, bon BW2 b3⟩
    | some H =>
      rw [hb] at CC
      obtain ⟨r, hr⟩ : ∃ r : Bool, r = true ↔ Eqv m xs ys := ⟨@decide _ (Classical.propDecidable _), @decide_eq_true_iff _ (Classical.propDecidable _)⟩
      have hg : r = true ↔ G = H := by
        rw [hr, (actV_some ha).1, (actV_some hb).1]
        exact (act_iff Hx.out Hy.out).symm
      have Hr := Lib.hid hr
      have Hg := Lib.hid hg
      clear ha hb hr hg
      go_enter Try.func7, Try.ntmps7
      go_wp2_with fail
      refine CB.out.mono ?_
      rintro e w0 ⟨rfl, B0⟩
      go_wp2_with fail
      refine (CA.out w0 (Hu.out.below B0)).mono ?_
      rintro e w1 ⟨g1, rfl, F1, B1⟩
      have BW1 := bon B0 B1
      go_wp2_with fail
      refine (CC.out w1 (Hv.out.below BW1)).mono ?_
      rintro e w2 ⟨g2, rfl, F2, B2⟩
      have BW2 := bon BW1 B2
      have F1' := F1.below B2
      go_wp2_with fail
      refine (Same_is m m1 m2 xs ys _ _ w2 (Hu.out.below BW2) (Hv.out.below BW2) hlx hly Hx.out Hy.out r Hr.out).mono ?_
      rintro e w3 ⟨rfl, B3⟩
      have BW3 := bon BW2 B3
      go_wp2_with fail
      refine (sameForm_fs (F1'.below B3) (F2.below B3) r Hg.out).mono ?_
      rintro e w4 ⟨rfl, B4⟩
      have BW4 := bon BW3 B4
      go_wp2_with fail
      refine (awake_any _).mono ?_
      rintro e w5 ⟨rfl, b5⟩
      go_wp2_with fail
      go_ret
      exact ⟨rfl, bon BW4 b5⟩
set_option maxHeartbeats 1000000 in
set_option maxRecDepth 100000 in
theorem act_any (n : Int) (xs ys : List Int) (u v : Value) (w : World) (_ : (Lit.int .i64 n).wf = true) (hu : IS w u xs) (_ : ∀ z ∈ xs, -9223372036854775808 ≤ z ∧ z ≤ 9223372036854775807) (hv : IS w v ys) (_ : ∀ z ∈ ys, -9223372036854775808 ≤ z ∧ z ≤ 9223372036854775807) :
    Calls Try.prog 7 #[.int .i64 n, u, v] w fun e w' => e = .returned (.bool true) ∧ Below w.heap.size w w' := by
  have Hu := Lib.hid hu
  have Hv := Lib.hid hv
  obtain ⟨sa, sc, rfl, h1, h2, _, hI⟩ := hu
  obtain ⟨sb, sd, rfl, k1, k2, _, kI⟩ := hv
  have CB := Lib.hid (refBoth_any n xs ys sa sb sc sd w h1 h2 k1 k2 hI kI)
  have hok := fun h => bothV_ok (n := n) (xs := xs) (ys := ys) h
  obtain ⟨c, hc⟩ : ∃ c, c = bothV n xs ys := ⟨_, rfl⟩
  rw [← hc] at CB hok
  have HO := Lib.hid hok
  clear hI kI hc hok
  by_cases q3 : c = 0
  · obtain ⟨hx, hy⟩ := HO.out q3
    obtain ⟨m, rfl, m1, m2, lx, wx⟩ := checkV_ok hx
    obtain ⟨m', hm', _, _, ly, wy⟩ := checkV_ok hy
    obtain rfl : m = m' := by omega
    exact act_ok m m1 m2 xs ys _ _ w Hu.out Hv.out lx ly wx wy
  · clear HO
    go_enter Try.func7, Try.ntmps7
    go_wp2_with fail
    refine CB.out.mono ?_
    rintro e w0 ⟨rfl, B0⟩
    go_wp2_with fail
    refine (awake_any _).mono ?_
    rintro e w1 ⟨rfl, B1⟩
    go_wp2_with fail
    go_ret
    exact ⟨rfl, bon B0 B1⟩
end Go.Proofs.Ytnfppebcpagjpaa
