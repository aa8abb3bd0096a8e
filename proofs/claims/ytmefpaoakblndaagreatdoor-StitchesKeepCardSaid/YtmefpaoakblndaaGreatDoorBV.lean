/- Are two words the same braid: Same walked. -/
import Derived.Test.YtmefpaoakblndaaGreatDoorBU
namespace Go.Proofs.YtmefpaoakblndaaGreatDoor
open Go.RowKit
theorem checkV_ok {n : Int} {ws : List Int} (h : checkV n ws = 0) : ∃ m : Nat, n = (m : Int) ∧ 1 ≤ m ∧ m ≤ 12 ∧ ws.length ≤ 400 ∧ Word m ws := by
  unfold checkV at h
  split at h
  · cases h
  · split at h
    · cases h
    · split at h
      · rename_i h1 h2 h3
        refine ⟨n.toNat, by omega, by omega, by omega, by omega, fun z hz => ?_⟩
        have h4 := List.all_eq_true.1 h3 z hz
        unfold isL at h4
        have h5 := of_decide_eq_true h4
        exact ⟨h5.1, by omega, by omega⟩
      · cases h
theorem bothV_ok {n : Int} {xs ys : List Int} (h : bothV n xs ys = 0) : checkV n xs = 0 ∧ checkV n ys = 0 := by
  unfold bothV at h
  split at h
  · rename_i h1
    exact ⟨h1, h⟩
  · rename_i h1
    exact absurd h h1
attribute [local irreducible] wpQuiet
set_option maxHeartbeats 1000000 in
set_option maxRecDepth 100000 in
theorem Same_any (n : Int) (xs ys : List Int) (sa sb : Option Addr) (sc sd : Nat) (w : World) (hsc : xs.length ≤ sc) (hmx : sc ≤ maxLen) (hsd : ys.length ≤ sd) (hmd : sd ≤ maxLen) (ha : IntsAt w sa xs) (hb : IntsAt w sb ys)
    (r : Bool) (hr0 : bothV n xs ys ≠ 0 → r = false) (hr1 : bothV n xs ys = 0 → (r = true ↔ nf n.toNat xs = nf n.toNat ys)) :
    Calls Tryz.prog 77 #[.int .i64 n, .slice sa xs.length sc, .slice sb ys.length sd] w fun e w' => e = .returned (.tuple #[.bool r, .int .i64 (bothV n xs ys)]) ∧ Below w.heap.size w w' := by
  have Ha := Lib.hid ha
  have Hb := Lib.hid hb
  clear ha hb
  obtain ⟨v, hv⟩ : ∃ v, v = bothV n xs ys := ⟨_, rfl⟩
  rw [← hv] at hr0 hr1 ⊢
  have H0 := Lib.hid hr0
  have H1 := Lib.hid hr1
  have Hv := Lib.hid hv
  clear hr0 hr1 hv
  go_enter Tryz.func77, Tryz.ntmps77
  go_wp2_with fail
  refine (checkBoth_any n xs ys sa sb sc sd w hsc hmx hsd hmd Ha.out Hb.out).mono ?_
  rintro e w1 ⟨rfl, B1⟩
  rw [← Hv.out]
  by_cases h : v = 0
  · obtain ⟨hx, hy⟩ := bothV_ok (Hv.out.symm.trans h)
    obtain ⟨m, rfl, hm1, hm2, hlx, hwx⟩ := checkV_ok hx
    obtain ⟨m', hm', _, _, hly, hwy⟩ := checkV_ok hy
    obtain rfl : m = m' := by omega
    have hE := H1.out h
    rw [Int.toNat_natCast] at hE
    have HE := Lib.hid hE
    have Hwx := Lib.hid hwx
    have Hwy := Lib.hid hwy
    clear hE hwx hwy hm' hx hy
    subst h
    obtain ⟨p1, D1, hn1⟩ : ∃ p D, nf m xs = (p, D) := ⟨_, _, rfl⟩
    obtain ⟨p2, D2, hn2⟩ : ∃ p D, nf m ys = (p, D) := ⟨_, _, rfl⟩
    have C1 := normalOf_any m xs sa sc w1 hm2 Hwx.out (by omega) hsc (Ha.out.below B1)
    have L1 := nf_le xs Hwx.out
    have L2 := nf_le ys Hwy.out
    have hE := HE.out
    rw [hn1] at C1 L1 hE
    rw [hn2] at L2 hE
    dsimp only at C1 L1 L2
    have HE2 := Lib.hid hE
    have HC1 := Lib.hid C1
    have HL1 := Lib.hid L1
    have HL2 := Lib.hid L2
    have l1 : D1.length ≤ 400 := by have := L1.1; omega
    have l2 : D2.length ≤ 400 := by have := L2.1; omega
    clear hE C1 L1 L2 HE H0 H1 Hv
    go_wp2_with fail
    refine HC1.out.mono ?_
    rintro e w2 ⟨ao, ca, F2, B2, rfl⟩
    have C2 := normalOf_any m ys sb sd w2 hm2 Hwy.out (by omega) hsd ((Hb.out.below B1).below B2)
    rw [hn2] at C2
    dsimp only at C2
    have HC2 := Lib.hid C2
    have HF2 := Lib.hid F2
    clear C2 F2
    go_wp2_with fail
    refine HC2.out.mono ?_
    rintro e w3 ⟨bo, cb, F3, B3, rfl⟩
    have HF3 := Lib.hid (F3.mono (Nat.zero_le _))
    have HF2' := Lib.hid ((HF2.out.below B3).mono (Nat.zero_le _))
    have BW := Lib.hid (B1.trans ((B2.trans (B3.mono B2.size)).mono B1.size))
    clear F3 HF2 HC1 HC2 B1 B2 B3
    by_cases hp : p1 = p2
    · subst hp
      go_wp2_with fail
      refine (equal_any 0 m hm2 D1 D2 r (by rw [HE2.out]; simp) ao bo ca cb _ HL1.out.2.2.2 HL2.out.2.2.2 (by omega) (by omega) (HF2'.out.below ((below_alloc w3 _).alloc (by simp) _)) (HF3.out.below ((below_alloc w3 _).alloc (by simp) _))).mono ?_
      rintro e w4 ⟨rfl, B4⟩
      go_wp2_with fail
      go_ret2
      exact ⟨rfl, BW.out.trans ((((below_alloc w3 _).alloc (by simp) _).trans (B4.mono (((below_alloc w3 _).alloc (by simp) _) : Below w3.heap.size w3 _).size)).mono BW.out.size)⟩
    · go_wp2_with fail
      go_ret2
      refine ⟨?_, BW.out.trans (((below_alloc w3 _).alloc (by simp) _).mono BW.out.size)⟩
      have : r = false := by
        rcases hrv : r with _ | _
        · rfl
        · exact absurd (congrArg Prod.fst (HE2.out.1 hrv)) hp
      rw [this]
      rfl
  · have h' := Lib.hid (H0.out h)
    go_wp2_with fail
    go_ret2
    refine ⟨?_, B1⟩
    rw [h'.out]
    rfl
end Go.Proofs.YtmefpaoakblndaaGreatDoor
