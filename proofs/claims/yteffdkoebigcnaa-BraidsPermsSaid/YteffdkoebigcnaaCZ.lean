/- The law of groups walked. -/
import Derived.Test.YteffdkoebigcnaaCY
import Derived.Test.YteffdkoebigcnaaCJ
import Derived.Test.YteffdkoebigcnaaCL
namespace Go.Proofs.Yteffdkoebigcnaa
open Go.RowKit Go.Lib
theorem Trivial_is (n : Nat) (h1 : 1 ≤ n) (h2 : n ≤ 12) (xs : List Int) (u : Value) (w : World) (hu : IS w u xs) (hlx : xs.length ≤ 400) (hx : Word n xs) (he : Eqv n xs []) :
    Calls Try.prog 38 #[.int .i64 (n : Int), u] w fun e w' => e = .returned (.tuple #[.bool true, .int .i64 0]) ∧ Below w.heap.size w w' := by
  obtain ⟨a, c, rfl, k1, k2, _, k3⟩ := hu
  have hn : Word n ([] : List Int) := fun z h => by cases h
  have hb : bothV n xs [] = 0 := by unfold bothV; rw [if_pos (checkV_of h1 h2 hlx hx)]; exact checkV_of h1 h2 (Nat.zero_le _) hn
  have := Trivial_any n xs a c w k1 k2 k3 true (fun h => absurd hb h) (fun _ => by rw [Int.toNat_natCast]; exact ⟨fun _ => (nf_eq_iff h1 hx hn).2 he, fun _ => rfl⟩)
  rw [hb] at this
  exact this
theorem invV_ok {n : Int} {ws : List Int} (h : checkV n ws = 0) : invV n ws = inv ws := if_pos h
theorem permV_ok {n : Nat} {ws : List Int} (h : checkV n ws = 0) : permV n ws = permL n ws := by
  unfold permV
  rw [if_pos h, Int.toNat_natCast]
theorem timesV_ok {n : Nat} (h1 : 1 ≤ n) (h2 : n ≤ 12) {xs ys : List Int} (hl : xs.length + ys.length ≤ 400) (hx : Word n xs) (hy : Word n ys) : timesV n xs ys = (xs ++ ys, 0) := by
  have hb : bothV n xs ys = 0 := by unfold bothV; rw [if_pos (checkV_of h1 h2 (by omega) hx)]; exact checkV_of h1 h2 (by omega) hy
  unfold timesV
  rw [if_pos hb, if_neg (by omega)]
theorem strandV_of {n s : Nat} (hs : s < n) (h1 : 1 ≤ n) (h2 : n ≤ 12) {ws : List Int} (hl : ws.length ≤ 400) (hw : Word n ws) : strandV n ws s = 0 := by
  unfold strandV
  rw [if_pos (checkV_of h1 h2 hl hw), if_neg (by omega)]
theorem dropV_ok {n s : Nat} (hs : s < n) (h1 : 1 ≤ n) (h2 : n ≤ 12) {ws : List Int} (hl : ws.length ≤ 400) (hw : Word n ws) (h : ¬ (n : Int) = 1) : dropV n ws s = ((dropW s ws).1, 0) := by
  unfold dropV
  rw [if_pos (strandV_of hs h1 h2 hl hw), if_neg h, Int.toNat_natCast]
theorem lay_len {n s : Nat} (_ : s < n) (ws : List Int) (hl : ws.length ≤ 60) (h2 : n ≤ 12) (above : Bool) : (layW n ws s above).length ≤ 400 := by
  rw [layW_len]
  have := dropW_len ws s
  omega
theorem layV_ok {n s : Nat} (hs : s < n) (h1 : 1 ≤ n) (h2 : n ≤ 12) {ws : List Int} (hl : ws.length ≤ 60) (hw : Word n ws) (above : Bool) : layV n ws s above = (layW n ws s above, 0) := by
  unfold layV
  rw [if_pos (strandV_of hs h1 h2 (by omega) hw), Int.toNat_natCast, Int.toNat_natCast, if_neg (by have := lay_len hs ws hl h2 above; omega)]
set_option maxHeartbeats 2000000 in
set_option maxRecDepth 100000 in
theorem group_ok (m s : Nat) (hs : s < m) (m1 : 1 ≤ m) (m2 : m ≤ 12) (ws : List Int) (hl60 : ws.length ≤ 60) (hw : Word m ws) (v : Value) (w : World) (hv : IS w v ws) :
    Calls Try.prog 10 #[.int .i64 (m : Int), v, .int .i64 (s : Int)] w fun e w' => e = .returned (.bool true) ∧ Below w.heap.size w w' := by
  have Hu := Lib.hid hv
  have hl : ws.length ≤ 400 := by omega
  have HC0 := Lib.hid (checkV_of m1 m2 hl hw)
  obtain ⟨sa, sc, rfl, h1, h2, _, hI⟩ := hv
  have CK := Lib.hid (refCheck_any (m : Int) ws sa sc w hI h1 h2)
  rw [HC0.out] at CK
  have q1 : ¬ (60 : Int) < (ws.length : Int) := by omega
  have q2 : (s : Int) < (m : Int) := by omega
  have Hw := Lib.hid hw
  have sn : decide ((s : Int) < 0) = false := by simp
  have sq : decide (m ≤ s) = false := by simp; omega
  clear hI
  go_enter Try.func10, Try.ntmps10
  go_wp2_with fail
  refine CK.out.mono ?_
  rintro e w1 ⟨rfl, B1⟩
  have D1 := Lib.hid B1
  have CI := Lib.hid (Inverse_any (m : Int) ws _ w1 (Hu.out.below B1))
  rw [HC0.out, invV_ok HC0.out] at CI
  clear B1 CK hw
  go_wp2_with fail
  refine CI.out.mono ?_
  rintro e w2 ⟨v2, rfl, I2, B2⟩
  have J2 := Lib.hid I2
  have D2 := Lib.hid (bon D1.out B2)
  have C3 := Lib.hid (Times_any (m : Int) ws (inv ws) _ v2 w2 (Hu.out.below D2.out) I2)
  rw [timesV_ok m1 m2 (by rw [inv_len]; omega) Hw.out Hw.out.inv] at C3
  clear I2 B2 D1 CI
  go_wp2_with fail
  refine C3.out.mono ?_
  rintro e w3 ⟨v3, rfl, I3, B3⟩
  have J3 := Lib.hid I3
  have D3 := Lib.hid (bon D2.out B3)
  have K2 := Lib.hid (J2.out.below B3)
  have C4 := Lib.hid (Times_any (m : Int) (inv ws) ws v2 _ w3 K2.out (Hu.out.below D3.out))
  rw [timesV_ok m1 m2 (by rw [inv_len]; omega) Hw.out.inv Hw.out] at C4
  clear I3 B3 D2 C3 J2
  go_wp2_with fail
  refine C4.out.mono ?_
  rintro e w4 ⟨v4, rfl, I4, B4⟩
  have J4 := Lib.hid I4
  have D4 := Lib.hid (bon D3.out B4)
  have K3 := Lib.hid (J3.out.below B4)
  have C5 := Lib.hid (Trivial_is m m1 m2 (ws ++ inv ws) _ w4 K3.out (by rw [List.length_append, inv_len]; omega) (Hw.out.app Hw.out.inv) (canc_r ws Hw.out))
  clear I4 B4 D3 C4 J3 K2
  go_wp2_with fail
  refine C5.out.mono ?_
  rintro e w5 ⟨rfl, B5⟩
  have D5 := Lib.hid (bon D4.out B5)
  have K4 := Lib.hid (J4.out.below B5)
  have C6 := Lib.hid (Trivial_is m m1 m2 (inv ws ++ ws) _ w5 K4.out (by rw [List.length_append, inv_len]; omega) (Hw.out.inv.app Hw.out) (canc_l ws Hw.out))
  clear B5 D4 C5 J4 K3
  go_wp2_with fail
  refine C6.out.mono ?_
  rintro e w6 ⟨rfl, B6⟩
  have D6 := Lib.hid (bon D5.out B6)
  clear B6 D5 C6 K4
  go_wp2_with fail
  try rw [sn]
  try rw [sq]
  go_loopw [17] (fun i wr => (i = .int .i64 0 ∨ i = .int .i64 1 ∨ i = .int .i64 2) ∧ Below w.heap.size w wr) (fun i _ => 2 - (intOf i).toNat)
  case atStart => exact ⟨.inl rfl, D6.out⟩
  case round =>
    obtain ⟨h, hbw⟩ := hrel
    have hw := Hw.out
    rcases h with rfl | rfl | rfl
    · have CL := Lib.hid (Lay_any (m : Int) ws (s : Int) true _ wr (Hu.out.below hbw))
      rw [show layV (m : Int) ws (s : Int) true = (layW m ws s true, 0) from layV_ok hs m1 m2 hl60 hw true] at CL
      have hLw := lay_word hs true ws hw
      have hLl := lay_len hs ws hl60 m2 true
      have HLw := Lib.hid hLw
      have HLl := Lib.hid hLl
      have hLp := lay_perm hs true ws hw
      have HLd := Lib.hid (congrArg Prod.fst (drop_lay hs true ws hw))
      have HBr := Lib.hid hbw
      generalize layW m ws s true = LW at CL HLw HLl hLp HLd
      clear hLw hLl hbw
      go_wp2_with fail
      refine CL.out.mono ?_
      rintro e w1 ⟨v1, rfl, I1, B1⟩
      have J1 := Lib.hid I1
      have D1 := Lib.hid (bon HBr.out B1)
      clear I1 B1 CL HBr
      have CP := Lib.hid (Perm_any (m : Int) ws _ w1 (Hu.out.below D1.out))
      rw [HC0.out, permV_ok HC0.out] at CP
      go_wp2_with fail
      refine CP.out.mono ?_
      rintro e w2 ⟨v2, rfl, I2, B2⟩
      have J2 := Lib.hid I2
      have K1 := Lib.hid (J1.out.below B2)
      have D2 := Lib.hid (bon D1.out B2)
      clear I2 B2 CP D1 J1
      have CQ := Lib.hid (Perm_any (m : Int) LW _ w2 K1.out)
      rw [checkV_of m1 m2 HLl.out HLw.out, permV_ok (checkV_of m1 m2 HLl.out HLw.out), hLp] at CQ
      go_wp2_with fail
      refine CQ.out.mono ?_
      rintro e w3 ⟨v3, rfl, I3, B3⟩
      have K2 := Lib.hid (J2.out.below B3)
      have L1 := Lib.hid (K1.out.below B3)
      have J3 := Lib.hid I3
      have D3 := Lib.hid (bon D2.out B3)
      clear I3 B3 CQ D2 J2 K1 hLp
      go_wp2_with fail
      refine (sameInts_is K2.out J3.out true ⟨fun _ => rfl, fun _ => rfl⟩).mono ?_
      rintro e w4 ⟨rfl, B4⟩
      have M1 := Lib.hid (L1.out.below B4)
      have D4 := Lib.hid (bon D3.out B4)
      clear B4 D3 K2 J3 L1
      by_cases hm1 : (m : Int) = 1
      · have hmb : ((m : Int) == 1) = true := by simpa using hm1
        clear hm1
        go_wp2_with fail
        go_roundw
        case rel => exact ⟨.inr (.inl rfl), D4.out⟩
        case measure => (simp [intOf] <;> omega)
      · have CD := Lib.hid (Drop_any (m : Int) LW (s : Int) _ w4 M1.out)
        rw [dropV_ok hs m1 m2 HLl.out HLw.out hm1, HLd.out] at CD
        go_wp2_with fail
        refine CD.out.mono ?_
        rintro e w5 ⟨v5, rfl, I5, B5⟩
        have J5 := Lib.hid I5
        have D5 := Lib.hid (bon D4.out B5)
        clear I5 B5 CD D4 M1
        have CE := Lib.hid (Drop_any (m : Int) ws (s : Int) _ w5 (Hu.out.below D5.out))
        rw [dropV_ok hs m1 m2 hl hw hm1] at CE
        go_wp2_with fail
        refine CE.out.mono ?_
        rintro e w6 ⟨v6, rfl, I6, B6⟩
        have J6 := Lib.hid I6
        have K5 := Lib.hid (J5.out.below B6)
        have D6 := Lib.hid (bon D5.out B6)
        clear I6 B6 CE D5 J5
        have hwd := drop_word hs ws hw
        have hdl := Nat.le_trans (dropW_len ws s) hl
        have n1 : IntKind.i64.wrap ((m : Int) - 1) = ((m - 1 : Nat) : Int) := num_in (by omega) (by omega)
        have CS := Lib.hid (Same_is (m - 1) (by omega) (by omega) (dropW s ws).1 (dropW s ws).1 _ _ w6 K5.out J6.out hdl hdl hwd hwd true ⟨fun _ => .refl _, fun _ => rfl⟩)
        clear hwd hdl K5 J6
        go_wp2_with fail
        refine CS.out.mono ?_
        rintro e w7 ⟨rfl, B7⟩
        have D7 := Lib.hid (bon D6.out B7)
        clear B7 CS D6
        go_wp2_with fail
        go_roundw
        case rel => exact ⟨.inr (.inl rfl), D7.out⟩
        case measure => (simp [intOf] <;> omega)
    · have CL := Lib.hid (Lay_any (m : Int) ws (s : Int) false _ wr (Hu.out.below hbw))
      rw [show layV (m : Int) ws (s : Int) false = (layW m ws s false, 0) from layV_ok hs m1 m2 hl60 hw false] at CL
      have hLw := lay_word hs false ws hw
      have hLl := lay_len hs ws hl60 m2 false
      have HLw := Lib.hid hLw
      have HLl := Lib.hid hLl
      have hLp := lay_perm hs false ws hw
      have HLd := Lib.hid (congrArg Prod.fst (drop_lay hs false ws hw))
      have HBr := Lib.hid hbw
      generalize layW m ws s false = LW at CL HLw HLl hLp HLd
      clear hLw hLl hbw
      go_wp2_with fail
      refine CL.out.mono ?_
      rintro e w1 ⟨v1, rfl, I1, B1⟩
      have J1 := Lib.hid I1
      have D1 := Lib.hid (bon HBr.out B1)
      clear I1 B1 CL HBr
      have CP := Lib.hid (Perm_any (m : Int) ws _ w1 (Hu.out.below D1.out))
      rw [HC0.out, permV_ok HC0.out] at CP
      go_wp2_with fail
      refine CP.out.mono ?_
      rintro e w2 ⟨v2, rfl, I2, B2⟩
      have J2 := Lib.hid I2
      have K1 := Lib.hid (J1.out.below B2)
      have D2 := Lib.hid (bon D1.out B2)
      clear I2 B2 CP D1 J1
      have CQ := Lib.hid (Perm_any (m : Int) LW _ w2 K1.out)
      rw [checkV_of m1 m2 HLl.out HLw.out, permV_ok (checkV_of m1 m2 HLl.out HLw.out), hLp] at CQ
      go_wp2_with fail
      refine CQ.out.mono ?_
      rintro e w3 ⟨v3, rfl, I3, B3⟩
      have K2 := Lib.hid (J2.out.below B3)
      have L1 := Lib.hid (K1.out.below B3)
      have J3 := Lib.hid I3
      have D3 := Lib.hid (bon D2.out B3)
      clear I3 B3 CQ D2 J2 K1 hLp
      go_wp2_with fail
      refine (sameInts_is K2.out J3.out true ⟨fun _ => rfl, fun _ => rfl⟩).mono ?_
      rintro e w4 ⟨rfl, B4⟩
      have M1 := Lib.hid (L1.out.below B4)
      have D4 := Lib.hid (bon D3.out B4)
      clear B4 D3 K2 J3 L1
      by_cases hm1 : (m : Int) = 1
      · have hmb : ((m : Int) == 1) = true := by simpa using hm1
        clear hm1
        go_wp2_with fail
        go_roundw
        case rel => exact ⟨.inr (.inr rfl), D4.out⟩
        case measure => (simp [intOf] <;> omega)
      · have CD := Lib.hid (Drop_any (m : Int) LW (s : Int) _ w4 M1.out)
        rw [dropV_ok hs m1 m2 HLl.out HLw.out hm1, HLd.out] at CD
        go_wp2_with fail
        refine CD.out.mono ?_
        rintro e w5 ⟨v5, rfl, I5, B5⟩
        have J5 := Lib.hid I5
        have D5 := Lib.hid (bon D4.out B5)
        clear I5 B5 CD D4 M1
        have CE := Lib.hid (Drop_any (m : Int) ws (s : Int) _ w5 (Hu.out.below D5.out))
        rw [dropV_ok hs m1 m2 hl hw hm1] at CE
        go_wp2_with fail
        refine CE.out.mono ?_
        rintro e w6 ⟨v6, rfl, I6, B6⟩
        have J6 := Lib.hid I6
        have K5 := Lib.hid (J5.out.below B6)
        have D6 := Lib.hid (bon D5.out B6)
        clear I6 B6 CE D5 J5
        have hwd := drop_word hs ws hw
        have hdl := Nat.le_trans (dropW_len ws s) hl
        have n1 : IntKind.i64.wrap ((m : Int) - 1) = ((m - 1 : Nat) : Int) := num_in (by omega) (by omega)
        have CS := Lib.hid (Same_is (m - 1) (by omega) (by omega) (dropW s ws).1 (dropW s ws).1 _ _ w6 K5.out J6.out hdl hdl hwd hwd true ⟨fun _ => .refl _, fun _ => rfl⟩)
        clear hwd hdl K5 J6
        go_wp2_with fail
        refine CS.out.mono ?_
        rintro e w7 ⟨rfl, B7⟩
        have D7 := Lib.hid (bon D6.out B7)
        clear B7 CS D6
        go_wp2_with fail
        go_roundw
        case rel => exact ⟨.inr (.inr rfl), D7.out⟩
        case measure => (simp [intOf] <;> omega)
    · go_wp2_with fail
      refine (awake_any _).mono ?_
      rintro e w1 ⟨rfl, B1⟩
      go_wp2_with fail
      go_ret
      exact ⟨rfl, bon hbw B1⟩
set_option maxHeartbeats 1000000 in
set_option maxRecDepth 100000 in
theorem group_any (n : Int) (xs : List Int) (s : Int) (u : Value) (w : World) (_ : (Lit.int .i64 n).wf = true) (hu : IS w u xs) (_ : ∀ z ∈ xs, -9223372036854775808 ≤ z ∧ z ≤ 9223372036854775807) (_ : (Lit.int .i64 s).wf = true) :
    Calls Try.prog 10 #[.int .i64 n, u, .int .i64 s] w fun e w' => e = .returned (.bool true) ∧ Below w.heap.size w w' := by
  have Hu := Lib.hid hu
  obtain ⟨sa, sc, rfl, h1, h2, _, hI⟩ := hu
  have CK := Lib.hid (refCheck_any n xs sa sc w hI h1 h2)
  have hok := fun h => checkV_ok (n := n) (ws := xs) h
  obtain ⟨c, hc⟩ : ∃ c, c = checkV n xs := ⟨_, rfl⟩
  rw [← hc] at CK hok
  have HO := Lib.hid hok
  clear hI hc hok
  by_cases q1 : (60 : Int) < (xs.length : Int)
  · clear CK HO
    go_enter Try.func10, Try.ntmps10
    go_wp2_with fail
    refine (awake_any _).mono ?_
    rintro e w1 ⟨rfl, B1⟩
    go_wp2_with fail
    go_ret
    exact ⟨rfl, B1⟩
  · by_cases q3 : c = 0
    · by_cases q4 : s < 0
      · subst q3
        clear HO
        go_enter Try.func10, Try.ntmps10
        go_wp2_with fail
        refine CK.out.mono ?_
        rintro e w0 ⟨rfl, B0⟩
        go_wp2_with fail
        refine (awake_any _).mono ?_
        rintro e w1 ⟨rfl, B1⟩
        go_wp2_with fail
        go_ret
        exact ⟨rfl, bon B0 B1⟩
      · by_cases q5 : n ≤ s
        · subst q3
          clear HO
          go_enter Try.func10, Try.ntmps10
          go_wp2_with fail
          refine CK.out.mono ?_
          rintro e w0 ⟨rfl, B0⟩
          go_wp2_with fail
          refine (awake_any _).mono ?_
          rintro e w1 ⟨rfl, B1⟩
          go_wp2_with fail
          go_ret
          exact ⟨rfl, bon B0 B1⟩
        · obtain ⟨m, rfl, m1, m2, _, wx⟩ := HO.out q3
          obtain ⟨k, rfl⟩ : ∃ k : Nat, s = (k : Int) := ⟨s.toNat, by omega⟩
          exact group_ok m k (by omega) m1 m2 xs (by omega) wx _ w Hu.out
    · clear HO
      go_enter Try.func10, Try.ntmps10
      go_wp2_with fail
      refine CK.out.mono ?_
      rintro e w0 ⟨rfl, B0⟩
      go_wp2_with fail
      refine (awake_any _).mono ?_
      rintro e w1 ⟨rfl, B1⟩
      go_wp2_with fail
      go_ret
      exact ⟨rfl, bon B0 B1⟩
end Go.Proofs.Yteffdkoebigcnaa
