/- The law of changes walked, for whatever the law's 'changed' is known to give. -/
import Derived.Test.YtnfppebcpagjpaaDX
import Derived.Test.YtnfppebcpagjpaaDQ
import Derived.Test.YtnfppebcpagjpaaDB
namespace Go.Proofs.Ytnfppebcpagjpaa
open Go.RowKit Go.Lib
/-- What is to be known of the law's 'changed'. -/
def ChangedOk : Prop := ∀ (n : Nat) (_ : 1 ≤ n) (_ : n ≤ 12) (ws : List Int) (_ : Word n ws) (_ : ws.length ≤ 200) (kd at_ ii : Nat) (_ : kd < 256) (_ : at_ < 256) (_ : ii < 256) (v : Value) (w : World) (_ : IS w v ws),
    Calls Try.prog 45 #[.int .i64 (n : Int), v, .agg #[.int .u8 kd, .int .u8 at_, .int .u8 ii]] w fun e w' => ∃ v' ys, e = .returned v' ∧ IS w' v' ys ∧ Eqv n ws ys ∧ ys.length ≤ ws.length + 2 ∧ Below w.heap.size w w'
theorem CHS.below {w w' : World} {v : Value} {C : List (Nat × Nat × Nat)} (h : CHS w v C) (hb : Below w.heap.size w w') : CHS w' v C := by
  obtain ⟨a, c, e, h1, h2, h3⟩ := h
  refine ⟨a, c, e, h1, h2, fun k x hx => ?_⟩
  obtain ⟨b, off, e1, e2, e3, e4, e5, e6⟩ := h3 k x hx
  exact ⟨b, off, e1, Nat.lt_of_lt_of_le e2 hb.size, (hb.cell (p := ⟨b, off + k * 3, none⟩) e2).trans e3, (hb.cell (p := ⟨b, off + k * 3 + 1, none⟩) e2).trans e4, (hb.cell (p := ⟨b, off + k * 3 + 2, none⟩) e2).trans e5, e6⟩
theorem normal_fs (m : Nat) (m1 : 1 ≤ m) (xs : List Int) (hc : checkV m xs = 0) (v : Value) (w : World) (hv : IS w v xs) :
    Calls Try.prog 42 #[.int .i64 (m : Int), v] w fun e w' => ∃ v', e = .returned (.tuple #[.int .i64 (nf m xs).1, v', .int .i64 0]) ∧ FS w' v' ((nf m xs).2.map (ints m)) ∧ Below w.heap.size w w' := by
  obtain ⟨sa, sc, rfl, h1, h2, _, hI⟩ := hv
  refine (Normal_any m xs sa sc w h1 h2 hI hc).mono ?_
  rintro e w' ⟨v', fs, rfl, O, R, B⟩
  have hn : (m : Int).toNat = m := by omega
  rw [hn] at O R ⊢
  refine ⟨_, rfl, ?_, B⟩
  by_cases hD : 0 < (nf m xs).2.length
  · obtain ⟨g, c, rfl, hc1, hc2, F3⟩ := form_of O R hD (by omega)
    exact ⟨_, _, by rw [List.length_map], by rw [List.length_map]; exact hc1, hc2, F3⟩
  · have h0 : (nf m xs).2 = [] := List.eq_nil_of_length_eq_zero (by omega)
    rw [h0] at O ⊢
    rcases O.2 with ⟨rfl, _⟩ | ⟨g, cap, _, rfl, _, _, _, hm, _⟩
    · exact fs_nil w'
    · exact ⟨_, cap, rfl, Nat.zero_le _, hm, fun k l h => by simp at h⟩
theorem infoCh : (Try.prog.info? 53).map (fun i => i.size) = some 3 := by kernel_rfl
set_option maxHeartbeats 2000000 in
set_option maxRecDepth 100000 in
theorem changes_ok (HCH : ChangedOk) (m : Nat) (m1 : 1 ≤ m) (m2 : m ≤ 12) (xs : List Int) (hl60 : xs.length ≤ 60) (hx : Word m xs) (C : List (Nat × Nat × Nat)) (hC : C.length ≤ 60) (u v : Value) (w : World) (hu : IS w u xs) (hv : CHS w v C) :
    Calls Try.prog 9 #[.int .i64 (m : Int), u, v] w fun e w' => e = .returned (.bool true) ∧ Below w.heap.size w w' := by
  have Hu := Lib.hid hu
  have Hv := Lib.hid hv
  have HH := Lib.hid HCH
  have hl : xs.length ≤ 400 := by omega
  have HC0 := Lib.hid (checkV_of m1 m2 hl hx)
  obtain ⟨sa, sc, rfl, h1, h2, _, hI⟩ := hu
  obtain ⟨ca, cc, rfl, k1, k2, hCC⟩ := hv
  unfold maxLen at k2
  have CK := Lib.hid (refCheck_any (m : Int) xs sa sc w hI h1 h2)
  rw [HC0.out] at CK
  have q1 : ¬ (60 : Int) < (xs.length : Int) := by omega
  have q2 : ¬ (60 : Int) < (C.length : Int) := by omega
  have Hx := Lib.hid hx
  have HCC := Lib.hid hCC
  clear hI hx hCC HCH
  go_enter Try.func9, Try.ntmps9
  go_wp2_with fail
  refine CK.out.mono ?_
  rintro e w1 ⟨rfl, B1⟩
  have D1 := Lib.hid B1
  clear B1
  go_wp2_with fail
  go_loopw [7, 8] (fun vo i wr => ∃ (k : Nat) (ys : List Int), k ≤ C.length ∧ i = .int .i64 k ∧ IS wr vo ys ∧ Eqv m xs ys ∧ ys.length ≤ xs.length + 2 * k ∧ Below w.heap.size w wr) (fun _ i _ => C.length - (intOf i).toNat)
  case atStart => exact ⟨0, xs, Nat.zero_le _, rfl, Hu.out.below D1.out, .refl _, by omega, D1.out⟩
  case round =>
    obtain ⟨k, ys, hk, rfl, hys, hE, hyl, hbw⟩ := hrel
    have Hys := Lib.hid hys
    have HE := Lib.hid hE
    have Hwy := Lib.hid (hE.word.1 Hx.out)
    have HB := Lib.hid hbw
    clear hys hE
    by_cases hkC : k < C.length
    · have j0 : (0 : Int) ≤ (k : Int) := by omega
      have j1 : (k : Int) < (C.length : Int) := by omega
      obtain ⟨x, hxk⟩ : ∃ x, C[k]? = some x := ⟨_, List.getElem?_eq_getElem hkC⟩
      obtain ⟨b, off, rfl, hb, e0, e1, e2, b0, b1, b2⟩ := HCC.out k x hxk
      have hr : wr.rangeAt b (off + k * 3) [.int .u8 x.1, .int .u8 x.2.1, .int .u8 x.2.2] := fun j u hj => by
        rcases j with _ | _ | _ | j
        · obtain rfl : Value.int .u8 x.1 = u := by simpa using hj
          exact (hbw.cell (p := ⟨b, off + k * 3, none⟩) hb).trans e0
        · obtain rfl : Value.int .u8 x.2.1 = u := by simpa using hj
          exact (hbw.cell (p := ⟨b, off + k * 3 + 1, none⟩) hb).trans e1
        · obtain rfl : Value.int .u8 x.2.2 = u := by simpa using hj
          exact (hbw.cell (p := ⟨b, off + k * 3 + 2, none⟩) hb).trans e2
        · simp at hj
      have CA := Lib.hid (HH.out m m1 m2 ys Hwy.out (by omega) x.1 x.2.1 x.2.2 b0 b1 b2 _ wr Hys.out)
      clear hbw e0 e1 e2 hxk
      go_wp2_with (refine wpList_load_mid rfl 53 (.tmp 48) rfl b (off + k * 3) rfl [.int .u8 x.1, .int .u8 x.2.1, .int .u8 x.2.2] _ hr Try.underlying53 rfl infoCh ?_)
      refine CA.out.mono ?_
      rintro e w2 ⟨v2, zs, rfl, I2, E2, l2, B2⟩
      have HI2 := Lib.hid I2
      have HE2 := Lib.hid (HE.out.trans E2)
      have HB2 := Lib.hid (bon HB.out B2)
      clear I2 E2 B2
      go_wp2_with fail
      go_roundw
      case rel => exact ⟨k + 1, zs, hkC, by go_num, HI2.out, HE2.out, by omega, HB2.out⟩
      case measure => (simp [intOf] <;> omega)
    · have j1 : ¬ (k : Int) < (C.length : Int) := by omega
      have hly : ys.length ≤ 400 := by omega
      have Cs := Lib.hid (Same_is m m1 m2 xs ys _ _ wr (Hu.out.below HB.out) Hys.out hl hly Hx.out Hwy.out true ⟨fun _ => HE.out, fun _ => rfl⟩)
      have HCy := Lib.hid (checkV_of m1 m2 hly Hwy.out)
      have hnf := (nf_eq_iff m1 Hx.out Hwy.out).2 HE.out
      have N1 := Lib.hid (fun w' (B : Below w.heap.size w w') => normal_fs m m1 xs HC0.out _ w' (Hu.out.below B))
      have N2 := Lib.hid (fun vy w' (h : IS w' vy ys) => normal_fs m m1 ys HCy.out vy w' h)
      rw [← hnf] at N2
      have P1 := Lib.hid (fun w' (B : Below w.heap.size w w') => Perm_any (m : Int) xs _ w' (Hu.out.below B))
      have P2 := Lib.hid (fun vy w' (h : IS w' vy ys) => Perm_any (m : Int) ys vy w' h)
      have L1 := Lib.hid (fun w' (B : Below w.heap.size w w') => Links_any (m : Int) xs _ w' (Hu.out.below B))
      have L2 := Lib.hid (fun vy w' (h : IS w' vy ys) => Links_any (m : Int) ys vy w' h)
      have ep : permV (m : Int) ys = permV (m : Int) xs := by
        unfold permV
        rw [HCy.out, HC0.out, if_pos rfl, if_pos rfl, HE.out.perm Hx.out]
      have el : linksV (m : Int) ys = linksV (m : Int) xs := by
        unfold linksV
        rw [HCy.out, HC0.out, if_pos rfl, if_pos rfl, HE.out.links Hx.out]
      rw [HC0.out] at P1 L1
      rw [HCy.out, ep] at P2
      rw [HCy.out, el] at L2
      have S1 := Lib.hid (fun w' (B : Below w.heap.size w w') => signs_any xs hl _ w' (Hu.out.below B))
      have S2 := Lib.hid (fun vy w' (h : IS w' vy ys) => signs_any ys hly vy w' h)
      rw [← HE.out.sumS] at S2
      generalize nf m xs = NF at N1 N2
      generalize permV (m : Int) xs = PV at P1 P2
      generalize linksV (m : Int) xs = LV at L1 L2
      generalize sumS xs = SS at S1 S2
      clear hnf ep el hbw
      go_wp2_with fail
      refine Cs.out.mono ?_
      rintro e w2 ⟨rfl, B2⟩
      have D2 := Lib.hid (bon HB.out B2)
      have Y2 := Lib.hid (Hys.out.below B2)
      clear B2 Cs HB Hys
      go_wp2_with fail
      refine (N1.out _ D2.out).mono ?_
      rintro e w3 ⟨v3, rfl, I3, B3⟩
      have D3 := Lib.hid (bon D2.out B3)
      have Y3 := Lib.hid (Y2.out.below B3)
      have J3 := Lib.hid I3
      clear B3 I3 D2 Y2
      go_wp2_with fail
      refine (N2.out _ _ Y3.out).mono ?_
      rintro e w4 ⟨v4, rfl, I4, B4⟩
      have D4 := Lib.hid (bon D3.out B4)
      have Y4 := Lib.hid (Y3.out.below B4)
      have J4 := Lib.hid I4
      have K3 := Lib.hid (J3.out.below B4)
      clear B4 I4 D3 Y3 J3
      go_wp2_with fail
      refine (sameForm_fs K3.out J4.out true ⟨fun _ => rfl, fun _ => rfl⟩).mono ?_
      rintro e w5 ⟨rfl, B5⟩
      have D5 := Lib.hid (bon D4.out B5)
      have Y5 := Lib.hid (Y4.out.below B5)
      clear B5 D4 Y4 K3 J4
      go_wp2_with fail
      refine (P1.out _ D5.out).mono ?_
      rintro e w6 ⟨v6, rfl, I6, B6⟩
      have D6 := Lib.hid (bon D5.out B6)
      have Y6 := Lib.hid (Y5.out.below B6)
      have J6 := Lib.hid I6
      clear B6 I6 D5 Y5
      go_wp2_with fail
      refine (P2.out _ _ Y6.out).mono ?_
      rintro e w7 ⟨v7, rfl, I7, B7⟩
      have D7 := Lib.hid (bon D6.out B7)
      have Y7 := Lib.hid (Y6.out.below B7)
      have J7 := Lib.hid I7
      have K6 := Lib.hid (J6.out.below B7)
      clear B7 I7 D6 Y6 J6
      go_wp2_with fail
      refine (L1.out _ D7.out).mono ?_
      rintro e w8 ⟨v8, rfl, I8, B8⟩
      have D8 := Lib.hid (bon D7.out B8)
      have Y8 := Lib.hid (Y7.out.below B8)
      have J8 := Lib.hid I8
      have K7 := Lib.hid (J7.out.below B8)
      have M6 := Lib.hid (K6.out.below B8)
      clear B8 I8 D7 Y7 J7 K6
      go_wp2_with fail
      refine (L2.out _ _ Y8.out).mono ?_
      rintro e w9 ⟨v9, rfl, I9, B9⟩
      have D9 := Lib.hid (bon D8.out B9)
      have Y9 := Lib.hid (Y8.out.below B9)
      have J9 := Lib.hid I9
      have K8 := Lib.hid (J8.out.below B9)
      have M7 := Lib.hid (K7.out.below B9)
      have N6 := Lib.hid (M6.out.below B9)
      clear B9 I9 D8 Y8 J8 K7 M6
      go_wp2_with fail
      refine (sameInts_is N6.out M7.out true ⟨fun _ => rfl, fun _ => rfl⟩).mono ?_
      rintro e wa ⟨rfl, Ba⟩
      have Da := Lib.hid (bon D9.out Ba)
      have Ya := Lib.hid (Y9.out.below Ba)
      have A8 := Lib.hid (K8.out.below Ba)
      have A9 := Lib.hid (J9.out.below Ba)
      clear Ba D9 Y9 K8 J9 N6 M7
      go_wp2_with fail
      refine (sameForm_fs A8.out A9.out true ⟨fun _ => rfl, fun _ => rfl⟩).mono ?_
      rintro e wb ⟨rfl, Bb⟩
      have Db := Lib.hid (bon Da.out Bb)
      have Yb := Lib.hid (Ya.out.below Bb)
      clear Bb Da Ya A8 A9
      go_wp2_with fail
      refine (S1.out _ Db.out).mono ?_
      rintro e wc ⟨rfl, rfl⟩
      go_wp2_with fail
      refine (S2.out _ _ Yb.out).mono ?_
      rintro e wd ⟨rfl, rfl⟩
      go_wp2_with fail
      refine (awake_any _).mono ?_
      rintro e we ⟨rfl, Be⟩
      go_wp2_with fail
      go_ret
      exact ⟨rfl, bon Db.out Be⟩
end Go.Proofs.Ytnfppebcpagjpaa
