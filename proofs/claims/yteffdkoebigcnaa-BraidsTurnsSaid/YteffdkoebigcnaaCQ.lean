/- The law of turns walked. -/
import Derived.Test.YteffdkoebigcnaaCP
import Derived.Test.YteffdkoebigcnaaCL
namespace Go.Proofs.Yteffdkoebigcnaa
open Go.RowKit Go.Lib
theorem alt_ng (ws : List Int) : altL ws (-1) false = ng ws := by
  unfold altL ng
  simp
theorem alt_rev (ws : List Int) : altL ws 1 true = ws.reverse := by
  unfold altL
  simp
theorem neg_letter {n : Nat} {z : Int} (hz : ¬ 0 < z) : trn n z = -(n : Int) - z := by unfold trn; rw [if_neg hz]
theorem pos_letter {n : Nat} {z : Int} (hz : 0 < z) : trn n z = (n : Int) - z := by unfold trn; rw [if_pos hz]
set_option maxHeartbeats 2000000 in
set_option maxRecDepth 100000 in
theorem turns_ok (m : Nat) (m1 : 1 ≤ m) (m2 : m ≤ 12) (xs ys : List Int) (u v : Value) (w : World) (hu : IS w u xs) (hv : IS w v ys) (hlx : xs.length ≤ 60) (hly : ys.length ≤ 60) (hx : Word m xs) (hy : Word m ys) :
    Calls Try.prog 12 #[.int .i64 (m : Int), u, v] w fun e w' => e = .returned (.bool true) ∧ Below w.heap.size w w' := by
  have Hu := Lib.hid hu
  have Hv := Lib.hid hv
  obtain ⟨sa, sc, rfl, h1, h2, _, hI⟩ := hu
  obtain ⟨sb, sd, rfl, k1, k2, _, kI⟩ := hv
  have hb0 : bothV m xs ys = 0 := by unfold bothV; rw [if_pos (checkV_of m1 m2 (by omega) hx)]; exact checkV_of m1 m2 (by omega) hy
  have CB := Lib.hid (refBoth_any m xs ys sa sb sc sd w h1 h2 k1 k2 hI kI)
  rw [hb0] at CB
  obtain ⟨r, hr⟩ : ∃ r : Bool, r = true ↔ Eqv m xs ys := ⟨@decide _ (Classical.propDecidable _), @decide_eq_true_iff _ (Classical.propDecidable _)⟩
  have HI := Lib.hid hI
  have Hx := Lib.hid hx
  have Hy := Lib.hid hy
  have Hr := Lib.hid hr
  have q1 : ¬ (60 : Int) < (xs.length : Int) := by omega
  have q2 : ¬ (60 : Int) < (ys.length : Int) := by omega
  clear hI kI hb0 hr hx hy
  go_enter Try.func12, Try.ntmps12
  go_wp2_with fail
  refine CB.out.mono ?_
  rintro e w0 ⟨rfl, B0⟩
  have HB0 := Lib.hid B0
  clear B0 CB
  go_wp2_with fail
  go_loopw [7, 8] (fun vo i wr => ∃ (k : Nat) (D : List Int), k ≤ m ∧ D.length = k ∧ i = .int .i64 k ∧ D = (ints m (dl m)).take k ∧ wr.ownsRow w.heap.size 3 1 vo D.length (D.map (Value.int .i64)) ∧ Below w.heap.size w wr) (fun _ i _ => m - (intOf i).toNat)
  case atStart => exact ⟨0, [], Nat.zero_le _, rfl, rfl, rfl, World.ownsRow_nil _ _ _ _, HB0.out⟩
  case round =>
    obtain ⟨k, D, hk, hdk, rfl, hD, hown, hbw⟩ := hrel
    have Hown := Lib.hid hown
    have HD := Lib.hid hD
    have Hdk := Lib.hid hdk
    have hbs := hbw.size
    clear hown hD hdk
    by_cases hkl : k < m
    · have hkl' : (k : Int) < (m : Int) := by omega
      have n1 : IntKind.i64.wrap ((m : Int) - 1) = ((m - 1 : Nat) : Int) := num_in (by omega) (by omega)
      have n2 : IntKind.i64.wrap (((m - 1 : Nat) : Int) - (k : Int)) = ((m - 1 - k : Nat) : Int) := num_in (by omega) (by omega)
      go_wp2_with (at_builtin; refine app_one (w0 := w) w.heap.size _ D ((m - 1 - k : Nat) : Int) rfl _ _ rfl rfl Hown.out rfl (by have := Hdk.out; omega) hbw hbs ?_; intro g cap w1 hown1 hb1)
      have HO1 := Lib.hid hown1
      clear hown1
      go_wp2_with fail
      go_roundw
      case rel => exact ⟨k + 1, D ++ [((m - 1 - k : Nat) : Int)], hkl, by rw [List.length_append, Hdk.out]; rfl, by go_num, by rw [take_more (ints_dl hkl), HD.out], by rw [List.length_append]; exact HO1.out, hb1⟩
      case measure => (simp [intOf] <;> omega)
    · have hkl' : ¬ (k : Int) < (m : Int) := by omega
      have e : k = m := by omega
      have Hf := Hown.out
      rw [HD.out, e, List.take_of_length_le (by rw [ints_len]; exact Nat.le_refl _)] at Hf
      obtain ⟨ao, co, rfl⟩ := own_form Hf
      have hI0 := is_own Hf rfl
      have hI1 := hI0.below (below_alloc wr (.cells #[.slice ao (ints m (dl m)).length co] 22))
      have CW := Lib.hid (refWord_delta m m1 m2 wr.heap.size (0, 0) _ _ (heap_alloc_new wr _) hI1)
      have HBR := Lib.hid (hbw.alloc hbs (.cells #[.slice ao (ints m (dl m)).length co] 22))
      clear Hown HD Hf hI0 hI1 hbw hbs e
      go_wp2_with fail
      refine CW.out.mono ?_
      rintro e w1 ⟨vd, rfl, ID, B1⟩
      have HID := Lib.hid ID
      have HB1 := Lib.hid (HBR.out.trans (B1.mono HBR.out.size))
      clear ID B1 HBR CW
      go_wp2_with fail
      rename World => w1
      go_loopw [11, 12] (fun vo i wr => ∃ (k : Nat) (D : List Int), k ≤ xs.length ∧ D.length = k ∧ i = .int .i64 k ∧ D = (xs.map (trn m)).take k ∧ wr.ownsRow w1.heap.size 3 1 vo D.length (D.map (Value.int .i64)) ∧ Below w1.heap.size w1 wr) (fun _ i _ => xs.length - (intOf i).toNat)
      case atStart => exact ⟨0, [], Nat.zero_le _, rfl, rfl, rfl, World.ownsRow_nil _ _ _ _, Below.refl _ _⟩
      case round =>
        obtain ⟨k, D, hk, hdk, rfl, hD, hown, hbw⟩ := hrel
        have Hown := Lib.hid hown
        have HD := Lib.hid hD
        have Hdk := Lib.hid hdk
        have hbs := hbw.size
        clear hown hD hdk
        by_cases hkl : k < xs.length
        · obtain ⟨x, hxk⟩ : ∃ x, xs[k]? = some x := ⟨_, List.getElem?_eq_getElem hkl⟩
          have hlet : Letter m x := Hx.out x (List.mem_of_getElem? hxk)
          have Hnext := Lib.hid (take_more (l := xs.map (trn m)) (k := k) (z := trn m x) (by rw [List.getElem?_map, hxk]; rfl))
          obtain ⟨b, off, rfl, hb, hc⟩ := HI.out k x hxk
          have hcx := ((HB1.out.trans (hbw.mono HB1.out.size)).cell (p := ⟨b, off + k, none⟩) hb).trans hc
          have k0 : (0 : Int) ≤ (k : Int) := by omega
          have k1' : (k : Int) < (xs.length : Int) := by omega
          have g1 := hlet.2.1
          have g2 := hlet.2.2
          have hxn : IntKind.i64.wrap (-(m : Int)) = -(m : Int) := IntWalk.i64_in _ (by omega)
          by_cases hp : 0 < x
          · have ht := pos_letter (n := m) hp
            have hw1 : IntKind.i64.wrap ((m : Int) - x) = (m : Int) - x := IntWalk.i64_in _ (by omega)
            rw [ht] at Hnext
            clear ht hc hxk hlet
            go_wp2_with (at_builtin; refine app_one (w0 := w1) w1.heap.size _ D ((m : Int) - x) rfl _ _ rfl rfl Hown.out rfl (by have := Hdk.out; omega) hbw hbs ?_; intro g cap w2 hown2 hb2)
            have HO2 := Lib.hid hown2
            clear hown2
            go_wp2_with fail
            go_roundw
            case rel => exact ⟨k + 1, D ++ [(m : Int) - x], hkl, by rw [List.length_append, Hdk.out]; rfl, by go_num, by rw [Hnext.out, HD.out], by rw [List.length_append]; exact HO2.out, hb2⟩
            case measure => (simp [intOf] <;> omega)
          · have ht := neg_letter (n := m) hp
            have hw1 : IntKind.i64.wrap (-(m : Int) - x) = -(m : Int) - x := IntWalk.i64_in _ (by omega)
            rw [ht] at Hnext
            clear ht hc hxk hlet
            go_wp2_with (at_builtin; refine app_one (w0 := w1) w1.heap.size _ D (-(m : Int) - x) rfl _ _ rfl rfl Hown.out rfl (by have := Hdk.out; omega) hbw hbs ?_; intro g cap w2 hown2 hb2)
            have HO2 := Lib.hid hown2
            clear hown2
            go_wp2_with fail
            go_roundw
            case rel => exact ⟨k + 1, D ++ [-(m : Int) - x], hkl, by rw [List.length_append, Hdk.out]; rfl, by go_num, by rw [Hnext.out, HD.out], by rw [List.length_append]; exact HO2.out, hb2⟩
            case measure => (simp [intOf] <;> omega)
        · have k1' : ¬ (k : Int) < (xs.length : Int) := by omega
          have Hf := Hown.out
          rw [HD.out, List.take_of_length_le (by simp; omega)] at Hf
          have HIT := Lib.hid (is_own Hf rfl)
          have HBz := Lib.hid hbw
          have hs1 := HBz.out.size
          have A0 := below_alloc wr (.cells #[] 3)
          have HD0 := Lib.hid (HID.out.below hbw)
          have HD1 := Lib.hid ((HID.out.below hbw).below A0)
          have HT1 := Lib.hid HIT.out
          have hdl := dw_len m2
          have Hdl := Lib.hid hdl
          clear Hown HD Hf hbw hbs Hdk hdl
          go_wp2_with (first
            | (at_builtin; refine app_all (w0 := w3) w3.heap.size _ ([] ++ xs.map (trn m)) (dw m) rfl _ _ rfl rfl O4.out _ rfl (HD0.out.below (bon B3.out B4.out)) (by have := Hdl.out; simp; omega) B4.out B4.out.size ?_; intro v5 w5 o5 b5; have O5 := Lib.hid o5; have B5 := Lib.hid b5; clear o5 b5)
            | (at_builtin; refine app_all (w0 := w3) w3.heap.size _ [] (xs.map (trn m)) rfl _ _ rfl rfl (World.ownsRow_made w3 #[] 0 (Nat.le_refl _) (Nat.zero_le _) rfl) _ rfl ((HT1.out.below B3.out).below (below_alloc w3 _)) (by simp; omega) (below_alloc w3 _) (below_alloc w3 _).size ?_; intro v4 w4 o4 b4; have O4 := Lib.hid o4; have B4 := Lib.hid b4; clear o4 b4)
            | (at_builtin; refine app_all (w0 := wr) wr.heap.size _ ([] ++ dw m) xs rfl _ _ rfl rfl O2.out _ rfl (Hu.out.below (HB1.out.trans ((HBz.out.trans (B2.out.mono hs1)).mono HB1.out.size))) (by have := Hdl.out; simp; omega) B2.out B2.out.size ?_; intro v3 w3 o3 b3; have O3 := Lib.hid o3; have B3 := Lib.hid b3; clear o3 b3)
            | (at_builtin; refine app_all (w0 := wr) wr.heap.size _ [] (dw m) rfl _ _ rfl rfl (World.ownsRow_made wr #[] 0 (Nat.le_refl _) (Nat.zero_le _) rfl) _ rfl HD1.out (by have := Hdl.out; simp; omega) A0 A0.size ?_; intro v2 w2 o2 b2; have O2 := Lib.hid o2; have B2 := Lib.hid b2; clear o2 b2))
          have BW5 := Lib.hid (HB1.out.trans ((HBz.out.trans ((bon B3.out B5.out).mono hs1)).mono HB1.out.size))
          have I3 := Lib.hid ((is_own O3.out rfl).below B5.out)
          have I5 := Lib.hid (is_own O5.out rfl)
          have wx := Hx.out
          have wd1 := dw_word m
          have S1 := Lib.hid (Same_is m m1 m2 ([] ++ dw m ++ xs) ([] ++ xs.map (trn m) ++ dw m) _ _ w5 I3.out I5.out (by have := Hdl.out; simp; omega) (by have := Hdl.out; simp; omega) (wd1.app wx) (wx.trn.app wd1) true ⟨fun _ => past_all xs wx, fun _ => rfl⟩)
          clear O2 O3 O4 O5 B2 B3 B4 B5 HD0 HD1 HT1 A0 HB1 HBz HIT HID wx wd1 I3 I5
          go_wp2_with fail
          refine S1.out.mono ?_
          rintro e w6 ⟨rfl, b6⟩
          have BW6 := Lib.hid (bon BW5.out b6)
          clear b6 BW5 S1
          have S2 := Lib.hid (Same_is m m1 m2 xs ys _ _ w6 (Hu.out.below BW6.out) (Hv.out.below BW6.out) (by omega) (by omega) Hx.out Hy.out r Hr.out)
          go_wp2_with fail
          refine S2.out.mono ?_
          rintro e w7 ⟨rfl, b7⟩
          have BW7 := Lib.hid (bon BW6.out b7)
          clear b7 BW6 S2
          have zx : ∀ z ∈ xs, -100000 < z ∧ z < 100000 := fun z hz => by have := Hx.out z hz; omega
          have zy : ∀ z ∈ ys, -100000 < z ∧ z < 100000 := fun z hz => by have := Hy.out z hz; omega
          have Zx := Lib.hid zx
          have Zy := Lib.hid zy
          clear zx zy
          have S3 := Lib.hid (altered_any xs (-1) (.inr rfl) false _ w7 (Hu.out.below BW7.out) Zx.out (by omega))
          go_wp2_with fail
          refine S3.out.mono ?_
          rintro e w8 ⟨v8, rfl, o8, b8⟩
          have I8 := Lib.hid (is_own o8 rfl)
          have BW8 := Lib.hid (bon BW7.out b8)
          clear b8 o8 BW7 S3
          have S4 := Lib.hid (altered_any ys (-1) (.inr rfl) false _ w8 (Hv.out.below BW8.out) Zy.out (by omega))
          go_wp2_with fail
          refine S4.out.mono ?_
          rintro e w9 ⟨v9, rfl, o9, b9⟩
          have I9 := Lib.hid (is_own o9 rfl)
          have J8 := Lib.hid (I8.out.below b9)
          have BW9 := Lib.hid (bon BW8.out b9)
          clear b9 o9 BW8 S4 I8
          rw [alt_ng] at J8 I9
          have S5 := Lib.hid (Same_is m m1 m2 (ng xs) (ng ys) _ _ w9 J8.out I9.out (by simp [ng]; omega) (by simp [ng]; omega) Hx.out.ng Hy.out.ng r (Hr.out.trans eqv_ng.symm))
          go_wp2_with fail
          refine S5.out.mono ?_
          rintro e w10 ⟨rfl, b10⟩
          have BW10 := Lib.hid (bon BW9.out b10)
          clear b10 BW9 S5 J8 I9
          have S6 := Lib.hid (altered_any xs 1 (.inl rfl) true _ w10 (Hu.out.below BW10.out) Zx.out (by omega))
          go_wp2_with fail
          refine S6.out.mono ?_
          rintro e w11 ⟨v11, rfl, o11, b11⟩
          have I11 := Lib.hid (is_own o11 rfl)
          have BW11 := Lib.hid (bon BW10.out b11)
          clear b11 o11 BW10 S6
          have S7 := Lib.hid (altered_any ys 1 (.inl rfl) true _ w11 (Hv.out.below BW11.out) Zy.out (by omega))
          go_wp2_with fail
          refine S7.out.mono ?_
          rintro e w12 ⟨v12, rfl, o12, b12⟩
          have I12 := Lib.hid (is_own o12 rfl)
          have J11 := Lib.hid (I11.out.below b12)
          have BW12 := Lib.hid (bon BW11.out b12)
          clear b12 o12 BW11 S7 I11
          rw [alt_rev] at J11 I12
          have S8 := Lib.hid (Same_is m m1 m2 xs.reverse ys.reverse _ _ w12 J11.out I12.out (by simp; omega) (by simp; omega) Hx.out.rev Hy.out.rev r (Hr.out.trans (eqv_rev Hx.out Hy.out).symm))
          go_wp2_with fail
          refine S8.out.mono ?_
          rintro e w13 ⟨rfl, b13⟩
          have BW13 := Lib.hid (bon BW12.out b13)
          clear b13 BW12 S8 J11 I12
          go_wp2_with fail
          refine (awake_any _).mono ?_
          rintro e w14 ⟨rfl, b14⟩
          go_wp2_with fail
          go_ret
          exact ⟨rfl, bon BW13.out b14⟩
set_option maxHeartbeats 1000000 in
set_option maxRecDepth 100000 in
theorem turns_any (n : Int) (xs ys : List Int) (u v : Value) (w : World) (_ : (Lit.int .i64 n).wf = true) (hu : IS w u xs) (_ : ∀ z ∈ xs, -9223372036854775808 ≤ z ∧ z ≤ 9223372036854775807) (hv : IS w v ys) (_ : ∀ z ∈ ys, -9223372036854775808 ≤ z ∧ z ≤ 9223372036854775807) :
    Calls Try.prog 12 #[.int .i64 n, u, v] w fun e w' => e = .returned (.bool true) ∧ Below w.heap.size w w' := by
  have Hu := Lib.hid hu
  have Hv := Lib.hid hv
  obtain ⟨sa, sc, rfl, h1, h2, _, hI⟩ := hu
  obtain ⟨sb, sd, rfl, k1, k2, _, kI⟩ := hv
  have CB := Lib.hid (refBoth_any n xs ys sa sb sc sd w h1 h2 k1 k2 hI kI)
  have hok := fun h => bothV_ok (n := n) (xs := xs) (ys := ys) h
  obtain ⟨c, hc⟩ : ∃ c, c = bothV n xs ys := ⟨_, rfl⟩
  rw [← hc] at CB hok
  have HO := Lib.hid hok
  clear hI kI hc hok
  by_cases q1 : (60 : Int) < (xs.length : Int)
  · clear CB HO
    go_enter Try.func12, Try.ntmps12
    go_wp2_with fail
    refine (awake_any _).mono ?_
    rintro e w1 ⟨rfl, B1⟩
    go_wp2_with fail
    go_ret
    exact ⟨rfl, B1⟩
  · by_cases q2 : (60 : Int) < (ys.length : Int)
    · clear CB HO
      go_enter Try.func12, Try.ntmps12
      go_wp2_with fail
      refine (awake_any _).mono ?_
      rintro e w1 ⟨rfl, B1⟩
      go_wp2_with fail
      go_ret
      exact ⟨rfl, B1⟩
    · by_cases q3 : c = 0
      · obtain ⟨hx, hy⟩ := HO.out q3
        obtain ⟨m, rfl, m1, m2, _, wx⟩ := checkV_ok hx
        obtain ⟨m', hm', _, _, _, wy⟩ := checkV_ok hy
        obtain rfl : m = m' := by omega
        exact turns_ok m m1 m2 xs ys _ _ w Hu.out Hv.out (by omega) (by omega) wx wy
      · clear HO
        go_enter Try.func12, Try.ntmps12
        go_wp2_with fail
        refine CB.out.mono ?_
        rintro e w0 ⟨rfl, B0⟩
        go_wp2_with fail
        refine (awake_any _).mono ?_
        rintro e w1 ⟨rfl, B1⟩
        go_wp2_with fail
        go_ret
        exact ⟨rfl, bon B0 B1⟩
end Go.Proofs.Yteffdkoebigcnaa
