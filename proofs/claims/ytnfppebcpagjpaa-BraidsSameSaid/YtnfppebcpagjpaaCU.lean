/- The reference's drop; Drop, the program's and the reference's, walked. -/
import Derived.Test.YtnfppebcpagjpaaCT
namespace Go.Proofs.Ytnfppebcpagjpaa
open Go.RowKit Go.Lib
set_option maxHeartbeats 1000000 in
set_option maxRecDepth 100000 in
theorem refdrop_any (n : Nat) (hn : n ≤ 12) (s : Nat) (hs : s < n) (ws : List Int) (hw : Word n ws) (hl : ws.length ≤ 400) (v : Value) (w : World) (hv : IS w v ws) :
    Calls Try.prog 63 #[.int .i64 (n : Int), v, .int .i64 (s : Int)] w fun e w' => ∃ v', e = .returned v' ∧ w'.ownsRow w.heap.size 3 1 v' (dropW s ws).1.length ((dropW s ws).1.map (Value.int .i64)) ∧ Below w.heap.size w w' := by
  obtain ⟨sa, sc, rfl, _, _, _, hI⟩ := hv
  have HI := Lib.hid hI
  have Hw := Lib.hid hw
  clear hI hw
  go_enter Try.func63, Try.ntmps63
  go_wp2_with fail
  go_loopw [7, 8, 9] (fun vo p i wr => ∃ (k : Nat) (D : List Int) (q : Nat), k ≤ ws.length ∧ D.length ≤ k ∧ q < n ∧ i = .int .i64 k ∧ p = .int .i64 q ∧ (D, q) = dropW s (ws.take k) ∧ wr.ownsRow w.heap.size 3 1 vo D.length (D.map (Value.int .i64)) ∧ Below w.heap.size w wr) (fun _ _ i _ => ws.length - (intOf i).toNat)
  case atStart => exact ⟨0, [], s, Nat.zero_le _, Nat.le_refl _, hs, rfl, rfl, rfl, World.ownsRow_nil _ _ _ _, Below.refl _ _⟩
  case round =>
    obtain ⟨k, D, q, hk, hdk, hq, rfl, rfl, hD, hown, hbw⟩ := hrel
    have hbs := hbw.size
    by_cases hkl : k < ws.length
    · obtain ⟨x, hx⟩ : ∃ x, ws[k]? = some x := ⟨_, List.getElem?_eq_getElem hkl⟩
      have hlet : Letter n x := Hw.out x (List.mem_of_getElem? hx)
      obtain ⟨b, off, rfl, hb, hc⟩ := HI.out k x hx
      have hcx := (hbw.cell (p := ⟨b, off + k, none⟩) hb).trans hc
      have k0 : (0 : Int) ≤ (k : Int) := by omega
      have k1 : (k : Int) < (ws.length : Int) := by omega
      have hnext := dropW_next (s := s) hx
      rw [← hD] at hnext
      have CN := Lib.hid (refsize_any x hlet.1 (by have := hlet.2; omega) wr)
      have hj := num_lt hlet
      have hta := num_abs hlet.1
      have htd : x = sgn x * ((num x : Int) + 1) := by rw [hta]; unfold sgn; split <;> omega
      have hsg : sgn x = 1 ∨ sgn x = -1 := by unfold sgn; split <;> simp
      have hlx := hlet.2
      obtain ⟨j, hjn⟩ : ∃ j, j = num x := ⟨_, rfl⟩
      have hst : ∀ D' q', (if q = j ∨ q = j + 1 then D else if q < j + 1 then D ++ [x - sgn x] else D ++ [x], sw j q) = (D', q') → (D', q') = dropW s (ws.take (k + 1)) := fun D' q' h => by
        rw [hnext, ← h, hjn]
        rfl
      rw [← hjn] at CN hj
      have Hst := Lib.hid hst
      have Hown := Lib.hid hown
      rw [← hjn] at htd
      clear hta
      have n0 : IntKind.i64.wrap (j : Int) = (j : Int) := num_in (by omega) (by omega)
      have htq : x.tdiv ((j : Int) + 1) = sgn x := by conv => lhs; rw [htd]
                                                      exact Int.mul_tdiv_cancel _ (by omega)
      have htm : IntKind.i64.wrap (sgn x * (j : Int)) = x - sgn x := by
        have h2 := htd
        rw [Int.mul_add, Int.mul_one] at h2
        obtain ⟨p, hp⟩ : ∃ p, p = sgn x * (j : Int) := ⟨_, rfl⟩
        rw [← hp] at h2
        have : sgn x * (j : Int) = x - sgn x := by rw [← hp]; omega
        rw [this]
        exact IntWalk.i64_in _ (by omega)
      have htw : IntKind.i64.wrap (sgn x) = sgn x := IntWalk.i64_in _ (by omega)
      have hj0 : ¬ (j : Int) + 1 = 0 := by omega
      generalize sgn x = t at *
      have Htd := Lib.hid htd
      clear htd
      clear hc hx hlet hnext hown hjn hD hst
      by_cases a : q = j
      · have Hn := Lib.hid (Hst.out D (j + 1) (by rw [if_pos (.inl a), a, sw_l]))
        subst a
        go_wp2_with fail
        refine CN.out.mono ?_
        rintro e w3 ⟨rfl, rfl⟩
        go_wp2_with fail
        go_roundw
        case rel => exact ⟨k + 1, D, q + 1, hkl, by omega, hj, by go_num, by go_num, Hn.out, Hown.out, hbw⟩
        case measure => (simp [intOf] <;> omega)
      · by_cases c : q = j + 1
        · have Hn := Lib.hid (Hst.out D j (by rw [if_pos (.inr c), c, sw_r]))
          have c' : (q : Int) = (j : Int) + 1 := by omega
          have a' : ¬ (q : Int) = (j : Int) := by omega
          clear c a
          go_wp2_with fail
          refine CN.out.mono ?_
          rintro e w3 ⟨rfl, rfl⟩
          go_wp2_with fail
          go_roundw
          case rel => exact ⟨k + 1, D, j, hkl, by omega, by omega, by go_num, by go_num, Hn.out, Hown.out, hbw⟩
          case measure => (simp [intOf] <;> omega)
        · by_cases d : q < j + 1
          · have Hn := Lib.hid (Hst.out (D ++ [x - t]) q (by rw [if_neg (by omega), if_pos d, sw_o a c]))
            have a' : ¬ (q : Int) = (j : Int) := by omega
            have c' : ¬ (q : Int) = (j : Int) + 1 := by omega
            have d' : (q : Int) < (j : Int) := by omega
            clear a c d
            go_wp2_with fail
            refine CN.out.mono ?_
            rintro e w3 ⟨rfl, rfl⟩
            go_wp2_with (at_builtin; refine app_one (w0 := w) w.heap.size _ D (x - t) rfl _ _ rfl rfl Hown.out rfl (by omega) hbw hbs ?_; intro g cap w1 hown1 hb1)
            have HO1 := Lib.hid hown1
            clear hown1
            go_wp2_with fail
            go_roundw
            case rel => exact ⟨k + 1, D ++ [x - t], q, hkl, by simp; omega, hq, by go_num, rfl, Hn.out, by rw [List.length_append]; exact HO1.out, hb1⟩
            case measure => (simp [intOf] <;> omega)
          · have Hn := Lib.hid (Hst.out (D ++ [x]) q (by rw [if_neg (by omega), if_neg d, sw_o a c]))
            have a' : ¬ (q : Int) = (j : Int) := by omega
            have c' : ¬ (q : Int) = (j : Int) + 1 := by omega
            have d' : ¬ (q : Int) < (j : Int) := by omega
            clear a c d
            go_wp2_with fail
            refine CN.out.mono ?_
            rintro e w3 ⟨rfl, rfl⟩
            go_wp2_with (at_builtin; refine app_one (w0 := w) w.heap.size _ D x rfl _ _ rfl rfl Hown.out rfl (by omega) hbw hbs ?_; intro g cap w1 hown1 hb1)
            have HO1 := Lib.hid hown1
            clear hown1
            go_wp2_with fail
            go_roundw
            case rel => exact ⟨k + 1, D ++ [x], q, hkl, by simp; omega, hq, by go_num, rfl, Hn.out, by rw [List.length_append]; exact HO1.out, hb1⟩
            case measure => (simp [intOf] <;> omega)
    · have k1 : ¬ (k : Int) < (ws.length : Int) := by omega
      have e : k = ws.length := by omega
      rw [e, List.take_length] at hD
      have HD := Lib.hid hD
      have Hown := Lib.hid hown
      clear hown hD e
      go_wp2_with fail
      go_ret
      exact ⟨_, rfl, by rw [← HD.out]; exact Hown.out, hbw⟩
/-- The error of a word and a strand. -/
def strandV (n : Int) (ws : List Int) (s : Int) : Int := if checkV n ws = 0 then (if s < 0 ∨ n ≤ s then 7 else 0) else checkV n ws
set_option maxHeartbeats 400000 in
set_option maxRecDepth 100000 in
theorem checkStrand_any (n : Int) (ws : List Int) (s : Int) (v : Value) (w : World) (hv : IS w v ws) :
    Calls Try.prog 61 #[.int .i64 n, v, .int .i64 s] w fun e w' => e = .returned (.int .i64 (strandV n ws s)) ∧ Below w.heap.size w w' := by
  obtain ⟨sa, sc, rfl, h1, h2, _, hI⟩ := hv
  have CK := Lib.hid (Check_any n ws sa sc w h1 h2 hI)
  obtain ⟨r, hr⟩ : ∃ r, r = strandV n ws s := ⟨_, rfl⟩
  rw [← hr]
  unfold strandV at hr
  obtain ⟨c, hc⟩ : ∃ c, c = checkV n ws := ⟨_, rfl⟩
  rw [← hc] at CK hr
  clear hI hc
  by_cases h : c = 0
  · rw [if_pos h] at hr
    subst h
    by_cases a : s < 0
    · rw [if_pos (.inl a)] at hr
      subst hr
      go_enter Try.func61, Try.ntmps61
      go_wp2_with fail
      refine CK.out.mono ?_
      rintro e w1 ⟨rfl, B1⟩
      go_wp2_with fail
      go_ret
      exact ⟨rfl, B1⟩
    · by_cases b : n ≤ s
      · rw [if_pos (.inr b)] at hr
        subst hr
        go_enter Try.func61, Try.ntmps61
        go_wp2_with fail
        refine CK.out.mono ?_
        rintro e w1 ⟨rfl, B1⟩
        go_wp2_with fail
        go_ret
        exact ⟨rfl, B1⟩
      · rw [if_neg (by omega)] at hr
        subst hr
        go_enter Try.func61, Try.ntmps61
        go_wp2_with fail
        refine CK.out.mono ?_
        rintro e w1 ⟨rfl, B1⟩
        go_wp2_with fail
        go_ret
        exact ⟨rfl, B1⟩
  · rw [if_neg h] at hr
    subst hr
    go_enter Try.func61, Try.ntmps61
    go_wp2_with fail
    refine CK.out.mono ?_
    rintro e w1 ⟨rfl, B1⟩
    go_wp2_with fail
    go_ret
    exact ⟨rfl, B1⟩
theorem strandV_ok {n : Int} {ws : List Int} {s : Int} (h : strandV n ws s = 0) : ∃ (m k : Nat), n = (m : Int) ∧ s = (k : Int) ∧ k < m ∧ 1 ≤ m ∧ m ≤ 12 ∧ ws.length ≤ 400 ∧ Word m ws ∧ checkV n ws = 0 := by
  unfold strandV at h
  split at h
  · rename_i hc
    obtain ⟨m, rfl, m1, m2, hl, hw⟩ := checkV_ok hc
    split at h
    · cases h
    · exact ⟨m, s.toNat, rfl, by omega, by omega, m1, m2, hl, hw, hc⟩
  · rename_i hc
    exact absurd h hc
/-- What Drop hands out. -/
def dropV (n : Int) (ws : List Int) (s : Int) : List Int × Int := if strandV n ws s = 0 then (if n = 1 then ([], 2) else ((dropW s.toNat ws).1, 0)) else ([], strandV n ws s)
set_option maxHeartbeats 400000 in
set_option maxRecDepth 100000 in
theorem Drop_any (n : Int) (ws : List Int) (s : Int) (v : Value) (w : World) (hv : IS w v ws) :
    Calls Try.prog 29 #[.int .i64 n, v, .int .i64 s] w fun e w' => ∃ v', e = .returned (.tuple #[v', .int .i64 (dropV n ws s).2]) ∧ IS w' v' (dropV n ws s).1 ∧ Below w.heap.size w w' := by
  have Hv := Lib.hid hv
  have CK := Lib.hid (checkStrand_any n ws s v w hv)
  unfold dropV
  have hok := fun h => strandV_ok (n := n) (ws := ws) (s := s) h
  obtain ⟨c, hc⟩ : ∃ c, c = strandV n ws s := ⟨_, rfl⟩
  rw [← hc] at CK hok ⊢
  have HO := Lib.hid hok
  clear hc hok hv
  by_cases h : c = 0
  · obtain ⟨m, k, rfl, rfl, hk, m1, m2, hl, hw, _⟩ := HO.out h
    rw [if_pos h]
    subst h
    have Hw := Lib.hid hw
    clear HO hw
    by_cases h1 : (m : Int) = 1
    · rw [if_pos h1]
      go_enter Try.func29, Try.ntmps29
      have H1 := Lib.hid h1
      rw [h1] at CK ⊢
      clear h1
      go_wp2_with fail
      refine CK.out.mono ?_
      rintro e w1 ⟨rfl, B1⟩
      go_wp2_with fail
      go_ret2
      exact ⟨.slice none 0 0, rfl, is_nil _, B1⟩
    · rw [if_neg h1, Int.toNat_natCast]
      go_enter Try.func29, Try.ntmps29
      go_wp2_with fail
      refine CK.out.mono ?_
      rintro e w1 ⟨rfl, B1⟩
      have CW := Lib.hid (without_any m m2 k hk ws Hw.out hl v w1 (Hv.out.below B1))
      go_wp2_with fail
      refine CW.out.mono ?_
      rintro e w2 ⟨v2, rfl, O2, B2⟩
      have HO2 := Lib.hid O2
      clear O2 CW
      go_wp2_with fail
      go_ret2
      exact ⟨v2, rfl, is_own HO2.out rfl, bon B1 B2⟩
  · rw [if_neg h]
    go_enter Try.func29, Try.ntmps29
    go_wp2_with fail
    refine CK.out.mono ?_
    rintro e w1 ⟨rfl, B1⟩
    go_wp2_with fail
    go_ret2
    exact ⟨.slice none 0 0, rfl, is_nil _, B1⟩
set_option maxHeartbeats 400000 in
set_option maxRecDepth 100000 in
theorem refDrop_any (n : Int) (ws : List Int) (s : Int) (v : Value) (w : World) (hv : IS w v ws) :
    Calls Try.prog 30 #[.int .i64 n, v, .int .i64 s] w fun e w' => ∃ v', e = .returned (.tuple #[v', .int .i64 (dropV n ws s).2]) ∧ IS w' v' (dropV n ws s).1 ∧ Below w.heap.size w w' := by
  have Hv := Lib.hid hv
  obtain ⟨sa, sc, rfl, h1, h2, _, hI⟩ := hv
  have CK := Lib.hid (refCheck_any n ws sa sc w hI h1 h2)
  unfold dropV
  have hok := fun h => strandV_ok (n := n) (ws := ws) (s := s) h
  have HO := Lib.hid hok
  have HV := Lib.hid (show ∀ x, checkV n ws = x → (strandV n ws s = if x = 0 then (if s < 0 ∨ n ≤ s then 7 else 0) else x) from fun x hx => by rw [← hx]; rfl)
  obtain ⟨c, hc⟩ : ∃ c, c = checkV n ws := ⟨_, rfl⟩
  rw [← hc] at CK
  have HVc := Lib.hid (HV.out c hc.symm)
  clear hI hc hok
  by_cases h : c = 0
  · by_cases a : s < 0
    · rw [show strandV n ws s = 7 by rw [HVc.out, if_pos h, if_pos (.inl a)], if_neg (by decide)]
      subst h
      go_enter Try.func30, Try.ntmps30
      go_wp2_with fail
      refine CK.out.mono ?_
      rintro e w1 ⟨rfl, B1⟩
      go_wp2_with fail
      go_ret2
      exact ⟨.slice none 0 0, rfl, is_nil _, B1⟩
    · by_cases b : n ≤ s
      · rw [show strandV n ws s = 7 by rw [HVc.out, if_pos h, if_pos (.inr b)], if_neg (by decide)]
        subst h
        go_enter Try.func30, Try.ntmps30
        go_wp2_with fail
        refine CK.out.mono ?_
        rintro e w1 ⟨rfl, B1⟩
        go_wp2_with fail
        go_ret2
        exact ⟨.slice none 0 0, rfl, is_nil _, B1⟩
      · have hs0 : strandV n ws s = 0 := by rw [HVc.out, if_pos h, if_neg (by omega)]
        obtain ⟨m, k, rfl, rfl, hk, m1, m2, hl, hw, _⟩ := HO.out hs0
        rw [hs0, if_pos rfl]
        subst h
        have Hw := Lib.hid hw
        have km : (k : Int) < (m : Int) := by omega
        clear HO HV HVc hs0 a b hw
        by_cases g1 : (m : Int) = 1
        · rw [if_pos g1]
          go_enter Try.func30, Try.ntmps30
          rw [g1] at CK km ⊢
          clear g1
          go_wp2_with fail
          refine CK.out.mono ?_
          rintro e w1 ⟨rfl, B1⟩
          go_wp2_with fail
          go_ret2
          exact ⟨.slice none 0 0, rfl, is_nil _, B1⟩
        · rw [if_neg g1, Int.toNat_natCast]
          go_enter Try.func30, Try.ntmps30
          go_wp2_with fail
          refine CK.out.mono ?_
          rintro e w1 ⟨rfl, B1⟩
          have CW := Lib.hid (refdrop_any m m2 k hk ws Hw.out hl _ w1 (Hv.out.below B1))
          go_wp2_with fail
          refine CW.out.mono ?_
          rintro e w2 ⟨v2, rfl, O2, B2⟩
          have HO2 := Lib.hid O2
          clear O2 CW
          go_wp2_with fail
          go_ret2
          exact ⟨v2, rfl, is_own HO2.out rfl, bon B1 B2⟩
  · rw [show strandV n ws s = c by rw [HVc.out, if_neg h], if_neg h]
    go_enter Try.func30, Try.ntmps30
    go_wp2_with fail
    refine CK.out.mono ?_
    rintro e w1 ⟨rfl, B1⟩
    go_wp2_with fail
    go_ret2
    exact ⟨.slice none 0 0, rfl, is_nil _, B1⟩
end Go.Proofs.Ytnfppebcpagjpaa
