/- The least order of the program. -/
import Derived.Test.YtcjbjlepgdggpaaTR
namespace Go.Proofs.Ytcjbjlepgdggpaa
open Go.RowKit Go.Shelf Go.Lib
set_option maxRecDepth 100000
set_option linter.unusedSimpArgs false
attribute [local irreducible] wpQuiet
def lnOf : Value → Nat
  | .slice _ n _ => n
  | _ => 0
theorem least_next {W : List Wk} {k i : Nat} (h : bestTo W (inL (leastTo W k)) W.length = (i : Int)) : leastTo W (k + 1) = leastTo W k ++ [i] := by rw [leastTo, h, Int.toNat_natCast]
/-- The least order of a sheet. -/
def lsV (s : Sh) : List Int := if chkS s = 0 then LI (leastTo s.ws s.ws.length) else []
theorem lsV_no {s : Sh} (h : chkS s ≠ 0) : lsV s = [] := by unfold lsV; rw [if_neg h]
theorem lsV_ok {s : Sh} (h : chkS s = 0) : lsV s = LI (leastTo s.ws s.ws.length) := by unfold lsV; rw [if_pos h]
theorem left_0 {W : List Wk} {D : Nat → Bool} {pr : Int} (hf : ∀ x ∈ W, 0 ≤ x.pl ∧ x.pl ≤ pr - 2) : LeftOf W D ((0 : Nat) : Int) := fun i x hx _ => by
  have := hf x (List.mem_of_getElem? hx)
  omega
theorem left_lt {W : List Wk} {l : List Nat} {p : Nat} {pr : Int} (hL : LeftOf W (inL l) (p : Int)) (hl : l.length < W.length) (hf : ∀ x ∈ W, 0 ≤ x.pl ∧ x.pl ≤ pr - 2) : (p : Int) ≤ pr - 2 := by
  obtain ⟨i, hi, hr⟩ := rdy_some (W := W) (l := l) hl
  have h1 := hL i _ (List.getElem?_eq_getElem hi) hr
  have h2 := hf _ (List.getElem_mem hi)
  omega
theorem left_best {W : List Wk} {l : List Nat} {p i : Nat} {x : Wk} (hL : LeftOf W (inL l) (p : Int)) (hx : W[i]? = some x) (hp : x.pl = (p : Int)) (hr : Rdy W (inL l) i) : bestTo W (inL l) W.length = (i : Int) := by
  refine best_eq (List.getElem?_eq_some_iff.1 hx).1 (by rw [wkN_get hx]; omega) hr fun j hj hrj => ?_
  have h1 := hL j _ (List.getElem?_eq_getElem hj) hrj
  rw [wkN_get hx, wkN_get (List.getElem?_eq_getElem hj)]
  omega
theorem wrapM (m : Nat) (h : m ≤ 2000) : IntKind.i64.wrap ((m : Int) - 1) = (m : Int) - 1 := by
  simp only [IntKind.wrap, IntKind.bits, IntKind.signed]
  simp
  omega
theorem iteM (p : Nat) : (if (p : Int) - 1 < 0 then 0 else (p : Int) - 1) = ((p - 1 : Nat) : Int) := by
  split <;> omega
set_option maxHeartbeats 4000000 in
theorem Least_any (a : Sh) (u : Value) (w : World) (hu : WS w u a.ws) :
    Calls Try.prog 20 #[.agg #[.int .i64 a.pr, u]] w fun e w' => ∃ lv, e = .returned (.tuple #[lv, .int .i64 (chkS a)]) ∧ IS w' lv (lsV a) ∧ Below w.heap.size w w' := by
  have HU := Lib.hid hu
  have HNIL := Lib.hid (fun (W : World) => is_nil W)
  obtain ⟨ua, uc, rfl, k1, k2, _⟩ := id hu
  have CF := Lib.hid (fun W h => frontOf_any a (.slice ua a.ws.length uc) W h)
  have HSA := Lib.hid (@chk_small a)
  have HFA := Lib.hid (@chk_fits a)
  have HOKV := Lib.hid (fun h => lsV_ok (s := a) h)
  have HNOV := Lib.hid (fun h => lsV_no (s := a) h)
  generalize lsV a = ml at *
  generalize chkS a = za at *
  clear hu
  go_enter Try.func20, Try.ntmps20
  go_wp2_with fail
  have B0 := below_alloc w (.cells #[.int .i64 a.pr, .slice ua a.ws.length uc] 24)
  have h0 := heap_alloc_new w (.cells #[.int .i64 a.pr, .slice ua a.ws.length uc] 24)
  have hz0 : w.heap.size + 1 ≤ (w.alloc (.cells #[.int .i64 a.pr, .slice ua a.ws.length uc] 24)).heap.size := by simp
  generalize w.alloc (.cells #[.int .i64 a.pr, .slice ua a.ws.length uc] 24) = W0 at *
  refine (CF.out W0 (HU.out.below B0)).mono ?_
  rintro e w1 ⟨cs, rfl, hcl, hco, b1, hok⟩
  have H0 := Lib.hid (hb_below b1 h0 (by omega))
  have HB1 := Lib.hid (bon B0 b1)
  have HZ1 := Lib.hid (show w.heap.size + 1 ≤ w1.heap.size by have := b1.size; omega)
  have HCO := Lib.hid hco
  have HOK := Lib.hid hok
  have q2 := heap_alloc_new w1 (.cells #[.int .i64 0, .slice none 0 0, .slice none 0 0, .int .i64 0, .int .i64 0, .int .i64 0, .int .i64 0, .int .i64 0, .int .i64 0, .int .i64 0, .int .i64 0, .int .i64 0, .int .i64 0, .int .i64 0, .int .i64 0, .int .i64 0, .int .i64 0, .int .i64 0, .int .i64 0, .int .i64 0, .int .i64 0, .int .i64 0, .int .i64 0, .int .i64 0, .int .i64 0, .int .i64 0, .int .i64 0] 65)
  have HI := Lib.hid (infoFr hcl)
  have HH := Lib.hid (show (#[.int .i64 0, .slice none 0 0, .slice none 0 0, .int .i64 0, .int .i64 0, .int .i64 0, .int .i64 0, .int .i64 0, .int .i64 0, .int .i64 0, .int .i64 0, .int .i64 0, .int .i64 0, .int .i64 0, .int .i64 0, .int .i64 0, .int .i64 0, .int .i64 0, .int .i64 0, .int .i64 0, .int .i64 0, .int .i64 0, .int .i64 0, .int .i64 0, .int .i64 0, .int .i64 0, .int .i64 0] : Array Value).size = cs.toArray.size by rw [show cs.toArray.size = 27 by rw [List.size_toArray]; exact hcl]; rfl)
  clear CF B0 h0 b1 hcl hco hok hz0
  by_cases hza : za = 0
  · subst hza
    go_upto_region 2 with (first | (refine store_row rfl 65 (.tmp 4) (.tmp 13) rfl w1.heap.size cs.toArray rfl rfl 65 _ q2 HI.out HH.out HCO.out ?_; intro w2 h2 kk2 z2 b2))
    have hb2 := b2 w1.heap.size w1 (below_alloc w1 (.cells #[.int .i64 0, .slice none 0 0, .slice none 0 0, .int .i64 0, .int .i64 0, .int .i64 0, .int .i64 0, .int .i64 0, .int .i64 0, .int .i64 0, .int .i64 0, .int .i64 0, .int .i64 0, .int .i64 0, .int .i64 0, .int .i64 0, .int .i64 0, .int .i64 0, .int .i64 0, .int .i64 0, .int .i64 0, .int .i64 0, .int .i64 0, .int .i64 0, .int .i64 0, .int .i64 0, .int .i64 0] 65)) (Nat.le_refl _)
    have H02 := Lib.hid (hb_below hb2 H0.out (by have := HZ1.out; omega))
    obtain ⟨g, cap, X0, rfl, hX24, hES, hg0, hg1, hX0⟩ := HOK.out (by trivial)
    have HES := Lib.hid (hES.below hb2)
    have HB2 := Lib.hid (bon HB1.out hb2)
    have HC2 := Lib.hid hb2
    have HFR := Lib.hid (show FrI w2 w1.heap.size a (.slice ua a.ws.length uc) (.slice (some ⟨g, 0, none⟩) (edgesL a.pr.toNat a.ws).length cap) [] from ⟨X0, ⟨h2, hX24⟩, fun p hp => ⟨_, hX0 p hp, by
      have := nx_0 a.ws p
      have e : inL [] = fun _ => false := by funext j; rfl
      rw [e]
      exact this⟩⟩)
    have hz2 : w1.heap.size + 1 ≤ w2.heap.size := by rw [z2]; simp
    have HG := Lib.hid (show g < w1.heap.size from hg1)
    clear q2 h2 kk2 z2 b2 hb2 hES hg0 hg1 hX0 hX24 HI HH HCO HOK
    have ca1 : w2.cell? ⟨w.heap.size, 1, none⟩ = some (.slice ua a.ws.length uc) := cell_of_row w2 _ 1 _ _ _ H02.out
    obtain ⟨pa1, pa2, pa3⟩ := HSA.out (by trivial)
    have HFA' := Lib.hid (HFA.out (by trivial))
    have HOV := Lib.hid (HOKV.out (by trivial))
    have hn4 := pa3.1
    have HPA := Lib.hid (show a.pr = ((a.pr.toNat : Nat) : Int) by omega)
    have hmk := mk_ints a.ws.length (by omega) w2
    obtain ⟨w4, hw4⟩ : ∃ w4, w4 = w2.alloc (.cells (madeCells #[.int .i64 0] a.ws.length) 3) := ⟨_, rfl⟩
    have B4 := below_alloc w2 (.cells (madeCells #[.int .i64 0] a.ws.length) 3)
    have o4 := own_mk a.ws.length w2.heap.size (by omega) w2 (Nat.le_refl _)
    rw [← hw4] at hmk B4 o4
    have H04 := Lib.hid (hb_below B4 H02.out (by have := HZ1.out; omega))
    have HES4 := Lib.hid (HES.out.below B4)
    have HFR4 := Lib.hid (HFR.out.below B4 (by omega))
    have HC4 := Lib.hid (HC2.out.trans (B4.mono (by omega)))
    have HO4 := Lib.hid o4
    have hz4 := B4.size
    clear hw4 B4 o4 H02 HES HFR HSA HFA HOKV HNOV pa3
    go_wp2_with fail
    clear ca1 hmk
    go_loopw [6, 7, 8, 9] (fun ov pv _ _ wr => ∃ (k p : Nat), k ≤ a.ws.length ∧ pv = .int .i64 (p : Int) ∧ wr.ownsRow w2.heap.size 3 1 ov (LI (leastTo a.ws k)).length ((LI (leastTo a.ws k)).map (Value.int .i64)) ∧
      FrI wr w1.heap.size a (.slice ua a.ws.length uc) (.slice (some ⟨g, 0, none⟩) (edgesL a.pr.toNat a.ws).length cap) (leastTo a.ws k) ∧ LeftOf a.ws (inL (leastTo a.ws k)) (p : Int) ∧ p ≤ 30 ∧ Below w1.heap.size w4 wr) (fun ov pv _ _ _ => (a.ws.length - lnOf ov) * 64 + (31 - (intOf pv).toNat))
    case atStart => exact ⟨0, 0, Nat.zero_le _, rfl, HO4.out, HFR4.out, left_0 HFA'.out, by omega, Below.refl _ _⟩
    case round =>
      clear HO4 HFR4
      obtain ⟨k, p, hk, rfl, how, hfr, hL, hp30, hbr⟩ := hrel
      rename World => wr
      have HOW := Lib.hid how
      have HFR := Lib.hid hfr
      have HBR := Lib.hid hbr
      have HL := Lib.hid hL
      have hzr := hbr.size
      have HCL := Lib.hid (leastTo_clo a.ws k hk)
      obtain ⟨oa, oc, rfl⟩ := own_form how
      have hHZ := HZ1.out
      have H0R := Lib.hid (hb_below hbr H04.out (by omega))
      have ca1 : wr.cell? ⟨w.heap.size, 1, none⟩ = some (.slice ua a.ws.length uc) := cell_of_row wr _ 1 _ _ _ H0R.out
      clear how hfr hbr hL
      by_cases hkl : k < a.ws.length
      · have hpp0 := left_lt HL.out (by rw [HCL.out.1]; exact hkl) HFA'.out
        have hpp : p + 1 < a.pr.toNat := by omega
        have j1 : ((LI (leastTo a.ws k)).length : Int) < (a.ws.length : Int) := by rw [LI_len, HCL.out.1]; omega
        obtain ⟨X, hX1, hX2⟩ := HFR.out
        obtain ⟨z0, hz0', n0⟩ := hX2 p (by omega)
        obtain ⟨z1, hz1', n1⟩ := hX2 (p + 1) hpp
        have hfl := HFR.out.lt
        have CR := Lib.hid (rdF_any w1.heap.size p a.pr _ _ X z0 z1 wr hX1 hz0' hz1')
        have HX1 := Lib.hid hX1
        have HX2 := Lib.hid hX2
        clear hX1 hX2 hz0' hz1'
        go_wp2_with fail
        refine CR.out.mono ?_
        rintro e w7 ⟨rfl, b7⟩
        have HB67 := Lib.hid b7
        have hz7 := b7.size
        clear b7 CR ca1 j1
        cases hrd : rdV z0 z1
        · have HLN2 := Lib.hid (left_next HL.out (nx_not n0 n1 (by
            unfold rdV at hrd
            simp at hrd
            by_cases c : z0 = -1
            · exact .inl c
            · exact .inr (hrd c))))
          have HO7 := Lib.hid (own_below HOW.out HB67.out)
          have HF7 := Lib.hid (HFR.out.below HB67.out (by omega))
          have HB7 := Lib.hid (HBR.out.trans (HB67.out.mono (by omega)))
          clear n0 n1 hrd
          go_wp2_with fail
          go_roundw
          case rel => exact ⟨k, p + 1, hk, by go_num, HO7.out, HF7.out, HLN2.out, by omega, HB7.out⟩
          case measure => (simp [intOf, lnOf] <;> omega)
        · obtain ⟨ez, ez2⟩ : z0 ≠ -1 ∧ z0 = z1 := by
            unfold rdV at hrd
            simpa using hrd
          subst ez2
          obtain ⟨i, x, rfl, hx, hxp, hr⟩ := nx_ready n0 n1 ez
          have hiW := (List.getElem?_eq_some_iff.1 hx).1
          have HX := Lib.hid hx
          have HRD := Lib.hid hr
          have HXP := Lib.hid hxp
          have HA1 := Lib.hid (HU.out.below HB1.out)
          obtain ⟨wb, wo, rfl, hwb1, hwr⟩ := ws_get HA1.out hx
          have hb17 : Below w1.heap.size w1 w7 := HC4.out.trans (HBR.out.trans (HB67.out.mono (by omega)))
          have HA7 := Lib.hid (HA1.out.below hb17)
          have HFR7 : FRT w7 w1.heap.size a.pr (.slice (some ⟨wb, wo, none⟩) a.ws.length uc) (.slice (some ⟨g, 0, none⟩) (edgesL a.pr.toNat a.ws).length cap) X := HX1.out.below HB67.out (by omega)
          have HES7 : ES w7 (.slice (some ⟨g, 0, none⟩) (edgesL a.pr.toNat a.ws).length cap) (edgesL a.pr.toNat a.ws) := by
            have e1 := HES4.out
            obtain ⟨a', c', e', h4⟩ := e1
            cases e'
            refine ⟨_, _, rfl, fun kk xx hxx => ?_⟩
            obtain ⟨b', off, e2, hlt, hr⟩ := h4 kk xx hxx
            cases e2
            have hgz := HG.out
            refine ⟨_, _, rfl, by have := hb17.size; omega, fun jj vv hj => ?_⟩
            exact ((HBR.out.trans (HB67.out.mono (by omega))).cell (p := ⟨g, 0 + kk * 4 + jj, none⟩) hgz).trans (hr jj vv hj)
          have hprn : a.pr.toNat ≤ 24 := by omega
          have CD := Lib.hid (doF_any w1.heap.size i p a.pr.toNat a.ws (edgesL a.pr.toNat a.ws) (some ⟨wb, wo, none⟩) (some ⟨g, 0, none⟩) uc cap X x (sideE a.ws i x 0) (sideE a.ws i x 1) w7 (HFR7.cast HPA.out) HA7.out HES7 HX.out HXP.out (by omega)
            (by have := side_get a.pr.toNat a.ws i 0 x (by omega) HX.out; simpa using this) (side_get a.pr.toNat a.ws i 1 x (by omega) HX.out) (fun b' off e => by cases e; have := HG.out; omega) (by omega) (by omega))
          have HO7 := Lib.hid (own_below HOW.out HB67.out)
          have HB47 := Lib.hid (show Below w1.heap.size w4 w7 from HBR.out.trans (HB67.out.mono (by omega)))
          have HBE := Lib.hid (least_next (left_best HL.out HX.out HXP.out HRD.out))
          have HL9 : Hid (LeftOf a.ws (inL (leastTo a.ws (k + 1))) ((p - 1 : Nat) : Int)) := by
            rw [HBE.out, inL_snoc]
            exact Lib.hid (left_step (fun i x h => (HFA'.out x (List.mem_of_getElem? h)).1) HL.out HX.out HXP.out)
          clear hx hr hxp hwr hb17 n0 n1 ez hrd HFR7 HES7
          go_wp2_with fail
          refine CD.out.mono ?_
          rintro e w9 ⟨⟨v9, rfl⟩, hf9, hg9⟩
          have HF9 := Lib.hid (show FrI w9 w1.heap.size a (.slice (some ⟨wb, wo, none⟩) a.ws.length uc) (.slice (some ⟨g, 0, none⟩) (edgesL a.pr.toNat a.ws).length cap) (leastTo a.ws k ++ [i]) from ⟨_, hf9.cast HPA.out.symm, fr_do HCL.out.2.1 HX.out HRD.out HXP.out HX1.out.2 hprn HX2.out⟩)
          have HO9 := Lib.hid (HO7.out.kept hg9 (by
            rcases HO7.out.2 with ⟨e, _⟩ | ⟨g', cap', cur, e, hB', _⟩
            · rw [e]; exact .inl rfl
            · rw [e]; right; simp only [Value.ownBlock, ne_eq, Option.some.injEq]; omega))
          have HB49 := Lib.hid (Below.grown HB47.out hg9 (by have := HB47.out.size; omega) (fun kk e => by cases e; exact Nat.le_refl _))
          have hz9 := hg9.size
          have HZX := Lib.hid (show w2.heap.size ≤ w9.heap.size by omega)
          have HLL := Lib.hid (show (LI (leastTo a.ws k)).length < 100000 by rw [LI_len, HCL.out.1]; omega)
          have hwm := wrapM p (by omega)
          have him := iteM p
          clear hf9 hg9 CD HO7 HB47 HX1 HX2
          go_wp2_with (at_builtin; refine app_one (w0 := w9) w2.heap.size _ (LI (leastTo a.ws k)) (i : Int) rfl _ _ rfl rfl HO9.out rfl HLL.out (Below.refl _ _) HZX.out ?_; intro g1 cap1 wA hown1 hb1)
          have HOA := Lib.hid hown1
          have HFA9 := Lib.hid (HF9.out.below hb1 (by omega))
          have HBA := Lib.hid (HB49.out.trans (hb1.mono (by omega)))
          have hlk : (leastTo a.ws k).length = k := HCL.out.1
          clear hown1 hb1
          go_wp2_with fail
          go_roundw
          case rel => exact ⟨k + 1, p - 1, hkl, rfl, by rw [HBE.out, LI_snoc, List.length_append]; exact HOA.out, by rw [HBE.out]; exact HFA9.out, HL9.out, by omega, HBA.out⟩
          case measure => (simp [intOf, lnOf, LI_len, hlk] <;> omega)
      · have e : k = a.ws.length := by omega
        subst e
        have j1 : ¬ ((LI (leastTo a.ws a.ws.length)).length : Int) < (a.ws.length : Int) := by rw [LI_len, HCL.out.1]; omega
        have HIS := Lib.hid (is_own HOW.out rfl)
        have HBF := Lib.hid (HB1.out.trans ((HC4.out.trans HBR.out).mono (by omega)))
        go_wp2_with fail
        go_ret2
        exact ⟨_, rfl, by rw [HOV.out]; exact HIS.out, HBF.out⟩
  · have hz : (za == 0) = false := beq_eq_false_iff_ne.2 hza
    have e := HNOV.out hza
    subst e
    go_upto_region 2 with (first | (refine store_row rfl 65 (.tmp 4) (.tmp 13) rfl w1.heap.size cs.toArray rfl rfl 65 _ q2 HI.out HH.out HCO.out ?_; intro w2 h2 kk2 z2 b2))
    have hb2 := b2 w1.heap.size w1 (below_alloc w1 (.cells #[.int .i64 0, .slice none 0 0, .slice none 0 0, .int .i64 0, .int .i64 0, .int .i64 0, .int .i64 0, .int .i64 0, .int .i64 0, .int .i64 0, .int .i64 0, .int .i64 0, .int .i64 0, .int .i64 0, .int .i64 0, .int .i64 0, .int .i64 0, .int .i64 0, .int .i64 0, .int .i64 0, .int .i64 0, .int .i64 0, .int .i64 0, .int .i64 0, .int .i64 0, .int .i64 0, .int .i64 0] 65)) (Nat.le_refl _)
    have HB2 := Lib.hid (bon HB1.out hb2)
    clear q2 h2 kk2 z2 b2 hb2
    go_wp2_with fail
    go_ret2
    exact ⟨_, rfl, HNIL.out _, HB2.out⟩
end Go.Proofs.Ytcjbjlepgdggpaa
