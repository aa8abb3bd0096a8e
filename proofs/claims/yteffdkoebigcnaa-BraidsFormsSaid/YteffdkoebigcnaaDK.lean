/- The reference's Word walked, for all powers and factors. -/
import Derived.Test.YteffdkoebigcnaaDJ
namespace Go.Proofs.Yteffdkoebigcnaa
open Go.RowKit Go.Lib
set_option maxHeartbeats 400000 in
set_option maxRecDepth 100000 in
theorem refsize_gen (p : Int) : ∃ S : Int, (∀ w, Calls Try.prog 57 #[.int .i64 p] w fun e w' => e = .returned (.int .i64 S) ∧ w' = w) ∧ (-401 < p → p < 401 → S = (p.natAbs : Int)) := by
  by_cases h0 : p = 0
  · subst h0
    exact ⟨0, fun w => refsize_zero w, fun _ _ => rfl⟩
  · by_cases hb : -100000 < p ∧ p < 100000
    · exact ⟨_, fun w => refsize_any p h0 hb w, fun _ _ => by unfold num; omega⟩
    · refine ⟨if IntKind.i64.wrap (-p) ≤ p then p else IntKind.i64.wrap (-p), fun w => ?_, fun h k => absurd ⟨by omega, by omega⟩ hb⟩
      obtain ⟨q, hq⟩ : ∃ q, q = IntKind.i64.wrap (-p) := ⟨_, rfl⟩
      rw [← hq]
      have hq' := hq.symm
      by_cases hle : q ≤ p
      · rw [if_pos hle]
        clear hb h0 hq
        go_enter Try.func57, Try.ntmps57
        go_wp2_with fail
        go_ret
        exact ⟨rfl, rfl⟩
      · rw [if_neg hle]
        clear hb h0 hq
        go_enter Try.func57, Try.ntmps57
        go_wp2_with fail
        go_ret
        exact ⟨rfl, rfl⟩
/-- The word of Delta, or its inverse. -/
def dsg (n : Nat) (p : Int) : List Int := if p < 0 then inv (dw n) else dw n
theorem dsg_len (n : Nat) (p : Int) : (dsg n p).length = (dw n).length := by unfold dsg; split <;> simp [inv_len]
theorem powC_eq (n : Nat) (p : Int) : powC n p = rep (min p.natAbs 401) (dsg n p) := by unfold powC dsg; split <;> rfl
theorem fin_long {D : List Int} (h : 400 < D.length) : fin400 D = ([], 3) := if_pos h
/-- The loop of Delta's powers has ended: what follows decides the same. -/
theorem mid_any {n : Nat} {p : Int} {i : Nat} {D : List Int} (hD : D = rep i (dsg n p)) (hi : i ≤ p.natAbs) (h : i = p.natAbs ∧ p.natAbs ≤ 400 ∨ (dsg n p).length = 0 ∨ 400 < D.length ∧ p.natAbs ≤ 400) (Y : List Int) : fin400 (D ++ Y) = fin400 (powC n p ++ Y) := by
  rw [powC_eq]
  rcases h with ⟨rfl, h⟩ | h | ⟨h, h4⟩
  · rw [hD, show min p.natAbs 401 = p.natAbs by omega]
  · have e : ∀ c, rep c (dsg n p) = [] := fun c => List.eq_nil_of_length_eq_zero (by rw [rep_len, h, Nat.mul_zero])
    rw [hD, e, e]
  · rw [fin_long (by rw [List.length_append]; omega), fin_long]
    rw [List.length_append, rep_len, show min p.natAbs 401 = p.natAbs by omega]
    rw [hD, rep_len] at h
    have := Nat.mul_le_mul_right (dsg n p).length hi
    omega
theorem pow_long {n : Nat} {p : Int} (h : 0 < (dw n).length) (hp : 400 < p.natAbs) (Y : List Int) : fin400 (powC n p ++ Y) = ([], 3) := by
  rw [powC_eq, fin_long]
  rw [List.length_append, rep_len, dsg_len, show min p.natAbs 401 = 401 by omega]
  have := Nat.mul_le_mul_left 401 (show 1 ≤ (dw n).length from h)
  omega
set_option maxHeartbeats 4000000 in
set_option maxRecDepth 100000 in
theorem refWord_any (n : Nat) (h1 : 1 ≤ n) (hn : n ≤ 12) (p : Int) (F : List (List Int)) (v : Value) (w : World) (hv : FI w v F) :
    Calls Try.prog 34 #[.int .i64 (n : Int), .int .i64 p, v] w fun e w' => ∃ v' L er, e = .returned (.tuple #[v', .int .i64 er]) ∧ IS w' v' L ∧ Below w.heap.size w w' ∧
      ((er = 6 ∧ L = [] ∧ ¬ ∀ l ∈ F, PermL n l) ∨ ∃ X : List Pm, F = X.map (ints n) ∧ (∀ x ∈ X, x.In n) ∧ (L, er) = fin400 (powC n p ++ X.flatMap (least n))) := by
  obtain ⟨sa, sc, rfl, k1, k2, hF⟩ := hv
  unfold maxLen at k2
  have HF := Lib.hid hF
  have Hdl := Lib.hid (dw_len66 hn)
  clear hF
  obtain ⟨S, hS, hSp⟩ := refsize_gen p
  have HS := Lib.hid hS
  have HSp := Lib.hid hSp
  have m1 : (1 : Int) ≤ (n : Int) := by omega
  have m2 : (n : Int) ≤ 12 := by omega
  clear hS hSp
  go_enter Try.func34, Try.ntmps34
  go_wp2_with fail
  go_loopw [8] (fun i wr => ∃ (k : Nat) (X : List Pm), k ≤ F.length ∧ i = .int .i64 k ∧ F.take k = X.map (ints n) ∧ (∀ x ∈ X, x.In n) ∧ Below w.heap.size w wr) (fun i _ => F.length - (intOf i).toNat)
  case atStart => exact ⟨0, [], Nat.zero_le _, rfl, rfl, (fun x hx => by cases hx), Below.refl _ _⟩
  case round =>
    obtain ⟨k, X, hk, rfl, hX, hXi, hbw⟩ := hrel
    have HX := Lib.hid hX
    have HXi := Lib.hid hXi
    clear hX hXi
    by_cases hkl : k < F.length
    · obtain ⟨l, hl⟩ : ∃ l, F[k]? = some l := ⟨_, List.getElem?_eq_getElem hkl⟩
      obtain ⟨b, off, u, rfl, hb, hc, hu⟩ := HF.out k l hl
      have hcz := (hbw.cell (p := ⟨b, off + k, none⟩) hb).trans hc
      have j0 : (0 : Int) ≤ (k : Int) := by omega
      have j1 : (k : Int) < (F.length : Int) := by omega
      have Hu := Lib.hid (hu.below hbw)
      have Htk := Lib.hid (take_moreF hl)
      have Hmem := Lib.hid (List.mem_of_getElem? hl)
      clear hc hu hl
      by_cases hP : PermL n l
      · obtain ⟨x, hx, hxl⟩ := perm_pm hP
        have Hx := Lib.hid hx
        have Hxl := Lib.hid hxl
        have CS := Lib.hid (refperm_any n h1 hn l true ⟨fun _ => hP, fun _ => rfl⟩ u wr Hu.out)
        clear hx hxl hP
        go_wp2_with fail
        refine CS.out.mono ?_
        rintro e w2 ⟨rfl, B2⟩
        have Hb2 := Lib.hid (bon hbw B2)
        clear B2 hbw
        go_wp2_with fail
        go_roundw
        case rel =>
          refine ⟨k + 1, X ++ [x], hkl, by go_num, by rw [Htk.out, HX.out, List.map_append, Hxl.out]; rfl, fun y hy => ?_, Hb2.out⟩
          rcases List.mem_append.1 hy with hy | hy
          · exact HXi.out y hy
          · obtain rfl : y = x := by simpa using hy
            exact Hx.out
        case measure => (simp [intOf] <;> omega)
      · have CS := Lib.hid (refperm_any n h1 hn l false ⟨fun h => (by cases h), fun h => absurd h hP⟩ u wr Hu.out)
        have HP := Lib.hid hP
        clear hP
        go_wp2_with fail
        refine CS.out.mono ?_
        rintro e w2 ⟨rfl, B2⟩
        have Hb2 := Lib.hid (bon hbw B2)
        clear B2 hbw
        go_wp2_with fail
        go_ret2
        exact ⟨_, _, _, rfl, is_nil _, Hb2.out, .inl ⟨rfl, rfl, fun h => HP.out (h l Hmem.out)⟩⟩
    · have hlt : ¬ (k : Int) < (F.length : Int) := by omega
      have he : k = F.length := by omega
      have Hfin := Lib.hid (show F = X.map (ints n) by rw [← HX.out, he, List.take_length])
      have Hbw := Lib.hid hbw
      clear he hbw
      go_wp2_with fail
      refine (refline_any n hn wr).mono ?_
      rintro e w2 ⟨v2, rfl, O2, B2⟩
      obtain ⟨g2, c2, rfl⟩ := own_pos O2 (by omega)
      have HO2 := Lib.hid O2
      have Hb2 := Lib.hid (Hbw.out.trans (B2.mono Hbw.out.size))
      clear O2 B2
      go_wp2_with fail
      rename World => w2
      go_loopw [10] (fun i wr => ∃ k : Nat, k ≤ n ∧ i = .int .i64 k ∧ wr.ownsRow w.heap.size 3 1 (.slice (some ⟨g2, 0, none⟩) n c2) n ((dlk n k).map (Value.int .i64)) ∧ Below w.heap.size w wr) (fun i _ => n - (intOf i).toNat)
      case atStart => exact ⟨0, Nat.zero_le _, rfl, by rw [dlk_zero]; exact own_mono HO2.out Hbw.out.size, Hb2.out⟩
      case round =>
        obtain ⟨k, hk, rfl, hown, hbw⟩ := hrel
        rename World => wr
        by_cases hkn : k < n
        · have hg2 := hown.lt g2 rfl
          have n1 : IntKind.i64.wrap ((n : Int) - 1) = ((n - 1 : Nat) : Int) := num_in (by omega) (by omega)
          have n2 : IntKind.i64.wrap (((n - 1 : Nat) : Int) - (k : Int)) = ((n - 1 - k : Nat) : Int) := num_in (by omega) (by omega)
          have k0 : (0 : Int) ≤ (k : Int) := by omega
          have k1 : (k : Int) < (n : Int) := by omega
          have ck := hown.cellAt k (by omega)
          rw [List.getElem?_map, dlk, List.getElem?_map, List.getElem?_range hkn] at ck
          simp only [Option.map_some] at ck
          have fk := hown.frozenAt k
          have hst := (hown.stored k (.int .i64 ((n - 1 - k : Nat) : Int))).1
          rw [dlk_set hkn] at hst
          have Hst := Lib.hid hst
          have Hb := Lib.hid (hbw.setCell (p := ⟨g2, k, none⟩) hg2.1 (.int .i64 ((n - 1 - k : Nat) : Int)))
          clear hown hst hbw hg2
          go_wp2_with fail
          go_roundw
          case rel => exact ⟨k + 1, hkn, by go_num, Hst.out, Hb.out⟩
          case measure => (simp [intOf] <;> omega)
        · have e : k = n := by omega
          have k1 : ¬ (k : Int) < (n : Int) := by omega
          rw [e, dlk_all] at hown
          have hI := Lib.hid (is_own hown (ints_len n (dl n)))
          clear hown
          go_wp2_with fail
          refine (refleast_any n h1 hn (dl n) (dl_in n) _ wr hI.out).mono ?_
          rintro e w3 ⟨v3, rfl, O3, B3⟩
          have O3' : w3.ownsRow wr.heap.size 3 1 v3 (dw n).length ((dw n).map (Value.int .i64)) := O3
          have I3 := Lib.hid (is_own O3' rfl)
          obtain ⟨a3, c3, rfl⟩ := own_form O3'
          have Hb3 := Lib.hid (hbw.trans (B3.mono hbw.size))
          clear O3 O3' hI hbw B3
          by_cases hd : 0 < (dw n).length
          · have hd' : (0 : Int) < ((dw n).length : Int) := by omega
            by_cases hp1 : 400 < p
            · have Hq := Lib.hid (pow_long hd (show 400 < p.natAbs by omega))
              go_wp2_with fail
              go_ret2
              exact ⟨_, _, _, rfl, is_nil _, Hb3.out, .inr ⟨X, Hfin.out, HXi.out, (Hq.out _).symm⟩⟩
            · by_cases hp2 : p < -400
              · have Hq := Lib.hid (pow_long hd (show 400 < p.natAbs by omega))
                go_wp2_with fail
                go_ret2
                exact ⟨_, _, _, rfl, is_nil _, Hb3.out, .inr ⟨X, Hfin.out, HXi.out, (Hq.out _).symm⟩⟩
              · have hdd : 0 < (dsg n p).length := by rw [dsg_len]; exact hd
                by_cases hp0 : p < 0
                · have hds : dsg n p = inv (dw n) := if_pos hp0
                  go_wp2_with fail
                  refine (refinverse_any (dw n) _ w3 I3.out (fun z hz => by have := dw_word n z hz; unfold Letter at this; omega) (by have := Hdl.out; omega)).mono ?_
                  rintro e w4 ⟨v4, rfl, O4, B4⟩
                  rw [← hds] at O4
                  have I11 := Lib.hid (is_own O4 rfl)
                  obtain ⟨a11, c11, rfl⟩ := own_form O4
                  have Hbt := Lib.hid (bon Hb3.out B4)
                  clear O4 B4 hds Hb3 I3
                  go_wp2_with fail
                  go_loopw [12, 13] (fun vo i wr => ∃ (q : Nat) (D : List Int), i = .int .i64 q ∧ q ≤ p.natAbs ∧ q ≤ 400 ∧ D = rep q (dsg n p) ∧ D.length ≤ 500 ∧ wr.ownsRow w4.heap.size 3 1 vo D.length (D.map (Value.int .i64)) ∧ Below w4.heap.size w4 wr) (fun _ i _ => p.natAbs - (intOf i).toNat)
                  case atStart => exact ⟨0, [], rfl, Nat.zero_le _, Nat.zero_le _, rfl, by simp, World.ownsRow_nil _ _ _ _, Below.refl _ _⟩
                  case round =>
                    obtain ⟨q, D, rfl, hq, hq4, hD, hDl, ho, hbw⟩ := hrel
                    rename World => wr
                    have Hq := Lib.hid hq
                    have HD := Lib.hid hD
                    obtain ⟨ao, co, rfl⟩ := own_form ho
                    have Ho := Lib.hid ho
                    have Hbw := Lib.hid hbw
                    have hbs := hbw.size
                    have HIw := Lib.hid (I11.out.below hbw)
                    clear hq hD ho hbw
                    go_wp2_with fail
                    refine (HS.out _).mono ?_
                    rintro e wr ⟨rfl, rfl⟩
                    have hSe : S = (p.natAbs : Int) := HSp.out (by omega) (by omega)
                    by_cases hc : q < p.natAbs ∧ D.length ≤ 400
                    · obtain ⟨hc1, hc2⟩ := hc
                      have e1 : (q : Int) < S := by omega
                      have e2 : (0 : Int) < ((dsg n p).length : Int) := by omega
                      have e3 : (D.length : Int) ≤ 400 := by omega
                      have hdl : (dsg n p).length ≤ 66 := by rw [dsg_len]; exact Hdl.out
                      have Hsx := Lib.hid hSe
                      clear hSe
                      go_wp2_with (at_builtin; refine app_all (w0 := w4) w4.heap.size _ D (dsg n p) rfl _ _ rfl rfl Ho.out _ rfl HIw.out (by omega) Hbw.out Hbw.out.size ?_; intro v9 w9 O9 B9; have HO9 := Lib.hid O9; clear O9)
                      go_roundw
                      case rel => exact ⟨q + 1, D ++ dsg n p, by go_num, hc1, by omega, by rw [HD.out]; exact (rep_succ' _ _).symm, by rw [List.length_append]; omega, HO9.out, B9⟩
                      case measure => (simp [intOf] <;> omega)
                    · have Hexit := Lib.hid (show (q = p.natAbs ∧ p.natAbs ≤ 400) ∨ (dsg n p).length = 0 ∨ (400 < D.length ∧ p.natAbs ≤ 400) from by have := Hq.out; omega)
                      have Hway := Lib.hid (show (¬ (q : Int) < S ∧ True ∧ True) ∨ ((q : Int) < S ∧ (0 : Int) < ((dsg n p).length : Int) ∧ ¬ (D.length : Int) ≤ 400) from by
                        by_cases g1 : (q : Int) < S
                        · exact .inr ⟨g1, by omega, by omega⟩
                        · exact .inl ⟨g1, trivial, trivial⟩)
                      clear hSe hc
                      have Hmid := Lib.hid (mid_any HD.out Hq.out Hexit.out)
                      rcases Hway.out with h | h
                      all_goals (
                        obtain ⟨e1, e2, e3⟩ := h
                        go_wp2_with fail
                        go_loopw [12, 14] (fun vo i wr => ∃ (k : Nat) (E : List Int), i = .int .i64 k ∧ k ≤ F.length ∧ E = (X.take k).foldl (wstep n) D ∧ E.length ≤ 30000 ∧ wr.ownsRow w4.heap.size 3 1 vo E.length (E.map (Value.int .i64)) ∧ Below w4.heap.size w4 wr) (fun _ i _ => F.length - (intOf i).toNat)
                        case atStart => exact ⟨0, D, rfl, Nat.zero_le _, rfl, by omega, Ho.out, Hbw.out⟩
                        case round =>
                          obtain ⟨k, E, rfl, hkF, hE, hEl, hoE, hbE⟩ := hrel
                          rename World => wz
                          have HE := Lib.hid hE
                          obtain ⟨aE, cE, rfl⟩ := own_form hoE
                          have HoE := Lib.hid hoE
                          have HbE := Lib.hid hbE
                          have hbEs := hbE.size
                          have Hu' := Lib.hid HF.out
                          clear hE hoE
                          by_cases hkl : k < F.length
                          · have hkl' : (k : Int) < (F.length : Int) := by omega
                            by_cases hE5 : E.length ≤ 400
                            · have hE5' : (E.length : Int) ≤ 400 := by omega
                              have hkX : k < X.length := by have := congrArg List.length Hfin.out; rw [List.length_map] at this; omega
                              obtain ⟨x, hx⟩ : ∃ x, X[k]? = some x := ⟨_, List.getElem?_eq_getElem hkX⟩
                              have hxi := HXi.out x (List.mem_of_getElem? hx)
                              have hl : F[k]? = some (ints n x) := by rw [Hfin.out, List.getElem?_map, hx]; rfl
                              obtain ⟨b, off, u, rfl, hb, hc, hu⟩ := HF.out k _ hl
                              have hcz := ((bon Hbt.out hbE).cell (p := ⟨b, off + k, none⟩) hb).trans hc
                              have CL := Lib.hid (refleast_any n h1 hn x hxi u wz (hu.below (bon Hbt.out hbE)))
                              have hll := least_len hxi hn
                              have Hnx := Lib.hid (show (X.take (k + 1)).foldl (wstep n) D = E ++ least n x by rw [take_moreF hx, List.foldl_append, ← HE.out]; exact if_pos hE5)
                              have k0 : (0 : Int) ≤ (k : Int) := by omega
                              clear hx hxi hl hc hu hbE hkX
                              go_wp2_with fail
                              refine CL.out.mono ?_
                              rintro e w8 ⟨v8, rfl, O8, B8⟩
                              have HI8 := Lib.hid (is_own O8 rfl)
                              have HO8 := Lib.hid (own_below HoE.out B8)
                              have HB8 := Lib.hid (bon HbE.out B8)
                              clear O8 B8
                              go_wp2_with (at_builtin; refine app_all (w0 := w4) w4.heap.size _ E (least n x) rfl _ _ rfl rfl HO8.out _ rfl HI8.out (by omega) HB8.out HB8.out.size ?_; intro v9 w9 O9 B9; have HO9 := Lib.hid O9; clear O9)
                              go_roundw
                              case rel => exact ⟨k + 1, E ++ least n x, by go_num, hkl, Hnx.out.symm, by rw [List.length_append]; omega, HO9.out, B9⟩
                              case measure => (simp [intOf] <;> omega)
                            · have hE5' : ¬ (E.length : Int) ≤ 400 := by omega
                              have Hfull := Lib.hid (show X.foldl (wstep n) D = E by
                                conv => lhs; rw [← List.take_append_drop k X]
                                rw [List.foldl_append, ← HE.out]
                                exact wstep_long (by omega) _)
                              clear hbE
                              have Hend := Lib.hid (show fin400 E = fin400 (powC n p ++ X.flatMap (least n)) by rw [← Hfull.out, fin_fold]; exact Hmid.out _)
                              have HIE := Lib.hid (is_own HoE.out rfl)
                              by_cases hE4 : 400 < E.length
                              · have hE4' : (400 : Int) < (E.length : Int) := by omega
                                go_wp2_with fail
                                go_ret2
                                exact ⟨_, _, _, rfl, is_nil _, bon Hbt.out HbE.out, .inr ⟨X, Hfin.out, HXi.out, by rw [← Hend.out]; exact (if_pos hE4).symm⟩⟩
                              · have hE4' : ¬ (400 : Int) < (E.length : Int) := by omega
                                go_wp2_with fail
                                go_ret2
                                exact ⟨_, _, _, rfl, HIE.out, bon Hbt.out HbE.out, .inr ⟨X, Hfin.out, HXi.out, by rw [← Hend.out]; exact (if_neg hE4).symm⟩⟩
                          · have hkl' : ¬ (k : Int) < (F.length : Int) := by omega
                            have Hfull := Lib.hid (show X.foldl (wstep n) D = E by
                              rw [HE.out, List.take_of_length_le]
                              have := congrArg List.length Hfin.out
                              rw [List.length_map] at this
                              omega)
                            clear hbE
                            have Hend := Lib.hid (show fin400 E = fin400 (powC n p ++ X.flatMap (least n)) by rw [← Hfull.out, fin_fold]; exact Hmid.out _)
                            have HIE := Lib.hid (is_own HoE.out rfl)
                            by_cases hE4 : 400 < E.length
                            · have hE4' : (400 : Int) < (E.length : Int) := by omega
                              go_wp2_with fail
                              go_ret2
                              exact ⟨_, _, _, rfl, is_nil _, bon Hbt.out HbE.out, .inr ⟨X, Hfin.out, HXi.out, by rw [← Hend.out]; exact (if_pos hE4).symm⟩⟩
                            · have hE4' : ¬ (400 : Int) < (E.length : Int) := by omega
                              go_wp2_with fail
                              go_ret2
                              exact ⟨_, _, _, rfl, HIE.out, bon Hbt.out HbE.out, .inr ⟨X, Hfin.out, HXi.out, by rw [← Hend.out]; exact (if_neg hE4).symm⟩⟩)
                · have hds : dsg n p = dw n := if_neg hp0
                  rw [← hds] at I3 hd'
                  rw [← hds]
                  have I11 := I3
                  have Hbt := Hb3
                  clear hds Hb3 I3
                  go_wp2_with fail
                  go_loopw [12, 13] (fun vo i wr => ∃ (q : Nat) (D : List Int), i = .int .i64 q ∧ q ≤ p.natAbs ∧ q ≤ 400 ∧ D = rep q (dsg n p) ∧ D.length ≤ 500 ∧ wr.ownsRow w3.heap.size 3 1 vo D.length (D.map (Value.int .i64)) ∧ Below w3.heap.size w3 wr) (fun _ i _ => p.natAbs - (intOf i).toNat)
                  case atStart => exact ⟨0, [], rfl, Nat.zero_le _, Nat.zero_le _, rfl, by simp, World.ownsRow_nil _ _ _ _, Below.refl _ _⟩
                  case round =>
                    obtain ⟨q, D, rfl, hq, hq4, hD, hDl, ho, hbw⟩ := hrel
                    rename World => wr
                    have Hq := Lib.hid hq
                    have HD := Lib.hid hD
                    obtain ⟨ao, co, rfl⟩ := own_form ho
                    have Ho := Lib.hid ho
                    have Hbw := Lib.hid hbw
                    have hbs := hbw.size
                    have HIw := Lib.hid (I11.out.below hbw)
                    clear hq hD ho hbw
                    go_wp2_with fail
                    refine (HS.out _).mono ?_
                    rintro e wr ⟨rfl, rfl⟩
                    have hSe : S = (p.natAbs : Int) := HSp.out (by omega) (by omega)
                    by_cases hc : q < p.natAbs ∧ D.length ≤ 400
                    · obtain ⟨hc1, hc2⟩ := hc
                      have e1 : (q : Int) < S := by omega
                      have e2 : (0 : Int) < ((dsg n p).length : Int) := by omega
                      have e3 : (D.length : Int) ≤ 400 := by omega
                      have hdl : (dsg n p).length ≤ 66 := by rw [dsg_len]; exact Hdl.out
                      have Hsx := Lib.hid hSe
                      clear hSe
                      go_wp2_with (at_builtin; refine app_all (w0 := w3) w3.heap.size _ D (dsg n p) rfl _ _ rfl rfl Ho.out _ rfl HIw.out (by omega) Hbw.out Hbw.out.size ?_; intro v9 w9 O9 B9; have HO9 := Lib.hid O9; clear O9)
                      go_roundw
                      case rel => exact ⟨q + 1, D ++ dsg n p, by go_num, hc1, by omega, by rw [HD.out]; exact (rep_succ' _ _).symm, by rw [List.length_append]; omega, HO9.out, B9⟩
                      case measure => (simp [intOf] <;> omega)
                    · have Hexit := Lib.hid (show (q = p.natAbs ∧ p.natAbs ≤ 400) ∨ (dsg n p).length = 0 ∨ (400 < D.length ∧ p.natAbs ≤ 400) from by have := Hq.out; omega)
                      have Hway := Lib.hid (show (¬ (q : Int) < S ∧ True ∧ True) ∨ ((q : Int) < S ∧ (0 : Int) < ((dsg n p).length : Int) ∧ ¬ (D.length : Int) ≤ 400) from by
                        by_cases g1 : (q : Int) < S
                        · exact .inr ⟨g1, by omega, by omega⟩
                        · exact .inl ⟨g1, trivial, trivial⟩)
                      clear hSe hc
                      have Hmid := Lib.hid (mid_any HD.out Hq.out Hexit.out)
                      rcases Hway.out with h | h
                      all_goals (
                        obtain ⟨e1, e2, e3⟩ := h
                        go_wp2_with fail
                        go_loopw [12, 14] (fun vo i wr => ∃ (k : Nat) (E : List Int), i = .int .i64 k ∧ k ≤ F.length ∧ E = (X.take k).foldl (wstep n) D ∧ E.length ≤ 30000 ∧ wr.ownsRow w3.heap.size 3 1 vo E.length (E.map (Value.int .i64)) ∧ Below w3.heap.size w3 wr) (fun _ i _ => F.length - (intOf i).toNat)
                        case atStart => exact ⟨0, D, rfl, Nat.zero_le _, rfl, by omega, Ho.out, Hbw.out⟩
                        case round =>
                          obtain ⟨k, E, rfl, hkF, hE, hEl, hoE, hbE⟩ := hrel
                          rename World => wz
                          have HE := Lib.hid hE
                          obtain ⟨aE, cE, rfl⟩ := own_form hoE
                          have HoE := Lib.hid hoE
                          have HbE := Lib.hid hbE
                          have hbEs := hbE.size
                          have Hu' := Lib.hid HF.out
                          clear hE hoE
                          by_cases hkl : k < F.length
                          · have hkl' : (k : Int) < (F.length : Int) := by omega
                            by_cases hE5 : E.length ≤ 400
                            · have hE5' : (E.length : Int) ≤ 400 := by omega
                              have hkX : k < X.length := by have := congrArg List.length Hfin.out; rw [List.length_map] at this; omega
                              obtain ⟨x, hx⟩ : ∃ x, X[k]? = some x := ⟨_, List.getElem?_eq_getElem hkX⟩
                              have hxi := HXi.out x (List.mem_of_getElem? hx)
                              have hl : F[k]? = some (ints n x) := by rw [Hfin.out, List.getElem?_map, hx]; rfl
                              obtain ⟨b, off, u, rfl, hb, hc, hu⟩ := HF.out k _ hl
                              have hcz := ((bon Hbt.out hbE).cell (p := ⟨b, off + k, none⟩) hb).trans hc
                              have CL := Lib.hid (refleast_any n h1 hn x hxi u wz (hu.below (bon Hbt.out hbE)))
                              have hll := least_len hxi hn
                              have Hnx := Lib.hid (show (X.take (k + 1)).foldl (wstep n) D = E ++ least n x by rw [take_moreF hx, List.foldl_append, ← HE.out]; exact if_pos hE5)
                              have k0 : (0 : Int) ≤ (k : Int) := by omega
                              clear hx hxi hl hc hu hbE hkX
                              go_wp2_with fail
                              refine CL.out.mono ?_
                              rintro e w8 ⟨v8, rfl, O8, B8⟩
                              have HI8 := Lib.hid (is_own O8 rfl)
                              have HO8 := Lib.hid (own_below HoE.out B8)
                              have HB8 := Lib.hid (bon HbE.out B8)
                              clear O8 B8
                              go_wp2_with (at_builtin; refine app_all (w0 := w3) w3.heap.size _ E (least n x) rfl _ _ rfl rfl HO8.out _ rfl HI8.out (by omega) HB8.out HB8.out.size ?_; intro v9 w9 O9 B9; have HO9 := Lib.hid O9; clear O9)
                              go_roundw
                              case rel => exact ⟨k + 1, E ++ least n x, by go_num, hkl, Hnx.out.symm, by rw [List.length_append]; omega, HO9.out, B9⟩
                              case measure => (simp [intOf] <;> omega)
                            · have hE5' : ¬ (E.length : Int) ≤ 400 := by omega
                              have Hfull := Lib.hid (show X.foldl (wstep n) D = E by
                                conv => lhs; rw [← List.take_append_drop k X]
                                rw [List.foldl_append, ← HE.out]
                                exact wstep_long (by omega) _)
                              clear hbE
                              have Hend := Lib.hid (show fin400 E = fin400 (powC n p ++ X.flatMap (least n)) by rw [← Hfull.out, fin_fold]; exact Hmid.out _)
                              have HIE := Lib.hid (is_own HoE.out rfl)
                              by_cases hE4 : 400 < E.length
                              · have hE4' : (400 : Int) < (E.length : Int) := by omega
                                go_wp2_with fail
                                go_ret2
                                exact ⟨_, _, _, rfl, is_nil _, bon Hbt.out HbE.out, .inr ⟨X, Hfin.out, HXi.out, by rw [← Hend.out]; exact (if_pos hE4).symm⟩⟩
                              · have hE4' : ¬ (400 : Int) < (E.length : Int) := by omega
                                go_wp2_with fail
                                go_ret2
                                exact ⟨_, _, _, rfl, HIE.out, bon Hbt.out HbE.out, .inr ⟨X, Hfin.out, HXi.out, by rw [← Hend.out]; exact (if_neg hE4).symm⟩⟩
                          · have hkl' : ¬ (k : Int) < (F.length : Int) := by omega
                            have Hfull := Lib.hid (show X.foldl (wstep n) D = E by
                              rw [HE.out, List.take_of_length_le]
                              have := congrArg List.length Hfin.out
                              rw [List.length_map] at this
                              omega)
                            clear hbE
                            have Hend := Lib.hid (show fin400 E = fin400 (powC n p ++ X.flatMap (least n)) by rw [← Hfull.out, fin_fold]; exact Hmid.out _)
                            have HIE := Lib.hid (is_own HoE.out rfl)
                            by_cases hE4 : 400 < E.length
                            · have hE4' : (400 : Int) < (E.length : Int) := by omega
                              go_wp2_with fail
                              go_ret2
                              exact ⟨_, _, _, rfl, is_nil _, bon Hbt.out HbE.out, .inr ⟨X, Hfin.out, HXi.out, by rw [← Hend.out]; exact (if_pos hE4).symm⟩⟩
                            · have hE4' : ¬ (400 : Int) < (E.length : Int) := by omega
                              go_wp2_with fail
                              go_ret2
                              exact ⟨_, _, _, rfl, HIE.out, bon Hbt.out HbE.out, .inr ⟨X, Hfin.out, HXi.out, by rw [← Hend.out]; exact (if_neg hE4).symm⟩⟩)
          · have hd' : ¬ (0 : Int) < ((dw n).length : Int) := by omega
            have hdd : ¬ 0 < (dsg n p).length := by rw [dsg_len]; exact hd
            by_cases hp0 : p < 0
            · have hds : dsg n p = inv (dw n) := if_pos hp0
              go_wp2_with fail
              refine (refinverse_any (dw n) _ w3 I3.out (fun z hz => by have := dw_word n z hz; unfold Letter at this; omega) (by have := Hdl.out; omega)).mono ?_
              rintro e w4 ⟨v4, rfl, O4, B4⟩
              rw [← hds] at O4
              have I11 := Lib.hid (is_own O4 rfl)
              obtain ⟨a11, c11, rfl⟩ := own_form O4
              have Hbt := Lib.hid (bon Hb3.out B4)
              clear O4 B4 hds Hb3 I3
              go_wp2_with fail
              go_loopw [12, 13] (fun vo i wr => ∃ (q : Nat) (D : List Int), i = .int .i64 q ∧ q ≤ p.natAbs ∧ q ≤ 400 ∧ D = rep q (dsg n p) ∧ D.length ≤ 500 ∧ wr.ownsRow w4.heap.size 3 1 vo D.length (D.map (Value.int .i64)) ∧ Below w4.heap.size w4 wr) (fun _ i _ => p.natAbs - (intOf i).toNat)
              case atStart => exact ⟨0, [], rfl, Nat.zero_le _, Nat.zero_le _, rfl, by simp, World.ownsRow_nil _ _ _ _, Below.refl _ _⟩
              case round =>
                obtain ⟨q, D, rfl, hq, hq4, hD, hDl, ho, hbw⟩ := hrel
                rename World => wr
                have Hq := Lib.hid hq
                have HD := Lib.hid hD
                obtain ⟨ao, co, rfl⟩ := own_form ho
                have Ho := Lib.hid ho
                have Hbw := Lib.hid hbw
                have hbs := hbw.size
                have HIw := Lib.hid (I11.out.below hbw)
                clear hq hD ho hbw
                go_wp2_with fail
                refine (HS.out _).mono ?_
                rintro e wr ⟨rfl, rfl⟩
                have hdz : (dsg n p).length = 0 := by omega
                have Hexit := Lib.hid (show (q = p.natAbs ∧ p.natAbs ≤ 400) ∨ (dsg n p).length = 0 ∨ (400 < D.length ∧ p.natAbs ≤ 400) from .inr (.inl hdz))
                have Hway := Lib.hid (show (¬ (q : Int) < S ∧ True ∧ True) ∨ ((q : Int) < S ∧ ¬ (0 : Int) < ((dsg n p).length : Int) ∧ True) from by
                  by_cases g1 : (q : Int) < S
                  · exact .inr ⟨g1, by omega, trivial⟩
                  · exact .inl ⟨g1, trivial, trivial⟩)
                clear hdz
                have Hmid := Lib.hid (mid_any HD.out Hq.out Hexit.out)
                rcases Hway.out with h | h
                all_goals (
                  obtain ⟨e1, e2, e3⟩ := h
                  go_wp2_with fail
                  go_loopw [12, 14] (fun vo i wr => ∃ (k : Nat) (E : List Int), i = .int .i64 k ∧ k ≤ F.length ∧ E = (X.take k).foldl (wstep n) D ∧ E.length ≤ 30000 ∧ wr.ownsRow w4.heap.size 3 1 vo E.length (E.map (Value.int .i64)) ∧ Below w4.heap.size w4 wr) (fun _ i _ => F.length - (intOf i).toNat)
                  case atStart => exact ⟨0, D, rfl, Nat.zero_le _, rfl, by omega, Ho.out, Hbw.out⟩
                  case round =>
                    obtain ⟨k, E, rfl, hkF, hE, hEl, hoE, hbE⟩ := hrel
                    rename World => wz
                    have HE := Lib.hid hE
                    obtain ⟨aE, cE, rfl⟩ := own_form hoE
                    have HoE := Lib.hid hoE
                    have HbE := Lib.hid hbE
                    have hbEs := hbE.size
                    have Hu' := Lib.hid HF.out
                    clear hE hoE
                    by_cases hkl : k < F.length
                    · have hkl' : (k : Int) < (F.length : Int) := by omega
                      by_cases hE5 : E.length ≤ 400
                      · have hE5' : (E.length : Int) ≤ 400 := by omega
                        have hkX : k < X.length := by have := congrArg List.length Hfin.out; rw [List.length_map] at this; omega
                        obtain ⟨x, hx⟩ : ∃ x, X[k]? = some x := ⟨_, List.getElem?_eq_getElem hkX⟩
                        have hxi := HXi.out x (List.mem_of_getElem? hx)
                        have hl : F[k]? = some (ints n x) := by rw [Hfin.out, List.getElem?_map, hx]; rfl
                        obtain ⟨b, off, u, rfl, hb, hc, hu⟩ := HF.out k _ hl
                        have hcz := ((bon Hbt.out hbE).cell (p := ⟨b, off + k, none⟩) hb).trans hc
                        have CL := Lib.hid (refleast_any n h1 hn x hxi u wz (hu.below (bon Hbt.out hbE)))
                        have hll := least_len hxi hn
                        have Hnx := Lib.hid (show (X.take (k + 1)).foldl (wstep n) D = E ++ least n x by rw [take_moreF hx, List.foldl_append, ← HE.out]; exact if_pos hE5)
                        have k0 : (0 : Int) ≤ (k : Int) := by omega
                        clear hx hxi hl hc hu hbE hkX
                        go_wp2_with fail
                        refine CL.out.mono ?_
                        rintro e w8 ⟨v8, rfl, O8, B8⟩
                        have HI8 := Lib.hid (is_own O8 rfl)
                        have HO8 := Lib.hid (own_below HoE.out B8)
                        have HB8 := Lib.hid (bon HbE.out B8)
                        clear O8 B8
                        go_wp2_with (at_builtin; refine app_all (w0 := w4) w4.heap.size _ E (least n x) rfl _ _ rfl rfl HO8.out _ rfl HI8.out (by omega) HB8.out HB8.out.size ?_; intro v9 w9 O9 B9; have HO9 := Lib.hid O9; clear O9)
                        go_roundw
                        case rel => exact ⟨k + 1, E ++ least n x, by go_num, hkl, Hnx.out.symm, by rw [List.length_append]; omega, HO9.out, B9⟩
                        case measure => (simp [intOf] <;> omega)
                      · have hE5' : ¬ (E.length : Int) ≤ 400 := by omega
                        have Hfull := Lib.hid (show X.foldl (wstep n) D = E by
                          conv => lhs; rw [← List.take_append_drop k X]
                          rw [List.foldl_append, ← HE.out]
                          exact wstep_long (by omega) _)
                        clear hbE
                        have Hend := Lib.hid (show fin400 E = fin400 (powC n p ++ X.flatMap (least n)) by rw [← Hfull.out, fin_fold]; exact Hmid.out _)
                        have HIE := Lib.hid (is_own HoE.out rfl)
                        by_cases hE4 : 400 < E.length
                        · have hE4' : (400 : Int) < (E.length : Int) := by omega
                          go_wp2_with fail
                          go_ret2
                          exact ⟨_, _, _, rfl, is_nil _, bon Hbt.out HbE.out, .inr ⟨X, Hfin.out, HXi.out, by rw [← Hend.out]; exact (if_pos hE4).symm⟩⟩
                        · have hE4' : ¬ (400 : Int) < (E.length : Int) := by omega
                          go_wp2_with fail
                          go_ret2
                          exact ⟨_, _, _, rfl, HIE.out, bon Hbt.out HbE.out, .inr ⟨X, Hfin.out, HXi.out, by rw [← Hend.out]; exact (if_neg hE4).symm⟩⟩
                    · have hkl' : ¬ (k : Int) < (F.length : Int) := by omega
                      have Hfull := Lib.hid (show X.foldl (wstep n) D = E by
                        rw [HE.out, List.take_of_length_le]
                        have := congrArg List.length Hfin.out
                        rw [List.length_map] at this
                        omega)
                      clear hbE
                      have Hend := Lib.hid (show fin400 E = fin400 (powC n p ++ X.flatMap (least n)) by rw [← Hfull.out, fin_fold]; exact Hmid.out _)
                      have HIE := Lib.hid (is_own HoE.out rfl)
                      by_cases hE4 : 400 < E.length
                      · have hE4' : (400 : Int) < (E.length : Int) := by omega
                        go_wp2_with fail
                        go_ret2
                        exact ⟨_, _, _, rfl, is_nil _, bon Hbt.out HbE.out, .inr ⟨X, Hfin.out, HXi.out, by rw [← Hend.out]; exact (if_pos hE4).symm⟩⟩
                      · have hE4' : ¬ (400 : Int) < (E.length : Int) := by omega
                        go_wp2_with fail
                        go_ret2
                        exact ⟨_, _, _, rfl, HIE.out, bon Hbt.out HbE.out, .inr ⟨X, Hfin.out, HXi.out, by rw [← Hend.out]; exact (if_neg hE4).symm⟩⟩)
            · have hds : dsg n p = dw n := if_neg hp0
              rw [← hds] at I3 hd'
              rw [← hds]
              have I11 := I3
              have Hbt := Hb3
              clear hds Hb3 I3
              go_wp2_with fail
              go_loopw [12, 13] (fun vo i wr => ∃ (q : Nat) (D : List Int), i = .int .i64 q ∧ q ≤ p.natAbs ∧ q ≤ 400 ∧ D = rep q (dsg n p) ∧ D.length ≤ 500 ∧ wr.ownsRow w3.heap.size 3 1 vo D.length (D.map (Value.int .i64)) ∧ Below w3.heap.size w3 wr) (fun _ i _ => p.natAbs - (intOf i).toNat)
              case atStart => exact ⟨0, [], rfl, Nat.zero_le _, Nat.zero_le _, rfl, by simp, World.ownsRow_nil _ _ _ _, Below.refl _ _⟩
              case round =>
                obtain ⟨q, D, rfl, hq, hq4, hD, hDl, ho, hbw⟩ := hrel
                rename World => wr
                have Hq := Lib.hid hq
                have HD := Lib.hid hD
                obtain ⟨ao, co, rfl⟩ := own_form ho
                have Ho := Lib.hid ho
                have Hbw := Lib.hid hbw
                have hbs := hbw.size
                have HIw := Lib.hid (I11.out.below hbw)
                clear hq hD ho hbw
                go_wp2_with fail
                refine (HS.out _).mono ?_
                rintro e wr ⟨rfl, rfl⟩
                have hdz : (dsg n p).length = 0 := by omega
                have Hexit := Lib.hid (show (q = p.natAbs ∧ p.natAbs ≤ 400) ∨ (dsg n p).length = 0 ∨ (400 < D.length ∧ p.natAbs ≤ 400) from .inr (.inl hdz))
                have Hway := Lib.hid (show (¬ (q : Int) < S ∧ True ∧ True) ∨ ((q : Int) < S ∧ ¬ (0 : Int) < ((dsg n p).length : Int) ∧ True) from by
                  by_cases g1 : (q : Int) < S
                  · exact .inr ⟨g1, by omega, trivial⟩
                  · exact .inl ⟨g1, trivial, trivial⟩)
                clear hdz
                have Hmid := Lib.hid (mid_any HD.out Hq.out Hexit.out)
                rcases Hway.out with h | h
                all_goals (
                  obtain ⟨e1, e2, e3⟩ := h
                  go_wp2_with fail
                  go_loopw [12, 14] (fun vo i wr => ∃ (k : Nat) (E : List Int), i = .int .i64 k ∧ k ≤ F.length ∧ E = (X.take k).foldl (wstep n) D ∧ E.length ≤ 30000 ∧ wr.ownsRow w3.heap.size 3 1 vo E.length (E.map (Value.int .i64)) ∧ Below w3.heap.size w3 wr) (fun _ i _ => F.length - (intOf i).toNat)
                  case atStart => exact ⟨0, D, rfl, Nat.zero_le _, rfl, by omega, Ho.out, Hbw.out⟩
                  case round =>
                    obtain ⟨k, E, rfl, hkF, hE, hEl, hoE, hbE⟩ := hrel
                    rename World => wz
                    have HE := Lib.hid hE
                    obtain ⟨aE, cE, rfl⟩ := own_form hoE
                    have HoE := Lib.hid hoE
                    have HbE := Lib.hid hbE
                    have hbEs := hbE.size
                    have Hu' := Lib.hid HF.out
                    clear hE hoE
                    by_cases hkl : k < F.length
                    · have hkl' : (k : Int) < (F.length : Int) := by omega
                      by_cases hE5 : E.length ≤ 400
                      · have hE5' : (E.length : Int) ≤ 400 := by omega
                        have hkX : k < X.length := by have := congrArg List.length Hfin.out; rw [List.length_map] at this; omega
                        obtain ⟨x, hx⟩ : ∃ x, X[k]? = some x := ⟨_, List.getElem?_eq_getElem hkX⟩
                        have hxi := HXi.out x (List.mem_of_getElem? hx)
                        have hl : F[k]? = some (ints n x) := by rw [Hfin.out, List.getElem?_map, hx]; rfl
                        obtain ⟨b, off, u, rfl, hb, hc, hu⟩ := HF.out k _ hl
                        have hcz := ((bon Hbt.out hbE).cell (p := ⟨b, off + k, none⟩) hb).trans hc
                        have CL := Lib.hid (refleast_any n h1 hn x hxi u wz (hu.below (bon Hbt.out hbE)))
                        have hll := least_len hxi hn
                        have Hnx := Lib.hid (show (X.take (k + 1)).foldl (wstep n) D = E ++ least n x by rw [take_moreF hx, List.foldl_append, ← HE.out]; exact if_pos hE5)
                        have k0 : (0 : Int) ≤ (k : Int) := by omega
                        clear hx hxi hl hc hu hbE hkX
                        go_wp2_with fail
                        refine CL.out.mono ?_
                        rintro e w8 ⟨v8, rfl, O8, B8⟩
                        have HI8 := Lib.hid (is_own O8 rfl)
                        have HO8 := Lib.hid (own_below HoE.out B8)
                        have HB8 := Lib.hid (bon HbE.out B8)
                        clear O8 B8
                        go_wp2_with (at_builtin; refine app_all (w0 := w3) w3.heap.size _ E (least n x) rfl _ _ rfl rfl HO8.out _ rfl HI8.out (by omega) HB8.out HB8.out.size ?_; intro v9 w9 O9 B9; have HO9 := Lib.hid O9; clear O9)
                        go_roundw
                        case rel => exact ⟨k + 1, E ++ least n x, by go_num, hkl, Hnx.out.symm, by rw [List.length_append]; omega, HO9.out, B9⟩
                        case measure => (simp [intOf] <;> omega)
                      · have hE5' : ¬ (E.length : Int) ≤ 400 := by omega
                        have Hfull := Lib.hid (show X.foldl (wstep n) D = E by
                          conv => lhs; rw [← List.take_append_drop k X]
                          rw [List.foldl_append, ← HE.out]
                          exact wstep_long (by omega) _)
                        clear hbE
                        have Hend := Lib.hid (show fin400 E = fin400 (powC n p ++ X.flatMap (least n)) by rw [← Hfull.out, fin_fold]; exact Hmid.out _)
                        have HIE := Lib.hid (is_own HoE.out rfl)
                        by_cases hE4 : 400 < E.length
                        · have hE4' : (400 : Int) < (E.length : Int) := by omega
                          go_wp2_with fail
                          go_ret2
                          exact ⟨_, _, _, rfl, is_nil _, bon Hbt.out HbE.out, .inr ⟨X, Hfin.out, HXi.out, by rw [← Hend.out]; exact (if_pos hE4).symm⟩⟩
                        · have hE4' : ¬ (400 : Int) < (E.length : Int) := by omega
                          go_wp2_with fail
                          go_ret2
                          exact ⟨_, _, _, rfl, HIE.out, bon Hbt.out HbE.out, .inr ⟨X, Hfin.out, HXi.out, by rw [← Hend.out]; exact (if_neg hE4).symm⟩⟩
                    · have hkl' : ¬ (k : Int) < (F.length : Int) := by omega
                      have Hfull := Lib.hid (show X.foldl (wstep n) D = E by
                        rw [HE.out, List.take_of_length_le]
                        have := congrArg List.length Hfin.out
                        rw [List.length_map] at this
                        omega)
                      clear hbE
                      have Hend := Lib.hid (show fin400 E = fin400 (powC n p ++ X.flatMap (least n)) by rw [← Hfull.out, fin_fold]; exact Hmid.out _)
                      have HIE := Lib.hid (is_own HoE.out rfl)
                      by_cases hE4 : 400 < E.length
                      · have hE4' : (400 : Int) < (E.length : Int) := by omega
                        go_wp2_with fail
                        go_ret2
                        exact ⟨_, _, _, rfl, is_nil _, bon Hbt.out HbE.out, .inr ⟨X, Hfin.out, HXi.out, by rw [← Hend.out]; exact (if_pos hE4).symm⟩⟩
                      · have hE4' : ¬ (400 : Int) < (E.length : Int) := by omega
                        go_wp2_with fail
                        go_ret2
                        exact ⟨_, _, _, rfl, HIE.out, bon Hbt.out HbE.out, .inr ⟨X, Hfin.out, HXi.out, by rw [← Hend.out]; exact (if_neg hE4).symm⟩⟩)
end Go.Proofs.Yteffdkoebigcnaa
