/- The law of any order. -/
import Derived.Test.YtokaeiilhfbeoaaOU
import Derived.Test.YtokaeiilhfbeoaaOT
import Derived.Test.YtokaeiilhfbeoaaOP
namespace Go.Proofs.Ytokaeiilhfbeoaa
open Go.RowKit Go.Shelf
set_option linter.unusedSimpArgs false
attribute [local irreducible] wpQuiet
theorem es_base {w : World} {v : Value} {L : List Ed} (h : ES w v L) (hl : 0 < L.length) : ∃ be oe c, v = .slice (some ⟨be, oe, none⟩) L.length c ∧ be < w.heap.size ∧ ∀ (k : Nat) (x : Ed), L[k]? = some x → w.rangeAt be (oe + k * 4) x.cs := by
  obtain ⟨a, c, rfl, hg⟩ := h
  obtain ⟨x, hx⟩ : ∃ x, L[0]? = some x := ⟨_, List.getElem?_eq_getElem hl⟩
  obtain ⟨b, off, rfl, hb, _⟩ := hg 0 x hx
  refine ⟨b, off, c, rfl, hb, fun k y hy => ?_⟩
  obtain ⟨b2, off2, e, _, hr⟩ := hg k y hy
  cases e
  exact hr
theorem side_old (pr : Nat) (W : List Wk) (l : List Int) (i j : Nat) (hj : j < 2) : (sideL pr W l i j)[atW W i + j]? = l[atW W i + j]? := by
  have : j = 0 ∨ j = 1 := by omega
  rcases this with rfl | rfl
  · rfl
  · unfold sideL
    rw [if_neg (by decide), if_pos rfl, List.getElem?_set, if_neg (by omega)]
set_option maxRecDepth 100000 in
set_option maxHeartbeats 16000000 in
theorem any_row (s : Sh) (os : List Int) (v dv : Value) (w : World) (hv : SV w v s) (_ : (Lit.int .i64 s.pr).wf = true) (hd : IS w dv os) (_ : ∀ z ∈ os, -9223372036854775808 ≤ z ∧ z ≤ 9223372036854775807) : Calls Try.prog 7 #[v, dv] w fun e w' => e = .returned (.bool true) ∧ Below w.heap.size w w' := by
  have HV := Lib.hid hv
  have HD := Lib.hid hd
  obtain ⟨pr, ws⟩ := s
  obtain ⟨u, rfl, hu⟩ := hv
  obtain ⟨ua, uc, rfl, _, _, hU⟩ := id hu
  obtain ⟨sa, sc, rfl, q1, q2, _, hI⟩ := hd
  have HU := Lib.hid hU
  have HI := Lib.hid hI
  have CF := Lib.hid (fun W h => Far_any ⟨pr, ws⟩ (.agg #[.int .i64 pr, .slice ua ws.length uc]) W h)
  have CS := Lib.hid (fun W => shown_any W)
  clear hu hU hI
  try simp only at *
  go_enter Try.func7, Try.ntmps7
  go_wp2_with fail
  have h0 := heap_alloc_new w (.cells #[.int .i64 pr, .slice ua ws.length uc] 24)
  have b0 := below_alloc w (.cells #[.int .i64 pr, .slice ua ws.length uc] 24)
  have z0 : (w.alloc (.cells #[.int .i64 pr, .slice ua ws.length uc] 24)).heap.size = w.heap.size + 1 := by simp
  generalize w.alloc (.cells #[.int .i64 pr, .slice ua ws.length uc] 24) = w0 at *
  refine (CF.out w0 (HV.out.below b0)).mono ?_
  rintro e w1 ⟨rfl, b1⟩
  have H1 := Lib.hid ((b1.block _ (by omega)).trans h0)
  have HB1 := Lib.hid (bon b0 b1)
  have HZ1 := Lib.hid (show w.heap.size + 1 ≤ w1.heap.size by have := b1.size; omega)
  clear h0 b0 z0 b1 CF
  by_cases hf : farB ⟨pr, ws⟩ = true
  · rw [hf]
    clear hf
    go_wp2_with fail
    refine (CS.out _).mono ?_
    rintro e w9 ⟨rfl, b9⟩
    have HB9 := Lib.hid (bon HB1.out b9)
    clear b9
    go_wp2_with fail
    go_ret
    exact ⟨rfl, HB9.out⟩
  have hf' : farB ⟨pr, ws⟩ = false := by simpa using hf
  rw [hf']
  clear hf hf'
  by_cases hl : 2000 < os.length
  · have l1 : (2000 : Int) < (os.length : Int) := by omega
    clear hl
    go_wp2_with fail
    refine (CS.out _).mono ?_
    rintro e w9 ⟨rfl, b9⟩
    have HB9 := Lib.hid (bon HB1.out b9)
    clear b9
    go_wp2_with fail
    go_ret
    exact ⟨rfl, HB9.out⟩
  have l1 : ¬ (2000 : Int) < (os.length : Int) := by omega
  have C1 := Lib.hid (fun W h => refCheck4_any ⟨pr, ws⟩ (.agg #[.int .i64 pr, .slice ua ws.length uc]) W h)
  have CO := Lib.hid (fun W h1 h2 h3 => refOrder_any ⟨pr, ws⟩ (.agg #[.int .i64 pr, .slice ua ws.length uc]) os (.slice sa os.length sc) W h1 h2 h3 (by omega))
  have CE := Lib.hid (fun W h => Edges_any ⟨pr, ws⟩ (.agg #[.int .i64 pr, .slice ua ws.length uc]) W h)
  have HEV := Lib.hid (show edgesV ⟨pr, ws⟩ = if chkS ⟨pr, ws⟩ = 0 then edgesL pr.toNat ws else [] from rfl)
  have HSM0 := Lib.hid (@chk_small ⟨pr, ws⟩)
  have HFT0 := Lib.hid (@chk_fits ⟨pr, ws⟩)
  try simp only at CO
  generalize edgesV ⟨pr, ws⟩ = ev at *
  generalize chkS ⟨pr, ws⟩ = zc at *
  clear hl
  have g0 : w1.cell? ⟨w.heap.size, 0, none⟩ = some (.int .i64 pr) := cell_of_row w1 _ 0 _ _ _ H1.out
  have g1 : w1.cell? ⟨w.heap.size, 1, none⟩ = some (.slice ua ws.length uc) := cell_of_row w1 _ 1 _ _ _ H1.out
  go_wp2_with fail
  refine (C1.out w1 (HV.out.below HB1.out)).mono ?_
  rintro e w2 ⟨rfl, b2⟩
  have H2 := Lib.hid ((b2.block _ (by have := HZ1.out; omega)).trans H1.out)
  have HB2 := Lib.hid (bon HB1.out b2)
  have HZ2 := Lib.hid (Nat.le_trans HZ1.out b2.size)
  clear b2 g0 g1 C1
  by_cases hz : zc = 0
  case neg =>
    have hzb : (zc != 0) = true := by rw [bne_iff_ne]; exact hz
    go_wp2_with fail
    refine (CS.out _).mono ?_
    rintro e w9 ⟨rfl, b9⟩
    have HB9 := Lib.hid (bon HB2.out b9)
    clear b9
    go_wp2_with fail
    go_ret
    exact ⟨rfl, HB9.out⟩
  subst hz
  obtain ⟨s1, s2, hsm⟩ := HSM0.out rfl
  have HFT := Lib.hid (HFT0.out rfl)
  have HSM := Lib.hid hsm
  have hev : ev = edgesL pr.toNat ws := by rw [HEV.out, if_pos rfl]
  subst hev
  clear HSM0 HFT0 HEV hsm
  try simp only at s1 s2
  obtain ⟨n, rfl⟩ : ∃ n : Nat, pr = (n : Int) := ⟨pr.toNat, by omega⟩
  try simp only [Int.toNat_natCast] at CE
  have hn1 : 2 ≤ n := by omega
  have hn2 : n ≤ 24 := by omega
  have hw4 : ws.length ≤ 400 := HSM.out.1
  have g0 : w2.cell? ⟨w.heap.size, 0, none⟩ = some (.int .i64 (n : Int)) := cell_of_row w2 _ 0 _ _ _ H2.out
  have g1 : w2.cell? ⟨w.heap.size, 1, none⟩ = some (.slice ua ws.length uc) := cell_of_row w2 _ 1 _ _ _ H2.out
  go_wp2_with fail
  refine (CO.out w2 (HV.out.below HB2.out) (HD.out.below HB2.out) (by first | rfl | trivial)).mono ?_
  rintro e w3 ⟨rfl, b3⟩
  have H3 := Lib.hid ((b3.block _ (by have := HZ2.out; omega)).trans H2.out)
  have HB3 := Lib.hid (bon HB2.out b3)
  have HZ3 := Lib.hid (Nat.le_trans HZ2.out b3.size)
  clear b3 g0 g1 CO
  by_cases ho : refOrdB ws os = true
  case neg =>
    have ho' : refOrdB ws os = false := by simpa using ho
    rw [ho']
    clear ho ho'
    go_wp2_with fail
    refine (CS.out _).mono ?_
    rintro e w9 ⟨rfl, b9⟩
    have HB9 := Lib.hid (bon HB3.out b9)
    clear b9
    go_wp2_with fail
    go_ret
    exact ⟨rfl, HB9.out⟩
  rw [ho]
  have HIV := Lib.hid (line_ord ho (pr := n) (fun x hx => by have := (HFT.out x hx).1; (try simp only at this); omega))
  have HAT := Lib.hid (fun k z hz => ord_at ho (k := k) (z := z) hz)
  have HAL := Lib.hid (ord_all ho)
  clear ho
  have g0 : w3.cell? ⟨w.heap.size, 0, none⟩ = some (.int .i64 (n : Int)) := cell_of_row w3 _ 0 _ _ _ H3.out
  have g1 : w3.cell? ⟨w.heap.size, 1, none⟩ = some (.slice ua ws.length uc) := cell_of_row w3 _ 1 _ _ _ H3.out
  go_wp2_with fail
  refine (CE.out w3 (HV.out.below HB3.out)).mono ?_
  rintro e w4 ⟨v4, rfl, ho4, _, b4⟩
  have hlen := edgesL_len n ws
  obtain ⟨be, oe, ce, hv4, hbe, hE⟩ := es_base (es_own ho4) (by omega)
  subst hv4
  rw [hlen]
  have HE := Lib.hid hE
  have HTG := Lib.hid (fun p h => top_get n ws p h)
  have HSG := Lib.hid (fun i j x h1 h2 => side_get n ws i j x h1 h2)
  have HEL := Lib.hid hlen
  obtain ⟨m, hm⟩ : ∃ m, m = n + 2 * ws.length := ⟨_, rfl⟩
  rw [← hm]
  have HM := Lib.hid hm
  have hne : ((m : Int) != (n : Int) + 2 * (ws.length : Int)) = false := by rw [bne_eq_false_iff_eq]; omega
  have H4 := Lib.hid ((b4.block _ (by have := HZ3.out; omega)).trans H3.out)
  have HB4 := Lib.hid (bon HB3.out b4)
  have hwg : w.heap.size < w4.heap.size := by have := HZ3.out; have := b4.size; omega
  clear b4 g0 g1 ho4 hE hlen hm CE
  have g0 : w4.cell? ⟨w.heap.size, 0, none⟩ = some (.int .i64 (n : Int)) := cell_of_row w4 _ 0 _ _ _ H4.out
  have g1 : w4.cell? ⟨w.heap.size, 1, none⟩ = some (.slice ua ws.length uc) := cell_of_row w4 _ 1 _ _ _ H4.out
  have hmk := fun W => mk_full n (by omega) W
  have HO := Lib.hid (own_full n w4.heap.size (by omega) w4 (Nat.le_refl _))
  have b5 := below_alloc w4 (.cells (madeCells #[.int .i64 0] n) 3)
  rw [fillL_zero] at HO
  go_upto_region 7 with fail
  obtain ⟨g, hg⟩ : ∃ g, g = w4.heap.size := ⟨_, rfl⟩
  rw [← hg] at HO b5 hbe hwg ⊢
  have HB5 := Lib.hid b5
  have HGE := Lib.hid (show g ≤ w4.heap.size by omega)
  clear hmk b5 g0 g1 hne
  generalize w4.alloc (.cells (madeCells #[.int .i64 0] n) 3) = w5 at *
  clear hg
  go_wp2_with fail
  go_loopw [8] (fun i wr => ∃ k : Nat, k ≤ n ∧ i = .int .i64 (k : Int) ∧ wr.ownsRow g 3 1 (.slice (some ⟨g, 0, none⟩) n n) n ((fillL n k).map (Value.int .i64)) ∧ Below g w4 wr) (fun i _ => n - (intOf i).toNat)
  case atStart => exact ⟨0, Nat.zero_le _, rfl, HO.out, HB5.out⟩
  case round =>
    clear HO HB5
    obtain ⟨k, hk, rfl, hown, hb⟩ := hrel
    rename World => wr
    have HOW := Lib.hid hown
    have HBW := Lib.hid hb
    clear hown hb
    by_cases hkn : k < n
    · have k0 : (0 : Int) ≤ (k : Int) := by omega
      have k1 : (k : Int) < (n : Int) := by omega
      have k2 : (k : Int) < (m : Int) := by have := HM.out; omega
      have f0 := HOW.out.frozenAt k
      have e0 : wr.cell? ⟨g, k, none⟩ = _ := HOW.out.cellAt k (by omega)
      obtain ⟨e1, he1⟩ : ∃ e1, ((fillL n k).map (Value.int .i64))[k]? = some e1 := ⟨_, List.getElem?_eq_getElem (by simp [fillL]; omega)⟩
      rw [he1] at e0
      have HS := (HOW.out.stored k (.int .i64 (k : Int))).1
      rw [fillL_set n k hkn] at HS
      have HS2 := Lib.hid HS
      have hb6 := HBW.out.setCell (p := ⟨g, k, none⟩) (Nat.le_refl _) (.int .i64 (k : Int))
      have hR := HE.out k _ (HTG.out k hkn)
      have c0 : (wr.setCell ⟨g, k, none⟩ (.int .i64 (k : Int))).cell? ⟨be, oe + k * 4, none⟩ = some (.int .i64 (-1)) := (hb6.cell (p := ⟨be, oe + k * 4, none⟩) hbe).trans (hR 0 _ rfl)
      have c1 : (wr.setCell ⟨g, k, none⟩ (.int .i64 (k : Int))).cell? ⟨be, oe + k * 4 + 1, none⟩ = some (.int .i64 (k : Int)) := (hb6.cell (p := ⟨be, oe + k * 4 + 1, none⟩) hbe).trans (hR 1 _ rfl)
      have HB6 := Lib.hid hb6
      clear HS he1 hR hb6
      go_wp2_with fail
      go_roundw
      case rel => exact ⟨k + 1, hkn, by go_num, HS2.out, HB6.out⟩
      case measure => (simp [intOf] <;> omega)
    · have k1 : ¬ (k : Int) < (n : Int) := by omega
      have e : n = k := by omega
      subst e
      rw [fillL_all] at HOW
      clear hkn hk
      go_wp2_with fail
      go_loopw [9] (fun i wr => ∃ k : Nat, k ≤ os.length ∧ i = .int .i64 (k : Int) ∧ wr.ownsRow g 3 1 (.slice (some ⟨g, 0, none⟩) n n) n ((lineL n ws (os.take k)).map (Value.int .i64)) ∧ Below g w4 wr) (fun i _ => os.length - (intOf i).toNat)
      case atStart => exact ⟨0, Nat.zero_le _, rfl, HOW.out, HBW.out⟩
      case round =>
        clear HOW HBW
        obtain ⟨k, hk, rfl, hown, hb⟩ := hrel
        rename World => wk
        have HOW := Lib.hid hown
        have HBW := Lib.hid hb
        clear hown hb
        by_cases hkl : k < os.length
        · obtain ⟨z, hz⟩ : ∃ z, os[k]? = some z := ⟨_, List.getElem?_eq_getElem hkl⟩
          obtain ⟨i, x, rfl, hx, hnd, hpre⟩ := HAT.out k z hz
          obtain ⟨hLI, hCL⟩ := HIV.out k hk
          have HLF := Lib.hid (fun p j (h1 : x.pl + (j : Nat) = ((p : Nat) : Int)) h2 h3 => line_finds hLI hCL hx h1 h2 h3 hnd hpre)
          obtain ⟨b, off, rfl, hbl, hcz⟩ := HI.out k _ hz
          have hb4 := HB4.out.trans (HBW.out.mono (Nat.le_of_lt hwg))
          have cz : wk.cell? ⟨b, off + k, none⟩ = some (.int .i64 (i : Int)) := (hb4.cell (p := ⟨b, off + k, none⟩) hbl).trans hcz
          have HNX := Lib.hid (lineL_next n ws os k _ hz)
          have j0 : (0 : Int) ≤ (k : Int) := by omega
          have j1 : (k : Int) < (os.length : Int) := by omega
          have hil : i < ws.length := (List.getElem?_eq_some_iff.1 hx).1
          have hpl := (HFT.out x (List.mem_of_getElem? hx)).1
          try simp only at hpl
          obtain ⟨b2, off2, rfl, hb2, hr2, _⟩ := HU.out i x hx
          have HX := Lib.hid hx
          have HLL := Lib.hid hLI.len
          have HR2 := Lib.hid hr2
          clear hcz hz hx hnd hpre hLI hCL hb4 hr2
          go_wp2_with fail
          clear cz
          generalize lineL n ws (os.take k) = l at *
          go_loopw [11] (fun i2 wr => ∃ j : Nat, j ≤ 2 ∧ i2 = .int .i64 (j : Int) ∧ wr.ownsRow g 3 1 (.slice (some ⟨g, 0, none⟩) n n) n ((sideL n ws l i j).map (Value.int .i64)) ∧ Below g w4 wr) (fun i2 _ => 2 - (intOf i2).toNat)
          case atStart => exact ⟨0, Nat.zero_le _, rfl, HOW.out, HBW.out⟩
          case round =>
            clear HOW HBW
            obtain ⟨j, hj, rfl, hown, hb⟩ := hrel
            rename World => wj
            have HOJ := Lib.hid hown
            have HBJ := Lib.hid hb
            clear hown hb
            by_cases hj2 : j < 2
            · have j2 : (j : Int) < 2 := by omega
              have j3 : (0 : Int) ≤ (j : Int) := by omega
              have i0 : (0 : Int) ≤ (i : Int) := by omega
              have i1 : (i : Int) < (ws.length : Int) := by omega
              obtain ⟨p, hp⟩ : ∃ p : Nat, x.pl = (p : Int) := ⟨x.pl.toNat, by omega⟩
              have hH4 := (HBJ.out.block _ hwg).trans H4.out
              have g0 : wj.cell? ⟨w.heap.size, 0, none⟩ = some (.int .i64 (n : Int)) := cell_of_row wj _ 0 _ _ _ hH4
              have g1 : wj.cell? ⟨w.heap.size, 1, none⟩ = some (.slice (some ⟨b2, off2, none⟩) ws.length uc) := cell_of_row wj _ 1 _ _ _ hH4
              have gp : wj.cell? ⟨b2, off2 + i * 3 + 1, none⟩ = some (.int .i64 (p : Int)) := by rw [← hp]; exact ((HB4.out.trans (HBJ.out.mono (Nat.le_of_lt hwg))).cell (p := ⟨b2, off2 + i * 3 + 1, none⟩) hb2).trans (HR2.out 1 _ rfl)
              obtain ⟨pj, hpj⟩ : ∃ pj : Nat, (p : Int) + (j : Int) = (pj : Int) := ⟨p + j, by omega⟩
              obtain ⟨nw, hnw⟩ : ∃ nw : Nat, (n : Int) + 2 * (i : Int) + (j : Int) = (nw : Int) := ⟨n + 2 * i + j, by omega⟩
              have qp : (p : Int) ≤ (n : Int) - 2 := by omega
              obtain ⟨zz, e, hl1, he1, he2, he3⟩ := HLF.out pj j (by omega) hj2 (by omega)
              obtain ⟨ef, eo, et, en⟩ := e
              try simp only at he2 he3
              subst he2
              subst he3
              have hzm : zz < m := by have := (List.getElem?_eq_some_iff.1 he1).1; rw [HEL.out] at this; rw [HM.out]; exact this
              have qz0 : (0 : Int) ≤ (zz : Int) := by omega
              have qz1 : (zz : Int) < (m : Int) := by omega
              have qn0 : (0 : Int) ≤ (nw : Int) := by omega
              have qn1 : (nw : Int) < (m : Int) := by have := HM.out; omega
              have qpj0 : (0 : Int) ≤ (pj : Int) := by omega
              have qpj1 : (pj : Int) < (n : Int) := by omega
              have HPX := Lib.hid (show atW ws i + j = pj by unfold atW; rw [HX.out]; simp [hp]; omega)
              have hgp : ((sideL n ws l i j).map (Value.int .i64))[pj]? = some (.int .i64 (zz : Int)) := by
                rw [List.getElem?_map, ← HPX.out, side_old n ws l i j hj2, HPX.out, hl1]
                rfl
              have cl : wj.cell? ⟨g, pj, none⟩ = some (.int .i64 (zz : Int)) := (HOJ.out.cellAt pj (by omega)).trans hgp
              have hr4 := HE.out zz _ he1
              have hse := HE.out _ _ (HSG.out i j x hj2 HX.out)
              rw [show n + 2 * i + j = nw by omega] at hse
              have d0 : wj.cell? ⟨be, oe + zz * 4, none⟩ = some (.int .i64 ef) := (HBJ.out.cell (p := ⟨be, oe + zz * 4, none⟩) hbe).trans (hr4 0 _ rfl)
              have d1 : wj.cell? ⟨be, oe + zz * 4 + 1, none⟩ = some (.int .i64 eo) := (HBJ.out.cell (p := ⟨be, oe + zz * 4 + 1, none⟩) hbe).trans (hr4 1 _ rfl)
              have d2 : wj.cell? ⟨be, oe + zz * 4 + 2, none⟩ = some (.int .i64 (i : Int)) := (HBJ.out.cell (p := ⟨be, oe + zz * 4 + 2, none⟩) hbe).trans (hr4 2 _ rfl)
              have d3 : wj.cell? ⟨be, oe + zz * 4 + 3, none⟩ = some (.int .i64 (j : Int)) := (HBJ.out.cell (p := ⟨be, oe + zz * 4 + 3, none⟩) hbe).trans (hr4 3 _ rfl)
              have HSE0 := Lib.hid (show w4.cell? ⟨be, oe + nw * 4, none⟩ = some (.int .i64 (i : Int)) from (hse 0 _ rfl).trans (by simp [sideE, edgeP]))
              have HSE1 := Lib.hid (show w4.cell? ⟨be, oe + nw * 4 + 1, none⟩ = some (.int .i64 (j : Int)) from hse 1 _ rfl)
              have HHP := Lib.hid hp
              have HPJ := Lib.hid hpj
              have HNW := Lib.hid hnw
              have HGP := Lib.hid hgp
              have hgj : g < wj.heap.size := (World.ownsRow.lt HOJ.out _ rfl).2
              have hbj : be < wj.heap.size := by omega
              have hwj : w.heap.size < wj.heap.size := by omega
              have A0 := fun (o : Obj) => ((below_alloc wj o).cell (p := ⟨w.heap.size, 0, none⟩) hwj).trans g0
              have A1 := fun (o : Obj) => ((below_alloc wj o).cell (p := ⟨g, pj, none⟩) hgj).trans cl
              have A2 := fun (o : Obj) => ((below_alloc wj o).cell (p := ⟨be, oe + zz * 4, none⟩) hbj).trans d0
              have A3 := fun (o : Obj) => ((below_alloc wj o).cell (p := ⟨be, oe + zz * 4 + 1, none⟩) hbj).trans d1
              have A4 := fun (o : Obj) => ((below_alloc wj o).cell (p := ⟨be, oe + zz * 4 + 2, none⟩) hbj).trans d2
              have A5 := fun (o : Obj) => ((below_alloc wj o).cell (p := ⟨be, oe + zz * 4 + 3, none⟩) hbj).trans d3
              clear hH4 hl1 he1 hr4 hse hgp hp
              go_upto_region 21 with fail
              go_region_law fail
              all_goals
                go_upto_region 22 with fail
                obtain ⟨wq, hwq⟩ : ∃ W, W = (wj.alloc (.cells #[.int .i64 ef, .int .i64 eo, .int .i64 (i : Int), .int .i64 (j : Int)] 46)).drew := ⟨_, rfl⟩
                rw [← hwq]
                have hb : Below wj.heap.size wj wq := by rw [hwq]; exact (below_alloc _ _).drew
                have hx : wq.heap[wj.heap.size]? = some (.cells #[.int .i64 ef, .int .i64 eo, .int .i64 (i : Int), .int .i64 (j : Int)] 46 (0, 0)) := by rw [hwq]; exact heap_alloc_new wj _
                have t2 : wq.cell? ⟨wj.heap.size, 2, none⟩ = some (.int .i64 (i : Int)) := cell_of_row wq _ 2 _ _ _ hx
                have t3 : wq.cell? ⟨wj.heap.size, 3, none⟩ = some (.int .i64 (j : Int)) := cell_of_row wq _ 3 _ _ _ hx
                have r0 : wq.cell? ⟨be, oe + nw * 4, none⟩ = some (.int .i64 (i : Int)) := (hb.cell (p := ⟨be, oe + nw * 4, none⟩) hbj).trans ((HBJ.out.cell (p := ⟨be, oe + nw * 4, none⟩) hbe).trans HSE0.out)
                have r1 : wq.cell? ⟨be, oe + nw * 4 + 1, none⟩ = some (.int .i64 (j : Int)) := (hb.cell (p := ⟨be, oe + nw * 4 + 1, none⟩) hbj).trans ((HBJ.out.cell (p := ⟨be, oe + nw * 4 + 1, none⟩) hbe).trans HSE1.out)
                have HOQ := own_below HOJ.out hb
                have f0 := HOQ.frozenAt pj
                have el : wq.cell? ⟨g, pj, none⟩ = some (.int .i64 (zz : Int)) := (hb.cell (p := ⟨g, pj, none⟩) hgj).trans cl
                have HS := own_store HOQ pj ((n : Int) + 2 * (i : Int) + (j : Int))
                rw [← HPX.out, ← sideL_next n ws l i j hj2, HPX.out, HNW.out] at HS
                have HS2 := Lib.hid HS
                have HB7 := Lib.hid ((HBJ.out.trans (hb.mono (Nat.le_of_lt hgj))).setCell (p := ⟨g, pj, none⟩) (Nat.le_refl _) (.int .i64 (nw : Int)))
                clear HS HOQ hb hx hwq A0 A1 A2 A3 A4 A5 cl d0 d1 d2 d3 g0 g1 gp
                go_wp2_with fail
                go_roundw
                case rel => exact ⟨j + 1, hj2, by go_num, HS2.out, HB7.out⟩
                case measure => (simp [intOf] <;> omega)
            · have j2 : ¬ (j : Int) < 2 := by omega
              have e : j = 2 := by omega
              subst e
              have HO2 := Lib.hid (show wj.ownsRow g 3 1 (.slice (some ⟨g, 0, none⟩) n n) n ((lineL n ws (os.take (k + 1))).map (Value.int .i64)) by rw [HNX.out]; exact HOJ.out)
              go_wp2_with fail
              go_roundw
              case rel => exact ⟨k + 1, hkl, by go_num, HO2.out, HBJ.out⟩
              case measure => (simp [intOf] <;> omega)
        · have k1 : ¬ (k : Int) < (os.length : Int) := by omega
          have e : k = os.length := by omega
          subst e
          obtain ⟨hLI, _⟩ := HIV.out os.length (Nat.le_refl _)
          rw [List.take_length] at HOW hLI
          have HEND := Lib.hid (fun p hp => line_end hLI (p := p) hp HAL.out)
          have HBE := Lib.hid (HB4.out.trans (HBW.out.mono (Nat.le_of_lt hwg)))
          clear hLI hkl hk
          generalize lineL n ws os = l at *
          go_wp2_with fail
          go_loopw [15] (fun i2 wx => ∃ q : Nat, q ≤ n ∧ i2 = .int .i64 (q : Int) ∧ wx = wk) (fun i2 _ => n - (intOf i2).toNat)
          case atStart => exact ⟨0, Nat.zero_le _, rfl, rfl⟩
          case round =>
            obtain ⟨q, hq, rfl, hwx⟩ := hrel
            rename World => wx
            subst hwx
            by_cases hqn : q < n
            · have p0 : (0 : Int) ≤ (q : Int) := by omega
              have p1 : (q : Int) < (n : Int) := by omega
              obtain ⟨zz, e, hl1, he1, he2, he3⟩ := HEND.out q hqn
              obtain ⟨ef, eo, et, en⟩ := e
              try simp only at he2 he3
              subst he2
              subst he3
              have hzm : zz < m := by have := (List.getElem?_eq_some_iff.1 he1).1; rw [HEL.out] at this; rw [HM.out]; exact this
              have qz0 : (0 : Int) ≤ (zz : Int) := by omega
              have qz1 : (zz : Int) < (m : Int) := by omega
              have cl : wx.cell? ⟨g, q, none⟩ = some (.int .i64 (zz : Int)) := (HOW.out.cellAt q (by omega)).trans (by rw [List.getElem?_map, hl1]; rfl)
              have hr4 := HE.out zz _ he1
              have d2 : wx.cell? ⟨be, oe + zz * 4 + 2, none⟩ = some (.int .i64 (-1)) := (HBW.out.cell (p := ⟨be, oe + zz * 4 + 2, none⟩) hbe).trans (hr4 2 _ rfl)
              have d3 : wx.cell? ⟨be, oe + zz * 4 + 3, none⟩ = some (.int .i64 (q : Int)) := (HBW.out.cell (p := ⟨be, oe + zz * 4 + 3, none⟩) hbe).trans (hr4 3 _ rfl)
              clear hl1 he1 hr4
              go_wp2_with fail
              go_roundw
              case rel => exact ⟨q + 1, hqn, by go_num, by first | trivial | rfl⟩
              case measure => (simp [intOf] <;> omega)
            · have p1 : ¬ (q : Int) < (n : Int) := by omega
              go_wp2_with fail
              refine (CS.out _).mono ?_
              rintro e w9 ⟨rfl, b9⟩
              have HB9 := Lib.hid (bon HBE.out b9)
              clear b9
              go_wp2_with fail
              go_ret
              exact ⟨rfl, HB9.out⟩
end Go.Proofs.Ytokaeiilhfbeoaa
