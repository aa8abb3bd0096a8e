/- The counts of a sheet. -/
import Derived.Test.YtcjbjlepgdggpaaTJ
import Derived.Deep.CutBlock
namespace Go.Proofs.Ytcjbjlepgdggpaa
open Go.RowKit Go.Shelf Go.Lib
set_option maxRecDepth 100000
set_option linter.unusedSimpArgs false
attribute [local irreducible] wpQuiet
def cnV (n : Nat) (F : Nat → Nat) (mv : Value) : List Value := .int .i64 (n : Int) :: ((List.range 16).map fun (i : Nat) => Value.int .u16 (F i : Int)) ++ [mv]
theorem cnV_len (n : Nat) (F : Nat → Nat) (mv : Value) : (cnV n F mv).length = 18 := by simp [cnV]
theorem cnV_i (n : Nat) (F : Nat → Nat) (mv : Value) (i : Nat) (h : i < 16) : (cnV n F mv)[1 + i]? = some (.int .u16 (F i : Int)) := by
  unfold cnV
  rw [show 1 + i = i + 1 by omega, List.cons_append, List.getElem?_cons_succ, List.getElem?_append_left (by simpa using h), List.getElem?_map, List.getElem?_range h]
  rfl
theorem cnV_set (n : Nat) (F : Nat → Nat) (mv : Value) (i x : Nat) (h : i < 16) : (cnV n F mv).set (1 + i) (.int .u16 (x : Int)) = cnV n (fun k => if k = i then x else F k) mv := by
  unfold cnV
  rw [show 1 + i = i + 1 by omega, List.cons_append, List.set_cons_succ, List.set_append_left _ _ (by simpa using h), List.cons_append]
  congr 2
  apply List.ext_getElem?
  intro j
  rw [List.getElem?_set]
  by_cases c : i = j
  · subst c
    rw [if_pos rfl, if_pos (by simpa using h), List.getElem?_map, List.getElem?_range h]
    simp
  · rw [if_neg c]
    by_cases hj : j < 16
    · rw [List.getElem?_map, List.getElem?_range hj, List.getElem?_map, List.getElem?_range hj]
      simp [show ¬ j = i from fun e => c e.symm]
    · rw [List.getElem?_eq_none (by simp; omega), List.getElem?_eq_none (by simp; omega)]
theorem cnV_map (n : Nat) (F : Nat → Nat) (mv u : Value) : (cnV n F mv).set 17 u = cnV n F u := by
  unfold cnV
  rw [List.cons_append, List.set_cons_succ, List.set_append_right _ _ (by simp), List.cons_append]
  simp
theorem cnV_one (n : Nat) (F : Nat → Nat) (mv : Value) (h : mv.oneCell' = true) : (cnV n F mv).toArray.all (·.oneCell') = true := by
  unfold cnV
  simp [Value.oneCell'] at h ⊢
  exact h
theorem alloc_counts (w : World) : (Instr.alloc 82 true (.tuple #[])).run Try.prog w = .ok (.pointer (some ⟨w.heap.size, 0, none⟩)) (w.alloc (.cells (cnV 0 (fun _ => 0) (.map none)).toArray 82)) := by
  kernel_rfl
theorem infoCn (n : Nat) (F : Nat → Nat) (mv : Value) : (Try.prog.info? 82).map (·.size) = some (cnV n F mv).toArray.size := by
  rw [List.size_toArray, cnV_len]
  kernel_rfl
theorem cn0 : (#[.int .i64 0, .int .u16 0, .int .u16 0, .int .u16 0, .int .u16 0, .int .u16 0, .int .u16 0, .int .u16 0, .int .u16 0, .int .u16 0, .int .u16 0, .int .u16 0, .int .u16 0, .int .u16 0, .int .u16 0, .int .u16 0, .int .u16 0, .map none] : Array Value) = (cnV 0 (fun _ => 0) (.map none)).toArray := rfl
theorem results_row_tmp {P : Program} {fn : Func} {p q : Tmp} {ty : TypeId} (h : fn.results = #[.cell p ty, .tmp q]) (tmps : Array Value) (w : World) (g : Nat) (t : TypeId) (cs : Array Value) (fr : Nat × Nat) (d : TypeDesc) (u : Value)
    (hp : tmps.getD p undef = .pointer (some ⟨g, 0, none⟩)) (hq : tmps.getD q undef = u) (hg : w.heap[g]? = some (.cells cs t fr))
    (hu : P.underlying ty = some d) (hd : (match d with | .struct _ | .array _ _ => true | _ => false) = true) (hi : (P.info? ty).map (·.size) = some cs.size) :
    (results fn tmps).run P w = .ok (.tuple #[.agg cs, u]) w := by
  have hp' : tmps[p]?.getD undef = .pointer (some ⟨g, 0, none⟩) := by simpa using hp
  have hq' : tmps[q]?.getD undef = u := by simpa using hq
  simp [results, h, hp', hq', asAddr, run_loadVar_row w g t ty cs fr d hg hu hd hi]
/-- The error of the counts. -/
def cntE (s : Sh) : Int := if chkS s ≠ 0 then chkS s else if 16 < s.ws.length then 3 else if 1000000000 < ordN s.ws.length (rdyM s.ws.length (frs (stepV s))) 0 then 5 else 0
theorem stepV_ok {s : Sh} (h : chkS s = 0) : stepV s = stepsL s.pr.toNat s.ws := by
  unfold stepV edgesV
  rw [if_pos h]
  exact isStep_eq _
theorem whole_or (k : Nat) : wholeN k ||| 1 <<< k = wholeN (k + 1) := by
  apply Nat.eq_of_testBit_eq
  intro j
  rw [testBit_or]
  unfold wholeN
  rw [Nat.testBit_two_pow_sub_one, Nat.testBit_two_pow_sub_one]
  by_cases h : j = k <;> simp [h]
  omega
theorem whole_lt {k : Nat} (h : k ≤ 16) : wholeN k < 2 ^ 16 := by
  unfold wholeN
  have : 2 ^ k ≤ 2 ^ 16 := Nat.pow_le_pow_right (by omega) h
  omega
/-- What the counts are where there is no error. -/
def CntOk (s : Sh) (w0 w : World) (cs : List Value) : Prop := ∃ mb, cs = cnV s.ws.length (frs (stepV s)) (.map (some mb)) ∧ OI w s.ws.length (rdyM s.ws.length (frs (stepV s))) mb ∧ w0.heap.size ≤ mb
theorem es_get {w : World} {a : Option Addr} {n c k : Nat} {L : List Ed} {x : Ed} (h : ES w (.slice a n c) L) (hx : L[k]? = some x) : ∃ b off, a = some ⟨b, off, none⟩ ∧ b < w.heap.size ∧ w.rangeAt b (off + k * 4) x.cs ∧ n = L.length := by
  obtain ⟨a', c', e, hg⟩ := h
  cases e
  obtain ⟨b, off, e2, hb, hr⟩ := hg k x hx
  exact ⟨b, off, e2, hb, hr, rfl⟩
set_option maxHeartbeats 4000000 in
set_option maxRecDepth 100000 in
theorem countsOf_any (s : Sh) (v : Value) (w : World) (hv : SV w v s) :
    Calls Try.prog 51 #[v] w fun e w' => ∃ cs : List Value, e = .returned (.tuple #[.agg cs.toArray, .int .i64 (cntE s)]) ∧ cs.length = 18 ∧ cs.toArray.all (·.oneCell') = true ∧ Below w.heap.size w w' ∧ (cntE s = 0 → CntOk s w w' cs) := by
  have HV := Lib.hid hv
  obtain ⟨u, rfl, hu⟩ := hv
  obtain ⟨ua, uc, rfl, k1, k2, _⟩ := id hu
  have CS := Lib.hid (fun W h => steps5_any s (.agg #[.int .i64 s.pr, .slice ua s.ws.length uc]) W h)
  have HST := Lib.hid (fun h => stepV_ok (s := s) h)
  clear hu
  go_enter Try.func51, Try.ntmps51
  go_wp2_with fail
  rw [cn0]
  have B0 : Below w.heap.size w ((w.alloc (.cells #[.int .i64 s.pr, .slice ua s.ws.length uc] 24)).alloc (.cells (cnV 0 (fun _ => 0) (.map none)).toArray 82)) := (below_alloc _ _).alloc (by simp) _
  have h0 := heap_alloc2_old w (.cells #[.int .i64 s.pr, .slice ua s.ws.length uc] 24) (.cells (cnV 0 (fun _ => 0) (.map none)).toArray 82)
  have h1 := heap_alloc2_new w (.cells #[.int .i64 s.pr, .slice ua s.ws.length uc] 24) (.cells (cnV 0 (fun _ => 0) (.map none)).toArray 82)
  have hz0 : ((w.alloc (.cells #[.int .i64 s.pr, .slice ua s.ws.length uc] 24)).alloc (.cells (cnV 0 (fun _ => 0) (.map none)).toArray 82)).heap.size = w.heap.size + 2 := by simp
  generalize (w.alloc (.cells #[.int .i64 s.pr, .slice ua s.ws.length uc] 24)).alloc (.cells (cnV 0 (fun _ => 0) (.map none)).toArray 82) = W0 at *
  refine (CS.out W0 (HV.out.below B0)).mono ?_
  rintro e w1 ⟨sv, rfl, hES, b1⟩
  have H0 := Lib.hid (hb_below b1 h0 (by omega))
  have H1 := Lib.hid (hb_below b1 h1 (by omega))
  have HB1 := Lib.hid (bon B0 b1)
  have HE1 := Lib.hid hES
  have HZ1 := Lib.hid (show w.heap.size + 2 ≤ w1.heap.size by have := b1.size; omega)
  obtain ⟨ea, ec, rfl, _⟩ := id hES
  clear CS B0 h0 h1 b1 hES hz0
  by_cases hchk : chkS s = 0
  · have HC := Lib.hid hchk
    rw [hchk]
    obtain ⟨p1, p2, psm⟩ := chk_small hchk
    have HSM := Lib.hid psm
    clear hchk psm
    have q1 : w1.cell? ⟨w.heap.size, 1, none⟩ = some (.slice ua s.ws.length uc) := cell_of_row w1 _ 1 _ _ _ H0.out
    by_cases hlen : 16 < s.ws.length
    · have hl1 : (16 : Int) < (s.ws.length : Int) := by omega
      have HE := Lib.hid (show cntE s = 3 by unfold cntE; rw [HC.out, if_neg (by simp), if_pos hlen])
      clear hlen
      go_wp2_with (first | (refine store_row rfl 82 (.tmp 2) (.tmp 24) rfl (w.heap.size + 1) (cnV 0 (fun _ => 0) (.map none)).toArray rfl rfl 82 _ H1.out (infoCn 0 _ _) (by simp [cnV_len]) (cnV_one _ _ _ rfl) ?_; intro wf hf hk2 hzf hBf))
      refine bodyPost_ret (results_row_tmp rfl _ _ (w.heap.size + 1) 82 _ (0, 0) _ _ rfl rfl hf Try.underlying82 rfl (infoCn _ _ _)) rfl ?_
      exact ⟨cnV 0 (fun _ => 0) (.map none), by rw [HE.out]; rfl, cnV_len _ _ _, cnV_one _ _ _ rfl, hBf _ _ HB1.out (by omega), fun h => by rw [HE.out] at h; cases h⟩
    · have hl1 : ¬ (16 : Int) < (s.ws.length : Int) := by omega
      have HL := Lib.hid (HST.out HC.out)
      have hes : ∀ e ∈ stepV s, ∃ a b : Nat, e.fr = (a : Int) ∧ e.to = (b : Int) ∧ a < 16 ∧ b < 16 := fun e he => by
        rw [HST.out HC.out] at he
        obtain ⟨a, b, h1, h2, h3, h4, _⟩ := step_char he
        exact ⟨a, b, h1, h2, by omega, by omega⟩
      have HES := Lib.hid hes
      have hcf : ∀ i, frs (stepV s) i < 2 ^ 16 := fun i => frs_lt (fun e he => by
        obtain ⟨a, b, h1, h2, h3, h4⟩ := hes e he
        omega) i
      have HCF := Lib.hid hcf
      have HLN := Lib.hid (Nat.le_trans (keep_len (edgesV s) (edgesV s).length) (edgesV_len s))
      rw [List.take_length] at HLN
      have HLN2 := Lib.hid (show (stepV s).length ≤ 2000 from HLN.out)
      have HCE := Lib.hid (show cntE s = if 1000000000 < ordN s.ws.length (rdyM s.ws.length (frs (stepV s))) 0 then 5 else 0 by unfold cntE; rw [HC.out, if_neg (by simp), if_neg hlen])
      have hn16 : s.ws.length ≤ 16 := by omega
      have q2 := heap_alloc_new w1 (.cells #[.int .i64 0, .int .u16 0, .int .u16 0, .int .u16 0, .int .u16 0, .int .u16 0, .int .u16 0, .int .u16 0, .int .u16 0, .int .u16 0, .int .u16 0, .int .u16 0, .int .u16 0, .int .u16 0, .int .u16 0, .int .u16 0, .int .u16 0, .map none] 82)
      clear hes hcf HLN HST HC
      go_wp2_with (first | (refine store_row rfl 82 (.tmp 6) (.tmp 28) rfl w1.heap.size (cnV s.ws.length (fun _ => 0) (.map none)).toArray rfl rfl 82 _ q2 (infoCn _ _ _) (by simp [cnV_len]) (cnV_one _ _ _ rfl) ?_; intro w2 h2 k2 z2 b2))
      have hb2 := b2 w1.heap.size w1 (below_alloc w1 (.cells #[.int .i64 0, .int .u16 0, .int .u16 0, .int .u16 0, .int .u16 0, .int .u16 0, .int .u16 0, .int .u16 0, .int .u16 0, .int .u16 0, .int .u16 0, .int .u16 0, .int .u16 0, .int .u16 0, .int .u16 0, .int .u16 0, .int .u16 0, .map none] 82)) (Nat.le_refl _)
      have HB2 := Lib.hid hb2
      have HC2 := Lib.hid h2
      have hz2 : w2.heap.size = w1.heap.size + 1 := by rw [z2]; simp
      clear q2 h2 k2 z2 b2 hb2 q1
      go_loopw [8, 31] (fun _ i wr => ∃ k : Nat, k ≤ (stepV s).length ∧ i = .int .i64 (k : Int) ∧ wr.heap[w1.heap.size]? = some (.cells (cnV s.ws.length (frs ((stepV s).take k)) (.map none)).toArray 82 (0, 0)) ∧ Below w1.heap.size w1 wr) (fun _ i _ => (stepV s).length - (intOf i).toNat)
      case atStart => exact ⟨0, Nat.zero_le _, rfl, HC2.out, HB2.out⟩
      case round =>
        clear HC2 HB2
        obtain ⟨k, hk, rfl, hcr, hbr⟩ := hrel
        rename World => wr
        have HCR := Lib.hid hcr
        have HBR := Lib.hid hbr
        have hzr : w1.heap.size < wr.heap.size := (Array.getElem?_eq_some_iff.1 hcr).1
        clear hcr hbr
        by_cases hkl : k < (stepV s).length
        · have j0 : (0 : Int) ≤ (k : Int) := by omega
          have j1 : (k : Int) < ((stepV s).length : Int) := by omega
          obtain ⟨x, hx⟩ : ∃ x, (stepV s)[k]? = some x := ⟨_, List.getElem?_eq_getElem hkl⟩
          obtain ⟨a, b, ha, hb, ha16, hb16⟩ := HES.out x (List.mem_of_getElem? hx)
          obtain ⟨eb, eo, rfl, heb, hr, _⟩ := es_get HE1.out hx
          have HR := Lib.hid (range_below3 hr heb HBR.out)
          have hnx : frs ((stepV s).take (k + 1)) = fun i => if i = b then frs ((stepV s).take k) b ||| 1 <<< a else frs ((stepV s).take k) i := by
            rw [List.take_add_one, hx, Option.toList_some]
            funext i
            rw [frs_snoc, hb, ha, Int.toNat_natCast]
            by_cases c : i = b
            · subst c; simp
            · rw [if_neg (by omega), if_neg c]
          have HNX := Lib.hid hnx
          have hlt : frs ((stepV s).take k) b < 2 ^ 16 := frs_lt (fun e he => by
            obtain ⟨a', b', h1', h2', h3', h4'⟩ := HES.out e (List.mem_of_mem_take he)
            omega) b
          have HLT := Lib.hid hlt
          obtain ⟨xf, xo, xt, xi⟩ := x
          simp only at ha hb
          subst ha hb
          unfold Ed.cs at HR
          clear hx hr hnx hlt
          generalize frs ((stepV s).take k) = F at *
          go_upto_region 10 with (refine wpList_load_mid rfl 76 (.tmp 33) rfl eb (eo + k * 4) rfl [.int .i64 (a : Int), .int .i64 xo, .int .i64 (b : Int), .int .i64 xi] _ HR.out Try.underlying76 rfl infoEd4 ?_)
          have h7 := heap_alloc_new wr (.cells #[.int .i64 (a : Int), .int .i64 xo, .int .i64 (b : Int), .int .i64 xi] 76)
          have b7 := below_alloc wr (.cells #[.int .i64 (a : Int), .int .i64 xo, .int .i64 (b : Int), .int .i64 xi] 76)
          have z7 : wr.heap.size < (wr.alloc (.cells #[.int .i64 (a : Int), .int .i64 xo, .int .i64 (b : Int), .int .i64 xi] 76)).heap.size := by simp
          have HB7 := Lib.hid (HBR.out.trans (b7.mono (by omega)))
          have HC7 := Lib.hid (hb_below b7 HCR.out hzr)
          have H7 := Lib.hid h7
          generalize wr.alloc (.cells #[.int .i64 (a : Int), .int .i64 xo, .int .i64 (b : Int), .int .i64 xi] 76) = w7 at *
          clear h7 b7
          have CW := Lib.hid (fun V => with16_any (F b) a HLT.out ha16 V)
          have i0 : (0 : Int) ≤ (b : Int) := by omega
          have i1 : (b : Int) < 16 := by omega
          refine wp_region_class (fun V => Below w7.heap.size w7 V) 12 (by kernel_rfl) (by kernel_rfl) (Below.refl _ w7).drew ?_
          simp only [List.take_succ_cons, List.take_zero, List.drop_succ_cons, List.drop_zero]
          refine quiet_still rfl (.pointer (some ⟨wr.heap.size, 2, none⟩)) (fun w _ => by go_simp) ?_
          simp only [Act.put, List.setIfInBounds_toArray, List.set_cons_zero, List.set_cons_succ]
          refine quiet_load1 rfl _ _ rfl ⟨wr.heap.size, 2, none⟩ rfl (.int .i64 (b : Int)) (load_int _ _) (fun V h => cell_of_row V _ 2 _ _ _ (hb_below h H7.out (by omega))) ?_
          simp only [Act.put, List.setIfInBounds_toArray, List.set_cons_zero, List.set_cons_succ]
          refine quiet_still rfl (.pointer (some ⟨wr.heap.size, 2, none⟩)) (fun w _ => by go_simp) ?_
          simp only [Act.put, List.setIfInBounds_toArray, List.set_cons_zero, List.set_cons_succ]
          refine quiet_load1 rfl _ _ rfl ⟨wr.heap.size, 2, none⟩ rfl (.int .i64 (b : Int)) (load_int _ _) (fun V h => cell_of_row V _ 2 _ _ _ (hb_below h H7.out (by omega))) ?_
          simp only [Act.put, List.setIfInBounds_toArray, List.set_cons_zero, List.set_cons_succ]
          refine quiet_still rfl (.pointer (some ⟨w1.heap.size, 1, none⟩)) (fun w _ => by go_simp) ?_
          simp only [Act.put, List.setIfInBounds_toArray, List.set_cons_zero, List.set_cons_succ]
          refine quiet_still rfl (.pointer (some ⟨w1.heap.size, 1 + b, none⟩)) (fun w _ => by go_simp) ?_
          simp only [Act.put, List.setIfInBounds_toArray, List.set_cons_zero, List.set_cons_succ]
          refine quiet_load1 rfl _ _ rfl ⟨w1.heap.size, 1 + b, none⟩ rfl (.int .u16 (F b : Int)) (load_set _ _) (fun V h => by rw [cell_of_row V _ (1 + b) _ _ _ (hb_below h HC7.out (by omega)), List.getElem?_toArray, cnV_i _ _ _ _ hb16]) ?_
          simp only [Act.put, List.setIfInBounds_toArray, List.set_cons_zero, List.set_cons_succ]
          refine quiet_still rfl (.pointer (some ⟨wr.heap.size, 0, none⟩)) (fun w _ => by go_simp) ?_
          simp only [Act.put, List.setIfInBounds_toArray, List.set_cons_zero, List.set_cons_succ]
          refine quiet_load1 rfl _ _ rfl ⟨wr.heap.size, 0, none⟩ rfl (.int .i64 (a : Int)) (load_int _ _) (fun V h => cell_of_row V _ 0 _ _ _ (hb_below h H7.out (by omega))) ?_
          simp only [Act.put, List.setIfInBounds_toArray, List.set_cons_zero, List.set_cons_succ]
          refine quiet_call rfl 70 _ _ rfl (enter_of Try.func70 (by decide) (by intro h; cases h)) _ (fun V h => (CW.out V).mono fun e V' ⟨he, hw⟩ => ⟨he, hw ▸ h⟩) ?_
          simp only [Act.put, List.setIfInBounds_toArray, List.set_cons_zero, List.set_cons_succ]
          refine quiet_still rfl (.pointer (some ⟨w1.heap.size, 1, none⟩)) (fun w _ => by go_simp) ?_
          simp only [Act.put, List.setIfInBounds_toArray, List.set_cons_zero, List.set_cons_succ]
          refine quiet_still rfl (.pointer (some ⟨w1.heap.size, 1 + b, none⟩)) (fun w _ => by go_simp) ?_
          simp only [Act.put, List.setIfInBounds_toArray, List.set_cons_zero, List.set_cons_succ]
          unfold wpQuiet
          intro V hV
          have hcv := hb_below hV HC7.out (by omega)
          have c9 : V.cell? ⟨w1.heap.size, 1 + b, none⟩ = some (.int .u16 (F b : Int)) := by rw [cell_of_row V _ (1 + b) _ _ _ hcv, List.getElem?_toArray, cnV_i _ _ _ _ hb16]
          have f9 : V.frozen? ⟨w1.heap.size, 1 + b, none⟩ = false := frozen_of_heap hcv _
          have hs := Go.heap_setCell_same V w1.heap.size (1 + b) _ _ (.int .u16 ((F b ||| 1 <<< a : Nat) : Int)) hcv
          rw [List.setIfInBounds_toArray, cnV_set _ _ _ _ _ hb16, ← HNX.out] at hs
          have HS := Lib.hid hs
          have HBS := Lib.hid ((HB7.out.trans (hV.mono (by omega))).setCell (p := ⟨w1.heap.size, 1 + b, none⟩) (Nat.le_refl _) (.int .u16 ((F b ||| 1 <<< a : Nat) : Int)))
          clear hV hcv hs
          generalize F b ||| 1 <<< a = z at *
          have hl2 := HLN2.out
          go_wp2_with fail
          go_roundw
          case rel => exact ⟨k + 1, hkl, by go_num, HS.out, HBS.out⟩
          case measure => (simp [intOf] <;> omega)
        · have j1 : ¬ (k : Int) < ((stepV s).length : Int) := by omega
          have e : k = (stepV s).length := by omega
          subst e
          rw [List.take_length] at HCR
          have H0R := Lib.hid (hb_below HBR.out H0.out (by have := HZ1.out; omega))
          have r1 : wr.cell? ⟨w.heap.size, 1, none⟩ = some (.slice ua s.ws.length uc) := cell_of_row wr _ 1 _ _ _ H0R.out
          generalize hF : frs (stepV s) = F at *
          have HF := Lib.hid hF
          clear hF
          go_wp2_with fail
          go_loopw [9, 10, 51] (fun wh _ i wq => ∃ k : Nat, k ≤ s.ws.length ∧ i = .int .i64 (k : Int) ∧ wh = .int .u16 (wholeN k : Int) ∧ wq = wr) (fun _ _ i _ => s.ws.length - (intOf i).toNat)
          case atStart => exact ⟨0, Nat.zero_le _, rfl, rfl, by trivial⟩
          case round =>
            obtain ⟨k, hk, rfl, rfl, hwq⟩ := hrel
            rename World => wq
            subst hwq
            by_cases hkl : k < s.ws.length
            · have j0 : (0 : Int) ≤ (k : Int) := by omega
              have j1 : (k : Int) < (s.ws.length : Int) := by omega
              have CW := Lib.hid (with16_any (wholeN k) k (whole_lt (by omega)) (by omega) wq)
              rw [whole_or] at CW
              go_wp2_with fail
              refine CW.out.mono ?_
              rintro e w9 ⟨rfl, hw⟩
              obtain rfl := hw
              go_wp2_with fail
              go_roundw
              case rel => exact ⟨k + 1, hkl, by go_num, rfl, by trivial⟩
              case measure => (simp [intOf] <;> omega)
            · have j1 : ¬ (k : Int) < (s.ws.length : Int) := by omega
              have e : k = s.ws.length := by omega
              subst e
              have hcm := HCR.out
              have E0 : (Instr.makeMap 80 none).run Try.prog wq = .ok (.map (some wq.heap.size)) (wq.alloc (.map #[] 0)) := rfl
              have b0 := below_alloc wq (.map #[] 0)
              have m0 := MP.made wq
              have hc0 := hb_below b0 HCR.out hzr
              have zm : wq.heap.size < (wq.alloc (.map #[] 0)).heap.size := by simp
              generalize wq.alloc (.map #[] 0) = wa at *
              have hwl := whole_lt hn16
              obtain ⟨wb, E1, m1, t1⟩ := m0.store (v := 1) hwl (by decide)
              rw [show ((1 : Nat) : Int) = 1 from rfl] at E1
              have g1 := t1.grown
              have hc1 : wb.heap[w1.heap.size]? = some (.cells (cnV s.ws.length F (.map none)).toArray 82 (0, 0)) := (g1.block _ (by omega) (fun e => by simp at e; omega)).trans hc0
              have c17 : wb.cell? ⟨w1.heap.size, 17, none⟩ = some (.map none) := cell_of_row wb _ 17 _ _ _ hc1
              have f17 : wb.frozen? ⟨w1.heap.size, 17, none⟩ = false := frozen_of_heap hc1 _
              have hc2 := Go.heap_setCell_same wb w1.heap.size 17 _ _ (.map (some wq.heap.size)) hc1
              rw [List.setIfInBounds_toArray, cnV_map] at hc2
              have hbw : Below wq.heap.size wq wb := Below.grown b0 g1 (by omega) (fun k e => by cases e; exact Nat.le_refl _)
              have HB9 := Lib.hid ((HBR.out.trans (hbw.mono (by omega))).setCell (p := ⟨w1.heap.size, 17, none⟩) (Nat.le_refl _) (.map (some wq.heap.size)))
              have HM9 := Lib.hid (show OI (wb.setCell ⟨w1.heap.size, 17, none⟩ (.map (some wq.heap.size))) s.ws.length (rdyM s.ws.length F) wq.heap.size from ⟨_, m1.setCell (by simp only []; omega) _, by simp [updM], fun y v hy e => by
                unfold updM at e
                split at e
                · rename_i q
                  rw [q, ordN_whole]
                  simpa using e.symm
                · cases e⟩)
              have HC9 := Lib.hid hc2
              have H19 := Lib.hid (hb_below HB9.out H1.out (by have := HZ1.out; omega))
              have hz9 : wq.heap.size < (wb.setCell ⟨w1.heap.size, 17, none⟩ (.map (some wq.heap.size))).heap.size := by simp; have := g1.size; omega
              have HZ9 := Lib.hid hz9
              clear m0 hc0 zm b0 m1 t1 g1 hc1 hc2 hbw hz9 hcm r1 H0R
              go_upto_region 19 with fail
              generalize wb.setCell ⟨w1.heap.size, 17, none⟩ (.map (some wq.heap.size)) = w9 at *
              have CO := Lib.hid (orders_any s.ws.length w1.heap.size wq.heap.size F hn16 HCF.out (by omega) _ 0 w9 (Nat.le_refl _) (by decide) HC9.out HM9.out)
              have hb9 := ordN_le (rdyM_lt s.ws.length F) hn16 0
              generalize hov : ordN s.ws.length (rdyM s.ws.length F) 0 = ov at *
              have HOV := Lib.hid hov
              clear c17 f17 E0 E1 hov
              go_wp2_with fail
              refine CO.out.mono ?_
              rintro e w10 ⟨rfl, hm10, hg10⟩
              have HB10 := Lib.hid (show Below w1.heap.size w1 w10 from Below.grown HB9.out hg10 (by have := HB9.out.size; omega) (fun k e => by cases e; omega))
              have HC10 := Lib.hid ((hg10.block w1.heap.size (Array.getElem?_eq_some_iff.1 HC9.out).1 (fun e => by simp at e; omega)).trans HC9.out)
              have H110 := Lib.hid (hb_below HB10.out H1.out (by have := HZ1.out; omega))
              have HM10 := Lib.hid hm10
              have HBF := Lib.hid (bon HB1.out HB10.out)
              clear hm10 hg10 CO HC9 HM9 H19 HB9
              by_cases hbig : 1000000000 < ov
              · have hbi : (1000000000 : Int) < (ov : Int) := by omega
                have HE := Lib.hid (show cntE s = 5 by rw [HCE.out, if_pos hbig])
                clear hbig
                go_wp2_with (first | (refine store_row rfl 82 (.tmp 2) (.tmp 64) rfl (w.heap.size + 1) (cnV 0 (fun _ => 0) (.map none)).toArray rfl rfl 82 _ H110.out (infoCn 0 _ _) (by simp [cnV_len]) (cnV_one _ _ _ rfl) ?_; intro wf hf hk2 hzf hBf))
                refine bodyPost_ret (results_row_tmp rfl _ _ (w.heap.size + 1) 82 _ (0, 0) _ _ rfl rfl hf Try.underlying82 rfl (infoCn _ _ _)) rfl ?_
                exact ⟨cnV 0 (fun _ => 0) (.map none), by rw [HE.out]; rfl, cnV_len _ _ _, cnV_one _ _ _ rfl, hBf _ _ HBF.out (by omega), fun h => by rw [HE.out] at h; cases h⟩
              · have hbi : ¬ (1000000000 : Int) < (ov : Int) := by omega
                have HE := Lib.hid (show cntE s = 0 by rw [HCE.out, if_neg hbig])
                clear hbig
                go_wp2_with (first | (refine wpList_load_row rfl 82 (.tmp 6) rfl w1.heap.size rfl 82 (cnV s.ws.length F (.map (some wq.heap.size))).toArray (0, 0) _ HC10.out Try.underlying82 rfl (infoCn _ _ _) ?_) | (refine store_row rfl 82 (.tmp 2) (.tmp 65) rfl (w.heap.size + 1) (cnV s.ws.length F (.map (some wq.heap.size))).toArray rfl rfl 82 _ H110.out (infoCn _ _ _) (by simp [cnV_len]) (cnV_one _ _ _ rfl) ?_; intro wf hf hk2 hzf hBf))
                refine bodyPost_ret (results_row_tmp rfl _ _ (w.heap.size + 1) 82 _ (0, 0) _ _ rfl rfl hf Try.underlying82 rfl (infoCn _ _ _)) rfl ?_
                refine ⟨cnV s.ws.length F (.map (some wq.heap.size)), by rw [HE.out]; rfl, cnV_len _ _ _, cnV_one _ _ _ rfl, hBf _ _ HBF.out (by omega), fun _ => ⟨wq.heap.size, by rw [HF.out], ?_, by have := HZ1.out; omega⟩⟩
                obtain ⟨f, f1, f2, f3⟩ := HM10.out
                rw [HF.out]
                refine ⟨f, ?_, f2, f3⟩
                obtain ⟨D, ⟨es, ck, d1, d3⟩, d2⟩ := f1
                exact ⟨D, ⟨es, ck, hk2 _ _ d1 (by have := HZ1.out; omega), d3⟩, d2⟩
  · have HC := Lib.hid hchk
    have hz : (chkS s == 0) = false := beq_eq_false_iff_ne.2 hchk
    have HE := Lib.hid (show cntE s = chkS s by unfold cntE; rw [if_pos hchk])
    clear hchk
    generalize chkS s = z at *
    go_wp2_with (first | (refine store_row rfl 82 (.tmp 2) (.tmp 18) rfl (w.heap.size + 1) (cnV 0 (fun _ => 0) (.map none)).toArray rfl rfl 82 _ H1.out (infoCn 0 _ _) (by simp [cnV_len]) (cnV_one _ _ _ rfl) ?_; intro wf hf hk2 hzf hBf))
    refine bodyPost_ret (results_row_tmp rfl _ _ (w.heap.size + 1) 82 _ (0, 0) _ _ rfl rfl hf Try.underlying82 rfl (infoCn _ _ _)) rfl ?_
    exact ⟨cnV 0 (fun _ => 0) (.map none), by rw [HE.out]; rfl, cnV_len _ _ _, cnV_one _ _ _ rfl, hBf _ _ HB1.out (by omega), fun h => by rw [HE.out] at h; rw [h] at hz; cases hz⟩
end Go.Proofs.Ytcjbjlepgdggpaa
