/- The reference's match. -/
import Derived.Test.YtcjbjlepgdggpaaTT
import Derived.Test.YtcjbjlepgdggpaaTS
namespace Go.Proofs.Ytcjbjlepgdggpaa
open Go.RowKit Go.Shelf Go.Lib
set_option maxRecDepth 100000
set_option linter.unusedSimpArgs false
attribute [local irreducible] wpQuiet
def fdP (W : List Wk) (A : Nat → Bool) (y : Wk) (i : Nat) : Bool := sameW (wkN W i) y && rdyB W A i
def fdV (W : List Wk) (A : Nat → Bool) (y : Wk) (k : Nat) : Int := match (List.range k).find? (fdP W A y) with | none => -1 | some j => (j : Int)
theorem fd_next (W : List Wk) (A : Nat → Bool) (y : Wk) (k : Nat) (h : (List.range k).find? (fdP W A y) = none) : (List.range (k + 1)).find? (fdP W A y) = if fdP W A y k = true then some k else none := by
  rw [List.range_succ, List.find?_append, h]
  cases hk : fdP W A y k <;> simp [hk]
theorem fd_some {W : List Wk} {A : Nat → Bool} {y : Wk} {k j n : Nat} (h : (List.range k).find? (fdP W A y) = some j) (hk : k ≤ n) : (List.range n).find? (fdP W A y) = some j := by
  rw [List.find?_range_eq_some] at h ⊢
  exact ⟨h.1, List.mem_range.2 (Nat.lt_of_lt_of_le (List.mem_range.1 h.2.1) hk), h.2.2⟩
theorem fd_all (W : List Wk) (A : Nat → Bool) (y : Wk) : (List.range W.length).find? (fdP W A y) = findR W A y := rfl
theorem load_bools (ad : Addr) (v : Value) (w : World) (h : w.cell? ad = some v) : (Instr.loadAt 71 (.pointer (some ad))).run Try.prog w = .ok v w := by
  simp [Instr.loadAt, Instr.sureAddr, loadVar, go_sem, Try.isAgg71, h]
theorem grown_set (w : World) (g o : Nat) (u : Value) : w.grownBy (w.setCell ⟨g, o, none⟩ u) (some g) := ⟨rfl, rfl, rfl, by simp, fun i _ hne => heap_setCell_other _ _ _ _ (fun e => hne (by rw [e]))⟩
theorem own_setOther {w : World} {B k n g : Nat} {e : TypeId} {v : Value} {xs : List Value} (h : w.ownsRow B e k v n xs) (hg : g < B) (o : Nat) (u : Value) : (w.setCell ⟨g, o, none⟩ u).ownsRow B e k v n xs :=
  h.kept (grown_set w g o u) (by
    rcases h.2 with ⟨e, _⟩ | ⟨g', cap', cur, e, hB', _⟩
    · rw [e]; exact .inl rfl
    · rw [e]; right; simp only [Value.ownBlock, ne_eq, Option.some.injEq]; omega)
theorem BO.lt' {B g n : Nat} {w : World} {A : Nat → Bool} (h : BO B w g n A) : g < w.heap.size := by
  rcases h.2 with ⟨e, _⟩ | ⟨g', cap, cur, e, _, hg, _⟩
  · cases e
  · cases e; exact (Array.getElem?_eq_some_iff.1 hg).1
theorem BO.belowB {B g n C : Nat} {w w' : World} {A : Nat → Bool} (h : BO B w g n A) (hb : Below C w w') (hg : g < C) : BO B w' g n A := own_blk h hg hb
set_option maxHeartbeats 4000000 in
set_option maxRecDepth 100000 in
theorem refMatch0_any (a b : Sh) (u v : Value) (w : World) (hu : WS w u a.ws) (hv : WS w v b.ws) (hca : chkS a = 0) (hcb : chkS b = 0) :
    Calls Try.prog 44 #[.agg #[.int .i64 a.pr, u], .agg #[.int .i64 b.pr, v]] w fun e w' => ∃ lv, e = .returned (.tuple #[lv, .bool (smB a b)]) ∧ IS w' lv (matchL a b) ∧ Below w.heap.size w w' := by
  have HU := Lib.hid hu
  have HV := Lib.hid hv
  have HNIL := Lib.hid (fun (W : World) => is_nil W)
  obtain ⟨ua, uc, rfl, k1, k2, _⟩ := id hu
  obtain ⟨va, vc, rfl, k3, k4, _⟩ := id hv
  have M3 := Lib.hid (fun h => @mE_3 a b hca hcb h)
  have M4 := Lib.hid (fun h => @mE_4 a b hca hcb h)
  have M5 := Lib.hid (fun l h h' => @mE_5 a b l hca hcb h h')
  obtain ⟨pa1, pa2, pa3⟩ := chk_small hca
  obtain ⟨pb1, pb2, pb3⟩ := chk_small hcb
  have HSM := Lib.hid pa3
  have ha4 := pa3.1
  have hb4 := pb3.1
  have HSB := Lib.hid (show smB a b = decide (mE a b = 0) from rfl)
  generalize smB a b = sb at *
  generalize matchL a b = ml at *
  generalize mE a b = me at *
  clear hu hv pa3 pb3
  go_enter Try.func44, Try.ntmps44
  have B0 : Below w.heap.size w ((w.alloc (.cells #[.int .i64 a.pr, .slice ua a.ws.length uc] 24)).alloc (.cells #[.int .i64 b.pr, .slice va b.ws.length vc] 24)) := (below_alloc _ _).alloc (by simp) _
  have h0 := heap_alloc2_old w (.cells #[.int .i64 a.pr, .slice ua a.ws.length uc] 24) (.cells #[.int .i64 b.pr, .slice va b.ws.length vc] 24)
  have h1 := heap_alloc2_new w (.cells #[.int .i64 a.pr, .slice ua a.ws.length uc] 24) (.cells #[.int .i64 b.pr, .slice va b.ws.length vc] 24)
  have hz0 : ((w.alloc (.cells #[.int .i64 a.pr, .slice ua a.ws.length uc] 24)).alloc (.cells #[.int .i64 b.pr, .slice va b.ws.length vc] 24)).heap.size = w.heap.size + 2 := by simp
  by_cases h7 : a.pr ≠ b.pr ∨ a.ws.length ≠ b.ws.length
  · obtain ⟨rfl, rfl⟩ := M3.out h7
    have e : sb = false := HSB.out
    subst e
    have HB0 := Lib.hid B0
    by_cases hpr : a.pr = b.pr
    · have hln : ¬ a.ws.length = b.ws.length := by
        rcases h7 with h | h
        · exact absurd hpr h
        · exact h
      have e1 : (a.pr != b.pr) = false := by rw [bne_eq_false_iff_eq]; exact hpr
      have e2 : ((a.ws.length : Int) != (b.ws.length : Int)) = true := by rw [bne_iff_ne]; omega
      clear h7 h0 h1 hz0 B0 hpr
      go_wp2_with fail
      go_ret2
      exact ⟨_, rfl, HNIL.out _, HB0.out⟩
    · have e1 : (a.pr != b.pr) = true := by rw [bne_iff_ne]; exact hpr
      clear h7 h0 h1 hz0 B0
      go_wp2_with fail
      go_ret2
      exact ⟨_, rfl, HNIL.out _, HB0.out⟩
  · obtain ⟨hpr, hln⟩ : a.pr = b.pr ∧ a.ws.length = b.ws.length := by
      constructor
      · exact Classical.byContradiction fun h => h7 (.inl h)
      · exact Classical.byContradiction fun h => h7 (.inr h)
    have HLN := Lib.hid hln
    have M5' := Lib.hid (fun l h => M5.out l h7 h)
    have e1 : (a.pr != b.pr) = false := by rw [bne_eq_false_iff_eq]; exact hpr
    have e2 : ((a.ws.length : Int) != (b.ws.length : Int)) = false := by rw [bne_eq_false_iff_eq]; omega
    have HB0 := Lib.hid B0
    have H0 := Lib.hid h0
    have H1 := Lib.hid h1
    clear B0 h0 h1 h7 hpr hln
    go_upto_region 3 with fail
    generalize (w.alloc (.cells #[.int .i64 a.pr, .slice ua a.ws.length uc] 24)).alloc (.cells #[.int .i64 b.pr, .slice va b.ws.length vc] 24) = W0 at *
    have ca1 : W0.cell? ⟨w.heap.size, 1, none⟩ = some (.slice ua a.ws.length uc) := cell_of_row W0 _ 1 _ _ _ H0.out
    have hz00 : w.heap.size + 2 ≤ W0.heap.size := Nat.le_of_eq hz0.symm
    clear hz0
    have hmk := mk_boolsN a.ws.length (by omega) W0
    obtain ⟨w1, hw1⟩ : ∃ w1, w1 = W0.alloc (.cells (madeCells #[.bool false] a.ws.length) 4) := ⟨_, rfl⟩
    have B1 := below_alloc W0 (.cells (madeCells #[.bool false] a.ws.length) 4)
    have o1 := bo_made a.ws.length W0.heap.size (by omega) W0 (Nat.le_refl _)
    rw [← hw1] at hmk B1 o1
    have hz1 := B1.size
    have HO1 := Lib.hid o1
    have hgl := o1.lt'
    have H01 := Lib.hid (hb_below B1 H0.out (by omega))
    have H11 := Lib.hid (hb_below B1 H1.out (by omega))
    have HB1 := Lib.hid (HB0.out.trans (B1.mono (by omega)))
    clear hw1 o1 B1 H0 H1 HB0 e1 e2
    go_wp2_with fail
    clear ca1 hmk
    go_loopw [7, 8, 9, 10] (fun ov iv _ _ wr => ∃ (k : Nat) (l : List Nat), k ≤ b.ws.length ∧ iv = .int .i64 (k : Int) ∧ matchTo a.ws b.ws k = some l ∧ wr.ownsRow w1.heap.size 3 1 ov (LI l).length ((LI l).map (Value.int .i64)) ∧ BO W0.heap.size wr W0.heap.size a.ws.length (inL l) ∧ Below W0.heap.size w1 wr ∧ w1.heap.size ≤ wr.heap.size) (fun _ iv _ _ _ => b.ws.length - (intOf iv).toNat)
    case atStart => exact ⟨0, [], Nat.zero_le _, rfl, rfl, ⟨rfl, .inl ⟨rfl, rfl⟩⟩, HO1.out, Below.refl _ _, Nat.le_refl _⟩
    case round =>
      obtain ⟨k, l, hk, rfl, hml, how, hbo, hbr, hzr⟩ := hrel
      rename World => wr
      have HML := Lib.hid hml
      have HOW := Lib.hid how
      have HBO := Lib.hid hbo
      have HBR := Lib.hid hbr
      have HCL := Lib.hid (matchTo_clo hml)
      obtain ⟨oa, oc, rfl⟩ := own_form how
      have H0R := Lib.hid (hb_below hbr H01.out (by omega))
      have H1R := Lib.hid (hb_below hbr H11.out (by omega))
      have cb1 : wr.cell? ⟨w.heap.size + 1, 1, none⟩ = some (.slice va b.ws.length vc) := cell_of_row wr _ 1 _ _ _ H1R.out
      clear hml how hbo hbr HO1
      by_cases hkl : k < b.ws.length
      · have j0 : (0 : Int) ≤ (k : Int) := by omega
        have j1 : (k : Int) < (b.ws.length : Int) := by omega
        obtain ⟨y, hy⟩ : ∃ y, b.ws[k]? = some y := ⟨_, List.getElem?_eq_getElem hkl⟩
        have HNX := Lib.hid (matchTo_next HML.out hy)
        have hbw : Below w.heap.size w wr := HB1.out.trans (HBR.out.mono (by omega))
        have HBW := Lib.hid hbw
        have hvw := HV.out.below hbw
        have HUW := Lib.hid (HU.out.below hbw)
        obtain ⟨vb, vo, rfl, hvb, hvr⟩ := ws_get hvw hy
        have HYR := Lib.hid hvr
        clear hvw hvr hy hbw
        go_wp2_with fail
        go_loopw [9, 10] (fun fv iv wq => ∃ i : Nat, i ≤ a.ws.length ∧ iv = .int .i64 (i : Int) ∧ fv = .int .i64 (fdV a.ws (inL l) y i) ∧ Below wr.heap.size wr wq) (fun _ iv _ => a.ws.length - (intOf iv).toNat)
        case atStart => exact ⟨0, Nat.zero_le _, rfl, rfl, Below.refl _ _⟩
        case round =>
          obtain ⟨i, hi, rfl, rfl, hbq⟩ := hrel
          rename World => wq
          have HBQ := Lib.hid hbq
          have hzq := hbq.size
          have H0Q := Lib.hid (hb_below hbq H0R.out (by omega))
          have H1Q := Lib.hid (hb_below hbq H1R.out (by omega))
          have cq0 : wq.cell? ⟨w.heap.size, 1, none⟩ = some (.slice ua a.ws.length uc) := cell_of_row wq _ 1 _ _ _ H0Q.out
          clear hbq
          cases hf : (List.range i).find? (fdP a.ws (inL l) y) with
          | some j =>
            have hv : fdV a.ws (inL l) y i = (j : Int) := by unfold fdV; rw [hf]
            rw [hv]
            have hfr : findR a.ws (inL l) y = some j := fd_some hf hi
            have hst : matchTo a.ws b.ws (k + 1) = some (l ++ [j]) := by rw [HNX.out, hfr]; rfl
            have HST := Lib.hid hst
            have hja := (findR_some hfr).1
            have j3 : ¬ ((j : Int) < 0) := by omega
            have j4 : (0 : Int) ≤ (j : Int) := by omega
            have j5 : (j : Int) < (a.ws.length : Int) := by omega
            have hboq : BO W0.heap.size wq W0.heap.size a.ws.length (inL l) := own_below HBO.out HBQ.out
            have hcj := hboq.cell hja
            have hfj := hboq.frozen j
            have hbs := hboq.set j
            rw [← inL_snoc] at hbs
            have HBS := Lib.hid hbs
            have HOS := Lib.hid (own_setOther (own_below HOW.out HBQ.out) (g := W0.heap.size) hgl j (.bool true))
            have HB4 := Lib.hid (show Below W0.heap.size w1 (wq.setCell ⟨W0.heap.size, j, none⟩ (.bool true)) from (HBR.out.trans (HBQ.out.mono (by omega))).setCell (p := ⟨W0.heap.size, j, none⟩) (Nat.le_refl _) _)
            have HLL := Lib.hid (show (LI l).length < 100000 by rw [LI_len, HCL.out.2.1]; omega)
            have hzs : (wq.setCell ⟨W0.heap.size, j, none⟩ (.bool true)).heap.size = wq.heap.size := by simp
            have HZS := Lib.hid hzs
            clear hboq hbs hst hfr hf hv hzs
            by_cases hil : i < a.ws.length
            · have j6 : (i : Int) < (a.ws.length : Int) := by omega
              go_upto_region 16 with fail
              go_upto_region 17 with fail
              generalize wq.setCell ⟨W0.heap.size, j, none⟩ (.bool true) = ws at *
              have HZX := Lib.hid (show w1.heap.size ≤ ws.heap.size by have := HZS.out; omega)
              clear hcj hfj cq0 cb1
              go_wp2_with (at_builtin; refine app_one (w0 := ws) w1.heap.size _ (LI l) (j : Int) rfl _ _ rfl rfl HOS.out rfl HLL.out (Below.refl _ _) HZX.out ?_; intro g1 cap1 wA hown1 hb1)
              have HOA := Lib.hid hown1
              have HBA := Lib.hid (own_blk HBS.out hgl hb1)
              have HBB := Lib.hid (HB4.out.trans (hb1.mono (by omega)))
              have hzA : w1.heap.size ≤ wA.heap.size := by have := hb1.size; have := HZX.out; omega
              clear hown1 hb1
              go_wp2_with fail
              go_roundw
              case rel => exact ⟨k + 1, l ++ [j], hkl, by go_num, HST.out, by rw [LI_snoc, List.length_append]; exact HOA.out, HBA.out, HBB.out, hzA⟩
              case measure => (simp [intOf] <;> omega)
            · have j6 : ¬ (i : Int) < (a.ws.length : Int) := by omega
              go_upto_region 16 with fail
              go_upto_region 17 with fail
              generalize wq.setCell ⟨W0.heap.size, j, none⟩ (.bool true) = ws at *
              have HZX := Lib.hid (show w1.heap.size ≤ ws.heap.size by have := HZS.out; omega)
              clear hcj hfj cq0 cb1
              go_wp2_with (at_builtin; refine app_one (w0 := ws) w1.heap.size _ (LI l) (j : Int) rfl _ _ rfl rfl HOS.out rfl HLL.out (Below.refl _ _) HZX.out ?_; intro g1 cap1 wA hown1 hb1)
              have HOA := Lib.hid hown1
              have HBA := Lib.hid (own_blk HBS.out hgl hb1)
              have HBB := Lib.hid (HB4.out.trans (hb1.mono (by omega)))
              have hzA : w1.heap.size ≤ wA.heap.size := by have := hb1.size; have := HZX.out; omega
              clear hown1 hb1
              go_wp2_with fail
              go_roundw
              case rel => exact ⟨k + 1, l ++ [j], hkl, by go_num, HST.out, by rw [LI_snoc, List.length_append]; exact HOA.out, HBA.out, HBB.out, hzA⟩
              case measure => (simp [intOf] <;> omega)
          | none =>
            have hv : fdV a.ws (inL l) y i = -1 := by unfold fdV; rw [hf]
            rw [hv]
            have HF := Lib.hid hf
            by_cases hil : i < a.ws.length
            · have j6 : (i : Int) < (a.ws.length : Int) := by omega
              have j7 : (0 : Int) ≤ (i : Int) := by omega
              obtain ⟨x, hx⟩ : ∃ x, a.ws[i]? = some x := ⟨_, List.getElem?_eq_getElem hil⟩
              have HAQ := Lib.hid (HUW.out.below HBQ.out)
              obtain ⟨wb, wo, rfl, hwb, hwr⟩ := ws_get HAQ.out hx
              have HXR := Lib.hid hwr
              have HYQ := Lib.hid (range_below3 HYR.out hvb HBQ.out)
              have HBOQ := Lib.hid (show BO W0.heap.size wq W0.heap.size a.ws.length (inL l) from own_below HBO.out HBQ.out)
              have hw0 : w.heap.size < wq.heap.size := by omega
              have hw1 : w.heap.size + 1 < wq.heap.size := by omega
              have hvbq : vb < wq.heap.size := by omega
              have HC0 := Lib.hid (cell_of_row wq w.heap.size 1 _ _ _ H0Q.out)
              have HC1 := Lib.hid (cell_of_row wq (w.heap.size + 1) 1 _ _ _ H1Q.out)
              have HFP := Lib.hid (show fdP a.ws (inL l) y i = (sameW x y && rdyB a.ws (inL l) i) by unfold fdP; rw [wkN_get hx])
              have HFN := Lib.hid (fd_next a.ws (inL l) y i HF.out)
              have CR := Lib.hid (fun V (h : Below wq.heap.size wq V) => refReady_any a.pr a.ws (some ⟨wb, wo, none⟩) uc W0.heap.size W0.heap.size a.ws.length i (inL l) V (HAQ.out.below h) HSM.out (own_below HBOQ.out h) rfl hil)
              have HES := Lib.hid (fun V => eqSame x y V)
              clear hwr hx hf hv
              go_wp2_with fail
              cases hs : sameW x y
              · have he2 : ∀ W, (Op.equalIn 10000 51 (.agg #[.int .i64 x.kd, .int .i64 x.pl, .string x.wd]) (.agg #[.int .i64 y.kd, .int .i64 y.pl, .string y.wd])).run Try.prog W = .ok false W := fun W => (HES.out W).trans (by rw [hs])
                have hnn : fdV a.ws (inL l) y (i + 1) = -1 := by unfold fdV; rw [HFN.out, HFP.out, hs]; rfl
                have HNN := Lib.hid hnn
                clear hnn
                refine wp_region_class (fun w' => Below wq.heap.size wq w') 16 (by kernel_rfl) (by kernel_rfl) (Below.refl _ wq).drew ?_
                simp only [List.take_succ_cons, List.take_zero, List.drop_succ_cons, List.drop_zero]
                refine quiet_still rfl (.pointer (some ⟨w.heap.size, 1, none⟩)) (fun w _ => by go_simp) ?_
                simp only [Act.put, List.setIfInBounds_toArray, List.set_cons_zero, List.set_cons_succ]
                refine quiet_load1 rfl _ _ rfl ⟨w.heap.size, 1, none⟩ rfl (.slice (some ⟨wb, wo, none⟩) a.ws.length uc) (load_ws _ _) (fun _ h => (h.cell (p := ⟨w.heap.size, 1, none⟩) hw0).trans HC0.out) ?_
                simp only [Act.put, List.setIfInBounds_toArray, List.set_cons_zero, List.set_cons_succ]
                refine quiet_moveV rfl _ rfl (.int .i64 (i : Int)) rfl ?_
                simp only [Act.put, List.setIfInBounds_toArray, List.set_cons_zero, List.set_cons_succ]
                refine quiet_still rfl (.pointer (some ⟨wb, wo + i * 3, none⟩)) (fun w _ => by go_simp) ?_
                simp only [Act.put, List.setIfInBounds_toArray, List.set_cons_zero, List.set_cons_succ]
                refine quiet_load_mid rfl _ _ rfl wb (wo + i * 3) rfl [.int .i64 x.kd, .int .i64 x.pl, .string x.wd] _ (fun V h => range_below3 HXR.out hwb h) Try.underlying51 rfl (by kernel_rfl) ?_
                simp only [Act.put, List.setIfInBounds_toArray, List.set_cons_zero, List.set_cons_succ]
                refine quiet_still rfl (.pointer (some ⟨w.heap.size + 1, 1, none⟩)) (fun w _ => by go_simp) ?_
                simp only [Act.put, List.setIfInBounds_toArray, List.set_cons_zero, List.set_cons_succ]
                refine quiet_load1 rfl _ _ rfl ⟨w.heap.size + 1, 1, none⟩ rfl (.slice (some ⟨vb, vo, none⟩) b.ws.length vc) (load_ws _ _) (fun _ h => (h.cell (p := ⟨w.heap.size + 1, 1, none⟩) hw1).trans HC1.out) ?_
                simp only [Act.put, List.setIfInBounds_toArray, List.set_cons_zero, List.set_cons_succ]
                refine quiet_moveV rfl _ rfl (.int .i64 (k : Int)) rfl ?_
                simp only [Act.put, List.setIfInBounds_toArray, List.set_cons_zero, List.set_cons_succ]
                refine quiet_still rfl (.pointer (some ⟨vb, vo + k * 3, none⟩)) (fun w _ => by go_simp) ?_
                simp only [Act.put, List.setIfInBounds_toArray, List.set_cons_zero, List.set_cons_succ]
                refine quiet_load_mid rfl _ _ rfl vb (vo + k * 3) rfl [.int .i64 y.kd, .int .i64 y.pl, .string y.wd] _ (fun V h => range_below3 HYQ.out hvbq h) Try.underlying51 rfl (by kernel_rfl) ?_
                simp only [Act.put, List.setIfInBounds_toArray, List.set_cons_zero, List.set_cons_succ]
                refine quiet_still rfl (.bool false) (fun w _ => by have := he2; go_simp) ?_
                simp only [Act.put, List.setIfInBounds_toArray, List.set_cons_zero, List.set_cons_succ]
                refine quiet_moveV rfl _ rfl (.bool false) rfl ?_
                simp only [Act.put, List.setIfInBounds_toArray, List.set_cons_zero, List.set_cons_succ]
                refine quiet_skip (by kernel_rfl) ?_
                simp only [Act.put, List.setIfInBounds_toArray, List.set_cons_zero, List.set_cons_succ]
                refine quiet_skip (by kernel_rfl) ?_
                simp only [Act.put, List.setIfInBounds_toArray, List.set_cons_zero, List.set_cons_succ]
                refine quiet_skip (by kernel_rfl) ?_
                simp only [Act.put, List.setIfInBounds_toArray, List.set_cons_zero, List.set_cons_succ]
                refine quiet_skip (by kernel_rfl) ?_
                simp only [Act.put, List.setIfInBounds_toArray, List.set_cons_zero, List.set_cons_succ]
                unfold wpQuiet
                intro w2 hb
                have HB5 := Lib.hid (HBQ.out.trans (hb.mono (by omega)))
                clear hb he2
                go_wp2_with fail
                go_roundw
                case rel => exact ⟨i + 1, by omega, by go_num, by rw [HNN.out], HB5.out⟩
                case measure => (simp [intOf] <;> omega)
              · have he2 : ∀ W, (Op.equalIn 10000 51 (.agg #[.int .i64 x.kd, .int .i64 x.pl, .string x.wd]) (.agg #[.int .i64 y.kd, .int .i64 y.pl, .string y.wd])).run Try.prog W = .ok true W := fun W => (HES.out W).trans (by rw [hs])
                cases hr : rdyB a.ws (inL l) i
                · have hnn : fdV a.ws (inL l) y (i + 1) = -1 := by unfold fdV; rw [HFN.out, HFP.out, hs, hr]; rfl
                  have HNN := Lib.hid hnn
                  rw [hr] at CR
                  clear hnn
                  refine wp_region_class (fun w' => Below wq.heap.size wq w') 16 (by kernel_rfl) (by kernel_rfl) (Below.refl _ wq).drew ?_
                  simp only [List.take_succ_cons, List.take_zero, List.drop_succ_cons, List.drop_zero]
                  refine quiet_still rfl (.pointer (some ⟨w.heap.size, 1, none⟩)) (fun w _ => by go_simp) ?_
                  simp only [Act.put, List.setIfInBounds_toArray, List.set_cons_zero, List.set_cons_succ]
                  refine quiet_load1 rfl _ _ rfl ⟨w.heap.size, 1, none⟩ rfl (.slice (some ⟨wb, wo, none⟩) a.ws.length uc) (load_ws _ _) (fun _ h => (h.cell (p := ⟨w.heap.size, 1, none⟩) hw0).trans HC0.out) ?_
                  simp only [Act.put, List.setIfInBounds_toArray, List.set_cons_zero, List.set_cons_succ]
                  refine quiet_moveV rfl _ rfl (.int .i64 (i : Int)) rfl ?_
                  simp only [Act.put, List.setIfInBounds_toArray, List.set_cons_zero, List.set_cons_succ]
                  refine quiet_still rfl (.pointer (some ⟨wb, wo + i * 3, none⟩)) (fun w _ => by go_simp) ?_
                  simp only [Act.put, List.setIfInBounds_toArray, List.set_cons_zero, List.set_cons_succ]
                  refine quiet_load_mid rfl _ _ rfl wb (wo + i * 3) rfl [.int .i64 x.kd, .int .i64 x.pl, .string x.wd] _ (fun V h => range_below3 HXR.out hwb h) Try.underlying51 rfl (by kernel_rfl) ?_
                  simp only [Act.put, List.setIfInBounds_toArray, List.set_cons_zero, List.set_cons_succ]
                  refine quiet_still rfl (.pointer (some ⟨w.heap.size + 1, 1, none⟩)) (fun w _ => by go_simp) ?_
                  simp only [Act.put, List.setIfInBounds_toArray, List.set_cons_zero, List.set_cons_succ]
                  refine quiet_load1 rfl _ _ rfl ⟨w.heap.size + 1, 1, none⟩ rfl (.slice (some ⟨vb, vo, none⟩) b.ws.length vc) (load_ws _ _) (fun _ h => (h.cell (p := ⟨w.heap.size + 1, 1, none⟩) hw1).trans HC1.out) ?_
                  simp only [Act.put, List.setIfInBounds_toArray, List.set_cons_zero, List.set_cons_succ]
                  refine quiet_moveV rfl _ rfl (.int .i64 (k : Int)) rfl ?_
                  simp only [Act.put, List.setIfInBounds_toArray, List.set_cons_zero, List.set_cons_succ]
                  refine quiet_still rfl (.pointer (some ⟨vb, vo + k * 3, none⟩)) (fun w _ => by go_simp) ?_
                  simp only [Act.put, List.setIfInBounds_toArray, List.set_cons_zero, List.set_cons_succ]
                  refine quiet_load_mid rfl _ _ rfl vb (vo + k * 3) rfl [.int .i64 y.kd, .int .i64 y.pl, .string y.wd] _ (fun V h => range_below3 HYQ.out hvbq h) Try.underlying51 rfl (by kernel_rfl) ?_
                  simp only [Act.put, List.setIfInBounds_toArray, List.set_cons_zero, List.set_cons_succ]
                  refine quiet_still rfl (.bool true) (fun w _ => by have := he2; go_simp) ?_
                  simp only [Act.put, List.setIfInBounds_toArray, List.set_cons_zero, List.set_cons_succ]
                  refine quiet_moveV rfl _ rfl (.bool true) rfl ?_
                  simp only [Act.put, List.setIfInBounds_toArray, List.set_cons_zero, List.set_cons_succ]
                  refine quietW_load_mid (by kernel_rfl) _ _ rfl w.heap.size 0 rfl [.int .i64 a.pr, .slice (some ⟨wb, wo, none⟩) a.ws.length uc] _ (fun V h => range_of_heap (hb_below h H0Q.out hw0)) Try.underlying24 rfl (by kernel_rfl) ?_
                  simp only [Act.put, List.setIfInBounds_toArray, List.set_cons_zero, List.set_cons_succ]
                  refine quietW_moveV (by kernel_rfl) _ rfl (.slice (some ⟨W0.heap.size, 0, none⟩) a.ws.length a.ws.length) rfl ?_
                  simp only [Act.put, List.setIfInBounds_toArray, List.set_cons_zero, List.set_cons_succ]
                  refine quietW_moveV (by kernel_rfl) _ rfl (.int .i64 (i : Int)) rfl ?_
                  simp only [Act.put, List.setIfInBounds_toArray, List.set_cons_zero, List.set_cons_succ]
                  refine quietW_call (by kernel_rfl) 49 _ _ rfl (enter_of Try.func49 (by decide) (by intro h; cases h)) _ (fun V h => (CR.out V h).mono fun e w' ⟨he, hw⟩ => ⟨he, h.trans (hw.mono h.size)⟩) ?_
                  simp only [Act.put, List.setIfInBounds_toArray, List.set_cons_zero, List.set_cons_succ]
                  unfold wpQuiet
                  intro w2 hb
                  have HB5 := Lib.hid (HBQ.out.trans (hb.mono (by omega)))
                  clear hb he2
                  go_wp2_with fail
                  go_roundw
                  case rel => exact ⟨i + 1, by omega, by go_num, by rw [HNN.out], HB5.out⟩
                  case measure => (simp [intOf] <;> omega)
                · have hnn : fdV a.ws (inL l) y (i + 1) = (i : Int) := by unfold fdV; rw [HFN.out, HFP.out, hs, hr]; rfl
                  have HNN := Lib.hid hnn
                  rw [hr] at CR
                  clear hnn
                  refine wp_region_class (fun w' => Below wq.heap.size wq w') 16 (by kernel_rfl) (by kernel_rfl) (Below.refl _ wq).drew ?_
                  simp only [List.take_succ_cons, List.take_zero, List.drop_succ_cons, List.drop_zero]
                  refine quiet_still rfl (.pointer (some ⟨w.heap.size, 1, none⟩)) (fun w _ => by go_simp) ?_
                  simp only [Act.put, List.setIfInBounds_toArray, List.set_cons_zero, List.set_cons_succ]
                  refine quiet_load1 rfl _ _ rfl ⟨w.heap.size, 1, none⟩ rfl (.slice (some ⟨wb, wo, none⟩) a.ws.length uc) (load_ws _ _) (fun _ h => (h.cell (p := ⟨w.heap.size, 1, none⟩) hw0).trans HC0.out) ?_
                  simp only [Act.put, List.setIfInBounds_toArray, List.set_cons_zero, List.set_cons_succ]
                  refine quiet_moveV rfl _ rfl (.int .i64 (i : Int)) rfl ?_
                  simp only [Act.put, List.setIfInBounds_toArray, List.set_cons_zero, List.set_cons_succ]
                  refine quiet_still rfl (.pointer (some ⟨wb, wo + i * 3, none⟩)) (fun w _ => by go_simp) ?_
                  simp only [Act.put, List.setIfInBounds_toArray, List.set_cons_zero, List.set_cons_succ]
                  refine quiet_load_mid rfl _ _ rfl wb (wo + i * 3) rfl [.int .i64 x.kd, .int .i64 x.pl, .string x.wd] _ (fun V h => range_below3 HXR.out hwb h) Try.underlying51 rfl (by kernel_rfl) ?_
                  simp only [Act.put, List.setIfInBounds_toArray, List.set_cons_zero, List.set_cons_succ]
                  refine quiet_still rfl (.pointer (some ⟨w.heap.size + 1, 1, none⟩)) (fun w _ => by go_simp) ?_
                  simp only [Act.put, List.setIfInBounds_toArray, List.set_cons_zero, List.set_cons_succ]
                  refine quiet_load1 rfl _ _ rfl ⟨w.heap.size + 1, 1, none⟩ rfl (.slice (some ⟨vb, vo, none⟩) b.ws.length vc) (load_ws _ _) (fun _ h => (h.cell (p := ⟨w.heap.size + 1, 1, none⟩) hw1).trans HC1.out) ?_
                  simp only [Act.put, List.setIfInBounds_toArray, List.set_cons_zero, List.set_cons_succ]
                  refine quiet_moveV rfl _ rfl (.int .i64 (k : Int)) rfl ?_
                  simp only [Act.put, List.setIfInBounds_toArray, List.set_cons_zero, List.set_cons_succ]
                  refine quiet_still rfl (.pointer (some ⟨vb, vo + k * 3, none⟩)) (fun w _ => by go_simp) ?_
                  simp only [Act.put, List.setIfInBounds_toArray, List.set_cons_zero, List.set_cons_succ]
                  refine quiet_load_mid rfl _ _ rfl vb (vo + k * 3) rfl [.int .i64 y.kd, .int .i64 y.pl, .string y.wd] _ (fun V h => range_below3 HYQ.out hvbq h) Try.underlying51 rfl (by kernel_rfl) ?_
                  simp only [Act.put, List.setIfInBounds_toArray, List.set_cons_zero, List.set_cons_succ]
                  refine quiet_still rfl (.bool true) (fun w _ => by have := he2; go_simp) ?_
                  simp only [Act.put, List.setIfInBounds_toArray, List.set_cons_zero, List.set_cons_succ]
                  refine quiet_moveV rfl _ rfl (.bool true) rfl ?_
                  simp only [Act.put, List.setIfInBounds_toArray, List.set_cons_zero, List.set_cons_succ]
                  refine quietW_load_mid (by kernel_rfl) _ _ rfl w.heap.size 0 rfl [.int .i64 a.pr, .slice (some ⟨wb, wo, none⟩) a.ws.length uc] _ (fun V h => range_of_heap (hb_below h H0Q.out hw0)) Try.underlying24 rfl (by kernel_rfl) ?_
                  simp only [Act.put, List.setIfInBounds_toArray, List.set_cons_zero, List.set_cons_succ]
                  refine quietW_moveV (by kernel_rfl) _ rfl (.slice (some ⟨W0.heap.size, 0, none⟩) a.ws.length a.ws.length) rfl ?_
                  simp only [Act.put, List.setIfInBounds_toArray, List.set_cons_zero, List.set_cons_succ]
                  refine quietW_moveV (by kernel_rfl) _ rfl (.int .i64 (i : Int)) rfl ?_
                  simp only [Act.put, List.setIfInBounds_toArray, List.set_cons_zero, List.set_cons_succ]
                  refine quietW_call (by kernel_rfl) 49 _ _ rfl (enter_of Try.func49 (by decide) (by intro h; cases h)) _ (fun V h => (CR.out V h).mono fun e w' ⟨he, hw⟩ => ⟨he, h.trans (hw.mono h.size)⟩) ?_
                  simp only [Act.put, List.setIfInBounds_toArray, List.set_cons_zero, List.set_cons_succ]
                  unfold wpQuiet
                  intro w2 hb
                  have HB5 := Lib.hid (HBQ.out.trans (hb.mono (by omega)))
                  clear hb he2
                  go_wp2_with fail
                  go_roundw
                  case rel => exact ⟨i + 1, by omega, by go_num, by rw [HNN.out], HB5.out⟩
                  case measure => (simp [intOf] <;> omega)
            · have j6 : ¬ (i : Int) < (a.ws.length : Int) := by omega
              have e : i = a.ws.length := by omega
              subst e
              have hno : matchTo a.ws b.ws (k + 1) = none := by rw [HNX.out, ← fd_all, HF.out]; rfl
              obtain ⟨rfl, rfl⟩ := M4.out (matchTo_late hno hkl)
              have e : sb = false := HSB.out
              subst e
              have HBF := Lib.hid (HBW.out.trans (HBQ.out.mono (by omega)))
              clear hno hf hv
              go_wp2_with fail
              go_ret2
              exact ⟨_, rfl, HNIL.out _, HBF.out⟩
      · have j1 : ¬ (k : Int) < (b.ws.length : Int) := by omega
        have e : k = b.ws.length := by omega
        subst e
        obtain ⟨rfl, rfl⟩ := M5'.out l HML.out
        have e : sb = true := HSB.out
        subst e
        have HIS := Lib.hid (is_own HOW.out rfl)
        go_wp2_with fail
        go_ret2
        exact ⟨_, rfl, HIS.out, HB1.out.trans (HBR.out.mono (by omega))⟩
end Go.Proofs.Ytcjbjlepgdggpaa
