/- The reference's Reorder. -/
import Derived.Test.YtenfeekchggioaaOR
import Derived.Test.YtenfeekchggioaaON
import Derived.Deep.MidRow
import Derived.Deep.RegionLaw
import Derived.Laws.AppendOwnNone
namespace Go.Proofs.Ytenfeekchggioaa
open Go.RowKit Go.Shelf
set_option linter.unusedSimpArgs false
attribute [local irreducible] wpQuiet
theorem hb_below {W W' : World} {b n : Nat} {o : Option Obj} (hb : Below n W W') (h : W.heap[b]? = o) (hn : b < n) : W'.heap[b]? = o := (hb.block _ hn).trans h
theorem hb_new {W : World} {b : Nat} {vs : Array Value} {T : TypeId} (h : b = W.heap.size) : (W.alloc (.cells vs T)).heap[b]? = some (.cells vs T (0, 0)) := by subst h; exact heap_alloc_new W _
theorem frozen_of_heap {W : World} {b : Nat} {vs : Array Value} {T : TypeId} (h : W.heap[b]? = some (.cells vs T (0, 0))) (j : Nat) : W.frozen? ⟨b, j, none⟩ = false := by
  simp [World.frozen?, h]
theorem heap_set1 {W : World} {b : Nat} {u0 u1 v : Value} {T : TypeId} (h : W.heap[b]? = some (.cells #[u0, u1] T (0, 0))) : (W.setCell ⟨b, 1, none⟩ v).heap[b]? = some (.cells #[u0, v] T (0, 0)) := setCell_cells W b 1 [u0, u1] T v h
theorem step_wk {ops : Array Oper} {o : Oper} {a : Act} {K : Act → World → Prop} {Q : Exit → Act → World → Prop} {E : Prop} {w w0 : World} (B : Nat) (v : Value) (W : List Wk) (x : Wk)
    (hgd : o.guard = none) (s y : Operand) (ho : o.op = .call { callee := .builtin .append, args := #[s, y], argTypes := #[22, 22] }) (hs : a.eval s = v)
    (hown : WO B w v W) (hy : a.eval y = .slice (some ⟨w.heap.size, 0, none⟩) 1 1) (hl : W.length < 100000) (hb : Below B w0 w) (hB : B ≤ w.heap.size)
    (h : ∀ v' w', Hid (WO B w' v' (W ++ [x])) → Hid (Below B w0 w') → K (a.put o.dst v') w') :
    if Region.wanted o (yielded ops a.tmps) = true then Oper.wp Try.prog o a (w.alloc (.cells #[.int .i64 x.kd, .int .i64 x.pl, .string x.wd] 48)) K Q else E := by
  have hw : Region.wanted o (yielded ops a.tmps) = true := by simp [Region.wanted, hgd]
  rw [if_pos hw]
  obtain ⟨i0, hi, hz0, hz1, hz2⟩ := info_parts infoWk3
  refine wp_append_own _ s y 22 ho B 48 i0 (.agg #[.int .i64 0, .int .i64 0, .string ⟨#[]⟩]) 3 32 Try.underlying22 hi hz0 hz1 hz2 rfl (by decide) v _ _ hs (hown.alloc _) ⟨w.heap.size, 0, none⟩ 1 1 (wl x) hy rfl ?_ ?_ (by unfold maxLen; omega) (by omega) (by simp; omega) ?_
  · intro j u hu
    have hj := (List.getElem?_eq_some_iff.1 hu).1
    rw [wl_len] at hj
    rw [Addr.add_mid, Nat.zero_add, World.cell?_alloc_new, ← Array.getElem?_toList]
    exact hu
  · intro u hu
    exact wfl_one [x] u (by simpa [wfl] using hu)
  · intro v' w' hown' hgrow _
    refine h v' w' ?_ (Below.grown (hb.alloc hB _) hgrow (by simp; omega) fun k e => (hown.lt k e).1)
    show WO B w' v' (W ++ [x])
    unfold WO
    rw [wfl_app, List.length_append, List.length_singleton]
    simpa [wfl] using hown'
set_option maxRecDepth 100000 in
set_option maxHeartbeats 16000000 in
theorem refReorder_any (s : Sh) (v : Value) (os : List Int) (dv : Value) (w : World) (hv : SV w v s) (hd : IS w dv os) (hol : os.length ≤ 50000) :
    Calls Try.prog 27 #[v, dv] w fun e w' => ∃ u, e = .returned (.tuple #[u, .int .i64 (reoE s os)]) ∧ SV w' u (reoS s os) ∧ Below w.heap.size w w' := by
  have HV := Lib.hid hv
  have HD := Lib.hid hd
  obtain ⟨u, rfl, hu⟩ := hv
  obtain ⟨sa, sc, rfl, q1, q2, _, hI⟩ := hd
  obtain ⟨ua, uc, rfl, k1, k2, hU⟩ := id hu
  have HI := Lib.hid hI
  have HU := Lib.hid hU
  have CK := Lib.hid (fun W h => refCheck4_any s (.agg #[.int .i64 s.pr, .slice ua s.ws.length uc]) W h)
  have CO := Lib.hid (fun W h1 h2 h3 => refOrder_any s (.agg #[.int .i64 s.pr, .slice ua s.ws.length uc]) os (.slice sa os.length sc) W h1 h2 h3 hol)
  have HRE := Lib.hid (show reoE s os = if chkS s ≠ 0 then chkS s else if refOrdB s.ws os = true then 0 else 4 by unfold reoE; rw [ord_eq])
  have HRS := Lib.hid (show reoS s os = if reoE s os = 0 then ⟨s.pr, reoL s.ws os⟩ else ⟨0, []⟩ from rfl)
  have HSM0 := Lib.hid (@chk_small s)
  have HWD0 := Lib.hid (@chk_words s)
  have HOI0 := Lib.hid (show refOrdB s.ws os = true → _ from fun h => @ordB_in s.pr.toNat s.ws os ((ord_eq _ _ _).trans h))
  generalize reoS s os = rs at *
  generalize reoE s os = re at *
  generalize refOrdB s.ws os = ob at *
  generalize chkS s = z at *
  clear hI hU hu
  go_enter Try.func27, Try.ntmps27
  go_wp2_with fail
  have e0 := heap_alloc2_old w (.cells #[.int .i64 s.pr, .slice ua s.ws.length uc] 24) (.cells #[.int .i64 0, .slice none 0 0] 24)
  have e1 := heap_alloc2_new w (.cells #[.int .i64 s.pr, .slice ua s.ws.length uc] 24) (.cells #[.int .i64 0, .slice none 0 0] 24)
  have eb := (below_alloc w (.cells #[.int .i64 s.pr, .slice ua s.ws.length uc] 24)).alloc (show w.heap.size ≤ (w.alloc (.cells #[.int .i64 s.pr, .slice ua s.ws.length uc] 24)).heap.size by simp) (.cells #[.int .i64 0, .slice none 0 0] 24)
  have ez : ((w.alloc (.cells #[.int .i64 s.pr, .slice ua s.ws.length uc] 24)).alloc (.cells #[.int .i64 0, .slice none 0 0] 24)).heap.size = w.heap.size + 2 := by simp
  generalize (w.alloc (.cells #[.int .i64 s.pr, .slice ua s.ws.length uc] 24)).alloc (.cells #[.int .i64 0, .slice none 0 0] 24) = w0 at *
  refine (CK.out w0 (HV.out.below eb)).mono ?_
  rintro e w1 ⟨rfl, b1⟩
  have H0 := Lib.hid ((b1.block _ (by omega)).trans e0)
  have H1 := Lib.hid ((b1.block _ (by omega)).trans e1)
  have HB1 := Lib.hid (bon eb b1)
  have HZ1 := Lib.hid (show w.heap.size + 2 ≤ w1.heap.size by have := b1.size; omega)
  clear e0 e1 eb ez b1 CK
  have g0 : w1.cell? ⟨w.heap.size, 0, none⟩ = some (.int .i64 s.pr) := cell_of_row w1 _ 0 _ _ _ H0.out
  have g1 : w1.cell? ⟨w.heap.size, 1, none⟩ = some (.slice ua s.ws.length uc) := cell_of_row w1 _ 1 _ _ _ H0.out
  by_cases q : z = 0
  · subst q
    obtain ⟨s1, s2, hsm⟩ := HSM0.out rfl
    have HSM := Lib.hid hsm
    have HWD := Lib.hid (HWD0.out rfl)
    clear hsm HSM0 HWD0
    go_wp2_with fail
    refine (CO.out w1 (HV.out.below HB1.out) (HD.out.below HB1.out) (by first | rfl | trivial)).mono ?_
    rintro e w2 ⟨rfl, b2⟩
    have H0' := Lib.hid ((b2.block _ (by have := HZ1.out; omega)).trans H0.out)
    have H1' := Lib.hid ((b2.block _ (by have := HZ1.out; omega)).trans H1.out)
    have HB2 := Lib.hid (bon HB1.out b2)
    have HZ2 := Lib.hid (show w.heap.size + 2 ≤ w2.heap.size by have := b2.size; have := HZ1.out; omega)
    clear b2 g0 g1 CO H0 H1 HB1 HZ1
    have g0 : w2.cell? ⟨w.heap.size, 0, none⟩ = some (.int .i64 s.pr) := cell_of_row w2 _ 0 _ _ _ H0'.out
    have g1 : w2.cell? ⟨w.heap.size, 1, none⟩ = some (.slice ua s.ws.length uc) := cell_of_row w2 _ 1 _ _ _ H0'.out
    cases ob
    · have e : re = 4 := by rw [HRE.out, if_neg (by simp), if_neg (by decide)]
      have es : rs = ⟨0, []⟩ := by rw [HRS.out, e, if_neg (by decide)]
      subst e
      subst es
      go_wp2_with (refine store_rowP rfl 24 (.tmp 4) (.tmp 19) rfl (w.heap.size + 1) #[.int .i64 0, .slice none 0 0] rfl rfl 24 _ H1'.out (by kernel_rfl) rfl (by kernel_rfl) ?_; intro wf hf hk2 hzf hBf)
      exact bodyPost_ret (results_row_tmp rfl _ _ (w.heap.size + 1) 24 _ (0, 0) _ _ rfl rfl hf Try.underlying24 rfl (by kernel_rfl)) rfl ⟨_, rfl, ⟨_, rfl, ws_nil _⟩, hBf _ _ HB2.out (by omega)⟩
    · have e : re = 0 := by rw [HRE.out, if_neg (by simp), if_pos rfl]
      have es : rs = ⟨s.pr, reoL s.ws os⟩ := by rw [HRS.out, e, if_pos rfl]
      obtain ⟨hol2, hin⟩ := HOI0.out rfl
      have HIN := Lib.hid hin
      have hw4 : s.ws.length ≤ 400 := HSM.out.1
      subst e
      subst es
      have HOL := Lib.hid hol2
      have ho4 : os.length ≤ 400 := by omega
      clear hin hol2
      go_upto_region 7 with fail
      obtain ⟨b, hbe⟩ : ∃ b, b = w2.heap.size := ⟨_, rfl⟩
      rw [← hbe]
      have hX : (w2.alloc (.cells #[.int .i64 s.pr, .slice none 0 0] 24)).heap[b]? = some (.cells #[.int .i64 s.pr, .slice none 0 0] 24 (0, 0)) := hb_new hbe
      have hBB : Below b w2 (w2.alloc (.cells #[.int .i64 s.pr, .slice none 0 0] 24)) := by rw [hbe]; exact below_alloc _ _
      have hSS : b < (w2.alloc (.cells #[.int .i64 s.pr, .slice none 0 0] 24)).heap.size := by rw [hbe]; simp
      have hrb : w.heap.size + 2 ≤ b := by rw [hbe]; exact HZ2.out
      generalize w2.alloc (.cells #[.int .i64 s.pr, .slice none 0 0] 24) = wa at *
      have HXA := Lib.hid hX
      have HBA := Lib.hid hBB
      have HRB := Lib.hid hrb
      clear hbe hX hBB g0 g1
      go_wp2_with fail
      go_loopw [8] (fun i wr => ∃ (k : Nat) (v : Value), k ≤ os.length ∧ i = .int .i64 (k : Int) ∧ WO (b + 1) wr v (reoL s.ws (os.take k)) ∧ wr.heap[b]? = some (.cells #[.int .i64 s.pr, v] 24 (0, 0)) ∧ Below b w2 wr ∧ b < wr.heap.size) (fun i _ => os.length - (intOf i).toNat)
      case atStart => exact ⟨0, _, Nat.zero_le _, rfl, World.ownsRow_nil _ _ _ _, HXA.out, HBA.out, hSS⟩
      case round =>
        obtain ⟨k, v, hk, rfl, hown, hbox, hbw, hsz⟩ := hrel
        rename World => wr
        have HO := Lib.hid hown
        have HX := Lib.hid hbox
        have HB := Lib.hid hbw
        have hlen : (reoL s.ws (os.take k)).length = k := by unfold reoL; rw [List.length_map, List.length_take]; omega
        have HLE := Lib.hid hlen
        have H0W := Lib.hid (hb_below HB.out H0'.out (by omega))
        have HBW := Lib.hid (HB2.out.trans (HB.out.mono (by omega)))
        clear hown hbox hbw hlen
        by_cases hkl : k < os.length
        · obtain ⟨z, hz⟩ : ∃ z, os[k]? = some z := ⟨_, List.getElem?_eq_getElem hkl⟩
          have hzr := HIN.out z (List.mem_of_getElem? hz)
          obtain ⟨i, rfl⟩ : ∃ i : Nat, z = (i : Int) := ⟨z.toNat, by omega⟩
          obtain ⟨bo, off, rfl, hbl, hcz⟩ := HI.out k _ hz
          have cz : wr.cell? ⟨bo, off + k, none⟩ = some (.int .i64 (i : Int)) := (HBW.out.cell (p := ⟨bo, off + k, none⟩) hbl).trans hcz
          have j0 : (0 : Int) ≤ (k : Int) := by omega
          have j1 : (k : Int) < (os.length : Int) := by omega
          have i0 : (0 : Int) ≤ (i : Int) := by omega
          have i1 : (i : Int) < (s.ws.length : Int) := by omega
          have g1 : wr.cell? ⟨w.heap.size, 1, none⟩ = some (.slice ua s.ws.length uc) := cell_of_row wr _ 1 _ _ _ H0W.out
          obtain ⟨x, hx⟩ : ∃ x, s.ws[i]? = some x := ⟨_, List.getElem?_eq_getElem (by omega)⟩
          have HNX := Lib.hid (show reoL s.ws (os.take (k + 1)) = reoL s.ws (os.take k) ++ [x] by unfold reoL wkN; rw [List.take_add_one, hz, List.map_append]; simp [hx])
          obtain ⟨b2, off2, rfl, hb2, hr2, _⟩ := HU.out i x hx
          have HRX := Lib.hid (range_below3 hr2 hb2 HBW.out)
          have r0 : wr.cell? ⟨b2, off2 + i * 3, none⟩ = some (.int .i64 x.kd) := HRX.out 0 _ rfl
          have r1 := HRX.out 1 _ rfl
          have r2 := HRX.out 2 _ rfl
          obtain ⟨a9, c9, hv9⟩ := own_form HO.out
          subst hv9
          have c1 : wr.cell? ⟨b, 1, none⟩ = some (.slice a9 (reoL s.ws (os.take k)).length c9) := cell_of_row wr _ 1 _ _ _ HX.out
          have f1 := frozen_of_heap HX.out 1
          have HBd := Lib.hid HB.out.drew
          have HLT := Lib.hid (show (reoL s.ws (os.take k)).length < 100000 by rw [HLE.out]; omega)
          clear hcz hz hx hr2 hzr
          go_wp2_with fail
          go_region_law (first
            | (refine step_wk (o := ⟨some 40, _, _, _, _, _⟩) (w := wr.drew) (w0 := wr.drew) (b + 1) _ (reoL s.ws (os.take k)) x rfl (.tmp 30) (.tmp 39) rfl (by rfl) HO.out (by rfl) HLT.out (Below.refl _ _) (by simp; omega) ?_; intro v6 w6 O6 B6; obtain ⟨a6, q6, e6⟩ := own_form O6.out; subst e6; rw [List.length_append, List.length_singleton] at O6; have HX6 := Lib.hid (hb_below B6.out HX.out (by omega)); have hz6 := B6.out.size; have hlt6 : b < w6.heap.size := (by simp at hz6; omega); have HB6 := Lib.hid (HBd.out.trans (B6.out.mono (Nat.le_succ b))); have c6 : w6.cell? ⟨b, 1, none⟩ = _ := (cell_of_row w6 _ 1 _ _ _ HX6.out); have f6 := frozen_of_heap HX6.out 1))
          all_goals
            have HX7 := Lib.hid (show (w6.setCell ⟨b, 1, none⟩ (.slice a6 ((reoL s.ws (os.take k)).length + 1) q6)).heap[b]? = _ from heap_set1 HX6.out)
            have HO7 := Lib.hid (show WO (b + 1) (w6.setCell ⟨b, 1, none⟩ (.slice a6 ((reoL s.ws (os.take k)).length + 1) q6)) _ _ from own_keep O6.out (fun j hj => heap_setCell_other _ _ _ _ (by simp only []; omega)))
            have HB7 := Lib.hid (HB6.out.setCell (p := ⟨b, 1, none⟩) (Nat.le_refl _) (.slice a6 ((reoL s.ws (os.take k)).length + 1) q6))
            have hz7 : b < (w6.setCell ⟨b, 1, none⟩ (.slice a6 ((reoL s.ws (os.take k)).length + 1) q6)).heap.size := by simp; omega
            clear HX HO HB HBd c1 f1 HX6 O6 HB6 B6 c6 f6
            go_wp2_with fail
            go_roundw
            case rel => exact ⟨k + 1, _, hkl, by go_num, by rw [HNX.out]; first | exact HO7.out | (rw [List.length_append, List.length_singleton]; exact HO7.out), HX7.out, HB7.out, hz7⟩
            case measure => (simp [intOf] <;> omega)
        · have k1 : ¬ (k : Int) < (os.length : Int) := by omega
          have e : k = os.length := by omega
          subst e
          rw [List.take_length] at HO
          obtain ⟨a9, c9, hv9⟩ := own_form HO.out
          subst hv9
          have HSZ := Lib.hid (show ∀ y ∈ reoL s.ws os, y.wd.size ≤ maxLen from fun y hy => by
            obtain ⟨z, hz, rfl⟩ := List.mem_map.1 hy
            have hzr := HIN.out z hz
            have : wkN s.ws z.toNat ∈ s.ws := by unfold wkN; rw [List.getElem?_eq_getElem (by omega)]; exact List.getElem_mem _
            have := HWD.out _ this
            unfold maxLen
            omega)
          have c0 : wr.cell? ⟨b, 0, none⟩ = some (.int .i64 s.pr) := cell_of_row wr _ 0 _ _ _ HX.out
          have c1 : wr.cell? ⟨b, 1, none⟩ = some (.slice a9 (reoL s.ws os).length c9) := cell_of_row wr _ 1 _ _ _ HX.out
          have H1W := Lib.hid (hb_below HB.out H1'.out (by omega))
          go_wp2_with (refine store_rowP rfl 24 (.tmp 4) (.tmp 42) rfl (w.heap.size + 1) #[.int .i64 s.pr, .slice a9 (reoL s.ws os).length c9] rfl rfl 24 _ H1W.out (by kernel_rfl) rfl (by kernel_rfl) ?_; intro wf hf hk2 hzf hBf)
          have HWF := Lib.hid (show WO (b + 1) wf _ (reoL s.ws os) from own_keep HO.out (fun j hj => hk2 j (by omega)))
          exact bodyPost_ret (results_row_tmp rfl _ _ (w.heap.size + 1) 24 _ (0, 0) _ _ rfl rfl hf Try.underlying24 rfl (by kernel_rfl)) rfl ⟨_, rfl, ⟨_, rfl, ws_own HWF.out HSZ.out⟩, hBf _ _ HBW.out (by omega)⟩
  · have e : re = z := by rw [HRE.out, if_pos q]
    have es : rs = ⟨0, []⟩ := by rw [HRS.out, e, if_neg q]
    subst e
    subst es
    go_wp2_with (refine store_rowP rfl 24 (.tmp 4) (.tmp 13) rfl (w.heap.size + 1) #[.int .i64 0, .slice none 0 0] rfl rfl 24 _ H1.out (by kernel_rfl) rfl (by kernel_rfl) ?_; intro wf hf hk2 hzf hBf)
    exact bodyPost_ret (results_row_tmp rfl _ _ (w.heap.size + 1) 24 _ (0, 0) _ _ rfl rfl hf Try.underlying24 rfl (by kernel_rfl)) rfl ⟨_, rfl, ⟨_, rfl, ws_nil _⟩, hBf _ _ HB1.out (by omega)⟩
end Go.Proofs.Ytenfeekchggioaa
