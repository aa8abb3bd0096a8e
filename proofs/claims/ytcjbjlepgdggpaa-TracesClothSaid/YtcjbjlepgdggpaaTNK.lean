/- histories walked. -/
import Derived.Test.YtcjbjlepgdggpaaTNJ
namespace Go.Proofs.Ytcjbjlepgdggpaa
open Go.RowKit Go.Shelf Go.Lib
set_option maxRecDepth 100000
set_option linter.unusedSimpArgs false
set_option linter.unusedVariables false
attribute [local irreducible] wpQuiet
section
variable {P : Program} {md : Region.Mode} {ops : Array Oper} {Q : Exit → Act → World → Prop} {S : World → Prop} {fuel : Nat} {d : Array Bool} {a : Act} {w : World}
/-- A load and an allocation, in whatever order. -/
theorem held_la {i j : Nat} {oi oj : Oper} {w' : World} (hr : Region.ready md ops d = [i, j]) (hrj : Region.ready md ops (d.setIfInBounds i true) = [j]) (hri : Region.ready md ops (d.setIfInBounds j true) = [i]) (hi : ops[i]? = some oi) (hj : ops[j]? = some oj)
    (hgi : oi.guard = none) (hgj : oj.guard = none) (vi vj : Value) (h1 : (execOp a.eval oi).run P w = .ok (.value vi) w) (h2 : (execOp (a.put oi.dst vi).eval oj).run P w = .ok (.value vj) w')
    (h2' : (execOp a.eval oj).run P w = .ok (.value vj) w') (h1' : (execOp (a.put oj.dst vj).eval oi).run P w' = .ok (.value vi) w') (hp : (a.put oj.dst vj).put oi.dst vi = (a.put oi.dst vi).put oj.dst vj) (hd : (d.setIfInBounds j true).setIfInBounds i true = (d.setIfInBounds i true).setIfInBounds j true) (hS : S w) (hS' : S w')
    (h : wpAnyH P md ops Q S fuel ((d.setIfInBounds i true).setIfInBounds j true) ((a.put oi.dst vi).put oj.dst vj) w') : wpAnyH P md ops Q S (fuel + 2) d a w := by
  refine wpAnyH_all hr (by simp) fun k hk => ?_
  have hk' : k = i ∨ k = j := by simpa using hk
  rcases hk' with rfl | rfl
  · exact op_runX hi hgi vi w h1 ⟨hS, held_runY hrj hj hgj vj w' h2 hS' h⟩
  · exact op_runX hj hgj vj w' h2' ⟨hS', held_runY hri hi hgi vi w' h1' hS' (by rw [hp, hd]; exact h)⟩
end
theorem exec_load {P : Program} {o : Oper} {a : Act} {w : World} {ty : TypeId} {x : Operand} {ad : Addr} {v : Value} (ho : o.op = .load ty x) (hx : a.eval x = .pointer (some ad)) (hl : (Instr.loadAt ty (.pointer (some ad))).run P w = .ok v w) : (execOp a.eval o).run P w = .ok (.value v) w := by
  unfold execOp
  simp only [ho, hx, Sem.run_bind, hl, Result.andThen_ok, Sem.run_pure]
theorem load_met (ad : Addr) (v : Value) (w : World) (h : w.cell? ad = some v) : (Instr.loadAt 95 (.pointer (some ad))).run Try.prog w = .ok v w := by
  simp [Instr.loadAt, Instr.sureAddr, loadVar, go_sem, Try.isAgg95, h]
theorem store_met (ad : Addr) (u : Value) (a : Option Addr) (n c : Nat) (w : World) (h : w.cell? ad = some u) (hf : w.frozen? ad = false) : (storeVar 95 ad (.slice a n c)).run Try.prog w = .ok () (w.setCell ad (.slice a n c)) := by
  simp [storeVar, go_sem, Try.isAgg95, h, hf]
/-- All that a meeting put to a row leaves. -/
theorem ht_app2 {B n go gl a BI nl : Nat} {W0 w w' : World} {vs xs : List Value} {st : HSt} {v v' vl : Value} {r : List Met} {m : Met} (h : HT B w n go gl vs st) (hv : vs[a]? = some v) (hr : st.2[a]? = some r)
    (h2 : w'.ownsRow B 97 2 v' (r.length + 1) (mfl (r ++ [m]))) (h3 : (w.alloc (.cells #[.int .i64 (m.1 : Int), .bool m.2] 97)).grownBy w' v.ownBlock) (h5 : v'.ownBlock = v.ownBlock ∨ v'.ownBlock = some (w.heap.size + 1))
    (hI : w.ownsRow BI 3 1 vl nl xs) (hb : Below B W0 w) (hB : B ≤ w.heap.size) :
    HT B (w'.setCell ⟨go, a, none⟩ v') n go gl (vs.set a v') (st.1, st.2.modify a (· ++ [m])) ∧ (w'.setCell ⟨go, a, none⟩ v').ownsRow BI 3 1 vl nl xs ∧ Below B W0 (w'.setCell ⟨go, a, none⟩ v') ∧ w'.cell? ⟨go, a, none⟩ = some v ∧ w'.frozen? ⟨go, a, none⟩ = false ∧ w.heap.size ≤ (w'.setCell ⟨go, a, none⟩ v').heap.size ∧ w'.ownsRow BI 3 1 vl nl xs := by
  have hro := h.row a v r hv hr
  have tab' : w'.ownsRow B 95 1 (.slice (some ⟨go, 0, none⟩) n n) n vs := (h.tab.alloc _).kept h3 (own_apart h.tab hro (by decide))
  have hI' : w'.ownsRow BI 3 1 vl nl xs := (hI.alloc _).kept h3 (own_apart hI hro (by decide))
  have st' := tab'.stored a v'
  have ha := (List.getElem?_eq_some_iff.1 hv).1
  have hz := h3.size
  simp at hz
  refine ⟨ht_app h hv hr h2 h3 h5, hI'.kept st'.2 (own_apart hI' tab' (by decide)), ?_, by rw [tab'.cellAt a (by rw [← h.vl]; omega)]; exact hv, tab'.frozenAt a, by simp; omega, hI'⟩
  have b1 : Below B W0 w' := Below.grown (hb.alloc hB _) h3 (by simp; omega) fun k e => (hro.lt k e).1
  exact b1.setCell (p := ⟨go, a, none⟩) (tab'.lt go rfl).1 v'
theorem hstep_eq {st : HSt} {p a b : Nat} (ha : st.1[p]? = some a) (hb : st.1[p + 1]? = some b) (z : Int) : hstep st p z = (swN st.1 p, (st.2.modify a (· ++ [(b, decide (0 < z))])).modify b (· ++ [(a, decide (z < 0))])) := by
  unfold hstep
  rw [atL_get ha, atL_get hb]
/-- What histories leaves. -/
def HisPost (w : World) (n : Nat) (st : HSt) (e : Ending) (w' : World) : Prop := ∃ B go gl vs, e = .returned (.slice (some ⟨go, 0, none⟩) n n) ∧ HT B w' n go gl vs st ∧ Below w.heap.size w w'
set_option maxHeartbeats 16000000 in
theorem histories_any (s : Sh) (ua : Option Addr) (uc : Nat) (w : World) (hu : WS w (.slice ua s.ws.length uc) s.ws) (hc : chkS s = 0) :
    Calls Try.prog 34 #[.agg #[.int .i64 s.pr, .slice ua s.ws.length uc]] w (HisPost w (2 * s.pr.toNat) (histS crWd (2 * s.pr.toNat) s.ws)) := by
  have HU := Lib.hid hu
  obtain ⟨c1, c2, c3, c4⟩ := chkS_ok hc
  have HF := Lib.hid (chk_fits hc)
  have HWD := Lib.hid (chk_words hc)
  have HSP := Lib.hid (show ∀ x ∈ s.ws, stV x.wd = 0 from fun x hx => by have := (c4 x hx).2.2; unfold speltW at this; simpa using this)
  obtain ⟨P, hP⟩ : ∃ P : Nat, s.pr = (P : Int) := ⟨s.pr.toNat, by omega⟩
  rw [hP] at HF ⊢
  rw [Int.toNat_natCast]
  have p1 : 2 ≤ P := by omega
  have p2 : P ≤ 24 := by omega
  obtain ⟨n, hn⟩ : ∃ n : Nat, n = 2 * P := ⟨_, rfl⟩
  rw [← hn]
  have hnP : (n : Int) = 2 * (P : Int) := by omega
  clear hu hP c1 c2 c4
  go_enter Try.func34, Try.ntmps34
  go_wp2_with fail
  have B0 := below_alloc w (.cells #[.int .i64 (P : Int), .slice ua s.ws.length uc] 24)
  have i0 := heap_alloc_new w (.cells #[.int .i64 (P : Int), .slice ua s.ws.length uc] 24)
  have hz0 : w.heap.size < (w.alloc (.cells #[.int .i64 (P : Int), .slice ua s.ws.length uc] 24)).heap.size := by simp
  generalize w.alloc (.cells #[.int .i64 (P : Int), .slice ua s.ws.length uc] 24) = W0 at *
  have HB0 := Lib.hid B0
  have H0 := Lib.hid i0
  have c0 : W0.cell? ⟨w.heap.size, 0, none⟩ = some (.int .i64 (P : Int)) := cell_of_row W0 _ 0 _ _ _ H0.out
  clear B0 i0
  have k1 := mk_mets n (by omega) W0
  rw [hnP] at k1
  have b1 := below_alloc W0 (.cells (madeCells #[.slice none 0 0] n) 95)
  have o1 : (W0.alloc (.cells (madeCells #[.slice none 0 0] n) 95)).ownsRow W0.heap.size 95 1 (.slice (some ⟨W0.heap.size, 0, none⟩) n n) n (List.replicate n (.slice none 0 0)) := by
    rw [← made_mets]
    exact World.ownsRow_lit W0 _ n (Nat.le_refl _) (by unfold maxLen; omega) (by rw [size_madeCells]; omega)
  have hz1 : W0.heap.size < (W0.alloc (.cells (madeCells #[.slice none 0 0] n) 95)).heap.size := by simp
  generalize W0.alloc (.cells (madeCells #[.slice none 0 0] n) 95) = W1 at *
  have k2 := mk_intsN n (by omega) W1
  rw [hnP] at k2
  have b2 := below_alloc W1 (.cells (madeCells #[.int .i64 0] n) 3)
  have o2 := no_made n W0.heap.size (by omega) W1 (by omega)
  have hz2 : W1.heap.size < (W1.alloc (.cells (madeCells #[.int .i64 0] n) 3)).heap.size := by simp
  generalize W1.alloc (.cells (madeCells #[.int .i64 0] n) 3) = W2 at *
  have HO1 := Lib.hid (own_below o1 b2)
  have HO2 := Lib.hid o2
  have HB2 := Lib.hid (bon b1 b2)
  have c0' : W1.cell? ⟨w.heap.size, 0, none⟩ = some (.int .i64 (P : Int)) := (b1.cell (p := ⟨w.heap.size, 0, none⟩) (by simp; omega)).trans c0
  clear o1 o2 b1 b2
  have HNP := Lib.hid hnP
  have HN := Lib.hid hn
  clear hnP hn
  have n48 : n ≤ 48 := by have := HN.out; omega
  go_wp2_with fail
  rw [k1]
  simp only [Result.andThen_ok, Oper.upon]
  go_wp2_with fail
  clear k1 k2 c0 c0'
  go_loopw [5] (fun iv wr => ∃ i : Nat, i ≤ n ∧ iv = .int .i64 (i : Int) ∧ NO W0.heap.size wr W1.heap.size n (fun j => if j < i then j else 0) ∧ wr.ownsRow W0.heap.size 95 1 (.slice (some ⟨W0.heap.size, 0, none⟩) n n) n (List.replicate n (.slice none 0 0)) ∧ Below W0.heap.size W0 wr) (fun iv _ => n - (intOf iv).toNat)
  case atStart => exact ⟨0, Nat.zero_le _, rfl, by simpa using HO2.out, HO1.out, HB2.out⟩
  case round =>
    obtain ⟨i, hi, rfl, hno, hta, hbr⟩ := hrel
    rename World => wr
    clear HO2 HO1 HB2
    have HNO := Lib.hid hno
    have HTA := Lib.hid hta
    have HBR := Lib.hid hbr
    clear hno hta hbr
    by_cases hin : i < n
    · have j0 : (0 : Int) ≤ (i : Int) := by omega
      have j1 : (i : Int) < (n : Int) := by omega
      have d0 := HNO.out.cell (j := i) hin
      rw [if_neg (by omega)] at d0
      have f0 := HNO.out.frozen i
      have HN2 := Lib.hid (show NO W0.heap.size (wr.setCell ⟨W1.heap.size, i, none⟩ (.int .i64 (i : Int))) W1.heap.size n (fun j => if j < i + 1 then j else 0) by
        have h := HNO.out.set i i
        have e : updN (fun j => if j < i then j else 0) i i = fun j => if j < i + 1 then j else 0 := by
          funext j
          unfold updN
          by_cases c : j = i
          · subst c; simp
          · rw [if_neg c]
            show (if j < i then j else 0) = _
            by_cases d : j < i
            · rw [if_pos d, if_pos (by omega)]
            · rw [if_neg d, if_neg (by omega)]
        rw [e] at h
        exact h)
      have HT2 := Lib.hid (show (wr.setCell ⟨W1.heap.size, i, none⟩ (.int .i64 (i : Int))).ownsRow W0.heap.size 95 1 (.slice (some ⟨W0.heap.size, 0, none⟩) n n) n (List.replicate n (.slice none 0 0)) from
        HTA.out.kept (by have h := HNO.out; unfold NO at h; exact (h.stored i (.int .i64 (i : Int))).2) (.inr (by simp [Value.ownBlock]; omega)))
      have HB3 := Lib.hid (HBR.out.setCell (p := ⟨W1.heap.size, i, none⟩) (by simp; omega) (.int .i64 (i : Int)))
      go_wp2_with fail
      go_roundw
      case rel => exact ⟨i + 1, by omega, by go_num, HN2.out, HT2.out, HB3.out⟩
      case measure => (simp [intOf] <;> omega)
    · have j1 : ¬ (i : Int) < (n : Int) := by omega
      have HHT := Lib.hid (show HT W0.heap.size wr n W0.heap.size W1.heap.size (List.replicate n (.slice none 0 0)) (hist0 n) from ht_zero HTA.out (by
        have h := HNO.out
        have e : ∀ j, j < n → (if j < i then j else 0) = j := fun j hj => if_pos (by omega)
        unfold NO at h ⊢
        rw [show niC n (fun j => j) = niC n (fun j => if j < i then j else 0) by unfold niC; apply List.map_congr_left; intro j hj; show Value.int .i64 (j : Int) = Value.int .i64 ((if j < i then j else 0 : Nat) : Int); rw [e j (List.mem_range.1 hj)]]
        exact h))
      clear HNO HTA
      go_upto_region 8 with fail
      go_loopw [6, 7, 8, 9, 10, 11, 12, 13] (fun kv _ _ _ _ _ _ _ wq => ∃ (k : Nat) (vs : List Value), k ≤ s.ws.length ∧ kv = .int .i64 (k : Int) ∧ HT W0.heap.size wq n W0.heap.size W1.heap.size vs ((s.ws.take k).foldl (hwork crWd) (hist0 n)) ∧ Below W0.heap.size W0 wq) (fun kv _ _ _ _ _ _ _ _ => s.ws.length - (intOf kv).toNat)
      case atStart => exact ⟨0, _, Nat.zero_le _, rfl, HHT.out, HBR.out⟩
      case round =>
        obtain ⟨k, vs, hk, rfl, hht, hbq⟩ := hrel
        rename World => wq
        have HQ := Lib.hid hht
        have hglq : W1.heap.size < wq.heap.size := (hht.lin.lt _ rfl).2
        have HBQ := Lib.hid hbq
        have hzq := hbq.size
        clear hht hbq
        have d1 : wq.cell? ⟨w.heap.size, 1, none⟩ = some (.slice ua s.ws.length uc) := cell_of_row wq _ 1 _ _ _ (hb_below HBQ.out H0.out (by omega))
        by_cases hkl : k < s.ws.length
        · have j0 : (0 : Int) ≤ (k : Int) := by omega
          have j1 : (k : Int) < (s.ws.length : Int) := by omega
          obtain ⟨x, hx⟩ : ∃ x, s.ws[k]? = some x := ⟨_, List.getElem?_eq_getElem hkl⟩
          have hbw : Below w.heap.size w wq := bon HB0.out HBQ.out
          obtain ⟨ub, uo, rfl, hub, hr0⟩ := ws_get HU.out hx
          have hr := range_below3 hr0 hub hbw
          have mx := List.mem_of_getElem? hx
          have hfx := HF.out x mx
          obtain ⟨q, hq⟩ : ∃ q : Nat, x.pl = (q : Int) := ⟨x.pl.toNat, by omega⟩
          have k2 := hr 2 _ rfl
          have kp := hr0 1 _ rfl
          rw [hq] at kp
          have HKP := Lib.hid kp
          have HQQ := Lib.hid hq
          have hq22 : q + 2 ≤ P := by omega
          have hwd16 := HWD.out x mx
          have CC := Lib.hid (fun V => refCrossings3_any x.wd (HSP.out x mx) V)
          have HNX := Lib.hid (show (s.ws.take (k + 1)).foldl (hwork crWd) (hist0 n) = hrun (2 * q) (crWd x.wd) ((s.ws.take k).foldl (hwork crWd) (hist0 n)) by
            rw [List.take_add_one, hx]
            simp only [Option.toList_some]
            rw [List.foldl_append]
            simp only [List.foldl_cons, List.foldl_nil]
            unfold hwork
            rw [hq, Int.toNat_natCast])
          have HRB := Lib.hid (show RB ((s.ws.take k).foldl (hwork crWd) (hist0 n)) 26000 from fun a r hr => by
            have h := fold_rb (s.ws.take k) (hist0 n) 0 (fun y hy => HWD.out y (List.mem_of_mem_take hy)) (hist0_rb n) a r hr
            rw [List.length_take] at h
            omega)
          have HL32 := Lib.hid (crWd_len hwd16)
          have HOK := Lib.hid (show okZ (crWd x.wd) from crW_ok _)
          have HPM := Lib.hid (show ((s.ws.take k).foldl (hwork crWd) (hist0 n)).1.Perm (List.range n) from (fold_ok crWd (s.ws.take k) (hist0 n)).1)
          generalize hS0 : (s.ws.take k).foldl (hwork crWd) (hist0 n) = S0 at *
          clear hr hr0 hx mx hfx hq kp hbw hS0
          go_wp2_with fail
          refine (CC.out wq).mono ?_
          rintro e w3 ⟨lv, rfl, hil, b3⟩
          rw [show crW x.wd.data.toList = crWd x.wd from rfl] at hil
          generalize hzs : crWd x.wd = zs at *
          have HIL := Lib.hid hil
          obtain ⟨la, lc, rfl⟩ := own_form hil
          have HQ3 := Lib.hid (HQ.out.below b3 (Nat.le_refl _))
          have HB3 := Lib.hid (HBQ.out.trans (b3.mono hzq))
          have hz3 := b3.size
          clear hil b3 d1 k2 CC hzs
          go_upto_region 12 with fail
          go_loopw [9, 10, 11, 12, 13] (fun jv _ _ _ _ wv => ∃ (j : Nat) (vs : List Value), j ≤ zs.length ∧ jv = .int .i64 (j : Int) ∧ HT W0.heap.size wv n W0.heap.size W1.heap.size vs (hrun (2 * q) (zs.take j) S0) ∧ Below W0.heap.size W0 wv ∧ wv.ownsRow wq.heap.size 3 1 (.slice la zs.length lc) zs.length (zs.map (Value.int .i64))) (fun jv _ _ _ _ _ => zs.length - (intOf jv).toNat)
          case atStart => exact ⟨0, vs, Nat.zero_le _, rfl, HQ3.out, HB3.out, HIL.out⟩
          case round =>
            obtain ⟨j, vs, hj, rfl, hht, hbv, hisv⟩ := hrel
            rename World => wv
            have HV := Lib.hid hht
            have HBV := Lib.hid hbv
            have HIV := Lib.hid hisv
            have hzv := hbv.size
            clear hht hbv hisv HQ3 HB3 HIL
            by_cases hjl : j < zs.length
            · have i0 : (0 : Int) ≤ (j : Int) := by omega
              have i1 : (j : Int) < (zs.length : Int) := by omega
              obtain ⟨z, hz⟩ : ∃ z, zs[j]? = some z := ⟨_, List.getElem?_eq_getElem hjl⟩
              have hzo := HOK.out z (List.mem_of_getElem? hz)
              obtain ⟨m, hm⟩ : ∃ m : Nat, m = z.natAbs := ⟨_, rfl⟩
              obtain ⟨pp, hpp⟩ : ∃ pp : Nat, pp = 2 * q + m - 1 := ⟨_, rfl⟩
              have HZM := Lib.hid (show m = z.natAbs from hm)
              have HPP := Lib.hid hpp
              have HNX2 := Lib.hid (show hrun (2 * q) (zs.take (j + 1)) S0 = hstep (hrun (2 * q) (zs.take j) S0) pp z by
                rw [List.take_add_one, hz]
                simp only [Option.toList_some]
                rw [hrun_snoc, hpp, hm])
              have hRB := hrun_rb (2 * q) (zs.take j) S0 26000 HRB.out
              have HRBv := Lib.hid (show RB (hrun (2 * q) (zs.take j) S0) 30000 from fun a r hr => by
                have h := hRB a r hr
                have := HL32.out
                rw [List.length_take] at h
                omega)
              have ppn : pp + 1 < n := by have := HN.out; omega
              have hm3 : 1 ≤ m ∧ m ≤ 3 := by omega
              have hz4 : -3 ≤ z ∧ z ≤ 3 := by omega
              have HS1P := Lib.hid ((hrun_ok (2 * q) (zs.take j) S0).1)
              generalize hS1 : hrun (2 * q) (zs.take j) S0 = S1 at *
              clear hS1 hRB hpp hm
              obtain ⟨ta, hta⟩ : ∃ a, S1.1[pp]? = some a := ⟨_, List.getElem?_eq_getElem (by rw [HV.out.ll]; omega)⟩
              obtain ⟨tb, htb⟩ : ∃ b, S1.1[pp + 1]? = some b := ⟨_, List.getElem?_eq_getElem (by rw [HV.out.ll]; omega)⟩
              have hta' : ta < n := List.mem_range.1 ((HPM.out.mem_iff).1 ((HS1P.out.mem_iff).1 (List.mem_of_getElem? hta)))
              have htb' : tb < n := List.mem_range.1 ((HPM.out.mem_iff).1 ((HS1P.out.mem_iff).1 (List.mem_of_getElem? htb)))
              have hne : ta ≠ tb := fun e => by
                have hnd := ((HS1P.out.trans HPM.out).nodup_iff).2 List.nodup_range
                have h1 := (List.getElem?_eq_some_iff.1 hta).1
                have h2 := (List.getElem?_eq_some_iff.1 htb).1
                have h3 := atL_ne hnd h1 h2 (by omega)
                rw [atL_get hta, atL_get htb] at h3
                exact h3 e
              obtain ⟨va, hva⟩ : ∃ v, vs[ta]? = some v := ⟨_, List.getElem?_eq_getElem (by rw [HV.out.vl]; exact hta')⟩
              obtain ⟨ra, hra⟩ : ∃ r, S1.2[ta]? = some r := ⟨_, List.getElem?_eq_getElem (by rw [HV.out.ol]; exact hta')⟩
              obtain ⟨vb, hvb⟩ : ∃ v, vs[tb]? = some v := ⟨_, List.getElem?_eq_getElem (by rw [HV.out.vl]; exact htb')⟩
              obtain ⟨rb, hrb⟩ : ∃ r, S1.2[tb]? = some r := ⟨_, List.getElem?_eq_getElem (by rw [HV.out.ol]; exact htb')⟩
              have hrla := HRBv.out ta ra hra
              have hrlb := HRBv.out tb rb hrb
              have HTA := Lib.hid hta
              have HZJ := Lib.hid hz
              have HTB := Lib.hid htb
              have HVA := Lib.hid hva
              have HRA := Lib.hid hra
              have HVB := Lib.hid hvb
              have HRB2 := Lib.hid hrb
              obtain ⟨lb, rfl, hlb⟩ : ∃ lb, la = some ⟨lb, 0, none⟩ ∧ wq.heap.size ≤ lb := by
                rcases HIV.out.2 with ⟨e, _⟩ | ⟨g', cap, cur, e, hg', _⟩
                · injection e with e1 e2 e3; omega
                · injection e with e1 e2 e3; exact ⟨g', e1, hg'⟩
              have l0 : wv.cell? ⟨lb, j, none⟩ = some (.int .i64 z) := by rw [HIV.out.cellAt j (by omega), List.getElem?_map, hz]; rfl
              have hlv : lb < wv.heap.size := (HIV.out.lt lb rfl).2
              have HBWV := Lib.hid (bon HB0.out HBV.out)
              have d1 : wv.cell? ⟨w.heap.size, 1, none⟩ = some (.slice (some ⟨ub, uo, none⟩) s.ws.length uc) := cell_of_row wv _ 1 _ _ _ (hb_below HBV.out H0.out (by omega))
              have dp : wv.cell? ⟨ub, uo + k * 3 + 1, none⟩ = some (.int .i64 (q : Int)) := (HBWV.out.cell (p := ⟨ub, uo + k * 3 + 1, none⟩) hub).trans HKP.out
              have g0 : wv.cell? ⟨W1.heap.size, pp, none⟩ = some (.int .i64 (ta : Int)) := by rw [HV.out.lin.cellAt pp (by omega)]; unfold lnC; rw [List.getElem?_map, hta]; rfl
              have g1 : wv.cell? ⟨W1.heap.size, pp + 1, none⟩ = some (.int .i64 (tb : Int)) := by rw [HV.out.lin.cellAt (pp + 1) (by omega)]; unfold lnC; rw [List.getElem?_map, htb]; rfl
              have hglv : W1.heap.size < wv.heap.size := (HV.out.lin.lt _ rfl).2
              have z1 : IntKind.i64.wrap (-z) = -z := IntWalk.i64_in _ (by omega)
              have z2 : (if z < -z then -z else z) = (m : Int) := by have := HZM.out; split <;> omega
              have HZ1 := Lib.hid z1
              have HZ2 := Lib.hid z2
              clear z1 z2 hta htb hva hra hvb hrb hz
              go_upto_region 14 with fail
              have HVwv := Lib.hid HV.out
              have HIwv := Lib.hid HIV.out
              have HBwv := Lib.hid HBV.out
              have hzwv := hzv
              have HCJ := Lib.hid (show ∀ V : World, V.ownsRow wq.heap.size 3 1 (.slice (some ⟨lb, 0, none⟩) zs.length lc) zs.length (zs.map (Value.int .i64)) → V.cell? ⟨lb, j, none⟩ = some (.int .i64 z) from fun V h => by rw [h.cellAt j (by omega), List.getElem?_map, HZJ.out]; rfl)
              have HP1 := Lib.hid (show IntKind.i64.wrap ((pp : Int) + 1) = (pp : Int) + 1 from IntWalk.i64_in _ (by omega))
              refine wp_region_class (fun w' => Below wv.heap.size wv w') 9 (by kernel_rfl) (by kernel_rfl) (Below.refl _ wv).drew ?_
              simp only [List.take_succ_cons, List.take_zero, List.drop_succ_cons, List.drop_zero]
              refine quiet_moveV rfl _ rfl (.slice (some ⟨lb, 0, none⟩) zs.length lc) rfl ?_
              simp only [Act.put, List.setIfInBounds_toArray, List.set_cons_zero, List.set_cons_succ]
              refine quiet_moveV rfl _ rfl (.int .i64 (j : Int)) rfl ?_
              simp only [Act.put, List.setIfInBounds_toArray, List.set_cons_zero, List.set_cons_succ]
              refine quiet_still rfl (.pointer (some ⟨lb, j, none⟩)) (fun w _ => by go_simp; first | done | exact fun h => absurd h (by omega)) ?_
              simp only [Act.put, List.setIfInBounds_toArray, List.set_cons_zero, List.set_cons_succ]
              refine quiet_load1 rfl _ _ rfl ⟨lb, j, none⟩ rfl (.int .i64 z) (load_int _ _) (fun _ h => (h.cell (p := ⟨lb, j, none⟩) hlv).trans l0) ?_
              simp only [Act.put, List.setIfInBounds_toArray, List.set_cons_zero, List.set_cons_succ]
              refine quiet_moveV rfl _ rfl (.slice (some ⟨lb, 0, none⟩) zs.length lc) rfl ?_
              simp only [Act.put, List.setIfInBounds_toArray, List.set_cons_zero, List.set_cons_succ]
              refine quiet_moveV rfl _ rfl (.int .i64 (j : Int)) rfl ?_
              simp only [Act.put, List.setIfInBounds_toArray, List.set_cons_zero, List.set_cons_succ]
              refine quiet_still rfl (.pointer (some ⟨lb, j, none⟩)) (fun w _ => by go_simp; first | done | exact fun h => absurd h (by omega)) ?_
              simp only [Act.put, List.setIfInBounds_toArray, List.set_cons_zero, List.set_cons_succ]
              refine quiet_load1 rfl _ _ rfl ⟨lb, j, none⟩ rfl (.int .i64 z) (load_int _ _) (fun _ h => (h.cell (p := ⟨lb, j, none⟩) hlv).trans l0) ?_
              simp only [Act.put, List.setIfInBounds_toArray, List.set_cons_zero, List.set_cons_succ]
              refine quiet_still rfl (.int .i64 (-z)) (fun w _ => by have := HZ1.out; go_simp) ?_
              simp only [Act.put, List.setIfInBounds_toArray, List.set_cons_zero, List.set_cons_succ]
              unfold wpQuiet
              intro w4 hb4
              have HVw4 := Lib.hid (HVwv.out.below hb4 (Nat.le_refl _))
              have HIw4 := Lib.hid (own_below HIwv.out hb4)
              have HBw4 := Lib.hid (HBwv.out.trans (hb4.mono hzwv))
              have hzw4 : W0.heap.size ≤ w4.heap.size := by have := hb4.size; omega
              clear hb4 l0 hlv g0 g1 d1 dp hglv HVwv HIwv HBwv HV HIV HBV
              have l0 : w4.cell? ⟨lb, j, none⟩ = some (.int .i64 z) := by rw [HIw4.out.cellAt j (by omega), List.getElem?_map, HZJ.out]; rfl
              have hlv : lb < w4.heap.size := (HIw4.out.lt lb rfl).2
              have HBW4 := Lib.hid (bon HB0.out HBw4.out)
              have d1 : w4.cell? ⟨w.heap.size, 1, none⟩ = some (.slice (some ⟨ub, uo, none⟩) s.ws.length uc) := cell_of_row w4 _ 1 _ _ _ (hb_below HBw4.out H0.out (by omega))
              have dp : w4.cell? ⟨ub, uo + k * 3 + 1, none⟩ = some (.int .i64 (q : Int)) := (HBW4.out.cell (p := ⟨ub, uo + k * 3 + 1, none⟩) hub).trans HKP.out
              have g0 : w4.cell? ⟨W1.heap.size, pp, none⟩ = some (.int .i64 (ta : Int)) := by rw [HVw4.out.lin.cellAt pp (by omega)]; unfold lnC; rw [List.getElem?_map, HTA.out]; rfl
              have g1 : w4.cell? ⟨W1.heap.size, pp + 1, none⟩ = some (.int .i64 (tb : Int)) := by rw [HVw4.out.lin.cellAt (pp + 1) (by omega)]; unfold lnC; rw [List.getElem?_map, HTB.out]; rfl
              have hglv : W1.heap.size < w4.heap.size := (HVw4.out.lin.lt _ rfl).2
              have z1 := HZ1.out
              have z2 := HZ2.out
              have z3 : 2 * (q : Int) + (m : Int) - 1 = (pp : Int) := by have := HPP.out; omega
              go_upto_region 16 with fail
              refine wp_region_class (fun w' => Below w4.heap.size w4 w') 10 (by kernel_rfl) (by kernel_rfl) (Below.refl _ w4).drew ?_
              simp only [List.take_succ_cons, List.take_zero, List.drop_succ_cons, List.drop_zero]
              refine quiet_moveV rfl _ rfl (.slice (some ⟨W1.heap.size, 0, none⟩) n n) rfl ?_
              simp only [Act.put, List.setIfInBounds_toArray, List.set_cons_zero, List.set_cons_succ]
              refine quiet_moveV rfl _ rfl (.int .i64 (pp : Int)) rfl ?_
              simp only [Act.put, List.setIfInBounds_toArray, List.set_cons_zero, List.set_cons_succ]
              refine quiet_still rfl (.pointer (some ⟨W1.heap.size, pp, none⟩)) (fun w _ => by go_simp; first | done | exact fun h => absurd h (by omega)) ?_
              simp only [Act.put, List.setIfInBounds_toArray, List.set_cons_zero, List.set_cons_succ]
              refine quiet_load1 rfl _ _ rfl ⟨W1.heap.size, pp, none⟩ rfl (.int .i64 (ta : Int)) (load_int _ _) (fun _ h => (h.cell (p := ⟨W1.heap.size, pp, none⟩) hglv).trans g0) ?_
              simp only [Act.put, List.setIfInBounds_toArray, List.set_cons_zero, List.set_cons_succ]
              refine quiet_moveV rfl _ rfl (.slice (some ⟨W1.heap.size, 0, none⟩) n n) rfl ?_
              simp only [Act.put, List.setIfInBounds_toArray, List.set_cons_zero, List.set_cons_succ]
              refine quiet_moveV rfl _ rfl (.int .i64 (pp : Int)) rfl ?_
              simp only [Act.put, List.setIfInBounds_toArray, List.set_cons_zero, List.set_cons_succ]
              refine quiet_still rfl (.int .i64 ((pp + 1 : Nat) : Int)) (fun w _ => by have := HP1.out; go_simp) ?_
              simp only [Act.put, List.setIfInBounds_toArray, List.set_cons_zero, List.set_cons_succ]
              refine quiet_still rfl (.pointer (some ⟨W1.heap.size, pp + 1, none⟩)) (fun w _ => by go_simp; first | done | exact fun h => absurd h (by omega)) ?_
              simp only [Act.put, List.setIfInBounds_toArray, List.set_cons_zero, List.set_cons_succ]
              refine quiet_load1 rfl _ _ rfl ⟨W1.heap.size, pp + 1, none⟩ rfl (.int .i64 (tb : Int)) (load_int _ _) (fun _ h => (h.cell (p := ⟨W1.heap.size, pp + 1, none⟩) hglv).trans g1) ?_
              simp only [Act.put, List.setIfInBounds_toArray, List.set_cons_zero, List.set_cons_succ]
              refine quiet_still rfl (.int .i64 (ta : Int)) (fun w _ => by go_simp) ?_
              simp only [Act.put, List.setIfInBounds_toArray, List.set_cons_zero, List.set_cons_succ]
              unfold wpQuiet
              intro w5 hb5
              have HVw5 := Lib.hid (HVw4.out.below hb5 (Nat.le_refl _))
              have HIw5 := Lib.hid (own_below HIw4.out hb5)
              have HBw5 := Lib.hid (HBw4.out.trans (hb5.mono hzw4))
              have hzw5 : W0.heap.size ≤ w5.heap.size := by have := hb5.size; omega
              clear hb5 l0 hlv g0 g1 d1 dp hglv HVw4 HIw4 z1 z2 z3
              have l0 : w5.cell? ⟨lb, j, none⟩ = some (.int .i64 z) := by rw [HIw5.out.cellAt j (by omega), List.getElem?_map, HZJ.out]; rfl
              have hlv : lb < w5.heap.size := (HIw5.out.lt lb rfl).2
              go_upto_region 17 with fail
              have BD : Below w5.heap.size w5 ({ w5 with drawn := w5.drawn + 1 } : World) := (Below.refl _ w5).drew
              have HVD := Lib.hid (HVw5.out.below BD (Nat.le_refl _))
              have HID := Lib.hid (own_below HIw5.out BD)
              have HBD := Lib.hid (HBw5.out.trans (BD.mono hzw5))
              have hzD : W0.heap.size ≤ ({ w5 with drawn := w5.drawn + 1 } : World).heap.size := hzw5
              clear BD
              refine wp_region_held (S := fun V => V.cell? ⟨lb, j, none⟩ = some (.int .i64 z)) (by kernel_rfl) ?_
              generalize ({ w5 with drawn := w5.drawn + 1 } : World) = wD at *
              have SD : wD.cell? ⟨lb, j, none⟩ = some (.int .i64 z) := HCJ.out _ HID.out
              refine held_takeX (i := 0) rfl (by kernel_rfl) (by kernel_rfl) (by kernel_rfl) (.slice (some ⟨W0.heap.size, 0, none⟩) n n) (fun _ _ _ h => h) SD rfl (fun w _ => by go_simp) ?_
              simp only [Act.put, List.getElem_toArray, List.getElem_cons_succ, List.getElem_cons_zero, List.setIfInBounds_toArray, List.set_cons_zero, List.set_cons_succ]
              refine held_takeX (i := 1) rfl (by kernel_rfl) (by kernel_rfl) (by kernel_rfl) (.int .i64 (ta : Int)) (fun _ _ _ h => h) SD rfl (fun w _ => by go_simp) ?_
              simp only [Act.put, List.getElem_toArray, List.getElem_cons_succ, List.getElem_cons_zero, List.setIfInBounds_toArray, List.set_cons_zero, List.set_cons_succ]
              refine held_takeX (i := 2) rfl (by kernel_rfl) (by kernel_rfl) (by kernel_rfl) (.slice (some ⟨W0.heap.size, 0, none⟩) n n) (fun _ _ _ h => h) SD rfl (fun w _ => by go_simp) ?_
              simp only [Act.put, List.getElem_toArray, List.getElem_cons_succ, List.getElem_cons_zero, List.setIfInBounds_toArray, List.set_cons_zero, List.set_cons_succ]
              refine held_takeX (i := 3) rfl (by kernel_rfl) (by kernel_rfl) (by kernel_rfl) (.int .i64 (ta : Int)) (fun _ _ _ h => h) SD rfl (fun w _ => by go_simp) ?_
              simp only [Act.put, List.getElem_toArray, List.getElem_cons_succ, List.getElem_cons_zero, List.setIfInBounds_toArray, List.set_cons_zero, List.set_cons_succ]
              refine held_takeX (i := 4) rfl (by kernel_rfl) (by kernel_rfl) (by kernel_rfl) (.pointer (some ⟨W0.heap.size, ta, none⟩)) (fun _ _ _ h => h) SD rfl (fun w _ => by go_simp; first | done | exact fun h => absurd h (by omega)) ?_
              simp only [Act.put, List.getElem_toArray, List.getElem_cons_succ, List.getElem_cons_zero, List.setIfInBounds_toArray, List.set_cons_zero, List.set_cons_succ]
              refine held_takeX (i := 6) rfl (by kernel_rfl) (by kernel_rfl) (by kernel_rfl) (.int .i64 (tb : Int)) (fun _ _ _ h => h) SD rfl (fun w _ => by go_simp) ?_
              simp only [Act.put, List.getElem_toArray, List.getElem_cons_succ, List.getElem_cons_zero, List.setIfInBounds_toArray, List.set_cons_zero, List.set_cons_succ]
              refine held_takeX (i := 7) rfl (by kernel_rfl) (by kernel_rfl) (by kernel_rfl) (.slice (some ⟨lb, 0, none⟩) zs.length lc) (fun _ _ _ h => h) SD rfl (fun w _ => by go_simp) ?_
              simp only [Act.put, List.getElem_toArray, List.getElem_cons_succ, List.getElem_cons_zero, List.setIfInBounds_toArray, List.set_cons_zero, List.set_cons_succ]
              refine held_takeX (i := 8) rfl (by kernel_rfl) (by kernel_rfl) (by kernel_rfl) (.int .i64 (j : Int)) (fun _ _ _ h => h) SD rfl (fun w _ => by go_simp) ?_
              simp only [Act.put, List.getElem_toArray, List.getElem_cons_succ, List.getElem_cons_zero, List.setIfInBounds_toArray, List.set_cons_zero, List.set_cons_succ]
              refine held_takeX (i := 9) rfl (by kernel_rfl) (by kernel_rfl) (by kernel_rfl) (.pointer (some ⟨lb, j, none⟩)) (fun _ _ _ h => h) SD rfl (fun w _ => by go_simp; first | done | exact fun h => absurd h (by omega)) ?_
              simp only [Act.put, List.getElem_toArray, List.getElem_cons_succ, List.getElem_cons_zero, List.setIfInBounds_toArray, List.set_cons_zero, List.set_cons_succ]
              refine held_loadX (i := 10) rfl (by kernel_rfl) (by kernel_rfl) (by kernel_rfl) (.int .i64 z) (fun _ _ _ h => h) SD rfl _ _ rfl ⟨lb, j, none⟩ rfl (fun w' h => load_int _ _ _ h) (fun V h => h) ?_
              simp only [Act.put, List.getElem_toArray, List.getElem_cons_succ, List.getElem_cons_zero, List.setIfInBounds_toArray, List.set_cons_zero, List.set_cons_succ]
              refine held_takeX (i := 11) rfl (by kernel_rfl) (by kernel_rfl) (by kernel_rfl) (.bool (decide (0 < z))) (fun _ _ _ h => h) SD rfl (fun w _ => by go_simp) ?_
              simp only [Act.put, List.getElem_toArray, List.getElem_cons_succ, List.getElem_cons_zero, List.setIfInBounds_toArray, List.set_cons_zero, List.set_cons_succ]
              refine held_takeX (i := 12) rfl (by kernel_rfl) (by kernel_rfl) (by kernel_rfl) (.agg #[.int .i64 (tb : Int), .bool (decide (0 < z))]) (fun _ _ _ h => h) SD rfl (fun w _ => by go_simp) ?_
              simp only [Act.put, List.getElem_toArray, List.getElem_cons_succ, List.getElem_cons_zero, List.setIfInBounds_toArray, List.set_cons_zero, List.set_cons_succ]
              have e5 : wD.cell? ⟨W0.heap.size, ta, none⟩ = some va := by rw [HVD.out.tab.cellAt ta (by omega)]; exact HVA.out
              have e5' : (wD.alloc (.cells #[.int .i64 (tb : Int), .bool (decide (0 < z))] 97)).cell? ⟨W0.heap.size, ta, none⟩ = some va := by rw [(HVD.out.tab.alloc _).cellAt ta (by omega)]; exact HVA.out
              have SA : (wD.alloc (.cells #[.int .i64 (tb : Int), .bool (decide (0 < z))] 97)).cell? ⟨lb, j, none⟩ = some (.int .i64 z) := HCJ.out _ (HID.out.alloc _)
              refine held_la (i := 5) (j := 13) (w' := wD.alloc (.cells #[.int .i64 (tb : Int), .bool (decide (0 < z))] 97)) (by kernel_rfl) (by kernel_rfl) (by kernel_rfl) rfl rfl rfl rfl va (.slice (some ⟨wD.heap.size, 0, none⟩) 1 1) (exec_load rfl rfl (load_met _ _ _ e5)) (by go_simp) (by go_simp) (exec_load rfl rfl (load_met _ _ _ e5')) rfl (by kernel_rfl) SD SA ?_
              simp only [Act.put, List.getElem_toArray, List.getElem_cons_succ, List.getElem_cons_zero, List.setIfInBounds_toArray, List.set_cons_zero, List.set_cons_succ]
              clear e5 e5'
              obtain ⟨v6, w6, hr6, ho6, hg6, hl6⟩ := run_app_met (B := W0.heap.size) (w := wD) (v := va) (r := ra) (tb, decide (0 < z)) 95 (HVD.out.row ta va ra HVA.out HRA.out) hzD (by omega)
              obtain ⟨a6, c6, e6⟩ := own_form ho6
              subst e6
              obtain ⟨t1, t2, t3, t4, t5, t6, t7⟩ := ht_app2 HVD.out HVA.out HRA.out ho6 hg6 hl6 HID.out HBD.out hzD
              have S6 : w6.cell? ⟨lb, j, none⟩ = some (.int .i64 z) := HCJ.out _ t7
              have SF := HCJ.out _ t2
              refine held_runY (i := 14) (by kernel_rfl) rfl rfl (.slice a6 (ra.length + 1) c6) w6 (exec_app rfl rfl rfl hr6) S6 ?_
              simp only [Act.put, List.getElem_toArray, List.getElem_cons_succ, List.getElem_cons_zero, List.setIfInBounds_toArray, List.set_cons_zero, List.set_cons_succ]
              refine held_takeX (i := 15) rfl (by kernel_rfl) (by kernel_rfl) (by kernel_rfl) (.pointer (some ⟨W0.heap.size, ta, none⟩)) (fun _ _ _ h => h) S6 rfl (fun w _ => by go_simp; first | done | exact fun h => absurd h (by omega)) ?_
              simp only [Act.put, List.getElem_toArray, List.getElem_cons_succ, List.getElem_cons_zero, List.setIfInBounds_toArray, List.set_cons_zero, List.set_cons_succ]
              refine held_storeG (i := 16) (by kernel_rfl) rfl rfl _ _ _ rfl ⟨W0.heap.size, ta, none⟩ (.slice a6 (ra.length + 1) c6) rfl rfl (w6.setCell ⟨W0.heap.size, ta, none⟩ (.slice a6 (ra.length + 1) c6)) (store_met _ _ _ _ _ _ t4 t5) SF ?_
              simp only [Act.put, List.getElem_toArray, List.getElem_cons_succ, List.getElem_cons_zero, List.setIfInBounds_toArray, List.set_cons_zero, List.set_cons_succ]
              refine wpAnyH_done (by kernel_rfl) ?_ _
              have HVw7 := Lib.hid t1
              have HIw7 := Lib.hid t2
              have HBw7 := Lib.hid t3
              have hzw7 := Nat.le_trans hzD t6
              clear t1 t2 t3 t4 t5 t6 t7 hr6 ho6 hg6 hl6 HVD HID HBD hzD SD SA S6 SF
              generalize w6.setCell ⟨W0.heap.size, ta, none⟩ (.slice a6 (ra.length + 1) c6) = w7 at *
              go_upto_region 18 with fail
              have HVB' := Lib.hid (show (vs.set ta (.slice a6 (ra.length + 1) c6))[tb]? = some vb by rw [List.getElem?_set_ne hne]; exact HVB.out)
              have HRB' := Lib.hid (show (S1.2.modify ta (· ++ [(tb, decide (0 < z))]))[tb]? = some rb by rw [List.getElem?_modify, HRB2.out]; simp [hne])
              generalize vs.set ta (.slice a6 (ra.length + 1) c6) = vs2 at *
              have BD : Below w7.heap.size w7 ({ w7 with drawn := w7.drawn + 1 } : World) := (Below.refl _ w7).drew
              have HVD := Lib.hid (HVw7.out.below BD (Nat.le_refl _))
              have HID := Lib.hid (own_below HIw7.out BD)
              have HBD := Lib.hid (HBw7.out.trans (BD.mono hzw7))
              have hzD : W0.heap.size ≤ ({ w7 with drawn := w7.drawn + 1 } : World).heap.size := hzw7
              clear BD
              refine wp_region_held (S := fun V => V.cell? ⟨lb, j, none⟩ = some (.int .i64 z)) (by kernel_rfl) ?_
              generalize ({ w7 with drawn := w7.drawn + 1 } : World) = wD at *
              have SD : wD.cell? ⟨lb, j, none⟩ = some (.int .i64 z) := HCJ.out _ HID.out
              refine held_takeX (i := 0) rfl (by kernel_rfl) (by kernel_rfl) (by kernel_rfl) (.slice (some ⟨W0.heap.size, 0, none⟩) n n) (fun _ _ _ h => h) SD rfl (fun w _ => by go_simp) ?_
              simp only [Act.put, List.getElem_toArray, List.getElem_cons_succ, List.getElem_cons_zero, List.setIfInBounds_toArray, List.set_cons_zero, List.set_cons_succ]
              refine held_takeX (i := 1) rfl (by kernel_rfl) (by kernel_rfl) (by kernel_rfl) (.int .i64 (tb : Int)) (fun _ _ _ h => h) SD rfl (fun w _ => by go_simp) ?_
              simp only [Act.put, List.getElem_toArray, List.getElem_cons_succ, List.getElem_cons_zero, List.setIfInBounds_toArray, List.set_cons_zero, List.set_cons_succ]
              refine held_takeX (i := 2) rfl (by kernel_rfl) (by kernel_rfl) (by kernel_rfl) (.slice (some ⟨W0.heap.size, 0, none⟩) n n) (fun _ _ _ h => h) SD rfl (fun w _ => by go_simp) ?_
              simp only [Act.put, List.getElem_toArray, List.getElem_cons_succ, List.getElem_cons_zero, List.setIfInBounds_toArray, List.set_cons_zero, List.set_cons_succ]
              refine held_takeX (i := 3) rfl (by kernel_rfl) (by kernel_rfl) (by kernel_rfl) (.int .i64 (tb : Int)) (fun _ _ _ h => h) SD rfl (fun w _ => by go_simp) ?_
              simp only [Act.put, List.getElem_toArray, List.getElem_cons_succ, List.getElem_cons_zero, List.setIfInBounds_toArray, List.set_cons_zero, List.set_cons_succ]
              refine held_takeX (i := 4) rfl (by kernel_rfl) (by kernel_rfl) (by kernel_rfl) (.pointer (some ⟨W0.heap.size, tb, none⟩)) (fun _ _ _ h => h) SD rfl (fun w _ => by go_simp; first | done | exact fun h => absurd h (by omega)) ?_
              simp only [Act.put, List.getElem_toArray, List.getElem_cons_succ, List.getElem_cons_zero, List.setIfInBounds_toArray, List.set_cons_zero, List.set_cons_succ]
              refine held_takeX (i := 6) rfl (by kernel_rfl) (by kernel_rfl) (by kernel_rfl) (.int .i64 (ta : Int)) (fun _ _ _ h => h) SD rfl (fun w _ => by go_simp) ?_
              simp only [Act.put, List.getElem_toArray, List.getElem_cons_succ, List.getElem_cons_zero, List.setIfInBounds_toArray, List.set_cons_zero, List.set_cons_succ]
              refine held_takeX (i := 7) rfl (by kernel_rfl) (by kernel_rfl) (by kernel_rfl) (.slice (some ⟨lb, 0, none⟩) zs.length lc) (fun _ _ _ h => h) SD rfl (fun w _ => by go_simp) ?_
              simp only [Act.put, List.getElem_toArray, List.getElem_cons_succ, List.getElem_cons_zero, List.setIfInBounds_toArray, List.set_cons_zero, List.set_cons_succ]
              refine held_takeX (i := 8) rfl (by kernel_rfl) (by kernel_rfl) (by kernel_rfl) (.int .i64 (j : Int)) (fun _ _ _ h => h) SD rfl (fun w _ => by go_simp) ?_
              simp only [Act.put, List.getElem_toArray, List.getElem_cons_succ, List.getElem_cons_zero, List.setIfInBounds_toArray, List.set_cons_zero, List.set_cons_succ]
              refine held_takeX (i := 9) rfl (by kernel_rfl) (by kernel_rfl) (by kernel_rfl) (.pointer (some ⟨lb, j, none⟩)) (fun _ _ _ h => h) SD rfl (fun w _ => by go_simp; first | done | exact fun h => absurd h (by omega)) ?_
              simp only [Act.put, List.getElem_toArray, List.getElem_cons_succ, List.getElem_cons_zero, List.setIfInBounds_toArray, List.set_cons_zero, List.set_cons_succ]
              refine held_loadX (i := 10) rfl (by kernel_rfl) (by kernel_rfl) (by kernel_rfl) (.int .i64 z) (fun _ _ _ h => h) SD rfl _ _ rfl ⟨lb, j, none⟩ rfl (fun w' h => load_int _ _ _ h) (fun V h => h) ?_
              simp only [Act.put, List.getElem_toArray, List.getElem_cons_succ, List.getElem_cons_zero, List.setIfInBounds_toArray, List.set_cons_zero, List.set_cons_succ]
              refine held_takeX (i := 11) rfl (by kernel_rfl) (by kernel_rfl) (by kernel_rfl) (.bool (decide (z < 0))) (fun _ _ _ h => h) SD rfl (fun w _ => by go_simp) ?_
              simp only [Act.put, List.getElem_toArray, List.getElem_cons_succ, List.getElem_cons_zero, List.setIfInBounds_toArray, List.set_cons_zero, List.set_cons_succ]
              refine held_takeX (i := 12) rfl (by kernel_rfl) (by kernel_rfl) (by kernel_rfl) (.agg #[.int .i64 (ta : Int), .bool (decide (z < 0))]) (fun _ _ _ h => h) SD rfl (fun w _ => by go_simp) ?_
              simp only [Act.put, List.getElem_toArray, List.getElem_cons_succ, List.getElem_cons_zero, List.setIfInBounds_toArray, List.set_cons_zero, List.set_cons_succ]
              have e5 : wD.cell? ⟨W0.heap.size, tb, none⟩ = some vb := by rw [HVD.out.tab.cellAt tb (by omega)]; exact HVB'.out
              have e5' : (wD.alloc (.cells #[.int .i64 (ta : Int), .bool (decide (z < 0))] 97)).cell? ⟨W0.heap.size, tb, none⟩ = some vb := by rw [(HVD.out.tab.alloc _).cellAt tb (by omega)]; exact HVB'.out
              have SA : (wD.alloc (.cells #[.int .i64 (ta : Int), .bool (decide (z < 0))] 97)).cell? ⟨lb, j, none⟩ = some (.int .i64 z) := HCJ.out _ (HID.out.alloc _)
              refine held_la (i := 5) (j := 13) (w' := wD.alloc (.cells #[.int .i64 (ta : Int), .bool (decide (z < 0))] 97)) (by kernel_rfl) (by kernel_rfl) (by kernel_rfl) rfl rfl rfl rfl vb (.slice (some ⟨wD.heap.size, 0, none⟩) 1 1) (exec_load rfl rfl (load_met _ _ _ e5)) (by go_simp) (by go_simp) (exec_load rfl rfl (load_met _ _ _ e5')) rfl (by kernel_rfl) SD SA ?_
              simp only [Act.put, List.getElem_toArray, List.getElem_cons_succ, List.getElem_cons_zero, List.setIfInBounds_toArray, List.set_cons_zero, List.set_cons_succ]
              clear e5 e5'
              obtain ⟨v6, w6, hr6, ho6, hg6, hl6⟩ := run_app_met (B := W0.heap.size) (w := wD) (v := vb) (r := rb) (ta, decide (z < 0)) 95 (HVD.out.row tb vb rb HVB'.out HRB'.out) hzD (by omega)
              obtain ⟨a9, c9, e9⟩ := own_form ho6
              subst e9
              obtain ⟨t1, t2, t3, t4, t5, t6, t7⟩ := ht_app2 HVD.out HVB'.out HRB'.out ho6 hg6 hl6 HID.out HBD.out hzD
              have S6 : w6.cell? ⟨lb, j, none⟩ = some (.int .i64 z) := HCJ.out _ t7
              have SF := HCJ.out _ t2
              refine held_runY (i := 14) (by kernel_rfl) rfl rfl (.slice a9 (rb.length + 1) c9) w6 (exec_app rfl rfl rfl hr6) S6 ?_
              simp only [Act.put, List.getElem_toArray, List.getElem_cons_succ, List.getElem_cons_zero, List.setIfInBounds_toArray, List.set_cons_zero, List.set_cons_succ]
              refine held_takeX (i := 15) rfl (by kernel_rfl) (by kernel_rfl) (by kernel_rfl) (.pointer (some ⟨W0.heap.size, tb, none⟩)) (fun _ _ _ h => h) S6 rfl (fun w _ => by go_simp; first | done | exact fun h => absurd h (by omega)) ?_
              simp only [Act.put, List.getElem_toArray, List.getElem_cons_succ, List.getElem_cons_zero, List.setIfInBounds_toArray, List.set_cons_zero, List.set_cons_succ]
              refine held_storeG (i := 16) (by kernel_rfl) rfl rfl _ _ _ rfl ⟨W0.heap.size, tb, none⟩ (.slice a9 (rb.length + 1) c9) rfl rfl (w6.setCell ⟨W0.heap.size, tb, none⟩ (.slice a9 (rb.length + 1) c9)) (store_met _ _ _ _ _ _ t4 t5) SF ?_
              simp only [Act.put, List.getElem_toArray, List.getElem_cons_succ, List.getElem_cons_zero, List.setIfInBounds_toArray, List.set_cons_zero, List.set_cons_succ]
              refine wpAnyH_done (by kernel_rfl) ?_ _
              have HVw8 := Lib.hid t1
              have HIw8 := Lib.hid t2
              have HBw8 := Lib.hid t3
              have hzw8 := Nat.le_trans hzD t6
              clear t1 t2 t3 t4 t5 t6 t7 hr6 ho6 hg6 hl6 HVD HID HBD hzD SD SA S6 SF
              generalize w6.setCell ⟨W0.heap.size, tb, none⟩ (.slice a9 (rb.length + 1) c9) = w8 at *
              have g0 : w8.cell? ⟨W1.heap.size, pp, none⟩ = some (.int .i64 (ta : Int)) := by rw [HVw8.out.lin.cellAt pp (by omega)]; unfold lnC; rw [List.getElem?_map, HTA.out]; rfl
              have f0 : w8.frozen? ⟨W1.heap.size, pp, none⟩ = false := HVw8.out.lin.frozenAt pp
              have s1 := HVw8.out.lin.stored pp (.int .i64 (tb : Int))
              have g1 : (w8.setCell ⟨W1.heap.size, pp, none⟩ (.int .i64 (tb : Int))).cell? ⟨W1.heap.size, pp + 1, none⟩ = some (.int .i64 (tb : Int)) := by rw [s1.1.cellAt (pp + 1) (by omega), List.getElem?_set_ne (by omega)]; unfold lnC; rw [List.getElem?_map, HTB.out]; rfl
              have f1 : (w8.setCell ⟨W1.heap.size, pp, none⟩ (.int .i64 (tb : Int))).frozen? ⟨W1.heap.size, pp + 1, none⟩ = false := s1.1.frozenAt (pp + 1)
              have s2 := s1.1.stored (pp + 1) (.int .i64 (ta : Int))
              have HVF := Lib.hid (ht_swap HVw8.out HTA.out HTB.out)
              have hap : (Value.slice (some ⟨lb, 0, none⟩) zs.length lc).ownBlock = none ∨ (Value.slice (some ⟨lb, 0, none⟩) zs.length lc).ownBlock ≠ some W1.heap.size := .inr (by simp [Value.ownBlock]; omega)
              have HIF := Lib.hid ((HIw8.out.kept s1.2 hap).kept s2.2 hap)
              have HBF := Lib.hid ((HBw8.out.setCell (p := ⟨W1.heap.size, pp, none⟩) (by simp; omega) (.int .i64 (tb : Int))).setCell (p := ⟨W1.heap.size, pp + 1, none⟩) (by simp; omega) (.int .i64 (ta : Int)))
              have p1' := HP1.out
              have hz32 := HL32.out
              clear s1 s2 hap
              go_wp2_with fail
              go_roundw
              case rel => exact ⟨j + 1, _, by omega, by go_num, by rw [HNX2.out, hstep_eq HTA.out HTB.out]; exact HVF.out, HBF.out, HIF.out⟩
              case measure => (simp [intOf] <;> omega)
            · have j2 : ¬ (j : Int) < (zs.length : Int) := by omega
              have HE := Lib.hid (show hrun (2 * q) (zs.take j) S0 = hrun (2 * q) zs S0 by rw [List.take_of_length_le (by omega)])
              rw [HE.out, ← HNX.out] at HV
              go_wp2_with fail
              go_roundw
              case rel => exact ⟨k + 1, vs, by omega, by go_num, HV.out, HBV.out⟩
              case measure => (simp [intOf] <;> omega)
        · have j1 : ¬ (k : Int) < (s.ws.length : Int) := by omega
          have HE := Lib.hid (show s.ws.take k = s.ws from List.take_of_length_le (by omega))
          rw [HE.out] at HQ
          have HBF := Lib.hid (bon HB0.out HBQ.out)
          go_wp2_with fail
          go_ret
          exact ⟨_, _, _, vs, rfl, HQ.out, HBF.out⟩
end Go.Proofs.Ytcjbjlepgdggpaa
