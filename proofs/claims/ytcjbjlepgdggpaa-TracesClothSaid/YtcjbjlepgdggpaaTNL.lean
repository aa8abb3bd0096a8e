/- sameHistories walked. -/
import Derived.Test.YtcjbjlepgdggpaaTNK
namespace Go.Proofs.Ytcjbjlepgdggpaa
open Go.RowKit Go.Shelf Go.Lib
set_option maxRecDepth 100000
set_option linter.unusedSimpArgs false
set_option linter.unusedVariables false
attribute [local irreducible] wpQuiet
section
variable {P : Program} {md : Region.Mode} {ops : Array Oper} {Q : Exit → Act → World → Prop} {S : World → Prop} {fuel : Nat} {d : Array Bool} {a : Act} {w : World}
theorem heldW_take {i : Nat} {o : Oper} (hi : ops[i]? = some o) (hs : Region.noSelect ops = true) (hf : Region.free md ops d i = true) (hr : (Region.ready md ops d).contains i = true) (v : Value)
    (hQ : ∀ c a w, Q (.panic c) (a.put o.dst v) w → Q (.panic c) a w) (hS : S w) (hg : Region.wanted o (yielded ops a.tmps) = true) (hy : ∀ w, S w → (execOp a.eval o).run P w = .ok (.value v) w)
    (h : wpAnyH P md ops Q S fuel (d.setIfInBounds i true) (a.put o.dst v) w) : wpAnyH P md ops Q S (fuel + 1) d a w :=
  wpAnyH_take hi hs hf hr hQ (.inl ⟨hg, hy⟩) hS h
theorem heldW_load {i : Nat} {o : Oper} (hi : ops[i]? = some o) (hs : Region.noSelect ops = true) (hf : Region.free md ops d i = true) (hr : (Region.ready md ops d).contains i = true) (cs : List Value)
    (hQ : ∀ c a w, Q (.panic c) (a.put o.dst (.agg cs.toArray)) w → Q (.panic c) a w) (hS : S w) (hg : Region.wanted o (yielded ops a.tmps) = true) (ty : TypeId) (x : Operand) (ho : o.op = .load ty x) (b off : Nat) (hx : a.eval x = .pointer (some ⟨b, off, none⟩)) (dd : TypeDesc)
    (hR : ∀ w, S w → w.rangeAt b off cs) (hu : P.underlying ty = some dd) (hd : dd.isRow = true) (hsz : (P.info? ty).map (·.size) = some cs.length)
    (h : wpAnyH P md ops Q S fuel (d.setIfInBounds i true) (a.put o.dst (.agg cs.toArray)) w) : wpAnyH P md ops Q S (fuel + 1) d a w :=
  heldW_take hi hs hf hr _ hQ hS hg (fun w' hw' => by
    unfold execOp
    simp only [ho, hx, Sem.run_bind, run_loadAt_mid w' b off ty cs dd (hR w' hw') hu hd hsz, Result.andThen_ok, Sem.run_pure]) h
theorem heldW_load1 {i : Nat} {o : Oper} (hi : ops[i]? = some o) (hs : Region.noSelect ops = true) (hf : Region.free md ops d i = true) (hr : (Region.ready md ops d).contains i = true) (v : Value)
    (hQ : ∀ c a w, Q (.panic c) (a.put o.dst v) w → Q (.panic c) a w) (hS : S w) (hg : Region.wanted o (yielded ops a.tmps) = true) (ty : TypeId) (x : Operand) (ho : o.op = .load ty x) (ad : Addr) (hx : a.eval x = .pointer (some ad))
    (hl : ∀ w, w.cell? ad = some v → (Instr.loadAt ty (.pointer (some ad))).run P w = .ok v w) (hR : ∀ w, S w → w.cell? ad = some v)
    (h : wpAnyH P md ops Q S fuel (d.setIfInBounds i true) (a.put o.dst v) w) : wpAnyH P md ops Q S (fuel + 1) d a w :=
  heldW_take hi hs hf hr _ hQ hS hg (fun w' hw' => exec_load ho hx (hl w' (hR w' hw'))) h
theorem heldW_call {i : Nat} {o : Oper} (hr : Region.ready md ops d = [i]) (hi : ops[i]? = some o) (hw : Region.wanted o (yielded ops a.tmps) = true) (f : FuncId) (args : List Operand) (ts : Array TypeId) (ho : o.op = .call { callee := .value (.func f), args := args.toArray, argTypes := ts }) (hent : ∀ args w, (callFunc f args).run P w = .ok (.enter f args) w) (vs : Array Value) (hv : (args.map a.eval).toArray = vs)
    (h : Calls P f vs w fun e w' => ∃ v, e = .returned v ∧ S w' ∧ wpAnyH P md ops Q S fuel (d.setIfInBounds i true) (a.put o.dst v) w') : wpAnyH P md ops Q S (fuel + 1) d a w := by
  subst hv
  refine wpAnyH_all hr (by simp) fun j hj => ?_
  obtain rfl : j = i := by simpa using hj
  unfold wpOp
  simp only [hi]
  rw [if_pos hw]
  refine .inl ?_
  unfold Oper.wp execOp
  simp [ho, resolve, invoke, Act.eval, go_sem, hent, Oper.upon]
  refine h.mono fun e w' ⟨v, he, hS, hk⟩ => ?_
  subst he
  exact ⟨hS, hk⟩
theorem heldW_skip {i : Nat} {o : Oper} (hr : Region.ready md ops d = [i]) (hi : ops[i]? = some o) (hw : Region.wanted o (yielded ops a.tmps) = false) (hS : S w)
    (h : wpAnyH P md ops Q S fuel (d.setIfInBounds i true) (a.put o.dst undef) w) : wpAnyH P md ops Q S (fuel + 1) d a w := by
  refine wpAnyH_all hr (by simp) fun j hj => ?_
  obtain rfl : j = i := by simpa using hj
  unfold wpOp
  simp only [hi]
  rw [if_neg (by rw [hw]; simp)]
  exact ⟨hS, h⟩
end
theorem infoMet2 : (Try.prog.info? 97).map (·.size) = some 2 := by kernel_rfl
theorem eqMet (a c : Int) (b d : Bool) (w : World) :
    (Op.equalIn 10000 97 (.agg #[.int .i64 a, .bool b]) (.agg #[.int .i64 c, .bool d])).run Try.prog w = .ok (a == c && b == d) w := by
  have hS : Try.prog.underlying 97 = some (.struct (Try.prog.fieldsOf 97)) := by kernel_rfl
  have hp : Try.prog.stoodInHeld 97 = false := by kernel_rfl
  rw [show (10000 : Nat) = 9999 + 1 from rfl, run_equalIn_agg w 9999 97 _ _ hS hp]
  simp only [Program.fieldsOf, Try.underlying97]
  go_simp
  by_cases h1 : a = c <;> by_cases h2 : b = d <;> simp [h1, h2]
@[go_sem] theorem guardMet (op : BinOp) (x y : Operand) (xs ys : Array Value) (w : World) : (eqGuard op 97 x y (.agg xs) (.agg ys)).run Try.prog w = .ok () w := run_eqGuard_agg w op _ x y xs ys (by kernel_rfl)
set_option maxHeartbeats 8000000 in
theorem same_hist (B B' n go gl go' gl' : Nat) (vs vs' : List Value) (st : HSt) (w : World) (h1 : HT B w n go gl vs st) (h2 : HT B' w n go' gl' vs' st) (hn : n ≤ 48) (hrb : RB st 30000) :
    Calls Try.prog 33 #[.slice (some ⟨go, 0, none⟩) n n, .slice (some ⟨go', 0, none⟩) n n] w fun e w' => e = .returned (.bool true) ∧ Below w.heap.size w w' := by
  have HA := Lib.hid h1
  have HC := Lib.hid h2
  have HRB := Lib.hid hrb
  clear h1 h2 hrb
  go_enter Try.func33, Try.ntmps33
  go_wp2_with fail
  go_loopw [5, 6] (fun iv _ wr => ∃ i : Nat, i ≤ n ∧ iv = .int .i64 (i : Int) ∧ Below w.heap.size w wr) (fun iv _ _ => n - (intOf iv).toNat)
  case atStart => exact ⟨0, Nat.zero_le _, rfl, Below.refl _ _⟩
  case round =>
    obtain ⟨i, hi, rfl, hbr⟩ := hrel
    rename World => wr
    have HBR := Lib.hid hbr
    have hzr := hbr.size
    clear hbr
    by_cases hin : i < n
    · have j0 : (0 : Int) ≤ (i : Int) := by omega
      have j1 : (i : Int) < (n : Int) := by omega
      have HA' := Lib.hid (HA.out.below HBR.out (Nat.le_refl _))
      have HC' := Lib.hid (HC.out.below HBR.out (Nat.le_refl _))
      obtain ⟨r, hr⟩ : ∃ r, st.2[i]? = some r := ⟨_, List.getElem?_eq_getElem (by rw [HA.out.ol]; exact hin)⟩
      obtain ⟨va, hva⟩ : ∃ v, vs[i]? = some v := ⟨_, List.getElem?_eq_getElem (by rw [HA.out.vl]; exact hin)⟩
      obtain ⟨vb, hvb⟩ : ∃ v, vs'[i]? = some v := ⟨_, List.getElem?_eq_getElem (by rw [HC.out.vl]; exact hin)⟩
      have hrl := HRB.out i r hr
      have HR1 := Lib.hid (HA'.out.row i va r hva hr)
      have HR2 := Lib.hid (HC'.out.row i vb r hvb hr)
      have t1 : wr.cell? ⟨go, i, none⟩ = some va := by rw [HA'.out.tab.cellAt i (by omega)]; exact hva
      have t2 : wr.cell? ⟨go', i, none⟩ = some vb := by rw [HC'.out.tab.cellAt i (by omega)]; exact hvb
      have hgo : go < wr.heap.size := (HA'.out.tab.lt go rfl).2
      have hgo' : go' < wr.heap.size := (HC'.out.tab.lt go' rfl).2
      obtain ⟨a1, c1, rfl⟩ := own_form HR1.out
      obtain ⟨a2, c2, rfl⟩ := own_form HR2.out
      have T1 := Lib.hid t1
      have T2 := Lib.hid t2
      clear hva hvb hr
      go_wp2_with fail
      refine wp_region_class (fun w' => Below wr.heap.size wr w') 10 (by kernel_rfl) (by kernel_rfl) (Below.refl _ wr).drew ?_
      simp only [List.take_succ_cons, List.take_zero, List.drop_succ_cons, List.drop_zero]
      refine quiet_moveV rfl _ rfl (.slice (some ⟨go, 0, none⟩) n n) rfl ?_
      simp only [Act.put, List.setIfInBounds_toArray, List.set_cons_zero, List.set_cons_succ]
      refine quiet_moveV rfl _ rfl (.int .i64 (i : Int)) rfl ?_
      simp only [Act.put, List.setIfInBounds_toArray, List.set_cons_zero, List.set_cons_succ]
      refine quiet_still rfl (.pointer (some ⟨go, i, none⟩)) (fun w _ => by go_simp; first | done | exact fun h => absurd h (by omega)) ?_
      simp only [Act.put, List.setIfInBounds_toArray, List.set_cons_zero, List.set_cons_succ]
      refine quiet_load1 rfl _ _ rfl ⟨go, i, none⟩ rfl (.slice a1 r.length c1) (load_met _ _) (fun _ h => (h.cell (p := ⟨go, i, none⟩) hgo).trans t1) ?_
      simp only [Act.put, List.setIfInBounds_toArray, List.set_cons_zero, List.set_cons_succ]
      refine quiet_still rfl (.int .i64 (r.length : Int)) (fun w _ => by go_simp) ?_
      simp only [Act.put, List.setIfInBounds_toArray, List.set_cons_zero, List.set_cons_succ]
      refine quiet_moveV rfl _ rfl (.slice (some ⟨go', 0, none⟩) n n) rfl ?_
      simp only [Act.put, List.setIfInBounds_toArray, List.set_cons_zero, List.set_cons_succ]
      refine quiet_moveV rfl _ rfl (.int .i64 (i : Int)) rfl ?_
      simp only [Act.put, List.setIfInBounds_toArray, List.set_cons_zero, List.set_cons_succ]
      refine quiet_still rfl (.pointer (some ⟨go', i, none⟩)) (fun w _ => by go_simp; first | done | exact fun h => absurd h (by omega)) ?_
      simp only [Act.put, List.setIfInBounds_toArray, List.set_cons_zero, List.set_cons_succ]
      refine quiet_load1 rfl _ _ rfl ⟨go', i, none⟩ rfl (.slice a2 r.length c2) (load_met _ _) (fun _ h => (h.cell (p := ⟨go', i, none⟩) hgo').trans t2) ?_
      simp only [Act.put, List.setIfInBounds_toArray, List.set_cons_zero, List.set_cons_succ]
      refine quiet_still rfl (.int .i64 (r.length : Int)) (fun w _ => by go_simp) ?_
      simp only [Act.put, List.setIfInBounds_toArray, List.set_cons_zero, List.set_cons_succ]
      unfold wpQuiet
      intro w1 hb1
      have HB1 := Lib.hid (HBR.out.trans (hb1.mono hzr))
      have T1' := Lib.hid ((hb1.cell (p := ⟨go, i, none⟩) hgo).trans T1.out)
      have T2' := Lib.hid ((hb1.cell (p := ⟨go', i, none⟩) hgo').trans T2.out)
      have HR1' := Lib.hid (own_below HR1.out hb1)
      have HR2' := Lib.hid (own_below HR2.out hb1)
      have hz1 := hb1.size
      clear hb1 t1 t2 T1 T2 HR1 HR2 HA' HC'
      have hgo1 : go < w1.heap.size := by omega
      have hgo1' : go' < w1.heap.size := by omega
      go_upto_region 9 with fail
      go_loopw [6] (fun kv wv => ∃ k : Nat, k ≤ r.length ∧ kv = .int .i64 (k : Int) ∧ Below w1.heap.size w1 wv) (fun kv _ => r.length - (intOf kv).toNat)
      case atStart => exact ⟨0, Nat.zero_le _, rfl, Below.refl _ _⟩
      case round =>
        obtain ⟨k, hk, rfl, hbv⟩ := hrel
        rename World => wv
        have hzv := hbv.size
        have t1 := (hbv.cell (p := ⟨go, i, none⟩) hgo1).trans T1'.out
        have t2 := (hbv.cell (p := ⟨go', i, none⟩) hgo1').trans T2'.out
        have hgo : go < wv.heap.size := by omega
        have hgo' : go' < wv.heap.size := by omega
        have HBV1 := Lib.hid hbv
        have HBV := Lib.hid (HB1.out.trans (hbv.mono (by omega)))
        by_cases hkl : k < r.length
        · have i0 : (0 : Int) ≤ (k : Int) := by omega
          have i1 : (k : Int) < (r.length : Int) := by omega
          obtain ⟨m, hm⟩ : ∃ m, r[k]? = some m := ⟨_, List.getElem?_eq_getElem hkl⟩
          have rng : ∀ {B : Nat} {a : Option Addr} {c : Nat}, w1.ownsRow B 97 2 (.slice a r.length c) r.length (mfl r) → ∃ g, a = some ⟨g, 0, none⟩ ∧ g < w1.heap.size ∧ w1.rangeAt g (k * 2) [.int .i64 (m.1 : Int), .bool m.2] := fun {B a c} h => by
            rcases id h.2 with ⟨e, _⟩ | ⟨g, cap, cur, e, _, hg, _⟩
            · injection e with e1 e2 e3; omega
            · injection e with e1 e2 e3
              subst e1 e3
              refine ⟨g, rfl, (Array.getElem?_eq_some_iff.1 hg).1, fun j v hv => ?_⟩
              have hj2 : j < 2 := (List.getElem?_eq_some_iff.1 hv).1
              rw [h.cellAt (k * 2 + j) (by omega)]
              have e := flat_get mcs 2 (fun _ => rfl) r k m hm j hj2
              unfold mfl
              rw [e]
              exact hv
          obtain ⟨g1, rfl, hg1, hm1⟩ := rng HR1'.out
          obtain ⟨g2, rfl, hg2, hm2⟩ := rng HR2'.out
          have HM1 := Lib.hid (range_below3 hm1 hg1 hbv)
          have HM2 := Lib.hid (range_below3 hm2 hg2 hbv)
          replace hg1 := Nat.lt_of_lt_of_le hg1 hzv
          replace hg2 := Nat.lt_of_lt_of_le hg2 hzv
          have hq : ∀ W, (Op.equalIn 10000 97 (.agg #[.int .i64 (m.1 : Int), .bool m.2]) (.agg #[.int .i64 (m.1 : Int), .bool m.2])).run Try.prog W = .ok true W := fun W => (eqMet _ _ _ _ W).trans (by simp)
          clear rng hm1 hm2 hm hbv
          go_upto_region 11 with fail
          refine wp_region_class (fun w' => Below wv.heap.size wv w') 14 (by kernel_rfl) (by kernel_rfl) (Below.refl _ wv).drew ?_
          simp only [List.take_succ_cons, List.take_zero, List.drop_succ_cons, List.drop_zero]
          refine quiet_moveV rfl _ rfl (.slice (some ⟨go, 0, none⟩) n n) rfl ?_
          simp only [Act.put, List.setIfInBounds_toArray, List.set_cons_zero, List.set_cons_succ]
          refine quiet_moveV rfl _ rfl (.int .i64 (i : Int)) rfl ?_
          simp only [Act.put, List.setIfInBounds_toArray, List.set_cons_zero, List.set_cons_succ]
          refine quiet_still rfl (.pointer (some ⟨go, i, none⟩)) (fun w _ => by go_simp; first | done | exact fun h => absurd h (by omega)) ?_
          simp only [Act.put, List.setIfInBounds_toArray, List.set_cons_zero, List.set_cons_succ]
          refine quiet_load1 rfl _ _ rfl ⟨go, i, none⟩ rfl (.slice (some ⟨g1, 0, none⟩) r.length c1) (load_met _ _) (fun _ h => (h.cell (p := ⟨go, i, none⟩) hgo).trans t1) ?_
          simp only [Act.put, List.setIfInBounds_toArray, List.set_cons_zero, List.set_cons_succ]
          refine quiet_moveV rfl _ rfl (.int .i64 (k : Int)) rfl ?_
          simp only [Act.put, List.setIfInBounds_toArray, List.set_cons_zero, List.set_cons_succ]
          refine quiet_still rfl (.pointer (some ⟨g1, k * 2, none⟩)) (fun w _ => by go_simp; first | done | exact fun h => absurd h (by omega)) ?_
          simp only [Act.put, List.setIfInBounds_toArray, List.set_cons_zero, List.set_cons_succ]
          refine quiet_load_mid rfl _ _ rfl g1 (k * 2) rfl [.int .i64 (m.1 : Int), .bool m.2] _ (fun V h => range_below3 HM1.out hg1 h) Try.underlying97 rfl infoMet2 ?_
          simp only [Act.put, List.setIfInBounds_toArray, List.set_cons_zero, List.set_cons_succ]
          refine quiet_moveV rfl _ rfl (.slice (some ⟨go', 0, none⟩) n n) rfl ?_
          simp only [Act.put, List.setIfInBounds_toArray, List.set_cons_zero, List.set_cons_succ]
          refine quiet_moveV rfl _ rfl (.int .i64 (i : Int)) rfl ?_
          simp only [Act.put, List.setIfInBounds_toArray, List.set_cons_zero, List.set_cons_succ]
          refine quiet_still rfl (.pointer (some ⟨go', i, none⟩)) (fun w _ => by go_simp; first | done | exact fun h => absurd h (by omega)) ?_
          simp only [Act.put, List.setIfInBounds_toArray, List.set_cons_zero, List.set_cons_succ]
          refine quiet_load1 rfl _ _ rfl ⟨go', i, none⟩ rfl (.slice (some ⟨g2, 0, none⟩) r.length c2) (load_met _ _) (fun _ h => (h.cell (p := ⟨go', i, none⟩) hgo').trans t2) ?_
          simp only [Act.put, List.setIfInBounds_toArray, List.set_cons_zero, List.set_cons_succ]
          refine quiet_moveV rfl _ rfl (.int .i64 (k : Int)) rfl ?_
          simp only [Act.put, List.setIfInBounds_toArray, List.set_cons_zero, List.set_cons_succ]
          refine quiet_still rfl (.pointer (some ⟨g2, k * 2, none⟩)) (fun w _ => by go_simp; first | done | exact fun h => absurd h (by omega)) ?_
          simp only [Act.put, List.setIfInBounds_toArray, List.set_cons_zero, List.set_cons_succ]
          refine quiet_load_mid rfl _ _ rfl g2 (k * 2) rfl [.int .i64 (m.1 : Int), .bool m.2] _ (fun V h => range_below3 HM2.out hg2 h) Try.underlying97 rfl infoMet2 ?_
          simp only [Act.put, List.setIfInBounds_toArray, List.set_cons_zero, List.set_cons_succ]
          unfold wpQuiet
          intro w2 hb2
          have HB2 := Lib.hid (HBV.out.trans (hb2.mono (by omega)))
          have HB3 := Lib.hid (HBV1.out.trans (hb2.mono hzv))
          clear hb2 t1 t2
          go_wp2_with fail
          go_roundw
          case rel => exact ⟨k + 1, by omega, by go_num, HB3.out⟩
          case measure => (simp [intOf] <;> omega)
        · have i1 : ¬ (k : Int) < (r.length : Int) := by omega
          clear hbv
          go_wp2_with fail
          go_roundw
          case rel => exact ⟨i + 1, by omega, by go_num, HBV.out⟩
          case measure => (simp [intOf] <;> omega)
    · have j1 : ¬ (i : Int) < (n : Int) := by omega
      go_wp2_with fail
      go_ret
      exact ⟨rfl, HBR.out⟩
end Go.Proofs.Ytcjbjlepgdggpaa
