/- Swaps. -/
import Derived.Test.YtcjbjlepgdggpaaTW
namespace Go.Proofs.Ytcjbjlepgdggpaa
open Go.RowKit Go.Shelf Go.Lib
set_option maxRecDepth 100000
set_option linter.unusedSimpArgs false
attribute [local irreducible] wpQuiet
section
variable {P : Program} {md : Region.Mode} {ops : Array Oper} {Q : Exit → Act → World → Prop} {S : World → Prop} {fuel : Nat} {d : Array Bool} {a : Act} {w : World}
theorem held_one {i : Nat} {o : Oper} (hr : Region.ready md ops d = [i]) (hi : ops[i]? = some o) (hg : o.guard = none) (v : Value) (hv : (execOp a.eval o).run P w = .ok (.value v) w) (hS : S w)
    (h : wpAnyH P md ops Q S fuel (d.setIfInBounds i true) (a.put o.dst v) w) : wpAnyH P md ops Q S (fuel + 1) d a w := by
  refine wpAnyH_all hr (by simp) fun j hj => ?_
  obtain rfl : j = i := by simpa using hj
  have hw : Region.wanted o (yielded ops a.tmps) = true := by simp [Region.wanted, hg]
  unfold wpOp
  simp only [hi]
  rw [if_pos hw]
  refine .inl ?_
  unfold Oper.wp
  rw [hv]
  simp only [Oper.upon]
  exact ⟨hS, h⟩
/-- Two operations that read, in whatever order. -/
theorem held_load2 {i j : Nat} {oi oj : Oper} (hr : Region.ready md ops d = [i, j]) (hrj : Region.ready md ops (d.setIfInBounds i true) = [j]) (hri : Region.ready md ops (d.setIfInBounds j true) = [i]) (hi : ops[i]? = some oi) (hj : ops[j]? = some oj)
    (hgi : oi.guard = none) (hgj : oj.guard = none) (vi vj : Value) (h1 : (execOp a.eval oi).run P w = .ok (.value vi) w) (h1' : (execOp (a.put oj.dst vj).eval oi).run P w = .ok (.value vi) w)
    (h2 : (execOp a.eval oj).run P w = .ok (.value vj) w) (h2' : (execOp (a.put oi.dst vi).eval oj).run P w = .ok (.value vj) w) (hp : (a.put oj.dst vj).put oi.dst vi = (a.put oi.dst vi).put oj.dst vj) (hd : (d.setIfInBounds j true).setIfInBounds i true = (d.setIfInBounds i true).setIfInBounds j true) (hS : S w)
    (h : wpAnyH P md ops Q S fuel ((d.setIfInBounds i true).setIfInBounds j true) ((a.put oi.dst vi).put oj.dst vj) w) : wpAnyH P md ops Q S (fuel + 2) d a w := by
  refine wpAnyH_all hr (by simp) fun k hk => ?_
  have hk' : k = i ∨ k = j := by simpa using hk
  rcases hk' with rfl | rfl
  · have hw : Region.wanted oi (yielded ops a.tmps) = true := by simp [Region.wanted, hgi]
    unfold wpOp
    simp only [hi]
    rw [if_pos hw]
    refine .inl ?_
    unfold Oper.wp
    rw [h1]
    simp only [Oper.upon]
    exact ⟨hS, held_one hrj hj hgj vj h2' hS h⟩
  · have hw : Region.wanted oj (yielded ops a.tmps) = true := by simp [Region.wanted, hgj]
    unfold wpOp
    simp only [hj]
    rw [if_pos hw]
    refine .inl ?_
    unfold Oper.wp
    rw [h2]
    simp only [Oper.upon]
    exact ⟨hS, held_one hri hi hgi vi h1' hS (by rw [hp, hd]; exact h)⟩
theorem held_loads {i j : Nat} {oi oj : Oper} (hr : Region.ready md ops d = [i, j]) (hrj : Region.ready md ops (d.setIfInBounds i true) = [j]) (hri : Region.ready md ops (d.setIfInBounds j true) = [i]) (hi : ops[i]? = some oi) (hj : ops[j]? = some oj)
    (hgi : oi.guard = none) (hgj : oj.guard = none) (vi vj : Value) (ti tj : TypeId) (xi xj : Operand) (hoi : oi.op = .load ti xi) (hoj : oj.op = .load tj xj) (ai aj : Addr) (e1 : a.eval xi = .pointer (some ai)) (e1' : (a.put oj.dst vj).eval xi = .pointer (some ai)) (e2 : a.eval xj = .pointer (some aj)) (e2' : (a.put oi.dst vi).eval xj = .pointer (some aj))
    (l1 : (Instr.loadAt ti (.pointer (some ai))).run P w = .ok vi w) (l2 : (Instr.loadAt tj (.pointer (some aj))).run P w = .ok vj w) (hp : (a.put oj.dst vj).put oi.dst vi = (a.put oi.dst vi).put oj.dst vj) (hd : (d.setIfInBounds j true).setIfInBounds i true = (d.setIfInBounds i true).setIfInBounds j true) (hS : S w)
    (h : wpAnyH P md ops Q S fuel ((d.setIfInBounds i true).setIfInBounds j true) ((a.put oi.dst vi).put oj.dst vj) w) : wpAnyH P md ops Q S (fuel + 2) d a w :=
  held_load2 hr hrj hri hi hj hgi hgj vi vj (by unfold execOp; simp only [hoi, e1, Sem.run_bind, l1, Result.andThen_ok, Sem.run_pure]) (by unfold execOp; simp only [hoi, e1', Sem.run_bind, l1, Result.andThen_ok, Sem.run_pure])
    (by unfold execOp; simp only [hoj, e2, Sem.run_bind, l2, Result.andThen_ok, Sem.run_pure]) (by unfold execOp; simp only [hoj, e2', Sem.run_bind, l2, Result.andThen_ok, Sem.run_pure]) hp hd hS h
end
def lenV : Value → Nat
  | .slice _ n _ => n
  | _ => 0
/-- No two alike. -/
def Dst (t : List Int) : Prop := ∀ (i j : Nat) (x : Int), t[i]? = some x → t[j]? = some x → i = j
theorem dst_swap {t : List Int} {p : Nat} (h : Dst t) (hp : p + 1 < t.length) : Dst (swapL t p) := fun i j x hi hj => by
  rw [swapL_get hp] at hi hj
  have key : ∀ q, (if q = p then t[p + 1]? else if q = p + 1 then t[p]? else t[q]?) = t[if q = p then p + 1 else if q = p + 1 then p else q]? := fun q => by
    split
    · rfl
    · split <;> rfl
  rw [key] at hi hj
  have e := h _ _ x hi hj
  split at e <;> split at e <;> (try split at e) <;> (try split at e) <;> omega
theorem li_dst {l : List Nat} (h : l.Nodup) : Dst (LI l) := fun i j x hi hj => by
  unfold LI at hi hj
  rw [List.getElem?_map] at hi hj
  obtain ⟨a, ha, rfl⟩ := Option.map_eq_some_iff.1 hi
  obtain ⟨b, hb, e⟩ := Option.map_eq_some_iff.1 hj
  have : b = a := by omega
  subst this
  have h1 := idx_at h ha
  have h2 := idx_at h hb
  omega
theorem matchL_dst (a b : Sh) : Dst (matchL a b) := by
  unfold matchL
  split
  · cases hm : matchTo a.ws b.ws b.ws.length with
    | none => intro i j x hi; simp [LI] at hi
    | some l => exact li_dst (match_nodup hm)
  · intro i j x hi; simp at hi
theorem matchL_len4 (a b : Sh) : (matchL a b).length ≤ 400 := by
  unfold matchL
  split
  · rename_i h
    have hb : chkS b = 0 := by
      refine Classical.byContradiction fun hc => ?_
      by_cases ha : chkS a = 0
      · rw [(mE_2 ha hc).1] at h; exact hc h
      · rw [(mE_1 ha).1] at h; exact ha h
    cases hm : matchTo a.ws b.ws b.ws.length with
    | none => simp [LI]
    | some l =>
      have := (matchTo_clo hm).2.1
      have := (chk_small hb).2.2.1
      rw [Option.getD_some, LI_len]
      omega
  · simp
/-- The exchanges. -/
def swE (a b : Sh) : Int := if chkS a ≠ 0 then chkS a else if mE b a ≠ 0 then mE b a else if swOut (matchL b a) = none then 5 else 0
def swV (a b : Sh) : List Int := if swE a b = 0 then LI ((swOut (matchL b a)).getD []) else []
theorem sw_1 {a b : Sh} (h : chkS a ≠ 0) : swE a b = chkS a ∧ swV a b = [] := by
  have e : swE a b = chkS a := by unfold swE; rw [if_pos h]
  exact ⟨e, by unfold swV; rw [if_neg (by rw [e]; exact h)]⟩
theorem sw_2 {a b : Sh} (h : chkS a = 0) (h2 : mE b a ≠ 0) : swE a b = mE b a ∧ swV a b = [] := by
  have e : swE a b = mE b a := by unfold swE; rw [if_neg (by simp [h]), if_pos h2]
  exact ⟨e, by unfold swV; rw [if_neg (by rw [e]; exact h2)]⟩
theorem sw_3 {a b : Sh} (h : chkS a = 0) (h2 : mE b a = 0) (h3 : swOut (matchL b a) = none) : swE a b = 5 ∧ swV a b = [] := by
  have e : swE a b = 5 := by unfold swE; rw [if_neg (by simp [h]), if_neg (by simp [h2]), if_pos h3]
  exact ⟨e, by unfold swV; rw [if_neg (by rw [e]; decide)]⟩
theorem sw_4 {a b : Sh} {o : List Nat} (h : chkS a = 0) (h2 : mE b a = 0) (h3 : swOut (matchL b a) = some o) : swE a b = 0 ∧ swV a b = LI o := by
  have e : swE a b = 0 := by unfold swE; rw [if_neg (by simp [h]), if_neg (by simp [h2]), if_neg (by simp [h3])]
  exact ⟨e, by unfold swV; rw [if_pos e, h3]; rfl⟩
theorem wrong_get {t : List Int} {p : Nat} {x y : Int} (hx : t[p]? = some x) (hy : t[p + 1]? = some y) : wrongB t p = decide (y < x) := by unfold wrongB; rw [hx, hy]; rfl
set_option maxHeartbeats 8000000 in
theorem Swaps_any (a b : Sh) (u v : Value) (w : World) (hu : WS w u a.ws) (hv : WS w v b.ws) :
    Calls Try.prog 24 #[.agg #[.int .i64 a.pr, u], .agg #[.int .i64 b.pr, v]] w fun e w' => ∃ lv, e = .returned (.tuple #[lv, .int .i64 (swE a b)]) ∧ IS w' lv (swV a b) ∧ Below w.heap.size w w' := by
  have HU := Lib.hid hu
  have HV := Lib.hid hv
  have HNIL := Lib.hid (fun (W : World) => is_nil W)
  obtain ⟨ua, uc, rfl, k1, k2, _⟩ := id hu
  obtain ⟨va, vc, rfl, k3, k4, _⟩ := id hv
  have C1 := Lib.hid (fun W h => check_any a (.agg #[.int .i64 a.pr, .slice ua a.ws.length uc]) W ⟨_, rfl, h⟩)
  have C2 := Lib.hid (fun W h1 h2 => Match_any b a (.slice va b.ws.length vc) (.slice ua a.ws.length uc) W h1 h2)
  have S1 := Lib.hid (@sw_1 a b)
  have S2 := Lib.hid (@sw_2 a b)
  have S3 := Lib.hid (@sw_3 a b)
  have S4 := Lib.hid (fun o => @sw_4 a b o)
  have HDS := Lib.hid (matchL_dst b a)
  have HL4 := Lib.hid (matchL_len4 b a)
  generalize swV a b = sv at *
  generalize swE a b = se at *
  generalize mE b a = me at *
  generalize matchL b a = t0 at *
  generalize chkS a = za at *
  clear hu hv
  go_enter Try.func24, Try.ntmps24
  go_wp2_with fail
  have B0 : Below w.heap.size w ((w.alloc (.cells #[.int .i64 a.pr, .slice ua a.ws.length uc] 24)).alloc (.cells #[.int .i64 b.pr, .slice va b.ws.length vc] 24)) := (below_alloc _ _).alloc (by simp) _
  have h0 := heap_alloc2_old w (.cells #[.int .i64 a.pr, .slice ua a.ws.length uc] 24) (.cells #[.int .i64 b.pr, .slice va b.ws.length vc] 24)
  have h1 := heap_alloc2_new w (.cells #[.int .i64 a.pr, .slice ua a.ws.length uc] 24) (.cells #[.int .i64 b.pr, .slice va b.ws.length vc] 24)
  have hz0 : w.heap.size + 2 ≤ ((w.alloc (.cells #[.int .i64 a.pr, .slice ua a.ws.length uc] 24)).alloc (.cells #[.int .i64 b.pr, .slice va b.ws.length vc] 24)).heap.size := by simp
  generalize (w.alloc (.cells #[.int .i64 a.pr, .slice ua a.ws.length uc] 24)).alloc (.cells #[.int .i64 b.pr, .slice va b.ws.length vc] 24) = W0 at *
  refine (C1.out W0 (HU.out.below B0)).mono ?_
  rintro e w1 ⟨rfl, b1⟩
  have H01 := Lib.hid (hb_below b1 h0 (by omega))
  have H11 := Lib.hid (hb_below b1 h1 (by omega))
  have HB1 := Lib.hid (bon B0 b1)
  have hz1 : w.heap.size + 2 ≤ w1.heap.size := Nat.le_trans hz0 b1.size
  have ca0 : w1.cell? ⟨w.heap.size, 0, none⟩ = some (.int .i64 a.pr) := cell_of_row w1 _ 0 _ _ _ H01.out
  have ca1 : w1.cell? ⟨w.heap.size, 1, none⟩ = some (.slice ua a.ws.length uc) := cell_of_row w1 _ 1 _ _ _ H01.out
  have cb0 : w1.cell? ⟨w.heap.size + 1, 0, none⟩ = some (.int .i64 b.pr) := cell_of_row w1 _ 0 _ _ _ H11.out
  have cb1 : w1.cell? ⟨w.heap.size + 1, 1, none⟩ = some (.slice va b.ws.length vc) := cell_of_row w1 _ 1 _ _ _ H11.out
  clear b1 B0 h0 h1 hz0
  by_cases hza : za = 0
  · subst hza
    go_wp2_with fail
    refine (C2.out w1 (HV.out.below HB1.out) (HU.out.below HB1.out)).mono ?_
    rintro e w2 ⟨lv, rfl, how, b2⟩
    have HB2 := Lib.hid (bon HB1.out b2)
    have hz2 := b2.size
    have HOW := Lib.hid how
    obtain ⟨ga, c, rfl⟩ := own_form how
    clear b2 how ca0 ca1 cb0 cb1 H01 H11
    by_cases hme : me = 0
    · subst hme
      have S3' := Lib.hid (fun h => S3.out (by trivial) (by trivial) h)
      have S4' := Lib.hid (fun o h => S4.out o (by trivial) (by trivial) h)
      generalize hn : t0.length = n at *
      have HN := Lib.hid hn
      have hn4 := HL4.out
      clear hn S1 S2 S3 S4
      go_wp2_with fail
      go_loopw [9, 10] (fun ov pv wr => ∃ (p m : Nat) (t : List Int) (o : List Nat), pv = .int .i64 (p : Int) ∧ p ≤ n ∧ m ≤ 5000 ∧ SwI t0 t o m p ∧ Dst t ∧ wr.ownsRow w1.heap.size 3 1 (.slice ga n c) n (t.map (Value.int .i64)) ∧ wr.ownsRow w2.heap.size 3 1 ov (LI o).length ((LI o).map (Value.int .i64)) ∧ Below w.heap.size w wr ∧ w2.heap.size ≤ wr.heap.size) (fun ov pv _ => (5001 - lenV ov) * 402 + (401 - (intOf pv).toNat))
      case atStart => exact ⟨0, 0, t0, [], rfl, Nat.zero_le _, Nat.zero_le _, swI_0 t0, HDS.out, HOW.out, ⟨rfl, .inl ⟨rfl, rfl⟩⟩, HB2.out, Nat.le_refl _⟩
      case round =>
        obtain ⟨p, m, t, o, rfl, hpn, hm, hsw, hds, ht, ho, hbr, hzr⟩ := hrel
        rename World => wr
        have HSW := Lib.hid hsw
        have HDT := Lib.hid hds
        have HT := Lib.hid ht
        have HO := Lib.hid ho
        have HBR := Lib.hid hbr
        have hln : t.length = n := hsw.size.trans HN.out
        have hol : o.length = m := hsw.len
        have HLI := Lib.hid (show (LI o).length = m by rw [LI_len]; exact hol)
        obtain ⟨oa, oc, rfl⟩ := own_form ho
        have hp1 : IntKind.i64.wrap ((p : Int) + 1) = ((p + 1 : Nat) : Int) := (IntWalk.i64_in _ (by omega)).trans (by omega)
        have HP1 := Lib.hid hp1
        clear hsw hds ht ho hbr hp1
        by_cases hpl : p + 1 < n
        · have j0 : (0 : Int) ≤ (p : Int) := by omega
          have j1 : (p : Int) + 1 < (n : Int) := by omega
          have j2 : (p : Int) < (n : Int) := by omega
          obtain ⟨g, c', e⟩ := own_pos HT.out (by omega)
          cases e
          obtain ⟨hgw1, hglt⟩ := World.ownsRow.lt HOW.out g rfl
          have hgw : w.heap.size ≤ g := by omega
          have hgB : g < w2.heap.size := hglt
          have hgr : g < wr.heap.size := by omega
          obtain ⟨x, hx⟩ : ∃ x, t[p]? = some x := ⟨_, List.getElem?_eq_getElem (by omega)⟩
          obtain ⟨y, hy⟩ : ∃ y, t[p + 1]? = some y := ⟨_, List.getElem?_eq_getElem (by omega)⟩
          have HWR := Lib.hid (wrong_get hx hy)
          have HE1 := Lib.hid (show wr.cell? ⟨g, p, none⟩ = some (.int .i64 x) by rw [HT.out.cellAt p (by omega), List.getElem?_map, hx]; rfl)
          have HE2 := Lib.hid (show wr.cell? ⟨g, p + 1, none⟩ = some (.int .i64 y) by rw [HT.out.cellAt (p + 1) (by omega), List.getElem?_map, hy]; rfl)
          have hne : x ≠ y := fun e => by
            subst e
            have := HDT.out p (p + 1) x hx hy
            omega
          go_wp2_with fail
          refine wp_region_class (fun w' => Below wr.heap.size wr w') 9 (by kernel_rfl) (by kernel_rfl) (Below.refl _ wr).drew ?_
          simp only [List.take_succ_cons, List.take_zero, List.drop_succ_cons, List.drop_zero]
          refine quiet_moveV rfl _ rfl (.slice (some ⟨g, 0, none⟩) n c) rfl ?_
          simp only [Act.put, List.setIfInBounds_toArray, List.set_cons_zero, List.set_cons_succ]
          refine quiet_moveV rfl _ rfl (.int .i64 (p : Int)) rfl ?_
          simp only [Act.put, List.setIfInBounds_toArray, List.set_cons_zero, List.set_cons_succ]
          refine quiet_still rfl (.pointer (some ⟨g, p, none⟩)) (fun w _ => by go_simp) ?_
          simp only [Act.put, List.setIfInBounds_toArray, List.set_cons_zero, List.set_cons_succ]
          refine quiet_load1 rfl _ _ rfl ⟨g, p, none⟩ rfl (.int .i64 x) (load_int _ _) (fun _ h => (h.cell (p := ⟨g, p, none⟩) hgr).trans HE1.out) ?_
          simp only [Act.put, List.setIfInBounds_toArray, List.set_cons_zero, List.set_cons_succ]
          refine quiet_moveV rfl _ rfl (.slice (some ⟨g, 0, none⟩) n c) rfl ?_
          simp only [Act.put, List.setIfInBounds_toArray, List.set_cons_zero, List.set_cons_succ]
          refine quiet_moveV rfl _ rfl (.int .i64 (p : Int)) rfl ?_
          simp only [Act.put, List.setIfInBounds_toArray, List.set_cons_zero, List.set_cons_succ]
          refine quiet_still rfl (.int .i64 ((p + 1 : Nat) : Int)) (fun w _ => by have := HP1.out; go_simp) ?_
          simp only [Act.put, List.setIfInBounds_toArray, List.set_cons_zero, List.set_cons_succ]
          refine quiet_still rfl (.pointer (some ⟨g, p + 1, none⟩)) (fun w _ => by go_simp; first | done | exact fun h => absurd h (by omega)) ?_
          simp only [Act.put, List.setIfInBounds_toArray, List.set_cons_zero, List.set_cons_succ]
          refine quiet_load1 rfl _ _ rfl ⟨g, p + 1, none⟩ rfl (.int .i64 y) (load_int _ _) (fun _ h => (h.cell (p := ⟨g, p + 1, none⟩) hgr).trans HE2.out) ?_
          simp only [Act.put, List.setIfInBounds_toArray, List.set_cons_zero, List.set_cons_succ]
          unfold wpQuiet
          intro wv hb
          have HB3 := Lib.hid hb
          clear hb
          by_cases hlt : x < y
          · have hnw : wrongB t p = false := by rw [HWR.out]; exact decide_eq_false (by omega)
            have HS2 := Lib.hid (HSW.out.next hnw)
            clear hnw hx hy
            go_wp2_with fail
            go_roundw
            case rel => exact ⟨p + 1, m, t, o, by go_num, by omega, hm, HS2.out, HDT.out, own_below HT.out HB3.out, own_below HO.out HB3.out, HBR.out.trans (HB3.out.mono HBR.out.size), Nat.le_trans hzr HB3.out.size⟩
            case measure => simp only [lenV, intOf]; have := HLI.out; omega
          · have hw : wrongB t p = true := by rw [HWR.out]; exact decide_eq_true (by omega)
            by_cases hfull : m = 5000
            · have h5 : (((LI o).length : Int) == 5000) = true := by rw [beq_iff_eq]; have := HLI.out; omega
              have hsf := HSW.out.swap (p' := 0) (by rw [hln]; exact hpl) hw (Nat.zero_le _)
              rw [hfull] at hsf
              obtain ⟨rfl, rfl⟩ := S3'.out hsf.full
              have HBF := Lib.hid (HBR.out.trans (HB3.out.mono HBR.out.size))
              clear hw hx hy hsf
              go_wp2_with fail
              go_ret2
              exact ⟨_, rfl, HNIL.out _, HBF.out⟩
            · have h5 : (((LI o).length : Int) == 5000) = false := by rw [beq_eq_false_iff_ne]; have := HLI.out; omega
              have HS2 := Lib.hid (HSW.out.swap (p' := p - 1) (by rw [hln]; exact hpl) hw (Nat.le_refl _))
              have HD2 := Lib.hid (dst_swap HDT.out (p := p) (by rw [hln]; exact hpl))
              replace HT := Lib.hid (own_below HT.out HB3.out)
              replace HO := Lib.hid (own_below HO.out HB3.out)
              replace HBR := Lib.hid (HBR.out.trans (HB3.out.mono HBR.out.size))
              replace hzr := Nat.le_trans hzr HB3.out.size
              replace hgr := Nat.lt_of_lt_of_le hgr HB3.out.size
              clear HE1 HE2 HB3 hw
              go_wp2_with fail
              clear h5
              have hTd : wv.drew.ownsRow w1.heap.size 3 1 (.slice (some ⟨g, 0, none⟩) n c) n (t.map (Value.int .i64)) := HT.out
              have d1 : wv.drew.cell? ⟨g, p, none⟩ = some (.int .i64 x) := by rw [hTd.cellAt p (by omega), List.getElem?_map, hx]; rfl
              have d2 : wv.drew.cell? ⟨g, p + 1, none⟩ = some (.int .i64 y) := by rw [hTd.cellAt (p + 1) (by omega), List.getElem?_map, hy]; rfl
              have f1 : wv.drew.frozen? ⟨g, p, none⟩ = false := hTd.frozenAt p
              have hT1 := (hTd.stored p (.int .i64 y)).1
              have d3 : (wv.drew.setCell ⟨g, p, none⟩ (.int .i64 y)).cell? ⟨g, p + 1, none⟩ = some (.int .i64 y) := by rw [hT1.cellAt (p + 1) (by omega), List.getElem?_set, if_neg (by omega), List.getElem?_map, hy]; rfl
              have f3 : (wv.drew.setCell ⟨g, p, none⟩ (.int .i64 y)).frozen? ⟨g, p + 1, none⟩ = false := hT1.frozenAt (p + 1)
              have hT2 := (hT1.stored (p + 1) (.int .i64 x)).1
              rw [show ((t.map (Value.int .i64)).set p (.int .i64 y)).set (p + 1) (.int .i64 x) = (swapL t p).map (Value.int .i64) by unfold swapL; rw [hx, hy, List.map_set, List.map_set]; rfl] at hT2
              have HT2 := Lib.hid hT2
              have HOS := Lib.hid (own_setOther (own_setOther (show wv.drew.ownsRow w2.heap.size 3 1 (.slice oa (LI o).length oc) (LI o).length ((LI o).map (Value.int .i64)) from HO.out) (g := g) hgB p (.int .i64 y)) (g := g) hgB (p + 1) (.int .i64 x))
              have HBS := Lib.hid (show Below w.heap.size w ((wv.drew.setCell ⟨g, p, none⟩ (.int .i64 y)).setCell ⟨g, p + 1, none⟩ (.int .i64 x)) from (HBR.out.drew.setCell (p := ⟨g, p, none⟩) hgw _).setCell (p := ⟨g, p + 1, none⟩) hgw _)
              have HZS := Lib.hid (show w2.heap.size ≤ ((wv.drew.setCell ⟨g, p, none⟩ (.int .i64 y)).setCell ⟨g, p + 1, none⟩ (.int .i64 x)).heap.size by simp; exact hzr)
              clear hTd hT1 hT2
              clear hx hy
              refine wp_region_held (S := fun _ => True) (by kernel_rfl) ?_
              refine held_takeX (i := 0) rfl (by kernel_rfl) (by kernel_rfl) (by kernel_rfl) (.slice (some ⟨g, 0, none⟩) n c) (fun _ _ _ h => h) trivial rfl (fun w _ => by go_simp) ?_
              simp only [Act.put, List.getElem_toArray, List.getElem_cons_succ, List.getElem_cons_zero, List.setIfInBounds_toArray, List.set_cons_zero, List.set_cons_succ]
              refine held_takeX (i := 1) rfl (by kernel_rfl) (by kernel_rfl) (by kernel_rfl) (.int .i64 (p : Int)) (fun _ _ _ h => h) trivial rfl (fun w _ => by go_simp) ?_
              simp only [Act.put, List.getElem_toArray, List.getElem_cons_succ, List.getElem_cons_zero, List.setIfInBounds_toArray, List.set_cons_zero, List.set_cons_succ]
              refine held_takeX (i := 2) rfl (by kernel_rfl) (by kernel_rfl) (by kernel_rfl) (.slice (some ⟨g, 0, none⟩) n c) (fun _ _ _ h => h) trivial rfl (fun w _ => by go_simp) ?_
              simp only [Act.put, List.getElem_toArray, List.getElem_cons_succ, List.getElem_cons_zero, List.setIfInBounds_toArray, List.set_cons_zero, List.set_cons_succ]
              refine held_takeX (i := 3) rfl (by kernel_rfl) (by kernel_rfl) (by kernel_rfl) (.int .i64 (p : Int)) (fun _ _ _ h => h) trivial rfl (fun w _ => by go_simp) ?_
              simp only [Act.put, List.getElem_toArray, List.getElem_cons_succ, List.getElem_cons_zero, List.setIfInBounds_toArray, List.set_cons_zero, List.set_cons_succ]
              refine held_takeX (i := 4) rfl (by kernel_rfl) (by kernel_rfl) (by kernel_rfl) (.int .i64 ((p + 1 : Nat) : Int)) (fun _ _ _ h => h) trivial rfl (fun w _ => by have := HP1.out; go_simp) ?_
              simp only [Act.put, List.getElem_toArray, List.getElem_cons_succ, List.getElem_cons_zero, List.setIfInBounds_toArray, List.set_cons_zero, List.set_cons_succ]
              refine held_takeX (i := 5) rfl (by kernel_rfl) (by kernel_rfl) (by kernel_rfl) (.slice (some ⟨g, 0, none⟩) n c) (fun _ _ _ h => h) trivial rfl (fun w _ => by go_simp) ?_
              simp only [Act.put, List.getElem_toArray, List.getElem_cons_succ, List.getElem_cons_zero, List.setIfInBounds_toArray, List.set_cons_zero, List.set_cons_succ]
              refine held_takeX (i := 6) rfl (by kernel_rfl) (by kernel_rfl) (by kernel_rfl) (.int .i64 (p : Int)) (fun _ _ _ h => h) trivial rfl (fun w _ => by go_simp) ?_
              simp only [Act.put, List.getElem_toArray, List.getElem_cons_succ, List.getElem_cons_zero, List.setIfInBounds_toArray, List.set_cons_zero, List.set_cons_succ]
              refine held_takeX (i := 7) rfl (by kernel_rfl) (by kernel_rfl) (by kernel_rfl) (.int .i64 ((p + 1 : Nat) : Int)) (fun _ _ _ h => h) trivial rfl (fun w _ => by have := HP1.out; go_simp) ?_
              simp only [Act.put, List.getElem_toArray, List.getElem_cons_succ, List.getElem_cons_zero, List.setIfInBounds_toArray, List.set_cons_zero, List.set_cons_succ]
              refine held_takeX (i := 8) rfl (by kernel_rfl) (by kernel_rfl) (by kernel_rfl) (.pointer (some ⟨g, p + 1, none⟩)) (fun _ _ _ h => h) trivial rfl (fun w _ => by go_simp; first | done | exact fun h => absurd h (by omega)) ?_
              simp only [Act.put, List.getElem_toArray, List.getElem_cons_succ, List.getElem_cons_zero, List.setIfInBounds_toArray, List.set_cons_zero, List.set_cons_succ]
              refine held_takeX (i := 10) rfl (by kernel_rfl) (by kernel_rfl) (by kernel_rfl) (.slice (some ⟨g, 0, none⟩) n c) (fun _ _ _ h => h) trivial rfl (fun w _ => by go_simp) ?_
              simp only [Act.put, List.getElem_toArray, List.getElem_cons_succ, List.getElem_cons_zero, List.setIfInBounds_toArray, List.set_cons_zero, List.set_cons_succ]
              refine held_takeX (i := 11) rfl (by kernel_rfl) (by kernel_rfl) (by kernel_rfl) (.int .i64 (p : Int)) (fun _ _ _ h => h) trivial rfl (fun w _ => by go_simp) ?_
              simp only [Act.put, List.getElem_toArray, List.getElem_cons_succ, List.getElem_cons_zero, List.setIfInBounds_toArray, List.set_cons_zero, List.set_cons_succ]
              refine held_takeX (i := 12) rfl (by kernel_rfl) (by kernel_rfl) (by kernel_rfl) (.pointer (some ⟨g, p, none⟩)) (fun _ _ _ h => h) trivial rfl (fun w _ => by go_simp) ?_
              simp only [Act.put, List.getElem_toArray, List.getElem_cons_succ, List.getElem_cons_zero, List.setIfInBounds_toArray, List.set_cons_zero, List.set_cons_succ]
              refine held_loads (i := 9) (j := 13) (by kernel_rfl) (by kernel_rfl) (by kernel_rfl) rfl rfl rfl rfl (.int .i64 y) (.int .i64 x) _ _ _ _ rfl rfl ⟨g, p + 1, none⟩ ⟨g, p, none⟩ rfl rfl rfl rfl (load_int _ _ _ d2) (load_int _ _ _ d1) rfl (by kernel_rfl) trivial ?_
              simp only [Act.put, List.getElem_toArray, List.getElem_cons_succ, List.getElem_cons_zero, List.setIfInBounds_toArray, List.set_cons_zero, List.set_cons_succ]
              refine held_takeX (i := 14) rfl (by kernel_rfl) (by kernel_rfl) (by kernel_rfl) (.pointer (some ⟨g, p, none⟩)) (fun _ _ _ h => h) trivial rfl (fun w _ => by go_simp) ?_
              simp only [Act.put, List.getElem_toArray, List.getElem_cons_succ, List.getElem_cons_zero, List.setIfInBounds_toArray, List.set_cons_zero, List.set_cons_succ]
              refine held_storeX (i := 15) (by kernel_rfl) rfl rfl _ _ _ rfl ⟨g, p, none⟩ (.int .i64 y) rfl rfl (store_i9 _ _ _ _ d1 f1) trivial ?_
              simp only [Act.put, List.getElem_toArray, List.getElem_cons_succ, List.getElem_cons_zero, List.setIfInBounds_toArray, List.set_cons_zero, List.set_cons_succ]
              refine held_takeX (i := 16) rfl (by kernel_rfl) (by kernel_rfl) (by kernel_rfl) (.pointer (some ⟨g, p + 1, none⟩)) (fun _ _ _ h => h) trivial rfl (fun w _ => by go_simp; first | done | exact fun h => absurd h (by omega)) ?_
              simp only [Act.put, List.getElem_toArray, List.getElem_cons_succ, List.getElem_cons_zero, List.setIfInBounds_toArray, List.set_cons_zero, List.set_cons_succ]
              refine held_storeX (i := 17) (by kernel_rfl) rfl rfl _ _ _ rfl ⟨g, p + 1, none⟩ (.int .i64 x) rfl rfl (store_i9 _ _ _ _ d3 f3) trivial ?_
              simp only [Act.put, List.getElem_toArray, List.getElem_cons_succ, List.getElem_cons_zero, List.setIfInBounds_toArray, List.set_cons_zero, List.set_cons_succ]
              refine wpAnyH_done (by kernel_rfl) ?_ _
              clear d1 d2 d3 f1 f3
              have e8 : ({ heap := wv.heap, tape := wv.tape, drawn := wv.drawn + 1, os := wv.os, output := wv.output } : World) = wv.drew := rfl
              try rw [e8]
              clear e8
              generalize (wv.drew.setCell ⟨g, p, none⟩ (.int .i64 y)).setCell ⟨g, p + 1, none⟩ (.int .i64 x) = ws at *
              go_wp2_with (at_builtin; refine app_one (w0 := ws) w2.heap.size _ (LI o) (p : Int) rfl _ _ rfl rfl HOS.out rfl (by have := HLI.out; omega) (Below.refl _ _) HZS.out ?_; intro g1 cap1 wA hown1 hb1)
              have HOA := Lib.hid hown1
              have HTA := Lib.hid (own_blk HT2.out hgB hb1)
              have HBA := Lib.hid (HBS.out.trans (hb1.mono (by omega)))
              have hzA : w2.heap.size ≤ wA.heap.size := by have := hb1.size; have := HZS.out; omega
              have hmx : max (IntKind.i64.wrap ((p : Int) - 1)) 0 = ((p - 1 : Nat) : Int) := by rw [IntWalk.i64_in _ (by omega)]; omega
              clear hown1 hb1
              go_wp2_with fail
              go_roundw
              case rel => exact ⟨p - 1, m + 1, swapL t p, o ++ [p], by first | rfl | (rw [hmx]) | go_num, by omega, by omega, HS2.out, HD2.out, HTA.out, by rw [LI_snoc, List.length_append]; exact HOA.out, HBA.out, hzA⟩
              case measure => simp only [lenV, intOf]; have := HLI.out; omega
        · have j1 : ¬ (p : Int) + 1 < (n : Int) := by omega
          have hdn := HSW.out.done (by rw [hln]; omega) hm
          obtain ⟨rfl, rfl⟩ := S4'.out o hdn
          have HIS := Lib.hid (is_own HO.out rfl)
          clear hdn
          go_wp2_with fail
          go_ret2
          exact ⟨_, rfl, HIS.out, HBR.out⟩
    · obtain ⟨rfl, rfl⟩ := S2.out (by trivial) hme
      have hz' : (se == 0) = false := beq_eq_false_iff_ne.2 hme
      go_wp2_with fail
      go_ret2
      exact ⟨_, rfl, HNIL.out _, HB2.out⟩
  · obtain ⟨rfl, rfl⟩ := S1.out hza
    have hz' : (se == 0) = false := beq_eq_false_iff_ne.2 hza
    go_wp2_with fail
    go_ret2
    exact ⟨_, rfl, HNIL.out _, HB1.out⟩
end Go.Proofs.Ytcjbjlepgdggpaa
