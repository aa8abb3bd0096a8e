/- The reference's Swaps; the law of exchanges. -/
import Derived.Test.YtcjbjlepgdggpaaTY
namespace Go.Proofs.Ytcjbjlepgdggpaa
open Go.RowKit Go.Shelf Go.Lib
set_option maxRecDepth 100000
set_option linter.unusedSimpArgs false
attribute [local irreducible] wpQuiet
/-- The places that are known so far. -/
def toC (l : List Nat) (n k : Nat) : List Int := (List.range n).map fun i => if l.idxOf i < k then (l.idxOf i : Int) else 0
theorem toC_len (l : List Nat) (n k : Nat) : (toC l n k).length = n := by simp [toC]
theorem toC_0 (l : List Nat) (n : Nat) : toC l n 0 = List.replicate n 0 := by
  unfold toC
  apply List.ext_getElem?
  intro j
  by_cases h : j < n
  · rw [List.getElem?_map, List.getElem?_range h, List.getElem?_replicate, if_pos h]
    rfl
  · rw [List.getElem?_eq_none (by simp; omega), List.getElem?_eq_none (by simp; omega)]
theorem toC_next {l : List Nat} (hd : l.Nodup) {n k i : Nat} (hk : l[k]? = some i) : (toC l n k).set i (k : Int) = toC l n (k + 1) := by
  have hik := idx_at hd hk
  unfold toC
  apply List.ext_getElem?
  intro j
  rw [List.getElem?_set, List.length_map, List.length_range]
  by_cases h : j < n
  · by_cases c : i = j
    · subst c
      rw [if_pos rfl, if_pos h, List.getElem?_map, List.getElem?_range h]
      simp [hik]
    · rw [if_neg c, List.getElem?_map, List.getElem?_range h, List.getElem?_map, List.getElem?_range h]
      simp only [Option.map_some, Option.some.injEq]
      have hne : l.idxOf j ≠ k := fun e => by
        have : l[l.idxOf j]? = some i := by rw [e]; exact hk
        have hlt : l.idxOf j < l.length := by rw [e]; exact (List.getElem?_eq_some_iff.1 hk).1
        have := at_idx (l := l) (i := j) (List.idxOf_lt_length_iff.1 hlt)
        rw [e, hk] at this
        simp at this
        exact c this
      by_cases q : l.idxOf j < k
      · rw [if_pos q, if_pos (by omega)]
      · rw [if_neg q, if_neg (by omega)]
  · by_cases c : i = j
    · subst c
      rw [if_pos rfl, if_neg h, List.getElem?_eq_none (by simp; omega)]
    · rw [if_neg c, List.getElem?_eq_none (by simp; omega), List.getElem?_eq_none (by simp; omega)]
theorem toC_all {l : List Nat} {n : Nat} (hm : ∀ i, i < n → i ∈ l) (hl : l.length = n) : toC l n n = LI (invL l n) := by
  unfold toC LI invL
  rw [List.map_map]
  apply List.map_congr_left
  intro i hi
  have := List.idxOf_lt_length_iff.2 (hm i (List.mem_range.1 hi))
  simp only [Function.comp_apply]
  rw [if_pos (by omega)]
/-- What the order back is. -/
theorem mE_back {a b : Sh} (h1 : chkS a = 0) (h2 : chkS b = 0) : mE b a = mE a b := by
  by_cases h3 : a.pr ≠ b.pr ∨ a.ws.length ≠ b.ws.length
  · rw [(mE_3 h1 h2 h3).1, (mE_3 h2 h1 (h3.imp (fun h e => h e.symm) (fun h e => h e.symm))).1]
  · have h4 : ¬ (b.pr ≠ a.pr ∨ b.ws.length ≠ a.ws.length) := fun h => h3 (h.imp (fun h e => h e.symm) (fun h e => h e.symm))
    have hl : a.ws.length = b.ws.length := Classical.byContradiction fun h => h3 (.inr h)
    cases hm : matchTo a.ws b.ws b.ws.length with
    | none =>
      rw [(mE_4 h1 h2 hm).1, (mE_4 h2 h1 (by rw [hl]; exact match_none hl (by rw [hl]; exact hm))).1]
    | some l =>
      rw [(mE_5 h1 h2 h3 hm).1, (mE_5 h2 h1 h4 (l := invL l b.ws.length) (by rw [hl]; exact match_inv hl (by rw [hl]; exact hm))).1]
theorem matchL_back {a b : Sh} {l : List Nat} (h1 : chkS a = 0) (h2 : chkS b = 0) (h3 : ¬ (a.pr ≠ b.pr ∨ a.ws.length ≠ b.ws.length)) (hm : matchTo a.ws b.ws b.ws.length = some l) : matchL b a = LI (invL l b.ws.length) := by
  have h4 : ¬ (b.pr ≠ a.pr ∨ b.ws.length ≠ a.ws.length) := fun h => h3 (h.imp (fun h e => h e.symm) (fun h e => h e.symm))
  have hl : a.ws.length = b.ws.length := Classical.byContradiction fun h => h3 (.inr h)
  exact (mE_5 h2 h1 h4 (l := invL l b.ws.length) (by rw [hl]; exact match_inv hl (by rw [hl]; exact hm))).2
theorem mE_inv {a b : Sh} (h : mE a b = 0) : chkS a = 0 ∧ chkS b = 0 ∧ ¬ (a.pr ≠ b.pr ∨ a.ws.length ≠ b.ws.length) ∧ ∃ l, matchTo a.ws b.ws b.ws.length = some l := by
  have ha : chkS a = 0 := Classical.byContradiction fun hc => hc ((mE_1 (b := b) hc).1.symm.trans h)
  have hb : chkS b = 0 := Classical.byContradiction fun hc => hc ((mE_2 ha hc).1.symm.trans h)
  refine ⟨ha, hb, fun h3 => ?_, ?_⟩
  · rw [(mE_3 ha hb h3).1] at h; cases h
  · cases hm : matchTo a.ws b.ws b.ws.length with
    | none => rw [(mE_4 ha hb hm).1] at h; cases h
    | some l => exact ⟨l, rfl⟩
theorem swE_eq (a b : Sh) : swE a b = if mE a b ≠ 0 then mE a b else if swOut (matchL b a) = none then 5 else 0 := by
  by_cases ha : chkS a = 0
  · by_cases hb : chkS b = 0
    · unfold swE
      rw [if_neg (by simp [ha]), mE_back ha hb]
    · have e1 := (mE_1 (b := a) hb).1
      have e2 := (mE_2 ha hb).1
      rw [(sw_2 ha (by rw [e1]; exact hb)).1, e2, if_pos hb, e1]
  · have e := (mE_1 (b := b) ha).1
    rw [(sw_1 ha).1, e, if_pos ha]
theorem sr_1 {a b : Sh} (h : mE a b ≠ 0) : swE a b = mE a b ∧ swV a b = [] := by
  have e : swE a b = mE a b := by rw [swE_eq, if_pos h]
  exact ⟨e, by unfold swV; rw [if_neg (by rw [e]; exact h)]⟩
theorem sr_2 {a b : Sh} (h : mE a b = 0) (h3 : swOut (matchL b a) = none) : swE a b = 5 ∧ swV a b = [] := by
  have e : swE a b = 5 := by rw [swE_eq, if_neg (by simp [h]), if_pos h3]
  exact ⟨e, by unfold swV; rw [if_neg (by rw [e]; decide)]⟩
theorem sr_3 {a b : Sh} {o : List Nat} (h : mE a b = 0) (h3 : swOut (matchL b a) = some o) : swE a b = 0 ∧ swV a b = LI o := by
  have e : swE a b = 0 := by rw [swE_eq, if_neg (by simp [h]), if_neg (by simp [h3])]
  exact ⟨e, by unfold swV; rw [if_pos e, h3]; rfl⟩
theorem made_ints (n : Nat) : (madeCells #[.int .i64 0] n).toList = (List.replicate n (0 : Int)).map (Value.int .i64) := by
  rw [toList_madeCells_one, List.map_replicate]
set_option maxHeartbeats 8000000 in
theorem refSwaps_any (a b : Sh) (u v : Value) (w : World) (hu : WS w u a.ws) (hv : WS w v b.ws) :
    Calls Try.prog 25 #[.agg #[.int .i64 a.pr, u], .agg #[.int .i64 b.pr, v]] w fun e w' => ∃ lv, e = .returned (.tuple #[lv, .int .i64 (swE a b)]) ∧ IS w' lv (swV a b) ∧ Below w.heap.size w w' := by
  have HU := Lib.hid hu
  have HV := Lib.hid hv
  have HNIL := Lib.hid (fun (W : World) => is_nil W)
  obtain ⟨ua, uc, rfl, k1, k2, _⟩ := id hu
  obtain ⟨va, vc, rfl, k3, k4, _⟩ := id hv
  have C2 := Lib.hid (fun W h1 h2 => refMatch_any a b (.slice ua a.ws.length uc) (.slice va b.ws.length vc) W h1 h2)
  have S1 := Lib.hid (@sr_1 a b)
  have S2 := Lib.hid (@sr_2 a b)
  have S3 := Lib.hid (fun o => @sr_3 a b o)
  have HIN := Lib.hid (@mE_inv a b)
  have HBK := Lib.hid (fun l => @matchL_back a b l)
  have HLL := Lib.hid (fun l h1 h2 h3 h4 => (@mE_5 a b l h1 h2 h3 h4).2)
  have HDS := Lib.hid (matchL_dst b a)
  generalize swV a b = sv at *
  generalize swE a b = se at *
  generalize mE a b = me at *
  generalize matchL b a = t0 at *
  generalize matchL a b = ml at *
  clear hu hv
  go_enter Try.func25, Try.ntmps25
  go_wp2_with fail
  have B0 : Below w.heap.size w ((w.alloc (.cells #[.int .i64 a.pr, .slice ua a.ws.length uc] 24)).alloc (.cells #[.int .i64 b.pr, .slice va b.ws.length vc] 24)) := (below_alloc _ _).alloc (by simp) _
  have h0 := heap_alloc2_old w (.cells #[.int .i64 a.pr, .slice ua a.ws.length uc] 24) (.cells #[.int .i64 b.pr, .slice va b.ws.length vc] 24)
  have h1 := heap_alloc2_new w (.cells #[.int .i64 a.pr, .slice ua a.ws.length uc] 24) (.cells #[.int .i64 b.pr, .slice va b.ws.length vc] 24)
  have hz0 : w.heap.size + 2 ≤ ((w.alloc (.cells #[.int .i64 a.pr, .slice ua a.ws.length uc] 24)).alloc (.cells #[.int .i64 b.pr, .slice va b.ws.length vc] 24)).heap.size := by simp
  generalize (w.alloc (.cells #[.int .i64 a.pr, .slice ua a.ws.length uc] 24)).alloc (.cells #[.int .i64 b.pr, .slice va b.ws.length vc] 24) = W0 at *
  refine (C2.out W0 (HU.out.below B0) (HV.out.below B0)).mono ?_
  rintro e w1 ⟨lv, rfl, him, b1⟩
  have HB1 := Lib.hid (bon B0 b1)
  have HZ1 := Lib.hid (show w.heap.size ≤ w1.heap.size by have := b1.size; omega)
  have HIM := Lib.hid him
  obtain ⟨la, lc, rfl, _, _, _, hia⟩ := id him
  have HIA := Lib.hid hia
  clear b1 B0 h0 h1 hz0 him hia
  by_cases hme : me = 0
  · subst hme
    obtain ⟨ha, hb, h3, l, hm⟩ := HIN.out (by trivial)
    have hml := HLL.out l ha hb h3 hm
    subst hml
    have ht0 := HBK.out l ha hb h3 hm
    subst ht0
    obtain ⟨hcl1, hcl2, hcl3⟩ := matchTo_clo hm
    have hln : a.ws.length = b.ws.length := Classical.byContradiction fun h => h3 (.inr h)
    have hn4 := (chk_small hb).2.2.1
    have HND := Lib.hid (match_nodup hm)
    have HME := Lib.hid (show ∀ i ∈ l, i < b.ws.length from fun i hi => by have := hcl3 i hi; omega)
    have HAL := Lib.hid (mem_all HND.out HME.out hcl2)
    have S2' := Lib.hid (fun h => S2.out (by trivial) h)
    have S3' := Lib.hid (fun o h => S3.out o (by trivial) h)
    have hlen : (LI l).length = b.ws.length := by rw [LI_len]; exact hcl2
    generalize hn : b.ws.length = n at *
    have HLN := Lib.hid hlen
    have HL2 := Lib.hid hcl2
    clear hcl1 hcl2 hcl3 hln hm h3 hn S1 S2 S3 HBK HLL HIN
    have hmk := mk_full n (by omega) w1
    obtain ⟨w2, hw2⟩ : ∃ w2, w2 = w1.alloc (.cells (madeCells #[.int .i64 0] n) 3) := ⟨_, rfl⟩
    have B2 := below_alloc w1 (.cells (madeCells #[.int .i64 0] n) 3)
    have o2 := own_full n w1.heap.size (by omega) w1 (Nat.le_refl _)
    rw [← hw2] at hmk B2 o2
    rw [made_ints, ← toC_0 l n] at o2
    have HT2 := Lib.hid o2
    have HB2 := Lib.hid (bon HB1.out B2)
    have hgl : w1.heap.size < w2.heap.size := by rw [hw2]; simp
    have HIA2 := Lib.hid (HIA.out.below B2)
    have hz2 := B2.size
    have HBX2 := Lib.hid B2
    rw [hlen]
    clear hw2 B2 o2 hlen
    go_wp2_with fail
    clear hmk
    go_loopw [9] (fun kv wr => ∃ k : Nat, k ≤ n ∧ kv = .int .i64 (k : Int) ∧ wr.ownsRow w1.heap.size 3 1 (.slice (some ⟨w1.heap.size, 0, none⟩) n n) n ((toC l n k).map (Value.int .i64)) ∧ Below w1.heap.size w1 wr ∧ w2.heap.size ≤ wr.heap.size) (fun kv _ => n - (intOf kv).toNat)
    case atStart => exact ⟨0, Nat.zero_le _, rfl, HT2.out, HBX2.out, Nat.le_refl _⟩
    case round =>
      obtain ⟨k, hk, rfl, ht, hbr, hzr⟩ := hrel
      rename World => wr
      have HT := Lib.hid ht
      have HBR := Lib.hid hbr
      clear ht hbr
      by_cases hkl : k < n
      · have j0 : (0 : Int) ≤ (k : Int) := by omega
        have j1 : (k : Int) < (n : Int) := by omega
        obtain ⟨i, hi⟩ : ∃ i, l[k]? = some i := ⟨_, List.getElem?_eq_getElem (by have := HL2.out; omega)⟩
        have hin := HME.out i (List.mem_of_getElem? hi)
        obtain ⟨lb, lo, e, hlb, hlr⟩ := HIA.out k (i : Int) (by unfold LI; rw [List.getElem?_map, hi]; rfl)
        subst e
        have c1 : wr.cell? ⟨lb, lo + k, none⟩ = some (.int .i64 (i : Int)) := (HBR.out.cell (p := ⟨lb, lo + k, none⟩) hlb).trans hlr
        have j2 : (0 : Int) ≤ (i : Int) := by omega
        have j3 : (i : Int) < (n : Int) := by omega
        obtain ⟨z, hz⟩ : ∃ z, (toC l n k)[i]? = some z := ⟨_, List.getElem?_eq_getElem (by rw [toC_len]; exact hin)⟩
        have c2 : wr.cell? ⟨w1.heap.size, i, none⟩ = some (.int .i64 z) := by rw [HT.out.cellAt i (by omega), List.getElem?_map, hz]; rfl
        have f2 : wr.frozen? ⟨w1.heap.size, i, none⟩ = false := HT.out.frozenAt i
        have hT3 := (HT.out.stored i (.int .i64 (k : Int))).1
        rw [← List.map_set, toC_next HND.out hi] at hT3
        have HT3 := Lib.hid hT3
        have HB3 := Lib.hid (HBR.out.setCell (p := ⟨w1.heap.size, i, none⟩) (Nat.le_refl _) (.int .i64 (k : Int)))
        clear hT3 hz hi hlr
        go_wp2_with fail
        go_roundw
        case rel => exact ⟨k + 1, hkl, by go_num, HT3.out, HB3.out, by simpa using hzr⟩
        case measure => (simp [intOf] <;> omega)
      · have j1 : ¬ (k : Int) < (n : Int) := by omega
        have e : k = n := by omega
        subst e
        rw [toC_all HAL.out HL2.out] at HT
        have HOW := Lib.hid HT.out
        have HBW := Lib.hid (HB1.out.trans (HBR.out.mono HZ1.out))
        have hwB := HZ1.out
        obtain ⟨w3, hw3⟩ : ∃ w3 : Nat, w3 = wr.heap.size := ⟨_, rfl⟩
        have HW3 := Lib.hid hw3
        have hg3 : w1.heap.size < w3 := by omega
        clear hw3 HT HT2 HB2
        go_wp2_with fail
        go_loopw [10, 11] (fun ov pv wq => ∃ (p m : Nat) (t : List Int) (o : List Nat), pv = .int .i64 (p : Int) ∧ p ≤ k ∧ m ≤ 5000 ∧ SwI (LI (invL l k)) t o m p ∧ Dst t ∧ wq.ownsRow w1.heap.size 3 1 (.slice (some ⟨w1.heap.size, 0, none⟩) k k) k (t.map (Value.int .i64)) ∧ wq.ownsRow w3 3 1 ov (LI o).length ((LI o).map (Value.int .i64)) ∧ Below w.heap.size w wq ∧ w3 ≤ wq.heap.size) (fun ov pv _ => (5001 - lenV ov) * 402 + (401 - (intOf pv).toNat))
        case atStart => exact ⟨0, 0, _, [], rfl, Nat.zero_le _, Nat.zero_le _, swI_0 _, HDS.out, HOW.out, ⟨rfl, .inl ⟨rfl, rfl⟩⟩, HBW.out, Nat.le_of_eq HW3.out⟩
        case round =>
          generalize hgg : w1.heap.size = g at *
          clear HOW HBW
          obtain ⟨p, m, t, o, rfl, hpn, hm, hsw, hds, ht, ho, hbr, hzr⟩ := hrel
          rename World => wr2
          have HSW := Lib.hid hsw
          have HDT := Lib.hid hds
          have HT := Lib.hid ht
          have HO := Lib.hid ho
          have HBR2 := Lib.hid hbr
          have hln : t.length = k := by rw [hsw.size]; unfold LI invL; simp
          have hol : o.length = m := hsw.len
          have HLI := Lib.hid (show (LI o).length = m by rw [LI_len]; exact hol)
          obtain ⟨oa, oc, rfl⟩ := own_form ho
          have hp1 : IntKind.i64.wrap ((p : Int) + 1) = ((p + 1 : Nat) : Int) := (IntWalk.i64_in _ (by omega)).trans (by omega)
          have HP1 := Lib.hid hp1
          have hgB : g < w3 := hg3
          have hgw : w.heap.size ≤ g := hwB
          clear hsw hds ht ho hbr hp1
          by_cases hpl : p + 1 < k
          · have j0 : (0 : Int) ≤ (p : Int) := by omega
            have j3 : (p : Int) + 1 < (k : Int) := by omega
            have j2 : (p : Int) < (k : Int) := by omega
            have hgr : g < wr2.heap.size := by omega
            obtain ⟨x, hx⟩ : ∃ x, t[p]? = some x := ⟨_, List.getElem?_eq_getElem (by omega)⟩
            obtain ⟨y, hy⟩ : ∃ y, t[p + 1]? = some y := ⟨_, List.getElem?_eq_getElem (by omega)⟩
            have HWR := Lib.hid (wrong_get hx hy)
            have HE1 := Lib.hid (show wr2.cell? ⟨g, p, none⟩ = some (.int .i64 x) by rw [HT.out.cellAt p (by omega), List.getElem?_map, hx]; rfl)
            have HE2 := Lib.hid (show wr2.cell? ⟨g, p + 1, none⟩ = some (.int .i64 y) by rw [HT.out.cellAt (p + 1) (by omega), List.getElem?_map, hy]; rfl)
            go_wp2_with fail
            refine wp_region_class (fun w' => Below wr2.heap.size wr2 w') 9 (by kernel_rfl) (by kernel_rfl) (Below.refl _ wr2).drew ?_
            simp only [List.take_succ_cons, List.take_zero, List.drop_succ_cons, List.drop_zero]
            refine quiet_moveV rfl _ rfl (.slice (some ⟨g, 0, none⟩) k k) rfl ?_
            simp only [Act.put, List.setIfInBounds_toArray, List.set_cons_zero, List.set_cons_succ]
            refine quiet_moveV rfl _ rfl (.int .i64 (p : Int)) rfl ?_
            simp only [Act.put, List.setIfInBounds_toArray, List.set_cons_zero, List.set_cons_succ]
            refine quiet_still rfl (.pointer (some ⟨g, p, none⟩)) (fun w _ => by go_simp) ?_
            simp only [Act.put, List.setIfInBounds_toArray, List.set_cons_zero, List.set_cons_succ]
            refine quiet_load1 rfl _ _ rfl ⟨g, p, none⟩ rfl (.int .i64 x) (load_int _ _) (fun _ h => (h.cell (p := ⟨g, p, none⟩) hgr).trans HE1.out) ?_
            simp only [Act.put, List.setIfInBounds_toArray, List.set_cons_zero, List.set_cons_succ]
            refine quiet_moveV rfl _ rfl (.slice (some ⟨g, 0, none⟩) k k) rfl ?_
            simp only [Act.put, List.setIfInBounds_toArray, List.set_cons_zero, List.set_cons_succ]
            refine quiet_moveV rfl _ rfl (.int .i64 (p : Int)) rfl ?_
            simp only [Act.put, List.setIfInBounds_toArray, List.set_cons_zero, List.set_cons_succ]
            refine quiet_still rfl (.int .i64 ((p + 1 : Nat) : Int)) (fun w _ => by have := HP1.out; go_simp) ?_
            simp only [Act.put, List.setIfInBounds_toArray, List.set_cons_zero, List.set_cons_succ]
            refine quiet_still rfl (.pointer (some ⟨g, p + 1, none⟩)) (fun w _ => by go_simp; first | done | exact fun h => absurd h (by omega)) ?_
            simp only [Act.put, List.setIfInBounds_toArray, List.set_cons_zero, List.set_cons_succ]
            refine quiet_load1 rfl _ _ rfl ⟨g, p + 1, none⟩ rfl (.int .i64 y) (load_int _ _) (fun _ h => (h.cell (p := ⟨g, p + 1, none⟩) hgr).trans HE2.out) ?_
            simp only [Act.put, List.setIfInBounds_toArray, List.set_cons_zero, List.set_cons_succ]
            unfold wpQuiet
            intro wv hb
            have HB3 := Lib.hid hb
            clear hb
            by_cases hlt : y < x
            · have hw : wrongB t p = true := by rw [HWR.out]; exact decide_eq_true hlt
              have HS2 := Lib.hid (HSW.out.swap (p' := 0) (by rw [hln]; exact hpl) hw (Nat.zero_le _))
              have HD2 := Lib.hid (dst_swap HDT.out (p := p) (by rw [hln]; exact hpl))
              replace HT := Lib.hid (own_below HT.out HB3.out)
              replace HO := Lib.hid (own_below HO.out HB3.out)
              have HBR := Lib.hid (HBR2.out.trans (HB3.out.mono HBR2.out.size))
              replace hzr := Nat.le_trans hzr HB3.out.size
              replace hgr := Nat.lt_of_lt_of_le hgr HB3.out.size
              clear HE1 HE2 HB3 hw HBR2
              go_wp2_with fail
              have hTd : wv.drew.ownsRow g 3 1 (.slice (some ⟨g, 0, none⟩) k k) k (t.map (Value.int .i64)) := HT.out
              have d1 : wv.drew.cell? ⟨g, p, none⟩ = some (.int .i64 x) := by rw [hTd.cellAt p (by omega), List.getElem?_map, hx]; rfl
              have d2 : wv.drew.cell? ⟨g, p + 1, none⟩ = some (.int .i64 y) := by rw [hTd.cellAt (p + 1) (by omega), List.getElem?_map, hy]; rfl
              have f1 : wv.drew.frozen? ⟨g, p, none⟩ = false := hTd.frozenAt p
              have hT1 := (hTd.stored p (.int .i64 y)).1
              have d3 : (wv.drew.setCell ⟨g, p, none⟩ (.int .i64 y)).cell? ⟨g, p + 1, none⟩ = some (.int .i64 y) := by rw [hT1.cellAt (p + 1) (by omega), List.getElem?_set, if_neg (by omega), List.getElem?_map, hy]; rfl
              have f3 : (wv.drew.setCell ⟨g, p, none⟩ (.int .i64 y)).frozen? ⟨g, p + 1, none⟩ = false := hT1.frozenAt (p + 1)
              have hT2 := (hT1.stored (p + 1) (.int .i64 x)).1
              rw [show ((t.map (Value.int .i64)).set p (.int .i64 y)).set (p + 1) (.int .i64 x) = (swapL t p).map (Value.int .i64) by unfold swapL; rw [hx, hy, List.map_set, List.map_set]; rfl] at hT2
              have HT2 := Lib.hid hT2
              have HOS := Lib.hid (own_setOther (own_setOther (show wv.drew.ownsRow w3 3 1 (.slice oa (LI o).length oc) (LI o).length ((LI o).map (Value.int .i64)) from HO.out) (g := g) hgB p (.int .i64 y)) (g := g) hgB (p + 1) (.int .i64 x))
              have HBS := Lib.hid (show Below w.heap.size w ((wv.drew.setCell ⟨g, p, none⟩ (.int .i64 y)).setCell ⟨g, p + 1, none⟩ (.int .i64 x)) from (HBR.out.drew.setCell (p := ⟨g, p, none⟩) hgw _).setCell (p := ⟨g, p + 1, none⟩) hgw _)
              have HZS := Lib.hid (show w3 ≤ ((wv.drew.setCell ⟨g, p, none⟩ (.int .i64 y)).setCell ⟨g, p + 1, none⟩ (.int .i64 x)).heap.size by simp; exact hzr)
              clear hTd hT1 hT2
              clear hx hy
              refine wp_region_held (S := fun _ => True) (by kernel_rfl) ?_
              refine held_takeX (i := 0) rfl (by kernel_rfl) (by kernel_rfl) (by kernel_rfl) (.slice (some ⟨g, 0, none⟩) k k) (fun _ _ _ h => h) trivial rfl (fun w _ => by go_simp) ?_
              simp only [Act.put, List.getElem_toArray, List.getElem_cons_succ, List.getElem_cons_zero, List.setIfInBounds_toArray, List.set_cons_zero, List.set_cons_succ]
              refine held_takeX (i := 1) rfl (by kernel_rfl) (by kernel_rfl) (by kernel_rfl) (.int .i64 (p : Int)) (fun _ _ _ h => h) trivial rfl (fun w _ => by go_simp) ?_
              simp only [Act.put, List.getElem_toArray, List.getElem_cons_succ, List.getElem_cons_zero, List.setIfInBounds_toArray, List.set_cons_zero, List.set_cons_succ]
              refine held_takeX (i := 2) rfl (by kernel_rfl) (by kernel_rfl) (by kernel_rfl) (.slice (some ⟨g, 0, none⟩) k k) (fun _ _ _ h => h) trivial rfl (fun w _ => by go_simp) ?_
              simp only [Act.put, List.getElem_toArray, List.getElem_cons_succ, List.getElem_cons_zero, List.setIfInBounds_toArray, List.set_cons_zero, List.set_cons_succ]
              refine held_takeX (i := 3) rfl (by kernel_rfl) (by kernel_rfl) (by kernel_rfl) (.int .i64 (p : Int)) (fun _ _ _ h => h) trivial rfl (fun w _ => by go_simp) ?_
              simp only [Act.put, List.getElem_toArray, List.getElem_cons_succ, List.getElem_cons_zero, List.setIfInBounds_toArray, List.set_cons_zero, List.set_cons_succ]
              refine held_takeX (i := 4) rfl (by kernel_rfl) (by kernel_rfl) (by kernel_rfl) (.int .i64 ((p + 1 : Nat) : Int)) (fun _ _ _ h => h) trivial rfl (fun w _ => by have := HP1.out; go_simp) ?_
              simp only [Act.put, List.getElem_toArray, List.getElem_cons_succ, List.getElem_cons_zero, List.setIfInBounds_toArray, List.set_cons_zero, List.set_cons_succ]
              refine held_takeX (i := 5) rfl (by kernel_rfl) (by kernel_rfl) (by kernel_rfl) (.slice (some ⟨g, 0, none⟩) k k) (fun _ _ _ h => h) trivial rfl (fun w _ => by go_simp) ?_
              simp only [Act.put, List.getElem_toArray, List.getElem_cons_succ, List.getElem_cons_zero, List.setIfInBounds_toArray, List.set_cons_zero, List.set_cons_succ]
              refine held_takeX (i := 6) rfl (by kernel_rfl) (by kernel_rfl) (by kernel_rfl) (.int .i64 (p : Int)) (fun _ _ _ h => h) trivial rfl (fun w _ => by go_simp) ?_
              simp only [Act.put, List.getElem_toArray, List.getElem_cons_succ, List.getElem_cons_zero, List.setIfInBounds_toArray, List.set_cons_zero, List.set_cons_succ]
              refine held_takeX (i := 7) rfl (by kernel_rfl) (by kernel_rfl) (by kernel_rfl) (.int .i64 ((p + 1 : Nat) : Int)) (fun _ _ _ h => h) trivial rfl (fun w _ => by have := HP1.out; go_simp) ?_
              simp only [Act.put, List.getElem_toArray, List.getElem_cons_succ, List.getElem_cons_zero, List.setIfInBounds_toArray, List.set_cons_zero, List.set_cons_succ]
              refine held_takeX (i := 8) rfl (by kernel_rfl) (by kernel_rfl) (by kernel_rfl) (.pointer (some ⟨g, p + 1, none⟩)) (fun _ _ _ h => h) trivial rfl (fun w _ => by go_simp; first | done | exact fun h => absurd h (by omega)) ?_
              simp only [Act.put, List.getElem_toArray, List.getElem_cons_succ, List.getElem_cons_zero, List.setIfInBounds_toArray, List.set_cons_zero, List.set_cons_succ]
              refine held_takeX (i := 10) rfl (by kernel_rfl) (by kernel_rfl) (by kernel_rfl) (.slice (some ⟨g, 0, none⟩) k k) (fun _ _ _ h => h) trivial rfl (fun w _ => by go_simp) ?_
              simp only [Act.put, List.getElem_toArray, List.getElem_cons_succ, List.getElem_cons_zero, List.setIfInBounds_toArray, List.set_cons_zero, List.set_cons_succ]
              refine held_takeX (i := 11) rfl (by kernel_rfl) (by kernel_rfl) (by kernel_rfl) (.int .i64 (p : Int)) (fun _ _ _ h => h) trivial rfl (fun w _ => by go_simp) ?_
              simp only [Act.put, List.getElem_toArray, List.getElem_cons_succ, List.getElem_cons_zero, List.setIfInBounds_toArray, List.set_cons_zero, List.set_cons_succ]
              refine held_takeX (i := 12) rfl (by kernel_rfl) (by kernel_rfl) (by kernel_rfl) (.pointer (some ⟨g, p, none⟩)) (fun _ _ _ h => h) trivial rfl (fun w _ => by go_simp) ?_
              simp only [Act.put, List.getElem_toArray, List.getElem_cons_succ, List.getElem_cons_zero, List.setIfInBounds_toArray, List.set_cons_zero, List.set_cons_succ]
              refine held_loads (i := 9) (j := 13) (by kernel_rfl) (by kernel_rfl) (by kernel_rfl) rfl rfl rfl rfl (.int .i64 y) (.int .i64 x) _ _ _ _ rfl rfl ⟨g, p + 1, none⟩ ⟨g, p, none⟩ rfl rfl rfl rfl (load_int _ _ _ d2) (load_int _ _ _ d1) rfl (by kernel_rfl) trivial ?_
              simp only [Act.put, List.getElem_toArray, List.getElem_cons_succ, List.getElem_cons_zero, List.setIfInBounds_toArray, List.set_cons_zero, List.set_cons_succ]
              refine held_takeX (i := 14) rfl (by kernel_rfl) (by kernel_rfl) (by kernel_rfl) (.pointer (some ⟨g, p, none⟩)) (fun _ _ _ h => h) trivial rfl (fun w _ => by go_simp) ?_
              simp only [Act.put, List.getElem_toArray, List.getElem_cons_succ, List.getElem_cons_zero, List.setIfInBounds_toArray, List.set_cons_zero, List.set_cons_succ]
              refine held_storeX (i := 15) (by kernel_rfl) rfl rfl _ _ _ rfl ⟨g, p, none⟩ (.int .i64 y) rfl rfl (store_i9 _ _ _ _ d1 f1) trivial ?_
              simp only [Act.put, List.getElem_toArray, List.getElem_cons_succ, List.getElem_cons_zero, List.setIfInBounds_toArray, List.set_cons_zero, List.set_cons_succ]
              refine held_takeX (i := 16) rfl (by kernel_rfl) (by kernel_rfl) (by kernel_rfl) (.pointer (some ⟨g, p + 1, none⟩)) (fun _ _ _ h => h) trivial rfl (fun w _ => by go_simp; first | done | exact fun h => absurd h (by omega)) ?_
              simp only [Act.put, List.getElem_toArray, List.getElem_cons_succ, List.getElem_cons_zero, List.setIfInBounds_toArray, List.set_cons_zero, List.set_cons_succ]
              refine held_storeX (i := 17) (by kernel_rfl) rfl rfl _ _ _ rfl ⟨g, p + 1, none⟩ (.int .i64 x) rfl rfl (store_i9 _ _ _ _ d3 f3) trivial ?_
              simp only [Act.put, List.getElem_toArray, List.getElem_cons_succ, List.getElem_cons_zero, List.setIfInBounds_toArray, List.set_cons_zero, List.set_cons_succ]
              refine wpAnyH_done (by kernel_rfl) ?_ _
              clear d1 d2 d3 f1 f3
              have e8 : ({ heap := wv.heap, tape := wv.tape, drawn := wv.drawn + 1, os := wv.os, output := wv.output } : World) = wv.drew := rfl
              try rw [e8]
              clear e8
              generalize (wv.drew.setCell ⟨g, p, none⟩ (.int .i64 y)).setCell ⟨g, p + 1, none⟩ (.int .i64 x) = ws at *
              by_cases hfull : m = 5000
              · have hsf := HS2.out
                rw [hfull] at hsf
                obtain ⟨rfl, rfl⟩ := S2'.out hsf.full
                have h5 : (5000 : Int) < (((LI o).length + 1 : Nat) : Int) := by have := HLI.out; omega
                clear hsf
                go_wp2_with (at_builtin; refine app_one (w0 := ws) w3 _ (LI o) (p : Int) rfl _ _ rfl rfl HOS.out rfl (by have := HLI.out; omega) (Below.refl _ _) HZS.out ?_; intro g1 cap1 wA hown1 hb1)
                have HBA := Lib.hid (HBS.out.trans (hb1.mono (by omega)))
                clear hown1 hb1
                go_wp2_with fail
                go_ret2
                exact ⟨_, rfl, HNIL.out _, HBA.out⟩
              · have h5 : ¬ (5000 : Int) < (((LI o).length + 1 : Nat) : Int) := by have := HLI.out; omega
                go_wp2_with (at_builtin; refine app_one (w0 := ws) w3 _ (LI o) (p : Int) rfl _ _ rfl rfl HOS.out rfl (by have := HLI.out; omega) (Below.refl _ _) HZS.out ?_; intro g1 cap1 wA hown1 hb1)
                have HOA := Lib.hid hown1
                have HTA := Lib.hid (own_blk HT2.out hgB hb1)
                have HBA := Lib.hid (HBS.out.trans (hb1.mono (by omega)))
                have hzA : w3 ≤ wA.heap.size := by have := hb1.size; have := HZS.out; omega
                clear hown1 hb1
                go_wp2_with fail
                go_roundw
                case rel => exact ⟨0, m + 1, swapL t p, o ++ [p], by first | rfl | go_num, by omega, by omega, HS2.out, HD2.out, HTA.out, by rw [LI_snoc, List.length_append]; exact HOA.out, HBA.out, hzA⟩
                case measure => simp only [lenV, intOf]; have := HLI.out; omega
            · have hnw : wrongB t p = false := by rw [HWR.out]; exact decide_eq_false hlt
              have HS2 := Lib.hid (HSW.out.next hnw)
              clear hnw hx hy
              go_wp2_with fail
              go_roundw
              case rel => exact ⟨p + 1, m, t, o, by go_num, by omega, hm, HS2.out, HDT.out, own_below HT.out HB3.out, own_below HO.out HB3.out, HBR2.out.trans (HB3.out.mono HBR2.out.size), Nat.le_trans hzr HB3.out.size⟩
              case measure => simp only [lenV, intOf]; have := HLI.out; omega
          · have j3 : ¬ (p : Int) + 1 < (k : Int) := by omega
            have hdn := HSW.out.done (by rw [hln]; omega) hm
            obtain ⟨rfl, rfl⟩ := S3'.out o hdn
            have HIS := Lib.hid (is_own HO.out rfl)
            clear hdn
            go_wp2_with fail
            go_ret2
            exact ⟨_, rfl, HIS.out, HBR2.out⟩
  · obtain ⟨rfl, rfl⟩ := S1.out hme
    have hz' : (se == 0) = false := beq_eq_false_iff_ne.2 hme
    go_wp2_with fail
    go_ret2
    exact ⟨_, rfl, HNIL.out _, HB1.out⟩
end Go.Proofs.Ytcjbjlepgdggpaa
