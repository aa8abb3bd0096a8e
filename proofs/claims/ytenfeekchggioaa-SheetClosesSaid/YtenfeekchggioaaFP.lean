/- progressOf. -/
import Derived.Test.YtenfeekchggioaaFQ
import Derived.OwnWalk
import Derived.Deep.CutBlock
namespace Go.Proofs.Ytenfeekchggioaa
open Go.RowKit Go.Shelf Go.Lib
attribute [local go_sem] Oper.semAt_some
/-- A list of works, rising. -/
def OkDone (n : Nat) (ds : List Int) : Prop := ∀ (k : Nat) (i : Int), ds[k]? = some i → (0 ≤ i ∧ i < (n : Int)) ∧ ∀ y, 0 < k → ds[k - 1]? = some y → y < i
def doneS (ds : List Int) (j : Nat) : Bool := decide ((j : Int) ∈ ds)
def waitS (ds : List Int) (L : List Ed) (j : Nat) : Bool := L.any fun e => !doneS ds e.fr.toNat && decide (e.to.toNat = j)
open Classical in
/-- The error of progressOf. -/
noncomputable def progE (s : Sh) (ds : List Int) : Int := if chkS s ≠ 0 then chkS s else if ¬ OkDone s.ws.length ds then 2 else if ((List.range 448).any fun j => doneS ds j && waitS ds (stepsL s.pr.toNat s.ws) j) = true then 4 else 0
theorem progE_err {s : Sh} {ds : List Int} (h : chkS s ≠ 0) : progE s ds = chkS s := by unfold progE; rw [if_pos h]
theorem progE_bad {s : Sh} {ds : List Int} (h : chkS s = 0) (hb : ¬ OkDone s.ws.length ds) : progE s ds = 2 := by unfold progE; rw [if_neg (by simp [h]), if_pos hb]
theorem progE_meet {s : Sh} {ds : List Int} (h : chkS s = 0) (hb : OkDone s.ws.length ds) (hm : ((List.range 448).any fun j => doneS ds j && waitS ds (stepsL s.pr.toNat s.ws) j) = true) : progE s ds = 4 := by unfold progE; rw [if_neg (by simp [h]), if_neg (by simp [hb]), if_pos hm]
theorem progE_ok {s : Sh} {ds : List Int} (h : chkS s = 0) (hb : OkDone s.ws.length ds) (hm : ((List.range 448).any fun j => doneS ds j && waitS ds (stepsL s.pr.toNat s.ws) j) = false) : progE s ds = 0 := by unfold progE; rw [if_neg (by simp [h]), if_neg (by simp [hb]), if_neg (by simp [hm])]
theorem infoProg : (Try.prog.info? 70).map (fun i => i.size) = some 14 := by kernel_rfl
theorem doneS_snoc (ds : List Int) (k : Nat) (i : Nat) (h : ds[k]? = some (i : Int)) : (fun j => decide (j = i) || doneS (ds.take k) j) = doneS (ds.take (k + 1)) := by
  funext j
  unfold doneS
  rw [List.take_add_one, h, Option.toList_some]
  rw [Bool.eq_iff_iff]
  simp only [Bool.or_eq_true, decide_eq_true_eq, List.mem_append, List.mem_singleton]
  constructor
  · rintro (rfl | h)
    · exact .inr rfl
    · exact .inl h
  · rintro (h | h)
    · exact .inr h
    · exact .inl (by omega)
theorem waitS_hit (ds : List Int) (L : List Ed) (e : Ed) (h : doneS ds e.fr.toNat = false) : (fun j => decide (j = e.to.toNat) || waitS ds L j) = waitS ds (L ++ [e]) := by
  funext j
  unfold waitS
  rw [List.any_append, Bool.or_comm]
  congr 1
  simp [h, eq_comm]
theorem waitS_miss (ds : List Int) (L : List Ed) (e : Ed) (h : doneS ds e.fr.toNat = true) : waitS ds (L ++ [e]) = waitS ds L := by
  funext j
  unfold waitS
  rw [List.any_append]
  simp [h]
theorem results_row_tmp {P : Program} {fn : Func} {p q : Tmp} {ty : TypeId} (h : fn.results = #[.cell p ty, .tmp q]) (tmps : Array Value) (w : World) (g : Nat) (t : TypeId) (cs : Array Value) (fr : Nat × Nat) (d : TypeDesc) (u : Value)
    (hp : tmps.getD p undef = .pointer (some ⟨g, 0, none⟩)) (hq : tmps.getD q undef = u) (hg : w.heap[g]? = some (.cells cs t fr))
    (hu : P.underlying ty = some d) (hd : (match d with | .struct _ | .array _ _ => true | _ => false) = true) (hi : (P.info? ty).map (·.size) = some cs.size) :
    (results fn tmps).run P w = .ok (.tuple #[.agg cs, u]) w := by
  have hp' : tmps[p]?.getD undef = .pointer (some ⟨g, 0, none⟩) := by simpa using hp
  have hq' : tmps[q]?.getD undef = u := by simpa using hq
  simp [results, h, hp', hq', asAddr, run_loadVar_row w g t ty cs fr d hg hu hd hi]
theorem store_rowP {ops : Array Oper} {rest : List Oper} {o : Oper} {a : Act} {w : World} {Q : Exit → Act → World → Prop} (hgd : o.guard = none) (ty : TypeId) (x y : Operand) (ho : o.op = .store ty x y)
    (g : Nat) (cells : Array Value) (hx : a.eval x = .pointer (some ⟨g, 0, none⟩)) (hy : a.eval y = .agg cells)
    (t : TypeId) (old : Array Value) (hg : w.heap[g]? = some (.cells old t (0, 0))) (hi : (Try.prog.info? ty).map (·.size) = some cells.size)
    (hold : old.size = cells.size) (h1 : cells.all (·.oneCell') = true)
    (h : ∀ w', w'.heap[g]? = some (.cells cells t (0, 0)) → (∀ (k : Nat), ¬ k = g → w'.heap[k]? = w.heap[k]?) → w'.heap.size = w.heap.size → (∀ B w0, Below B w0 w → B ≤ g → Below B w0 w') → wpList Try.prog ops Q rest (a.put o.dst undef) w') :
    wpList Try.prog ops Q (o :: rest) a w := by
  refine wpList_store_row hgd ty x y ho g cells hx hy t old hg hi hold h1 (h _ ?_ ?_ ?_ ?_)
  · unfold World.setRow
    simp only [Array.getElem?_modify, if_pos, hg, Option.map_some]
  · intro k hne
    unfold World.setRow
    simp only [Array.getElem?_modify, if_neg (Ne.symm hne)]
  · simp [World.setRow]
  · exact fun B w0 hb hB => below_setRow hb hB _
theorem leaves_ret {F : Fence} {n : Nat} {P : Program} {fn : Func} {R : Ending → World → Prop} {a : Act} {w : World} {v : Value} (h : (results fn a.tmps).run P w = .ok v w) (hd : a.defers = []) (hR : R (.returned v) w) : bodyPostM F n P fn R .ret a w := by
  show LeavesInM F n P fn a.tmps R a.defers .returning w
  rw [hd]
  exact ⟨v, h, hR⟩
theorem words_zero : (List.toArray ([.int .u64 0, .int .u64 0, .int .u64 0, .int .u64 0, .int .u64 0, .int .u64 0, .int .u64 0, .int .u64 0, .int .u64 0, .int .u64 0, .int .u64 0, .int .u64 0, .int .u64 0, .int .u64 0] : List Value)).all (·.oneCell') = true := by simp [Value.oneCell']
theorem words_one {vs : List Value} {A B : Nat → Bool} (h1 : SetVs (vs.take 7) A) (h2 : SetVs (vs.drop 7) B) (hl : vs.length = 14) : vs.toArray.all (·.oneCell') = true := by
  rw [List.all_toArray, List.all_eq_true]
  intro x hx
  obtain ⟨i, hi, rfl⟩ := List.mem_iff_getElem.1 hx
  by_cases c : i < 7
  · obtain ⟨m, _, h, _⟩ := h1.2 i c
    rw [List.getElem?_take_of_lt c, List.getElem?_eq_getElem hi] at h
    rw [Option.some.inj h]
    rfl
  · obtain ⟨m, _, h, _⟩ := h2.2 (i - 7) (by omega)
    rw [List.getElem?_drop, show 7 + (i - 7) = i by omega, List.getElem?_eq_getElem hi] at h
    rw [Option.some.inj h]
    rfl
/-- The first works of a list, rising. -/
def OkTo (n : Nat) (ds : List Int) (m : Nat) : Prop := ∀ j, j < m → ∀ z, ds[j]? = some z → (0 ≤ z ∧ z < (n : Int)) ∧ ∀ y, 0 < j → ds[j - 1]? = some y → y < z
theorem doneS_nil : doneS [] = fun _ => false := by funext j; simp [doneS]
theorem okTo_next {n : Nat} {ds : List Int} {m : Nat} {z : Int} (h : OkTo n ds m) (hz : ds[m]? = some z) (h1 : 0 ≤ z ∧ z < (n : Int)) (h2 : ∀ y, 0 < m → ds[m - 1]? = some y → y < z) : OkTo n ds (m + 1) := fun j hj z' hz' => by
  by_cases c : j = m
  · subst c
    rw [hz] at hz'
    cases hz'
    exact ⟨h1, h2⟩
  · exact h j (by omega) z' hz'
set_option maxRecDepth 100000 in
set_option maxHeartbeats 8000000 in
theorem progressOf_any (s : Sh) (v : Value) (ds : List Int) (dv : Value) (w : World) (hv : SV w v s) (hd : IS w dv ds) (hdl : ds.length ≤ 100000) :
    Calls Try.prog 43 #[v, dv] w fun e w' => ∃ vs : List Value, e = .returned (.tuple #[.agg vs.toArray, .int .i64 (progE s ds)]) ∧ vs.length = 14 ∧ (progE s ds = 0 → SetVs (vs.take 7) (doneS ds) ∧ SetVs (vs.drop 7) (waitS ds (stepsL s.pr.toNat s.ws))) ∧ vs.toArray.all (·.oneCell') = true ∧ Below w.heap.size w w' := by
  obtain ⟨u, rfl, hu⟩ := hv
  obtain ⟨sa, sc, rfl, q1, q2, _, hI⟩ := hd
  obtain ⟨ua, uc, rfl, k1, k2, hU⟩ := id hu
  have B1 : Below w.heap.size w (((w.alloc (.cells #[.int .i64 s.pr, .slice ua s.ws.length uc] 24)).alloc (.cells (List.replicate 14 (Value.int .u64 0)).toArray 70)).alloc (.cells (List.replicate 14 (Value.int .u64 0)).toArray 70)) := below3 _ _ _ _
  have HE := Lib.hid (@progE_err s ds)
  have HBad := Lib.hid (@progE_bad s ds)
  have HM := Lib.hid (@progE_meet s ds)
  have HO := Lib.hid (@progE_ok s ds)
  have HS := Lib.hid (@chk_small s)
  have CK0 := Lib.hid (fun W h => check_any s (.agg #[.int .i64 s.pr, .slice ua s.ws.length uc]) W ⟨_, rfl, h⟩)
  generalize progE s ds = pe at *
  generalize chkS s = z at *
  refine (callsIn_wide (n := 9)).1 ?_
  refine callsIn_of_wp_marks Try.func43 rfl trivial ?_ rfl
  refine wpIn_wide.2 ?_
  simp only [Try.ntmps43, List.size_toArray, List.length_cons, List.length_nil, Nat.reduceAdd, Nat.reduceSub, Array.replicate_succ, Array.replicate_zero, List.push_toArray, List.append_toArray, List.nil_append, List.cons_append]
  go_wp2_with fail
  have hr0 := heap3_0 w (.cells #[.int .i64 s.pr, .slice ua s.ws.length uc] 24) (.cells (List.replicate 14 (Value.int .u64 0)).toArray 70) (.cells (List.replicate 14 (Value.int .u64 0)).toArray 70)
  have hr1 := heap3_1 w (.cells #[.int .i64 s.pr, .slice ua s.ws.length uc] 24) (.cells (List.replicate 14 (Value.int .u64 0)).toArray 70) (.cells (List.replicate 14 (Value.int .u64 0)).toArray 70)
  have hr2 := heap3_2 w (.cells #[.int .i64 s.pr, .slice ua s.ws.length uc] 24) (.cells (List.replicate 14 (Value.int .u64 0)).toArray 70) (.cells (List.replicate 14 (Value.int .u64 0)).toArray 70)
  have hz0 : (((w.alloc (.cells #[.int .i64 s.pr, .slice ua s.ws.length uc] 24)).alloc (.cells (List.replicate 14 (Value.int .u64 0)).toArray 70)).alloc (.cells (List.replicate 14 (Value.int .u64 0)).toArray 70)).heap.size = w.heap.size + 3 := by simp
  simp only [List.replicate_succ, List.replicate_zero] at hr0 hr1 hr2 B1 hz0
  obtain ⟨W0, hW0⟩ : ∃ W0, W0 = (((w.alloc (.cells #[.int .i64 s.pr, .slice ua s.ws.length uc] 24)).alloc (.cells #[.int .u64 0, .int .u64 0, .int .u64 0, .int .u64 0, .int .u64 0, .int .u64 0, .int .u64 0, .int .u64 0, .int .u64 0, .int .u64 0, .int .u64 0, .int .u64 0, .int .u64 0, .int .u64 0] 70)).alloc (.cells #[.int .u64 0, .int .u64 0, .int .u64 0, .int .u64 0, .int .u64 0, .int .u64 0, .int .u64 0, .int .u64 0, .int .u64 0, .int .u64 0, .int .u64 0, .int .u64 0, .int .u64 0, .int .u64 0] 70)) := ⟨_, rfl⟩
  rw [← hW0] at hr0 hr1 hr2 B1 hz0 ⊢
  clear hW0
  have CK := Lib.hid (CK0.out W0 (hu.below B1))
  refine CK.out.mono ?_
  rintro e w1 ⟨rfl, B2⟩
  have HB := Lib.hid (bon B1 B2)
  have HR0 := Lib.hid ((B2.block _ (Array.getElem?_eq_some_iff.1 hr0).1).trans hr0)
  have HR1 := Lib.hid ((B2.block _ (Array.getElem?_eq_some_iff.1 hr1).1).trans hr1)
  have HR2 := Lib.hid ((B2.block _ (Array.getElem?_eq_some_iff.1 hr2).1).trans hr2)
  have HZ1 := Lib.hid (show w.heap.size + 3 ≤ w1.heap.size by have := B2.size; omega)
  have Hu1 := Lib.hid hu
  have HI1 := Lib.hid hI
  have HU1 := Lib.hid hU
  clear CK CK0 B1 B2 hu hI hU hr0 hr1 hr2 hz0
  by_cases q : z = 0
  · subst q
    obtain ⟨s1, s2, hsm⟩ := HS.out rfl
    have HSM := Lib.hid hsm
    have HDN := Lib.hid hdl
    clear HS HE hsm
    go_wp2_with fail
    go_loopw [19] (fun i wr => ∃ k : Nat, k ≤ ds.length ∧ i = .int .i64 (k : Int) ∧ OkTo s.ws.length ds k ∧ PR wr (w.heap.size + 1 + 1) (doneS (ds.take k)) (fun _ => false) ∧ wr.heap[w.heap.size]? = some (.cells #[.int .i64 s.pr, .slice ua s.ws.length uc] 24 (0, 0)) ∧ wr.heap[w.heap.size + 1]? = some (.cells #[.int .u64 0, .int .u64 0, .int .u64 0, .int .u64 0, .int .u64 0, .int .u64 0, .int .u64 0, .int .u64 0, .int .u64 0, .int .u64 0, .int .u64 0, .int .u64 0, .int .u64 0, .int .u64 0] 70 (0, 0)) ∧ Below w.heap.size w wr ∧ w.heap.size + 3 ≤ wr.heap.size) (fun i _ => ds.length - (intOf i).toNat)
    case atStart => exact ⟨0, Nat.zero_le _, rfl, (fun j hj => by omega), by rw [List.take_zero, doneS_nil]; exact pr_zero _ _ HR2.out, HR0.out, HR1.out, HB.out, HZ1.out⟩
    case round =>
      obtain ⟨k, hk, rfl, hok, hp, h0, h1, hb, hz⟩ := hrel
      have HOK := Lib.hid hok
      have HP := Lib.hid hp
      have HW0 := Lib.hid h0
      have HW1 := Lib.hid h1
      have HBW := Lib.hid hb
      have HZW := Lib.hid hz
      clear HB HR0 HR1 HR2 HZ1 hok hp h1 hb hz
      have g0 : wr.cell? ⟨w.heap.size, 0, none⟩ = some (.int .i64 s.pr) := cell_of_row wr _ 0 _ _ _ h0
      have g1 : wr.cell? ⟨w.heap.size, 1, none⟩ = some (.slice ua s.ws.length uc) := cell_of_row wr _ 1 _ _ _ h0
      clear h0
      by_cases hkl : k < ds.length
      · obtain ⟨z, hz'⟩ : ∃ z, ds[k]? = some z := ⟨_, List.getElem?_eq_getElem hkl⟩
        obtain ⟨b, off, rfl, hbl, hcz⟩ := HI1.out k z hz'
        have cz : wr.cell? ⟨b, off + k, none⟩ = some (.int .i64 z) := (HBW.out.cell (p := ⟨b, off + k, none⟩) hbl).trans hcz
        have HKZ := Lib.hid hz'
        have j0 : (0 : Int) ≤ (k : Int) := by omega
        have j1 : (k : Int) < (ds.length : Int) := by omega
        clear hcz hz'
        have CW := Lib.hid (fun W => isWork_any s.pr z ua s.ws.length uc W)
        have HBL := Lib.hid hbl
        clear hbl
        by_cases hin : 0 ≤ z ∧ z < (s.ws.length : Int)
        · rw [decide_eq_true hin] at CW
          by_cases hk0 : k = 0
          · have q0 : ¬ (0 : Int) < (k : Int) := by omega
            have HNX := Lib.hid (okTo_next HOK.out HKZ.out hin (fun y h _ => by omega))
            clear hk0
            obtain ⟨m, rfl⟩ : ∃ m : Nat, z = (m : Int) := ⟨z.toNat, by omega⟩
            have hm4 : m < 448 := by have := HSM.out.1; omega
            go_wp2_with fail
            refine (CW.out _).mono ?_
            rintro e w2 ⟨rfl, hb2⟩
            have HP2 := Lib.hid (HP.out.below hb2)
            have HB2 := Lib.hid (bon HBW.out hb2)
            have HV0 := Lib.hid ((hb2.block _ (Array.getElem?_eq_some_iff.1 HW0.out).1).trans HW0.out)
            have HV1 := Lib.hid ((hb2.block _ (Array.getElem?_eq_some_iff.1 HW1.out).1).trans HW1.out)
            have HZ2 := Lib.hid (show w.heap.size + 3 ≤ w2.heap.size by have := hb2.size; have := HZW.out; omega)
            try have cy2 := HCY.out _ hb2
            clear hb2 g0 g1 cz
            go_wp2_with fail
            refine (add_any (w.heap.size + 1 + 1) 0 (doneS (ds.take k)) m hm4 _ HP2.out.done).mono ?_
            rintro e w3 ⟨⟨u3, rfl⟩, hS, v3, hw3⟩
            have HP3 := HP2.out.add0 hm4 hS hw3
            rw [doneS_snoc ds k m HKZ.out] at HP3
            have HPN := Lib.hid HP3
            have HU0 := Lib.hid ((show w3.heap[w.heap.size]? = w2.heap[w.heap.size]? by rw [hw3]; exact heap_setCell_other _ _ _ _ (by simp <;> omega)).trans HV0.out)
            have HU1 := Lib.hid ((show w3.heap[w.heap.size + 1]? = w2.heap[w.heap.size + 1]? by rw [hw3]; exact heap_setCell_other _ _ _ _ (by simp <;> omega)).trans HV1.out)
            have HB3 := Lib.hid (show Below w.heap.size w w3 by rw [hw3]; exact (HB2.out.setCell (p := ⟨w.heap.size + 1 + 1, _, none⟩) (show w.heap.size ≤ w.heap.size + 1 + 1 by omega) _).drew)
            have HZ3 := Lib.hid (show w.heap.size + 3 ≤ w3.heap.size by rw [hw3]; simpa using HZ2.out)
            clear hS HP3 hw3
            go_wp2_with fail
            go_roundw
            case rel => exact ⟨k + 1, hkl, by go_num, HNX.out, HPN.out, HU0.out, HU1.out, HB3.out, HZ3.out⟩
            case measure => (simp [intOf] <;> omega)
          · have q0 : (0 : Int) < (k : Int) := by omega
            obtain ⟨y, hy⟩ : ∃ y, ds[k - 1]? = some y := ⟨_, List.getElem?_eq_getElem (by omega)⟩
            obtain ⟨b2, off2, e2, hbl2, hcy⟩ := HI1.out (k - 1) y hy
            cases e2
            have cy : wr.cell? ⟨b, off + (k - 1), none⟩ = some (.int .i64 y) := (HBW.out.cell (p := ⟨b, off + (k - 1), none⟩) HBL.out).trans hcy
            have qw : IntKind.i64.wrap ((k : Int) - 1) = ((k - 1 : Nat) : Int) := (IntWalk.i64_in _ (by omega)).trans (by omega)
            have HY := Lib.hid hy
            have HCY := Lib.hid (fun (W : World) (h : Below wr.heap.size wr W) => (show W.cell? ⟨b, off + (k - 1), none⟩ = some (.int .i64 y) from (h.cell (p := ⟨b, off + (k - 1), none⟩) (Nat.lt_of_lt_of_le HBL.out HBW.out.size)).trans cy))
            clear hcy hy hbl2 cy
            by_cases hlt : y < z
            · have q2 : ¬ z ≤ y := by omega
              have HNX := Lib.hid (okTo_next HOK.out HKZ.out hin (fun y' _ h => by rw [HY.out] at h; cases h; exact hlt))
              clear hlt
              obtain ⟨m, rfl⟩ : ∃ m : Nat, z = (m : Int) := ⟨z.toNat, by omega⟩
              have hm4 : m < 448 := by have := HSM.out.1; omega
              go_wp2_with fail
              refine (CW.out _).mono ?_
              rintro e w2 ⟨rfl, hb2⟩
              have HP2 := Lib.hid (HP.out.below hb2)
              have HB2 := Lib.hid (bon HBW.out hb2)
              have HV0 := Lib.hid ((hb2.block _ (Array.getElem?_eq_some_iff.1 HW0.out).1).trans HW0.out)
              have HV1 := Lib.hid ((hb2.block _ (Array.getElem?_eq_some_iff.1 HW1.out).1).trans HW1.out)
              have HZ2 := Lib.hid (show w.heap.size + 3 ≤ w2.heap.size by have := hb2.size; have := HZW.out; omega)
              try have cy2 := HCY.out _ hb2
              clear hb2 g0 g1 cz
              go_wp2_with fail
              refine (add_any (w.heap.size + 1 + 1) 0 (doneS (ds.take k)) m hm4 _ HP2.out.done).mono ?_
              rintro e w3 ⟨⟨u3, rfl⟩, hS, v3, hw3⟩
              have HP3 := HP2.out.add0 hm4 hS hw3
              rw [doneS_snoc ds k m HKZ.out] at HP3
              have HPN := Lib.hid HP3
              have HU0 := Lib.hid ((show w3.heap[w.heap.size]? = w2.heap[w.heap.size]? by rw [hw3]; exact heap_setCell_other _ _ _ _ (by simp <;> omega)).trans HV0.out)
              have HU1 := Lib.hid ((show w3.heap[w.heap.size + 1]? = w2.heap[w.heap.size + 1]? by rw [hw3]; exact heap_setCell_other _ _ _ _ (by simp <;> omega)).trans HV1.out)
              have HB3 := Lib.hid (show Below w.heap.size w w3 by rw [hw3]; exact (HB2.out.setCell (p := ⟨w.heap.size + 1 + 1, _, none⟩) (show w.heap.size ≤ w.heap.size + 1 + 1 by omega) _).drew)
              have HZ3 := Lib.hid (show w.heap.size + 3 ≤ w3.heap.size by rw [hw3]; simpa using HZ2.out)
              clear hS HP3 hw3
              go_wp2_with fail
              go_roundw
              case rel => exact ⟨k + 1, hkl, by go_num, HNX.out, HPN.out, HU0.out, HU1.out, HB3.out, HZ3.out⟩
              case measure => (simp [intOf] <;> omega)
            · have q2 : z ≤ y := by omega
              have HNO := Lib.hid (show ¬ OkDone s.ws.length ds from fun h => hlt ((h k z HKZ.out).2 y (by omega) HY.out))
              clear hlt
              have e := HBad.out (by first | rfl | trivial) HNO.out
              subst e
              go_wp2_with fail
              refine (CW.out _).mono ?_
              rintro e w2 ⟨rfl, hb2⟩
              obtain ⟨vs, hl, hrow, ht1, ht2⟩ := (HP.out.below hb2).words
              have HVS := Lib.hid (words_one ht1 ht2 hl)
              have HLL := Lib.hid hl
              have HRO := Lib.hid hrow
              have HB2 := Lib.hid (bon HBW.out hb2)
              have HV1 := Lib.hid ((hb2.block _ (Array.getElem?_eq_some_iff.1 HW1.out).1).trans HW1.out)
              have HL14 := Lib.hid (show 14 = vs.toArray.size by rw [List.size_toArray, hl])
              have HI14 := Lib.hid (show (Try.prog.info? 70).map (·.size) = some vs.toArray.size by rw [List.size_toArray, hl]; exact infoProg)
              try have cy2 := HCY.out _ hb2
              clear hb2 g0 g1 cz hl hrow ht1 ht2
              go_wp2_with (first | refine wpList_load_row rfl 70 (.tmp 6) rfl (w.heap.size + 1 + 1) rfl 70 _ (0, 0) _ HRO.out Try.underlying70 rfl HI14.out ?_ | (refine store_rowP rfl 70 (.tmp 4) (.tmp 41) rfl (w.heap.size + 1) vs.toArray rfl rfl 70 _ HV1.out HI14.out HL14.out HVS.out ?_; intro wf hf hk2 hzf hBf))
              
              refine leaves_ret (results_row_tmp rfl _ _ (w.heap.size + 1) 70 _ (0, 0) _ _ rfl rfl hf Try.underlying70 rfl HI14.out) rfl ⟨vs, rfl, HLL.out, (fun h => absurd h (by decide)), HVS.out, hBf _ _ HB2.out (by omega)⟩
        · rw [decide_eq_false hin] at CW
          have HNO := Lib.hid (show ¬ OkDone s.ws.length ds from fun h => hin (h k z HKZ.out).1)
          have e := HBad.out (by first | rfl | trivial) HNO.out
          subst e
          go_wp2_with fail
          refine (CW.out _).mono ?_
          rintro e w2 ⟨rfl, hb2⟩
          obtain ⟨vs, hl, hrow, ht1, ht2⟩ := (HP.out.below hb2).words
          have HVS := Lib.hid (words_one ht1 ht2 hl)
          have HLL := Lib.hid hl
          have HRO := Lib.hid hrow
          have HB2 := Lib.hid (bon HBW.out hb2)
          have HV1 := Lib.hid ((hb2.block _ (Array.getElem?_eq_some_iff.1 HW1.out).1).trans HW1.out)
          have HL14 := Lib.hid (show 14 = vs.toArray.size by rw [List.size_toArray, hl])
          have HI14 := Lib.hid (show (Try.prog.info? 70).map (·.size) = some vs.toArray.size by rw [List.size_toArray, hl]; exact infoProg)
          try have cy2 := HCY.out _ hb2
          clear hb2 g0 g1 cz hl hrow ht1 ht2
          go_wp2_with (first | refine wpList_load_row rfl 70 (.tmp 6) rfl (w.heap.size + 1 + 1) rfl 70 _ (0, 0) _ HRO.out Try.underlying70 rfl HI14.out ?_ | (refine store_rowP rfl 70 (.tmp 4) (.tmp 41) rfl (w.heap.size + 1) vs.toArray rfl rfl 70 _ HV1.out HI14.out HL14.out HVS.out ?_; intro wf hf hk2 hzf hBf))
          
          refine leaves_ret (results_row_tmp rfl _ _ (w.heap.size + 1) 70 _ (0, 0) _ _ rfl rfl hf Try.underlying70 rfl HI14.out) rfl ⟨vs, rfl, HLL.out, (fun h => absurd h (by decide)), HVS.out, hBf _ _ HB2.out (by omega)⟩
      · have j1 : ¬ (k : Int) < (ds.length : Int) := by omega
        have e : k = ds.length := by omega
        subst e
        rw [List.take_length] at HP
        have HDO := Lib.hid (show OkDone s.ws.length ds from fun j z hz => HOK.out j (List.getElem?_eq_some_iff.1 hz).1 z hz)
        go_wp2_with fail
        refine (steps_any _ _ _).mono ?_
        rintro e w2 ⟨rfl, hw2⟩
        have hb2 := below_alloc wr (.cells #[.int .i64 s.pr, .slice ua s.ws.length uc] 24)
        have hx := heap_alloc_new wr (.cells #[.int .i64 s.pr, .slice ua s.ws.length uc] 24)
        rw [← hw2] at hb2 hx
        have HP2 := Lib.hid (HP.out.below hb2)
        have HB2 := Lib.hid (bon HBW.out hb2)
        have HV1 := Lib.hid ((hb2.block _ (Array.getElem?_eq_some_iff.1 HW1.out).1).trans HW1.out)
        have HZ2 := Lib.hid (show w2.heap.size = wr.heap.size + 1 by rw [hw2]; simp)
        have HX := Lib.hid hx
        clear hb2 hx hw2 g0 g1
        go_upto_block 2 with fail
        refine (wpIn_wide (n := 9)).1 ?_
        have hpn : s.pr = ((s.pr.toNat : Nat) : Int) := by omega
        have g0 : w2.cell? ⟨wr.heap.size, 0, none⟩ = some (.int .i64 ((s.pr.toNat : Nat) : Int)) := by rw [← hpn]; exact cell_of_row w2 _ 0 _ _ _ HX.out
        have g1 : w2.cell? ⟨wr.heap.size, 1, none⟩ = some (.slice ua s.ws.length uc) := cell_of_row w2 _ 1 _ _ _ HX.out
        have hz2 := HZ2.out
        have hzw := HZW.out
        have hseq := steps1_own (9 - 1) (by omega) wr.heap.size w2.heap.size s.pr.toNat s.ws ua uc HSM.out (by omega) k1 k2 (w.heap.size + 1 + 1) (by omega) w2 (Nat.le_refl _) (by omega) g0 g1
          (fun k x hx => by
            obtain ⟨b, off, e, hb, hr, hsz⟩ := HU1.out k x hx
            exact ⟨b, off, e, by omega, by omega, fun j v hv => (HB2.out.cell (p := ⟨b, off + k * 3 + j, none⟩) hb).trans (hr j v hv), hsz⟩)
        have hw0 : waitS ds [] = fun _ => false := by funext j; simp [waitS]
        have hI0 : PR w2 (w.heap.size + 1 + 1) (doneS ds) (waitS ds []) := by rw [hw0]; exact HP2.out
        have HPR := Lib.hid hpn
        have HI0 := Lib.hid hI0
        clear hpn hw0 hI0 g0 g1
        gi_wp2_with fail
        refine range_own 9 (gf := 67) (lb := #[.pointer (some ⟨wr.heap.size, 0, none⟩)]) rfl (enters_of Try.func67 (by kernel_rfl) rfl)
          hseq (fun h k => BelowX.trans h k) (fun W l o o' h1 h2 h3 h4 => belowX_b (w := w2) (Nat.le_refl _) W l o o' h1 h2 h3 h4) (Below.refl _ _) (fun _ => rfl)
          (fun pre W => PR W (w.heap.size + 1 + 1) (doneS ds) (waitS ds (pre.map (·.1))) ∧ W.heap[w.heap.size + 1]? = some (.cells #[.int .u64 0, .int .u64 0, .int .u64 0, .int .u64 0, .int .u64 0, .int .u64 0, .int .u64 0, .int .u64 0, .int .u64 0, .int .u64 0, .int .u64 0, .int .u64 0, .int .u64 0, .int .u64 0] 70 (0, 0)) ∧ Below w.heap.size w W)
          (fun _ _ => False)
          (OwnFrom.and (Own.from (pr_own (w.heap.size + 1 + 1) (fun _ => doneS ds) (fun (pre : List (StA s.pr.toNat s.ws)) => waitS ds (pre.map (·.1)))) _) (OwnFrom.and (Own.from (block_own (w.heap.size + 1) (fun (_ : List (StA s.pr.toNat s.ws)) => .cells #[.int .u64 0, .int .u64 0, .int .u64 0, .int .u64 0, .int .u64 0, .int .u64 0, .int .u64 0, .int .u64 0, .int .u64 0, .int .u64 0, .int .u64 0, .int .u64 0, .int .u64 0, .int .u64 0] 70 (0, 0)) (fun _ => rfl)) _) (ownFrom_below (Nat.le_refl _) (by omega))))
          (fun _ _ _ _ hs _ _ => hs)
          ⟨HI0.out, HV1.out, HB2.out⟩
          (fun x a' W => ∃ Bx, W.heap[Bx]? = some (.cells x.1.cs.toArray 46 (0, 0)) ∧ a' = { tmps := #[.agg #[.int .i64 s.pr, .slice ua s.ws.length uc], .slice sa ds.length sc, .pointer (some ⟨w.heap.size, 0, none⟩), undef, .pointer (some ⟨w.heap.size + 1, 0, none⟩), u5, .pointer (some ⟨w.heap.size + 1 + 1, 0, none⟩), .int .i64 0, u8, u9, .pointer (some ⟨Bx, 0, none⟩), .agg #[.int .i64 s.pr, .slice ua s.ws.length uc], .int .i64 0, .int .i64 0, .bool false, undef, undef, .slice sa ds.length sc, .int .i64 (ds.length : Int), .int .i64 (ds.length : Int), .bool false, u21, u22, u23, u24, u25, u26, u27, u28, u29, u30, u31, u32, u33, u34, u35, u36, u37, u38, u39, u40, u41, u42, u43, u44, u45, .agg #[.int .i64 s.pr, .slice ua s.ws.length uc], .func (.func 67) #[] #[.pointer (some ⟨wr.heap.size, 0, none⟩)], x.1.val, undef, undef, undef, undef, undef, undef, undef, undef, undef, undef, undef, undef, undef, undef, undef], defers := [] })
          (fun x a' _ X Y row hs hg hr => by obtain ⟨Bx, h2, h3⟩ := hs; exact ⟨Bx, block_own Bx (fun (_ : Unit) => .cells x.1.cs.toArray 46 (0, 0)) (fun _ => rfl) () X Y row h2 hg (fun r e => (hr r e).2), h3⟩)
          ?assign ?body ?done ?stop
        case assign =>
          rintro l pre x W ⟨hP, h1, hB⟩
          unfold Ed.val
          gi_wp2
          exact ⟨(KeepsOthers.alloc _ _).from _, BelowX.of (below_alloc _ _), ⟨hP.below (below_alloc _ _), (Below.heap_alloc W _ _ (Array.getElem?_eq_some_iff.1 h1).1).trans h1, hB.alloc hB.size _⟩, W.heap.size, heap_alloc_new _ _, rfl⟩
        case body =>
          rintro l pre x a' W ⟨hP, h1, hB⟩ ⟨Bx, hX, rfl⟩ hlt
          have HP3 := Lib.hid hP
          have H13 := Lib.hid h1
          have HB3 := Lib.hid hB
          obtain ⟨⟨f0, f1⟩, t0, t1⟩ := x.2.1
          obtain ⟨f, hf⟩ : ∃ f : Nat, x.1.fr = (f : Int) := ⟨x.1.fr.toNat, by omega⟩
          obtain ⟨t, ht⟩ : ∃ t : Nat, x.1.to = (t : Int) := ⟨x.1.to.toNat, by omega⟩
          have hf4 : f < 448 := by have := HSM.out.1; omega
          have ht4 : t < 448 := by have := HSM.out.1; omega
          have x0 : W.cell? ⟨Bx, 0, none⟩ = some (.int .i64 (f : Int)) := by rw [← hf]; exact cell_of_row W Bx 0 _ _ _ hX
          have x2 : W.cell? ⟨Bx, 2, none⟩ = some (.int .i64 (t : Int)) := by rw [← ht]; exact cell_of_row W Bx 2 _ _ _ hX
          have HF := Lib.hid (show x.1.fr.toNat = f by rw [hf]; rfl)
          have HT := Lib.hid (show x.1.to.toNat = t by rw [ht]; rfl)
          have CH := Lib.hid (has_any (w.heap.size + 1 + 1) 0 (doneS ds) f hf4 W HP3.out.done)
          clear hP h1 hB hX hf ht f0 f1 t0 t1
          unfold Ed.val
          by_cases hd : doneS ds f = true
          · rw [hd] at CH
            have HD := Lib.hid hd
            clear hd
            gi_wp2_with fail
            refine ⟨trivial, ?_⟩
            refine (CallsIn.inRound l (callsIn_wide.2 CH.out)).mono ?_
            rintro e w3 ⟨rfl, hw⟩
            obtain rfl := hw.symm
            clear hw
            gi_wp2_with fail
            refine ⟨KeepsFrom.refl _ _, BelowX.of (Below.refl _ _), ?_, H13.out, HB3.out⟩
            show PR _ _ _ (waitS ds (pre.map (·.1) ++ [x.1]))
            rw [waitS_miss ds _ _ (by rw [HF.out]; exact HD.out)]
            exact HP3.out
          · have hd' : doneS ds f = false := by simpa using hd
            rw [hd'] at CH
            have HD := Lib.hid hd'
            clear hd hd'
            gi_wp2_with fail
            refine ⟨trivial, ?_⟩
            refine (CallsIn.inRound l (callsIn_wide.2 CH.out)).mono ?_
            rintro e w3 ⟨rfl, hw⟩
            obtain rfl := hw.symm
            clear hw
            gi_wp2_with fail
            refine ⟨trivial, ?_⟩
            refine (CallsIn.inRound l (callsIn_wide.2 (add_any (w.heap.size + 1 + 1) 7 _ t ht4 W HP3.out.wait))).mono ?_
            rintro e w4 ⟨⟨u3, rfl⟩, hS, v3, hw3⟩
            have HPN := Lib.hid (HP3.out.add7 hS hw3)
            have hbp : Below (w.heap.size + 1 + 1) W w4 := by rw [hw3]; exact ((Below.refl _ W).setCell (p := ⟨w.heap.size + 1 + 1, _, none⟩) (Nat.le_refl _) _).drew
            have hoth : ∀ k : Nat, ¬ k = w.heap.size + 1 + 1 → w4.heap[k]? = W.heap[k]? := fun k hk => by rw [hw3]; exact heap_setCell_other _ _ _ _ hk
            have HBP := Lib.hid hbp
            have HOT := Lib.hid hoth
            clear hS hw3 hbp hoth
            gi_wp2_with fail
            refine ⟨⟨HBP.out.size, fun k o hk h _ => (HOT.out k (by omega)).trans h⟩, ⟨HBP.out.os, HBP.out.tape, HBP.out.output, HBP.out.size, fun k _ hx _ => HOT.out k hx⟩, ?_, (HOT.out _ (by omega)).trans H13.out, HB3.out.trans (HBP.out.mono (by omega))⟩
            show PR _ _ _ (waitS ds (pre.map (·.1) ++ [x.1]))
            rw [← waitS_hit ds _ _ (by rw [HF.out]; exact HD.out), HT.out]
            exact HPN.out
        case done =>
          rintro D xs W hD hS ⟨hP, h1, hB⟩ hK
          rw [hS] at hP
          obtain ⟨vs, hl, hrow, ht1, ht2⟩ := hP.words
          have HVS := Lib.hid (words_one ht1 ht2 hl)
          have HLL := Lib.hid hl
          have HRO := Lib.hid hrow
          have HT1 := Lib.hid ht1
          have HT2 := Lib.hid ht2
          have HPP := Lib.hid hP
          have HKK := Lib.hid hK
          have HBE := Lib.hid hB
          have HV1 := Lib.hid h1
          have HI14 := Lib.hid (show (Try.prog.info? 70).map (·.size) = some vs.toArray.size by rw [List.size_toArray, hl]; exact infoProg)
          have HI7 := Lib.hid (show (Try.prog.info? 68).map (·.size) = some (vs.drop 7).length by rw [List.length_drop, hl]; kernel_rfl)
          have HL14 := Lib.hid (show 14 = vs.toArray.size by rw [List.size_toArray, hl])
          have HRA := Lib.hid (show W.rangeAt (w.heap.size + 1 + 1) 7 (vs.drop 7) from fun j v hj => by rw [cell_of_row W _ (7 + j) _ _ _ hrow, List.getElem?_toArray, ← hj, List.getElem?_drop])
          have hPW := hP.lt
          have CM := Lib.hid (meets_any (w.heap.size + 1 + 1) 0 (doneS ds) _ (vs.drop 7) ht2 W hPW hP.done)
          have HDD := Lib.hid hD
          clear hP hl hrow ht1 ht2 hB h1 hK hD hS hPW
          generalize hmm : ((List.range 448).any fun j => doneS ds j && waitS ds (stepsL s.pr.toNat s.ws) j) = mm at *
          have HMM := Lib.hid hmm
          clear hmm
          go_wp2_with (refine wpList_load_mid rfl 68 (.tmp 59) rfl (w.heap.size + 1 + 1) 7 rfl (vs.drop 7) _ HRA.out Try.underlying68 rfl HI7.out ?_)
          refine CM.out.mono ?_
          rintro e w4 ⟨rfl, hb4⟩
          replace HRO := Lib.hid ((hb4.block _ (Array.getElem?_eq_some_iff.1 HRO.out).1).trans HRO.out)
          have HV2 := Lib.hid ((hb4.block _ (Array.getElem?_eq_some_iff.1 HV1.out).1).trans HV1.out)
          have HB4 := Lib.hid (bon HBE.out hb4)
          have HK4 := Lib.hid ((hb4.block _ (Array.getElem?_eq_some_iff.1 HKK.out).1).trans HKK.out)
          clear hb4
          cases mm
          · have e := HO.out (by first | rfl | trivial) HDO.out (by first | rfl | trivial)
            subst e
            go_wp2_with (first | refine wpList_load_row rfl 70 (.tmp 6) rfl (w.heap.size + 1 + 1) rfl 70 _ (0, 0) _ HRO.out Try.underlying70 rfl HI14.out ?_ | (refine store_rowP rfl 70 (.tmp 4) (.tmp 63) rfl (w.heap.size + 1) vs.toArray rfl rfl 70 _ HV2.out HI14.out HL14.out HVS.out ?_; intro wf hf hk2 hzf hBf))
            have hKf : wf.heap[D]? = some (.deferred (some [])) := (hk2 D (by have := HDD.out; omega)).trans HK4.out
            refine ⟨by simp, .inl ⟨_, _, rfl, run_takeDeferred hKf, ?_⟩⟩
            refine ⟨_, results_row_tmp rfl _ _ (w.heap.size + 1) 70 _ (0, 0) _ _ rfl rfl ((World.putObj_heap_other (by have := HDD.out; omega)).trans hf) Try.underlying70 rfl HI14.out, vs, rfl, HLL.out, ⟨HT1.out, HT2.out⟩, (by simpa using HVS.out), ?_⟩
            exact (hBf _ _ HB4.out (by omega)).trans (belowK_b (w := w) (Nat.le_refl _) wf D _ _ (by have := HDD.out; omega) hKf rfl rfl)
          · have e := HM.out (by first | rfl | trivial) HDO.out (by first | rfl | trivial)
            subst e
            go_wp2_with (first | refine wpList_load_row rfl 70 (.tmp 6) rfl (w.heap.size + 1 + 1) rfl 70 _ (0, 0) _ HRO.out Try.underlying70 rfl HI14.out ?_ | (refine store_rowP rfl 70 (.tmp 4) (.tmp 62) rfl (w.heap.size + 1) vs.toArray rfl rfl 70 _ HV2.out HI14.out HL14.out HVS.out ?_; intro wf hf hk2 hzf hBf))
            have hKf : wf.heap[D]? = some (.deferred (some [])) := (hk2 D (by have := HDD.out; omega)).trans HK4.out
            refine ⟨by simp, .inl ⟨_, _, rfl, run_takeDeferred hKf, ?_⟩⟩
            refine ⟨_, results_row_tmp rfl _ _ (w.heap.size + 1) 70 _ (0, 0) _ _ rfl rfl ((World.putObj_heap_other (by have := HDD.out; omega)).trans hf) Try.underlying70 rfl HI14.out, vs, rfl, HLL.out, (fun h => absurd h (by decide)), HVS.out, ?_⟩
            exact (hBf _ _ HB4.out (by omega)).trans (belowK_b (w := w) (Nat.le_refl _) wf D _ _ (by have := HDD.out; omega) hKf rfl rfl)
        case stop =>
          rintro D pre W _ h _
          exact h.elim
  · have e : pe = z := HE.out q
    subst e
    clear HE HBad HM HO HS
    go_wp2_with (first | refine wpList_load_row rfl 70 (.tmp 6) rfl (w.heap.size + 1 + 1) rfl 70 _ (0, 0) _ HR2.out Try.underlying70 rfl (by kernel_rfl) ?_ | (refine store_rowP rfl 70 (.tmp 4) (.tmp 15) rfl (w.heap.size + 1) #[.int .u64 0, .int .u64 0, .int .u64 0, .int .u64 0, .int .u64 0, .int .u64 0, .int .u64 0, .int .u64 0, .int .u64 0, .int .u64 0, .int .u64 0, .int .u64 0, .int .u64 0, .int .u64 0] rfl rfl 70 _ HR1.out (by exact infoProg) rfl (by kernel_rfl) ?_; intro wf hf hk2 hzf hBf))
    refine leaves_ret (results_row_tmp rfl _ _ (w.heap.size + 1) 70 _ (0, 0) _ _ rfl rfl hf Try.underlying70 rfl (by kernel_rfl)) rfl ⟨[.int .u64 0, .int .u64 0, .int .u64 0, .int .u64 0, .int .u64 0, .int .u64 0, .int .u64 0, .int .u64 0, .int .u64 0, .int .u64 0, .int .u64 0, .int .u64 0, .int .u64 0, .int .u64 0], rfl, rfl, fun h => absurd h q, words_zero, hBf _ _ HB.out (by omega)⟩
end Go.Proofs.Ytenfeekchggioaa
