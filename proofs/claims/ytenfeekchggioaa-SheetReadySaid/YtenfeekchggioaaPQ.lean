/- The law of works that are ready. -/
import Derived.Test.YtenfeekchggioaaPP
namespace Go.Proofs.Ytenfeekchggioaa
open Go.RowKit Go.Shelf
set_option linter.unusedSimpArgs false
attribute [local irreducible] wpQuiet
theorem touchP_comm (x y : Wk) : touchP x y = touchP y x := by unfold touchP; exact Bool.and_comm _ _
theorem readyL_mem {pr : Nat} {W : List Wk} {ds : List Int} {z : Int} (h : z ∈ readyL pr W ds) : ∃ i : Nat, z = (i : Int) ∧ i < W.length ∧ readyP pr W ds i = true := by
  obtain ⟨i, hi, rfl⟩ := List.mem_map.1 h
  obtain ⟨h1, h2⟩ := List.mem_filter.1 hi
  exact ⟨i, rfl, List.mem_range.1 h1, h2⟩
theorem readyL_pair (pr : Nat) (W : List Wk) (ds : List Int) : (readyL pr W ds).Pairwise (· < ·) := by
  unfold readyL readyTo
  rw [List.pairwise_map]
  refine List.Pairwise.imp (fun {a b} h => by omega) (List.Pairwise.filter _ List.pairwise_lt_range)
theorem pair_get {L : List Int} (h : L.Pairwise (· < ·)) {i k : Nat} {a b : Int} (hk : k < i) (ha : L[k]? = some a) (hb : L[i]? = some b) : a < b := by
  obtain ⟨a1, a2⟩ := List.getElem?_eq_some_iff.1 ha
  obtain ⟨b1, b2⟩ := List.getElem?_eq_some_iff.1 hb
  rw [← a2, ← b2]
  exact List.pairwise_iff_getElem.1 h _ _ a1 b1 hk
/-- What the law asks of the list of ready works. -/
structure RdyOk (s : Sh) (R : List Int) : Prop where
  rng : ∀ (k : Nat) z, R[k]? = some z → 0 ≤ z ∧ z < (s.ws.length : Int)
  apart : ∀ (k i : Nat) (a b : Nat), k < i → R[k]? = some (a : Int) → R[i]? = some (b : Int) → ∀ x y, s.ws[a]? = some x → s.ws[b]? = some y → touchP y x = false
theorem rdyOk_of {s : Sh} {ds : List Int} (h : progE s ds = 0) : RdyOk s (readyL s.pr.toNat s.ws ds) := by
  obtain ⟨h1, h2, h3⟩ := prog_clo h
  refine ⟨fun k z hz => ?_, fun k i a b hki ha hb x y hx hy => ?_⟩
  · obtain ⟨i, rfl, g1, g2⟩ := readyL_mem (List.mem_of_getElem? hz)
    omega
  · have hab := pair_get (readyL_pair _ _ _) hki ha hb
    obtain ⟨a', e1, g1, g2⟩ := readyL_mem (List.mem_of_getElem? ha)
    obtain ⟨b', e2, g3, g4⟩ := readyL_mem (List.mem_of_getElem? hb)
    have e1 : a = a' := by omega
    have e2 : b = b' := by omega
    subst e1 e2
    have := ready_apart h3 g3 (by omega) g2 g4
    unfold tchN at this
    rw [wkN_get hx, wkN_get hy] at this
    rw [touchP_comm]
    exact this
/-- The works that are done, and one more. -/
def moreTo (ds : List Int) (w k : Nat) : List Int := ((List.range k).filter fun j => decide (j = w) || doneS ds j).map fun (i : Nat) => (i : Int)
theorem moreTo_next (ds : List Int) (w k : Nat) : moreTo ds w (k + 1) = moreTo ds w k ++ if (decide (k = w) || doneS ds k) = true then [(k : Int)] else [] := by
  unfold moreTo
  rw [List.range_succ, List.filter_append, List.map_append]
  congr 1
  by_cases h : (decide (k = w) || doneS ds k) = true
  · simp only [List.filter_cons, h, if_true, List.filter_nil, List.map_cons, List.map_nil]
  · simp only [List.filter_cons, h, if_false, List.filter_nil, List.map_nil]
    simp
theorem moreTo_len (ds : List Int) (w k : Nat) : (moreTo ds w k).length ≤ k := by
  unfold moreTo
  rw [List.length_map]
  exact Nat.le_trans (List.length_filter_le _ _) (by simp)
theorem more_ok {n w : Nat} {ds : List Int} : OkDone n (moreTo ds w n) := by
  refine okDone_of (fun z hz => ?_) ?_
  · obtain ⟨i, hi, rfl⟩ := List.mem_map.1 hz
    have := List.mem_range.1 (List.mem_filter.1 hi).1
    omega
  · unfold moreTo
    rw [List.pairwise_map]
    refine List.Pairwise.imp (fun {a b} h => by omega) (List.Pairwise.filter _ List.pairwise_lt_range)
theorem more_done {n w : Nat} {ds : List Int} (h : OkDone n ds) (hw : w < n) : doneS (moreTo ds w n) = fun j => decide (j = w) || doneS ds j := by
  funext j
  rw [Bool.eq_iff_iff]
  unfold doneS moreTo
  rw [decide_eq_true_iff, List.mem_map]
  constructor
  · rintro ⟨i, hi, e⟩
    have e : i = j := by omega
    subst e
    exact (List.mem_filter.1 hi).2
  · intro g
    refine ⟨j, List.mem_filter.2 ⟨List.mem_range.2 ?_, g⟩, rfl⟩
    simp only [Bool.or_eq_true, decide_eq_true_eq] at g
    rcases g with rfl | g
    · exact hw
    · exact doneS_lt h (decide_eq_true g)
/-- What the law asks of the lines and of what is still ready. -/
structure MoreOk (s : Sh) (R more la lb m : List Int) (w : Nat) (x : Wk) : Prop where
  len1 : (la.length : Int) = s.pr
  len2 : (lb.length : Int) = s.pr
  at' : ∀ (p : Nat) (z : Int), la[p]? = some z → lb[p]? = some (if takesP x (p : Int) = true then s.pr + 2 * (w : Int) + p - x.pl else z)
  still : ∀ (i : Nat) (z : Int), R[i]? = some z → z = (w : Int) ∨ z ∈ m
theorem moreOk_of {s : Sh} {ds : List Int} {w : Nat} {x : Wk} (h : progE s ds = 0) (hw : (w : Int) ∈ readyL s.pr.toNat s.ws ds) (hx : s.ws[w]? = some x) :
    progE s (moreTo ds w s.ws.length) = 0 ∧ MoreOk s (readyL s.pr.toNat s.ws ds) (moreTo ds w s.ws.length) (lnV s ds) (lnV s (moreTo ds w s.ws.length)) (rdV s (moreTo ds w s.ws.length)) w x := by
  obtain ⟨h1, h2, h3⟩ := prog_clo h
  obtain ⟨w', e, hwl, hr⟩ := readyL_mem hw
  have e : w = w' := by omega
  subst e
  obtain ⟨r1, r2, r3⟩ := ready_more h hwl hr more_ok (more_done h2 hwl)
  have hs := chk_small h1
  have ea : lnV s ds = lineL s.pr.toNat s.ws ds := by unfold lnV; rw [if_pos h]
  have eb : lnV s (moreTo ds w s.ws.length) = lineL s.pr.toNat s.ws (moreTo ds w s.ws.length) := by unfold lnV; rw [if_pos r1]
  have em : rdV s (moreTo ds w s.ws.length) = readyL s.pr.toNat s.ws (moreTo ds w s.ws.length) := by unfold rdV; rw [if_pos r1]
  refine ⟨r1, ⟨?_, ?_, fun p z hz => ?_, fun i z hz => ?_⟩⟩
  · rw [ea, lineL_len]; omega
  · rw [eb, lineL_len]; omega
  · rw [ea] at hz
    have hp := (List.getElem?_eq_some_iff.1 hz).1
    rw [lineL_len] at hp
    have hpl := hs.2.2.2 x (List.mem_of_getElem? hx)
    rw [eb, r2, side_at (lineL_len _ _ _) hx hpl.1 hp]
    by_cases ht : x.takes p
    · rw [if_pos ht, if_pos]
      · unfold Wk.takes at ht
        congr 1
        omega
      · unfold Wk.takes at ht
        unfold takesP
        simp
        omega
    · rw [if_neg ht, if_neg, hz]
      intro e
      apply ht
      unfold Wk.takes
      unfold takesP at e
      simp at e
      omega
  · obtain ⟨b, rfl, g1, g2⟩ := readyL_mem (List.mem_of_getElem? hz)
    by_cases e : b = w
    · exact .inl (by omega)
    · right
      rw [em]
      exact List.mem_map.2 ⟨b, List.mem_filter.2 ⟨List.mem_range.2 g1, r3 b e g2⟩, rfl⟩
def memTo (m : List Int) (z : Int) (w k : Nat) : Bool := decide (z = (w : Int)) || decide (z ∈ m.take k)
theorem memTo_next {m : List Int} {z : Int} {w k : Nat} {y : Int} (h : m[k]? = some y) : memTo m z w (k + 1) = (memTo m z w k || decide (y = z)) := by
  unfold memTo
  rw [List.take_add_one, h, Bool.or_assoc, Option.toList_some]
  congr 1
  rw [Bool.eq_iff_iff]
  simp only [List.mem_append, List.mem_singleton, Bool.or_eq_true, decide_eq_true_eq]
  exact ⟨fun g => g.imp id Eq.symm, fun g => g.imp id Eq.symm⟩
theorem doneTo_next {ds : List Int} {i w k : Nat} {y : Int} (h : ds[k]? = some y) : (decide (i = w) || doneS (ds.take (k + 1)) i) = ((decide (i = w) || doneS (ds.take k) i) || decide (y = (i : Int))) := by
  unfold doneS
  rw [List.take_add_one, h, Bool.or_assoc, Option.toList_some]
  congr 1
  rw [Bool.eq_iff_iff]
  simp only [List.mem_append, List.mem_singleton, Bool.or_eq_true, decide_eq_true_eq]
  exact ⟨fun g => g.imp id Eq.symm, fun g => g.imp id Eq.symm⟩
set_option maxRecDepth 100000 in
set_option maxHeartbeats 8000000 in
theorem ready_row (s : Sh) (ds : List Int) (u8 : Nat) (v dv : Value) (w : World) (hv : SV w v s) (_ : (Lit.int .i64 s.pr).wf = true) (hd : IS w dv ds) (_ : ∀ z ∈ ds, -9223372036854775808 ≤ z ∧ z ≤ 9223372036854775807) (h8 : u8 < 256) : Calls Try.prog 9 #[v, dv, .int .u8 (u8 : Int)] w fun e w' => e = .returned (.bool true) ∧ Below w.heap.size w w' := by
  have HV := Lib.hid hv
  have HD := Lib.hid hd
  obtain ⟨u, rfl, hu⟩ := hv
  obtain ⟨ua, uc, rfl, _, _, hU⟩ := id hu
  obtain ⟨sa, sc, rfl, q1, q2, _, hI⟩ := id hd
  have CF := Lib.hid (fun W h => Far_any s (.agg #[.int .i64 s.pr, .slice ua s.ws.length uc]) W h)
  have CS := Lib.hid (fun W => shown_any W)
  clear hu
  go_enter Try.func9, Try.ntmps9
  go_wp2_with fail
  have h0 := heap_alloc_new w (.cells #[.int .i64 s.pr, .slice ua s.ws.length uc] 24)
  have b0 := below_alloc w (.cells #[.int .i64 s.pr, .slice ua s.ws.length uc] 24)
  have z0 : (w.alloc (.cells #[.int .i64 s.pr, .slice ua s.ws.length uc] 24)).heap.size = w.heap.size + 1 := by simp
  generalize w.alloc (.cells #[.int .i64 s.pr, .slice ua s.ws.length uc] 24) = w0 at *
  refine (CF.out w0 (HV.out.below b0)).mono ?_
  rintro e w1 ⟨rfl, b1⟩
  have H1 := Lib.hid ((b1.block _ (by omega)).trans h0)
  have HB1 := Lib.hid (bon b0 b1)
  have HZ1 := Lib.hid (show w.heap.size + 1 ≤ w1.heap.size by have := b1.size; omega)
  clear h0 b0 z0 b1 CF
  by_cases hf : farB s = true
  · rw [hf]
    clear hf
    go_wp2_with fail
    refine (CS.out _).mono ?_
    rintro e w2 ⟨rfl, b2⟩
    have HB2 := Lib.hid (bon HB1.out b2)
    clear b2
    go_wp2_with fail
    go_ret
    exact ⟨rfl, HB2.out⟩
  have hf' : farB s = false := by simpa using hf
  rw [hf']
  clear hf hf'
  by_cases hl : 1000 < ds.length
  · have l1 : (1000 : Int) < (ds.length : Int) := by omega
    clear hl
    go_wp2_with fail
    refine (CS.out _).mono ?_
    rintro e w2 ⟨rfl, b2⟩
    have HB2 := Lib.hid (bon HB1.out b2)
    clear b2
    go_wp2_with fail
    go_ret
    exact ⟨rfl, HB2.out⟩
  have l1 : ¬ (1000 : Int) < (ds.length : Int) := by omega
  have C0 := Lib.hid (fun W h1 h2 => refClosed_any s (.agg #[.int .i64 s.pr, .slice ua s.ws.length uc]) ds (.slice sa ds.length sc) W h1 h2 (by omega))
  have HIS := Lib.hid hI
  have HUU := Lib.hid hU
  rw [clE_eq] at C0
  have C3 := Lib.hid (fun W h1 h2 => Ready_v s (.agg #[.int .i64 s.pr, .slice ua s.ws.length uc]) ds (.slice sa ds.length sc) W h1 h2 (by omega))
  have C1 := Lib.hid (fun W h1 h2 => Line_v s (.agg #[.int .i64 s.pr, .slice ua s.ws.length uc]) ds (.slice sa ds.length sc) W h1 h2 (by omega))
  clear hl hI hU
  have g0 : w1.cell? ⟨w.heap.size, 0, none⟩ = some (.int .i64 s.pr) := cell_of_row w1 _ 0 _ _ _ H1.out
  have g1 : w1.cell? ⟨w.heap.size, 1, none⟩ = some (.slice ua s.ws.length uc) := cell_of_row w1 _ 1 _ _ _ H1.out
  go_wp2_with fail
  refine (C0.out w1 (HV.out.below HB1.out) (HD.out.below HB1.out)).mono ?_
  rintro e w2 ⟨rfl, b2⟩
  have H2 := Lib.hid ((b2.block _ (by have := HZ1.out; omega)).trans H1.out)
  have HB2 := Lib.hid (bon HB1.out b2)
  have HZ2 := Lib.hid (Nat.le_trans HZ1.out b2.size)
  clear b2 g0 g1
  by_cases hp : progE s ds = 0
  · have HP := Lib.hid hp
    rw [hp] at C3 C1 ⊢
    have hrv : rdV s ds = readyL s.pr.toNat s.ws ds := by unfold rdV; rw [if_pos hp]
    rw [hrv] at C3
    have HRO := Lib.hid (rdyOk_of hp)
    have HRZ := Lib.hid (ready_none (pr := s.pr.toNat) (prog_clo hp).2.1)
    have HRL := Lib.hid (show (readyL s.pr.toNat s.ws ds).length ≤ 1000 by have := rdV_len s ds; rw [hrv] at this; exact this)
    have HMO := Lib.hid (fun (ww : Nat) (x : Wk) h1 h2 => moreOk_of (w := ww) (x := x) hp h1 h2)
    have HSM := Lib.hid (chk_small (prog_clo hp).1)
    have hw4 : s.ws.length ≤ 400 := HSM.out.2.2.1
    have HLA := Lib.hid (lnV_len s ds)
    clear hp hrv
    generalize readyL s.pr.toNat s.ws ds = R at *
    have hR1 : R.length ≤ 1000 := HRL.out
    have g0 : w2.cell? ⟨w.heap.size, 0, none⟩ = some (.int .i64 s.pr) := cell_of_row w2 _ 0 _ _ _ H2.out
    have g1 : w2.cell? ⟨w.heap.size, 1, none⟩ = some (.slice ua s.ws.length uc) := cell_of_row w2 _ 1 _ _ _ H2.out
    go_wp2_with fail
    refine (C3.out w2 (HV.out.below HB2.out) (HD.out.below HB2.out)).mono ?_
    rintro e w3 ⟨u3, rfl, hi, b3⟩
    have ER := Lib.hid hi
    obtain ⟨ra, rc, rfl, _, _, _, hRI⟩ := hi
    have HRI := Lib.hid hRI
    have H3 := Lib.hid ((b3.block _ (by have := HZ2.out; omega)).trans H2.out)
    have HB3 := Lib.hid (bon HB2.out b3)
    have HZ3 := Lib.hid (Nat.le_trans HZ2.out b3.size)
    clear b3 g0 g1 hRI
    have g0 : w3.cell? ⟨w.heap.size, 0, none⟩ = some (.int .i64 s.pr) := cell_of_row w3 _ 0 _ _ _ H3.out
    have g1 : w3.cell? ⟨w.heap.size, 1, none⟩ = some (.slice ua s.ws.length uc) := cell_of_row w3 _ 1 _ _ _ H3.out
    have hbn : (!(((R.length : Int) == 0) == ((ds.length : Int) == (s.ws.length : Int)))) = false := by
      rw [Bool.not_eq_false', beq_iff_eq, Bool.eq_iff_iff]
      simp only [beq_iff_eq]
      have := HRZ.out
      omega
    go_wp2_with fail
    clear g0 g1 hbn
    go_loopw [9] (fun i wr => ∃ k : Nat, k ≤ R.length ∧ i = .int .i64 (k : Int) ∧ Below w3.heap.size w3 wr) (fun i _ => R.length - (intOf i).toNat)
    case atStart => exact ⟨0, Nat.zero_le _, rfl, Below.refl _ _⟩
    case round =>
      obtain ⟨k, hk, rfl, hbr⟩ := hrel
      rename World => wr
      have HBR := Lib.hid hbr
      have hr0 := (hbr.block _ (by have := HZ3.out; omega)).trans H3.out
      have HR0 := Lib.hid hr0
      have g0 : wr.cell? ⟨w.heap.size, 0, none⟩ = some (.int .i64 s.pr) := cell_of_row wr _ 0 _ _ _ hr0
      have g1 : wr.cell? ⟨w.heap.size, 1, none⟩ = some (.slice ua s.ws.length uc) := cell_of_row wr _ 1 _ _ _ hr0
      clear hbr hr0
      by_cases hkl : k < R.length
      · have k1 : (k : Int) < (R.length : Int) := by omega
        have k0 : (0 : Int) ≤ (k : Int) := by omega
        obtain ⟨z, hz⟩ : ∃ z, R[k]? = some z := ⟨_, List.getElem?_eq_getElem hkl⟩
        have hzr := HRO.out.rng k z hz
        obtain ⟨i, rfl⟩ : ∃ i : Nat, z = (i : Int) := ⟨z.toNat, by omega⟩
        obtain ⟨rb, ro, rfl, hrb, hcz⟩ := HRI.out k _ hz
        have hrbx : rb < wr.heap.size := by have := HBR.out.size; omega
        have hzx : w.heap.size < wr.heap.size := by have := HBR.out.size; have := HZ3.out; omega
        have cz : wr.cell? ⟨rb, ro + k, none⟩ = some (.int .i64 (i : Int)) := (HBR.out.cell (p := ⟨rb, ro + k, none⟩) hrb).trans hcz
        have HKZ := Lib.hid hz
        have HCZ := Lib.hid hcz
        have i0 : ¬ (i : Int) < 0 := by omega
        have i1 : ¬ (s.ws.length : Int) ≤ (i : Int) := by omega
        have il : i < s.ws.length := by omega
        clear hz hcz hzr
        go_wp2_with fail
        refine wp_region_class (fun w' => Below wr.heap.size wr w') 14 (by kernel_rfl) (by kernel_rfl) (Below.refl _ wr).drew ?_
        simp only [List.take_succ_cons, List.take_zero, List.drop_succ_cons, List.drop_zero]
        refine quiet_moveV rfl _ rfl (.slice (some ⟨rb, ro, none⟩) R.length rc) rfl ?_
        simp only [Act.put, List.setIfInBounds_toArray, List.set_cons_zero, List.set_cons_succ]
        refine quiet_moveV rfl _ rfl (.int .i64 (k : Int)) rfl ?_
        simp only [Act.put, List.setIfInBounds_toArray, List.set_cons_zero, List.set_cons_succ]
        refine quiet_still rfl (.pointer (some ⟨rb, ro + k, none⟩)) (fun w _ => by go_simp) ?_
        simp only [Act.put, List.setIfInBounds_toArray, List.set_cons_zero, List.set_cons_succ]
        refine quiet_load1 rfl _ _ rfl ⟨rb, ro + k, none⟩ rfl (.int .i64 (i : Int)) (load_int _ _) (fun _ h => (h.cell (p := ⟨rb, ro + k, none⟩) hrbx).trans cz) ?_
        simp only [Act.put, List.setIfInBounds_toArray, List.set_cons_zero, List.set_cons_succ]
        refine quiet_still rfl (.bool false) (fun w _ => by go_simp) ?_
        simp only [Act.put, List.setIfInBounds_toArray, List.set_cons_zero, List.set_cons_succ]
        refine quiet_moveV rfl _ rfl (.bool false) rfl ?_
        simp only [Act.put, List.setIfInBounds_toArray, List.set_cons_zero, List.set_cons_succ]
        refine quietW_moveV (by kernel_rfl) _ rfl (.slice (some ⟨rb, ro, none⟩) R.length rc) rfl ?_
        simp only [Act.put, List.setIfInBounds_toArray, List.set_cons_zero, List.set_cons_succ]
        refine quietW_moveV (by kernel_rfl) _ rfl (.int .i64 (k : Int)) rfl ?_
        simp only [Act.put, List.setIfInBounds_toArray, List.set_cons_zero, List.set_cons_succ]
        refine quietW_still (by kernel_rfl) (.pointer (some ⟨rb, ro + k, none⟩)) (fun w _ => by go_simp) ?_
        simp only [Act.put, List.setIfInBounds_toArray, List.set_cons_zero, List.set_cons_succ]
        refine quietW_load1 (by kernel_rfl) _ _ rfl ⟨rb, ro + k, none⟩ rfl (.int .i64 (i : Int)) (load_int _ _) (fun _ h => (h.cell (p := ⟨rb, ro + k, none⟩) hrbx).trans cz) ?_
        simp only [Act.put, List.setIfInBounds_toArray, List.set_cons_zero, List.set_cons_succ]
        refine quietW_still (by kernel_rfl) (.pointer (some ⟨w.heap.size, 1, none⟩)) (fun w _ => by go_simp) ?_
        simp only [Act.put, List.setIfInBounds_toArray, List.set_cons_zero, List.set_cons_succ]
        refine quietW_load1 (by kernel_rfl) _ _ rfl ⟨w.heap.size, 1, none⟩ rfl (.slice ua s.ws.length uc) (load_ws _ _) (fun _ h => (h.cell (p := ⟨w.heap.size, 1, none⟩) hzx).trans g1) ?_
        simp only [Act.put, List.setIfInBounds_toArray, List.set_cons_zero, List.set_cons_succ]
        refine quietW_still (by kernel_rfl) (.int .i64 (s.ws.length : Int)) (fun w _ => by go_simp) ?_
        simp only [Act.put, List.setIfInBounds_toArray, List.set_cons_zero, List.set_cons_succ]
        refine quietW_still (by kernel_rfl) (.bool false) (fun w _ => by go_simp) ?_
        simp only [Act.put, List.setIfInBounds_toArray, List.set_cons_zero, List.set_cons_succ]
        unfold wpQuiet
        intro wq hb
        clear g0 g1 cz
        have HB9 := Lib.hid (HBR.out.trans (hb.mono HBR.out.size))
        clear hb
        go_wp2_with fail
        go_loopw [10] (fun j wx => ∃ q : Nat, q ≤ k ∧ j = .int .i64 (q : Int) ∧ Below w3.heap.size w3 wx) (fun j _ => k - (intOf j).toNat)
        case atStart => exact ⟨0, Nat.zero_le _, rfl, HB9.out⟩
        case round =>
          obtain ⟨q, hq, rfl, hbx⟩ := hrel
          rename World => wx
          have HBX := Lib.hid hbx
          clear hbx
          by_cases hqk : q < k
          · have q1' : (q : Int) < (k : Int) := by omega
            have q2' : (q : Int) < (R.length : Int) := by omega
            have q0' : (0 : Int) ≤ (q : Int) := by omega
            obtain ⟨z2, hz2⟩ : ∃ z2, R[q]? = some z2 := ⟨_, List.getElem?_eq_getElem (by omega)⟩
            have hzr2 := HRO.out.rng q z2 hz2
            obtain ⟨i2, rfl⟩ : ∃ i : Nat, z2 = (i : Int) := ⟨z2.toNat, by omega⟩
            obtain ⟨rb', ro', e', _, hcz2⟩ := HRI.out q _ hz2
            cases e'
            obtain ⟨y1, hy1⟩ : ∃ y1, s.ws[i]? = some y1 := ⟨_, List.getElem?_eq_getElem il⟩
            obtain ⟨y2, hy2⟩ : ∃ y2, s.ws[i2]? = some y2 := ⟨_, List.getElem?_eq_getElem (by omega)⟩
            have hp1 := HSM.out.2.2.2 y1 (List.mem_of_getElem? hy1)
            have hp2 := HSM.out.2.2.2 y2 (List.mem_of_getElem? hy2)
            have htc := HRO.out.apart q k i2 i hqk hz2 HKZ.out y2 y1 hy2 hy1
            have CT := Lib.hid (fun W => refTouch_any y1 y2 W hp1 hp2)
            rw [htc] at CT
            have hwx : Below w.heap.size w wx := HB3.out.trans (HBX.out.mono (by have := HZ3.out; omega))
            obtain ⟨wb, wo, rfl, hwb, hr1, _⟩ := HUU.out i y1 hy1
            obtain ⟨wb', wo', e', _, hr2, _⟩ := HUU.out i2 y2 hy2
            cases e'
            have RGy1 := Lib.hid (range_below3 hr1 hwb hwx)
            have RGy2 := Lib.hid (range_below3 hr2 hwb hwx)
            have hzx : w.heap.size < wx.heap.size := by have := HBX.out.size; have := HZ3.out; omega
            have hrbx : rb < wx.heap.size := by have := HBX.out.size; omega
            have hwbx : wb < wx.heap.size := by omega
            have hx0 := (HBX.out.block _ (by have := HZ3.out; omega)).trans H3.out
            have g1 : wx.cell? ⟨w.heap.size, 1, none⟩ = some (.slice (some ⟨wb, wo, none⟩) s.ws.length uc) := cell_of_row wx _ 1 _ _ _ hx0
            have cz : wx.cell? ⟨rb, ro + k, none⟩ = some (.int .i64 (i : Int)) := (HBX.out.cell (p := ⟨rb, ro + k, none⟩) hrb).trans HCZ.out
            have cz2 : wx.cell? ⟨rb, ro + q, none⟩ = some (.int .i64 (i2 : Int)) := (HBX.out.cell (p := ⟨rb, ro + q, none⟩) hrb).trans hcz2
            have n1 : (i : Int) < (s.ws.length : Int) := by omega
            have n2 : (i2 : Int) < (s.ws.length : Int) := by omega
            have n10 : (0 : Int) ≤ (i : Int) := by omega
            have n20 : (0 : Int) ≤ (i2 : Int) := by omega
            clear hz2 hzr2 hcz2 hy1 hy2 hp1 hp2 htc hr1 hr2 hx0 hwx
            go_wp2_with fail
            refine wp_region_class (fun w' => Below wx.heap.size wx w') 16 (by kernel_rfl) (by kernel_rfl) (Below.refl _ wx).drew ?_
            simp only [List.take_succ_cons, List.take_zero, List.drop_succ_cons, List.drop_zero]
            refine quiet_still rfl (.pointer (some ⟨w.heap.size, 1, none⟩)) (fun w _ => by go_simp) ?_
            simp only [Act.put, List.setIfInBounds_toArray, List.set_cons_zero, List.set_cons_succ]
            refine quiet_load1 rfl _ _ rfl ⟨w.heap.size, 1, none⟩ rfl (.slice (some ⟨wb, wo, none⟩) s.ws.length uc) (load_ws _ _) (fun _ h => (h.cell (p := ⟨w.heap.size, 1, none⟩) hzx).trans g1) ?_
            simp only [Act.put, List.setIfInBounds_toArray, List.set_cons_zero, List.set_cons_succ]
            refine quiet_moveV rfl _ rfl (.slice (some ⟨rb, ro, none⟩) R.length rc) rfl ?_
            simp only [Act.put, List.setIfInBounds_toArray, List.set_cons_zero, List.set_cons_succ]
            refine quiet_moveV rfl _ rfl (.int .i64 (k : Int)) rfl ?_
            simp only [Act.put, List.setIfInBounds_toArray, List.set_cons_zero, List.set_cons_succ]
            refine quiet_still rfl (.pointer (some ⟨rb, ro + k, none⟩)) (fun w _ => by go_simp) ?_
            simp only [Act.put, List.setIfInBounds_toArray, List.set_cons_zero, List.set_cons_succ]
            refine quiet_load1 rfl _ _ rfl ⟨rb, ro + k, none⟩ rfl (.int .i64 (i : Int)) (load_int _ _) (fun _ h => (h.cell (p := ⟨rb, ro + k, none⟩) hrbx).trans cz) ?_
            simp only [Act.put, List.setIfInBounds_toArray, List.set_cons_zero, List.set_cons_succ]
            refine quiet_still rfl (.pointer (some ⟨wb, wo + i * 3, none⟩)) (fun w _ => by go_simp) ?_
            simp only [Act.put, List.setIfInBounds_toArray, List.set_cons_zero, List.set_cons_succ]
            refine quiet_load_mid rfl _ _ rfl wb (wo + i * 3) rfl [.int .i64 y1.kd, .int .i64 y1.pl, .string y1.wd] _ (fun W h => range_below3 RGy1.out hwbx h) Try.underlying48 rfl (by kernel_rfl) ?_
            simp only [Act.put, List.setIfInBounds_toArray, List.set_cons_zero, List.set_cons_succ]
            refine quiet_still rfl (.pointer (some ⟨w.heap.size, 1, none⟩)) (fun w _ => by go_simp) ?_
            simp only [Act.put, List.setIfInBounds_toArray, List.set_cons_zero, List.set_cons_succ]
            refine quiet_load1 rfl _ _ rfl ⟨w.heap.size, 1, none⟩ rfl (.slice (some ⟨wb, wo, none⟩) s.ws.length uc) (load_ws _ _) (fun _ h => (h.cell (p := ⟨w.heap.size, 1, none⟩) hzx).trans g1) ?_
            simp only [Act.put, List.setIfInBounds_toArray, List.set_cons_zero, List.set_cons_succ]
            refine quiet_moveV rfl _ rfl (.slice (some ⟨rb, ro, none⟩) R.length rc) rfl ?_
            simp only [Act.put, List.setIfInBounds_toArray, List.set_cons_zero, List.set_cons_succ]
            refine quiet_moveV rfl _ rfl (.int .i64 (q : Int)) rfl ?_
            simp only [Act.put, List.setIfInBounds_toArray, List.set_cons_zero, List.set_cons_succ]
            refine quiet_still rfl (.pointer (some ⟨rb, ro + q, none⟩)) (fun w _ => by go_simp) ?_
            simp only [Act.put, List.setIfInBounds_toArray, List.set_cons_zero, List.set_cons_succ]
            refine quiet_load1 rfl _ _ rfl ⟨rb, ro + q, none⟩ rfl (.int .i64 (i2 : Int)) (load_int _ _) (fun _ h => (h.cell (p := ⟨rb, ro + q, none⟩) hrbx).trans cz2) ?_
            simp only [Act.put, List.setIfInBounds_toArray, List.set_cons_zero, List.set_cons_succ]
            refine quiet_still rfl (.pointer (some ⟨wb, wo + i2 * 3, none⟩)) (fun w _ => by go_simp) ?_
            simp only [Act.put, List.setIfInBounds_toArray, List.set_cons_zero, List.set_cons_succ]
            refine quiet_load_mid rfl _ _ rfl wb (wo + i2 * 3) rfl [.int .i64 y2.kd, .int .i64 y2.pl, .string y2.wd] _ (fun W h => range_below3 RGy2.out hwbx h) Try.underlying48 rfl (by kernel_rfl) ?_
            simp only [Act.put, List.setIfInBounds_toArray, List.set_cons_zero, List.set_cons_succ]
            unfold wpQuiet
            intro wq hb
            clear g1 cz cz2
            have HBQ := Lib.hid (HBX.out.trans (hb.mono HBX.out.size))
            clear hb
            go_wp2_with fail
            refine (CT.out _).mono ?_
            rintro e wt ⟨rfl, hbt⟩
            have HBT := Lib.hid (HBQ.out.trans (hbt.mono HBQ.out.size))
            clear hbt
            go_wp2_with fail
            go_roundw
            case rel => exact ⟨q + 1, hqk, by go_num, HBT.out⟩
            case measure => (simp [intOf] <;> omega)
          · have q1' : ¬ (q : Int) < (k : Int) := by omega
            go_wp2_with fail
            go_roundw
            case rel => exact ⟨k + 1, hkl, by go_num, HBX.out⟩
            case measure => (simp [intOf] <;> omega)
      · have k1 : ¬ (k : Int) < (R.length : Int) := by omega
        clear hkl hk
        by_cases hr : R.length = 0
        · have hr0 : ((R.length : Int) == 0) = true := by rw [beq_iff_eq]; omega
          have HBE := Lib.hid (HB3.out.trans (HBR.out.mono (by have := HZ3.out; omega)))
          clear hr g0 g1
          go_wp2_with fail
          refine (CS.out _).mono ?_
          rintro e w8 ⟨rfl, b8⟩
          have HB8 := Lib.hid (bon HBE.out b8)
          clear b8
          go_wp2_with fail
          go_ret
          exact ⟨rfl, HB8.out⟩
        · have hr0 : ((R.length : Int) == 0) = false := by rw [beq_eq_false_iff_ne]; omega
          obtain ⟨ww, hww⟩ : ∃ ww : Nat, ww = u8 % R.length := ⟨_, rfl⟩
          have hwl : ww < R.length := by rw [hww]; exact Nat.mod_lt _ (by omega)
          obtain ⟨z, hz⟩ : ∃ z, R[ww]? = some z := ⟨_, List.getElem?_eq_getElem hwl⟩
          have hzr := HRO.out.rng ww z hz
          obtain ⟨i, rfl⟩ : ∃ i : Nat, z = (i : Int) := ⟨z.toNat, by omega⟩
          obtain ⟨x, hx⟩ : ∃ x, s.ws[i]? = some x := ⟨_, List.getElem?_eq_getElem (by omega)⟩
          obtain ⟨hpm, hmo⟩ := HMO.out i x (List.mem_of_getElem? hz) hx
          obtain ⟨rb, ro, rfl, hrb, hcz⟩ := HRI.out ww _ hz
          have cz : wr.cell? ⟨rb, ro + ww, none⟩ = some (.int .i64 (i : Int)) := (HBR.out.cell (p := ⟨rb, ro + ww, none⟩) hrb).trans hcz
          have ew : ((u8 : Int)).tmod (R.length : Int) = (ww : Int) := by rw [hww]; rfl
          have ww0 : (0 : Int) ≤ (ww : Int) := by omega
          have ww1 : (ww : Int) < (R.length : Int) := by omega
          have hr1 : ¬ (R.length : Int) = 0 := by omega
          have e8 : IntKind.i64.wrap (u8 : Int) = (u8 : Int) := IntWalk.i64_in _ (by omega)
          have e9 : IntKind.i64.wrap (ww : Int) = (ww : Int) := IntWalk.i64_in _ (by have := HRL.out; omega)
          have HXI := Lib.hid hx
          have HPM := Lib.hid hpm
          have HMK := Lib.hid hmo
          have hil : i < s.ws.length := by omega
          have HOZ := Lib.hid (show wr.ownsRow wr.heap.size 3 1 (.slice none 0 0) (moreTo ds i 0).length ((moreTo ds i 0).map (Value.int .i64)) from World.ownsRow_nil _ _ _ _)
          have HBA := Lib.hid (HB3.out.trans (HBR.out.mono (by have := HZ3.out; omega)))
          have HZR := Lib.hid (show w.heap.size < wr.heap.size by have := HBR.out.size; have := HZ3.out; omega)
          clear hz hzr hx hpm hmo hcz hww
          go_wp2_with fail
          clear cz ew ww0 ww1 hr1 e8 e9 g0 g1 hr0 hr
          go_loopw [12, 13] (fun vo j wx => ∃ k : Nat, k ≤ s.ws.length ∧ j = .int .i64 (k : Int) ∧ wx.ownsRow wr.heap.size 3 1 vo (moreTo ds i k).length ((moreTo ds i k).map (Value.int .i64)) ∧ Below wr.heap.size wr wx) (fun _ j _ => s.ws.length - (intOf j).toNat)
          case atStart => exact ⟨0, Nat.zero_le _, rfl, HOZ.out, Below.refl _ _⟩
          case round =>
            clear HOZ
            obtain ⟨k, hk2, rfl, hown, hbx⟩ := hrel
            rename World => wx
            obtain ⟨aw, cw, ev⟩ := own_form hown
            subst ev
            have HOW := Lib.hid hown
            have HBX := Lib.hid hbx
            have HBE := Lib.hid (HBA.out.trans (hbx.mono (Nat.le_of_lt HZR.out)))
            have hx0 := (hbx.block _ HZR.out).trans HR0.out
            have HX0 := Lib.hid hx0
            have g0 : wx.cell? ⟨w.heap.size, 0, none⟩ = some (.int .i64 s.pr) := cell_of_row wx _ 0 _ _ _ hx0
            have g1 : wx.cell? ⟨w.heap.size, 1, none⟩ = some (.slice ua s.ws.length uc) := cell_of_row wx _ 1 _ _ _ hx0
            clear hown hbx hx0
            by_cases hkn : k < s.ws.length
            · have kn1 : (k : Int) < (s.ws.length : Int) := by omega
              have hki : ((k : Int) == (i : Int)) = decide (k = i) := by rw [Bool.eq_iff_iff]; simp; omega
              have HD0 := Lib.hid (show (decide (k = i) || doneS (ds.take 0) k) = decide (k = i) by rw [List.take_zero, doneS_nil, Bool.or_false])
              go_wp2_with fail
              go_loopw [14, 15] (fun r j wy => ∃ m : Nat, m ≤ ds.length ∧ j = .int .i64 (m : Int) ∧ r = .bool (decide (k = i) || doneS (ds.take m) k) ∧ wy = wx) (fun _ j _ => ds.length - (intOf j).toNat)
              case atStart => exact ⟨0, Nat.zero_le _, rfl, by rw [HD0.out], rfl⟩
              case round =>
                clear hki HD0
                obtain ⟨m, hm, rfl, rfl, hwy⟩ := hrel
                rename World => wy
                subst hwy
                by_cases hml : m < ds.length
                · have m1 : (m : Int) < (ds.length : Int) := by omega
                  have m0 : (0 : Int) ≤ (m : Int) := by omega
                  obtain ⟨y, hy⟩ : ∃ y, ds[m]? = some y := ⟨_, List.getElem?_eq_getElem hml⟩
                  obtain ⟨b, off, rfl, hbl, hcy⟩ := HIS.out m y hy
                  have cy : wy.cell? ⟨b, off + m, none⟩ = some (.int .i64 y) := (HBE.out.cell (p := ⟨b, off + m, none⟩) hbl).trans hcy
                  have HNX := Lib.hid (doneTo_next (i := k) (w := i) hy)
                  generalize (decide (k = i) || doneS (ds.take m) k) = r0 at *
                  have hyk : (y == (k : Int)) = decide (y = (k : Int)) := by rw [Bool.eq_iff_iff]; simp
                  generalize decide (y = (k : Int)) = d0 at *
                  clear hcy hy
                  cases r0 <;> cases d0
                  all_goals
                    go_wp2_with fail
                    go_roundw
                    case rel => exact ⟨m + 1, hml, by go_num, by rw [HNX.out]; rfl, trivial⟩
                    case measure => (simp [intOf] <;> omega)
                · have m1 : ¬ (m : Int) < (ds.length : Int) := by omega
                  have e : m = ds.length := by omega
                  subst e
                  have HNE := Lib.hid (moreTo_next ds i k)
                  have HLN := Lib.hid (moreTo_len ds i k)
                  rw [List.take_length]
                  generalize (decide (k = i) || doneS ds k) = r0 at *
                  generalize moreTo ds i k = D at *
                  cases r0
                  · have HN2 := Lib.hid (show moreTo ds i (k + 1) = D by rw [HNE.out]; simp)
                    clear HNE
                    go_wp2_with fail
                    go_roundw
                    case rel => exact ⟨k + 1, hkn, by go_num, by rw [HN2.out]; exact HOW.out, HBX.out⟩
                    case measure => (simp [intOf] <;> omega)
                  · have HN2 := Lib.hid (show moreTo ds i (k + 1) = D ++ [(k : Int)] by rw [HNE.out]; simp)
                    have HZX := Lib.hid HBX.out.size
                    clear HNE g0 g1
                    go_wp2_with (at_builtin; refine app_one (w0 := wr) wr.heap.size _ D (k : Int) rfl _ _ rfl rfl HOW.out rfl (by have := HLN.out; omega) HBX.out HZX.out ?_; intro ga cap1 w4 hown1 hb1)
                    have HO1 := Lib.hid hown1
                    have HBB := Lib.hid hb1
                    clear hown1 hb1
                    go_wp2_with fail
                    go_roundw
                    case rel => exact ⟨k + 1, hkn, by go_num, by rw [HN2.out, List.length_append]; exact HO1.out, HBB.out⟩
                    case measure => (simp [intOf] <;> omega)
            · have kn1 : ¬ (k : Int) < (s.ws.length : Int) := by omega
              have e : k = s.ws.length := by omega
              have HML := Lib.hid (show (moreTo ds i s.ws.length).length ≤ 100000 by have := moreTo_len ds i s.ws.length; omega)
              have HMI := Lib.hid (show IS wx (.slice aw (moreTo ds i s.ws.length).length cw) (moreTo ds i s.ws.length) by rw [e] at HOW; exact is_own HOW.out rfl)
              rw [e] at kn1 ⊢
              clear HOW hkn hk2 e
              have HLB := Lib.hid (lnV_len s (moreTo ds i s.ws.length))
              have HLM := Lib.hid (rdV_len s (moreTo ds i s.ws.length))
              generalize moreTo ds i s.ws.length = more at *
              have C5 := Lib.hid (fun W h1 h2 => Line_v s (.agg #[.int .i64 s.pr, .slice ua s.ws.length uc]) more (.slice aw more.length cw) W h1 h2 HML.out)
              have C6 := Lib.hid (fun W h1 h2 => Ready_v s (.agg #[.int .i64 s.pr, .slice ua s.ws.length uc]) more (.slice aw more.length cw) W h1 h2 HML.out)
              rw [HPM.out] at C5 C6
              generalize lnV s ds = la at *
              generalize lnV s more = lb at *
              generalize rdV s more = lm at *
              clear C0 C3 HMO HRZ HPM
              go_wp2_with fail
              refine (C1.out wx (HV.out.below HBE.out) (HD.out.below HBE.out)).mono ?_
              rintro e w4 ⟨u4, rfl, hi4, b4⟩
              obtain ⟨a4, c4, rfl, _, _, _, hI4⟩ := hi4
              have I4 := Lib.hid hI4
              have H4 := Lib.hid ((b4.block _ (by have := HBE.out.size; have := HBX.out.size; have := HZR.out; omega)).trans HX0.out)
              have HB4 := Lib.hid (bon HBE.out b4)
              have M4 := Lib.hid (HMI.out.below b4)
              have X4 := Lib.hid (Below.trans HBX.out (b4.mono HBX.out.size))
              have S4 := Lib.hid b4.size
              clear hI4 b4 g0 g1
              have g0 : w4.cell? ⟨w.heap.size, 0, none⟩ = some (.int .i64 s.pr) := cell_of_row w4 _ 0 _ _ _ H4.out
              have g1 : w4.cell? ⟨w.heap.size, 1, none⟩ = some (.slice ua s.ws.length uc) := cell_of_row w4 _ 1 _ _ _ H4.out
              go_wp2_with fail
              refine (C5.out w4 (HV.out.below HB4.out) M4.out).mono ?_
              rintro e w5 ⟨u5, rfl, hi5, b5⟩
              obtain ⟨a5, c5, rfl, _, _, _, hI5⟩ := hi5
              have I5 := Lib.hid hI5
              have H5 := Lib.hid ((b5.block _ (by have := HBX.out.size; have := HZR.out; have := S4.out; omega)).trans H4.out)
              have HB5 := Lib.hid (bon HB4.out b5)
              have M5 := Lib.hid (M4.out.below b5)
              have J4 := Lib.hid (IntsAt.below I4.out b5)
              have X5 := Lib.hid (Below.trans X4.out (b5.mono X4.out.size))
              have S5 := Lib.hid b5.size
              clear hI5 b5 g0 g1
              have g0 : w5.cell? ⟨w.heap.size, 0, none⟩ = some (.int .i64 s.pr) := cell_of_row w5 _ 0 _ _ _ H5.out
              have g1 : w5.cell? ⟨w.heap.size, 1, none⟩ = some (.slice ua s.ws.length uc) := cell_of_row w5 _ 1 _ _ _ H5.out
              go_wp2_with fail
              refine (C6.out w5 (HV.out.below HB5.out) M5.out).mono ?_
              rintro e w6 ⟨u6, rfl, hi6, b6⟩
              obtain ⟨a6, c6, rfl, _, _, _, hI6⟩ := hi6
              have I6 := Lib.hid hI6
              have HZ6 := Lib.hid (show w.heap.size < w6.heap.size by have := HBX.out.size; have := HZR.out; have := S4.out; have := S5.out; have := b6.size; omega)
              have H6 := Lib.hid ((b6.block _ (by have := HBX.out.size; have := HZR.out; have := S4.out; have := S5.out; omega)).trans H5.out)
              have HB6 := Lib.hid (bon HB5.out b6)
              have K4 := Lib.hid (IntsAt.below J4.out b6)
              have K5 := Lib.hid (IntsAt.below I5.out b6)
              have X6 := Lib.hid (Below.trans X5.out (b6.mono X5.out.size))
              clear hI6 b6 g0 g1 C1 C5 C6 M4 M5 J4 I4 I5 X4 X5 S4 S5
              have g0 : w6.cell? ⟨w.heap.size, 0, none⟩ = some (.int .i64 s.pr) := cell_of_row w6 _ 0 _ _ _ H6.out
              have g1 : w6.cell? ⟨w.heap.size, 1, none⟩ = some (.slice ua s.ws.length uc) := cell_of_row w6 _ 1 _ _ _ H6.out
              have la1 : ((la.length : Int) != s.pr) = false := by rw [bne_eq_false_iff_eq]; exact HMK.out.len1
              have la2 : ((lb.length : Int) != s.pr) = false := by rw [bne_eq_false_iff_eq]; exact HMK.out.len2
              go_wp2_with fail
              clear g0 g1 la1 la2
              go_loopw [21] (fun j wy => ∃ p : Nat, p ≤ la.length ∧ j = .int .i64 (p : Int) ∧ Below w6.heap.size w6 wy) (fun j _ => la.length - (intOf j).toNat)
              case atStart => exact ⟨0, Nat.zero_le _, rfl, Below.refl _ _⟩
              case round =>
                obtain ⟨p, hp, rfl, hby⟩ := hrel
                rename World => wy
                have HBY := Lib.hid hby
                have hy0 := (hby.block _ HZ6.out).trans H6.out
                have HY0 := Lib.hid hy0
                have g0 : wy.cell? ⟨w.heap.size, 0, none⟩ = some (.int .i64 s.pr) := cell_of_row wy _ 0 _ _ _ hy0
                have g1 : wy.cell? ⟨w.heap.size, 1, none⟩ = some (.slice ua s.ws.length uc) := cell_of_row wy _ 1 _ _ _ hy0
                have HWY := Lib.hid (HB6.out.trans (hby.mono (Nat.le_of_lt HZ6.out)))
                have hla : (la.length : Int) ≤ s.pr ∧ s.pr ≤ (la.length : Int) := by have := HMK.out.len1; omega
                have hlb : (lb.length : Int) ≤ s.pr ∧ s.pr ≤ (lb.length : Int) := by have := HMK.out.len2; omega
                have hp24 : s.pr ≤ 24 := HSM.out.2.1
                clear hby hy0
                by_cases hpl : p < la.length
                · have p1 : (p : Int) < s.pr := by omega
                  have p2 : (p : Int) < (la.length : Int) := by omega
                  have p3 : (p : Int) < (lb.length : Int) := by omega
                  have p0 : (0 : Int) ≤ (p : Int) := by omega
                  obtain ⟨za, hza⟩ : ∃ z, la[p]? = some z := ⟨_, List.getElem?_eq_getElem hpl⟩
                  have hzb := HMK.out.at' p za hza
                  obtain ⟨b4, o4, rfl, hb4, hc4⟩ := K4.out p za hza
                  have d4 : wy.cell? ⟨b4, o4 + p, none⟩ = some (.int .i64 za) := (HBY.out.cell (p := ⟨b4, o4 + p, none⟩) hb4).trans hc4
                  obtain ⟨zb, hzb2⟩ : ∃ zb, zb = (if takesP x (p : Int) = true then s.pr + 2 * (i : Int) + p - x.pl else za) := ⟨_, rfl⟩
                  rw [← hzb2] at hzb
                  obtain ⟨b5, o5, rfl, hb5, hc5⟩ := K5.out p zb hzb
                  have HB5C := Lib.hid hb5
                  have HC5 := Lib.hid hc5
                  obtain ⟨wb, wo, rfl, hwb, hrw, _⟩ := HUU.out i x HXI.out
                  have e0 : wy.cell? ⟨wb, wo + i * 3, none⟩ = some (.int .i64 x.kd) := (HWY.out.cell (p := ⟨wb, wo + i * 3, none⟩) hwb).trans (hrw 0 _ rfl)
                  have e1 : wy.cell? ⟨wb, wo + i * 3 + 1, none⟩ = some (.int .i64 x.pl) := (HWY.out.cell (p := ⟨wb, wo + i * 3 + 1, none⟩) hwb).trans (hrw 1 _ rfl)
                  have e2 : wy.cell? ⟨wb, wo + i * 3 + 2, none⟩ = some (.string x.wd) := (HWY.out.cell (p := ⟨wb, wo + i * 3 + 2, none⟩) hwb).trans (hrw 2 _ rfl)
                  have hxp := HSM.out.2.2.2 x (List.mem_of_getElem? HXI.out)
                  have hxa : 0 ≤ x.pl := hxp.1
                  have hxb : x.pl ≤ 100 := hxp.2
                  have CT := Lib.hid (fun W => refTakes_any x (p : Int) W hxp)
                  have i0 : (0 : Int) ≤ (i : Int) := by omega
                  have i1 : (i : Int) < (s.ws.length : Int) := by omega
                  have HZB := Lib.hid hzb2
                  have HRW := Lib.hid hrw
                  have HWB := Lib.hid hwb
                  clear hza hzb hc4 hzb2 hc5 hrw hxp
                  go_wp2_with fail
                  refine (CT.out _).mono ?_
                  rintro e w7 ⟨rfl, b7⟩
                  have HB7 := Lib.hid (HBY.out.trans (b7.mono HBY.out.size))
                  have HY7 := Lib.hid ((b7.block _ (by have := HBY.out.size; have := HZ6.out; omega)).trans HY0.out)
                  have HZ7 := Lib.hid (show w.heap.size < w7.heap.size by have := b7.size; have := HBY.out.size; have := HZ6.out; omega)
                  have HW7 := Lib.hid (HWY.out.trans (b7.mono (by have := HWY.out.size; omega)))
                  clear b7 e0 e1 e2 g0 g1 d4
                  have d5 : w7.cell? ⟨b5, o5 + p, none⟩ = some (.int .i64 zb) := (HB7.out.cell (p := ⟨b5, o5 + p, none⟩) HB5C.out).trans HC5.out
                  by_cases ht : takesP x (p : Int) = true
                  · have ez : zb = s.pr + 2 * (i : Int) + p - x.pl := by rw [HZB.out, if_pos ht]
                    have hne : (zb != s.pr + 2 * (i : Int) + (p : Int) - x.pl) = false := by rw [bne_eq_false_iff_eq]; exact ez
                    rw [ht]
                    have hzw := HZ7.out
                    have g0 : w7.cell? ⟨w.heap.size, 0, none⟩ = some (.int .i64 s.pr) := cell_of_row w7 _ 0 _ _ _ HY7.out
                    have g1 : w7.cell? ⟨w.heap.size, 1, none⟩ = some (.slice (some ⟨wb, wo, none⟩) s.ws.length uc) := cell_of_row w7 _ 1 _ _ _ HY7.out
                    have e1 : w7.cell? ⟨wb, wo + i * 3 + 1, none⟩ = some (.int .i64 x.pl) := (HW7.out.cell (p := ⟨wb, wo + i * 3 + 1, none⟩) HWB.out).trans (HRW.out 1 _ rfl)
                    have hwb7 : wb < w7.heap.size := by have := HWB.out; omega
                    have sp2 : 2 ≤ s.pr := HSM.out.1
                    have q1 : IntKind.i64.wrap (2 * (i : Int)) = 2 * (i : Int) := IntWalk.i64_in _ (by omega)
                    have q2 : IntKind.i64.wrap (s.pr + 2 * (i : Int)) = s.pr + 2 * (i : Int) := IntWalk.i64_in _ (by omega)
                    have q3 : IntKind.i64.wrap (s.pr + 2 * (i : Int) + (p : Int)) = s.pr + 2 * (i : Int) + (p : Int) := IntWalk.i64_in _ (by omega)
                    have q4 : IntKind.i64.wrap (s.pr + 2 * (i : Int) + (p : Int) - x.pl) = s.pr + 2 * (i : Int) + (p : Int) - x.pl := IntWalk.i64_in _ (by omega)
                    clear ht ez
                    go_wp2_with fail
                    refine wp_region_class (fun w' => Below w7.heap.size w7 w') 13 (by kernel_rfl) (by kernel_rfl) (Below.refl _ w7).drew ?_
                    simp only [List.take_succ_cons, List.take_zero, List.drop_succ_cons, List.drop_zero]
                    refine quiet_still rfl (.pointer (some ⟨w.heap.size, 0, none⟩)) (fun w _ => by go_simp) ?_
                    simp only [Act.put, List.setIfInBounds_toArray, List.set_cons_zero, List.set_cons_succ]
                    refine quiet_load1 rfl _ _ rfl ⟨w.heap.size, 0, none⟩ rfl (.int .i64 s.pr) (load_int _ _) (fun _ h => (h.cell (p := ⟨w.heap.size, 0, none⟩) hzw).trans g0) ?_
                    simp only [Act.put, List.setIfInBounds_toArray, List.set_cons_zero, List.set_cons_succ]
                    refine quiet_moveV rfl _ rfl (.int .i64 (i : Int)) rfl ?_
                    simp only [Act.put, List.setIfInBounds_toArray, List.set_cons_zero, List.set_cons_succ]
                    refine quiet_still rfl (.int .i64 (2 * (i : Int))) (fun w _ => by go_simp) ?_
                    simp only [Act.put, List.setIfInBounds_toArray, List.set_cons_zero, List.set_cons_succ]
                    refine quiet_still rfl (.int .i64 (s.pr + 2 * (i : Int))) (fun w _ => by go_simp) ?_
                    simp only [Act.put, List.setIfInBounds_toArray, List.set_cons_zero, List.set_cons_succ]
                    refine quiet_moveV rfl _ rfl (.int .i64 (p : Int)) rfl ?_
                    simp only [Act.put, List.setIfInBounds_toArray, List.set_cons_zero, List.set_cons_succ]
                    refine quiet_still rfl (.int .i64 (s.pr + 2 * (i : Int) + (p : Int))) (fun w _ => by go_simp) ?_
                    simp only [Act.put, List.setIfInBounds_toArray, List.set_cons_zero, List.set_cons_succ]
                    refine quiet_still rfl (.pointer (some ⟨w.heap.size, 1, none⟩)) (fun w _ => by go_simp) ?_
                    simp only [Act.put, List.setIfInBounds_toArray, List.set_cons_zero, List.set_cons_succ]
                    refine quiet_load1 rfl _ _ rfl ⟨w.heap.size, 1, none⟩ rfl (.slice (some ⟨wb, wo, none⟩) s.ws.length uc) (load_ws _ _) (fun _ h => (h.cell (p := ⟨w.heap.size, 1, none⟩) hzw).trans g1) ?_
                    simp only [Act.put, List.setIfInBounds_toArray, List.set_cons_zero, List.set_cons_succ]
                    refine quiet_moveV rfl _ rfl (.int .i64 (i : Int)) rfl ?_
                    simp only [Act.put, List.setIfInBounds_toArray, List.set_cons_zero, List.set_cons_succ]
                    refine quiet_still rfl (.pointer (some ⟨wb, wo + i * 3, none⟩)) (fun w _ => by go_simp) ?_
                    simp only [Act.put, List.setIfInBounds_toArray, List.set_cons_zero, List.set_cons_succ]
                    refine quiet_still rfl (.pointer (some ⟨wb, wo + i * 3 + 1, none⟩)) (fun w _ => by go_simp) ?_
                    simp only [Act.put, List.setIfInBounds_toArray, List.set_cons_zero, List.set_cons_succ]
                    refine quiet_load1 rfl _ _ rfl ⟨wb, wo + i * 3 + 1, none⟩ rfl (.int .i64 x.pl) (load_int _ _) (fun _ h => (h.cell (p := ⟨wb, wo + i * 3 + 1, none⟩) hwb7).trans e1) ?_
                    simp only [Act.put, List.setIfInBounds_toArray, List.set_cons_zero, List.set_cons_succ]
                    unfold wpQuiet
                    intro wq hb
                    have HBQ := Lib.hid (HB7.out.trans (hb.mono HB7.out.size))
                    clear hb e1 g0 g1 d5
                    have d5 : wq.cell? ⟨b5, o5 + p, none⟩ = some (.int .i64 zb) := (HBQ.out.cell (p := ⟨b5, o5 + p, none⟩) HB5C.out).trans HC5.out
                    go_wp2_with fail
                    go_roundw
                    case rel => exact ⟨p + 1, hpl, by go_num, HBQ.out⟩
                    case measure => (simp [intOf] <;> omega)
                  · have ez : zb = za := by rw [HZB.out, if_neg ht]
                    have hne : (zb != za) = false := by rw [bne_eq_false_iff_eq]; exact ez
                    have ht' : takesP x (p : Int) = false := by simpa using ht
                    rw [ht']
                    clear ht ht' ez
                    go_wp2_with fail
                    go_roundw
                    case rel => exact ⟨p + 1, hpl, by go_num, HB7.out⟩
                    case measure => (simp [intOf] <;> omega)
                · have p1 : ¬ (p : Int) < s.pr := by omega
                  have HRY := Lib.hid (show IntsAt wy (some ⟨rb, ro, none⟩) R from IntsAt.below (w := w3) HRI.out (HBR.out.trans ((Below.trans X6.out (HBY.out.mono X6.out.size)).mono HBR.out.size)))
                  have K6 := Lib.hid (IntsAt.below I6.out HBY.out)
                  go_wp2_with fail
                  clear g0 g1
                  go_loopw [23] (fun j wz => ∃ k : Nat, k ≤ R.length ∧ j = .int .i64 (k : Int) ∧ Below wy.heap.size wy wz) (fun j _ => R.length - (intOf j).toNat)
                  case atStart => exact ⟨0, Nat.zero_le _, rfl, Below.refl _ _⟩
                  case round =>
                    obtain ⟨k, hk, rfl, hbz⟩ := hrel
                    rename World => wz
                    have HBZ := Lib.hid hbz
                    clear hbz
                    by_cases hkl : k < R.length
                    · have k1 : (k : Int) < (R.length : Int) := by omega
                      have k0 : (0 : Int) ≤ (k : Int) := by omega
                      obtain ⟨z, hz⟩ : ∃ z, R[k]? = some z := ⟨_, List.getElem?_eq_getElem hkl⟩
                      obtain ⟨b7, o7, e7, hb7, hc7⟩ := HRY.out k z hz
                      cases e7
                      have HST := Lib.hid (HMK.out.still k z hz)
                      have HB7L := Lib.hid hb7
                      have HC7 := Lib.hid hc7
                      have d7 : wz.cell? ⟨rb, ro + k, none⟩ = some (.int .i64 z) := (HBZ.out.cell (p := ⟨rb, ro + k, none⟩) hb7).trans hc7
                      have hzi : (z == (i : Int)) = decide (z = (i : Int)) := by rw [Bool.eq_iff_iff]; simp
                      have HM0 := Lib.hid (show memTo lm z i 0 = decide (z = (i : Int)) by unfold memTo; simp)
                      clear hz hc7
                      go_wp2_with fail
                      clear d7
                      go_loopw [24, 25] (fun r j wu => ∃ q : Nat, q ≤ lm.length ∧ j = .int .i64 (q : Int) ∧ r = .bool (memTo lm z i q) ∧ Below wy.heap.size wy wu) (fun _ j _ => lm.length - (intOf j).toNat)
                      case atStart => exact ⟨0, Nat.zero_le _, rfl, by rw [HM0.out], HBZ.out⟩
                      case round =>
                        clear hzi HM0
                        obtain ⟨q, hq, rfl, rfl, hbu⟩ := hrel
                        rename World => wu
                        have HBU := Lib.hid hbu
                        have HLQ := Lib.hid HLM.out
                        have hlm : lm.length ≤ 1000 := HLM.out
                        clear hbu
                        by_cases hql : q < lm.length
                        · have q1 : (q : Int) < (lm.length : Int) := by omega
                          have q0 : (0 : Int) ≤ (q : Int) := by omega
                          obtain ⟨y, hy⟩ : ∃ y, lm[q]? = some y := ⟨_, List.getElem?_eq_getElem hql⟩
                          obtain ⟨b6, o6, rfl, hb6, hc6⟩ := K6.out q y hy
                          have d6 : wu.cell? ⟨b6, o6 + q, none⟩ = some (.int .i64 y) := (HBU.out.cell (p := ⟨b6, o6 + q, none⟩) hb6).trans hc6
                          have d7 : wu.cell? ⟨rb, ro + k, none⟩ = some (.int .i64 z) := (HBU.out.cell (p := ⟨rb, ro + k, none⟩) HB7L.out).trans HC7.out
                          have hb6u : b6 < wu.heap.size := by have := HBU.out.size; omega
                          have hrbu : rb < wu.heap.size := by have := HBU.out.size; have := HB7L.out; omega
                          have HNX := Lib.hid (memTo_next (z := z) (w := i) hy)
                          generalize memTo lm z i q = r0 at *
                          have hyz : (y == z) = decide (y = z) := by rw [Bool.eq_iff_iff]; simp
                          generalize decide (y = z) = d0 at *
                          clear hc6 hy
                          cases r0
                          · go_wp2_with fail
                            refine wp_region_class (fun w' => Below wu.heap.size wu w') 11 (by kernel_rfl) (by kernel_rfl) (Below.refl _ wu).drew ?_
                            simp only [List.take_succ_cons, List.take_zero, List.drop_succ_cons, List.drop_zero]
                            refine quiet_moveV rfl _ rfl (.bool false) rfl ?_
                            simp only [Act.put, List.setIfInBounds_toArray, List.set_cons_zero, List.set_cons_succ]
                            refine quiet_moveV rfl _ rfl (.bool false) rfl ?_
                            simp only [Act.put, List.setIfInBounds_toArray, List.set_cons_zero, List.set_cons_succ]
                            refine quietW_moveV (by kernel_rfl) _ rfl (.slice (some ⟨b6, o6, none⟩) lm.length c6) rfl ?_
                            simp only [Act.put, List.setIfInBounds_toArray, List.set_cons_zero, List.set_cons_succ]
                            refine quietW_moveV (by kernel_rfl) _ rfl (.int .i64 (q : Int)) rfl ?_
                            simp only [Act.put, List.setIfInBounds_toArray, List.set_cons_zero, List.set_cons_succ]
                            refine quietW_still (by kernel_rfl) (.pointer (some ⟨b6, o6 + q, none⟩)) (fun w _ => by go_simp) ?_
                            simp only [Act.put, List.setIfInBounds_toArray, List.set_cons_zero, List.set_cons_succ]
                            refine quietW_load1 (by kernel_rfl) _ _ rfl ⟨b6, o6 + q, none⟩ rfl (.int .i64 y) (load_int _ _) (fun _ h => (h.cell (p := ⟨b6, o6 + q, none⟩) hb6u).trans d6) ?_
                            simp only [Act.put, List.setIfInBounds_toArray, List.set_cons_zero, List.set_cons_succ]
                            refine quietW_moveV (by kernel_rfl) _ rfl (.slice (some ⟨rb, ro, none⟩) R.length rc) rfl ?_
                            simp only [Act.put, List.setIfInBounds_toArray, List.set_cons_zero, List.set_cons_succ]
                            refine quietW_moveV (by kernel_rfl) _ rfl (.int .i64 (k : Int)) rfl ?_
                            simp only [Act.put, List.setIfInBounds_toArray, List.set_cons_zero, List.set_cons_succ]
                            refine quietW_still (by kernel_rfl) (.pointer (some ⟨rb, ro + k, none⟩)) (fun w _ => by go_simp) ?_
                            simp only [Act.put, List.setIfInBounds_toArray, List.set_cons_zero, List.set_cons_succ]
                            refine quietW_load1 (by kernel_rfl) _ _ rfl ⟨rb, ro + k, none⟩ rfl (.int .i64 z) (load_int _ _) (fun _ h => (h.cell (p := ⟨rb, ro + k, none⟩) hrbu).trans d7) ?_
                            simp only [Act.put, List.setIfInBounds_toArray, List.set_cons_zero, List.set_cons_succ]
                            refine quietW_still (by kernel_rfl) (.bool d0) (fun w _ => by go_simp; first | done | rw [hyz] | simp [hyz]) ?_
                            simp only [Act.put, List.setIfInBounds_toArray, List.set_cons_zero, List.set_cons_succ]
                            unfold wpQuiet
                            intro wq hb
                            have HBQ := Lib.hid (HBU.out.trans (hb.mono HBU.out.size))
                            clear hb
                            go_wp2_with fail
                            go_roundw
                            case rel => exact ⟨q + 1, hql, by go_num, by rw [HNX.out]; rfl, HBQ.out⟩
                            case measure => (simp [intOf] <;> omega)
                          · go_wp2_with fail
                            refine wp_region_class (fun w' => Below wu.heap.size wu w') 11 (by kernel_rfl) (by kernel_rfl) (Below.refl _ wu).drew ?_
                            simp only [List.take_succ_cons, List.take_zero, List.drop_succ_cons, List.drop_zero]
                            refine quiet_moveV rfl _ rfl (.bool true) rfl ?_
                            simp only [Act.put, List.setIfInBounds_toArray, List.set_cons_zero, List.set_cons_succ]
                            refine quiet_moveV rfl _ rfl (.bool true) rfl ?_
                            simp only [Act.put, List.setIfInBounds_toArray, List.set_cons_zero, List.set_cons_succ]
                            refine quiet_skip (by kernel_rfl) ?_
                            simp only [Act.put, List.setIfInBounds_toArray, List.set_cons_zero, List.set_cons_succ]
                            refine quiet_skip (by kernel_rfl) ?_
                            simp only [Act.put, List.setIfInBounds_toArray, List.set_cons_zero, List.set_cons_succ]
                            refine quiet_skip (by kernel_rfl) ?_
                            simp only [Act.put, List.setIfInBounds_toArray, List.set_cons_zero, List.set_cons_succ]
                            refine quiet_skip (by kernel_rfl) ?_
                            simp only [Act.put, List.setIfInBounds_toArray, List.set_cons_zero, List.set_cons_succ]
                            refine quiet_skip (by kernel_rfl) ?_
                            simp only [Act.put, List.setIfInBounds_toArray, List.set_cons_zero, List.set_cons_succ]
                            refine quiet_skip (by kernel_rfl) ?_
                            simp only [Act.put, List.setIfInBounds_toArray, List.set_cons_zero, List.set_cons_succ]
                            refine quiet_skip (by kernel_rfl) ?_
                            simp only [Act.put, List.setIfInBounds_toArray, List.set_cons_zero, List.set_cons_succ]
                            refine quiet_skip (by kernel_rfl) ?_
                            simp only [Act.put, List.setIfInBounds_toArray, List.set_cons_zero, List.set_cons_succ]
                            refine quiet_skip (by kernel_rfl) ?_
                            simp only [Act.put, List.setIfInBounds_toArray, List.set_cons_zero, List.set_cons_succ]
                            unfold wpQuiet
                            intro wq hb
                            have HBQ := Lib.hid (HBU.out.trans (hb.mono HBU.out.size))
                            clear hb
                            go_wp2_with fail
                            go_roundw
                            case rel => exact ⟨q + 1, hql, by go_num, by rw [HNX.out]; rfl, HBQ.out⟩
                            case measure => (simp [intOf] <;> omega)
                        · have q1 : ¬ (q : Int) < (lm.length : Int) := by omega
                          have e : q = lm.length := by omega
                          have HE := Lib.hid (show memTo lm z i q = true by
                            unfold memTo
                            rw [e, List.take_length]
                            rcases HST.out with h | h
                            · simp [h]
                            · simp [h])
                          rw [HE.out]
                          clear e
                          go_wp2_with fail
                          go_roundw
                          case rel => exact ⟨k + 1, hkl, by go_num, HBU.out⟩
                          case measure => (simp [intOf] <;> omega)
                    · have k1 : ¬ (k : Int) < (R.length : Int) := by omega
                      have HBF := Lib.hid (HWY.out.trans (HBZ.out.mono (by have := HWY.out.size; omega)))
                      go_wp2_with fail
                      refine (CS.out _).mono ?_
                      rintro e w8 ⟨rfl, b8⟩
                      have HB8 := Lib.hid (bon HBF.out b8)
                      clear b8
                      go_wp2_with fail
                      go_ret
                      exact ⟨rfl, HB8.out⟩
  · have hq : (progE s ds != 0) = true := by rw [bne_iff_ne]; exact hp
    clear hp
    go_wp2_with fail
    refine (CS.out _).mono ?_
    rintro e w8 ⟨rfl, b8⟩
    have HB8 := Lib.hid (bon HB2.out b8)
    clear b8
    go_wp2_with fail
    go_ret
    exact ⟨rfl, HB8.out⟩
end Go.Proofs.Ytenfeekchggioaa
