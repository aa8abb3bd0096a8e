/- The front of a sheet of which nothing is done. -/
import Derived.Test.YtcjbjlepgdggpaaTM
namespace Go.Proofs.Ytcjbjlepgdggpaa
open Go.RowKit Go.Shelf Go.Lib
set_option maxRecDepth 100000
set_option linter.unusedSimpArgs false
attribute [local irreducible] wpQuiet
def fr0 : List Value := frC 0 (.slice none 0 0) (.slice none 0 0) (List.replicate 24 0)
theorem fr0_eq : (#[.int .i64 0, .slice none 0 0, .slice none 0 0, .int .i64 0, .int .i64 0, .int .i64 0, .int .i64 0, .int .i64 0, .int .i64 0, .int .i64 0, .int .i64 0, .int .i64 0, .int .i64 0, .int .i64 0, .int .i64 0, .int .i64 0, .int .i64 0, .int .i64 0, .int .i64 0, .int .i64 0, .int .i64 0, .int .i64 0, .int .i64 0, .int .i64 0, .int .i64 0, .int .i64 0, .int .i64 0] : Array Value) = fr0.toArray := rfl
theorem frC_len {pr : Int} {u ev : Value} {X : List Int} (h : X.length = 24) : (frC pr u ev X).length = 27 := by simp [frC, h]
theorem frC_one {pr : Int} {a1 a2 : Option Addr} {n1 c1 n2 c2 : Nat} {X : List Int} : (frC pr (.slice a1 n1 c1) (.slice a2 n2 c2) X).toArray.all (·.oneCell') = true := by
  simp [frC, Value.oneCell']
theorem infoFr {cs : List Value} (h : cs.length = 27) : (Try.prog.info? 65).map (·.size) = some cs.toArray.size := by
  rw [List.size_toArray, h]
  kernel_rfl
/-- What the front is where there is no error. -/
def FrOk (s : Sh) (u : Value) (w0 w : World) (cs : List Value) : Prop := ∃ g cap X, cs = frC s.pr u (.slice (some ⟨g, 0, none⟩) (edgesL s.pr.toNat s.ws).length cap) X ∧ X.length = 24 ∧ ES w (.slice (some ⟨g, 0, none⟩) (edgesL s.pr.toNat s.ws).length cap) (edgesL s.pr.toNat s.ws) ∧ w0.heap.size ≤ g ∧ g < w.heap.size ∧
  ∀ p, p < s.pr.toNat → X[p]? = some (topE s.ws p).to
set_option maxHeartbeats 4000000 in
set_option maxRecDepth 100000 in
theorem frontOf_any (s : Sh) (u : Value) (w : World) (hu : WS w u s.ws) :
    Calls Try.prog 45 #[.agg #[.int .i64 s.pr, u]] w fun e w' => ∃ cs : List Value, e = .returned (.tuple #[.agg cs.toArray, .int .i64 (chkS s)]) ∧ cs.length = 27 ∧ cs.toArray.all (·.oneCell') = true ∧ Below w.heap.size w w' ∧ (chkS s = 0 → FrOk s u w w' cs) := by
  have HV := Lib.hid (show SV w (.agg #[.int .i64 s.pr, u]) s from ⟨_, rfl, hu⟩)
  obtain ⟨ua, uc, rfl, k1, k2, _⟩ := id hu
  have CS := Lib.hid (fun W h => Edges_any s (.agg #[.int .i64 s.pr, .slice ua s.ws.length uc]) W h)
  have HST := Lib.hid (fun h => show edgesV s = edgesL s.pr.toNat s.ws by unfold edgesV; rw [if_pos h])
  have HSM := Lib.hid (@chk_small s)
  generalize hzz : chkS s = z at *
  have HZZ := Lib.hid hzz
  clear hu hzz
  go_enter Try.func45, Try.ntmps45
  go_wp2_with fail
  rw [fr0_eq]
  have B0 : Below w.heap.size w ((w.alloc (.cells #[.int .i64 s.pr, .slice ua s.ws.length uc] 24)).alloc (.cells fr0.toArray 65)) := (below_alloc _ _).alloc (by simp) _
  have h0 := heap_alloc2_old w (.cells #[.int .i64 s.pr, .slice ua s.ws.length uc] 24) (.cells fr0.toArray 65)
  have h1 := heap_alloc2_new w (.cells #[.int .i64 s.pr, .slice ua s.ws.length uc] 24) (.cells fr0.toArray 65)
  have hz0 : ((w.alloc (.cells #[.int .i64 s.pr, .slice ua s.ws.length uc] 24)).alloc (.cells fr0.toArray 65)).heap.size = w.heap.size + 2 := by simp
  generalize (w.alloc (.cells #[.int .i64 s.pr, .slice ua s.ws.length uc] 24)).alloc (.cells fr0.toArray 65) = W0 at *
  refine (CS.out W0 (HV.out.below B0)).mono ?_
  rintro e w1 ⟨sv, rfl, hown, hnil, b1⟩
  have H0 := Lib.hid (hb_below b1 h0 (by omega))
  have H1 := Lib.hid (hb_below b1 h1 (by omega))
  have HB1 := Lib.hid (bon B0 b1)
  have HZ1 := Lib.hid (show w.heap.size + 2 ≤ w1.heap.size by have := b1.size; omega)
  have HOW := Lib.hid hown
  have HGE := Lib.hid (show w.heap.size + 2 ≤ W0.heap.size by omega)
  obtain ⟨sa, sc, rfl⟩ := own_form hown
  clear CS B0 h0 h1 b1 hown hnil hz0
  by_cases hchk : z = 0
  · have HC := Lib.hid hchk
    subst hchk
    obtain ⟨p1, p2, psm⟩ := HSM.out rfl
    have hE := HST.out rfl
    rw [hE] at HOW
    have hlen : s.pr.toNat ≤ (edgesL s.pr.toNat s.ws).length := by unfold edgesL; simp
    obtain ⟨g, cap, e⟩ := own_pos HOW.out (by omega)
    have hES := es_own HOW.out
    have hgg := (World.ownsRow.lt HOW.out g (by rw [e]; rfl))
    cases e
    rw [hE]
    have HES := Lib.hid hES
    have HG := Lib.hid hgg
    have HPN := Lib.hid (show s.pr = ((s.pr.toNat : Nat) : Int) by omega)
    have HTO := Lib.hid (fun p (h : p < s.pr.toNat) => top_get s.pr.toNat s.ws p h)
    have hl5 : (edgesL s.pr.toNat s.ws).length ≤ 2000 := by rw [← hE]; exact edgesV_len s
    have q0 : w1.cell? ⟨w.heap.size, 0, none⟩ = some (.int .i64 s.pr) := cell_of_row w1 _ 0 _ _ _ H0.out
    have q1 : w1.cell? ⟨w.heap.size, 1, none⟩ = some (.slice ua s.ws.length uc) := cell_of_row w1 _ 1 _ _ _ H0.out
    have HP24 := Lib.hid (show s.pr.toNat ≤ 24 by omega)
    generalize hEE : edgesL s.pr.toNat s.ws = E at *
    have q2 := heap_alloc_new w1 (.cells #[.int .i64 0, .slice none 0 0, .slice none 0 0, .int .i64 0, .int .i64 0, .int .i64 0, .int .i64 0, .int .i64 0, .int .i64 0, .int .i64 0, .int .i64 0, .int .i64 0, .int .i64 0, .int .i64 0, .int .i64 0, .int .i64 0, .int .i64 0, .int .i64 0, .int .i64 0, .int .i64 0, .int .i64 0, .int .i64 0, .int .i64 0, .int .i64 0, .int .i64 0, .int .i64 0, .int .i64 0] 65)
    clear hES hgg
    go_upto_region 5 with (first | (refine store_row rfl 65 (.tmp 6) (.tmp 19) rfl w1.heap.size (frC s.pr (.slice ua s.ws.length uc) (.slice (some ⟨g, 0, none⟩) E.length sc) (List.replicate 24 0)).toArray rfl rfl 65 _ q2 (infoFr (frC_len (by simp))) (by simp [frC]) frC_one ?_; intro w2 h2 k2 z2 b2))
    have hb2 := b2 w1.heap.size w1 (below_alloc w1 (.cells #[.int .i64 0, .slice none 0 0, .slice none 0 0, .int .i64 0, .int .i64 0, .int .i64 0, .int .i64 0, .int .i64 0, .int .i64 0, .int .i64 0, .int .i64 0, .int .i64 0, .int .i64 0, .int .i64 0, .int .i64 0, .int .i64 0, .int .i64 0, .int .i64 0, .int .i64 0, .int .i64 0, .int .i64 0, .int .i64 0, .int .i64 0, .int .i64 0, .int .i64 0, .int .i64 0, .int .i64 0] 65)) (Nat.le_refl _)
    have r0 := (hb2.cell (p := ⟨w.heap.size, 0, none⟩) (by simp only []; have := HZ1.out; omega)).trans q0
    have hz2 : w2.heap.size = w1.heap.size + 1 := by rw [z2]; simp
    have HB2 := Lib.hid hb2
    have HC2 := Lib.hid h2
    clear q2 h2 k2 z2 b2 hb2 q0 q1
    generalize hpr : s.pr.toNat = prn at *
    go_wp2_with fail
    clear r0
    go_loopw [7, 22] (fun _ i wr => ∃ k : Nat, k ≤ prn ∧ i = .int .i64 (k : Int) ∧ ∃ X : List Int, FRT wr w1.heap.size s.pr (.slice ua s.ws.length uc) (.slice (some ⟨g, 0, none⟩) E.length sc) X ∧ (∀ p, p < k → X[p]? = some (topE s.ws p).to) ∧ Below w1.heap.size w1 wr) (fun _ i _ => prn - (intOf i).toNat)
    case atStart => exact ⟨0, Nat.zero_le _, rfl, _, ⟨HC2.out, by simp⟩, fun p h => by omega, HB2.out⟩
    case round =>
      clear HC2 HB2
      obtain ⟨k, hk, rfl, X, hfr, hX, hbr⟩ := hrel
      rename World => wr
      have HFR := Lib.hid hfr
      have HXX := Lib.hid hX
      have HBR := Lib.hid hbr
      have hzr := hfr.lt
      have hX24 := hfr.2
      have hp24 := HP24.out
      clear hfr hX hbr
      by_cases hkl : k < prn
      · have j0 : (0 : Int) ≤ (k : Int) := by omega
        have j1 : (k : Int) < s.pr := by omega
        have j2 : (k : Int) < (E.length : Int) := by omega
        have j3 : (k : Int) < 24 := by omega
        obtain ⟨eb, eo, e, heb, hr, _⟩ := es_get HES.out (HTO.out k hkl)
        cases e
        have c1 : wr.cell? ⟨g, k * 4 + 2, none⟩ = some (.int .i64 (topE s.ws k).to) := (HBR.out.cell (p := ⟨g, k * 4 + 2, none⟩) heb).trans (by have := hr 2 _ rfl; rwa [Nat.zero_add] at this)
        obtain ⟨x0, hx0⟩ : ∃ z, X[k]? = some z := ⟨_, List.getElem?_eq_getElem (by omega)⟩
        have c2 := HFR.out.cell hx0
        have f2 : wr.frozen? ⟨w1.heap.size, 3 + k, none⟩ = false := frozen_of_heap HFR.out.1 _
        have HS := Lib.hid (HFR.out.set k (topE s.ws k).to)
        have HBS := Lib.hid (HBR.out.setCell (p := ⟨w1.heap.size, 3 + k, none⟩) (Nat.le_refl _) (.int .i64 (topE s.ws k).to))
        clear hr hx0
        go_wp2_with fail
        go_roundw
        case rel => exact ⟨k + 1, hkl, by go_num, _, HS.out, fun p hp => by
          rw [List.getElem?_set]
          by_cases c : k = p
          · subst c; rw [if_pos rfl, if_pos (by omega)]
          · rw [if_neg c]; exact HXX.out p (by omega), HBS.out⟩
        case measure => (simp [intOf] <;> omega)
      · have j1 : ¬ (k : Int) < s.pr := by omega
        have e : k = prn := by omega
        subst e
        have H1R := Lib.hid (hb_below HBR.out H1.out (by have := HZ1.out; omega))
        have HBF := Lib.hid (bon HB1.out HBR.out)
        go_wp2_with (first | (refine wpList_load_row rfl 65 (.tmp 6) rfl w1.heap.size rfl 65 (frC s.pr (.slice ua s.ws.length uc) (.slice (some ⟨g, 0, none⟩) E.length sc) X).toArray (0, 0) _ HFR.out.1 Try.underlying65 rfl (infoFr (frC_len HFR.out.2)) ?_) | (refine store_row rfl 65 (.tmp 2) (.tmp 34) rfl (w.heap.size + 1) (frC s.pr (.slice ua s.ws.length uc) (.slice (some ⟨g, 0, none⟩) E.length sc) X).toArray rfl rfl 65 _ H1R.out (infoFr (frC_len HFR.out.2)) (by rw [List.size_toArray, List.size_toArray, frC_len HFR.out.2]; rfl) frC_one ?_; intro wf hf hk2 hzf hBf))
        refine bodyPost_ret (results_row_tmp rfl _ _ (w.heap.size + 1) 65 _ (0, 0) _ _ rfl rfl hf Try.underlying65 rfl (infoFr (frC_len HFR.out.2))) rfl ?_
        have h1c := frC_one (pr := s.pr) (a1 := ua) (a2 := some ⟨g, 0, none⟩) (n1 := s.ws.length) (c1 := uc) (n2 := E.length) (c2 := sc) (X := X)
        refine ⟨_, rfl, frC_len HFR.out.2, by first | exact h1c | (simp only [List.size_toArray, List.all_toArray', List.all_eq_true] at h1c; exact h1c), hBf _ _ HBF.out (by omega), show FrOk s _ w wf _ from ⟨g, sc, X, by rw [hpr, hEE], HFR.out.2, ?_, by have := HG.out; have := HGE.out; omega, ?_, by rw [hpr]; exact HXX.out⟩⟩
        · rw [hpr, hEE]
          obtain ⟨a', c', e', h4⟩ := HES.out.below HBR.out
          cases e'
          refine ⟨_, _, rfl, fun k x hx => ?_⟩
          obtain ⟨b', off, e2, hlt, hr⟩ := h4 k x hx
          cases e2
          refine ⟨_, _, rfl, by rw [hzf]; exact hlt, fun j v hj => ?_⟩
          have := hr j v hj
          unfold World.cell? at this ⊢
          simp only at this ⊢
          rw [hk2 g _ rfl (by have := HG.out; have := HGE.out; omega)]
          exact this
        · rw [hzf]; have := HG.out; have := HBR.out.size; omega
  · have hz : (z == 0) = false := beq_eq_false_iff_ne.2 hchk
    go_wp2_with (first | (refine store_row rfl 65 (.tmp 2) (.tmp 15) rfl (w.heap.size + 1) fr0.toArray rfl rfl 65 _ H1.out (infoFr rfl) rfl (by unfold fr0; exact frC_one) ?_; intro wf hf hk2 hzf hBf))
    refine bodyPost_ret (results_row_tmp rfl _ _ (w.heap.size + 1) 65 _ (0, 0) _ _ rfl rfl hf Try.underlying65 rfl (infoFr rfl)) rfl ?_
    exact ⟨fr0, rfl, rfl, by unfold fr0; exact frC_one, hBf _ _ HB1.out (by omega), fun h => absurd h hchk⟩
end Go.Proofs.Ytcjbjlepgdggpaa
