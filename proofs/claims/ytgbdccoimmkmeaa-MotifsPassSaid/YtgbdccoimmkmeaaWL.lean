/- The motifs of the program: their sheets. -/
import Derived.Test.YtgbdccoimmkmeaaWK
namespace Go.Proofs.Ytgbdccoimmkmeaa
open Go.RowKit
set_option linter.unusedSimpArgs false
/-- What a motif is: pairs, works, error. -/
structure Mo where
  p : Int
  L : List Wk
  e : Int
def moBad (e : Int) : Mo := ⟨0, [], e⟩
def plaitM (n : Int) : Mo := if 1 ≤ n ∧ n ≤ 100 then ⟨2, repL n.toNat [⟨0, sCT⟩], 0⟩ else moBad 7
def picotM (n : Int) : Mo := if 1 ≤ n ∧ n ≤ 7 then ⟨2, [⟨0, picotW n.toNat⟩], 0⟩ else moBad 7
def spiderM (n t : Int) : Mo := if (1 ≤ n ∧ n ≤ 6) ∧ 0 ≤ t ∧ t ≤ 16 then ⟨2 * n, spiderL n.toNat t.toNat, 0⟩ else moBad 7
def fanM (n : Int) : Mo := if 1 ≤ n ∧ n ≤ 12 then ⟨n + 1, fanL n.toNat, 0⟩ else moBad 7
def footM (n m : Int) : Mo := if (1 ≤ n ∧ n ≤ 23) ∧ 1 ≤ m then (if m ≤ 400 / (2 * n + 1) then ⟨n + 1, repL m.toNat (footRow n.toNat), 0⟩ else moBad 3) else moBad 7
/-- A sheet that was handed out. -/
def Out (M : Mo) (w : World) (e : Ending) (w' : World) : Prop := ∃ v, e = .returned (.tuple #[.agg #[.int .i64 M.p, v], .int .i64 M.e]) ∧ WS w' v M.L ∧ Below w.heap.size w w'
theorem ws_nil (w : World) : WS w (.slice none 0 0) [] := ⟨none, 0, rfl, Nat.le_refl _, Nat.zero_le _, fun _ => rfl, fun k x hx => by cases hx⟩
theorem rep_one' (n : Nat) (x : Wk) : (repL n [x]).length = n := by rw [repL_len]; simp
theorem wo_keep {B g : Nat} {w w' : World} {v : Value} {L : List Wk} (h : WO B w v L) (hg : g < B) (hk : ∀ (k : Nat) (ob : Option Obj), w.heap[k]? = ob → k ≠ g → w'.heap[k]? = ob) : WO B w' v L := by
  obtain ⟨hl, hh⟩ := h
  refine ⟨hl, ?_⟩
  rcases hh with h0 | ⟨g2, cap, cur, e, hB, hg2, h1⟩
  · exact .inl h0
  · exact .inr ⟨g2, cap, cur, e, hB, hk _ _ hg2 (by omega), h1⟩
set_option maxHeartbeats 4000000 in
set_option maxRecDepth 100000 in
theorem Plait_any (n : Int) (w : World) : Calls Try.prog 8 #[.int .i64 n] w (Out (plaitM n) w) := by
  by_cases h : 1 ≤ n ∧ n ≤ 100
  · have hr : true = (decide (1 ≤ n) && decide (n ≤ 100)) := by simp [h]
    obtain ⟨k, rfl⟩ : ∃ k : Nat, n = (k : Int) := ⟨n.toNat, by omega⟩
    have hM : plaitM (k : Int) = ⟨2, repL k [⟨0, sCT⟩], 0⟩ := by unfold plaitM; rw [if_pos h]; simp
    rw [hM]
    unfold Out
    clear hM
    have CB := Lib.hid (fun W => between_any 1 (k : Int) 100 true hr W)
    clear hr
    go_enter Try.func8, Try.ntmps8
    skip
    go_wp2_with fail
    refine (CB.out _).mono ?_
    rintro e wb ⟨rfl, hw⟩
    obtain rfl := hw.symm
    clear hw
    have h0 : (w.alloc (.cells #[.int .i64 0, .slice none 0 0] 24)).heap[w.heap.size]? = some (.cells #[.int .i64 0, .slice none 0 0] 24 (0, 0)) := heap_alloc_new _ _
    have D0 := Lib.hid (below_alloc w (.cells #[.int .i64 0, .slice none 0 0] 24))
    have H0 := Lib.hid h0
    clear h0
    have hgs : w.heap.size < (w.alloc (.cells #[.int .i64 0, .slice none 0 0] 24)).heap.size := by simp
    generalize (w.alloc (.cells #[.int .i64 0, .slice none 0 0] 24)) = wa at *
    go_wp2_with fail
    refine (along_up sCT 0 1 (by omega) (by omega) (by omega) 0 (by omega) _).mono ?_
    rintro e w1 ⟨v1, rfl, ho, hb⟩
    have O1 := Lib.hid (ho.mono (show w.heap.size + 1 ≤ _ by omega))
    replace H0 := Lib.hid (hb_below hb H0.out (by omega))
    have hz1 := hb.size
    have D1 := Lib.hid (D0.out.trans (hb.mono D0.out.size))
    clear hb ho
    rw [one_up] at O1
    obtain ⟨a1, c1, e1, _⟩ := ws_own O1.out
    subst e1
    go_wp2_with fail
    refine (repeat_any [⟨0, sCT⟩] k (by simp) (by omega) _ _ (ws_own O1.out)).mono ?_
    rintro e w2 ⟨v2, rfl, ho, hb⟩
    replace O1 := Lib.hid (O1.out.below hb)
    have O2 := Lib.hid (ho.mono (show w.heap.size + 1 ≤ _ by omega))
    replace H0 := Lib.hid (hb_below hb H0.out (by omega))
    have hz2 := hb.size
    have D2 := Lib.hid (D1.out.trans (hb.mono D1.out.size))
    clear hb ho
    obtain ⟨a2, c2, e2, _⟩ := ws_own O2.out
    subst e2
    go_wp2_with (refine store_row rfl _ _ _ rfl w.heap.size _ rfl rfl _ _ H0.out (by kernel_rfl) rfl (by kernel_rfl) ?_)
    intro wf hf hk hzf hB
    have HF := Lib.hid hf
    have SF := Lib.hid (ws_own (wo_keep O2.out (Nat.lt_succ_self _) (fun k ob h hn => (hk k hn).trans h)))
    have DF := Lib.hid (hB _ _ D2.out (Nat.le_refl _))
    clear hf hk hzf hB
    go_wp2_with fail
    exact bodyPost_ret (results_bt rfl _ _ w.heap.size rfl rfl HF.out Try.underlying24 rfl (by kernel_rfl)) rfl ⟨_, rfl, SF.out, DF.out⟩
  · have hr : false = (decide (1 ≤ n) && decide (n ≤ 100)) := by
      simp; omega
    have hM : plaitM n = moBad 7 := by unfold plaitM; rw [if_neg h]
    rw [hM]
    unfold Out moBad
    clear hM h
    have CB := Lib.hid (fun W => between_any 1 n 100 false hr W)
    clear hr
    go_enter Try.func8, Try.ntmps8
    go_wp2_with fail
    refine (CB.out _).mono ?_
    rintro e wb ⟨rfl, hw⟩
    obtain rfl := hw.symm
    clear hw
    go_wp2_with fail
    exact bodyPost_ret (results_bt rfl _ _ w.heap.size rfl rfl (heap_alloc_new _ _) Try.underlying24 rfl (by kernel_rfl)) rfl ⟨_, rfl, ws_nil _, below_alloc w _⟩
set_option maxHeartbeats 4000000 in
set_option maxRecDepth 100000 in
theorem Picot_any (n : Int) (w : World) : Calls Try.prog 10 #[.int .i64 n] w (Out (picotM n) w) := by
  by_cases h : 1 ≤ n ∧ n ≤ 7
  · have hr : true = (decide (1 ≤ n) && decide (n ≤ 7)) := by simp [h]
    obtain ⟨k, rfl⟩ : ∃ k : Nat, n = (k : Int) := ⟨n.toNat, by omega⟩
    have hM : picotM (k : Int) = ⟨2, [⟨0, picotW k⟩], 0⟩ := by unfold picotM; rw [if_pos h]; simp
    have hrun : (⟨(runsL [(76, k), (80, 1), (76, k)]).toArray⟩ : ByteArray) = picotW k := by simp [runsL, picotW]
    have CW : ∀ (g : Nat) (W : World), g < W.heap.size → W.rangeAt g 0 [.string ⟨#[76]⟩, .int .i64 (k : Int), .string ⟨#[80]⟩, .int .i64 1, .string ⟨#[76]⟩, .int .i64 (k : Int)] → Calls Try.prog 37 #[.slice (some ⟨g, 0, none⟩) 3 3] W fun e w' => e = .returned (.string (picotW k)) ∧ Below W.heap.size W w' := fun g W hg hr => by
      have := word_any [(76, k), (80, 1), (76, k)] 3 rfl (by decide) (fun r hr => by
        simp only [List.mem_cons, List.not_mem_nil, or_false] at hr
        rcases hr with rfl | rfl | rfl <;> dsimp only <;> omega) g W hg (fun i r hi j v hj => by
        rcases i with _ | _ | _ | i
        · cases hi
          rcases j with _ | _ | j
          · exact hr 0 v hj
          · exact hr 1 v hj
          · cases hj
        · cases hi
          rcases j with _ | _ | j
          · exact hr 2 v hj
          · exact hr 3 v hj
          · cases hj
        · cases hi
          rcases j with _ | _ | j
          · exact hr 4 v hj
          · exact hr 5 v hj
          · cases hj
        · cases hi)
      rw [hrun] at this
      exact this
    have HCW := Lib.hid CW
    clear CW hrun
    rw [hM]
    unfold Out
    clear hM
    have CB := Lib.hid (fun W => between_any 1 (k : Int) 7 true hr W)
    clear hr
    go_enter Try.func10, Try.ntmps10
    go_wp2_with fail
    refine (CB.out _).mono ?_
    rintro e wb ⟨rfl, hw⟩
    obtain rfl := hw.symm
    clear hw
    have h0 : (w.alloc (.cells #[.int .i64 0, .slice none 0 0] 24)).heap[w.heap.size]? = some (.cells #[.int .i64 0, .slice none 0 0] 24 (0, 0)) := heap_alloc_new _ _
    have D0 := Lib.hid (below_alloc w (.cells #[.int .i64 0, .slice none 0 0] 24))
    have H0 := Lib.hid h0
    clear h0
    have hgs : w.heap.size < (w.alloc (.cells #[.int .i64 0, .slice none 0 0] 24)).heap.size := by simp
    generalize (w.alloc (.cells #[.int .i64 0, .slice none 0 0] 24)) = wa at *
    have HR := Lib.hid (show (wa.alloc (.cells #[.string ⟨#[76]⟩, .int .i64 (k : Int), .string ⟨#[80]⟩, .int .i64 1, .string ⟨#[76]⟩, .int .i64 (k : Int)] 56)).rangeAt wa.heap.size 0 [.string ⟨#[76]⟩, .int .i64 (k : Int), .string ⟨#[80]⟩, .int .i64 1, .string ⟨#[76]⟩, .int .i64 (k : Int)] from fun j v hj => by rw [Nat.zero_add, World.cell?_alloc_new, List.getElem?_toArray]; exact hj)
    go_wp2_with fail
    refine (HCW.out wa.heap.size _ (by simp) HR.out).mono ?_
    rintro e w1 ⟨rfl, hb⟩
    have hb2 : Below wa.heap.size wa w1 := (below_alloc wa _).trans (hb.mono (by simp))
    replace H0 := Lib.hid (hb_below hb2 H0.out (by omega))
    have hz1 := hb2.size
    have D1 := Lib.hid (D0.out.trans (hb2.mono D0.out.size))
    clear hb hb2
    go_wp2_with fail
    refine (along_up (picotW k) 0 1 (by omega) (by omega) (by omega) 0 (by omega) _).mono ?_
    rintro e w2 ⟨v2, rfl, ho, hb⟩
    have O2 := Lib.hid (ho.mono (show w.heap.size + 1 ≤ _ by omega))
    replace H0 := Lib.hid (hb_below hb H0.out (by omega))
    have hz2 := hb.size
    have D2 := Lib.hid (D1.out.trans (hb.mono D1.out.size))
    clear hb ho
    rw [one_up] at O2
    obtain ⟨a2, c2, e2, _⟩ := ws_own O2.out
    subst e2
    go_wp2_with (refine store_row rfl _ _ _ rfl w.heap.size _ rfl rfl _ _ H0.out (by kernel_rfl) rfl (by kernel_rfl) ?_)
    intro wf hf hk hzf hB
    have HF := Lib.hid hf
    have SF := Lib.hid (ws_own (wo_keep O2.out (Nat.lt_succ_self _) (fun k ob h hn => (hk k hn).trans h)))
    have DF := Lib.hid (hB _ _ D2.out (Nat.le_refl _))
    clear hf hk hzf hB
    go_wp2_with fail
    exact bodyPost_ret (results_bt rfl _ _ w.heap.size rfl rfl HF.out Try.underlying24 rfl (by kernel_rfl)) rfl ⟨_, rfl, SF.out, DF.out⟩
  · have hr : false = (decide (1 ≤ n) && decide (n ≤ 7)) := by
      simp; omega
    have hM : picotM n = moBad 7 := by unfold picotM; rw [if_neg h]
    rw [hM]
    unfold Out moBad
    clear hM h
    have CB := Lib.hid (fun W => between_any 1 n 7 false hr W)
    clear hr
    go_enter Try.func10, Try.ntmps10
    go_wp2_with fail
    refine (CB.out _).mono ?_
    rintro e wb ⟨rfl, hw⟩
    obtain rfl := hw.symm
    clear hw
    go_wp2_with fail
    exact bodyPost_ret (results_bt rfl _ _ w.heap.size rfl rfl (heap_alloc_new _ _) Try.underlying24 rfl (by kernel_rfl)) rfl ⟨_, rfl, ws_nil _, below_alloc w _⟩
set_option maxHeartbeats 4000000 in
set_option maxRecDepth 100000 in
theorem Windmill_any (w : World) : Calls Try.prog 19 #[] w fun e w' => ∃ v, e = .returned (.agg #[.int .i64 4, v]) ∧ WS w' v millL ∧ Below w.heap.size w w' := by
  go_enter Try.func19, Try.ntmps19
  go_wp2_with fail
  have h0 : (w.alloc (.cells #[.int .i64 0, .slice none 0 0] 24)).heap[w.heap.size]? = some (.cells #[.int .i64 0, .slice none 0 0] 24 (0, 0)) := heap_alloc_new _ _
  have D0 := Lib.hid (below_alloc w (.cells #[.int .i64 0, .slice none 0 0] 24))
  have H0 := Lib.hid h0
  clear h0
  have hgs : w.heap.size < (w.alloc (.cells #[.int .i64 0, .slice none 0 0] 24)).heap.size := by simp
  generalize (w.alloc (.cells #[.int .i64 0, .slice none 0 0] 24)) = wa at *
  refine (stitch_any sCTC 1 _).mono ?_
  rintro e w1 ⟨rfl, hb⟩
  replace H0 := Lib.hid (hb_below hb H0.out (by omega))
  have hz1 := hb.size
  have D1 := Lib.hid (D0.out.trans (hb.mono D0.out.size))
  clear hb
  go_wp2_with fail
  refine (stitch_any sCTC 0 _).mono ?_
  rintro e w2 ⟨rfl, hb⟩
  replace H0 := Lib.hid (hb_below hb H0.out (by omega))
  have hz2 := hb.size
  have D2 := Lib.hid (D1.out.trans (hb.mono D1.out.size))
  clear hb
  go_wp2_with fail
  refine (stitch_any sCTC 2 _).mono ?_
  rintro e w3 ⟨rfl, hb⟩
  replace H0 := Lib.hid (hb_below hb H0.out (by omega))
  have hz3 := hb.size
  have D3 := Lib.hid (D2.out.trans (hb.mono D2.out.size))
  clear hb
  go_wp2_with fail
  refine (stitch_any sP 1 _).mono ?_
  rintro e w4 ⟨rfl, hb⟩
  replace H0 := Lib.hid (hb_below hb H0.out (by omega))
  have hz4 := hb.size
  have D4 := Lib.hid (D3.out.trans (hb.mono D3.out.size))
  clear hb
  go_wp2_with fail
  refine (stitch_any sCTC 1 _).mono ?_
  rintro e w5 ⟨rfl, hb⟩
  replace H0 := Lib.hid (hb_below hb H0.out (by omega))
  have hz5 := hb.size
  have D5 := Lib.hid (D4.out.trans (hb.mono D4.out.size))
  clear hb
  have O6 : Hid (WO (w.heap.size + 1) (w5.alloc (.cells #[.int .i64 1, .int .i64 1, .string sCTC, .int .i64 1, .int .i64 0, .string sCTC, .int .i64 1, .int .i64 2, .string sCTC, .int .i64 1, .int .i64 1, .string sP, .int .i64 1, .int .i64 1, .string sCTC] 51)) (.slice (some ⟨w5.heap.size, 0, none⟩) 5 5) millL) := Lib.hid (World.ownsRow_lit w5 _ 5 (by omega) (by unfold maxLen; omega) rfl)
  replace H0 := Lib.hid (hb_below (below_alloc w5 (.cells #[.int .i64 1, .int .i64 1, .string sCTC, .int .i64 1, .int .i64 0, .string sCTC, .int .i64 1, .int .i64 2, .string sCTC, .int .i64 1, .int .i64 1, .string sP, .int .i64 1, .int .i64 1, .string sCTC] 51)) H0.out (by omega))
  have D6 := Lib.hid (D5.out.trans ((below_alloc w5 (.cells #[.int .i64 1, .int .i64 1, .string sCTC, .int .i64 1, .int .i64 0, .string sCTC, .int .i64 1, .int .i64 2, .string sCTC, .int .i64 1, .int .i64 1, .string sP, .int .i64 1, .int .i64 1, .string sCTC] 51)).mono D5.out.size))
  go_wp2_with (refine store_row rfl _ _ _ rfl w.heap.size _ rfl rfl _ _ H0.out (by kernel_rfl) rfl (by kernel_rfl) ?_)
  intro wf hf hk hzf hB
  have HF := Lib.hid hf
  have SF := Lib.hid (ws_own (wo_keep O6.out (Nat.lt_succ_self _) (fun k ob h hn => (hk k hn).trans h)))
  have DF := Lib.hid (hB _ _ D6.out (Nat.le_refl _))
  clear hf hk hzf hB
  go_wp2_with fail
  exact bodyPost_ret (results_b rfl _ _ w.heap.size rfl HF.out Try.underlying24 rfl (by kernel_rfl)) rfl ⟨_, rfl, SF.out, DF.out⟩
end Go.Proofs.Ytgbdccoimmkmeaa
