/- Lists of the numbers below n, each once, are simple braids; simpleOf walked. -/
import Derived.Test.YtnfppebcpagjpaaDH
namespace Go.Proofs.Ytnfppebcpagjpaa
open Go.RowKit Go.Lib
theorem nodup_len : ∀ (n : Nat) (l : List Nat), l.Nodup → (∀ z ∈ l, z < n) → l.length ≤ n
  | 0, l, _, h => by
    cases l with
    | nil => exact Nat.le_refl _
    | cons a l => exact absurd (h a (by simp)) (Nat.not_lt_zero _)
  | n + 1, l, hd, h => by
    by_cases hm : n ∈ l
    · have h1 := nodup_len n (l.erase n) (hd.erase n) (fun z hz => by
        have h2 := (hd.mem_erase_iff).1 hz
        have := h z h2.2
        omega)
      rw [List.length_erase_of_mem hm] at h1
      omega
    · have h1 := nodup_len n l hd (fun z hz => by
        have := h z hz
        have : z ≠ n := fun e => hm (e ▸ hz)
        omega)
      omega
theorem nodup_all {n : Nat} {l : List Nat} (hd : l.Nodup) (h : ∀ z ∈ l, z < n) (hl : l.length = n) {y : Nat} (hy : y < n) : y ∈ l := by
  by_cases hm : y ∈ l
  · exact hm
  · have := nodup_len n (y :: l) (List.nodup_cons.2 ⟨hm, hd⟩) (fun z hz => by
      rcases List.mem_cons.1 hz with rfl | hz
      · exact hy
      · exact h z hz)
    rw [List.length_cons] at this
    omega
theorem perm_pm {n : Nat} {ps : List Int} (h : PermL n ps) : ∃ x : Pm, x.In n ∧ ps = ints n x := by
  obtain ⟨h1, h2, h3⟩ := h
  obtain ⟨l, hl⟩ : ∃ l : List Nat, ps = l.map (fun z : Nat => (z : Int)) := ⟨ps.map Int.toNat, by
    rw [List.map_map]
    conv => lhs; rw [← List.map_id ps]
    exact List.map_congr_left fun z hz => by
      have := (h1 z hz).1
      show z = ((z.toNat : Nat) : Int)
      omega⟩
  subst hl
  have hd : l.Nodup := by
    unfold List.Nodup at h2 ⊢
    rw [List.pairwise_map] at h2
    exact h2.imp fun h e => h (by rw [e])
  have hb : ∀ z ∈ l, z < n := fun z hz => by
    have := (h1 (z : Int) (List.mem_map.2 ⟨z, hz, rfl⟩)).2
    omega
  have hn : l.length = n := by simpa using h3
  have hall := fun {y : Nat} (hy : y < n) => nodup_all hd hb hn hy
  refine ⟨⟨fun x => if h : x < n then l[x]'(by omega) else x, fun y => if y < n then l.idxOf y else y, fun x => ?_, fun y => ?_⟩, fun x hx => ?_, ?_⟩
  · by_cases hx : x < n
    · have h1 : l.idxOf x < l.length := List.idxOf_lt_length_of_mem (hall hx)
      simp only [if_pos hx]
      rw [dif_pos (by omega)]
      exact List.getElem_idxOf h1
    · simp only [if_neg hx]
      rw [dif_neg hx]
  · by_cases hy : y < n
    · have h1 : l[y]'(by omega) < n := hb _ (List.getElem_mem _)
      simp only [dif_pos hy]
      rw [if_pos h1]
      exact List.Nodup.idxOf_getElem hd _ (by omega)
    · simp only [dif_neg hy]
      rw [if_neg hy]
  · show (if h : x < n then _ else x) = x
    rw [dif_neg (by omega)]
  · apply List.ext_getElem?
    intro k
    rcases Nat.lt_or_ge k n with hk | hk
    · rw [ints_get _ hk, List.getElem?_map, List.getElem?_eq_getElem (by omega)]
      show some _ = some (((if h : k < n then l[k]'(by omega) else k : Nat)) : Int)
      rw [dif_pos hk]
    · rw [List.getElem?_eq_none (by rw [List.length_map]; omega), List.getElem?_eq_none (by rw [ints_len]; omega)]
theorem pm_perm (n : Nat) (x : Pm) (hx : x.In n) : PermL n (ints n x) := by
  refine ⟨fun z hz => ?_, ?_, ints_len _ _⟩
  · obtain ⟨k, hk, rfl⟩ := List.mem_map.1 hz
    have hk' := List.mem_range.1 hk
    have := hx.lt hk'
    omega
  · unfold ints List.Nodup
    rw [List.pairwise_map]
    exact List.nodup_range.imp (fun h e => h (x.inj (by omega)))
theorem results_row_tmp {P : Program} {fn : Func} {p q : Tmp} {ty : TypeId} (h : fn.results = #[.cell p ty, .tmp q]) (tmps : Array Value) (w : World) (g : Nat) (t : TypeId) (cs : Array Value) (fr : Nat × Nat) (d : TypeDesc) (u : Value)
    (hp : tmps.getD p undef = .pointer (some ⟨g, 0, none⟩)) (hq : tmps.getD q undef = u) (hg : w.heap[g]? = some (.cells cs t fr))
    (hu : P.underlying ty = some d) (hd : (match d with | .struct _ | .array _ _ => true | _ => false) = true) (hi : (P.info? ty).map (·.size) = some cs.size) :
    (results fn tmps).run P w = .ok (.tuple #[.agg cs, u]) w := by
  have hp' : tmps[p]?.getD undef = .pointer (some ⟨g, 0, none⟩) := by simpa using hp
  have hq' : tmps[q]?.getD undef = u := by simpa using hq
  simp [results, h, hp', hq', asAddr, run_loadVar_row w g t ty cs fr d hg hu hd hi]
set_option maxHeartbeats 2000000 in
set_option maxRecDepth 100000 in
theorem simpleOf_any (n : Nat) (hn : n ≤ 12) (ps : List Int) (r : Bool) (hr : r = true ↔ PermL n ps) (v : Value) (w : World) (hv : IS w v ps) :
    Calls Try.prog 65 #[.int .i64 (n : Int), v] w fun e w' => ∃ F : Nat → Nat, e = .returned (.tuple #[.agg (pcF F), .bool r]) ∧ (∀ x : Pm, x.In n → ps = ints n x → pcF F = pc x) ∧ Below w.heap.size w w' := by
  obtain ⟨sa, sc, rfl, k1, k2, _, hI⟩ := hv
  unfold maxLen at k2
  have HI := Lib.hid hI
  have Hr := Lib.hid hr
  clear hI hr
  have hrf : ¬ PermL n ps → r = false := fun h => by
    rcases hrv : r with _ | _
    · rfl
    · exact absurd (Hr.out.1 hrv) h
  have Hrf := Lib.hid hrf
  clear hrf
  go_enter Try.func65, Try.ntmps65
  by_cases hl : ps.length = n
  · have hl' : (ps.length : Int) = (n : Int) := by omega
    go_wp2_with fail
    refine (flat_any _).mono ?_
    rintro e w1 ⟨rfl, B1⟩
    have hr0 := (B1.block w.heap.size (by simp)).trans (heap_alloc_new w _)
    have hz1 : w.heap.size + 1 ≤ w1.heap.size := by have := B1.size; simpa using this
    have Hr0 := Lib.hid hr0
    have HB1 := Lib.hid ((below_alloc w _).trans (B1.mono (below_alloc w _).size))
    clear B1 hr0
    go_wp2_with (refine wpList_store_row rfl 71 (.tmp 6) (.tmp 15) rfl w1.heap.size (pc idP) rfl rfl 71 _ (heap_alloc_new _ _) (hi59 _) rfl (pc_one _) ?_)
    go_loopw [8, 9, 18] (fun s8 s9 i wr => ∃ (k : Nat) (f : Nat → Nat) (cur : Array Value), k ≤ n ∧ i = .int .i64 k ∧ wr.heap[w.heap.size]? = some (.cells (pcF fun _ => 0) 71 (0, 0)) ∧ wr.heap[w1.heap.size]? = some (.cells (pcF f) 71 (0, 0)) ∧ wr.heap[w1.heap.size + 1]? = some (.cells cur 89 (0, 0)) ∧ cur.size = 12 ∧
      (∀ x, x < k → ps[x]? = some (f x : Int)) ∧ (∀ x, k ≤ x → f x = x) ∧ (∀ j, j < 12 → cur[j]? = some (.bool (decide ((j : Int) ∈ ps.take k)))) ∧ (∀ z ∈ ps.take k, 0 ≤ z ∧ z < n) ∧ (ps.take k).Nodup ∧ Below w.heap.size w wr) (fun _ _ i _ => n - (intOf i).toNat)
    case atStart =>
      have B2 := below_setRow (below_alloc w1 (.cells (pcF fun _ => 0) 71)) (Nat.le_refl _) (pc idP)
      have B3 := B2.alloc B2.size (.cells #[.bool false, .bool false, .bool false, .bool false, .bool false, .bool false, .bool false, .bool false, .bool false, .bool false, .bool false, .bool false] 89)
      refine ⟨0, fun x => x, _, Nat.zero_le _, rfl, (B3.block _ hz1).trans Hr0.out, (Below.heap_alloc _ _ _ (by simp)).trans (setRow_heap _ _ _ _ _ _ (heap_alloc_new _ _)), (by have h := heap_alloc_new ((w1.alloc (.cells (pcF fun _ => 0) 71)).setRow w1.heap.size (pc idP)) (.cells #[.bool false, .bool false, .bool false, .bool false, .bool false, .bool false, .bool false, .bool false, .bool false, .bool false, .bool false, .bool false] 89); rw [show ((w1.alloc (.cells (pcF fun _ => 0) 71)).setRow w1.heap.size (pc idP)).heap.size = w1.heap.size + 1 by simp] at h; exact h), rfl, fun x hx => by omega, fun x _ => rfl, fun j hj => ?_, fun z hz => by simp at hz, by simp, HB1.out.trans (B3.mono (Nat.le_of_succ_le hz1))⟩
      rcases j with _ | _ | _ | _ | _ | _ | _ | _ | _ | _ | _ | _ | j <;> first | (simp; done) | omega
    case round =>
      obtain ⟨k, f, cur, hk, rfl, hr0, hr6, hr7, hcs, hfk, hfx, hcur, hin, hnd, hbw⟩ := hrel
      have Hcs := Lib.hid hcs
      have Hfk := Lib.hid hfk
      have Hfx := Lib.hid hfx
      have Hcur := Lib.hid hcur
      have Hin := Lib.hid hin
      have Hnd := Lib.hid hnd
      clear hcs hfk hfx hcur hin hnd
      by_cases hkl : k < n
      · obtain ⟨z, hz⟩ : ∃ z, ps[k]? = some z := ⟨_, List.getElem?_eq_getElem (by omega)⟩
        have hmem : z ∈ ps := List.mem_of_getElem? hz
        obtain ⟨b, off, rfl, hb, hc⟩ := HI.out k z hz
        have hcz := (hbw.cell (p := ⟨b, off + k, none⟩) hb).trans hc
        have j0 : (0 : Int) ≤ (k : Int) := by omega
        have j1 : (k : Int) < (n : Int) := by omega
        have hsplit : ps = ps.take k ++ z :: ps.drop (k + 1) := by
          conv => lhs; rw [← List.take_append_drop k ps]
          rw [List.drop_eq_getElem_cons (by omega)]
          congr 2
          exact Option.some.inj ((List.getElem?_eq_getElem (by omega)).symm.trans hz)
        have Hsp := Lib.hid hsplit
        have Htk := Lib.hid (take_more hz)
        have Hz := Lib.hid hz
        clear hc hz hsplit
        by_cases a : z < 0
        · have Hnp := Lib.hid (show ¬ PermL n ps from fun h => by have := h.1 z hmem; omega)
          have hrF := Hrf.out Hnp.out
          subst hrF
          clear hr6 hr7
          go_wp2_with (refine wpList_store_row rfl 71 (.tmp 4) (.tmp 35) rfl w.heap.size (pcF fun _ => 0) rfl rfl 71 _ hr0 (hi59F _) rfl (pcF_one _) ?_)
          refine bodyPost_ret (v := .tuple #[.agg (pcF fun _ => 0), .bool false]) (results_row_tmp rfl _ _ w.heap.size 71 (pcF fun _ => 0) (0, 0) _ _ rfl rfl (setRow_heap _ _ _ _ _ _ hr0) Try.underlying71 rfl (hi59F _)) rfl ⟨_, rfl, fun x hx h => absurd (h ▸ pm_perm n x hx) Hnp.out, ?_⟩
          exact below_setRow hbw (Nat.le_refl _) _
        · by_cases c : (n : Int) ≤ z
          · have Hnp := Lib.hid (show ¬ PermL n ps from fun h => by have := h.1 z hmem; omega)
            have hrF := Hrf.out Hnp.out
            subst hrF
            clear hr6 hr7
            go_wp2_with (refine wpList_store_row rfl 71 (.tmp 4) (.tmp 35) rfl w.heap.size (pcF fun _ => 0) rfl rfl 71 _ hr0 (hi59F _) rfl (pcF_one _) ?_)
            refine bodyPost_ret (v := .tuple #[.agg (pcF fun _ => 0), .bool false]) (results_row_tmp rfl _ _ w.heap.size 71 (pcF fun _ => 0) (0, 0) _ _ rfl rfl (setRow_heap _ _ _ _ _ _ hr0) Try.underlying71 rfl (hi59F _)) rfl ⟨_, rfl, fun x hx h => absurd (h ▸ pm_perm n x hx) Hnp.out, ?_⟩
            exact below_setRow hbw (Nat.le_refl _) _
          · obtain ⟨q, rfl⟩ : ∃ q : Nat, z = (q : Int) := ⟨z.toNat, by omega⟩
            have hq : q < n := by omega
            have hcq := (cell_of_row wr (w1.heap.size + 1) q cur _ _ hr7).trans (Hcur.out q (by omega))
            have q0 : (0 : Int) ≤ (q : Int) := by omega
            have q1 : (q : Int) < (n : Int) := by omega
            have q2 : (q : Int) < 12 := by omega
            have k2' : (k : Int) < 12 := by omega
            by_cases d : (q : Int) ∈ ps.take k
            · have Hnp := Lib.hid (show ¬ PermL n ps from fun h => by
                have h2 := h.2.1
                rw [Hsp.out] at h2
                exact (List.nodup_append.1 h2).2.2 _ d _ (List.mem_cons_self ..) rfl)
              have hrF := Hrf.out Hnp.out
              subst hrF
              rw [decide_eq_true d] at hcq
              clear hr6 hr7 d
              go_wp2_with (refine wpList_store_row rfl 71 (.tmp 4) (.tmp 35) rfl w.heap.size (pcF fun _ => 0) rfl rfl 71 _ hr0 (hi59F _) rfl (pcF_one _) ?_)
              refine bodyPost_ret (v := .tuple #[.agg (pcF fun _ => 0), .bool false]) (results_row_tmp rfl _ _ w.heap.size 71 (pcF fun _ => 0) (0, 0) _ _ rfl rfl (setRow_heap _ _ _ _ _ _ hr0) Try.underlying71 rfl (hi59F _)) rfl ⟨_, rfl, fun x hx h => absurd (h ▸ pm_perm n x hx) Hnp.out, ?_⟩
              exact below_setRow hbw (Nat.le_refl _) _
            · rw [decide_eq_false d] at hcq
              have hfz := frozen_of_row wr (w1.heap.size + 1) q cur _ hr7
              have Hset := Lib.hid (heap_setCell_same wr (w1.heap.size + 1) q cur 89 (.bool true) hr7)
              have hr6' := (heap_setCell_other wr ⟨w1.heap.size + 1, q, none⟩ (.bool true) (k := w1.heap.size) (by simp)).trans hr6
              have hfz6 := frozen_of_row _ w1.heap.size k _ _ hr6'
              have hck := (cell_of_row _ w1.heap.size k _ _ _ hr6').trans (pcF_get f (show k < 12 by omega))
              have hset6 := heap_setCell_same _ w1.heap.size k _ 71 (.int .i64 (q : Int)) hr6'
              rw [pcF_set f q (show k < 12 by omega)] at hset6
              have Hset6 := Lib.hid hset6
              have Hd := Lib.hid d
              have Hr0' := Lib.hid hr0
              clear hr0 hr6 hr7 hr6' hset6 d
              go_wp2_with fail
              go_roundw
              case rel =>
                refine ⟨k + 1, (fun x => if x = k then q else f x), cur.setIfInBounds q (.bool true), hkl, by go_num, ?_, Hset6.out, ?_, by rw [Array.size_setIfInBounds]; exact Hcs.out, fun x hx => ?_, fun x hx => ?_, fun j hj => ?_, fun y hy => ?_, ?_, ?_⟩
                · rw [heap_setCell_other _ ⟨w1.heap.size, k, none⟩ (.int .i64 (q : Int)) (k := w.heap.size) (show w.heap.size ≠ w1.heap.size by omega), heap_setCell_other _ ⟨w1.heap.size + 1, q, none⟩ (.bool true) (k := w.heap.size) (show w.heap.size ≠ w1.heap.size + 1 by omega)]
                  exact Hr0'.out
                · rw [heap_setCell_other _ ⟨w1.heap.size, k, none⟩ (.int .i64 (q : Int)) (k := w1.heap.size + 1) (show w1.heap.size + 1 ≠ w1.heap.size by omega)]
                  exact Hset.out
                · by_cases e : x = k
                  · simp only [if_pos e]; rw [e]; exact Hz.out
                  · simp only [if_neg e]; exact Hfk.out x (by omega)
                · simp only [if_neg (show ¬ x = k by omega)]; exact Hfx.out x (by omega)
                · rw [Array.getElem?_setIfInBounds, Htk.out]
                  by_cases e : q = j
                  · subst e
                    rw [if_pos rfl, if_pos (by rw [Hcs.out]; omega)]
                    simp
                  · rw [if_neg e, Hcur.out j hj]
                    congr 2
                    refine decide_eq_decide.2 ?_
                    simp
                    omega
                · rw [Htk.out] at hy
                  rcases List.mem_append.1 hy with hy | hy
                  · exact Hin.out y hy
                  · obtain rfl : y = (q : Int) := by simpa using hy
                    omega
                · rw [Htk.out, List.nodup_append]
                  refine ⟨Hnd.out, by simp, fun x hx y hy e => ?_⟩
                  obtain rfl : y = (q : Int) := by simpa using hy
                  subst e
                  exact Hd.out hx
                · exact (hbw.setCell (p := ⟨w1.heap.size + 1, q, none⟩) (show w.heap.size ≤ w1.heap.size + 1 by omega) _).setCell (p := ⟨w1.heap.size, k, none⟩) (show w.heap.size ≤ w1.heap.size by omega) _
              case measure => (simp [intOf] <;> omega)
      · obtain rfl : n = k := by omega
        have hp : PermL n ps := ⟨fun z hz => Hin.out z (by rw [← hl, List.take_length]; exact hz), by have := Hnd.out; rw [← hl, List.take_length] at this; exact this, hl⟩
        have hrT := Hr.out.2 hp
        subst hrT
        have Hfin := Lib.hid (show ∀ x : Pm, x.In n → ps = ints n x → pcF f = pc x from fun x hx h => by
          rw [← pcF_pc]
          refine pcF_ext fun y _ => ?_
          by_cases hy : y < n
          · have h1 := Hfk.out y hy
            rw [h, ints_get x hy] at h1
            have := Option.some.inj h1
            omega
          · rw [Hfx.out y (by omega), hx y (by omega)])
        clear hr7 hp
        go_wp2_with (first
          | (refine wpList_load_row rfl 71 (.tmp 6) rfl w1.heap.size rfl 71 (pcF f) (0, 0) _ hr6 Try.underlying71 rfl (hi59F _) ?_)
          | (refine wpList_store_row rfl 71 (.tmp 4) (.tmp 42) rfl w.heap.size (pcF f) rfl rfl 71 _ hr0 (hi59F _) rfl (pcF_one _) ?_))
        refine bodyPost_ret (v := .tuple #[.agg (pcF f), .bool true]) (results_row_tmp rfl _ _ w.heap.size 71 (pcF f) (0, 0) _ _ rfl rfl (setRow_heap _ _ _ _ _ _ hr0) Try.underlying71 rfl (hi59F _)) rfl ⟨_, rfl, Hfin.out, ?_⟩
        exact below_setRow hbw (Nat.le_refl _) _
  · have hl' : ¬ (ps.length : Int) = (n : Int) := by omega
    have hrF := Hrf.out (fun h => hl h.2.2)
    subst hrF
    have hne : ∀ x : Pm, ¬ ps = ints n x := fun x h => hl (by rw [h, ints_len])
    have Hne := Lib.hid hne
    clear hne hl
    have hr0 := heap_alloc_new w (.cells (pcF fun _ => 0) 71)
    go_wp2_with (refine wpList_store_row rfl 71 (.tmp 4) (.tmp 14) rfl w.heap.size (pcF fun _ => 0) rfl rfl 71 _ hr0 (hi59F _) rfl (pcF_one _) ?_)
    refine bodyPost_ret (v := .tuple #[.agg (pcF fun _ => 0), .bool false]) (results_row_tmp rfl _ _ w.heap.size 71 (pcF fun _ => 0) (0, 0) _ _ rfl rfl (setRow_heap _ _ _ _ _ _ hr0) Try.underlying71 rfl (hi59F _)) rfl ⟨_, rfl, fun x _ h => absurd h (Hne.out x), ?_⟩
    exact below_setRow (below_alloc w _) (Nat.le_refl _) _
end Go.Proofs.Ytnfppebcpagjpaa
