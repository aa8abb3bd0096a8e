/- The reference's test of permutations walked. -/
import Derived.Test.YtnfppebcpagjpaaCM
namespace Go.Proofs.Ytnfppebcpagjpaa
open Go.RowKit Go.Lib
/-- A list of the numbers below n, each once. -/
def PermL (n : Nat) (ps : List Int) : Prop := (∀ z ∈ ps, 0 ≤ z ∧ z < n) ∧ ps.Nodup ∧ ps.length = n
theorem infoBool : (Try.prog.info? 4).map (fun i => (i.zero, i.size, i.bytes)) = some (some (.bool false), 1, 1) := by kernel_rfl
theorem made_one (z : Value) (n j : Nat) (h : j < n) : (madeCells #[z] n)[j]? = some z := by
  rw [← Array.getElem?_toList, toList_madeCells_one, List.getElem?_replicate, if_pos h]
theorem mk_bools (n : Nat) (hn : n ≤ 12) (W : World) : (Instr.makeSlice 81 (.int .i64 (n : Int)) (.int .i64 (n : Int))).run Try.prog W = .ok (.slice (some ⟨W.heap.size, 0, none⟩) n n) (W.alloc (.cells (madeCells #[.bool false] n) 4)) := by
  obtain ⟨i0, hi, hz0, hz1, hz2⟩ := info_parts infoBool
  have h := run_make (P := Try.prog) W 81 4 i0 (.bool false) Try.underlying81 hi hz0 .i64 .i64 (n : Int) (n : Int) (by omega) (by omega) (by rw [hz2]; omega) (by omega)
  rw [hz1] at h
  simp at h
  exact h
set_option maxHeartbeats 1000000 in
set_option maxRecDepth 100000 in
theorem refperm_any (n : Nat) (_ : 1 ≤ n) (hn : n ≤ 12) (ps : List Int) (r : Bool) (hr : r = true ↔ PermL n ps) (v : Value) (w : World) (hv : IS w v ps) :
    Calls Try.prog 67 #[v, .int .i64 (n : Int)] w fun e w' => e = .returned (.bool r) ∧ Below w.heap.size w w' := by
  obtain ⟨sa, sc, rfl, k1, k2, _, hI⟩ := hv
  unfold maxLen at k2
  have HI := Lib.hid hI
  have Hr := Lib.hid hr
  have hmk := fun W => mk_bools n hn W
  obtain ⟨M, hM⟩ : ∃ M, M = madeCells #[Value.bool false] n := ⟨_, rfl⟩
  have hMs : M.size = n := by rw [hM]; exact size_madeCells _ _
  have hMat : ∀ j, j < n → M[j]? = some (.bool false) := fun j hj => by rw [hM]; exact made_one _ _ _ hj
  rw [← hM] at hmk
  have HMs := Lib.hid hMs
  have HMat := Lib.hid hMat
  clear hI hr hM hMs hMat
  go_enter Try.func67, Try.ntmps67
  go_wp2_with fail
  clear hmk
  go_loopw [6] (fun i wr => ∃ (k : Nat) (cur : Array Value), k ≤ ps.length ∧ i = .int .i64 k ∧ wr.heap[w.heap.size]? = some (.cells cur 4 (0, 0)) ∧ cur.size = n ∧ (∀ j, j < n → cur[j]? = some (.bool (decide ((j : Int) ∈ ps.take k)))) ∧ (∀ z ∈ ps.take k, 0 ≤ z ∧ z < n) ∧ (ps.take k).Nodup ∧ Below w.heap.size w wr) (fun i _ => ps.length - (intOf i).toNat)
  case atStart => exact ⟨0, M, Nat.zero_le _, rfl, heap_alloc_new w _, HMs.out, fun j hj => by rw [HMat.out j hj]; simp, fun z hz => by simp at hz, by simp, below_alloc w _⟩
  case round =>
    obtain ⟨k, cur, hk, rfl, hrow, hcs, hcur, hin, hnd, hbw⟩ := hrel
    have Hcs := Lib.hid hcs
    have Hcur := Lib.hid hcur
    have Hin := Lib.hid hin
    have Hnd := Lib.hid hnd
    clear hcs hcur hin hnd
    by_cases hkl : k < ps.length
    · obtain ⟨z, hz⟩ : ∃ z, ps[k]? = some z := ⟨_, List.getElem?_eq_getElem hkl⟩
      have hmem : z ∈ ps := List.mem_of_getElem? hz
      obtain ⟨b, off, rfl, hb, hc⟩ := HI.out k z hz
      have hcz := (hbw.cell (p := ⟨b, off + k, none⟩) hb).trans hc
      have j0 : (0 : Int) ≤ (k : Int) := by omega
      have j1 : (k : Int) < (ps.length : Int) := by omega
      have hsplit : ps = ps.take k ++ z :: ps.drop (k + 1) := by
        conv => lhs; rw [← List.take_append_drop k ps]
        rw [List.drop_eq_getElem_cons hkl]
        congr 2
        exact Option.some.inj ((List.getElem?_eq_getElem hkl).symm.trans hz)
      have Hsp := Lib.hid hsplit
      have Htk := Lib.hid (take_more hz)
      have hrf : ¬ PermL n ps → r = false := fun h => by
        rcases hrv : r with _ | _
        · rfl
        · exact absurd (Hr.out.1 hrv) h
      have Hrf := Lib.hid hrf
      clear hc hz hsplit hrf
      by_cases a : z < 0
      · have hf := Lib.hid (Hrf.out (fun h => by have := h.1 z hmem; omega))
        clear hrow
        go_wp2_with fail
        go_ret
        exact ⟨by rw [hf.out]; rfl, hbw⟩
      · by_cases c : (n : Int) ≤ z
        · have hf := Lib.hid (Hrf.out (fun h => by have := h.1 z hmem; omega))
          clear hrow
          go_wp2_with fail
          go_ret
          exact ⟨by rw [hf.out]; rfl, hbw⟩
        · obtain ⟨q, rfl⟩ : ∃ q : Nat, z = (q : Int) := ⟨z.toNat, by omega⟩
          have hq : q < n := by omega
          have hcq := (cell_of_row wr w.heap.size q cur _ _ hrow).trans (Hcur.out q hq)
          have q0 : (0 : Int) ≤ (q : Int) := by omega
          have q1 : (q : Int) < (n : Int) := by omega
          by_cases d : (q : Int) ∈ ps.take k
          · have hf := Lib.hid (Hrf.out (fun h => by
              have h2 := h.2.1
              rw [Hsp.out] at h2
              have := (List.nodup_append.1 h2).2.2 _ d _ (List.mem_cons_self ..)
              exact this rfl))
            rw [decide_eq_true d] at hcq
            clear hrow d
            go_wp2_with fail
            go_ret
            exact ⟨by rw [hf.out]; rfl, hbw⟩
          · rw [decide_eq_false d] at hcq
            have hfz := frozen_of_row wr w.heap.size q cur _ hrow
            have hset := heap_setCell_same wr w.heap.size q cur 4 (.bool true) hrow
            have Hset := Lib.hid hset
            have Hd := Lib.hid d
            have HB := Lib.hid (hbw.setCell (p := ⟨w.heap.size, q, none⟩) (Nat.le_refl _) (.bool true))
            clear hrow hset d
            go_wp2_with fail
            go_roundw
            case rel =>
              refine ⟨k + 1, _, hkl, by go_num, Hset.out, by rw [Array.size_setIfInBounds]; exact Hcs.out, fun j hj => ?_, fun y hy => ?_, ?_, HB.out⟩
              · rw [Array.getElem?_setIfInBounds, Htk.out]
                by_cases e : q = j
                · subst e
                  rw [if_pos rfl, if_pos (by rw [Hcs.out]; exact hq)]
                  simp
                · rw [if_neg e, Hcur.out j hj]
                  congr 2
                  refine decide_eq_decide.2 ?_
                  simp
                  omega
              · rw [Htk.out] at hy
                rcases List.mem_append.1 hy with hy | hy
                · exact Hin.out y hy
                · obtain rfl : y = (q : Int) := by simpa using hy
                  omega
              · rw [Htk.out, List.nodup_append]
                refine ⟨Hnd.out, by simp, fun x hx y hy e => ?_⟩
                obtain rfl : y = (q : Int) := by simpa using hy
                subst e
                exact Hd.out hx
            case measure => (simp [intOf] <;> omega)
    · have e : k = ps.length := by omega
      rw [e, List.take_length] at Hin Hnd
      by_cases hl : ps.length = n
      · have hrt := Lib.hid (Hr.out.2 ⟨Hin.out, Hnd.out, hl⟩)
        clear hrow
        go_wp2_with fail
        go_ret
        exact ⟨by rw [hrt.out]; rfl, hbw⟩
      · have hrt : r = false := by
          rcases hrv : r with _ | _
          · rfl
          · exact absurd (Hr.out.1 hrv).2.2 hl
        have Hrt := Lib.hid hrt
        have hl' : ¬ (ps.length : Int) = (n : Int) := by omega
        have hlb : ((ps.length : Int) == (n : Int)) = false := by simpa using hl'
        clear hrow hrt
        go_wp2_with fail
        go_ret
        exact ⟨by rw [Hrt.out, ← hlb]; rfl, hbw⟩
end Go.Proofs.Ytnfppebcpagjpaa
