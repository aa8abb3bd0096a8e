/- slices.Repeat walked: a row of works, so many times. -/
import Derived.Test.YtgbdccoimmkmeaaWF
import Derived.Laws.CopyOwn
namespace Go.Proofs.Ytgbdccoimmkmeaa
open Go.RowKit
set_option linter.unusedSimpArgs false
def repV (c : Nat) (xs : List Value) : List Value := (List.replicate c xs).flatten
theorem repV_succ (c : Nat) (w : List Value) : repV (c + 1) w = w ++ repV c w := by simp [repV, List.replicate_succ]
theorem repV_len (c : Nat) (w : List Value) : (repV c w).length = c * w.length := by
  induction c with
  | zero => simp [repV]
  | succ c ih => rw [repV_succ, List.length_append, ih, Nat.succ_mul]; omega
theorem repV_add (a b : Nat) (w : List Value) : repV (a + b) w = repV a w ++ repV b w := by
  unfold repV
  rw [← List.replicate_append_replicate, List.flatten_append]
theorem repV_drop {c q d : Nat} (xs : List Value) (hq : q ≤ c) (hd : d ≤ (c - q) * xs.length) : ((repV c xs).drop (q * xs.length)).take d = (repV c xs).take d := by
  have e1 : repV c xs = repV q xs ++ repV (c - q) xs := by rw [← repV_add, Nat.add_sub_cancel' hq]
  have e2 : repV c xs = repV (c - q) xs ++ repV q xs := by rw [← repV_add, Nat.sub_add_cancel hq]
  conv => lhs; rw [e1]
  rw [e2, List.drop_append_of_le_length (by rw [repV_len]; exact Nat.le_refl _), List.drop_of_length_le (by rw [repV_len]; exact Nat.le_refl _), List.nil_append, List.take_append_of_le_length (by rw [repV_len]; exact hd)]
theorem repV_first {c : Nat} (xs : List Value) (h : 0 < c) : (repV c xs).take xs.length = xs := by
  obtain ⟨c, rfl⟩ : ∃ b, c = b + 1 := ⟨c - 1, by omega⟩
  rw [repV_succ, List.take_left']
  rfl
theorem splice_take {R cs L : List Value} {k : Nat} (hk : k ≤ R.length) (h : R.take k = L.take k) (hc : cs = (L.drop k).take cs.length) : (splice R k cs).take (k + cs.length) = L.take (k + cs.length) := by
  unfold splice
  have h1 : (R.take k).length = k := by rw [List.length_take]; omega
  rw [← List.append_assoc, List.take_append_of_le_length (by rw [List.length_append, h1]; exact Nat.le_refl _), List.take_of_length_le (by rw [List.length_append, h1]; exact Nat.le_refl _), h, List.take_add]
  rw [← hc]
theorem repL_len (c : Nat) (W : List Wk) : (repL c W).length = c * W.length := by
  unfold repL
  induction c with
  | zero => simp
  | succ c ih => rw [List.range_succ, List.flatMap_append, List.length_append, ih, Nat.succ_mul]; simp
theorem wfl_rep (c : Nat) (W : List Wk) : wfl (repL c W) = repV c (wfl W) := by
  unfold repL
  induction c with
  | zero => rfl
  | succ c ih => rw [List.range_succ, List.flatMap_append, wfl_app, ih, repV_add]; simp [repV]
theorem mk_works (n : Nat) (hn : n < 100000) (W : World) : (Instr.makeSlice 22 (.int .i64 (n : Int)) (.int .i64 (n : Int))).run Try.prog W = .ok (.slice (some ⟨W.heap.size, 0, none⟩) n n) (W.alloc (.cells (madeCells wkZ.cells (n * 3)) 51)) := by
  obtain ⟨i0, hi, hz0, hz1, hz2⟩ := info_parts infoWk
  have h := run_make (P := Try.prog) W 22 51 i0 wkZ Try.underlying22 hi hz0 .i64 .i64 (n : Int) (n : Int) (by omega) (by omega) (by rw [hz2]; omega) (by omega)
  rw [hz1] at h
  simp at h
  exact h
theorem add_zero_at (g j : Nat) (w : World) : w.cell? ((⟨g, 0, none⟩ : Addr).add j) = w.cell? ⟨g, j, none⟩ := by
  by_cases ej : j = 0
  · subst ej; simp [Addr.add]
  · simp [Addr.add, ej]
set_option maxHeartbeats 4000000 in
set_option maxRecDepth 100000 in
theorem repeat_any (xs : List Wk) (c : Nat) (hx : xs.length ≤ 100) (hc : c ≤ 401) (v : Value) (w : World) (hv : WS w v xs) :
    Calls Try.prog 34 #[v, .int .i64 (c : Int)] w fun e w' => ∃ v', e = .returned v' ∧ WO w.heap.size w' v' (repL c xs) ∧ Below w.heap.size w w' := by
  obtain ⟨sa, sc, rfl, h1, h2, h3, hI⟩ := hv
  have HI := Lib.hid hI
  clear hI
  obtain ⟨m, hm⟩ : ∃ m, xs.length = m := ⟨_, rfl⟩
  obtain ⟨N, hN⟩ : ∃ N, m * c = N := ⟨_, rfl⟩
  have hNb : N ≤ 100 * 401 := by rw [← hN]; exact Nat.mul_le_mul (by omega) hc
  have hrl := repL_len c xs
  rw [hm, Nat.mul_comm, hN] at hrl
  unfold WO
  rw [wfl_rep, hrl]
  obtain ⟨X, hX⟩ : ∃ X, X = wfl xs := ⟨_, rfl⟩
  have hXl : X.length = m * 3 := by rw [hX, wfl_len, hm]
  have hl := repV_len c X
  rw [hXl, show c * (m * 3) = N * 3 by rw [← hN]; rw [Nat.mul_comm m c, Nat.mul_assoc]] at hl
  rw [← hX]
  have HX := Lib.hid hX
  have HXL := Lib.hid hXl
  have hmul := fun W => mul_any m c (by omega) (by omega) W
  rw [hN] at hmul
  rw [hm] at hx h1
  rw [hm]
  have c0 : (0 : Int) ≤ (c : Int) := by omega
  have e1 : IntKind.u64.wrap (m : Int) = (m : Int) := in64 _ (by omega)
  have e2 : IntKind.u64.wrap (c : Int) = (c : Int) := in64 _ (by omega)
  have e3 : IntKind.i64.wrap (N : Int) = (N : Int) := num_in (by omega) (by omega)
  have hmk := fun W => mk_works N (by omega) W
  have Hm := Lib.hid hm
  have HN := Lib.hid hN
  have Hl := Lib.hid hl
  clear hm hN hl hX hXl hrl
  go_enter Try.func34, Try.ntmps34
  go_wp2_with fail
  refine (hmul _).mono ?_
  rintro e w1 ⟨rfl, rfl⟩
  have hrow : (w1.alloc (.cells (madeCells wkZ.cells (N * 3)) 51)).heap[w1.heap.size]? = some (.cells ((madeCells wkZ.cells (N * 3)).toList).toArray 51 (0, 0)) := by simpa using heap_alloc_new w1 (.cells (madeCells wkZ.cells (N * 3)) 51)
  obtain ⟨R0, hR0⟩ : ∃ R0, R0 = (madeCells wkZ.cells (N * 3)).toList := ⟨_, rfl⟩
  have hR0l : R0.length = N * 3 := by
    rw [hR0]
    simp [size_madeCells]
  rw [← hR0] at hrow
  obtain ⟨k0, hk0⟩ : ∃ k0, k0 = Nat.min m N := ⟨_, rfl⟩
  have hk0N : k0 ≤ N := by rw [hk0]; exact Nat.min_le_right _ _
  have hk0m : k0 ≤ m := by rw [hk0]; exact Nat.min_le_left _ _
  obtain ⟨cs, hcs⟩ : ∃ cs, cs = X.take (k0 * 3) := ⟨_, rfl⟩
  have hcl : cs.length = k0 * 3 := by rw [hcs, List.length_take, HXL.out]; omega
  have B0 := Lib.hid (below_alloc w1 (.cells (madeCells wkZ.cells (N * 3)) 51))
  have Hrow := Lib.hid hrow
  have Hk0 := Lib.hid hk0
  have Hcs := Lib.hid hcs
  clear hR0 hrow hk0 hcs
  have HsrcA := Lib.hid (show 0 < cs.length → ∃ ad, sa = some ad ∧ ∀ j v, cs[j]? = some v → (w1.alloc (.cells (madeCells wkZ.cells (N * 3)) 51)).cell? (ad.add j) = some v from fun h => by
    have hp : 0 < xs.length := by
      have := Hm.out
      omega
    obtain ⟨b, off, e, _, _⟩ := HI.out 0 _ (List.getElem?_eq_getElem hp)
    refine ⟨_, e, fun j v hj => ?_⟩
    have hjl := (List.getElem?_eq_some_iff.1 hj).1
    rw [Hcs.out, List.getElem?_take_of_lt (by omega), HX.out] at hj
    obtain ⟨x, hx, hg⟩ := wfl_of xs j (by rw [Hm.out]; omega)
    obtain ⟨b', off', e', hb', hc'⟩ := HI.out (j / 3) x hx
    rw [e] at e'
    cases e'
    rw [Addr.add_mid]
    have h5 := hc' (j % 3) v (by rw [← hg]; exact hj)
    rw [show off + j / 3 * 3 + j % 3 = off + j by omega] at h5
    exact (B0.out.cell (p := ⟨b, off + j, none⟩) hb').trans h5)
  have Hone := Lib.hid (show ∀ v ∈ cs, v.oneCell' = true from fun v hv => by
    rw [Hcs.out, HX.out] at hv
    exact wfl_one xs v (List.mem_of_mem_take hv))
  have hszi : (Try.prog.info? 51).map (·.size) = some 3 := by kernel_rfl
  have Hszi := Lib.hid hszi
  have Hcl := Lib.hid hcl
  have Hfit := Lib.hid (show 0 + cs.length ≤ R0.length by omega)
  clear hszi hcl
  go_wp2_with (refine wpList_copy_spliceN 3 k0 rfl (.tmp 31) (.tmp 32) 22 22 rfl 51 Try.underlying22 Hszi.out (by decide) (some ⟨w1.heap.size, 0, none⟩) sa N N m sc (by rfl) (by rfl) w1.heap.size 0 R0 51 Hrow.out cs Hk0.out Hcl.out (fun h => ⟨rfl, HsrcA.out h⟩) Hfit.out Hone.out w1.heap.size w1 B0.out (Nat.le_refl _) ?_; intro w2 hg2 hb2)
  have hfirst : (splice R0 0 cs).take (k0 * 3) = (repV c X).take (k0 * 3) := by
    have h := splice_take (R := R0) (cs := cs) (L := repV c X) (k := 0) (Nat.zero_le _) (by simp) (by
      rw [List.drop_zero, Hcl.out, Hcs.out]
      have h0 : k0 = min m N := Hk0.out
      rcases Nat.eq_zero_or_pos N with hz | hz
      · rw [show k0 = 0 by rw [h0, hz]; exact Nat.min_zero _]; rfl
      · have hc0 : 0 < c := Nat.pos_of_ne_zero fun e => by have h := HN.out; rw [e, Nat.mul_zero] at h; omega
        have : m ≤ N := by rw [← HN.out]; exact Nat.le_mul_of_pos_right _ hc0
        rw [show k0 = m by rw [h0]; exact Nat.min_eq_left this]
        rw [← HXL.out, repV_first X hc0, List.take_length])
    rw [Nat.zero_add, Hcl.out] at h
    exact h
  have Hg2 := Lib.hid hg2.out
  have Hb2 := Lib.hid hb2
  have Hf := Lib.hid hfirst
  have Hq := Lib.hid (show ∃ q, q ≤ c ∧ k0 = q * m ∧ (0 < N → 0 < k0) from by
    have h0 : k0 = min m N := Hk0.out
    rcases Nat.eq_zero_or_pos N with hz | hz
    · exact ⟨0, Nat.zero_le _, by rw [h0, hz, Nat.zero_mul]; exact Nat.min_zero _, fun h => by omega⟩
    · have hc0 : 0 < c := Nat.pos_of_ne_zero fun e => by have h := HN.out; rw [e, Nat.mul_zero] at h; omega
      have hmN : m ≤ N := by rw [← HN.out]; exact Nat.le_mul_of_pos_right _ hc0
      have hm0 : 0 < m := Nat.pos_of_ne_zero fun e => by have h := HN.out; rw [e, Nat.zero_mul] at h; omega
      have hkm : k0 = m := by rw [h0]; exact Nat.min_eq_left hmN
      exact ⟨1, hc0, by rw [hkm, Nat.one_mul], fun _ => by omega⟩)
  have HspL := Lib.hid (show (splice R0 0 cs).length = N * 3 by rw [length_splice _ _ _ Hfit.out]; exact hR0l)
  clear hg2 hb2 hfirst
  go_wp2_with fail
  go_loopw [8] (fun i wr => ∃ (k : Nat) (R : List Value), i = .int .i64 (k : Int) ∧ k ≤ N ∧ (∃ q, q ≤ c ∧ k = q * m ∧ (0 < N → 0 < k)) ∧ R.length = N * 3 ∧ R.take (k * 3) = (repV c X).take (k * 3) ∧ wr.heap[w1.heap.size]? = some (.cells R.toArray 51 (0, 0)) ∧ Below w1.heap.size w1 wr) (fun i _ => N - (intOf i).toNat)
  case atStart => exact ⟨k0, _, rfl, hk0N, Hq.out, HspL.out, Hf.out, Hg2.out, Hb2.out⟩
  case round =>
    obtain ⟨k, R, rfl, hkN, hq, hRl, hf, hg, hbw⟩ := hrel
    have HQ := Lib.hid hq
    have HRl := Lib.hid hRl
    have HF := Lib.hid hf
    have HG := Lib.hid hg
    have HB := Lib.hid hbw
    clear hq hRl hf hg hbw
    by_cases hlt : k < N
    · have hlt' : (k : Int) < (N : Int) := by omega
      obtain ⟨d, hd⟩ : ∃ d, d = Nat.min k (N - k) := ⟨_, rfl⟩
      have hd0 : 0 < d := by
        have : 0 < k := (HQ.out).elim fun q h => h.2.2 (by omega)
        rw [hd]
        exact Nat.lt_min.2 ⟨this, by omega⟩
      have hd1 : d ≤ N - k := by rw [hd]; exact Nat.min_le_right _ _
      have hd2 : d ≤ k := by rw [hd]; exact Nat.min_le_left _ _
      have Hd := Lib.hid hd
      obtain ⟨ds, hds⟩ : ∃ ds, ds = R.take (d * 3) := ⟨_, rfl⟩
      have hdl : ds.length = d * 3 := by rw [hds, List.length_take, HRl.out]; omega
      have Hdl := Lib.hid hdl
      have Hds := Lib.hid hds
      clear hd hds hdl
      have Hgd := Lib.hid (show wr.drew.heap[w1.heap.size]? = some (.cells R.toArray 51 (0, 0)) from HG.out)
      have Hbd := Lib.hid HB.out.drew
      have Hsrc := Lib.hid (show ∀ j v, ds[j]? = some v → wr.drew.cell? ((⟨w1.heap.size, 0, none⟩ : Addr).add j) = some v from fun j v hj => by
        rw [add_zero_at]
        rw [cell_of_row _ _ _ _ _ _ Hgd.out]
        rw [Hds.out, List.getElem?_take] at hj
        split at hj
        · simpa using hj
        · cases hj)
      have Hone2 := Lib.hid (show ∀ v ∈ ds, v.oneCell' = true from fun v hv => by
        rw [Hds.out] at hv
        have h5 : v ∈ (repV c X).take (k * 3) := by rw [← HF.out]; exact List.take_subset_take_left _ (by omega) hv
        have h6 := List.mem_of_mem_take h5
        unfold repV at h6
        obtain ⟨l, hl, hvl⟩ := List.mem_flatten.1 h6
        rw [List.eq_of_mem_replicate hl, HX.out] at hvl
        exact wfl_one xs v hvl)
      have Hfit2 := Lib.hid (show k * 3 + ds.length ≤ R.length by rw [Hdl.out, HRl.out]; omega)
      go_wp2_with fail
      go_region_law (refine step_copy_spliceN 3 d (o := ⟨some 45, _, _, _, _, _⟩) rfl (.tmp 41) (.tmp 44) 22 22 rfl 51 Try.underlying22 Hszi.out (by decide) (some ⟨w1.heap.size, k * 3, none⟩) (some ⟨w1.heap.size, 0, none⟩) (N - k) (N - k) k N (by go_simp; omega) (by go_simp) w1.heap.size (k * 3) R 51 Hgd.out ds Hd.out Hdl.out (fun h => ⟨rfl, _, rfl, Hsrc.out⟩) Hfit2.out Hone2.out w1.heap.size w1 Hbd.out (Nat.le_refl _) ?_; intro w4 hg4 hb4)
      have hnx := splice_take (R := R) (cs := ds) (L := repV c X) (k := k * 3) (by rw [HRl.out]; omega) HF.out (by
        obtain ⟨q, hqc, hqk, _⟩ := HQ.out
        have e3 : k * 3 = q * X.length := by rw [HXL.out, hqk, Nat.mul_assoc]
        rw [Hdl.out, Hds.out, e3, repV_drop X hqc (by rw [HXL.out, ← Nat.mul_assoc, Nat.sub_mul, ← hqk, Nat.mul_comm c m, HN.out]; omega)]
        have := congrArg (List.take (d * 3)) HF.out
        rw [List.take_take, List.take_take, Nat.min_eq_left (by omega : d * 3 ≤ k * 3)] at this
        exact this)
      have hnq : ∃ q, q ≤ c ∧ k + d = q * m ∧ (0 < N → 0 < k + d) := by
        obtain ⟨q, hqc, hqk, _⟩ := HQ.out
        by_cases hle : k ≤ N - k
        · have hdk : d = k := by rw [Hd.out]; exact Nat.min_eq_left hle
          refine ⟨2 * q, ?_, by rw [hdk, hqk, Nat.mul_assoc]; omega, fun _ => by omega⟩
          have h1 : (2 * q) * m ≤ c * m := by
            rw [Nat.mul_assoc, ← hqk, Nat.mul_comm c m, HN.out]
            omega
          exact Nat.le_of_mul_le_mul_right h1 (by
            rcases Nat.eq_zero_or_pos m with e | e
            · have h := HN.out
              rw [e, Nat.zero_mul] at h
              omega
            · exact e)
        · have hdk : d = N - k := by rw [Hd.out]; exact Nat.min_eq_right (by omega)
          exact ⟨c, Nat.le_refl _, by rw [hdk, Nat.mul_comm c m, HN.out]; omega, fun _ => by omega⟩
      rw [Hdl.out, ← Nat.add_mul] at hnx
      have Hnx := Lib.hid hnx
      have Hnq := Lib.hid hnq
      have Hsl := Lib.hid (show (splice R (k * 3) ds).length = N * 3 by rw [length_splice _ _ _ Hfit2.out]; exact HRl.out)
      have Hg4 := Lib.hid hg4.out
      have Hb4 := Lib.hid hb4
      clear hnx hnq hg4 hb4
      have hwr : IntKind.i64.wrap ((k : Int) + (d : Int)) = ((k + d : Nat) : Int) := num_in (by omega) (by omega)
      go_wp2_with fail
      go_roundw
      case rel => exact ⟨k + d, by first | rfl | exact hwr | omega, by omega, Hnq.out, _, Hsl.out, Hnx.out, Hg4.out, Hb4.out⟩
      case measure => (simp [intOf] <;> omega)
    · have hlt' : ¬ (k : Int) < (N : Int) := by omega
      have he : k = N := by omega
      have hR := HF.out
      rw [he, List.take_of_length_le (by rw [HRl.out]; exact Nat.le_refl _), List.take_of_length_le (by rw [Hl.out]; exact Nat.le_refl _)] at hR
      have HR := Lib.hid hR
      clear hR he
      go_wp2_with fail
      go_ret
      rw [← HR.out]
      refine ⟨_, rfl, ?_, HB.out⟩
      exact ⟨HRl.out, .inr ⟨w1.heap.size, N, R.toArray, rfl, Nat.le_refl _, HG.out, Nat.le_refl _, by unfold maxLen; omega, by rw [List.size_toArray, HRl.out], List.take_of_length_le (by rw [HRl.out]; exact Nat.le_refl _)⟩⟩
end Go.Proofs.Ytgbdccoimmkmeaa
