/- slices.Repeat walked: a row of ints, so many times. -/
import Derived.Test.YtnfppebcpagjpaaDF
import Derived.Laws.CopyOwn
namespace Go.Proofs.Ytnfppebcpagjpaa
open Go.RowKit Go.Lib
theorem rep_len (c : Nat) (w : List Int) : (rep c w).length = c * w.length := by
  induction c with
  | zero => simp [rep]
  | succ c ih => rw [rep_succ, List.length_append, ih, Nat.succ_mul]; omega
theorem rep_add (a b : Nat) (w : List Int) : rep (a + b) w = rep a w ++ rep b w := by
  unfold rep
  rw [← List.replicate_append_replicate, List.flatten_append]
/-- Behind whole copies the row goes on as it begins. -/
theorem rep_drop {c q d : Nat} (xs : List Int) (hq : q ≤ c) (hd : d ≤ (c - q) * xs.length) : ((rep c xs).drop (q * xs.length)).take d = (rep c xs).take d := by
  have e1 : rep c xs = rep q xs ++ rep (c - q) xs := by rw [← rep_add, Nat.add_sub_cancel' hq]
  have e2 : rep c xs = rep (c - q) xs ++ rep q xs := by rw [← rep_add, Nat.sub_add_cancel hq]
  conv => lhs; rw [e1]
  rw [e2, List.drop_append_of_le_length (by rw [rep_len]; exact Nat.le_refl _), List.drop_of_length_le (by rw [rep_len]; exact Nat.le_refl _), List.nil_append, List.take_append_of_le_length (by rw [rep_len]; exact hd)]
theorem rep_first {c : Nat} (xs : List Int) (h : 0 < c) : (rep c xs).take xs.length = xs := by
  obtain ⟨c, rfl⟩ : ∃ b, c = b + 1 := ⟨c - 1, by omega⟩
  rw [rep_succ, List.take_left']
  rfl
/-- A copy laid over a row of which the first k are known. -/
theorem splice_take {R cs L : List Value} {k : Nat} (hk : k ≤ R.length) (h : R.take k = L.take k) (hc : cs = (L.drop k).take cs.length) : (splice R k cs).take (k + cs.length) = L.take (k + cs.length) := by
  unfold splice
  have h1 : (R.take k).length = k := by rw [List.length_take]; omega
  rw [← List.append_assoc, List.take_append_of_le_length (by rw [List.length_append, h1]; exact Nat.le_refl _), List.take_of_length_le (by rw [List.length_append, h1]; exact Nat.le_refl _), h, List.take_add]
  rw [← hc]
set_option maxHeartbeats 2000000 in
set_option maxRecDepth 100000 in
theorem repeat_any (xs : List Int) (c : Nat) (hx : xs.length ≤ 100) (hc : c ≤ 401) (v : Value) (w : World) (hv : IS w v xs) :
    Calls Try.prog 78 #[v, .int .i64 (c : Int)] w fun e w' => ∃ v', e = .returned v' ∧ w'.ownsRow w.heap.size 3 1 v' (rep c xs).length ((rep c xs).map (Value.int .i64)) ∧ Below w.heap.size w w' := by
  have Hv := Lib.hid hv
  obtain ⟨sa, sc, rfl, h1, h2, h3, hI⟩ := hv
  have HI := Lib.hid hI
  clear hI
  obtain ⟨m, hm⟩ : ∃ m, xs.length = m := ⟨_, rfl⟩
  obtain ⟨N, hN⟩ : ∃ N, m * c = N := ⟨_, rfl⟩
  have hNb : N ≤ 100 * 401 := by rw [← hN]; exact Nat.mul_le_mul (by omega) hc
  have hl := rep_len c xs
  rw [hm, Nat.mul_comm, hN] at hl
  have hmul := fun W => mul_any m c (by omega) (by omega) W
  rw [hN] at hmul
  rw [hm] at hx h1
  rw [hm]
  have c0 : (0 : Int) ≤ (c : Int) := by omega
  have e1 : IntKind.u64.wrap (m : Int) = (m : Int) := in64 _ (by omega)
  have e2 : IntKind.u64.wrap (c : Int) = (c : Int) := in64 _ (by omega)
  have e3 : IntKind.i64.wrap (N : Int) = (N : Int) := num_in (by omega) (by omega)
  have hmk := fun W => mk_full N (by omega) W
  have Hm := Lib.hid hm
  have HN := Lib.hid hN
  have Hl := Lib.hid hl
  clear hm hN hl
  go_enter Try.func78, Try.ntmps78
  go_wp2_with fail
  refine (hmul _).mono ?_
  rintro e w1 ⟨rfl, rfl⟩
  have hrow : (w1.alloc (.cells (madeCells #[.int .i64 0] N) 3)).heap[w1.heap.size]? = some (.cells ((madeCells #[Value.int .i64 0] N).toList).toArray 3 (0, 0)) := by simpa using heap_alloc_new w1 (.cells (madeCells #[.int .i64 0] N) 3)
  obtain ⟨R0, hR0⟩ : ∃ R0, R0 = (madeCells #[Value.int .i64 0] N).toList := ⟨_, rfl⟩
  have hR0l : R0.length = N := by rw [hR0]; simp [size_madeCells]
  rw [← hR0] at hrow
  obtain ⟨k0, hk0⟩ : ∃ k0, k0 = Nat.min m N := ⟨_, rfl⟩
  have hk0N : k0 ≤ N := by rw [hk0]; exact Nat.min_le_right _ _
  obtain ⟨cs, hcs⟩ : ∃ cs, cs = (xs.take k0).map (Value.int .i64) := ⟨_, rfl⟩
  have hcl : cs.length = k0 := by rw [hcs, List.length_map, List.length_take, Hm.out, hk0]; exact Nat.min_eq_left (Nat.min_le_left _ _)
  have B0 := Lib.hid (below_alloc w1 (.cells (madeCells #[.int .i64 0] N) 3))
  have Hrow := Lib.hid hrow
  have Hk0 := Lib.hid hk0
  have Hcs := Lib.hid hcs
  clear hR0 hrow hk0 hcs
  have HsrcA := Lib.hid (show 0 < cs.length → ∃ ad, sa = some ad ∧ ∀ j v, cs[j]? = some v → (w1.alloc (.cells (madeCells #[.int .i64 0] N) 3)).cell? (ad.add j) = some v from fun h => by
    have hp : 0 < xs.length := by
      have := Hk0.out
      have h5 : k0 ≤ m := by rw [this]; exact Nat.min_le_left _ _
      have := Hm.out
      omega
    obtain ⟨b, off, e, _, _⟩ := HI.out 0 _ (List.getElem?_eq_getElem hp)
    refine ⟨_, e, fun j v hj => ?_⟩
    rw [Hcs.out, List.getElem?_map, List.getElem?_take] at hj
    split at hj
    · obtain ⟨z, hz, rfl⟩ := Option.map_eq_some_iff.1 hj
      obtain ⟨b', off', e', hb', hc'⟩ := HI.out j z hz
      rw [e] at e'
      cases e'
      have := (B0.out.cell (p := ⟨b, off + j, none⟩) hb').trans hc'
      by_cases ej : j = 0
      · subst ej; simpa [Addr.add] using this
      · simpa [Addr.add, ej] using this
    · cases hj)
  have Hone := Lib.hid (show ∀ v ∈ cs, v.oneCell' = true from fun v hv => by
    rw [Hcs.out] at hv
    obtain ⟨z, _, rfl⟩ := List.mem_map.1 hv
    rfl)
  have hszi : (Try.prog.info? 3).map (·.size) = some 1 := by kernel_rfl
  have Hszi := Lib.hid hszi
  have Hcl := Lib.hid hcl
  have Hfit := Lib.hid (show 0 + cs.length ≤ R0.length by omega)
  clear hszi hcl
  go_wp2_with (with_reducible refine wpList_copy_splice rfl (.tmp 31) (.tmp 32) 22 22 rfl 3 Try.underlying22 Hszi.out _ _ _ _ _ _ rfl rfl w1.heap.size 0 R0 3 Hrow.out cs (Hcl.out.trans Hk0.out) (fun h => ⟨rfl, HsrcA.out h⟩) Hfit.out Hone.out w1.heap.size w1 B0.out (Nat.le_refl _) ?_; intro w2 hg2 hb2)
  have hfirst : (splice R0 0 cs).take k0 = ((rep c xs).map (Value.int .i64)).take k0 := by
    have h := splice_take (R := R0) (cs := cs) (L := (rep c xs).map (Value.int .i64)) (k := 0) (Nat.zero_le _) (by simp) (by
      rw [List.drop_zero, Hcl.out, ← List.map_take, Hcs.out]
      congr 1
      have h0 : k0 = min m N := Hk0.out
      rcases Nat.eq_zero_or_pos N with hz | hz
      · rw [show k0 = 0 by rw [h0, hz]; exact Nat.min_zero _]; rfl
      · have hc0 : 0 < c := Nat.pos_of_ne_zero fun e => by have h := HN.out; rw [e, Nat.mul_zero] at h; omega
        have : m ≤ N := by rw [← HN.out]; exact Nat.le_mul_of_pos_right _ hc0
        rw [show k0 = m by rw [h0]; exact Nat.min_eq_left this]
        rw [← Hm.out, rep_first xs hc0, List.take_length])
    rw [Nat.zero_add, Hcl.out] at h
    exact h
  have Hg2 := Lib.hid hg2.out
  have Hb2 := Lib.hid hb2
  have Hf := Lib.hid hfirst
  have Hq := Lib.hid (show ∃ q, q ≤ c ∧ k0 = q * m ∧ (0 < N → 0 < k0) from by
    have h0 : k0 = min m N := Hk0.out
    rcases Nat.eq_zero_or_pos N with hz | hz
    · exact ⟨0, Nat.zero_le _, by rw [h0, hz, Nat.zero_mul]; exact Nat.min_zero _, fun h => by omega⟩
    · have hc0 : 0 < c := Nat.pos_of_ne_zero fun e => by have h := HN.out; rw [e, Nat.mul_zero] at h; omega
      have hmN : m ≤ N := by rw [← HN.out]; exact Nat.le_mul_of_pos_right _ hc0
      have hm0 : 0 < m := Nat.pos_of_ne_zero fun e => by have h := HN.out; rw [e, Nat.zero_mul] at h; omega
      have hkm : k0 = m := by rw [h0]; exact Nat.min_eq_left hmN
      exact ⟨1, hc0, by rw [hkm, Nat.one_mul], fun _ => by omega⟩)
  have HspL := Lib.hid (show (splice R0 0 cs).length = N by rw [length_splice _ _ _ Hfit.out]; exact hR0l)
  clear hg2 hb2 hfirst
  rw [Hcl.out]
  go_wp2_with fail
  go_loopw [8] (fun i wr => ∃ (k : Nat) (R : List Value), i = .int .i64 (k : Int) ∧ k ≤ N ∧ (∃ q, q ≤ c ∧ k = q * m ∧ (0 < N → 0 < k)) ∧ R.length = N ∧ R.take k = ((rep c xs).map (Value.int .i64)).take k ∧ wr.heap[w1.heap.size]? = some (.cells R.toArray 3 (0, 0)) ∧ Below w1.heap.size w1 wr) (fun i _ => N - (intOf i).toNat)
  case atStart => exact ⟨k0, _, rfl, hk0N, Hq.out, HspL.out, Hf.out, Hg2.out, Hb2.out⟩
  case round =>
    obtain ⟨k, R, rfl, hkN, hq, hRl, hf, hg, hbw⟩ := hrel
    have HQ := Lib.hid hq
    have HRl := Lib.hid hRl
    have HF := Lib.hid hf
    have HG := Lib.hid hg
    have HB := Lib.hid hbw
    clear hq hRl hf hg hbw
    by_cases hlt : k < N
    · have hlt' : (k : Int) < (N : Int) := by omega
      obtain ⟨d, hd⟩ : ∃ d, d = Nat.min k (N - k) := ⟨_, rfl⟩
      have hd0 : 0 < d := by
        have : 0 < k := (HQ.out).elim fun q h => h.2.2 (by omega)
        rw [hd]
        exact Nat.lt_min.2 ⟨this, by omega⟩
      have hd1 : d ≤ N - k := by rw [hd]; exact Nat.min_le_right _ _
      have hd2 : d ≤ k := by rw [hd]; exact Nat.min_le_left _ _
      have Hd := Lib.hid hd
      obtain ⟨ds, hds⟩ : ∃ ds, ds = R.take d := ⟨_, rfl⟩
      have hdl : ds.length = d := by rw [hds, List.length_take, HRl.out]; omega
      have Hdl := Lib.hid hdl
      have Hds := Lib.hid hds
      clear hd hds hdl
      have Hgd := Lib.hid (show wr.drew.heap[w1.heap.size]? = some (.cells R.toArray 3 (0, 0)) from HG.out)
      have Hbd := Lib.hid HB.out.drew
      have Hsrc := Lib.hid (show ∀ j v, ds[j]? = some v → wr.drew.cell? ((⟨w1.heap.size, 0, none⟩ : Addr).add j) = some v from fun j v hj => by
        have e : wr.drew.cell? ((⟨w1.heap.size, 0, none⟩ : Addr).add j) = wr.drew.cell? ⟨w1.heap.size, j, none⟩ := by
          by_cases ej : j = 0
          · subst ej; simp [Addr.add]
          · simp [Addr.add, ej]
        rw [e]
        rw [cell_of_row _ _ _ _ _ _ Hgd.out]
        rw [Hds.out, List.getElem?_take] at hj
        split at hj
        · simpa using hj
        · cases hj)
      have Hone2 := Lib.hid (show ∀ v ∈ ds, v.oneCell' = true from fun v hv => by
        rw [Hds.out] at hv
        have h5 : v ∈ ((rep c xs).map (Value.int .i64)).take k := by rw [← HF.out]; exact List.take_subset_take_left _ hd2 hv
        obtain ⟨z, _, rfl⟩ := List.mem_map.1 (List.mem_of_mem_take h5)
        rfl)
      have Hfit2 := Lib.hid (show k + ds.length ≤ R.length by rw [Hdl.out, HRl.out]; omega)
      go_wp2_with fail
      go_region_law (with_reducible refine step_copy_splice (o := ⟨some 45, _, _, _, _, _⟩) rfl (.tmp 41) (.tmp 44) 22 22 rfl 3 Try.underlying22 Hszi.out (some ⟨w1.heap.size, k, none⟩) (some ⟨w1.heap.size, 0, none⟩) (N - k) (N - k) k N (by go_simp; omega) (by go_simp) w1.heap.size k R 3 Hgd.out ds (Hdl.out.trans Hd.out) (fun h => ⟨rfl, _, rfl, Hsrc.out⟩) Hfit2.out Hone2.out w1.heap.size w1 Hbd.out (Nat.le_refl _) ?_; intro w4 hg4 hb4)
      rw [Hdl.out]
      have hnx := splice_take (R := R) (cs := ds) (L := (rep c xs).map (Value.int .i64)) (k := k) (by rw [HRl.out]; exact hkN) HF.out (by
        obtain ⟨q, hqc, hqk, _⟩ := HQ.out
        rw [Hdl.out, Hds.out, ← List.map_drop, ← List.map_take, hqk, ← Hm.out, rep_drop xs hqc (by rw [Hm.out, Nat.sub_mul, ← hqk, Nat.mul_comm, HN.out]; exact hd1), List.map_take]
        have := congrArg (List.take d) HF.out
        rw [List.take_take, List.take_take, Nat.min_eq_left hd2] at this
        exact this)
      have hnq : ∃ q, q ≤ c ∧ k + d = q * m ∧ (0 < N → 0 < k + d) := by
        obtain ⟨q, hqc, hqk, _⟩ := HQ.out
        by_cases hle : k ≤ N - k
        · have hdk : d = k := by rw [Hd.out]; exact Nat.min_eq_left hle
          refine ⟨2 * q, ?_, by rw [hdk, hqk, Nat.mul_assoc]; omega, fun _ => by omega⟩
          have h1 : (2 * q) * m ≤ c * m := by
            rw [Nat.mul_assoc, ← hqk, Nat.mul_comm c m, HN.out]
            omega
          exact Nat.le_of_mul_le_mul_right h1 (by
            rcases Nat.eq_zero_or_pos m with e | e
            · have h := HN.out
              rw [e, Nat.zero_mul] at h
              omega
            · exact e)
        · have hdk : d = N - k := by rw [Hd.out]; exact Nat.min_eq_right (by omega)
          exact ⟨c, Nat.le_refl _, by rw [hdk, Nat.mul_comm c m, HN.out]; omega, fun _ => by omega⟩
      rw [Hdl.out] at hnx
      have Hnx := Lib.hid hnx
      have Hnq := Lib.hid hnq
      have Hsl := Lib.hid (show (splice R k ds).length = N by rw [length_splice _ _ _ Hfit2.out]; exact HRl.out)
      have Hg4 := Lib.hid hg4.out
      have Hb4 := Lib.hid hb4
      clear hnx hnq hg4 hb4
      have hwr : IntKind.i64.wrap ((k : Int) + (d : Int)) = ((k + d : Nat) : Int) := num_in (by omega) (by omega)
      go_wp2_with fail
      go_roundw
      case rel => exact ⟨k + d, by first | rfl | exact hwr | omega, by omega, Hnq.out, _, Hsl.out, Hnx.out, Hg4.out, Hb4.out⟩
      case measure => (simp [intOf] <;> omega)
    · have hlt' : ¬ (k : Int) < (N : Int) := by omega
      have he : k = N := by omega
      have hR := HF.out
      rw [he, List.take_of_length_le (by rw [HRl.out]; exact Nat.le_refl _), List.take_of_length_le (by rw [List.length_map, Hl.out]; exact Nat.le_refl _)] at hR
      have HR := Lib.hid hR
      clear hR he
      go_wp2_with fail
      go_ret
      rw [Hl.out, ← HR.out]
      refine ⟨_, rfl, ?_, HB.out⟩
      exact ⟨by rw [HRl.out, Nat.mul_one], .inr ⟨w1.heap.size, N, R.toArray, rfl, Nat.le_refl _, HG.out, Nat.le_refl _, by unfold maxLen; omega, by rw [List.size_toArray, HRl.out, Nat.mul_one], by rw [Nat.mul_one]; exact List.take_of_length_le (by rw [HRl.out]; exact Nat.le_refl _)⟩⟩
end Go.Proofs.Ytnfppebcpagjpaa
