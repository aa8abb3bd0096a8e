/- Chains: found paths; slices.Reverse of ints; path. -/
import Derived.Test.YtenfeekchggioaaFW
namespace Go.Proofs.Ytenfeekchggioaa
open Go.RowKit Go.Shelf Go.Lib
set_option linter.unusedSimpArgs false
attribute [local irreducible] wpQuiet
theorem revI_next {l R : List Int} {k m n : Nat} {x y : Int} (hn : l.length = n) (hm : m + k + 1 = n) (hkm : k < m) (hR : R.length = n) (hx : l[k]? = some x) (hy : l[m]? = some y) (h : ∀ p, p < n → R[p]? = if p < k ∨ m < p then l[n - 1 - p]? else l[p]?) :
    ∀ p, p < n → ((R.set k y).set m x)[p]? = if p < k + 1 ∨ m - 1 < p then l[n - 1 - p]? else l[p]? := fun p hp => by
  rw [List.getElem?_set, List.length_set, List.getElem?_set]
  by_cases e1 : m = p
  · subst e1
    rw [if_pos rfl, if_pos (by omega), if_pos (by omega), show n - 1 - m = k by omega, hx]
  · rw [if_neg e1]
    by_cases e2 : k = p
    · subst e2
      rw [if_pos rfl, if_pos (by omega), if_pos (by omega), show n - 1 - k = m by omega, hy]
    · rw [if_neg e2, h p hp]
      by_cases e3 : p < k ∨ m < p
      · rw [if_pos e3, if_pos (by omega)]
      · rw [if_neg e3, if_neg (by omega)]
theorem revI_end {l R : List Int} {k n : Nat} {m : Int} (hn : l.length = n) (hm : m = (n : Int) - 1 - k) (hkm : ¬ (k : Int) < m) (hR : R.length = n) (h : ∀ p, p < n → R[p]? = if p < k ∨ m < (p : Int) then l[n - 1 - p]? else l[p]?) : R = l.reverse := by
  apply List.ext_getElem?
  intro p
  by_cases hp : p < n
  · rw [h p hp, List.getElem?_reverse (by omega), hn]
    split
    · rfl
    · rw [show n - 1 - p = p by omega]
  · rw [List.getElem?_eq_none (by omega), List.getElem?_eq_none (by simp; omega)]
set_option maxHeartbeats 1000000 in
set_option maxRecDepth 100000 in
theorem reverseI_any (l : List Int) (B g c n : Nat) (hn : l.length = n) (hs : n < 100000) (w : World) (hown0 : w.ownsRow B 3 1 (.slice (some ⟨g, 0, none⟩) n c) n (l.map (Value.int .i64))) (hBg : B ≤ g) :
    Calls Try.prog 68 #[.slice (some ⟨g, 0, none⟩) n c] w fun e w' => e = .returned (.tuple #[]) ∧ w'.ownsRow B 3 1 (.slice (some ⟨g, 0, none⟩) n c) n (l.reverse.map (Value.int .i64)) ∧ Below B w w' := by
  have HO := Lib.hid hown0
  clear hown0
  have hwn : IntKind.i64.wrap ((n : Int) - 1) = (n : Int) - 1 := IntWalk.i64_in _ (by omega)
  go_enter Try.func68, Try.ntmps68
  go_wp2_with fail
  go_loopw [2, 3] (fun i j wr => ∃ (k : Nat) (m : Int) (R : List Int), i = .int .i64 k ∧ j = .int .i64 m ∧ m = (n : Int) - 1 - k ∧ k ≤ n ∧ R.length = n ∧ (∀ p, p < n → R[p]? = if p < k ∨ m < (p : Int) then l[n - 1 - p]? else l[p]?) ∧ wr.ownsRow B 3 1 (.slice (some ⟨g, 0, none⟩) n c) n (R.map (Value.int .i64)) ∧ Below B w wr) (fun i _ _ => n - (intOf i).toNat)
  case atStart => exact ⟨0, (n : Int) - 1, l, rfl, rfl, by omega, Nat.zero_le _, hn, fun p hp => by rw [if_neg (by omega)], HO.out, Below.refl _ w⟩
  case round =>
    obtain ⟨k, m, R, rfl, rfl, hm, hk, hRl, hR, hown, hbw⟩ := hrel
    have HR := Lib.hid hR
    clear hR
    by_cases hkm : (k : Int) < m
    · obtain ⟨q, rfl⟩ : ∃ q : Nat, m = (q : Int) := ⟨m.toNat, by omega⟩
      obtain ⟨x, hx⟩ : ∃ x, l[k]? = some x := ⟨_, List.getElem?_eq_getElem (by omega)⟩
      obtain ⟨y, hy⟩ : ∃ y, l[q]? = some y := ⟨_, List.getElem?_eq_getElem (by omega)⟩
      have rk := HR.out k (by omega)
      rw [if_neg (by omega), hx] at rk
      have rq := HR.out q (by omega)
      rw [if_neg (by omega), hy] at rq
      have Hn := Lib.hid (revI_next (m := q) hn (by omega) (by omega) hRl hx hy (fun p hp => by rw [HR.out p hp]; simp only [Int.ofNat_lt]))
      have HN := Lib.hid (show ∀ p, p < n → ((R.set k y).set q x)[p]? = if p < k + 1 ∨ (q : Int) - 1 < (p : Int) then l[n - 1 - p]? else l[p]? from fun p hp => by
        rw [Hn.out p hp]
        have : (p < k + 1 ∨ q - 1 < p) ↔ (p < k + 1 ∨ (q : Int) - 1 < (p : Int)) := by omega
        simp only [this])
      have e0 : wr.cell? ⟨g, k, none⟩ = some (.int .i64 x) := by rw [hown.cellAt k (by omega)]; rw [List.getElem?_map, rk]; rfl
      have e1 : wr.cell? ⟨g, q, none⟩ = some (.int .i64 y) := by rw [hown.cellAt q (by omega)]; rw [List.getElem?_map, rq]; rfl
      have f0 := hown.frozenAt k
      have f1 := hown.frozenAt q
      have hs1 := (hown.stored k (.int .i64 y)).1
      have hs2 := (hs1.stored q (.int .i64 x)).1
      rw [← List.map_set, ← List.map_set] at hs2
      have Hs2 := Lib.hid hs2.drew
      have Hbw2 := Lib.hid (((hbw.setCell (p := ⟨g, k, none⟩) hBg (.int .i64 y)).setCell (p := ⟨g, q, none⟩) hBg (.int .i64 x)).drew)
      have n1 : (0 : Int) ≤ (k : Int) := by omega
      have n2 : (k : Int) < (n : Int) := by omega
      have n3 : (0 : Int) ≤ (q : Int) := by omega
      have n4 : (q : Int) < (n : Int) := by omega
      have hwq : IntKind.i64.wrap ((q : Int) - 1) = (q : Int) - 1 := IntWalk.i64_in _ (by omega)
      have hne : k ≠ q := by omega
      have HM := Lib.hid hm
      have HL := Lib.hid (show ((R.set k y).set q x).length = n by simp [hRl])
      clear hs1 hs2 hown hbw rk rq hx hy hm
      go_wp2_with fail
      go_region
      go_wp2_with fail
      go_roundw
      case rel => exact ⟨k + 1, (q : Int) - 1, _, by go_num, rfl, by have := HM.out; omega, by omega, HL.out, HN.out, Hs2.out, Hbw2.out⟩
      case measure => (simp [intOf] <;> omega)
    · have e := revI_end hn hm hkm hRl HR.out
      rw [e] at hown
      have HO := Lib.hid hown
      clear hown e hm
      go_wp2_with fail
      go_end0
      exact ⟨rfl, by first | exact HO.out | (rw [← List.map_reverse]; exact HO.out), hbw⟩

/-- A row of 400 numbers. -/
def bkC (bk : Nat → Nat) : List Value := (List.range 400).map fun (j : Nat) => .int .i64 (bk j : Int)
theorem bkC_len (bk : Nat → Nat) : (bkC bk).length = 400 := by simp [bkC]
theorem bkC_get (bk : Nat → Nat) {j : Nat} (h : j < 400) : (bkC bk)[j]? = some (.int .i64 (bk j : Int)) := by simp [bkC, h]
def upB (bk : Nat → Nat) (i v : Nat) : Nat → Nat := fun j => if j = i then v else bk j
theorem bkC_set (bk : Nat → Nat) (i v : Nat) : (bkC bk).set i (.int .i64 (v : Int)) = bkC (upB bk i v) := by
  apply List.ext_getElem?
  intro j
  rw [List.getElem?_set]
  by_cases c : i = j
  · subst c
    rw [if_pos rfl, bkC_len]
    by_cases h : i < 400
    · rw [if_pos h, bkC_get _ h]
      simp [upB]
    · rw [if_neg h, List.getElem?_eq_none (by rw [bkC_len]; omega)]
  · rw [if_neg c]
    by_cases h : j < 400
    · rw [bkC_get _ h, bkC_get _ h]
      simp [upB, Ne.symm c]
    · rw [List.getElem?_eq_none (by rw [bkC_len]; omega), List.getElem?_eq_none (by rw [bkC_len]; omega)]
theorem info400 (bk : Nat → Nat) : (Try.prog.info? 88).map (·.size) = some (bkC bk).toArray.size := by
  rw [List.size_toArray, bkC_len]
  kernel_rfl
theorem bkC_one (bk : Nat → Nat) : (bkC bk).toArray.all (·.oneCell') = true := by
  rw [List.all_toArray, List.all_eq_true]
  intro x hx
  obtain ⟨j, _, rfl⟩ := List.mem_map.1 hx
  rfl
/-- A path, read backwards, along the row. -/
def Tr (bk : Nat → Nat) (a : Nat) : List Nat → Prop
  | [] => False
  | [x] => x = a ∧ x < 400
  | x :: y :: r => bk x = y ∧ y < x ∧ x < 400 ∧ Tr bk a (y :: r)
theorem Tr.ge {bk : Nat → Nat} {a : Nat} : ∀ {r : List Nat} {x : Nat}, Tr bk a (x :: r) → a ≤ x ∧ x < 400 ∧ (x = a ↔ r = [])
  | [], x, h => ⟨by have := h.1; omega, h.2, by simp [h.1]⟩
  | y :: r, x, h => by
    obtain ⟨h1, h2, h3, h4⟩ := h
    have := (Tr.ge h4).1
    exact ⟨by omega, h3, ⟨fun e => by omega, fun e => by cases e⟩⟩
theorem Tr.len {bk : Nat → Nat} {a : Nat} : ∀ {r : List Nat} {x : Nat}, Tr bk a (x :: r) → r.length + a ≤ x
  | [], x, h => by simp [h.1]
  | y :: r, x, h => by
    obtain ⟨h1, h2, h3, h4⟩ := h
    have := Tr.len h4
    simp only [List.length_cons]
    omega
theorem box_big {P : Program} {ops : Array Oper} {rest : List Oper} {o : Oper} {a : Act} {w : World} {Q : Exit → Act → World → Prop} (hgd : o.guard = none) (ty : TypeId) (x : Operand) (ho : o.op = .box ty x) (cs : Array Value) (hx : a.eval x = .agg cs)
    (hb : ∀ w, (Instr.box ty (.agg cs)).run P w = .ok (.pointer (some ⟨w.heap.size, 0, none⟩)) (w.alloc (.cells cs ty)))
    (h : wpList P ops Q rest (a.put o.dst (.pointer (some ⟨w.heap.size, 0, none⟩))) (w.alloc (.cells cs ty))) : wpList P ops Q (o :: rest) a w := by
  refine wpList_plain hgd fun K hK => ?_
  unfold Oper.wp execOp
  simp only [ho, hx, Sem.run_bind, hb, Result.andThen_ok, Sem.run_pure]
  exact hK _ _ h
theorem alloc_big {P : Program} {ops : Array Oper} {rest : List Oper} {o : Oper} {a : Act} {w : World} {Q : Exit → Act → World → Prop} (hgd : o.guard = none) (ty : TypeId) (ho : o.op = .alloc ty) (cs : Array Value)
    (hb : ∀ w, (Instr.alloc ty true (.tuple #[])).run P w = .ok (.pointer (some ⟨w.heap.size, 0, none⟩)) (w.alloc (.cells cs ty)))
    (h : wpList P ops Q rest (a.put o.dst (.pointer (some ⟨w.heap.size, 0, none⟩))) (w.alloc (.cells cs ty))) : wpList P ops Q (o :: rest) a w := by
  refine wpList_plain hgd fun K hK => ?_
  unfold Oper.wp execOp
  simp only [ho, Sem.run_bind, hb, Result.andThen_ok, Sem.run_pure]
  exact hK _ _ h
theorem run_box400 (bk : Nat → Nat) (w : World) : (Instr.box 88 (.agg (bkC bk).toArray)).run Try.prog w = .ok (.pointer (some ⟨w.heap.size, 0, none⟩)) (w.alloc (.cells (bkC bk).toArray 88)) := by
  simp [Instr.box, go_sem, Value.cells, Try.isAgg88]
theorem run_alloc400 (w : World) : (Instr.alloc 88 true (.tuple #[])).run Try.prog w = .ok (.pointer (some ⟨w.heap.size, 0, none⟩)) (w.alloc (.cells (bkC fun _ => 0).toArray 88)) := by
  kernel_rfl
set_option maxRecDepth 100000 in
set_option maxHeartbeats 4000000 in
theorem path_any (bk : Nat → Nat) (a b : Nat) (r : List Nat) (hT : Tr bk a (b :: r)) (w : World) :
    Calls Try.prog 63 #[.agg (bkC bk).toArray, .int .i64 (a : Int), .int .i64 (b : Int)] w fun e w' => ∃ v, e = .returned v ∧ IS w' v ((b :: r).reverse.map fun (i : Nat) => (i : Int)) ∧ Below w.heap.size w w' := by
  have hge := Tr.ge hT
  have HT := Lib.hid hT
  clear hT
  go_enter Try.func63, Try.ntmps63
  go_upto_block 0 with (refine box_big rfl 88 (.tmp 0) rfl (bkC bk).toArray rfl (run_box400 bk) ?_)
  have hq := heap_alloc_new w (.cells (bkC bk).toArray 88)
  have hb0 := below_alloc w (.cells (bkC bk).toArray 88)
  have hz0 : (w.alloc (.cells (bkC bk).toArray 88)).heap.size = w.heap.size + 1 := by simp
  generalize w.alloc (.cells (bkC bk).toArray 88) = W0 at *
  have hown := World.ownsRow_lit (base := W0.heap.size) W0 #[.int .i64 (b : Int)] 1 (e := 3) (size := 1) (Nat.le_refl _) (by unfold maxLen; omega) rfl
  have hb1 := below_alloc W0 (.cells #[.int .i64 (b : Int)] 3)
  generalize W0.alloc (.cells #[.int .i64 (b : Int)] 3) = W1 at *
  have HQ := Lib.hid ((hb1.block _ (by omega)).trans hq)
  rw [hz0] at hown
  have HOW := Lib.hid hown
  have HB := Lib.hid (bon hb0 hb1)
  have HZ := Lib.hid (show w.heap.size + 1 ≤ W1.heap.size by have := hb1.size; omega)
  have HZ0 := Lib.hid hz0
  clear hq hb0 hown hb1 hz0
  go_wp2_with fail
  go_loopw [7, 8] (fun vo i wr => ∃ (x : Nat) (s r' : List Nat), i = .int .i64 (x : Int) ∧ s ++ x :: r' = b :: r ∧ Tr bk a (x :: r') ∧ wr.ownsRow (w.heap.size + 1) 3 1 vo (s.length + 1) (((s ++ [x]).map fun (i : Nat) => (i : Int)).map (Value.int .i64)) ∧ Below (w.heap.size + 1) W1 wr) (fun _ i _ => (intOf i).toNat)
  case atStart => exact ⟨b, [], r, rfl, rfl, HT.out, HOW.out, Below.refl _ _⟩
  case round =>
    obtain ⟨x, s, r', rfl, hs, hT, hown, hbw⟩ := hrel
    have HS := Lib.hid hs
    have HTX := Lib.hid hT
    have HOX := Lib.hid hown
    have HBX := Lib.hid hbw
    have HQX := Lib.hid ((hbw.block _ (by omega)).trans HQ.out)
    have HZX := Lib.hid (show w.heap.size + 1 ≤ wr.heap.size by have := hbw.size; have := HZ.out; omega)
    have HLL := Lib.hid (show s.length ≤ 400 by have h1 := Tr.len HT.out; have h2 := congrArg List.length hs; simp only [List.length_append, List.length_cons] at h2; omega)
    have hxx := Tr.ge hT
    clear hs hown hbw
    by_cases hr : r' = []
    · subst hr
      have e : x = a := hT.1
      subst e
      clear hT hxx
      have HE := Lib.hid (show s ++ [x] = b :: r from HS.out)
      obtain ⟨g, cap, hv⟩ := own_pos HOX.out (by omega)
      subst hv
      have HGG := Lib.hid (HOX.out.lt g rfl)
      go_wp2_with fail
      refine (reverseI_any _ (w.heap.size + 1) g cap (s.length + 1) (by simp) (by have := HLL.out; omega) _ HOX.out HGG.out.1).mono ?_
      rintro e w5 ⟨rfl, ho5, hb5⟩
      have HIS := Lib.hid (is_own ho5 (by simp))
      have HB5 := Lib.hid hb5
      clear ho5 hb5
      go_wp2_with fail
      go_ret
      refine ⟨_, rfl, ?_, ?_⟩
      · have := HIS.out
        rw [← List.map_reverse, HE.out] at this
        exact this
      · exact HB.out.trans ((HBX.out.trans HB5.out).mono (by omega))
    · obtain ⟨y, r2, rfl⟩ : ∃ y r2, r' = y :: r2 := by cases r' with | nil => exact absurd rfl hr | cons y r2 => exact ⟨y, r2, rfl⟩
      have hne : ¬ x = a := fun e => hr (hxx.2.2.1 e)
      have HNE := Lib.hid (show ((x : Int) != (a : Int)) = true by rw [bne_iff_ne]; omega)
      have hne2 := HNE.out
      obtain ⟨t1, t2, t3, t4⟩ := hT
      have HT4 := Lib.hid t4
      have HLT := Lib.hid t2
      have x0 : (0 : Int) ≤ (x : Int) := by omega
      have x1 : (x : Int) < 400 := by omega
      have c0 : wr.cell? ⟨w.heap.size, x, none⟩ = some (.int .i64 (y : Int)) := by rw [cell_of_row wr _ x _ _ _ HQX.out, List.getElem?_toArray, bkC_get _ t3, t1]
      have HOY := Lib.hid (show wr.ownsRow (w.heap.size + 1) 3 1 _ ((s ++ [x]).map fun (i : Nat) => (i : Int)).length (((s ++ [x]).map fun (i : Nat) => (i : Int)).map (Value.int .i64)) by rw [List.length_map, List.length_append]; exact HOX.out)
      clear t1 t2 t3 t4 hne hr hxx
      go_wp2_with (at_builtin; refine app_one (w0 := wr) (w.heap.size + 1) _ ((s ++ [x]).map fun (i : Nat) => (i : Int)) (y : Int) rfl _ _ rfl rfl HOY.out rfl (by have := HLL.out; rw [List.length_map, List.length_append, List.length_singleton]; omega) (Below.refl _ _) HZX.out ?_; intro g1 cap1 w4 hown1 hb1)
      have HO1 := Lib.hid hown1
      have HB1 := Lib.hid hb1
      clear hown1 hb1
      go_wp2_with fail
      go_roundw
      case rel => exact ⟨y, s ++ [x], r2, rfl, by rw [List.append_assoc]; exact HS.out, HT4.out, by simpa using HO1.out, HBX.out.trans HB1.out⟩
      case measure => (simp [intOf] <;> have := HLT.out <;> omega)
end Go.Proofs.Ytenfeekchggioaa
