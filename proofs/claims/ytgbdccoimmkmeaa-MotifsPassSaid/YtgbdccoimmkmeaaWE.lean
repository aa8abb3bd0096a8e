/- copy between rows whose elements have several cells; Grow, Concat, Repeat of works. -/
import Derived.Test.YtgbdccoimmkmeaaWD
import Derived.Laws.CopyRow
import Derived.Laws.CopyOwn
import Derived.Deep.RegionLaw
import Derived.Lib.AppendZeros
namespace Go.Proofs.Ytgbdccoimmkmeaa
section
open Go
theorem run_copy_rowN {P : Program} (sz : Nat) (w : World) (dT sT ty elem : TypeId) (g o dLen dCap : Nat) (a : Addr) (sLen sCap : Nat) (cur : Array Value) (t : TypeId) (cs : List Value)
    (hu : P.underlying dT = some (.slice elem)) (hs : (P.info? elem).map (·.size) = some sz)
    (hg : w.heap[g]? = some (.cells cur t (0, 0))) (hn : cs.length = Nat.min sLen dLen * sz)
    (hsrc : ∀ j v, cs[j]? = some v → w.cell? (a.add j) = some v) (hfit : o + cs.length ≤ cur.size) (h1 : ∀ v ∈ cs, v.oneCell' = true) :
    (Builtin.copy_ #[dT, sT] ty #[.slice (some ⟨g, o, none⟩) dLen dCap, .slice (some a) sLen sCap]).run P w =
      .ok (goInt (Nat.min sLen dLen)) (w.setRow g (cur.toList.take o ++ cs ++ cur.toList.drop (o + cs.length)).toArray) := by
  have hl := run_loadCells_list (P := P) w a cs hsrc
  have hst := run_storeCells_at P g o t cs 0 cur w hg (by simpa using hfit) h1
  cases hq : P.info? elem with
  | none => simp [hq] at hs
  | some i =>
    have hi : i.size = sz := by simpa [hq] using hs
    simp [Builtin.copy_, run_underlying hu, Builtin.lenOf, Builtin.firstCells, sizeOf, typeInfo, hq, hi, ← hn, hl, hst]
theorem run_copy_noneN {P : Program} (sz : Nat) (w : World) (dT sT ty elem : TypeId) (d a : Option Addr) (dLen dCap sLen sCap : Nat) (hu : P.underlying dT = some (.slice elem)) (hs : (P.info? elem).map (·.size) = some sz) (hn : Nat.min sLen dLen = 0) :
    (Builtin.copy_ #[dT, sT] ty #[.slice d dLen dCap, .slice a sLen sCap]).run P w = .ok (goInt 0) w := by
  cases hq : P.info? elem with
  | none => simp [hq] at hs
  | some i =>
    have hl : ∀ (x : Addr), (loadCells x 0).run P w = .ok #[] w := fun x => by simpa using run_loadCells_list (P := P) w x [] (by simp)
    cases d <;> cases a <;> simp [Builtin.copy_, run_underlying hu, Builtin.lenOf, Builtin.firstCells, sizeOf, typeInfo, hq, hn, storeCells, hl]
open Go.RowKit in
theorem wpList_copy_spliceN {P : Program} (sz n : Nat) {w : World} {ops : Array Oper} {rest : List Oper} {o : Oper} {a : Act} {Q : Exit → Act → World → Prop} (hgd : o.guard = none) (d s : Operand) (dT sT : TypeId)
    (ho : o.op = .call { callee := .builtin .copy, args := #[d, s], argTypes := #[dT, sT] }) (elem : TypeId) (hu : P.underlying dT = some (.slice elem)) (hsz : (P.info? elem).map (·.size) = some sz) (hz : 0 < sz)
    (dp sp : Option Addr) (dLen dCap sLen sCap : Nat) (hd : a.eval d = .slice dp dLen dCap) (hs : a.eval s = .slice sp sLen sCap)
    (g off : Nat) (cur : List Value) (t : TypeId) (hg : w.heap[g]? = some (.cells cur.toArray t (0, 0))) (cs : List Value) (hm : n = Nat.min sLen dLen) (hn : cs.length = n * sz)
    (hpos : 0 < cs.length → dp = some ⟨g, off, none⟩ ∧ ∃ ad, sp = some ad ∧ ∀ j v, cs[j]? = some v → w.cell? (ad.add j) = some v)
    (hfit : off + cs.length ≤ cur.length) (h1 : ∀ v ∈ cs, v.oneCell' = true) (B : Nat) (w0 : World) (hb : Below B w0 w) (hBg : B ≤ g)
    (h : ∀ w', Hid (w'.heap[g]? = some (.cells (splice cur off cs).toArray t (0, 0))) → Below B w0 w' → wpList P ops Q rest (a.put o.dst (goInt n)) w') :
    wpList P ops Q (o :: rest) a w := by
  refine wpList_plain hgd fun K hK => ?_
  by_cases h0 : n = 0
  · have hc0 : cs = [] := List.eq_nil_of_length_eq_zero (by rw [hn, h0, Nat.zero_mul])
    subst hc0
    have hrun := run_copy_noneN (P := P) sz w dT sT o.type elem dp sp dLen dCap sLen sCap hu hsz (by omega)
    unfold Oper.wp
    simp [execOp, ho, resolve, invoke, builtin, hd, hs, hrun, Result.andThen]
    have := h w (show _ = _ by simpa [splice] using hg) hb
    rw [h0] at this
    exact hK _ _ this
  · have hp : 0 < cs.length := by rw [hn]; exact Nat.mul_pos (by omega) hz
    obtain ⟨rfl, ad, rfl, hsrc⟩ := hpos hp
    have hrun := run_copy_rowN (P := P) sz w dT sT o.type elem g off dLen dCap ad sLen sCap cur.toArray t cs hu hsz hg (by rw [hn, hm]) hsrc (by simpa using hfit) h1
    rw [← hm] at hrun
    unfold Oper.wp
    simp [execOp, ho, resolve, invoke, builtin, hd, hs, hrun, Result.andThen]
    exact hK _ _ (h _ (show _ = _ by simpa [splice] using setRow_heap w g _ _ t _ hg) (below_setRow hb hBg _))
end
section
open Go
open Go.RowKit in
theorem step_copy_spliceN {P : Program} (sz n : Nat) {ops : Array Oper} {o : Oper} {a : Act} {w : World} {K : Act → World → Prop} {Q : Exit → Act → World → Prop} {E : Prop} (hgd : o.guard = none) (d s : Operand) (dT sT : TypeId)
    (ho : o.op = .call { callee := .builtin .copy, args := #[d, s], argTypes := #[dT, sT] }) (elem : TypeId) (hu : P.underlying dT = some (.slice elem)) (hsz : (P.info? elem).map (·.size) = some sz) (hz : 0 < sz)
    (dp sp : Option Addr) (dLen dCap sLen sCap : Nat) (hd : a.eval d = .slice dp dLen dCap) (hs : a.eval s = .slice sp sLen sCap)
    (g off : Nat) (cur : List Value) (t : TypeId) (hg : w.heap[g]? = some (.cells cur.toArray t (0, 0))) (cs : List Value) (hm : n = Nat.min sLen dLen) (hn : cs.length = n * sz)
    (hpos : 0 < cs.length → dp = some ⟨g, off, none⟩ ∧ ∃ ad, sp = some ad ∧ ∀ j v, cs[j]? = some v → w.cell? (ad.add j) = some v)
    (hfit : off + cs.length ≤ cur.length) (h1 : ∀ v ∈ cs, v.oneCell' = true) (B : Nat) (w0 : World) (hb : Below B w0 w) (hBg : B ≤ g)
    (h : ∀ w', Hid (w'.heap[g]? = some (.cells (splice cur off cs).toArray t (0, 0))) → Below B w0 w' → K (a.put o.dst (goInt n)) w') :
    if Region.wanted o (yielded ops a.tmps) = true then Oper.wp P o a w K Q else E := by
  have hw : Region.wanted o (yielded ops a.tmps) = true := by simp [Region.wanted, hgd]
  rw [if_pos hw]
  by_cases h0 : n = 0
  · have hc0 : cs = [] := List.eq_nil_of_length_eq_zero (by rw [hn, h0, Nat.zero_mul])
    subst hc0
    have hrun := run_copy_noneN (P := P) sz w dT sT o.type elem dp sp dLen dCap sLen sCap hu hsz (by omega)
    unfold Oper.wp
    simp [execOp, ho, resolve, invoke, builtin, hd, hs, hrun, Result.andThen]
    have := h w (show _ = _ by simpa [splice] using hg) hb
    rwa [h0] at this
  · have hp : 0 < cs.length := by rw [hn]; exact Nat.mul_pos (by omega) hz
    obtain ⟨rfl, ad, rfl, hsrc⟩ := hpos hp
    have hrun := run_copy_rowN (P := P) sz w dT sT o.type elem g off dLen dCap ad sLen sCap cur.toArray t cs hu hsz hg (by rw [hn, hm]) hsrc (by simpa using hfit) h1
    rw [← hm] at hrun
    unfold Oper.wp
    simp [execOp, ho, resolve, invoke, builtin, hd, hs, hrun, Result.andThen]
    exact h _ (show _ = _ by simpa [splice] using setRow_heap w g _ _ t _ hg) (below_setRow hb hBg _)
end
open Go.RowKit
set_option linter.unusedSimpArgs false
def wkZ : Value := .agg #[.int .i64 0, .int .i64 0, .string ⟨#[]⟩]
theorem Grow_zero (w : World) :
    Calls Try.prog 51 #[.slice none 0 0, .int .i64 0] w fun e w' => e = .returned (.slice none 0 0) ∧ w' = w := by
  go_enter Try.func51, Try.ntmps51
  go_wp2_with fail
  go_ret
  exact ⟨rfl, rfl⟩
set_option maxHeartbeats 400000 in
set_option maxRecDepth 100000 in
theorem Grow_any (n : Nat) (hn : n < 100000) (h0 : 0 < n) (w : World) :
    Calls Try.prog 51 #[.slice none 0 0, .int .i64 (n : Int)] w fun e w' => ∃ v', e = .returned v' ∧ WO w.heap.size w' v' [] ∧ Below w.heap.size w w' := by
  have k0 : (0 : Int) < (n : Int) := by omega
  obtain ⟨i0, hi, hz0, hz1, hz2⟩ := info_parts infoWk
  have hrun := fun ty => Lib.run_append_nil_zeros (P := Try.prog) w 22 3 ty 51 i0 wkZ .i64 .i64 Try.underlying22 Try.underlying3 hi hz0 n h0 (by omega) (by omega) (by rw [hz2]; omega)
  have hge := grownCap_ge w n 0 51
  have hcm := grownCap_le_maxLen w n 0 51 (by unfold maxLen; omega)
  obtain ⟨gc, hgc⟩ : ∃ gc, gc = grownCap w n 0 51 := ⟨_, rfl⟩
  rw [← hgc] at hrun hge hcm
  obtain ⟨C, hC⟩ : ∃ C, C = Builtin.zeroCells wkZ.cells n ++ Builtin.zeroCells wkZ.cells (gc - n) := ⟨_, rfl⟩
  have hCs : C.size = gc * 3 := by
    rw [hC, Array.size_append, size_zeroCells, size_zeroCells]
    have : wkZ.cells.size = 3 := rfl
    rw [this]
    omega
  rw [← hC] at hrun
  have hown : (w.drew.alloc (.cells C 51)).ownsRow w.heap.size 51 3 (.slice (some ⟨w.heap.size, 0, none⟩) 0 gc) 0 [] := World.ownsRow_made w.drew C gc (Nat.le_refl _) hcm hCs
  have hB : Below w.heap.size w (w.drew.alloc (.cells C 51)) := (Below.refl _ w).drew.alloc (Nat.le_refl _) _
  have Hr := Lib.hid hrun
  have Ho := Lib.hid hown
  have HB := Lib.hid hB
  clear hrun hown hB hCs hC hi hgc hge hcm
  go_enter Try.func51, Try.ntmps51
  go_wp2_with (at_builtin; refine Lib.wpList_append_run _ rfl _ _ 22 3 rfl _ _ rfl rfl _ _ (Hr.out _) ?_)
  go_ret
  exact ⟨_, rfl, Ho.out, HB.out⟩
theorem Grow_all (z : Int) (n : Nat) (hz : z = (n : Int)) (hn : n < 100000) (w : World) :
    Calls Try.prog 51 #[.slice none 0 0, .int .i64 z] w fun e w' => ∃ v', e = .returned v' ∧ WO w.heap.size w' v' [] ∧ Below w.heap.size w w' := by
  subst hz
  rcases Nat.eq_zero_or_pos n with h | h
  · subst h
    refine (Grow_zero w).mono ?_
    rintro e w' ⟨rfl, rfl⟩
    exact ⟨_, rfl, wo_nil _ _, Below.refl _ _⟩
  · exact Grow_any n hn h w
/-- Slices in a row, each of which reads as works. -/
def catL (Ls : List (List Wk)) : List Wk := Ls.flatten
theorem cat_next {Ls : List (List Wk)} {k : Nat} {W : List Wk} (h : Ls[k]? = some W) : catL (Ls.take (k + 1)) = catL (Ls.take k) ++ W := by
  unfold catL
  rw [List.take_add_one, h]
  simp
theorem cat_len {Ls : List (List Wk)} (k : Nat) : (catL (Ls.take k)).length ≤ (catL Ls).length := by
  unfold catL
  conv => rhs; rw [← List.take_append_drop k Ls]
  rw [List.flatten_append, List.length_append]
  omega
def SlsAt (w : World) (g : Nat) (vs : List Value) (Ls : List (List Wk)) : Prop := vs.length = Ls.length ∧ ∀ (k : Nat) W, Ls[k]? = some W → ∃ v, w.cell? ⟨g, k, none⟩ = some v ∧ WS w v W
theorem load_wks (ad : Addr) (v : Value) (w : World) (h : w.cell? ad = some v) : (Instr.loadAt 22 (.pointer (some ad))).run Try.prog w = .ok v w := by
  simp [Instr.loadAt, Instr.sureAddr, loadVar, go_sem, Try.isAgg22, h]
set_option maxHeartbeats 2000000 in
set_option maxRecDepth 100000 in
theorem Concat_any (g n : Nat) (Ls : List (List Wk)) (w : World) (hn : Ls.length = n) (hn2 : n ≤ 100) (hgs : g < w.heap.size) (hat : ∀ (k : Nat) W, Ls[k]? = some W → ∃ v, w.cell? ⟨g, k, none⟩ = some v ∧ WS w v W) (hl : (catL Ls).length < 50000) :
    Calls Try.prog 41 #[.slice (some ⟨g, 0, none⟩) n n] w fun e w' => ∃ v', e = .returned v' ∧ WO w.heap.size w' v' (catL Ls) ∧ Below w.heap.size w w' := by
  have HAT := Lib.hid hat
  have HN := Lib.hid hn
  have HL := Lib.hid hl
  have hG := Lib.hid (fun W => Grow_all ((catL Ls).length : Int) (catL Ls).length rfl (by omega) W)
  have Hg := Lib.hid hgs
  clear hat hn hl hgs
  go_enter Try.func41, Try.ntmps41
  go_wp2_with fail
  go_loopw [3, 11] (fun s i wr => ∃ k : Nat, k ≤ n ∧ i = .int .i64 k ∧ s = .int .i64 ((catL (Ls.take k)).length : Nat) ∧ w = wr) (fun _ i _ => n - (intOf i).toNat)
  case atStart => exact ⟨0, Nat.zero_le _, rfl, rfl, rfl⟩
  case round =>
    obtain ⟨k, hk, rfl, rfl, rfl⟩ := hrel
    have hcl := cat_len (Ls := Ls) k
    have hl2 := HL.out
    by_cases hkl : k < n
    · have k0 : (0 : Int) ≤ (k : Int) := by omega
      have k1 : (k : Int) < (n : Int) := by omega
      obtain ⟨W, hW⟩ : ∃ W, Ls[k]? = some W := ⟨_, List.getElem?_eq_getElem (by rw [HN.out]; exact hkl)⟩
      have hcl1 := cat_len (Ls := Ls) (k + 1)
      rw [cat_next hW, List.length_append] at hcl1
      have HNX := Lib.hid (cat_next hW)
      obtain ⟨v, hv, a, c, rfl, _, _, _, _⟩ := HAT.out k W hW
      obtain ⟨q, hq⟩ : ∃ q, q = (catL (Ls.take k)).length := ⟨_, rfl⟩
      obtain ⟨q2, hq2⟩ : ∃ q2, q2 = q + W.length := ⟨_, rfl⟩
      rw [← hq] at hcl hcl1 ⊢
      have HQ := Lib.hid hq
      have HQ2 := Lib.hid hq2
      have wq : IntKind.i64.wrap ((q : Int) + (W.length : Int)) = (q2 : Int) := by rw [show (q : Int) + (W.length : Int) = (q2 : Int) by omega]; exact IntWalk.i64_in _ (by omega)
      have q0 : ¬ (q2 : Int) < 0 := by omega
      have q9 : (q : Int) + (W.length : Int) = (q2 : Int) := by omega
      have HQ9 := Lib.hid q9
      have q00 : ¬ (q : Int) + (W.length : Int) < 0 := by omega
      clear hq hq2 hW q9
      go_wp2_with fail
      go_roundw
      case rel => exact ⟨k + 1, hkl, by go_num, by rw [HNX.out, List.length_append, ← HQ.out, HQ2.out], by first | trivial | rfl⟩
      case measure => (simp [intOf] <;> omega)
    · have k1 : ¬ (k : Int) < (n : Int) := by omega
      have hall : Ls.take k = Ls := List.take_of_length_le (by rw [HN.out]; omega)
      rw [hall]
      clear hall hcl
      go_wp2_with fail
      refine (hG.out w).mono ?_
      rintro e w1 ⟨v1, rfl, O1, B1⟩
      have HO1 := Lib.hid O1
      have HB1 := Lib.hid B1
      clear O1 B1 hG
      go_wp2_with fail
      go_loopw [6, 27] (fun s i wr => ∃ k : Nat, k ≤ n ∧ i = .int .i64 k ∧ WO w.heap.size wr s (catL (Ls.take k)) ∧ Below w.heap.size w wr) (fun _ i _ => n - (intOf i).toNat)
      case atStart => exact ⟨0, Nat.zero_le _, rfl, HO1.out, HB1.out⟩
      case round =>
        obtain ⟨j, hj, rfl, hown, hbw⟩ := hrel
        have HO := Lib.hid hown
        have HB := Lib.hid hbw
        clear hown hbw
        rename World => wj
        have hcl := cat_len (Ls := Ls) j
        by_cases hjl : j < n
        · have j0 : (0 : Int) ≤ (j : Int) := by omega
          have j1 : (j : Int) < (n : Int) := by omega
          obtain ⟨W, hW⟩ : ∃ W, Ls[j]? = some W := ⟨_, List.getElem?_eq_getElem (by rw [HN.out]; exact hjl)⟩
          have hcl1 := cat_len (Ls := Ls) (j + 1)
          rw [cat_next hW, List.length_append] at hcl1
          have HNX := Lib.hid (cat_next hW)
          obtain ⟨v, hv, hws⟩ := HAT.out j W hW
          have cv : wj.cell? ⟨g, j, none⟩ = some v := (HB.out.cell (p := ⟨g, j, none⟩) Hg.out).trans hv
          have HW := Lib.hid (hws.below HB.out)
          obtain ⟨a, c, rfl, _⟩ := hws
          clear hW hv
          go_wp2_with (at_builtin; refine app_wks (w0 := w) w.heap.size _ (catL (Ls.take j)) W rfl _ _ rfl rfl HO.out _ rfl HW.out (by omega) HB.out HB.out.size ?_; intro v2 w2 O2 B2)
          have HO2 := Lib.hid O2
          have HB2 := Lib.hid B2
          clear O2 B2
          go_wp2_with fail
          go_roundw
          case rel => exact ⟨j + 1, hjl, by go_num, by rw [HNX.out]; exact HO2.out, HB2.out⟩
          case measure => (simp [intOf] <;> omega)
        · have j1 : ¬ (j : Int) < (n : Int) := by omega
          have hall : Ls.take j = Ls := List.take_of_length_le (by rw [HN.out]; omega)
          rw [hall] at HO
          go_wp2_with fail
          go_ret
          exact ⟨_, rfl, HO.out, HB.out⟩
end Go.Proofs.Ytgbdccoimmkmeaa
