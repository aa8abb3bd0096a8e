/- The program's Inverse walked: the library's backward iterator over a slice of ints. -/
import Derived.RangeFuncNested
import Derived.RangeFuncBound
import Derived.RangeFuncCalls
import Derived.RangeFuncLeaves
import Derived.RangeFuncBox
import Derived.Shelf.Abstract
import Derived.Shelf.RegionOpen
import Derived.WalkKit
import Derived.OwnWalkIn
import Derived.TacticsInMore
import Derived.LoopNIn
import Derived.LoopIn
import Derived.Test.YtnfppebcpagjpaaCH
namespace Go.Proofs.Ytnfppebcpagjpaa
open Go.RowKit Go.Shelf Go.Lib
attribute [local go_sem] Oper.semAt_some
/-- What the iterator hands out: an index and a number. -/
abbrev BkA : Type := { x : Nat × Int // x.1 < 1000 ∧ -100000 < x.2 ∧ x.2 < 100000 }
/-- What a round must keep: whatever lay below n₀, and the box T. -/
def KT (T : Nat) (t : TypeId) (sv : Value) (n₀ : Nat) (W W' : World) : Prop := Below n₀ W W' ∧ (Boxed W T t sv → Boxed W' T t sv)
theorem KT.trans {T n₀ : Nat} {t : TypeId} {sv : Value} {A B C : World} (h : KT T t sv n₀ A B) (k : KT T t sv n₀ B C) : KT T t sv n₀ A C := ⟨h.1.trans k.1, fun b => k.2 (h.2 b)⟩
theorem KT.put {T n₀ : Nat} {t : TypeId} {sv : Value} {w : World} (hn : n₀ ≤ w.heap.size) (hT : T < w.heap.size) (W : World) (l : Nat) (o o' : Obj) (hl : w.heap.size ≤ l) (h : W.heap[l]? = some o) (h1 : o.isCells = false) (h2 : o.isWalk = false) : KT T t sv n₀ W (W.putObj l o') :=
  ⟨belowK_b hn W l o o' hl h h1 h2, fun b => b.kept (grownBy_putObj' W l o') (fun e => by cases e; omega)⟩
set_option maxRecDepth 100000 in
set_option maxHeartbeats 1000000 in
theorem back1_in (F : Fence) (n : Nat) (hF : F.fn 89) (hro : F.round = none) (hn : 1 ≤ n) (l Bs n₀ : Nat) (sa : Option Addr) (cap : Nat) (zs : List Int) (hl : zs.length ≤ 500) (hz : ∀ z ∈ zs, -100000 < z ∧ z < 100000) (J Jx : List BkA → World → Prop)
    (hY : ∀ pre (x : BkA) W, J pre W → pre.length < zs.length → YieldAt F (n - 1) Try.prog l #[.int .i64 (x.1.1 : Int), .int .i64 x.1.2] W fun e W' =>
      (e = .returned (.bool true) ∧ J (pre ++ [x]) W' ∧ KT Bs 22 (.slice sa zs.length cap) n₀ W W') ∨ (e = .returned (.bool false) ∧ Jx (pre ++ [x]) W'))
    (W : World) (hc : Boxed W Bs 22 (.slice sa zs.length cap)) (hcs : ∀ k z, zs[k]? = some z → ∃ b off, sa = some ⟨b, off, none⟩ ∧ b < n₀ ∧ W.cell? ⟨b, off + k, none⟩ = some (.int .i64 z)) (h0 : J [] W) :
    CallsIn F n Try.prog 89 #[.func (.yield l) #[] #[], .pointer (some ⟨Bs, 0, none⟩)] W fun e W' => (∃ v, e = .returned v) ∧
      ((∃ ys : List BkA, ys.map (·.1.2) = zs.reverse ∧ J ys W') ∨ (∃ pre, Jx pre W')) := by
  have Hcs := Lib.hid hcs
  clear hcs
  have hcb := hc.cell
  refine callsIn_of_wp Try.func89 rfl hF ?_ hro
  simp only [Try.ntmps89, List.size_toArray, List.length_cons, List.length_nil, Nat.reduceAdd, Nat.reduceSub, Array.replicate_succ, Array.replicate_zero, List.push_toArray, List.append_toArray, List.nil_append, List.cons_append]
  gi_wp2
  gi_loopw [3] (fun i wr => ∃ (k : Nat) (pre : List BkA), k ≤ zs.length ∧ pre.length = k ∧ i = .int .i64 ((zs.length : Int) - 1 - (k : Int)) ∧ pre.map (·.1.2) = zs.reverse.take k ∧ J pre wr ∧ KT Bs 22 (.slice sa zs.length cap) n₀ W wr)
    (fun i _ => (intOf i + 1).toNat)
  case atStart => exact ⟨0, [], Nat.zero_le _, rfl, by simp, rfl, h0, Below.refl _ _, fun b => b⟩
  case round =>
    obtain ⟨k, pre, hk, hpl, rfl, hpre, hJs, hnx⟩ := hrel
    have Hpre := Lib.hid hpre
    clear hpre
    by_cases hlt : k < zs.length
    · obtain ⟨p, hp⟩ : ∃ p, zs.length - 1 - k = p := ⟨_, rfl⟩
      have hpi : (zs.length : Int) - 1 - (k : Int) = (p : Int) := by omega
      have hpz : p < zs.length := by omega
      obtain ⟨x, hx⟩ : ∃ x, zs[p]? = some x := ⟨_, List.getElem?_eq_getElem hpz⟩
      have hxz := hz x (List.mem_of_getElem? hx)
      obtain ⟨b, off, rfl, hb, hcp⟩ := Hcs.out p x hx
      have hcx := (hnx.1.cell (p := ⟨b, off + p, none⟩) hb).trans hcp
      have hcb := (hnx.2 hc).cell
      obtain ⟨fn, tmps, assign, body, hy, hR⟩ := hY pre ⟨(p, x), by simp only; omega, hxz⟩ wr hJs (by omega)
      dsimp only at hy
      have hnext : (pre ++ [(⟨(p, x), by simp only; omega, hxz⟩ : BkA)]).map (·.1.2) = zs.reverse.take (k + 1) := by
        rw [List.map_append, Hpre.out, take_more (z := x) (by rw [List.getElem?_reverse hlt, hp]; exact hx)]
        rfl
      have Hnext := Lib.hid hnext
      rw [hpi]
      have k0 : (0 : Int) ≤ (p : Int) := by omega
      have k1 : (p : Int) < (zs.length : Int) := by omega
      clear hnext hcp hx
      gi_wp2
      refine hR.mono ?_
      rintro e W3 (⟨rfl, hJ3, hk3⟩ | ⟨rfl, hJx3⟩)
      · gi_wp2
        go_roundw
        case rel => exact ⟨k + 1, _, hlt, by simp [hpl], by congr 1; omega, Hnext.out, hJ3, hnx.trans hk3⟩
        case measure => (simp [intOf] <;> omega)
      · gi_wp2
        refine bodyPost_ret (results_none rfl _ _ _) rfl ?_
        exact ⟨⟨_, rfl⟩, .inr ⟨_, hJx3⟩⟩
    · have hkn : k = zs.length := by omega
      have e : (zs.length : Int) - 1 - (k : Int) = -1 := by omega
      rw [e]
      have hf : pre.map (·.1.2) = zs.reverse := by rw [Hpre.out, List.take_of_length_le (by simp; omega)]
      have HF := Lib.hid hf
      clear hf hkn
      gi_wp2
      go_end0
      exact ⟨⟨_, rfl⟩, .inl ⟨_, HF.out, hJs⟩⟩
theorem back_stops (F : Fence) (n : Nat) (hF : F.fn 89) (hro : F.round = none) (hn : 1 ≤ n) (Bs n₀ : Nat) (sa : Option Addr) (cap : Nat) (zs : List Int) (hl : zs.length ≤ 500) (hz : ∀ z ∈ zs, -100000 < z ∧ z < 100000) (w : World) (hn₀ : n₀ ≤ w.heap.size)
    (hc : Boxed w Bs 22 (.slice sa zs.length cap)) (hcs : ∀ k z, zs[k]? = some z → ∃ b off, sa = some ⟨b, off, none⟩ ∧ b < n₀ ∧ w.cell? ⟨b, off + k, none⟩ = some (.int .i64 z)) :
    SeqStopsK F n Try.prog 89 #[.pointer (some ⟨Bs, 0, none⟩)] (fun x : BkA => #[Value.int .i64 (x.1.1 : Int), Value.int .i64 x.1.2]) (KT Bs 22 (.slice sa zs.length cap) n₀) (fun ys => ys.map (·.1.2) = zs.reverse) (fun _ => True) zs.length w := fun l J Jx W hW _ _ hY h0 => by
  have hWn : Below n₀ w W := hW.mono hn₀
  refine (back1_in F n hF hro hn l Bs n₀ sa cap zs hl hz J Jx hY W ((hW.block Bs hc.lt).trans hc) (fun k z h => ?_) h0).mono ?_
  · obtain ⟨b, off, e, hb, hcp⟩ := hcs k z h
    exact ⟨b, off, e, hb, (hWn.cell (p := ⟨b, off + k, none⟩) hb).trans hcp⟩
  · rintro e W' ⟨he, ⟨ys, h1, h2⟩ | ⟨pre, h2⟩⟩
    · exact ⟨he, .inl ⟨ys, h1, h2⟩⟩
    · exact ⟨he, .inr ⟨pre, trivial, h2⟩⟩
set_option maxHeartbeats 400000 in
theorem back_any (a : Option Addr) (len cap : Nat) (w : World) :
    Calls Try.prog 75 #[.slice a len cap] w fun e w' => e = .returned (.func (.func 89) #[] #[.pointer (some ⟨w.heap.size, 0, none⟩)]) ∧ w' = w.alloc (.cells #[.slice a len cap] 22) := by
  go_enter Try.func75, Try.ntmps75
  go_wp2_with fail
  go_ret
  exact ⟨rfl, rfl⟩
set_option maxRecDepth 100000 in
set_option maxHeartbeats 2000000 in
theorem inverse_any (ws : List Int) (v : Value) (w : World) (hv : IS w v ws) (hz : ∀ z ∈ ws, -100000 < z ∧ z < 100000) (hl : ws.length ≤ 500) :
    Calls Try.prog 48 #[v] w fun e w' => ∃ v', e = .returned v' ∧ w'.ownsRow w.heap.size 3 1 v' (inv ws).length ((inv ws).map (Value.int .i64)) ∧ Below w.heap.size w w' := by
  obtain ⟨sa, sc, rfl, _, _, _, hI⟩ := hv
  have hmk := fun W => mk_ints ws.length (by omega) W
  have HI := Lib.hid hI
  have Hz := Lib.hid hz
  clear hI hz
  refine (callsIn_wide (n := 9)).1 ?_
  refine callsIn_of_wp_marks Try.func48 rfl trivial ?_ rfl
  simp only [Try.ntmps48, List.size_toArray, List.length_cons, List.length_nil, Nat.reduceAdd, Nat.reduceSub, Array.replicate_succ, Array.replicate_zero, List.push_toArray, List.append_toArray, List.nil_append, List.cons_append]
  gi_wp2_with fail
  refine ⟨trivial, ?_⟩
  refine (callsIn_wide.2 (back_any _ _ _ _)).mono ?_
  rintro e w' ⟨rfl, rfl⟩
  gi_wp2_with fail
  obtain ⟨i0, hi, hz0, hz1, hz2⟩ := info_parts infoInt
  have hsz : ((((w.alloc (.cells (madeCells #[.int .i64 0] ws.length) 3)).alloc (.cells #[.slice (some ⟨w.heap.size, 0, none⟩) 0 ws.length] 22)).alloc (.cells #[.slice sa ws.length sc] 22))).heap.size = w.heap.size + 1 + 1 + 1 := by simp
  have hB0 : Below w.heap.size w ((((w.alloc (.cells (madeCells #[.int .i64 0] ws.length) 3)).alloc (.cells #[.slice (some ⟨w.heap.size, 0, none⟩) 0 ws.length] 22)).alloc (.cells #[.slice sa ws.length sc] 22))) :=
    (((Below.refl _ w).alloc (Nat.le_refl _) _).alloc (by simp) _).alloc (by simp; omega) _
  have hrow0 := ((own_mk ws.length w.heap.size (by omega) w (Nat.le_refl _)).alloc (.cells #[.slice (some ⟨w.heap.size, 0, none⟩) 0 ws.length] 22)).alloc (.cells #[.slice sa ws.length sc] 22)
  have bO := (Boxed.new (w.alloc (.cells (madeCells #[.int .i64 0] ws.length) 3)) 22 (.slice (some ⟨w.heap.size, 0, none⟩) 0 ws.length)).alloc (.cells #[.slice sa ws.length sc] 22)
  have bN := Boxed.new ((w.alloc (.cells (madeCells #[.int .i64 0] ws.length) 3)).alloc (.cells #[.slice (some ⟨w.heap.size, 0, none⟩) 0 ws.length] 22)) 22 (.slice sa ws.length sc)
  simp only [World.size_alloc] at bO bN
  clear hmk
  generalize ((((w.alloc (.cells (madeCells #[.int .i64 0] ws.length) 3)).alloc (.cells #[.slice (some ⟨w.heap.size, 0, none⟩) 0 ws.length] 22)).alloc (.cells #[.slice sa ws.length sc] 22))) = W0 at *
  refine wpIn_rangeFunc_ownG rfl (by omega) (gf := 89) (lb := #[.pointer (some ⟨w.heap.size + 1 + 1, 0, none⟩)]) rfl trivial (enters_of Try.func89 (by kernel_rfl) rfl)
    (back_stops _ _ trivial rfl (by omega) (w.heap.size + 1 + 1) w.heap.size sa sc ws hl Hz.out W0 (by omega) bN (fun k z h => by
      obtain ⟨b, off, e, hb, hcp⟩ := HI.out k z h
      exact ⟨b, off, e, hb, (hB0.cell (p := ⟨b, off + k, none⟩) hb).trans hcp⟩))
    (fun h k => KT.trans h k) (fun W l o o' h1 h2 h3 h4 => KT.put (w := W0) (by omega) (by omega) W l o o' h1 h2 h3 h4) (Below.refl _ _) (fun _ => rfl)
    (fun (pre : List BkA) W => ((∃ v, Boxed W (w.heap.size + 1) 22 v ∧ W.ownsRow w.heap.size 3 1 v pre.length (pre.map fun x => Value.int .i64 (-x.1.2)) ∧ True) ∧ Boxed W (w.heap.size + 1 + 1) 22 (.slice sa ws.length sc)) ∧ Below w.heap.size w W)
    (fun _ _ _ => False)
    (OwnFrom.and (OwnFrom.and (Own.from (holdsRow_own w.heap.size (w.heap.size + 1) 22 3 1 (fun (pre : List BkA) => pre.length) (fun (pre : List BkA) => pre.map fun x => Value.int .i64 (-x.1.2)) (fun _ _ => True)) _) (Own.from (boxed_own _ _ (fun _ => .slice sa ws.length sc)) _)) (ownFrom_below (Nat.le_refl _) (by omega)))
    (fun _ _ _ _ _ hs _ _ => hs)
    ⟨⟨⟨_, bO, hrow0, trivial⟩, bN⟩, hB0⟩
    (fun x => { tmps := #[.slice sa ws.length sc, undef, .slice none 0 0, .pointer (some ⟨w.heap.size + 1, 0, none⟩), undef, .int .i64 x.1.2, .slice sa ws.length sc, .int .i64 (ws.length : Int), .slice (some ⟨w.heap.size, 0, none⟩) 0 ws.length, .slice sa ws.length sc, .func (.func 89) #[] #[.pointer (some ⟨w.heap.size + 1 + 1, 0, none⟩)], .int .i64 (x.1.1 : Int), .int .i64 x.1.2, undef, undef, undef, undef, undef, undef], defers := [] }) ?assign ?body ?done ?stop
  case assign =>
    intro l x W K hK
    gi_wp2_with fail
    exact hK
  case body =>
    rintro l pre ⟨⟨p, x⟩, hp, hx⟩ W ⟨⟨⟨v, hv, hrow, -⟩, hN⟩, hB⟩ hlt
    have hc := hv.cell
    dsimp only at hx
    have hwn : IntKind.i64.wrap (-x) = -x := IntWalk.i64_in _ (by omega)
    have HN := Lib.hid hN
    have Hrow := Lib.hid hrow
    have HB := Lib.hid hB
    have hpl : pre.length < 500 := by omega
    clear hN hrow hB bO bN hrow0 hB0
    gi_wp2_with (gi_at_builtin; refine wpListIn_append_own _ rfl _ _ 22 rfl w.heap.size 3 i0 (.int .i64 0) 1 8 Try.underlying22 hi hz0 hz1 hz2 rfl (by decide) _ _ _ rfl (Hrow.out.alloc _) ⟨W.heap.size, 0, none⟩ 1 1 [.int .i64 (-x)] rfl rfl (cell_one_new _ _ _) (by simp [Value.oneCell']) (by unfold maxLen; omega) (by omega) (by have := HB.out.size; simp; omega) ?_; intro v' w1 hown' hgrow _; obtain ⟨g', cap', rfl⟩ := ownsRow_succ hown'; obtain ⟨hv1, hv2, hr2, hk2, hb2⟩ := hv.appended (by decide) Hrow.out HB.out.size (Nat.le_succ _) hown' hgrow; have hc1 := hv1.cell; have hf1 := hv1.frozen)
    have hkeep : ∀ {u : Value}, Boxed W (w.heap.size + 1 + 1) 22 u → Boxed (w1.setCell ⟨w.heap.size + 1, 0, none⟩ (.slice (some ⟨g', 0, none⟩) (pre.length + 1) cap')) (w.heap.size + 1 + 1) 22 u :=
      fun b => ((b.alloc _).kept hgrow (b.not_row (by decide) Hrow.out)).other (by omega) _
    exact ⟨hk2.from _, ⟨hb2, fun b => hkeep b⟩, ⟨⟨_, hv2, by rw [List.map_append, List.length_append]; exact hr2⟩, hkeep HN.out⟩, HB.out.trans hb2⟩
  case done =>
    rintro D ys W hD hys ⟨⟨⟨v, hv, hrow, -⟩, -⟩, hB⟩ hK
    have hc := hv.cell
    have e : ys.map (fun x => Value.int .i64 (-x.1.2)) = (inv ws).map (Value.int .i64) := by
      have : ys.map (fun x => Value.int .i64 (-x.1.2)) = ((ys.map (·.1.2)).map fun z => -z).map (Value.int .i64) := by simp
      rw [this, hys, List.map_reverse]
      rfl
    have el : ys.length = (inv ws).length := by have := congrArg List.length hys; simp at this; rw [inv_len]; exact this
    rw [e, el] at hrow
    have Hrow := Lib.hid hrow
    clear hrow e el hys
    gi_wp2_with fail
    refine ⟨by simp, .inl ⟨_, _, rfl, run_takeDeferred hK, ?_⟩⟩
    exact ⟨_, results_tmp rfl _ _ _, v, rfl, ownsRow_putObj Hrow.out _ hK rfl, hB.trans (belowK_b (w := w) (Nat.le_refl _) W D _ _ (by omega) hK rfl rfl)⟩
  case stop =>
    rintro D c pre W _ _ h _
    exact h.elim
end Go.Proofs.Ytnfppebcpagjpaa
