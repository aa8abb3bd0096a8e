/- The edges collected into a slice. -/
import Derived.Test.YtcjbjlepgdggpaaFI
import Derived.Maps.AppendAt
namespace Go.Proofs.Ytcjbjlepgdggpaa
open Go.RowKit Go.Shelf Go.Lib
attribute [local go_sem] Oper.semAt_some
/-- The cells of an edge. -/
def Ed.cs (e : Ed) : List Value := [.int .i64 e.fr, .int .i64 e.out, .int .i64 e.to, .int .i64 e.inn]
theorem infoEdge : (Try.prog.info? 76).map (fun i => (i.zero, i.size, i.bytes)) = some (some (.agg #[.int .i64 0, .int .i64 0, .int .i64 0, .int .i64 0]), 4, 32) := by kernel_rfl
theorem belowX_b {X B : Nat} {w : World} (hn : B ≤ w.heap.size) (W : World) (l : Nat) (o o' : Obj) (hl : w.heap.size ≤ l) (h : W.heap[l]? = some o) (hc : o.isCells = false) (_ : o.isWalk = false) : BelowX X B W (W.putObj l o') := by
  have g := grownBy_putObj' W l o'
  refine ⟨g.os, g.tape, g.output, g.size, fun k hk hx ht => g.block k hk ?_⟩
  intro e
  have e : k = l := by simpa using e
  subst e
  rcases ht with ht | ⟨cs, t, fr, _, h2⟩
  · omega
  · rw [h] at h2
    cases h2
    cases hc
theorem block_own {β : Type} (B : Nat) (f : β → Obj) (hf : ∀ s, (f s).isCells = true) : Own (fun s W => W.heap[B]? = some (f s)) := fun s X Y row hs hg hrow => by
  refine (hg.block B (Array.getElem?_eq_some_iff.1 hs).1 (fun e => ?_)).trans hs
  obtain ⟨o, ho, hc⟩ := hrow B e.symm
  rw [hs] at ho
  cases ho
  rw [hf] at hc
  cases hc
set_option maxRecDepth 100000 in
set_option maxHeartbeats 4000000 in
theorem appendEdges_any (Bs pr : Nat) (ws : List Wk) (a : Option Addr) (c : Nat) (hs : Small ws) (hpr : pr ≤ 24) (hc : ws.length ≤ c) (hcm : c ≤ maxLen) (w : World) (hBs : Bs < w.heap.size) (hc0 : w.cell? ⟨Bs, 0, none⟩ = some (.int .i64 (pr : Int))) (hc1 : w.cell? ⟨Bs, 1, none⟩ = some (.slice a ws.length c))
    (hW : ∀ (k : Nat) (x : Wk), ws[k]? = some x → ∃ b off, a = some ⟨b, off, none⟩ ∧ b < w.heap.size ∧ w.rangeAt b (off + k * 3) [.int .i64 x.kd, .int .i64 x.pl, .string x.wd] ∧ x.wd.size ≤ maxLen) :
    Calls Try.prog 90 #[.slice none 0 0, .func (.func 91) #[] #[.pointer (some ⟨Bs, 0, none⟩)]] w fun e w' => ∃ v, e = .returned v ∧ w'.ownsRow w.heap.size 76 4 v (edgesL pr ws).length ((edgesL pr ws).flatMap Ed.cs) ∧ (v = .slice none 0 0 ↔ edgesL pr ws = []) ∧ Below w.heap.size w w' := by
  refine (callsIn_wide (n := 9)).1 ?_
  refine callsIn_of_wp_marks Try.func90 rfl trivial ?_ rfl
  simp only [Try.ntmps90, List.size_toArray, List.length_cons, List.length_nil, Nat.reduceAdd, Nat.reduceSub, Array.replicate_succ, Array.replicate_zero, List.push_toArray, List.append_toArray, List.nil_append, List.cons_append]
  obtain ⟨i0, hi, hz0, hz1, hz2⟩ := info_parts infoEdge
  gi_wp2_with fail
  have bO := Boxed.new w 62 (.slice none 0 0)
  have hB0 := below_alloc w (.cells #[.slice none 0 0] 62)
  have hsz : (w.alloc (.cells #[.slice none 0 0] 62)).heap.size = w.heap.size + 1 := World.size_alloc _ _
  generalize w.alloc (.cells #[.slice none 0 0] 62) = W0 at *
  have hstop := edges_stops (9 - 1) (by omega) Bs (w.heap.size + 1) pr ws a c hs hpr hc hcm w.heap.size (by omega) (by omega) W0 (by omega) (by omega) (.inl (by omega)) ((hB0.cell (p := ⟨Bs, 0, none⟩) hBs).trans hc0) ((hB0.cell (p := ⟨Bs, 1, none⟩) hBs).trans hc1)
    (fun k x hx => by
      obtain ⟨b, off, e, hb, hr, hsz⟩ := hW k x hx
      exact ⟨b, off, e, by omega, by omega, fun j v hv => (hB0.cell (p := ⟨b, off + k * 3 + j, none⟩) hb).trans (hr j v hv), hsz⟩)
  refine wpIn_rangeFunc_ownH rfl (by omega) (gf := 91) (lb := #[.pointer (some ⟨Bs, 0, none⟩)]) rfl trivial (enters_of Try.func91 (by kernel_rfl) rfl)
    hstop (fun h k => BelowX.trans h k) (fun W l o o' h1 h2 h3 h4 => belowX_b (w := W0) (by omega) W l o o' h1 h2 h3 h4) (Below.refl _ _) (fun _ => rfl)
    (fun pre W => (∃ v, Boxed W w.heap.size 62 v ∧ W.ownsRow w.heap.size 76 4 v pre.length ((pre.map (·.1)).flatMap Ed.cs) ∧ (v = .slice none 0 0 ↔ pre = [])) ∧ Below w.heap.size w W)
    (fun _ _ _ => False)
    (OwnFrom.and (Own.from (holdsRow_own w.heap.size w.heap.size 62 76 4 (fun (pre : List (EdA pr ws)) => pre.length) (fun pre => (pre.map (·.1)).flatMap Ed.cs) (fun pre v => v = .slice none 0 0 ↔ pre = [])) _) (ownFrom_below (Nat.le_refl _) (by omega)))
    (fun _ _ _ _ _ hs _ _ => hs)
    ⟨⟨_, bO, World.ownsRow_nil _ _ _ _, by simp⟩, hB0⟩
    (fun x a' W => ∃ Bx, W.heap[Bx]? = some (.cells x.1.cs.toArray 76 (0, 0)) ∧ a' = { tmps := #[.slice none 0 0, .func (.func 91) #[] #[.pointer (some ⟨Bs, 0, none⟩)], .pointer (some ⟨w.heap.size, 0, none⟩), undef, .slice none 0 0, .pointer (some ⟨Bx, 0, none⟩), .func (.func 91) #[] #[.pointer (some ⟨Bs, 0, none⟩)], x.1.val, undef, undef, undef, undef, undef], defers := [] })
    (fun x a' _ X Y row hs hg hr => by obtain ⟨Bx, h2, h3⟩ := hs; exact ⟨Bx, block_own Bx (fun (_ : Unit) => .cells x.1.cs.toArray 76 (0, 0)) (fun _ => rfl) () X Y row h2 hg (fun r e => (hr r e).2), h3⟩)
    ?assign ?body ?done ?stop
  case assign =>
    rintro l pre x W K ⟨⟨v, hv, hrow, hnil⟩, hB⟩ hK
    unfold Ed.val
    gi_wp2
    exact hK _ _ ((KeepsOthers.alloc _ _).from _) (BelowX.of (below_alloc _ _)) ⟨⟨v, hv.alloc _, hrow.alloc _, hnil⟩, hB.alloc hB.size _⟩ ⟨W.heap.size, heap_alloc_new _ _, rfl⟩
  case body =>
    rintro l pre x a' W hl ⟨r, hr⟩ ⟨⟨v, hv, hrow, hnil⟩, hB⟩ ⟨Bx, hX, rfl⟩ hlt
    have hcc := hv.cell
    have x0 : W.cell? ⟨Bx, 0, none⟩ = some (.int .i64 x.1.fr) := cell_of_row W Bx 0 _ _ _ hX
    have x1 : W.cell? ⟨Bx, 1, none⟩ = some (.int .i64 x.1.out) := cell_of_row W Bx 1 _ _ _ hX
    have x2 : W.cell? ⟨Bx, 2, none⟩ = some (.int .i64 x.1.to) := cell_of_row W Bx 2 _ _ _ hX
    have x3 : W.cell? ⟨Bx, 3, none⟩ = some (.int .i64 x.1.inn) := cell_of_row W Bx 3 _ _ _ hX
    have hsl : Value.slice none 0 0 = Value.slice none 0 0 := rfl
    have nz : ∀ W' : World, ∀ j u, x.1.cs[j]? = some u → (W'.alloc (.cells x.1.cs.toArray 76)).cell? ((⟨W'.heap.size, 0, none⟩ : Addr).add j) = some u := fun W' j u hu => by
      rw [Addr.add_mid, Nat.zero_add, cell_of_row _ _ j _ _ _ (heap_alloc_new _ _), List.getElem?_toArray]
      exact hu
    have hown := hv
    unfold Ed.val
    gi_wp2_with (gi_at_builtin; refine wpListIn_append_own _ rfl _ _ 62 rfl w.heap.size 76 i0 _ 4 32 Try.underlying62 hi hz0 hz1 hz2 rfl (by decide) _ _ _ rfl (hrow.alloc _) ⟨W.heap.size, 0, none⟩ 1 1 x.1.cs rfl rfl (nz W) (by simp [Ed.cs, Value.oneCell']) (by unfold maxLen; omega) (by omega) (by have := hB.size; simp; omega) ?_; intro v' w1 hown' hgrow _; obtain ⟨g', cap', rfl⟩ := ownsRow_succ hown'; obtain ⟨hv1, hv2, hr2, hk2, hb2⟩ := hv.appended (by decide) hrow hB.size (Nat.le_refl _) hown' hgrow; have hc1 := hv1.cell; have hf1 := hv1.frozen)
    refine ⟨hk2.from _, ⟨hb2.os, hb2.tape, hb2.output, hb2.size, fun k hk hx ht => ?_⟩, ⟨_, hv2, ?_, by simp⟩, hB.trans hb2⟩
    · have hne : some k ≠ v.ownBlock := by
        rcases hrow.2 with ⟨rfl, _⟩ | ⟨g, cap, cur, rfl, hb, hgb, _⟩
        · simp [Value.ownBlock]
        · intro e
          obtain rfl : k = g := by simpa [Value.ownBlock] using e
          rcases ht with ht | ⟨cs, t, fr, h1, h2⟩
          · omega
          · rw [hgb] at h2
            injection h2 with h2
            injection h2 with _ h2 _
            exact h1 h2.symm
      rw [heap_setCell_other _ _ _ _ hx, hgrow.block k (by rw [World.size_alloc]; omega) hne]
      exact Below.heap_alloc W _ k hk
    · rw [List.length_append, List.map_append, List.flatMap_append]
      simpa using hr2
  case done =>
    rintro D ys W hD hys ⟨⟨v, hv, hrow, hnil⟩, hB⟩ hK
    have hcc := hv.cell
    gi_wp2
    refine ⟨by simp, .inl ⟨_, _, rfl, run_takeDeferred hK, ?_⟩⟩
    have hl : ys.length = (edgesL pr ws).length := by rw [← hys, List.length_map]
    refine ⟨_, results_tmp rfl _ _ _, v, rfl, ?_, ?_, hB.trans (belowK_b (w := w) (Nat.le_refl _) W D _ _ (by omega) hK rfl rfl)⟩
    · rw [← hl, ← hys]
      exact ownsRow_putObj hrow _ hK rfl
    · rw [hnil, ← hys, List.map_eq_nil_iff]
  case stop =>
    rintro D c pre W _ _ h _
    exact h.elim
end Go.Proofs.Ytcjbjlepgdggpaa
