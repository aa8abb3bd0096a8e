/- The steps between works, as an iterator. -/
import Derived.Test.YtcjbjlepgdggpaaFM
namespace Go.Proofs.Ytcjbjlepgdggpaa
open Go.RowKit Go.Shelf Go.Lib
attribute [local go_sem] Oper.semAt_some
theorem steps_any (pr : Int) (u : Value) (w : World) :
    Calls Try.prog 87 #[.agg #[.int .i64 pr, u]] w fun e w' => e = .returned (.func (.func 95) #[] #[.pointer (some ⟨w.heap.size, 0, none⟩)]) ∧ w' = w.alloc (.cells #[.int .i64 pr, u] 24) := by
  go_enter Try.func87, Try.ntmps87
  go_wp2_with fail
  go_ret
  exact ⟨rfl, rfl⟩
/-- A step from one work to another one. -/
def isStep (e : Ed) : Bool := !decide (e.fr = -1) && !decide (e.to = -1)
def stepsL (pr : Nat) (W : List Wk) : List Ed := (edgesL pr W).filter isStep
abbrev StA (pr : Nat) (W : List Wk) := { e : Ed // ((0 ≤ e.fr ∧ e.fr < (W.length : Int)) ∧ (0 ≤ e.to ∧ e.to < (W.length : Int))) ∧ e ∈ stepsL pr W }
theorem round_in {n n' l l' : Nat} {f : FuncId} {tmps : Array Value} {assign body : Code} {w : World} {R : Ending → World → Prop} (h : RoundIn Fence.wide n Try.prog l f tmps assign body w R) : RoundIn (Fence.wide.inRound l') n' Try.prog l f tmps assign body w R :=
  ⟨h.1, fun c cs _ => h.2 c cs (fun d e => by cases e)⟩
set_option maxRecDepth 100000 in
set_option maxHeartbeats 4000000 in
theorem steps1_own (n : Nat) (hn : 2 ≤ n) (Bs n₀ pr : Nat) (ws : List Wk) (a : Option Addr) (c : Nat) (hs : Small ws) (hpr : pr ≤ 24) (hc : ws.length ≤ c) (hcm : c ≤ maxLen) (X : Nat) (hXn : X < n₀)
    (w : World) (hn₀ : n₀ ≤ w.heap.size) (hBz : Bs < w.heap.size) (hc0 : w.cell? ⟨Bs, 0, none⟩ = some (.int .i64 (pr : Int))) (hc1 : w.cell? ⟨Bs, 1, none⟩ = some (.slice a ws.length c))
    (hW : ∀ (k : Nat) (x : Wk), ws[k]? = some x → ∃ b off, a = some ⟨b, off, none⟩ ∧ b < n₀ ∧ b ≠ X ∧ w.rangeAt b (off + k * 3) [.int .i64 x.kd, .int .i64 x.pl, .string x.wd] ∧ x.wd.size ≤ maxLen) :
    SeqOwn n 95 #[.pointer (some ⟨Bs, 0, none⟩)] (fun x : StA pr ws => #[x.1.val]) (BelowX X n₀) (fun ys => ys.map (·.1) = stepsL pr ws) 1000 w := fun l J Jx W hWb hJ hJx hY h0 => by
  have HY := Lib.hid hY
  have HJ := Lib.hid hJ
  have HJx := Lib.hid hJx
  have hBW : Bs < W.heap.size := Nat.lt_of_lt_of_le hBz hWb.size
  have B0 := below_alloc W (.cells #[.func (.yield l) #[] #[]] 103)
  have d0 := (B0.cell (p := ⟨Bs, 0, none⟩) hBW).trans ((hWb.cell (p := ⟨Bs, 0, none⟩) hBz).trans hc0)
  have d1 := (B0.cell (p := ⟨Bs, 1, none⟩) hBW).trans ((hWb.cell (p := ⟨Bs, 1, none⟩) hBz).trans hc1)
  have bY := Boxed.new W 103 (.func (.yield l) #[] #[])
  clear hY hJ hJx
  refine callsIn_of_wp_marks Try.func95 rfl trivial ?_ rfl
  simp only [Try.ntmps95, List.size_toArray, List.length_cons, List.length_nil, Nat.reduceAdd, Nat.reduceSub, Array.replicate_succ, Array.replicate_zero, List.push_toArray, List.append_toArray, List.nil_append, List.cons_append]
  gi_wp2_with fail
  refine ⟨trivial, (fun _ => by omega), ?_⟩
  refine (callsIn_wide.2 (edges_any _ _ _)).mono ?_
  rintro e w2 ⟨rfl, hw2⟩
  have hB1 : Below W.heap.size W (W.alloc (.cells #[.func (.yield l) #[] #[]] 103)) := B0
  have hz1 : (W.alloc (.cells #[.func (.yield l) #[] #[]] 103)).heap.size = W.heap.size + 1 := World.size_alloc _ _
  generalize W.alloc (.cells #[.func (.yield l) #[] #[]] 103) = W1 at *
  have B2 := below_alloc W1 (.cells #[.int .i64 (pr : Int), .slice a ws.length c] 24)
  have hz := heap_alloc_new W1 (.cells #[.int .i64 (pr : Int), .slice a ws.length c] 24)
  have hz2 : (W1.alloc (.cells #[.int .i64 (pr : Int), .slice a ws.length c] 24)).heap.size = W1.heap.size + 1 := World.size_alloc _ _
  have bY2 := bY.alloc (.cells #[.int .i64 (pr : Int), .slice a ws.length c] 24)
  rw [← hw2] at B2 hz hz2 bY2
  clear hw2 bY d0 d1 B0
  have HB : Below W.heap.size W w2 := bon hB1 B2
  have HWw := hWb.trans (HB.mono hWb.size)
  have hsz2 := hWb.size
  have e0 : w2.cell? ⟨W1.heap.size, 0, none⟩ = some (.int .i64 (pr : Int)) := cell_of_row w2 _ 0 _ _ _ hz
  have e1 : w2.cell? ⟨W1.heap.size, 1, none⟩ = some (.slice a ws.length c) := cell_of_row w2 _ 1 _ _ _ hz
  have hstop := edges_stops (n - 1) (by omega) W1.heap.size n₀ pr ws a c hs hpr hc hcm X (by omega) hXn w2 (by omega) (by omega) (.inr ⟨_, _, _, by decide, hz⟩) e0 e1
    (fun k x hx => by
      obtain ⟨b, off, e, hb, hbX, hr, hsz⟩ := hW k x hx
      exact ⟨b, off, e, hb, hbX, fun j v hv => (HWw.cell (p := ⟨b, off + k * 3 + j, none⟩) (Nat.lt_of_lt_of_le hb hn₀)).trans (hr j v hv), hsz⟩)
  rw [hz1] at hstop
  gi_wp2_with fail
  refine wpIn_rangeFunc_ownH rfl (by omega) (gf := 91) (lb := #[.pointer (some ⟨W.heap.size + 1, 0, none⟩)]) rfl trivial (enters_of Try.func91 (by kernel_rfl) rfl)
    hstop (fun h k => BelowX.trans h k) (fun V l o o' h1 h2 h3 h4 => belowX_b (w := w2) (by omega) V l o o' h1 h2 h3 h4) (Below.refl _ _) (fun _ => rfl)
    (fun pre V => (∃ pre2 : List (StA pr ws), pre2.length ≤ pre.length ∧ pre2.map (·.1) = (pre.map (·.1)).filter isStep ∧ J pre2 V) ∧ Boxed V W.heap.size 103 (.func (.yield l) #[] #[]))
    (fun c _ V => c = .ret ∧ ∃ pre2, Jx pre2 V)
    (fun s A B row hh hg hr => ⟨by obtain ⟨p2, g1, g2, g3⟩ := hh.1; exact ⟨p2, g1, g2, HJ.out p2 A B row g3 hg (fun r e => ⟨by have := (hr r e).1; omega, (hr r e).2⟩)⟩, boxed_own _ _ (fun (_ : Unit) => Value.func (.yield l) #[] #[]) () A B row hh.2 hg (fun r e => (hr r e).2)⟩)
    (fun c s A B row hh hg hr => ⟨hh.1, by obtain ⟨p2, g3⟩ := hh.2; exact ⟨p2, HJx.out p2 A B row g3 hg (fun r e => ⟨by have := (hr r e).1; omega, (hr r e).2⟩)⟩⟩)
    ⟨⟨[], Nat.le_refl _, rfl, HJ.out [] W w2 none h0 ⟨HB.os, HB.tape, HB.output, HB.size, fun k hk _ => HB.block k hk⟩ (fun r e => by cases e)⟩, bY2⟩
    (fun x a' V => ∃ Bx, V.heap[Bx]? = some (.cells x.1.cs.toArray 76 (0, 0)) ∧ a' = { tmps := #[.func (.yield l) #[] #[], .pointer (some ⟨Bs, 0, none⟩), .pointer (some ⟨W.heap.size, 0, none⟩), .pointer (some ⟨Bx, 0, none⟩), .agg #[.int .i64 (pr : Int), .slice a ws.length c], .func (.func 91) #[] #[.pointer (some ⟨W.heap.size + 1, 0, none⟩)], x.1.val, undef, undef, undef, undef, undef, undef, undef, undef, undef, undef, undef, undef, undef, undef], defers := [] })
    (fun x a' _ A B row hh hg hr => by obtain ⟨Bx, h2, h3⟩ := hh; exact ⟨Bx, block_own Bx (fun (_ : Unit) => .cells x.1.cs.toArray 76 (0, 0)) (fun _ => rfl) () A B row h2 hg (fun r e => (hr r e).2), h3⟩)
    ?assign ?body ?done ?stop
  case assign =>
    rintro l2 pre x V K ⟨⟨p2, g1, g2, g3⟩, bV⟩ hK
    unfold Ed.val
    gi_wp2
    exact hK _ _ ((KeepsOthers.alloc _ _).from _) (BelowX.of (below_alloc _ _)) ⟨⟨p2, g1, g2, HJ.out p2 V _ none g3 (World.grownBy_alloc V _ none) (fun r e => by cases e)⟩, bV.alloc _⟩ ⟨V.heap.size, heap_alloc_new _ _, rfl⟩
  case body =>
    rintro l2 pre x a' V hl ⟨r, hr⟩ ⟨⟨p2, g1, g2, g3⟩, bV⟩ ⟨Bx, hX, rfl⟩ hlt
    have hcc := bV.cell
    have x0 : V.cell? ⟨Bx, 0, none⟩ = some (.int .i64 x.1.fr) := cell_of_row V Bx 0 _ _ _ hX
    have x1 : V.cell? ⟨Bx, 1, none⟩ = some (.int .i64 x.1.out) := cell_of_row V Bx 1 _ _ _ hX
    have x2 : V.cell? ⟨Bx, 2, none⟩ = some (.int .i64 x.1.to) := cell_of_row V Bx 2 _ _ _ hX
    have x3 : V.cell? ⟨Bx, 3, none⟩ = some (.int .i64 x.1.inn) := cell_of_row V Bx 3 _ _ _ hX
    obtain ⟨⟨h1a, h1b⟩, h2a, h2b⟩ := x.2.1
    have hno : isStep x.1 = false → ∀ a2 : Act, ownPostG w2.heap.size (BelowX X n₀)
        (fun pre V => (∃ pre2 : List (StA pr ws), pre2.length ≤ pre.length ∧ pre2.map (·.1) = (pre.map (·.1)).filter isStep ∧ J pre2 V) ∧ Boxed V W.heap.size 103 (.func (.yield l) #[] #[]))
        (fun c _ V => c = .ret ∧ ∃ pre2, Jx pre2 V) (pre ++ [x]) V .normal a2 V := fun h a2 =>
      ⟨KeepsFrom.refl _ _, BelowX.of (Below.refl _ _), ⟨p2, by simp; omega, by rw [List.map_append, List.filter_append, g2]; simp [h], g3⟩, bV⟩
    unfold Ed.val
    by_cases hf : x.1.fr = -1
    · have Hno := Lib.hid (hno (by unfold isStep; rw [hf]; rfl))
      have hf' : (x.1.fr != -1) = false := by rw [hf]; rfl
      clear hno
      gi_wp2_with fail
      all_goals
        refine ⟨(fun f h => by cases h), ?_⟩
        gi_wp2_with fail
        exact Hno.out _
    · by_cases ht : x.1.to = -1
      · have Hno := Lib.hid (hno (by unfold isStep; rw [ht]; simp))
        have hf' : (x.1.fr != -1) = true := by rw [bne_iff_ne]; exact hf
        have ht' : (x.1.to != -1) = false := by rw [ht]; rfl
        clear hno
        gi_wp2_with fail
        all_goals
          refine ⟨(fun f h => by cases h), ?_⟩
          gi_wp2_with fail
          exact Hno.out _
      · have hf' : (x.1.fr != -1) = true := by rw [bne_iff_ne]; exact hf
        have ht' : (x.1.to != -1) = true := by rw [bne_iff_ne]; exact ht
        have hst : isStep x.1 = true := by unfold isStep; rw [decide_eq_false hf, decide_eq_false ht]; rfl
        obtain ⟨fn, tmps, assign, body, hy, hR⟩ := HY.out p2 ⟨x.1, ⟨⟨by omega, h1b⟩, by omega, h2b⟩, List.mem_filter.2 ⟨x.2.2, hst⟩⟩ V g3 (by omega)
        have hR2 := Lib.hid (fun n' => round_in (n' := n') (l' := l2) hR)
        unfold Ed.val at hy
        clear hno hR
        gi_wp2_with fail
        refine ⟨(fun h => by cases h), ?_⟩
        refine (hR2.out _).mono ?_
        rintro e W3 (⟨rfl, hJ3, hk3, hkf⟩ | ⟨rfl, hJx3, hkf⟩)
        · gi_wp2_with fail
          exact ⟨keeps_more hkf (by omega), hk3, ⟨p2 ++ [_], by simp; omega, by rw [List.map_append, List.map_append, List.filter_append, g2]; simp [hst], hJ3⟩, hk3.box bV (by omega) (by decide)⟩
        · gi_wp2_with fail
          exact ⟨keeps_more hkf (by omega), rfl, _, hJx3⟩
  case done =>
    rintro D ys V hD hys ⟨⟨p2, g1, g2, g3⟩, bV⟩ hK
    gi_wp2
    refine ⟨by simp, .inl ⟨_, _, rfl, run_takeDeferred hK, ?_⟩⟩
    exact ⟨_, results_none rfl _ _ _, ⟨_, rfl⟩, .inl ⟨p2, by rw [g2, hys]; rfl, HJ.out.putObj (s := p2) _ g3 (by omega) hK rfl⟩⟩
  case stop =>
    rintro D c pre V hD _ ⟨rfl, p2, g3⟩ hK
    gi_wp2
    refine ⟨by simp, .inl ⟨_, _, rfl, run_takeDeferred hK, ?_⟩⟩
    exact ⟨_, results_none rfl _ _ _, ⟨_, rfl⟩, .inr ⟨p2, HJx.out.putObj (s := p2) _ g3 (by omega) hK rfl⟩⟩
end Go.Proofs.Ytcjbjlepgdggpaa
