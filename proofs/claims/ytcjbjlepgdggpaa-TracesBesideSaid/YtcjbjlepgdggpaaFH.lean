/- The iterator over the edges of a sheet, for every loop body that keeps what lay below a block. -/
import Derived.Test.YtcjbjlepgdggpaaFG
import Derived.RangeFuncNested
import Derived.RangeFuncBound
import Derived.RangeFuncCalls
import Derived.RangeFuncLeaves
import Derived.Shelf.Abstract
import Derived.Shelf.RegionOpen
import Derived.OwnWalkIn
import Derived.TacticsInMore
import Derived.LoopNIn
import Derived.LoopIn
import Derived.Sort.QuietIn
namespace Go.Proofs.Ytcjbjlepgdggpaa
open Go.RowKit Go.Shelf Go.Lib
attribute [local go_sem] Oper.semAt_some
/-- All lies as it lay that lay below n₀, or bears cells of another type than edges: but for block X. -/
structure BelowX (X B : Nat) (w w' : World) : Prop where
  os : w'.os = w.os
  tape : w'.tape = w.tape
  output : w'.output = w.output
  size : w.heap.size ≤ w'.heap.size
  block : ∀ k, k < w.heap.size → k ≠ X → (k < B ∨ ∃ cs t fr, t ≠ 76 ∧ w.heap[k]? = some (.cells cs t fr)) → w'.heap[k]? = w.heap[k]?
theorem BelowX.of {X B : Nat} {w w' : World} (h : Below w.heap.size w w') : BelowX X B w w' := ⟨h.os, h.tape, h.output, h.size, fun k hk _ _ => h.block k hk⟩
theorem BelowX.trans {X B : Nat} {a b c : World} (h : BelowX X B a b) (k : BelowX X B b c) : BelowX X B a c :=
  ⟨k.os.trans h.os, k.tape.trans h.tape, k.output.trans h.output, Nat.le_trans h.size k.size, fun j hj hx ht => by
    have e := h.block j hj hx ht
    refine (k.block j (Nat.lt_of_lt_of_le hj h.size) hx ?_).trans e
    rcases ht with ht | ⟨cs, t, fr, h1, h2⟩
    · exact .inl ht
    · exact .inr ⟨cs, t, fr, h1, e.trans h2⟩⟩
theorem BelowX.cell' {X B : Nat} {w w' : World} (h : BelowX X B w w') {p : Addr} (hs : p.block < w.heap.size) (hp : p.block < B ∨ ∃ cs t fr, t ≠ 76 ∧ w.heap[p.block]? = some (.cells cs t fr)) (hx : p.block ≠ X) : w'.cell? p = w.cell? p := World.cell?_of_block (w := w) (h.block p.block hs hx hp)
theorem BelowX.cell {X B : Nat} {w w' : World} (h : BelowX X B w w') {p : Addr} (hs : p.block < w.heap.size) (hp : p.block < B) (hx : p.block ≠ X) : w'.cell? p = w.cell? p := World.cell?_of_block (w := w) (h.block p.block hs hx (.inl hp))
theorem BelowX.box {X B : Nat} {w w' : World} (h : BelowX X B w w') {k : Nat} {cs : Array Value} {t : TypeId} (hs : w.heap[k]? = some (.cells cs t (0, 0))) (hx : k ≠ X) (ht : t ≠ 76) : w'.heap[k]? = some (.cells cs t (0, 0)) :=
  (h.block k (Array.getElem?_eq_some_iff.1 hs).1 hx (.inr ⟨cs, t, (0, 0), ht, hs⟩)).trans hs
def topE (W : List Wk) (p : Nat) : Ed := edgeP W 0 (p : Int) (p : Int)
def sideE (W : List Wk) (i : Nat) (x : Wk) (j : Nat) : Ed := edgeP W (i + 1) (j : Int) (x.pl + j)
/-- The edges behind the works, from number i on. -/
def downE (W : List Wk) : List Wk → Nat → List Ed
  | [], _ => []
  | x :: L, i => sideE W i x 0 :: sideE W i x 1 :: downE W L (i + 1)
def edgesL (pr : Nat) (W : List Wk) : List Ed := (List.range pr).map (topE W) ++ downE W W 0
/-- An edge of a sheet. -/
abbrev EdA (pr : Nat) (W : List Wk) := { e : Ed // ((-1 ≤ e.fr ∧ e.fr < (W.length : Int)) ∧ (-1 ≤ e.to ∧ e.to < (W.length : Int))) ∧ e ∈ edgesL pr W }
theorem down_mem (W : List Wk) (x : Wk) (j : Nat) (hj : j < 2) : ∀ (L : List Wk) (i0 i : Nat), L[i]? = some x → sideE W (i0 + i) x j ∈ downE W L i0
  | [], _, i, h => by simp at h
  | y :: L, i0, 0, h => by
    simp at h
    subst h
    have : j = 0 ∨ j = 1 := by omega
    rcases this with rfl | rfl <;> simp [downE]
  | y :: L, i0, i + 1, h => by
    have := down_mem W x j hj L (i0 + 1) i (by simpa using h)
    rw [show i0 + 1 + i = i0 + (i + 1) by omega] at this
    simp only [downE, List.mem_cons]
    exact .inr (.inr this)
theorem top_mem (W : List Wk) (pr k : Nat) (h : k < pr) : topE W k ∈ edgesL pr W := List.mem_append_left _ (List.mem_map.2 ⟨k, List.mem_range.2 h, rfl⟩)
theorem side_mem (W : List Wk) (pr i j : Nat) (x : Wk) (hj : j < 2) (h : W[i]? = some x) : sideE W i x j ∈ edgesL pr W := List.mem_append_right _ (by have := down_mem W x j hj W 0 i h; rwa [Nat.zero_add] at this)
theorem endL_lt (W : List Wk) : ∀ (k : Nat) (p : Int), -1 ≤ (endL W k p).1 ∧ (endL W k p).1 < ((k + W.length : Nat) : Int) := by
  induction W with
  | nil => intro k p; show (-1 : Int) ≤ -1 ∧ (-1 : Int) < _; simp; omega
  | cons x W ih =>
    intro k p
    unfold endL
    split
    · simp; omega
    · have := ih (k + 1) p
      simp only [List.length_cons]
      omega
theorem edgeP_to (W : List Wk) (f : Nat) (out p : Int) : -1 ≤ (edgeP W f out p).to ∧ ((edgeP W f out p).to < (W.length : Int)) := by
  have h := endL_lt (W.drop f) f p
  rw [List.length_drop] at h
  show -1 ≤ (endL (W.drop f) f p).1 ∧ (endL (W.drop f) f p).1 < _
  by_cases hf : f ≤ W.length
  · omega
  · rw [endL_none (by omega)]
    constructor
    · exact Int.le_refl _
    · show (-1 : Int) < _; omega
theorem downE_snoc (W : List Wk) : ∀ (L : List Wk) (i : Nat) (x : Wk), downE W (L ++ [x]) i = downE W L i ++ [sideE W (i + L.length) x 0, sideE W (i + L.length) x 1]
  | [], _, _ => rfl
  | y :: L, i, x => by
    show _ :: _ :: downE W (L ++ [x]) (i + 1) = _ :: _ :: (downE W L (i + 1) ++ _)
    rw [downE_snoc W L (i + 1) x]
    simp only [List.length_cons]
    rw [show i + 1 + L.length = i + (L.length + 1) by omega]
set_option maxRecDepth 100000 in
set_option maxHeartbeats 4000000 in
theorem edges1_in (n : Nat) (hn : 1 ≤ n) (l Bs n₀ pr : Nat) (ws : List Wk) (a : Option Addr) (c : Nat) (hs : Small ws) (hpr : pr ≤ 24) (hc : ws.length ≤ c) (hcm : c ≤ maxLen) (X : Nat) (hXs : Bs ≠ X) (hXn : X < n₀)
    (J Jx : List (EdA pr ws) → World → Prop)
    (hY : ∀ (pre : List (EdA pr ws)) (x : EdA pr ws) (W : World), J pre W → pre.length < 1000 → YieldAt Fence.wide (n - 1) Try.prog l #[x.1.val] W fun e W' =>
      (e = .returned (.bool true) ∧ J (pre ++ [x]) W' ∧ BelowX X n₀ W W') ∨ (e = .returned (.bool false) ∧ Jx (pre ++ [x]) W'))
    (W : World) (hn₀ : n₀ ≤ W.heap.size) (hBz : Bs < W.heap.size) (hBs : Bs < n₀ ∨ ∃ cs t fr, t ≠ 76 ∧ W.heap[Bs]? = some (.cells cs t fr)) (hc0 : W.cell? ⟨Bs, 0, none⟩ = some (.int .i64 (pr : Int))) (hc1 : W.cell? ⟨Bs, 1, none⟩ = some (.slice a ws.length c))
    (hW : ∀ (k : Nat) (x : Wk), ws[k]? = some x → ∃ b off, a = some ⟨b, off, none⟩ ∧ b < n₀ ∧ b ≠ X ∧ W.rangeAt b (off + k * 3) [.int .i64 x.kd, .int .i64 x.pl, .string x.wd] ∧ x.wd.size ≤ maxLen)
    (hJ : ∀ pre A B, J pre A → Below A.heap.size A B → J pre B) (h0 : J [] W) :
    CallsIn Fence.wide n Try.prog 91 #[.func (.yield l) #[] #[], .pointer (some ⟨Bs, 0, none⟩)] W fun e W' => (∃ v, e = .returned v) ∧
      ((∃ ys : List (EdA pr ws), ys.map (·.1) = edgesL pr ws ∧ J ys W') ∨ (∃ pre, Jx pre W')) := by
  have HW := Lib.hid hW
  have HY := Lib.hid hY
  have HJ := Lib.hid hJ
  have Hs := Lib.hid hs
  have Hc0 := Lib.hid hc0
  have Hc1 := Lib.hid hc1
  have hW4 := hs.1
  clear hW hY hJ hs
  refine callsIn_of_wp Try.func91 rfl trivial ?_ rfl
  simp only [Try.ntmps91, List.size_toArray, List.length_cons, List.length_nil, Nat.reduceAdd, Nat.reduceSub, Array.replicate_succ, Array.replicate_zero, List.push_toArray, List.append_toArray, List.nil_append, List.cons_append]
  gi_wp2_with fail
  gi_loopw [9] (fun iv wr => ∃ (k : Nat) (pre : List (EdA pr ws)), iv = .int .i64 (k : Int) ∧ k ≤ pr ∧ pre.length = k ∧ pre.map (·.1) = (List.range k).map (topE ws) ∧ J pre wr ∧ BelowX X n₀ W wr) (fun iv _ => pr - (intOf iv).toNat)
  case atStart => exact ⟨0, [], rfl, Nat.zero_le _, rfl, rfl, h0, BelowX.of (Below.refl _ _)⟩
  case round =>
    obtain ⟨k, pre, rfl, hk, hpl, hpre, hJr, hbr⟩ := hrel
    have d0 := (hbr.cell' (p := ⟨Bs, 0, none⟩) hBz hBs hXs).trans Hc0.out
    have d1 := (hbr.cell' (p := ⟨Bs, 1, none⟩) hBz hBs hXs).trans Hc1.out
    clear hc0 hc1 h0
    by_cases hkl : k < pr
    · have hkl' : (k : Int) < (pr : Int) := by omega
      have hWS : WS wr (.slice a ws.length c) ws := ⟨a, c, rfl, hc, hcm, fun q x hx => by
        obtain ⟨b, off, e, hb, hbX, hr, hsz⟩ := HW.out q x hx
        exact ⟨b, off, e, Nat.lt_of_lt_of_le hb (Nat.le_trans hn₀ hbr.size), fun j v hj => (hbr.cell (p := ⟨b, off + q * 3 + j, none⟩) (Nat.lt_of_lt_of_le hb hn₀) hb hbX).trans (hr j v hj), hsz⟩⟩
      have CE := Lib.hid (show Calls Try.prog 92 #[.agg #[.int .i64 (pr : Int), .slice a ws.length c], .int .i64 (-1), .int .i64 (k : Int), .int .i64 (k : Int)] wr fun e w' => e = .returned (topE ws k).val ∧ Below wr.heap.size wr w' from edge_any (pr : Int) ws Hs.out _ wr hWS 0 (by omega) (k : Int) (k : Int) (by omega))
      have Hpre := Lib.hid hpre
      have hto := edgeP_to ws 0 (k : Int) (k : Int)
      have hxE : (-1 ≤ (topE ws k).fr ∧ (topE ws k).fr < (ws.length : Int)) ∧ (-1 ≤ (topE ws k).to ∧ (topE ws k).to < (ws.length : Int)) := ⟨⟨by show (-1 : Int) ≤ ((0 : Nat) : Int) - 1; omega, by show ((0 : Nat) : Int) - 1 < _; omega⟩, hto⟩
      clear hpre hWS hto
      gi_wp2_with fail
      refine ⟨trivial, ?_⟩
      refine (callsIn_wide.2 CE.out).mono ?_
      rintro e w1 ⟨rfl, B1⟩
      have hJ1 := HJ.out _ _ _ hJr B1
      have hb1 : BelowX X n₀ W w1 := hbr.trans (BelowX.of B1)
      obtain ⟨fn, tmps, assign, body, hy, hR⟩ := HY.out pre ⟨topE ws k, hxE, top_mem ws pr k hkl⟩ w1 hJ1 (by omega)
      unfold Ed.val at hy
      clear CE B1 hJ1
      unfold Ed.val
      gi_wp2_with fail
      refine hR.mono ?_
      clear hy hR
      rintro e W3 (⟨rfl, hJ3, hk3⟩ | ⟨rfl, hJx3⟩)
      · gi_wp2_with fail
        go_roundw
        case rel => exact ⟨k + 1, _, by go_num, hkl, by simp [hpl], by rw [List.map_append, Hpre.out, List.range_succ, List.map_append]; rfl, hJ3, hb1.trans hk3⟩
        case measure => (simp [intOf] <;> omega)
      · gi_wp2_with fail
        refine bodyPost_ret (results_none rfl _ _ _) rfl ?_
        exact ⟨⟨_, rfl⟩, .inr ⟨_, hJx3⟩⟩
    · have hkl' : ¬ (k : Int) < (pr : Int) := by omega
      have e : k = pr := by omega
      have Hpre := Lib.hid hpre
      clear hpre
      gi_wp2_with fail
      rename World => wq
      gi_loopw [23] (fun iv wr => ∃ (i : Nat) (pre : List (EdA pr ws)), iv = .int .i64 (i : Int) ∧ i ≤ ws.length ∧ pre.length = pr + 2 * i ∧ pre.map (·.1) = (List.range pr).map (topE ws) ++ downE ws (ws.take i) 0 ∧ J pre wr ∧ BelowX X n₀ W wr) (fun iv _ => ws.length - (intOf iv).toNat)
      case atStart => exact ⟨0, pre, rfl, Nat.zero_le _, by omega, by rw [Hpre.out, e]; simp [downE], hJr, hbr⟩
      case round =>
        clear hpl hk hJr hbr hkl hkl' d0 d1 Hpre e
        obtain ⟨i, pre, rfl, hi, hpl, hpre, hJr, hbr⟩ := hrel
        by_cases hil : i < ws.length
        · obtain ⟨x, hx⟩ : ∃ x, ws[i]? = some x := ⟨_, List.getElem?_eq_getElem hil⟩
          have HXI := Lib.hid hx
          obtain ⟨b, off, rfl, hb, hbX, hr, _⟩ := HW.out i x hx
          have e0 := (hbr.cell (p := ⟨b, off + i * 3, none⟩) (Nat.lt_of_lt_of_le hb hn₀) hb hbX).trans (hr 0 _ rfl)
          have e1 := (hbr.cell (p := ⟨b, off + i * 3 + 1, none⟩) (Nat.lt_of_lt_of_le hb hn₀) hb hbX).trans (hr 1 _ rfl)
          have e2 := (hbr.cell (p := ⟨b, off + i * 3 + 2, none⟩) (Nat.lt_of_lt_of_le hb hn₀) hb hbX).trans (hr 2 _ rfl)
          have hxp := Hs.out.2 x (List.mem_of_getElem? hx)
          have j0 : (0 : Int) ≤ (i : Int) := by omega
          have j1 : (i : Int) < (ws.length : Int) := by omega
          have Hpre := Lib.hid hpre
          have Hx := Lib.hid hx
          clear hr hx hpre
          obtain ⟨W5, hW5⟩ : ∃ W5, W5 = wr.alloc (.cells #[.int .i64 x.kd, .int .i64 x.pl, .string x.wd] 51) := ⟨_, rfl⟩
          have B5 : Below wr.heap.size wr W5 := by rw [hW5]; exact below_alloc _ _
          have r5 : W5.heap[wr.heap.size]? = some (.cells #[.int .i64 x.kd, .int .i64 x.pl, .string x.wd] 51 (0, 0)) := by rw [hW5]; exact heap_alloc_new _ _
          have HJ5 := Lib.hid (HJ.out _ _ _ hJr B5)
          have HB5 := Lib.hid (hbr.trans (BelowX.of B5))
          have hlX : wr.heap.size ≠ X := by
            have := hbr.size
            omega
          have R5 := Lib.hid r5
          have hWr := hW5.symm
          clear B5 r5 hW5 hJr
          gi_wp2_with fail
          gi_loopw [28] (fun jv wy => ∃ (j : Nat) (pre2 : List (EdA pr ws)), jv = .int .i64 (j : Int) ∧ j ≤ 2 ∧ pre2.length = pr + 2 * i + j ∧ pre2.map (·.1) = (List.range pr).map (topE ws) ++ downE ws (ws.take i) 0 ++ (List.range j).map (sideE ws i x) ∧ J pre2 wy ∧ BelowX X n₀ W wy ∧ BelowX X n₀ W5 wy) (fun jv _ => 2 - (intOf jv).toNat)
          case atStart => exact ⟨0, pre, rfl, by omega, by omega, by rw [Hpre.out]; simp, HJ5.out, HB5.out, BelowX.of (Below.refl _ _)⟩
          case round =>
            obtain ⟨j, pre2, rfl, hj, hpl2, hpre2, hJy, hby, hb5⟩ := hrel
            rename World => wy
            by_cases hj2 : j < 2
            · have hj' : (j : Int) < 2 := by omega
              have hsy := Nat.le_trans hn₀ hby.size
              have d0 := (hby.cell' (p := ⟨Bs, 0, none⟩) hBz hBs hXs).trans Hc0.out
              have d1 := (hby.cell' (p := ⟨Bs, 1, none⟩) hBz hBs hXs).trans Hc1.out
              have d2 : wy.cell? ⟨wr.heap.size, 1, none⟩ = some (.int .i64 x.pl) := cell_of_row wy _ 1 _ _ _ (hb5.box R5.out hlX (by decide))
              have hWS : WS wy (.slice (some ⟨b, off, none⟩) ws.length c) ws := ⟨_, c, rfl, hc, hcm, fun q y hy => by
                obtain ⟨b', off', e, hb', hbX', hr', hsz'⟩ := HW.out q y hy
                exact ⟨b', off', e, Nat.lt_of_lt_of_le hb' hsy, fun u v hu => (hby.cell (p := ⟨b', off' + q * 3 + u, none⟩) (Nat.lt_of_lt_of_le hb' hn₀) hb' hbX').trans (hr' u v hu), hsz'⟩⟩
              have CE0 := edge_any (pr : Int) ws Hs.out _ wy hWS (i + 1) (by have := Hs.out.1; omega) (j : Int) (x.pl + (j : Int)) (by omega)
              rw [show ((i + 1 : Nat) : Int) - 1 = (i : Int) by omega] at CE0
              have CE := Lib.hid (show Calls Try.prog 92 #[.agg #[.int .i64 (pr : Int), .slice (some ⟨b, off, none⟩) ws.length c], .int .i64 (i : Int), .int .i64 (j : Int), .int .i64 (x.pl + (j : Int))] wy fun e w' => e = .returned (sideE ws i x j).val ∧ Below wy.heap.size wy w' from CE0)
              have hto := edgeP_to ws (i + 1) (j : Int) (x.pl + (j : Int))
              have hxE : (-1 ≤ (sideE ws i x j).fr ∧ (sideE ws i x j).fr < (ws.length : Int)) ∧ (-1 ≤ (sideE ws i x j).to ∧ (sideE ws i x j).to < (ws.length : Int)) := ⟨⟨by show (-1 : Int) ≤ ((i + 1 : Nat) : Int) - 1; omega, by show ((i + 1 : Nat) : Int) - 1 < _; omega⟩, hto⟩
              have n1 : IntKind.i64.wrap (x.pl + (j : Int)) = x.pl + (j : Int) := IntWalk.i64_in _ (by omega)
              have Hpre2 := Lib.hid hpre2
              clear hpre2 hWS hto CE0
              gi_wp2_with fail
              refine ⟨trivial, ?_⟩
              refine (callsIn_wide.2 CE.out).mono ?_
              rintro e w1 ⟨rfl, B1⟩
              have hJ1 := HJ.out _ _ _ hJy B1
              have hb1 : BelowX X n₀ W w1 := hby.trans (BelowX.of B1)
              have hb51 : BelowX X n₀ W5 w1 := hb5.trans (BelowX.of B1)
              have hlen : pre2.length < 1000 := by have := Hs.out.1; omega
              obtain ⟨fn, tmps, assign, body, hy, hR⟩ := HY.out pre2 ⟨sideE ws i x j, hxE, side_mem ws pr i j x hj2 HXI.out⟩ w1 hJ1 hlen
              unfold Ed.val at hy
              clear CE B1 hJ1
              unfold Ed.val
              gi_wp2_with fail
              refine hR.mono ?_
              clear hy hR
              rintro e W3 (⟨rfl, hJ3, hk3⟩ | ⟨rfl, hJx3⟩)
              · gi_wp2_with fail
                go_roundw
                case rel => exact ⟨j + 1, _, by go_num, by omega, by simp [hpl2]; omega, by rw [List.map_append, Hpre2.out, List.range_succ, List.map_append, List.append_assoc]; rfl, hJ3, hb1.trans hk3, hb51.trans hk3⟩
                case measure => (simp [intOf] <;> omega)
              · gi_wp2_with fail
                refine bodyPost_ret (results_none rfl _ _ _) rfl ?_
                exact ⟨⟨_, rfl⟩, .inr ⟨_, hJx3⟩⟩
            · have hj' : ¬ (j : Int) < 2 := by omega
              have ej : j = 2 := by omega
              have Hpre2 := Lib.hid hpre2
              have Hil := Lib.hid hil
              have Hl2 := Lib.hid (show pre2.length = pr + 2 * (i + 1) by omega)
              have Ej := Lib.hid ej
              clear hpre2 ej
              gi_wp2_with fail
              go_roundw
              case rel => exact ⟨i + 1, pre2, by go_num, Hil.out, Hl2.out, by
                rw [Hpre2.out, Ej.out, List.take_add_one, Hx.out, Option.toList_some, downE_snoc, List.length_take, Nat.min_eq_left (Nat.le_of_lt Hil.out), Nat.zero_add, List.append_assoc]; rfl, hJy, hby⟩
              case measure => (have := Hil.out; simp [intOf] <;> omega)
        · have j1 : ¬ (i : Int) < (ws.length : Int) := by omega
          have ei : i = ws.length := by omega
          have Hpre := Lib.hid hpre
          clear hpre
          have Hfin := Lib.hid (show pre.map (·.1) = edgesL pr ws by rw [Hpre.out, ei, List.take_length]; rfl)
          clear ei
          gi_wp2_with fail
          go_end0
          exact ⟨⟨_, rfl⟩, .inl ⟨pre, Hfin.out, hJr⟩⟩
end Go.Proofs.Ytcjbjlepgdggpaa
