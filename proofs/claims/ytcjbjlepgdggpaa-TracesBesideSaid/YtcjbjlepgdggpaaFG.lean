/- The edge behind a work, walked. -/
import Derived.Test.YtcjbjlepgdggpaaFF
namespace Go.Proofs.Ytcjbjlepgdggpaa
open Go.RowKit Go.Lib
structure Ed where
  fr : Int
  out : Int
  to : Int
  inn : Int
def Ed.val (e : Ed) : Value := .agg #[.int .i64 e.fr, .int .i64 e.out, .int .i64 e.to, .int .i64 e.inn]
/-- Where an edge ends that is in a place ahead of these works, numbered from k on. -/
def endL : List Wk → Nat → Int → Int × Int
  | [], _, p => (-1, p)
  | x :: W, k, p => if 0 ≤ p - x.pl ∧ p - x.pl < 2 then ((k : Int), p - x.pl) else endL W (k + 1) p
def edgeP (W : List Wk) (f : Nat) (out p : Int) : Ed := ⟨(f : Int) - 1, out, (endL (W.drop f) f p).1, (endL (W.drop f) f p).2⟩
theorem endL_hit {W : List Wk} {k : Nat} {x : Wk} {p : Int} (h : W[k]? = some x) (h1 : 0 ≤ p - x.pl) (h2 : p - x.pl < 2) : endL (W.drop k) k p = ((k : Int), p - x.pl) := by
  have hk := (List.getElem?_eq_some_iff.1 h).1
  rw [List.drop_eq_getElem_cons hk, Option.some.inj ((List.getElem?_eq_getElem hk).symm.trans h)]
  exact if_pos ⟨h1, h2⟩
theorem endL_miss {W : List Wk} {k : Nat} {x : Wk} {p : Int} (h : W[k]? = some x) (h1 : ¬ (0 ≤ p - x.pl ∧ p - x.pl < 2)) : endL (W.drop k) k p = endL (W.drop (k + 1)) (k + 1) p := by
  have hk := (List.getElem?_eq_some_iff.1 h).1
  rw [List.drop_eq_getElem_cons hk, Option.some.inj ((List.getElem?_eq_getElem hk).symm.trans h)]
  exact if_neg h1
theorem endL_none {W : List Wk} {k : Nat} {p : Int} (h : W.length ≤ k) : endL (W.drop k) k p = (-1, p) := by
  rw [List.drop_eq_nil_of_le h]; rfl
/-- Works whose places are small. -/
def Small (W : List Wk) : Prop := W.length ≤ 400 ∧ ∀ x ∈ W, 0 ≤ x.pl ∧ x.pl ≤ 100
theorem infoEd : (Try.prog.info? 76).map (fun i => i.size) = some 4 := by kernel_rfl
set_option maxHeartbeats 1000000 in
set_option maxRecDepth 100000 in
theorem edge_any (pr : Int) (W : List Wk) (hs : Small W) (u : Value) (w : World) (hu : WS w u W) (f : Nat) (hf : f ≤ 1000) (out p : Int) (hp : 0 ≤ p ∧ p ≤ 1000) :
    Calls Try.prog 92 #[.agg #[.int .i64 pr, u], .int .i64 ((f : Int) - 1), .int .i64 out, .int .i64 p] w fun e w' => e = .returned (edgeP W f out p).val ∧ Below w.heap.size w w' := by
  obtain ⟨a, c, rfl, h1, h2, hW⟩ := hu
  unfold maxLen at h2
  have HW := Lib.hid hW
  obtain ⟨hl, hsm⟩ := hs
  have Hsm := Lib.hid hsm
  have hr0 := heap_alloc_new w (.cells #[.int .i64 pr, .slice a W.length c] 24)
  obtain ⟨W0, hW0⟩ : ∃ W0, W0 = w.alloc (.cells #[.int .i64 pr, .slice a W.length c] 24) := ⟨_, rfl⟩
  obtain ⟨W1, hW1⟩ : ∃ W1, W1 = W0.alloc (.cells #[.int .i64 0, .int .i64 0, .int .i64 0, .int .i64 0] 76) := ⟨_, rfl⟩
  rw [← hW0] at hr0
  have hz0 : W0.heap.size = w.heap.size + 1 := by rw [hW0]; simp
  have B0 : Below w.heap.size w W0 := by rw [hW0]; exact below_alloc _ _
  have B01 : Below W0.heap.size W0 W1 := by rw [hW1]; exact below_alloc _ _
  have hr1 : W1.heap[w.heap.size + 1]? = some (.cells #[.int .i64 0, .int .i64 0, .int .i64 0, .int .i64 0] 76 (0, 0)) := by rw [hW1, ← hz0]; exact heap_alloc_new _ _
  have cs : W1.cell? ⟨w.heap.size, 1, none⟩ = some (.slice a W.length c) := (B01.cell (p := ⟨w.heap.size, 1, none⟩) (by show w.heap.size < W0.heap.size; omega)).trans (cell_of_row _ _ 1 _ _ _ hr0)
  have HB := Lib.hid (bon B0 B01)
  have e1 := hW0.symm
  have e2 := hW1.symm
  have n0 : IntKind.i64.wrap ((f : Int) - 1 + 1) = (f : Int) := by rw [show (f : Int) - 1 + 1 = (f : Int) by omega]; exact IntWalk.i64_in _ (by omega)
  have Hr1 := Lib.hid hr1
  have Hcf := Lib.hid (show W1.cell? ⟨w.heap.size + 1, 0, none⟩ = some (.int .i64 0) ∧ W1.cell? ⟨w.heap.size + 1, 1, none⟩ = some (.int .i64 0) ∧ W1.cell? ⟨w.heap.size + 1, 2, none⟩ = some (.int .i64 0) ∧ W1.cell? ⟨w.heap.size + 1, 3, none⟩ = some (.int .i64 0) ∧
    W1.frozen? ⟨w.heap.size + 1, 0, none⟩ = false ∧ W1.frozen? ⟨w.heap.size + 1, 1, none⟩ = false ∧ W1.frozen? ⟨w.heap.size + 1, 2, none⟩ = false ∧ W1.frozen? ⟨w.heap.size + 1, 3, none⟩ = false from
    ⟨cell_of_row _ _ 0 _ _ _ hr1, cell_of_row _ _ 1 _ _ _ hr1, cell_of_row _ _ 2 _ _ _ hr1, cell_of_row _ _ 3 _ _ _ hr1, frozen_of_row _ _ 0 _ _ hr1, frozen_of_row _ _ 1 _ _ hr1, frozen_of_row _ _ 2 _ _ hr1, frozen_of_row _ _ 3 _ _ hr1⟩)
  clear hW hsm hr0 B0 B01 hW0 hW1 hr1
  go_enter Try.func92, Try.ntmps92
  go_wp2_with fail
  go_loopw [9] (fun i wr => ∃ k : Nat, f ≤ k ∧ i = .int .i64 k ∧ endL (W.drop f) f p = endL (W.drop k) k p ∧ wr = W1) (fun i _ => W.length - (intOf i).toNat)
  case atStart => exact ⟨f, Nat.le_refl _, rfl, rfl, rfl⟩
  case round =>
    obtain ⟨k, hk, rfl, he, rfl⟩ := hrel
    have He := Lib.hid he
    clear he
    by_cases hkl : k < W.length
    · obtain ⟨x, hx⟩ : ∃ x, W[k]? = some x := ⟨_, List.getElem?_eq_getElem hkl⟩
      obtain ⟨b, off, rfl, hb, hr, _⟩ := HW.out k x hx
      have hc := (HB.out.cell (p := ⟨b, off + k * 3 + 1, none⟩) hb).trans (hr 1 _ rfl)
      have hxp := Hsm.out x (List.mem_of_getElem? hx)
      have j0 : (0 : Int) ≤ (k : Int) := by omega
      have j1 : (k : Int) < (W.length : Int) := by omega
      have n1 : IntKind.i64.wrap (p - x.pl) = p - x.pl := IntWalk.i64_in _ (by omega)
      have Hx := Lib.hid hx
      clear hr hx
      by_cases q1 : 0 ≤ p - x.pl
      · by_cases q2 : p - x.pl < 2
        · have hE := Lib.hid (show edgeP W f out p = ⟨(f : Int) - 1, out, (k : Int), p - x.pl⟩ by unfold edgeP; rw [He.out, endL_hit Hx.out q1 q2])
          have q1' : ¬ p < x.pl := by omega
          obtain ⟨z0, z1, z2, z3, y0, y1, y2, y3⟩ := Hcf.out
          go_wp2_with fail
          have g0 := heap_setCell_same wr (w.heap.size + 1) 0 _ 76 (.int .i64 ((f : Int) - 1)) Hr1.out
          have g1 := heap_setCell_same _ (w.heap.size + 1) 1 _ 76 (.int .i64 out) g0
          have g2 := heap_setCell_same _ (w.heap.size + 1) 2 _ 76 (.int .i64 (k : Int)) g1
          have g3 := heap_setCell_same _ (w.heap.size + 1) 3 _ 76 (.int .i64 (p - x.pl)) g2
          refine bodyPost_ret (v := .agg #[.int .i64 ((f : Int) - 1), .int .i64 out, .int .i64 (k : Int), .int .i64 (p - x.pl)]) (results_cell_row rfl _ _ (w.heap.size + 1) 76 #[.int .i64 ((f : Int) - 1), .int .i64 out, .int .i64 (k : Int), .int .i64 (p - x.pl)] (0, 0) _ rfl g3 Try.underlying76 rfl infoEd) rfl ?_
          exact ⟨by rw [hE.out]; rfl, (((HB.out.setCell (p := ⟨w.heap.size + 1, 0, none⟩) (Nat.le_succ _) _).setCell (p := ⟨w.heap.size + 1, 1, none⟩) (Nat.le_succ _) _).setCell (p := ⟨w.heap.size + 1, 2, none⟩) (Nat.le_succ _) _).setCell (p := ⟨w.heap.size + 1, 3, none⟩) (Nat.le_succ _) _⟩
        · have hE := Lib.hid (He.out.trans (endL_miss Hx.out (fun h => q2 h.2)))
          have g2 : ¬ (p - x.pl < 2) := q2
          have g3 : 2 ≤ p - x.pl := by omega
          go_wp2_with fail
          go_roundw
          case rel => exact ⟨k + 1, by omega, by go_num, hE.out, by first | trivial | rfl⟩
          case measure => (simp [intOf] <;> omega)
      · have hE := Lib.hid (He.out.trans (endL_miss Hx.out (fun h => q1 h.1)))
        have g1 : decide ((0 : Int) ≤ p - x.pl) = false := decide_eq_false q1
        have g2 : decide (x.pl ≤ p) = false := decide_eq_false (by omega)
        have g3 : p < x.pl := by omega
        go_wp2_with fail
        go_roundw
        case rel => exact ⟨k + 1, by omega, by go_num, hE.out, by first | trivial | rfl⟩
        case measure => (simp [intOf] <;> omega)
    · have j1 : ¬ (k : Int) < (W.length : Int) := by omega
      have hE := Lib.hid (show edgeP W f out p = ⟨(f : Int) - 1, out, -1, p⟩ by unfold edgeP; rw [He.out, endL_none (by omega)])
      obtain ⟨z0, z1, z2, z3, y0, y1, y2, y3⟩ := Hcf.out
      go_wp2_with fail
      have g0 := heap_setCell_same wr (w.heap.size + 1) 0 _ 76 (.int .i64 ((f : Int) - 1)) Hr1.out
      have g1 := heap_setCell_same _ (w.heap.size + 1) 1 _ 76 (.int .i64 out) g0
      have g2 := heap_setCell_same _ (w.heap.size + 1) 2 _ 76 (.int .i64 (-1)) g1
      have g3 := heap_setCell_same _ (w.heap.size + 1) 3 _ 76 (.int .i64 p) g2
      refine bodyPost_ret (v := .agg #[.int .i64 ((f : Int) - 1), .int .i64 out, .int .i64 (-1), .int .i64 p]) (results_cell_row rfl _ _ (w.heap.size + 1) 76 #[.int .i64 ((f : Int) - 1), .int .i64 out, .int .i64 (-1), .int .i64 p] (0, 0) _ rfl g3 Try.underlying76 rfl infoEd) rfl ?_
      exact ⟨by rw [hE.out]; rfl, (((HB.out.setCell (p := ⟨w.heap.size + 1, 0, none⟩) (Nat.le_succ _) _).setCell (p := ⟨w.heap.size + 1, 1, none⟩) (Nat.le_succ _) _).setCell (p := ⟨w.heap.size + 1, 2, none⟩) (Nat.le_succ _) _).setCell (p := ⟨w.heap.size + 1, 3, none⟩) (Nat.le_succ _) _⟩
end Go.Proofs.Ytcjbjlepgdggpaa
