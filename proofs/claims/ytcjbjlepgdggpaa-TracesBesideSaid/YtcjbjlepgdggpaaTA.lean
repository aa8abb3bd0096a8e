/- Edges that are taken out of a list: IndexFunc, DeleteFunc, steps. -/
import Derived.Test.YtcjbjlepgdggpaaTQ
namespace Go.Proofs.Ytcjbjlepgdggpaa
open Go.RowKit Go.Shelf Go.Lib
set_option linter.unusedSimpArgs false
def outB (e : Ed) : Bool := decide (e.fr = -1) || decide (e.to = -1)
theorem outB_any (x : Ed) (w : World) : Calls Try.prog 68 #[.agg #[.int .i64 x.fr, .int .i64 x.out, .int .i64 x.to, .int .i64 x.inn]] w fun e w' => e = .returned (.bool (outB x)) ∧ Below w.heap.size w w' := by
  have B := below_alloc w (.cells #[.int .i64 x.fr, .int .i64 x.out, .int .i64 x.to, .int .i64 x.inn] 76)
  have c0 : (w.alloc (.cells #[.int .i64 x.fr, .int .i64 x.out, .int .i64 x.to, .int .i64 x.inn] 76)).cell? ⟨w.heap.size, 0, none⟩ = some (.int .i64 x.fr) := cell_of_row _ _ 0 _ _ _ (heap_alloc_new _ _)
  have c2 : (w.alloc (.cells #[.int .i64 x.fr, .int .i64 x.out, .int .i64 x.to, .int .i64 x.inn] 76)).cell? ⟨w.heap.size, 2, none⟩ = some (.int .i64 x.to) := cell_of_row _ _ 2 _ _ _ (heap_alloc_new _ _)
  unfold outB
  by_cases h : x.fr = -1
  · have h' : (x.fr == -1) = true := beq_iff_eq.2 h
    rw [decide_eq_true h, Bool.true_or]
    clear h
    go_enter Try.func68, Try.ntmps68
    go_wp2_with fail
    go_ret
    exact ⟨rfl, B⟩
  · have h' : (x.fr == -1) = false := beq_eq_false_iff_ne.2 h
    rw [decide_eq_false h, Bool.false_or]
    clear h
    by_cases h2 : x.to = -1
    · have h2' : (x.to == -1) = true := beq_iff_eq.2 h2
      rw [decide_eq_true h2]
      clear h2
      go_enter Try.func68, Try.ntmps68
      go_wp2_with fail
      go_ret
      exact ⟨rfl, B⟩
    · have h2' : (x.to == -1) = false := beq_eq_false_iff_ne.2 h2
      rw [decide_eq_false h2]
      clear h2
      go_enter Try.func68, Try.ntmps68
      go_wp2_with fail
      go_ret
      exact ⟨rfl, B⟩
/-- A row of edges, all whose cells may be written. -/
def ER (w : World) (g : Nat) (L : List Ed) : Prop := ∀ (k : Nat) (x : Ed), L[k]? = some x → ∀ (j : Nat) u, x.cs[j]? = some u → w.cell? ⟨g, k * 4 + j, none⟩ = some u ∧ w.frozen? ⟨g, k * 4 + j, none⟩ = false
theorem ER.below {w w' : World} {g : Nat} {L : List Ed} (h : ER w g L) (hg : g < w.heap.size) (hb : Below w.heap.size w w') : ER w' g L := fun k x hx j u hu => by
  obtain ⟨h1, h2⟩ := h k x hx j u hu
  exact ⟨(hb.cell (p := ⟨g, k * 4 + j, none⟩) hg).trans h1, by have e := hb.block _ hg; unfold World.frozen? at h2 ⊢; simp only at h2 ⊢; rw [e]; exact h2⟩
theorem ER.range {w : World} {g : Nat} {L : List Ed} (h : ER w g L) {k : Nat} {x : Ed} (hx : L[k]? = some x) : w.rangeAt g (k * 4) x.cs := fun j v hv => (h k x hx j v hv).1
theorem er_own {B cap g n : Nat} {w : World} {L : List Ed} (h : w.ownsRow B 76 4 (.slice (some ⟨g, 0, none⟩) n cap) L.length (L.flatMap Ed.cs)) : ER w g L := by
  obtain ⟨hl, hh⟩ := h
  rcases hh with ⟨e, h0⟩ | ⟨g', cap', cur, e, _, hg, hle, hmx, hsz, htk⟩
  · cases e
  · cases e
    intro k x hx j u hu
    have hk := (List.getElem?_eq_some_iff.1 hx).1
    have hj := (List.getElem?_eq_some_iff.1 hu).1
    have hj4 : j < 4 := by simpa [Ed.cs] using hj
    have e := flat_get Ed.cs 4 (fun _ => rfl) L k x hx j hj4
    rw [← htk, List.getElem?_take_of_lt (by omega), hu, Array.getElem?_toList] at e
    refine ⟨(cell_of_row w _ _ _ _ _ hg).trans e, by simp [World.frozen?, hg]⟩
end Go.Proofs.Ytcjbjlepgdggpaa
