/- Two simple braids compared as arrays. -/
import Derived.Test.YtmefpaoakblndaaGreatDoorBL
import Derived.Laws.StructEq
import Derived.DeepKeys
namespace Go.Proofs.YtmefpaoakblndaaGreatDoor
open Go.RowKit

theorem pl_inj {x y : Pm} (hx : x.In 12) (hy : y.In 12) (h : pl x = pl y) : x = y := Pm.ext' fun i => by
  rcases Nat.lt_or_ge i 12 with hi | hi
  · have e : (pl x)[i]? = (pl y)[i]? := by rw [h]
    unfold pl at e
    simp [hi] at e
    omega
  · rw [hx i hi, hy i hi]
theorem pl_lit (s : Pm) : pl s = [.int .i64 (s.f 0), .int .i64 (s.f 1), .int .i64 (s.f 2), .int .i64 (s.f 3), .int .i64 (s.f 4), .int .i64 (s.f 5), .int .i64 (s.f 6), .int .i64 (s.f 7), .int .i64 (s.f 8), .int .i64 (s.f 9), .int .i64 (s.f 10), .int .i64 (s.f 11)] := rfl
theorem cells59 : Tryz.prog.cellsOf 108 = 12 := by kernel_rfl
theorem cells3 : Tryz.prog.cellsOf 3 = 1 := by kernel_rfl
theorem mapM_some {α β : Type} {f : α → Option β} {g : α → β} : ∀ (l : List α), (∀ i ∈ l, f i = some (g i)) → l.mapM f = some (l.map g) := by
  intro l
  induction l with
  | nil => intro _; rfl
  | cons a l ih =>
    intro h
    rw [List.mapM_cons, h a (by simp), ih fun i hi => h i (by simp [hi])]
    rfl
theorem flat1 {α β : Type} (g : α → β) : ∀ l : List α, (l.map fun i => [g i]).flatten = l.map g
  | [] => rfl
  | a :: l => by rw [List.map_cons, List.flatten_cons, flat1 g l]; rfl
theorem lits_pl (x : Pm) (hx : x.In 12) : Tryz.prog.keyLits 4 108 (pl x) = some ((List.range 12).map fun i => Lit.int .i64 (x.f i : Int)) := by
  have one : ∀ i ∈ List.range 12, Tryz.prog.keyLits 3 3 (((pl x).drop (i * 1)).take 1) = some [Lit.int .i64 (x.f i : Int)] := fun i hi => by
    have h12 := List.mem_range.1 hi
    have hlt := hx.lt h12
    have e : ((pl x).drop (i * 1)).take 1 = [.int .i64 (x.f i : Int)] := by
      apply List.ext_getElem?
      intro j
      unfold pl
      rcases Nat.eq_zero_or_pos j with rfl | hj
      · simp [h12]
      · rw [List.getElem?_take, if_neg (by omega), List.getElem?_eq_none (by simp; omega)]
    rw [e]
    unfold Program.keyLits
    rw [Tryz.underlying3]
    have hw : (Lit.int .i64 (x.f i : Int)).wf = true := by
      show (decide (IntKind.i64.min ≤ (x.f i : Int)) && decide ((x.f i : Int) ≤ IntKind.i64.max)) = true
      have h1 : IntKind.i64.min = -9223372036854775808 := by decide
      have h2 : IntKind.i64.max = 9223372036854775807 := by decide
      rw [h1, h2]
      simp
      omega
    simp [hw]
  unfold Program.keyLits
  rw [Tryz.underlying108]
  simp only [pl_len, cells59, cells3, if_true]
  rw [mapM_some (g := fun i => [Lit.int .i64 (x.f i : Int)]) _ one]
  exact congrArg some (flat1 _ _)
theorem formed_pl (x : Pm) : (Value.agg (pl x).toArray).formed Tryz.prog 108 = true := by
  rw [pl_lit]
  kernel_rfl
theorem eql_pl (x y : Pm) (hx : x.In 12) (hy : y.In 12) (w : World) {d : Bool} (hd : d = true ↔ x = y) : (Op.equalIn 10000 108 (.agg (pl x).toArray) (.agg (pl y).toArray)).run Tryz.prog w = .ok d w := by
  obtain ⟨r, hr, hi⟩ := run_equalIn_deep (P := Tryz.prog) 9998 2 108 (by kernel_rfl) w 4 4 _ _ _ _ (formed_pl x) (formed_pl y) (lits_pl x hx) (lits_pl y hy)
  have : r = d := by
    rw [Bool.eq_iff_iff, hi, hd]
    constructor
    · intro h
      refine Pm.ext' fun i => ?_
      rcases Nat.lt_or_ge i 12 with hl | hl
      · have e := congrArg (fun l => l[i]?) h
        simp [hl] at e
        omega
      · rw [hx i hl, hy i hl]
    · rintro rfl; rfl
  rw [this] at hr
  exact hr
end Go.Proofs.YtmefpaoakblndaaGreatDoor
