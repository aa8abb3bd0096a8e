/- A drawn region of reads inside a round; the order of works: theory. -/
import Derived.Test.YtenfeekchggioaaOD
import Derived.Sort.QuietIn
import Derived.Sort.QuietTacIn
import Derived.OrdersIn
namespace Go.Proofs.Ytenfeekchggioaa
open Go.RowKit Go.Shelf Go.Lib
set_option linter.unusedSimpArgs false
theorem ops_round {n l : Nat} {P : Program} {ops : Array Oper} {Q : Exit → Act → World → Prop} (hP : P = Try.prog) (hd : ∀ (i : Nat) (o : Oper), ops[i]? = some o → ∀ c, o.op ≠ .defer c) : ∀ (L : List Nat) (a : Act) (w : World), wpOpsIn Fence.wide n P ops Q L a w → wpOpsIn (Fence.wide.inRound l) n P ops Q L a w
  | [], _, _, h => h
  | i :: rest, a, w, h => by
    have ih := ops_round (n := n) (l := l) (Q := Q) hP hd rest
    simp only [wpOpsIn] at h ⊢
    cases ho : ops[i]? with
    | none =>
      rw [ho] at h
      exact ih _ _ h
    | some o =>
      rw [ho] at h
      simp only at h ⊢
      split
      · rename_i hw
        rw [if_pos hw] at h
        refine ⟨h.1, ?_⟩
        have h2 := h.2
        have e : o.semAt (Fence.wide.inRound l).round a.eval = o.semAt Fence.wide.round a.eval := (Oper.semAt_some l a.eval o (hd i o ho)).trans (Oper.semAt_none a.eval o).symm
        rw [e]
        generalize (o.semAt Fence.wide.round a.eval).run P w = r at h2 ⊢
        subst hP
        cases r with
        | ok x w' =>
          cases x with
          | value v => exact ih _ _ h2
          | skip => exact ih _ _ h2
          | defer d => exact ih _ _ h2
          | enter f args => exact ⟨h2.1, CallsIn.inRound l (h2.2.mono fun e w'' he => by cases e <;> first | exact ih _ _ he | exact he)⟩
          | row row args => exact ⟨h2.1, RowsIn.mono h2.2 fun v w'' he => ih _ _ he⟩
          | round l' f tmps assign body => exact ⟨h2.1, round_in (RoundIn.mono h2.2 fun e w'' he => by cases e <;> first | exact ih _ _ he | exact he)⟩
          | _ => exact h2.elim
        | halt x w' => cases x <;> exact h2
      · rename_i hw
        rw [if_neg hw] at h
        exact ⟨h.1, ih _ _ h.2⟩
theorem round_quiet {n l : Nat} {id : Nat} {Q : Exit → Act → World → Prop} {a : Act} {w : World} {ol : List Oper} (hm : Try.prog.follows .mixedOrders = true) (hB : Region.lexB .any ol.toArray = true)
    (hd : ∀ (i : Nat) (o : Oper), ol.toArray[i]? = some o → ∀ c, o.op ≠ .defer c)
    (h : wpQuietIn Fence.wide n Try.prog ol.toArray (fun w' => ∃ k, w' = w.drewN k) (fun a' => ∀ w', (∃ k, w' = w.drewN k) → Q .normal a' w') ol a) : (Code.region id ol.toArray true).wpIn (Fence.wide.inRound l) n Try.prog Q a w := by
  refine wpIn_region_draw fun t => ops_round rfl hd _ _ _ ?_
  simp only [Region.schedule, hm, Bool.true_or, if_true]
  have hB2 := hB
  simp only [Region.lexB, Bool.and_eq_true] at hB2
  have hC : (fun w' => ∃ k, w' = w.drewN k) { w with drawn := w.drawn + 1 } := ⟨1, rfl⟩
  refine wpAnyIn_sound ol.toArray.size t _ a _ (wpAnyIn_of_quiet (C := fun w' => ∃ k, w' = w.drewN k) (Q := fun a' => ∀ w', (∃ k, w' = w.drewN k) → Q .normal a' w') rfl (fun _ w' hw' h => h w' hw') _ _ _ _ hC ?_)
  have := wpAnyQIn_lex (F := Fence.wide) (n := n) (C := fun w' => ∃ k, w' = w.drewN k) (md := .any) hB2.1 ol.toArray.toList 0 (Array.replicate ol.toArray.size false) a (by simp) (by simpa using hB2.2) (by simpa using h)
  simpa using this
end Go.Proofs.Ytenfeekchggioaa
