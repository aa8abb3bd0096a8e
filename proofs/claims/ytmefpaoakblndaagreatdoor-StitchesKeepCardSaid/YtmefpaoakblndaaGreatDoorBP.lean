/- Regions that draw their order, where the last store hits what was read. No program is named here. -/
import Derived.Test.YtmefpaoakblndaaGreatDoorBK
namespace Go.Proofs.YtmefpaoakblndaaGreatDoor
open Go.RowKit

section
variable {P : Program} {ops : Array Oper} {md : Region.Mode}
/-! The same where one operation, for which all that is taken is waited, may end S: a store into what was read. -/
def wpG (P : Program) (md : Region.Mode) (ops : Array Oper) (Q : Exit → Act → World → Prop) (S : World → Prop) (x : Nat) : Nat → Array Bool → Act → World → Prop
  | 0, d, a, w => Region.ready md ops d = [] ∧ Q .normal a w
  | f + 1, d, a, w => (Region.ready md ops d = [] → Q .normal a w) ∧ ∀ i ∈ Region.ready md ops d, wpOp P ops Q i (fun a' w' => (i ≠ x → S w') ∧ wpG P md ops Q S x f (d.setIfInBounds i true) a' w') a w
theorem wpG_any {S : World → Prop} {Q : Exit → Act → World → Prop} {x : Nat} (f : Nat) : ∀ d a w, wpG P md ops Q S x f d a w → wpAny P md ops Q f d a w := by
  induction f with
  | zero => intro d a w h; exact h
  | succ f ih => intro d a w h; exact ⟨h.1, fun i hi => wpOp_mono (fun a' w' h' => ih _ a' w' h'.2) (h.2 i hi)⟩
theorem wpG_take {S : World → Prop} {Q : Exit → Act → World → Prop} {x i : Nat} {oi : Oper} {v : Value} (hi : ops[i]? = some oi) (hs : Region.noSelect ops = true) (hQ : ∀ c a w, Q (.panic c) (a.put oi.dst v) w → Q (.panic c) a w)
    (hx : Region.waitsFor md ops x i = true) (f : Nat) : ∀ d a w, (∀ j oj, ops[j]? = some oj → j ≠ i → d.getD j true = false → (∀ e ∈ oj.after, Region.binds md e = true → e.on ≠ i) → oi.apart ops oj = true) →
      i ∈ Region.ready md ops d → YieldsIf P ops S oi v a → S w → wpG P md ops Q S x f (d.setIfInBounds i true) (a.put oi.dst v) w → wpG P md ops Q S x (f + 1) d a w := by
  have hsel := Region.noSelect_spec hs
  induction f with
  | zero =>
    intro d a w _ hr hy hS H
    refine ⟨fun h => absurd (h ▸ hr) (by simp), fun j hj => ?_⟩
    rcases Nat.decEq j i with hne | rfl
    · have := ready_mono hj hne; rw [H.1] at this; cases this
    · exact hy.wpOp hi hS ⟨fun _ => hS, H⟩
  | succ f ih =>
    intro d a w hfree hr hy hS H
    refine ⟨fun h => absurd (h ▸ hr) (by simp), fun j hj => ?_⟩
    rcases Nat.decEq j i with hne | rfl
    · obtain ⟨hu, oj, hoj, hall⟩ := mem_ready.1 hj
      have hun := getD_both (mem_ready.1 hr).1
      have hfar : ∀ e ∈ oj.after, Region.binds md e = true → e.on ≠ i := fun e he hb h => by
        have h1 := hall e he hb
        rw [h, hun] at h1
        cases h1
      have hjx : j ≠ x := fun h => by
        subst h
        obtain ⟨o', ho', e, he, hb, hon⟩ := Region.waitsFor_spec hx
        obtain rfl := Option.some.inj (ho'.symm.trans hoj)
        exact hfar e he hb hon
      refine wpOp_mono (fun a' w' h => ⟨fun _ => h.2.1 hjx, ih (d.setIfInBounds j true) a' w' (fun k ok hk hki hku hkn => hfree k ok hk hki ?_ hkn) (ready_mono hr (Ne.symm hne)) h.1 (h.2.1 hjx) ?_⟩) (wpOp_putIf hoj (hfree j oj hoj hne hu hfar) (fun cs b => hsel i oi cs b hi) (fun cs b => hsel j oj cs b hoj) hQ hy (H.2 j (ready_mono hj hne)))
      · rcases Nat.decEq j k with hjk | rfl
        · rwa [getD_set_ne true hjk] at hku
        · exact hu
      · rw [Array.setIfInBounds_comm _ _ hne]; exact h.2.2
    · exact hy.wpOp hi hS ⟨fun _ => hS, H⟩
def prefG (md : Region.Mode) (ops : Array Oper) (x : Nat) : Nat → Nat → Array Bool → Bool
  | 0, _, _ => true
  | n + 1, k, d => (Region.ready md ops d).contains k && Region.free md ops d k && Region.waitsFor md ops x k && prefG md ops x n (k + 1) (d.setIfInBounds k true)
theorem takesG_any {S : World → Prop} {Q : Exit → Act → World → Prop} {x : Nat} {w : World} (hs : Region.noSelect ops = true) (hQ : ∀ (t : Option Tmp) v c a w, Q (.panic c) (Act.put a t v) w → Q (.panic c) a w) (hS : S w) (f : Nat) (l : List Oper) :
    ∀ k d a, (∀ j, j < l.length → l[j]? = ops[k + j]?) → prefG md ops x l.length k d = true → takesH P ops S (fun a' => wpG P md ops Q S x f (setUp l.length k d) a' w) l a → wpG P md ops Q S x (l.length + f) d a w := by
  induction l with
  | nil => intro k d a _ _ h; rw [List.length_nil, Nat.zero_add]; exact h
  | cons o l ih =>
    intro k d a hl hB ⟨v, hy, h⟩
    have h0 : ops[k]? = some o := by simpa using (hl 0 (by simp)).symm
    simp only [List.length_cons, prefG, Bool.and_eq_true] at hB
    rw [List.length_cons, show l.length + 1 + f = (l.length + f) + 1 by omega]
    refine wpG_take h0 hs (fun c a' w' => hQ _ _ c a' w') hB.1.2 (l.length + f) d a w (Region.free_spec h0 hB.1.1.2) (by simpa using hB.1.1.1) hy hS (ih (k + 1) _ _ (fun j hj => ?_) hB.2 h)
    have := hl (j + 1) (by simpa using hj)
    simpa [Nat.add_assoc, Nat.add_comm 1 j] using this
theorem region_takesG {id : Nat} {Q : Exit → Act → World → Prop} {a : Act} {w : World} {l : List Oper} (S : World → Prop) (n x : Nat) (hm : P.follows .mixedOrders = true) (hB : (Region.noSelect l.toArray && prefG .any l.toArray x n 0 (Array.replicate l.length false) && decide (n ≤ l.length)) = true)
    (hQ : ∀ (t : Option Tmp) v c a w, Q (.panic c) (Act.put a t v) w → Q (.panic c) a w) (hS : S w.drew)
    (h : takesH P l.toArray S (fun a' => wpG P .any l.toArray Q S x (l.length - n) (setUp n 0 (Array.replicate l.length false)) a' w.drew) (l.take n) a) : (Code.region id l.toArray true).wp P Q a w := by
  simp only [Bool.and_eq_true, decide_eq_true_eq] at hB
  have ht : (l.take n).length = n := by rw [List.length_take]; omega
  refine wp_region_any hm (wpG_any (S := S) (x := x) _ _ _ _ ?_)
  have := takesG_any (P := P) (md := .any) (w := w.drew) (x := x) hB.1.1 hQ hS (l.length - n) (l.take n) 0 (Array.replicate l.length false) a (fun j hj => by
    have : j < n := by omega
    simp [this]) (by rw [ht]; exact hB.1.2) (by rw [ht]; exact h)
  rw [ht, show n + (l.length - n) = l.length by omega] at this
  simpa using this
/-- One operation of that kind, taken by number. -/
theorem wpG_take1 {S : World → Prop} {Q : Exit → Act → World → Prop} {x i f : Nat} {oi : Oper} {v : Value} {d : Array Bool} {a : Act} {w : World} (hi : ops[i]? = some oi)
    (hB : (Region.noSelect ops && Region.free md ops d i && (Region.ready md ops d).contains i && Region.waitsFor md ops x i) = true) (hQ : ∀ c a w, Q (.panic c) (a.put oi.dst v) w → Q (.panic c) a w) (hy : YieldsIf P ops S oi v a) (hS : S w)
    (h : wpG P md ops Q S x f (d.setIfInBounds i true) (a.put oi.dst v) w) : wpG P md ops Q S x (f + 1) d a w := by
  simp only [Bool.and_eq_true] at hB
  exact wpG_take hi hB.1.1.1 hQ hB.2 f d a w (Region.free_spec hi hB.1.1.2) (by simpa using hB.1.2) hy hS h
/-- The only one that may come up. -/
theorem wpG_only {S : World → Prop} {Q : Exit → Act → World → Prop} {x i f : Nat} {oi : Oper} {d : Array Bool} {a : Act} {w : World} (hi : ops[i]? = some oi) (hg : oi.guard = none) (hr : Region.ready md ops d = [i])
    (h : ∀ K : Act → World → Prop, (∀ a w, (i ≠ x → S w) → wpG P md ops Q S x f (d.setIfInBounds i true) a w → K a w) → oi.wp P a w K Q) : wpG P md ops Q S x (f + 1) d a w := by
  refine ⟨fun h0 => (by rw [hr] at h0; cases h0), fun j hj => ?_⟩
  rw [hr] at hj
  obtain rfl : j = i := by simpa using hj
  refine wpOp_step hi fun K hK => ?_
  have hw : Region.wanted oi (yielded ops a.tmps) = true := by simp [Region.wanted, hg]
  rw [if_pos hw]
  exact h K fun a w hS hG => hK a w ⟨hS, hG⟩
theorem wpG_done {S : World → Prop} {Q : Exit → Act → World → Prop} {x : Nat} {d : Array Bool} {a : Act} {w : World} (hr : Region.ready md ops d = []) (h : Q .normal a w) : ∀ f, wpG P md ops Q S x f d a w
  | 0 => ⟨hr, h⟩
  | _ + 1 => ⟨fun _ => h, fun i hi => by rw [hr] at hi; cases hi⟩
end
end Go.Proofs.YtmefpaoakblndaaGreatDoor
