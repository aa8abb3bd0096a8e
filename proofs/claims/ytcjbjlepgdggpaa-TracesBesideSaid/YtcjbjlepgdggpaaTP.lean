/- A region that draws its order and holds allocations whose place in the order is free: my own law. -/
import Derived.Test.YtcjbjlepgdggpaaTQ
namespace Go.Proofs.Ytcjbjlepgdggpaa
open Go.RowKit Go.Lib
section
variable {P : Program} {ops : Array Oper} {md : Region.Mode}
/-- In state a, in every world of S, the operation yields v and only grows the heap. -/
def YR (P : Program) (ops : Array Oper) (S : World → Prop) (o : Oper) (v : Value) (a : Act) : Prop :=
  (Region.wanted o (yielded ops a.tmps) = true ∧ ∀ w, S w → o.quietAt P a (fun w' => Below w.heap.size w w') w v) ∨
  (Region.wanted o (yielded ops a.tmps) = false ∧ v = undef)
theorem YR.of_same {S : World → Prop} {o : Oper} {v : Value} {a a' : Act} (hy : YR P ops S o v a) (he : execOp a'.eval o = execOp a.eval o)
    (hw : Region.wanted o (yielded ops a'.tmps) = Region.wanted o (yielded ops a.tmps)) : YR P ops S o v a' := by
  unfold YR Oper.quietAt at *
  rw [he, hw]
  exact hy
def upd (β : Nat → Nat) (i b : Nat) : Nat → Nat := fun k => if k = i then b else β k
def headsX (P : Program) (md : Region.Mode) (ops : Array Oper) (S : World → Prop) (n m : Nat) (L : Array Bool → Act → (Nat → Nat) → Prop) : Nat → Array Bool → Act → (Nat → Nat) → Prop
  | 0, d, a, β => L d a β
  | f + 1, d, a, β => Region.ready md ops d ≠ [] ∧ ∀ i ∈ Region.ready md ops d, i < n ∧ ∃ o, ops[i]? = some o ∧
      ((m ≤ i ∧ ∀ b, headsX P md ops S n m L f (d.setIfInBounds i true) (a.put o.dst (.pointer (some ⟨b, 0, none⟩))) (upd β i b)) ∨
       (i < m ∧ ∃ v, YR P ops S o v a ∧ headsX P md ops S n m L f (d.setIfInBounds i true) (a.put o.dst v) β))
/-- What the allocations that have come up have left. -/
def FX (W0 : World) (Z : Nat → Obj) (n m : Nat) (d : Array Bool) (β : Nat → Nat) (w : World) : Prop :=
  (∀ i, m ≤ i → i < n → d.getD i false = true → W0.heap.size ≤ β i ∧ β i < w.heap.size ∧ w.heap[β i]? = some (Z i)) ∧
  (∀ i j, m ≤ i → i < n → m ≤ j → j < n → i ≠ j → d.getD i false = true → d.getD j false = true → β i ≠ β j)
theorem FX.below {W0 : World} {Z : Nat → Obj} {n m : Nat} {d : Array Bool} {β : Nat → Nat} {w w' : World} (h : FX W0 Z n m d β w) (hb : Below w.heap.size w w') : FX W0 Z n m d β w' :=
  ⟨fun i h1 h2 h3 => by
    obtain ⟨k1, k2, k3⟩ := h.1 i h1 h2 h3
    exact ⟨k1, Nat.lt_of_lt_of_le k2 hb.size, by rw [hb.block _ k2]; exact k3⟩, h.2⟩
theorem getD_set_eq {d : Array Bool} {i j : Nat} (h : (d.setIfInBounds i true).getD j false = true) (hne : j ≠ i) : d.getD j false = true := by
  rwa [getD_set_ne false (Ne.symm hne)] at h
theorem quietAt_mono {C C' : World → Prop} {o : Oper} {a : Act} {w : World} {v : Value} (h : ∀ w, C w → C' w) (hq : o.quietAt P a C w v) : o.quietAt P a C' w v := by
  unfold Oper.quietAt at *
  generalize (execOp a.eval o).run P w = r at *
  cases r with
  | ok n w' =>
    cases n <;> simp only [Oper.quietUpon] at *
    case value u => exact hq
    case skip => exact hq
    case enter f args => exact ⟨hq.1, hq.2.mono fun e w'' ⟨he, hw⟩ => ⟨he, h _ hw⟩⟩
  | halt x w' => simp only [Oper.quietUpon] at hq
theorem headsX_any {W0 : World} {Z : Nat → Obj} {n m g : Nat} {L : Array Bool → Act → (Nat → Nat) → Prop} {Q' : Exit → Act → World → Prop}
    (hA : ∀ i o, m ≤ i → i < n → ops[i]? = some o → o.guard = none ∧ ∀ (a : Act) (w : World), (execOp a.eval o).run P w = .ok (.value (.pointer (some ⟨w.heap.size, 0, none⟩))) (w.alloc (Z i)))
    (hL : ∀ d a β w, Below W0.heap.size W0 w → FX W0 Z n m d β w → L d a β → wpAny P md ops Q' g d a w) (f : Nat) :
    ∀ d a β w, Below W0.heap.size W0 w → FX W0 Z n m d β w → headsX P md ops (fun w => Below W0.heap.size W0 w) n m L f d a β → wpAny P md ops Q' (f + g) d a w := by
  induction f with
  | zero => intro d a β w hS hF h; rw [Nat.zero_add]; exact hL d a β w hS hF h
  | succ f ih =>
    intro d a β w hS hF h
    rw [show f + 1 + g = (f + g) + 1 by omega]
    refine ⟨fun h0 => absurd h0 h.1, fun i hi => ?_⟩
    obtain ⟨hin, o, ho, hc⟩ := h.2 i hi
    unfold wpOp
    simp only [ho]
    rcases hc with ⟨hm, hb⟩ | ⟨hm, v, hy, hk⟩
    · obtain ⟨hg, hr⟩ := hA i o hm hin ho
      have hw : Region.wanted o (yielded ops a.tmps) = true := by simp [Region.wanted, hg]
      rw [if_pos hw]
      refine .inl ?_
      unfold Oper.wp
      rw [hr]
      simp only [Oper.upon]
      refine ih _ _ (upd β i w.heap.size) _ (hS.alloc hS.size _) ?_ (hb w.heap.size)
      have hF' := hF.below (below_alloc w (Z i))
      refine ⟨fun k h1 h2 h3 => ?_, fun j k j1 j2 k1 k2 hne j3 k3 => ?_⟩
      · unfold upd
        by_cases hk : k = i
        · subst hk
          rw [if_pos rfl]
          exact ⟨hS.size, by simp, heap_alloc_new _ _⟩
        · rw [if_neg hk]
          exact hF'.1 k h1 h2 (getD_set_eq h3 hk)
      · unfold upd
        by_cases hj : j = i
        · subst hj
          have hk : k ≠ j := Ne.symm hne
          rw [if_pos rfl, if_neg hk]
          have := (hF.1 k k1 k2 (getD_set_eq k3 hk)).2.1
          omega
        · rw [if_neg hj]
          by_cases hk : k = i
          · rw [if_pos hk]
            have := (hF.1 j j1 j2 (getD_set_eq j3 hj)).2.1
            omega
          · rw [if_neg hk]
            exact hF.2 j k j1 j2 k1 k2 hne (getD_set_eq j3 hj) (getD_set_eq k3 hk)
    · have hstep : ∀ w', Below w.heap.size w w' → wpAny P md ops Q' (f + g) (d.setIfInBounds i true) (a.put o.dst v) w' := fun w' hb =>
        ih _ _ β w' (hS.trans (hb.mono hS.size)) (by
          have hF2 := hF.below hb
          exact ⟨fun k h1 h2 h3 => hF2.1 k h1 h2 (getD_set_eq h3 (by omega)), fun j k j1 j2 k1 k2 hne j3 k3 => hF2.2 j k j1 j2 k1 k2 hne (getD_set_eq j3 (by omega)) (getD_set_eq k3 (by omega))⟩) hk
      rcases hy with ⟨hw, hv⟩ | ⟨hw, rfl⟩
      · rw [if_pos hw]
        refine .inl (Oper.wp_of_quiet (C := fun w' => Below w.heap.size w w') (Below.refl _ _) (K := fun a' => a' = a.put o.dst v) (fun a' w' hb he => by subst he; exact hstep w' hb) ⟨v, fun w1 h1 => ?_, rfl⟩)
        exact quietAt_mono (fun w2 h2 => h1.trans (h2.mono h1.size)) (hv w1 (hS.trans (h1.mono hS.size)))
      · rw [if_neg (by rw [hw]; decide)]
        exact hstep w (Below.refl _ _)
theorem headsX_take {S : World → Prop} {n m i : Nat} {oi : Oper} {v : Value} {L : Array Bool → Act → (Nat → Nat) → Prop} (hi : ops[i]? = some oi) (hsel : ∀ (j : Nat) (o : Oper) cs b, ops[j]? = some o → o.op ≠ .select cs b)
    (hs : Region.sinkB md ops n = true) (hc : Region.chainB md ops n = true) (hn : n < ops.size) (him : i < m) (hmn : m ≤ n) (hend : ∀ d a β, L d a β → ∀ j ∈ Region.ready md ops d, n ≤ j) (f : Nat) :
    ∀ d a β, HeadInv md ops n d → (∀ j oj, ops[j]? = some oj → j ≠ i → d.getD j true = false → (∀ e ∈ oj.after, Region.binds md e = true → e.on ≠ i) → oi.apart ops oj = true) →
      i ∈ Region.ready md ops d → YR P ops S oi v a → headsX P md ops S n m L f (d.setIfInBounds i true) (a.put oi.dst v) β → headsX P md ops S n m L (f + 1) d a β := by
  have hin : i < n := by omega
  induction f with
  | zero =>
    intro d a β inv _ hr hy H
    refine ⟨List.ne_nil_of_mem hr, fun j hj => ?_⟩
    have hlt : j < n := Nat.lt_of_not_le fun h => tail_waits hs hc hn inv _ i rfl hin (mem_ready.1 hr).1 j h hj
    refine ⟨hlt, ?_⟩
    rcases Nat.decEq j i with hne | rfl
    · exact absurd (hend _ _ _ H j (ready_mono hj hne)) (by omega)
    · exact ⟨oi, hi, .inr ⟨him, v, hy, H⟩⟩
  | succ f ih =>
    intro d a β inv hfree hr hy H
    refine ⟨List.ne_nil_of_mem hr, fun j hj => ?_⟩
    have hlt : j < n := Nat.lt_of_not_le fun h => tail_waits hs hc hn inv _ i rfl hin (mem_ready.1 hr).1 j h hj
    refine ⟨hlt, ?_⟩
    rcases Nat.decEq j i with hne | rfl
    · obtain ⟨hu, oj, hoj, hall⟩ := mem_ready.1 hj
      have hfar : ∀ e ∈ oj.after, Region.binds md e = true → e.on ≠ i := fun e he hb h => by
        have h1 := hall e he hb
        rw [h, getD_both (mem_ready.1 hr).1] at h1
        cases h1
      obtain ⟨p1, p2, p3⟩ := Oper.apart_spec (hfree j oj hoj hne hu hfar)
      obtain ⟨_, o', ho', H3⟩ := H.2 j (ready_mono hj hne)
      obtain rfl : oj = o' := Option.some.inj (hoj.symm.trans ho')
      have keep : ∀ u, YR P ops S oi v (a.put oj.dst u) := fun u =>
        hy.of_same (execOp_put oi (fun cs b => hsel i oi cs b hi) a oj.dst u p3) (wanted_put oi a oj.dst u p3)
      have hfree' : ∀ k ok, ops[k]? = some ok → k ≠ i → (d.setIfInBounds j true).getD k true = false → (∀ e ∈ ok.after, Region.binds md e = true → e.on ≠ i) → oi.apart ops ok = true := fun k ok hk hki hku hkn => by
        refine hfree k ok hk hki ?_ hkn
        rcases Nat.decEq j k with hjk | rfl
        · rwa [getD_set_ne true hjk] at hku
        · exact hu
      refine ⟨oj, hoj, ?_⟩
      rcases H3 with ⟨hm, H4⟩ | ⟨hm, u, hyj, H4⟩
      · refine .inl ⟨hm, fun b => ?_⟩
        refine ih (d.setIfInBounds j true) _ _ (inv.set hj hlt) hfree' (ready_mono hr (Ne.symm hne)) (keep _) ?_
        rw [Array.setIfInBounds_comm _ _ hne, ← Act.put_comm a v _ p2]
        exact H4 b
      · refine .inr ⟨hm, u, hyj.of_same (execOp_put oj (fun cs b => hsel j oj cs b hoj) a oi.dst v p1).symm (wanted_put oj a oi.dst v p1).symm, ?_⟩
        refine ih (d.setIfInBounds j true) _ _ (inv.set hj hlt) hfree' (ready_mono hr (Ne.symm hne)) (keep _) ?_
        rw [Array.setIfInBounds_comm _ _ hne, ← Act.put_comm a v _ p2]
        exact H4
    · exact ⟨oi, hi, .inr ⟨him, v, hy, H⟩⟩
/-- The allocations that are left, in whatever order. -/
def aph (ops : Array Oper) (R : Act → (Nat → Nat) → Prop) : Nat → List Nat → Act → (Nat → Nat) → Prop
  | 0, _, a, β => R a β
  | f + 1, ks, a, β => ∀ i ∈ ks, ∀ o, ops[i]? = some o → ∀ b, aph ops R f (ks.erase i) (a.put o.dst (.pointer (some ⟨b, 0, none⟩))) (upd β i b)
def aB (md : Region.Mode) (ops : Array Oper) (g n m : Nat) : Nat → List Nat → Array Bool → Bool
  | 0, _, d => Region.seqB md ops g n d && (List.range n).all fun i => d.getD i false
  | f + 1, ks, d => decide (Region.ready md ops d = ks) && !ks.isEmpty && ks.all fun i => decide (m ≤ i) && decide (i < n) && decide (i < ops.size) && aB md ops g n m f (ks.erase i) (d.setIfInBounds i true)
def LX (md : Region.Mode) (ops : Array Oper) (g n : Nat) (R : Act → (Nat → Nat) → Prop) (d : Array Bool) (a : Act) (β : Nat → Nat) : Prop :=
  Region.seqB md ops g n d = true ∧ (∀ i, i < n → d.getD i false = true) ∧ R a β
theorem headsX_aph {S : World → Prop} {n m g : Nat} {R : Act → (Nat → Nat) → Prop} (f : Nat) :
    ∀ ks d a β, aB md ops g n m f ks d = true → aph ops R f ks a β → headsX P md ops S n m (LX md ops g n R) f d a β := by
  induction f with
  | zero =>
    intro ks d a β hB h
    simp only [aB, Bool.and_eq_true] at hB
    exact ⟨hB.1, fun i hi => List.all_eq_true.1 hB.2 i (List.mem_range.2 hi), h⟩
  | succ f ih =>
    intro ks d a β hB h
    simp only [aB, Bool.and_eq_true, decide_eq_true_eq] at hB
    obtain ⟨⟨hr, hne⟩, hall⟩ := hB
    refine ⟨by rw [hr]; intro h0; rw [h0] at hne; simp at hne, fun i hi => ?_⟩
    rw [hr] at hi
    have h1 := List.all_eq_true.1 hall i hi
    simp only [Bool.and_eq_true, decide_eq_true_eq] at h1
    obtain ⟨⟨⟨hm, hn⟩, hs⟩, hk⟩ := h1
    obtain ⟨o, ho⟩ : ∃ o, ops[i]? = some o := ⟨_, Array.getElem?_eq_getElem hs⟩
    exact ⟨hn, o, ho, .inl ⟨hm, fun b => ih _ _ _ _ hk (h i hi o ho b)⟩⟩
/-- The lexical walk of the head's first part. -/
def wpLex (P : Program) (ops : Array Oper) (S : World → Prop) (Q : Act → Prop) : List Oper → Act → Prop
  | [], a => Q a
  | o :: rest, a => ∃ v, YR P ops S o v a ∧ wpLex P ops S Q rest (a.put o.dst v)
def lexA (md : Region.Mode) (ops : Array Oper) (g n m : Nat) (ks : List Nat) : Nat → Nat → Array Bool → Bool
  | 0, _, d => aB md ops g n m ks.length ks d
  | f + 1, k, d => (Region.ready md ops d).contains k && Region.free md ops d k && lexA md ops g n m ks f (k + 1) (d.setIfInBounds k true)
theorem LX.ready {g n : Nat} {R : Act → (Nat → Nat) → Prop} {d : Array Bool} {a : Act} {β : Nat → Nat} (h : LX md ops g n R d a β) : ∀ j ∈ Region.ready md ops d, n ≤ j := seqB_ready h.1
theorem headsX_lex {S : World → Prop} {n m g : Nat} {ks : List Nat} {R : Act → (Nat → Nat) → Prop} {β : Nat → Nat} (hsel : Region.noSelect ops = true) (hs : Region.sinkB md ops n = true) (hc : Region.chainB md ops n = true) (hn : n < ops.size) (hmn : m ≤ n) (l : List Oper) :
    ∀ k d a, (∀ j, j < l.length → l[j]? = ops[k + j]?) → k + l.length = m → HeadInv md ops n d → lexA md ops g n m ks l.length k d = true → wpLex P ops S (fun a' => aph ops R ks.length ks a' β) l a →
      headsX P md ops S n m (LX md ops g n R) (l.length + ks.length) d a β := by
  induction l with
  | nil =>
    intro k d a _ _ _ hB h
    rw [List.length_nil, Nat.zero_add]
    exact headsX_aph _ _ _ _ _ hB h
  | cons o l ih =>
    intro k d a hl hk inv hB h
    have h0 : ops[k]? = some o := by simpa using (hl 0 (by simp)).symm
    simp only [List.length_cons] at hk
    simp only [List.length_cons, lexA, Bool.and_eq_true] at hB
    have hr : k ∈ Region.ready md ops d := by simpa using hB.1.1
    obtain ⟨v, hy, hK⟩ := h
    rw [List.length_cons, show l.length + 1 + ks.length = (l.length + ks.length) + 1 by omega]
    refine headsX_take h0 (Region.noSelect_spec hsel) hs hc hn (by omega) hmn (fun d' a' β' h' => LX.ready h') (l.length + ks.length) d a β inv (Region.free_spec h0 hB.1.2) hr hy ?_
    refine ih (k + 1) _ _ (fun j hj => ?_) (by omega) (inv.set hr (by omega)) hB.2 hK
    have := hl (j + 1) (by simpa using hj)
    simpa [Nat.add_assoc, Nat.add_comm 1 j] using this
def alTailB (md : Region.Mode) (ops : Array Oper) (m n : Nat) (ks : List Nat) : Bool :=
  Region.noSelect ops && decide (n < ops.size) && decide (m + ks.length = n) && Region.sinkB md ops n && Region.chainB md ops n && lexA md ops (ops.size - n) n m ks m 0 (Array.replicate ops.size false)
def tailR (P : Program) (Q : Exit → Act → World → Prop) (l : List Oper) (m n : Nat) (Z : Nat → Obj) (w : World) (a2 : Act) (β : Nat → Nat) : Prop :=
  ∀ w', Below w.heap.size w w' → (∀ i, m ≤ i → i < n → w.heap.size ≤ β i ∧ β i < w'.heap.size ∧ w'.heap[β i]? = some (Z i)) → (∀ i j, m ≤ i → i < n → m ≤ j → j < n → i ≠ j → β i ≠ β j) → wpList P l.toArray Q (l.drop n) a2 w'
/-- THE LAW: m operations that yield values, then allocations in whatever order among them, then a tail in one order. -/
theorem wp_region_alloc {id : Nat} {Q : Exit → Act → World → Prop} {a : Act} {w : World} {l : List Oper} (m n : Nat) (ks : List Nat) (Z : Nat → Obj) (hm : P.follows .mixedOrders = true) (hB : alTailB .any l.toArray m n ks = true)
    (hA : ∀ i o, m ≤ i → i < n → l.toArray[i]? = some o → o.guard = none ∧ ∀ (a : Act) (w : World), (execOp a.eval o).run P w = .ok (.value (.pointer (some ⟨w.heap.size, 0, none⟩))) (w.alloc (Z i)))
    (h : wpLex P l.toArray (fun w' => Below w.heap.size w w') (fun a' => aph l.toArray (tailR P Q l m n Z w) ks.length ks a' fun _ => 0) (l.take m) a) :
    (Code.region id l.toArray true).wp P Q a w := by
  simp only [alTailB, Bool.and_eq_true, decide_eq_true_eq] at hB
  obtain ⟨⟨⟨⟨⟨hsel, hn⟩, hk⟩, hs⟩, hc⟩, hlex⟩ := hB
  have hlt : n < l.length := by simpa using hn
  have hsz : l.toArray.size = l.length := by simp
  have ht : (l.take m).length = m := by rw [List.length_take]; omega
  have hd : (l.drop n).length = l.toArray.size - n := by simp
  have start : HeadInv .any l.toArray n (Array.replicate l.toArray.size false) :=
    ⟨by simp, fun j oj _ hl => (by rw [getD_replicate_false] at hl; cases hl), fun t _ h' => getD_in (by simpa using h') (getD_replicate_false _ _)⟩
  have hS : Below w.heap.size w w.drew := (Below.refl _ _).drew
  have H := headsX_lex (P := P) (m := m) (ks := ks) (S := fun w' => Below w.heap.size w w') (md := .any) (g := l.toArray.size - n) (β := fun _ => 0) hsel hs hc hn (by omega) (l.take m) 0 _ a (fun j hj => by
    have : j < m := by rw [ht] at hj; exact hj
    simp [this]) (by rw [ht]; omega) start (by rw [ht]; exact hlex) h
  have := headsX_any (P := P) (W0 := w) (Z := Z) (Q' := Q) (g := l.toArray.size - n) (L := LX .any l.toArray (l.toArray.size - n) n (tailR P Q l m n Z w)) hA (fun d a' β w' hw' hF hL => by
    have h1 := wpAny_of_seq (md := .any) (Q' := Q) (l.drop n) n d a' w' (fun j => by simp [List.getElem?_drop]) (by rw [hd]; exact hL.1)
      (hL.2.2 w' hw' (fun i h1 h2 => hF.1 i h1 h2 (hL.2.1 i h2)) (fun i j i1 i2 j1 j2 hne => hF.2 i j i1 i2 j1 j2 hne (hL.2.1 i i2) (hL.2.1 j j2)))
    rwa [hd] at h1) _ _ _ _ _ hS ⟨fun i h1 h2 h3 => (by rw [getD_replicate_false] at h3; cases h3), fun i j i1 i2 j1 j2 hne h3 => (by rw [getD_replicate_false] at h3; cases h3)⟩ H
  rw [ht, show m + ks.length + (l.toArray.size - n) = l.toArray.size by omega] at this
  exact wp_region_any hm this
/-! The steps of the walk. -/
variable {S : World → Prop}
theorem lex_load {Q : Act → Prop} {a : Act} {o : Oper} {rest : List Oper} (hg : o.guard = none) (ty : TypeId) (x : Operand) (ho : o.op = .load ty x) (b off : Nat) (hx : a.eval x = .pointer (some ⟨b, off, none⟩)) (cs : List Value) (d : TypeDesc)
    (hS : ∀ w, S w → w.rangeAt b off cs) (hu : P.underlying ty = some d) (hd : d.isRow = true) (hi : (P.info? ty).map (·.size) = some cs.length)
    (h : wpLex P ops S Q rest (a.put o.dst (.agg cs.toArray))) : wpLex P ops S Q (o :: rest) a := by
  refine ⟨_, .inl ⟨by simp [Region.wanted, hg], fun w hw' => ?_⟩, h⟩
  unfold Oper.quietAt execOp
  simp only [ho, hx, Sem.run_bind, run_loadAt_mid w b off ty cs d (hS w hw') hu hd hi, Result.andThen_ok, Sem.run_pure]
  exact ⟨rfl, rfl⟩
theorem lex_load1 {Q : Act → Prop} {a : Act} {o : Oper} {rest : List Oper} (hg : o.guard = none) (ty : TypeId) (x : Operand) (ho : o.op = .load ty x) (ad : Addr) (hx : a.eval x = .pointer (some ad)) (v : Value)
    (hl : ∀ w, w.cell? ad = some v → (Instr.loadAt ty (.pointer (some ad))).run P w = .ok v w) (hS : ∀ w, S w → w.cell? ad = some v)
    (h : wpLex P ops S Q rest (a.put o.dst v)) : wpLex P ops S Q (o :: rest) a := by
  refine ⟨_, .inl ⟨by simp [Region.wanted, hg], fun w hw' => ?_⟩, h⟩
  unfold Oper.quietAt execOp
  simp only [ho, hx, Sem.run_bind, hl w (hS w hw'), Result.andThen_ok, Sem.run_pure]
  exact ⟨rfl, rfl⟩
theorem lex_call {Q : Act → Prop} {a : Act} {o : Oper} {rest : List Oper} (hg : o.guard = none) (f : FuncId) (args : List Operand) (ts : Array TypeId) (ho : o.op = .call { callee := .value (.func f), args := args.toArray, argTypes := ts }) (hent : ∀ args w, (callFunc f args).run P w = .ok (.enter f args) w) (v : Value)
    (hS : ∀ w, Calls P f (args.map a.eval).toArray w fun e w' => e = .returned v ∧ Below w.heap.size w w')
    (h : wpLex P ops S Q rest (a.put o.dst v)) : wpLex P ops S Q (o :: rest) a := by
  refine ⟨v, .inl ⟨by simp [Region.wanted, hg], fun w hw' => ?_⟩, h⟩
  have hc := hS w
  unfold Oper.quietAt execOp
  simp [ho, resolve, invoke, Act.eval, go_sem, hent, Oper.quietUpon]
  exact hc
theorem lex_still {Q : Act → Prop} {a : Act} {o : Oper} {rest : List Oper} (hg : o.guard = none) (v : Value) (hS : ∀ w, (execOp a.eval o).run P w = .ok (.value v) w)
    (h : wpLex P ops S Q rest (a.put o.dst v)) : wpLex P ops S Q (o :: rest) a := by
  refine ⟨v, .inl ⟨by simp [Region.wanted, hg], fun w hw' => ?_⟩, h⟩
  unfold Oper.quietAt
  rw [hS w]
  exact ⟨rfl, rfl⟩
end
open Go.RowKit Go.Lib
theorem hb_new {W : World} {b : Nat} {vs : Array Value} {T : TypeId} (h : b = W.heap.size) : (W.alloc (.cells vs T)).heap[b]? = some (.cells vs T (0, 0)) := by subst h; exact heap_alloc_new W _
theorem hb_below {W W' : World} {b n : Nat} {o : Option Obj} (hb : Below n W W') (h : W.heap[b]? = o) (hn : b < n) : W'.heap[b]? = o := (hb.block _ hn).trans h
theorem hb_old {W : World} {b : Nat} {o : Option Obj} {o' : Obj} (h : W.heap[b]? = o) (hn : b < W.heap.size) : (W.alloc o').heap[b]? = o := hb_below (below_alloc W o') h hn
theorem hb_drew {W : World} {b : Nat} {o : Option Obj} (h : W.heap[b]? = o) : W.drew.heap[b]? = o := h
theorem range_of_heap {W : World} {b : Nat} {vs : List Value} {T : TypeId} (h : W.heap[b]? = some (.cells vs.toArray T (0, 0))) : W.rangeAt b 0 vs := fun j v hv => by
  rw [Nat.zero_add, cell_of_row _ _ j _ _ _ h, List.getElem?_toArray, hv]
theorem frozen_of_heap {W : World} {b : Nat} {vs : Array Value} {T : TypeId} (h : W.heap[b]? = some (.cells vs T (0, 0))) (j : Nat) : W.frozen? ⟨b, j, none⟩ = false := by
  simp [World.frozen?, h]
theorem store_row {P : Program} {ops : Array Oper} {rest : List Oper} {o : Oper} {a : Act} {w : World} {Q : Exit → Act → World → Prop} (hgd : o.guard = none) (ty : TypeId) (x y : Operand) (ho : o.op = .store ty x y)
    (g : Nat) (cells : Array Value) (hx : a.eval x = .pointer (some ⟨g, 0, none⟩)) (hy : a.eval y = .agg cells)
    (t : TypeId) (old : Array Value) (hg : w.heap[g]? = some (.cells old t (0, 0))) (hi : (P.info? ty).map (·.size) = some cells.size)
    (hold : old.size = cells.size) (h1 : cells.all (·.oneCell') = true)
    (h : ∀ w', w'.heap[g]? = some (.cells cells t (0, 0)) → (∀ (k : Nat) (ob : Option Obj), w.heap[k]? = ob → k ≠ g → w'.heap[k]? = ob) → w'.heap.size = w.heap.size → (∀ B w0, Below B w0 w → B ≤ g → Below B w0 w') → wpList P ops Q rest (a.put o.dst undef) w') :
    wpList P ops Q (o :: rest) a w := by
  refine wpList_plain hgd fun K hK => ?_
  unfold Oper.wp execOp
  simp only [ho, hx, hy, Instr.storeAt, Instr.sureAddr, Sem.run_bind, Sem.run_pure, Result.andThen_ok, run_storeVar_row w g t ty old cells hg hi hold h1]
  refine hK _ _ (h _ ?_ ?_ ?_ ?_)
  · unfold World.setRow
    simp only [Array.getElem?_modify, if_pos, hg, Option.map_some]
  · intro k ob hk hne
    rw [← hk]
    unfold World.setRow
    simp only [Array.getElem?_modify, if_neg (Ne.symm hne)]
  · simp [World.setRow]
  · exact fun B w0 hb hB => below_setRow hb hB _
theorem upd_comm {β : Nat → Nat} {i j x y : Nat} (h : i ≠ j) : upd (upd β i x) j y = upd (upd β j y) i x := by
  funext k
  unfold upd
  by_cases h1 : k = i <;> by_cases h2 : k = j <;> simp_all
section
variable {ops : Array Oper} {R : Act → (Nat → Nat) → Prop} {a : Act} {β : Nat → Nat}
theorem aph1 {i : Nat} {oi : Oper} (hi : ops[i]? = some oi) (h : ∀ b, R (a.put oi.dst (.pointer (some ⟨b, 0, none⟩))) (upd β i b)) : aph ops R 1 [i] a β := by
  intro k hk o ho b
  obtain rfl : k = i := by simpa using hk
  obtain rfl : oi = o := Option.some.inj (hi.symm.trans ho)
  exact h b
theorem aph2 {i j : Nat} {oi oj : Oper} (hi : ops[i]? = some oi) (hj : ops[j]? = some oj) (hij : i ≠ j) (hd : ∀ d, oi.dst = some d → oj.dst ≠ some d)
    (h : ∀ b c, R ((a.put oi.dst (.pointer (some ⟨b, 0, none⟩))).put oj.dst (.pointer (some ⟨c, 0, none⟩))) (upd (upd β i b) j c)) : aph ops R 2 [i, j] a β := by
  intro k hk o ho b
  rcases List.mem_cons.1 hk with rfl | hk
  · obtain rfl : oi = o := Option.some.inj (hi.symm.trans ho)
    rw [show [k, j].erase k = [j] by simp]
    exact aph1 hj fun c => h b c
  · obtain rfl : k = j := by simpa using hk
    obtain rfl : oj = o := Option.some.inj (hj.symm.trans ho)
    rw [show [i, k].erase k = [i] by simp [hij]]
    refine aph1 hi fun c => ?_
    rw [← Act.put_comm a _ _ hd, ← upd_comm hij]
    exact h c b
theorem aph3 {i j k : Nat} {oi oj ok : Oper} (hi : ops[i]? = some oi) (hj : ops[j]? = some oj) (hk : ops[k]? = some ok) (hij : i ≠ j) (hik : i ≠ k) (hjk : j ≠ k)
    (d1 : ∀ d, oi.dst = some d → oj.dst ≠ some d) (d2 : ∀ d, oi.dst = some d → ok.dst ≠ some d) (d3 : ∀ d, oj.dst = some d → ok.dst ≠ some d)
    (h : ∀ b c e, R (((a.put oi.dst (.pointer (some ⟨b, 0, none⟩))).put oj.dst (.pointer (some ⟨c, 0, none⟩))).put ok.dst (.pointer (some ⟨e, 0, none⟩))) (upd (upd (upd β i b) j c) k e)) : aph ops R 3 [i, j, k] a β := by
  intro l hl o ho b
  rcases List.mem_cons.1 hl with rfl | hl
  · obtain rfl : oi = o := Option.some.inj (hi.symm.trans ho)
    rw [show [l, j, k].erase l = [j, k] by simp]
    exact aph2 hj hk hjk d3 fun c e => h b c e
  · rcases List.mem_cons.1 hl with rfl | hl
    · obtain rfl : oj = o := Option.some.inj (hj.symm.trans ho)
      rw [show [i, l, k].erase l = [i, k] by simp [hij]]
      refine aph2 hi hk hik d2 fun c e => ?_
      rw [← Act.put_comm a _ _ d1, ← upd_comm hij]
      exact h c b e
    · obtain rfl : l = k := by simpa using hl
      obtain rfl : ok = o := Option.some.inj (hk.symm.trans ho)
      rw [show [i, j, l].erase l = [i, j] by simp [hik, hjk]]
      refine aph2 hi hj hij d1 fun c e => ?_
      rw [← Act.put_comm a _ _ d2, ← Act.put_comm _ _ _ d3, ← upd_comm hik, ← upd_comm hjk]
      exact h c e b
theorem op_of {i : Nat} {t : Option Tmp} (h : (ops[i]?).map (·.dst) = some t) : ∃ o, ops[i]? = some o ∧ o.dst = t := by
  cases ho : ops[i]? with
  | none => rw [ho] at h; cases h
  | some o => rw [ho] at h; exact ⟨o, rfl, by simpa using h⟩
theorem aph1' (i : Nat) (t : Tmp) (hi : (ops[i]?).map (·.dst) = some (some t)) (h : ∀ b, R (a.put (some t) (.pointer (some ⟨b, 0, none⟩))) (upd β i b)) : aph ops R 1 [i] a β := by
  obtain ⟨o, ho, e⟩ := op_of hi
  exact aph1 ho fun b => by rw [e]; exact h b
theorem aph2' (i j : Nat) (t u : Tmp) (hi : (ops[i]?).map (·.dst) = some (some t)) (hj : (ops[j]?).map (·.dst) = some (some u)) (hij : i ≠ j) (htu : t ≠ u)
    (h : ∀ b c, R ((a.put (some t) (.pointer (some ⟨b, 0, none⟩))).put (some u) (.pointer (some ⟨c, 0, none⟩))) (upd (upd β i b) j c)) : aph ops R 2 [i, j] a β := by
  obtain ⟨o, ho, e⟩ := op_of hi
  obtain ⟨o', ho', e'⟩ := op_of hj
  refine aph2 ho ho' hij (fun d h1 h2 => ?_) (fun b c => by rw [e, e']; exact h b c)
  rw [e] at h1
  rw [e', ← h1] at h2
  exact htu (Option.some.inj h2).symm
theorem aph3' (i j k : Nat) (t u v : Tmp) (hi : (ops[i]?).map (·.dst) = some (some t)) (hj : (ops[j]?).map (·.dst) = some (some u)) (hk : (ops[k]?).map (·.dst) = some (some v)) (hij : i ≠ j) (hik : i ≠ k) (hjk : j ≠ k) (htu : t ≠ u) (htv : t ≠ v) (huv : u ≠ v)
    (h : ∀ b c e, R (((a.put (some t) (.pointer (some ⟨b, 0, none⟩))).put (some u) (.pointer (some ⟨c, 0, none⟩))).put (some v) (.pointer (some ⟨e, 0, none⟩))) (upd (upd (upd β i b) j c) k e)) : aph ops R 3 [i, j, k] a β := by
  obtain ⟨o, ho, e⟩ := op_of hi
  obtain ⟨o', ho', e'⟩ := op_of hj
  obtain ⟨o2, ho2, e2⟩ := op_of hk
  refine aph3 ho ho' ho2 hij hik hjk (fun d h1 h2 => ?_) (fun d h1 h2 => ?_) (fun d h1 h2 => ?_) (fun b c f => by rw [e, e', e2]; exact h b c f)
  · rw [e] at h1; rw [e', ← h1] at h2; exact htu (Option.some.inj h2).symm
  · rw [e] at h1; rw [e2, ← h1] at h2; exact htv (Option.some.inj h2).symm
  · rw [e'] at h1; rw [e2, ← h1] at h2; exact huv (Option.some.inj h2).symm
end
end Go.Proofs.Ytcjbjlepgdggpaa
