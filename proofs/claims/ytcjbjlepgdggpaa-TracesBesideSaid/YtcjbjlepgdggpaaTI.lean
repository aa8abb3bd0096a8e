/- A region that draws its order, with one allocation and one store of a whole row into it; operations that yield values may come up behind the store: my own law. -/
import Derived.Test.YtcjbjlepgdggpaaTP
namespace Go.Proofs.Ytcjbjlepgdggpaa
open Go.RowKit Go.Lib
set_option maxRecDepth 100000
section
variable {P : Program} {ops : Array Oper} {md : Region.Mode}
/-- The operation makes of the object Z in block b the object Z'. -/
def SR (P : Program) (Z Z' : Obj) (o : Oper) (b : Nat) (a : Act) : Prop :=
  o.guard = none ∧ ∀ w, w.heap[b]? = some Z → ∃ w', (execOp a.eval o).run P w = .ok .skip w' ∧ w'.heap[b]? = some Z' ∧ w'.heap.size = w.heap.size ∧ ∀ B w0, Below B w0 w → B ≤ b → Below B w0 w'
def headsY (P : Program) (md : Region.Mode) (ops : Array Oper) (S : World → Prop) (Z Z' : Obj) (n m : Nat) (L : Array Bool → Act → Nat → Prop) : Nat → Array Bool → Act → Nat → Prop
  | 0, d, a, b => L d a b
  | f + 1, d, a, b => Region.ready md ops d ≠ [] ∧ ∀ i ∈ Region.ready md ops d, i < n ∧ ∃ o, ops[i]? = some o ∧
      ((i = m ∧ ∀ b', headsY P md ops S Z Z' n m L f (d.setIfInBounds i true) (a.put o.dst (.pointer (some ⟨b', 0, none⟩))) b') ∨
       (i = m + 1 ∧ d.getD m false = true ∧ SR P Z Z' o b a ∧ headsY P md ops S Z Z' n m L f (d.setIfInBounds i true) (a.put o.dst undef) b) ∨
       (i < m ∧ ∃ v, YR P ops S o v a ∧ headsY P md ops S Z Z' n m L f (d.setIfInBounds i true) (a.put o.dst v) b))
def FY (W0 : World) (Z Z' : Obj) (m : Nat) (d : Array Bool) (b : Nat) (w : World) : Prop :=
  (d.getD (m + 1) false = true → d.getD m false = true) ∧ (d.getD m false = true → W0.heap.size ≤ b ∧ b < w.heap.size ∧ w.heap[b]? = some (if d.getD (m + 1) false = true then Z' else Z))
theorem FY.below {W0 : World} {Z Z' : Obj} {m : Nat} {d : Array Bool} {b : Nat} {w w' : World} (h : FY W0 Z Z' m d b w) (hb : Below w.heap.size w w') : FY W0 Z Z' m d b w' := ⟨h.1, fun h3 => by
  obtain ⟨k1, k2, k3⟩ := h.2 h3
  exact ⟨k1, Nat.lt_of_lt_of_le k2 hb.size, by rw [hb.block _ k2]; exact k3⟩⟩
theorem getD_set_at {d : Array Bool} {i : Nat} (h : i < d.size) : (d.setIfInBounds i true).getD i false = true := by
  simp [Array.getD, h]
theorem headsY_any {W0 : World} {Z Z' : Obj} {n m g : Nat} {L : Array Bool → Act → Nat → Prop} {Q' : Exit → Act → World → Prop}
    (hA : ∀ o, ops[m]? = some o → o.guard = none ∧ ∀ (a : Act) (w : World), (execOp a.eval o).run P w = .ok (.value (.pointer (some ⟨w.heap.size, 0, none⟩))) (w.alloc Z))
    (hL : ∀ d a b w, Below W0.heap.size W0 w → FY W0 Z Z' m d b w → L d a b → wpAny P md ops Q' g d a w) (f : Nat) :
    ∀ d a b w, Below W0.heap.size W0 w → FY W0 Z Z' m d b w → headsY P md ops (fun w => Below W0.heap.size W0 w) Z Z' n m L f d a b → wpAny P md ops Q' (f + g) d a w := by
  induction f with
  | zero => intro d a b w hS hF h; rw [Nat.zero_add]; exact hL d a b w hS hF h
  | succ f ih =>
    intro d a b w hS hF h
    rw [show f + 1 + g = (f + g) + 1 by omega]
    refine ⟨fun h0 => absurd h0 h.1, fun i hi => ?_⟩
    have hun : d.getD i true = false := (mem_ready.1 hi).1
    obtain ⟨hin, o, ho, hc⟩ := h.2 i hi
    unfold wpOp
    simp only [ho]
    rcases hc with ⟨rfl, hb⟩ | ⟨rfl, hdm, hsr, hk⟩ | ⟨hm, v, hy, hk⟩
    · obtain ⟨hg, hr⟩ := hA o ho
      have hw : Region.wanted o (yielded ops a.tmps) = true := by simp [Region.wanted, hg]
      rw [if_pos hw]
      refine .inl ?_
      unfold Oper.wp
      rw [hr]
      simp only [Oper.upon]
      have hsi : i < d.size := by
        rcases Nat.lt_or_ge i d.size with h' | h'
        · exact h'
        · simp [Array.getD, Nat.not_lt.2 h'] at hun
      have h2 : (d.setIfInBounds i true).getD (i + 1) false = false := by
        rw [getD_set_ne false (by omega)]
        cases hq : d.getD (i + 1) false with
        | false => rfl
        | true =>
          have h5 := hF.1 hq
          simp [Array.getD, hsi] at hun h5
          rw [hun] at h5
          cases h5
      refine ih _ _ w.heap.size _ (hS.alloc hS.size _) ⟨fun _ => getD_set_at hsi, fun _ => ?_⟩ (hb w.heap.size)
      refine ⟨hS.size, by simp, ?_⟩
      rw [h2]
      simp only [Bool.false_eq_true, if_false]
      exact heap_alloc_new _ _
    · obtain ⟨hg, hr⟩ := hsr
      obtain ⟨k1, k2, k3⟩ := hF.2 hdm
      have hne : d.getD (m + 1) false = false := by
        rcases Nat.lt_or_ge (m + 1) d.size with h' | h'
        · simp [Array.getD, h'] at hun ⊢; exact hun
        · simp [Array.getD, Nat.not_lt.2 h']
      rw [hne] at k3
      simp only [Bool.false_eq_true, if_false] at k3
      obtain ⟨w', e1, e2, e3, e4⟩ := hr w k3
      have hw : Region.wanted o (yielded ops a.tmps) = true := by simp [Region.wanted, hg]
      rw [if_pos hw]
      refine .inl ?_
      unfold Oper.wp
      rw [e1]
      simp only [Oper.upon]
      refine ih _ _ b _ (e4 _ _ hS k1) ⟨fun _ => by rw [getD_set_ne false (by omega)]; exact hdm, fun _ => ⟨k1, by omega, ?_⟩⟩ hk
      have hsz : m + 1 < d.size := by
        rcases Nat.lt_or_ge (m + 1) d.size with h' | h'
        · exact h'
        · simp [Array.getD, Nat.not_lt.2 h'] at hun
      rw [getD_set_at hsz, if_pos rfl]
      exact e2
    · have hstep : ∀ w', Below w.heap.size w w' → wpAny P md ops Q' (f + g) (d.setIfInBounds i true) (a.put o.dst v) w' := fun w' hb =>
        ih _ _ b w' (hS.trans (hb.mono hS.size)) (by
          have hF2 := hF.below hb
          refine ⟨fun h3 => ?_, fun h3 => ?_⟩
          · rw [getD_set_ne false (by omega)] at h3 ⊢
            exact hF2.1 h3
          · rw [getD_set_ne false (by omega)] at h3
            obtain ⟨q1, q2, q3⟩ := hF2.2 h3
            refine ⟨q1, q2, ?_⟩
            rw [getD_set_ne false (by omega)]
            exact q3) hk
      rcases hy with ⟨hw, hv⟩ | ⟨hw, rfl⟩
      · rw [if_pos hw]
        refine .inl (Oper.wp_of_quiet (C := fun w' => Below w.heap.size w w') (Below.refl _ _) (K := fun a' => a' = a.put o.dst v) (fun a' w' hb he => by subst he; exact hstep w' hb) ⟨v, fun w1 h1 => ?_, rfl⟩)
        exact quietAt_mono (fun w2 h2 => h1.trans (h2.mono h1.size)) (hv w1 (hS.trans (h1.mono hS.size)))
      · rw [if_neg (by rw [hw]; decide)]
        exact hstep w (Below.refl _ _)
theorem headsY_take {S : World → Prop} {Z Z' : Obj} {n m i : Nat} {oi : Oper} {v : Value} {L : Array Bool → Act → Nat → Prop} (hi : ops[i]? = some oi) (hsel : ∀ (j : Nat) (o : Oper) cs b, ops[j]? = some o → o.op ≠ .select cs b)
    (hs : Region.sinkB md ops n = true) (hc : Region.chainB md ops n = true) (hn : n < ops.size) (him : i < m) (hmn : m ≤ n) (hend : ∀ d a b, L d a b → ∀ j ∈ Region.ready md ops d, n ≤ j) (f : Nat) :
    ∀ d a b, HeadInv md ops n d → (∀ j oj, ops[j]? = some oj → j ≠ i → d.getD j true = false → (∀ e ∈ oj.after, Region.binds md e = true → e.on ≠ i) → oi.apart ops oj = true) →
      i ∈ Region.ready md ops d → YR P ops S oi v a → headsY P md ops S Z Z' n m L f (d.setIfInBounds i true) (a.put oi.dst v) b → headsY P md ops S Z Z' n m L (f + 1) d a b := by
  have hin : i < n := by omega
  induction f with
  | zero =>
    intro d a b inv _ hr hy H
    refine ⟨List.ne_nil_of_mem hr, fun j hj => ?_⟩
    have hlt : j < n := Nat.lt_of_not_le fun h => tail_waits hs hc hn inv _ i rfl hin (mem_ready.1 hr).1 j h hj
    refine ⟨hlt, ?_⟩
    rcases Nat.decEq j i with hne | rfl
    · exact absurd (hend _ _ _ H j (ready_mono hj hne)) (by omega)
    · exact ⟨oi, hi, .inr (.inr ⟨him, v, hy, H⟩)⟩
  | succ f ih =>
    intro d a b inv hfree hr hy H
    refine ⟨List.ne_nil_of_mem hr, fun j hj => ?_⟩
    have hlt : j < n := Nat.lt_of_not_le fun h => tail_waits hs hc hn inv _ i rfl hin (mem_ready.1 hr).1 j h hj
    refine ⟨hlt, ?_⟩
    rcases Nat.decEq j i with hne | rfl
    · obtain ⟨hu, oj, hoj, hall⟩ := mem_ready.1 hj
      have hfar : ∀ e ∈ oj.after, Region.binds md e = true → e.on ≠ i := fun e he hb h => by
        have h1 := hall e he hb
        rw [h, getD_both (mem_ready.1 hr).1] at h1
        cases h1
      obtain ⟨p1, p2, p3⟩ := Oper.apart_spec (hfree j oj hoj hne hu hfar)
      obtain ⟨_, o', ho', H3⟩ := H.2 j (ready_mono hj hne)
      obtain rfl : oj = o' := Option.some.inj (hoj.symm.trans ho')
      have keep : ∀ u, YR P ops S oi v (a.put oj.dst u) := fun u =>
        hy.of_same (execOp_put oi (fun cs b => hsel i oi cs b hi) a oj.dst u p3) (wanted_put oi a oj.dst u p3)
      have hfree' : ∀ k ok, ops[k]? = some ok → k ≠ i → (d.setIfInBounds j true).getD k true = false → (∀ e ∈ ok.after, Region.binds md e = true → e.on ≠ i) → oi.apart ops ok = true := fun k ok hk hki hku hkn => by
        refine hfree k ok hk hki ?_ hkn
        rcases Nat.decEq j k with hjk | rfl
        · rwa [getD_set_ne true hjk] at hku
        · exact hu
      refine ⟨oj, hoj, ?_⟩
      rcases H3 with ⟨hm, H4⟩ | ⟨hm, hdm, hsr, H4⟩ | ⟨hm, u, hyj, H4⟩
      · refine .inl ⟨hm, fun b' => ?_⟩
        refine ih (d.setIfInBounds j true) _ _ (inv.set hj hlt) hfree' (ready_mono hr (Ne.symm hne)) (keep _) ?_
        rw [Array.setIfInBounds_comm _ _ hne, ← Act.put_comm a v _ p2]
        exact H4 b'
      · refine .inr (.inl ⟨hm, ?_, ⟨hsr.1, fun w hw => ?_⟩, ?_⟩)
        · rw [getD_set_ne false (by omega)] at hdm; exact hdm
        · have h6 := hsr.2 w hw
          rw [execOp_put oj (fun cs b => hsel j oj cs b hoj) a oi.dst v p1] at h6
          exact h6
        · refine ih (d.setIfInBounds j true) _ _ (inv.set hj hlt) hfree' (ready_mono hr (Ne.symm hne)) (keep _) ?_
          rw [Array.setIfInBounds_comm _ _ hne, ← Act.put_comm a v _ p2]
          exact H4
      · refine .inr (.inr ⟨hm, u, hyj.of_same (execOp_put oj (fun cs b => hsel j oj cs b hoj) a oi.dst v p1).symm (wanted_put oj a oi.dst v p1).symm, ?_⟩)
        refine ih (d.setIfInBounds j true) _ _ (inv.set hj hlt) hfree' (ready_mono hr (Ne.symm hne)) (keep _) ?_
        rw [Array.setIfInBounds_comm _ _ hne, ← Act.put_comm a v _ p2]
        exact H4
    · exact ⟨oi, hi, .inr (.inr ⟨him, v, hy, H⟩)⟩
def LY (md : Region.Mode) (ops : Array Oper) (g n m : Nat) (R : Act → Nat → Prop) (d : Array Bool) (a : Act) (b : Nat) : Prop :=
  Region.seqB md ops g n d = true ∧ d.getD m false = true ∧ d.getD (m + 1) false = true ∧ R a b
theorem LY.ready {g n m : Nat} {R : Act → Nat → Prop} {d : Array Bool} {a : Act} {b : Nat} (h : LY md ops g n m R d a b) : ∀ j ∈ Region.ready md ops d, n ≤ j := seqB_ready h.1
def endY (md : Region.Mode) (ops : Array Oper) (g n m : Nat) (d : Array Bool) : Bool :=
  decide (Region.ready md ops d = [m]) && decide (Region.ready md ops (d.setIfInBounds m true) = [m + 1]) && Region.seqB md ops g n ((d.setIfInBounds m true).setIfInBounds (m + 1) true) && decide (m + 1 < d.size)
def lexY (md : Region.Mode) (ops : Array Oper) (g n m : Nat) : Nat → Nat → Array Bool → Bool
  | 0, _, d => endY md ops g n m d
  | f + 1, k, d => (Region.ready md ops d).contains k && Region.free md ops d k && lexY md ops g n m f (k + 1) (d.setIfInBounds k true)
def phY (P : Program) (ops : Array Oper) (Z Z' : Obj) (m : Nat) (R : Act → Nat → Prop) (a : Act) : Prop :=
  ∃ o o', ops[m]? = some o ∧ ops[m + 1]? = some o' ∧ ∀ b, SR P Z Z' o' b (a.put o.dst (.pointer (some ⟨b, 0, none⟩))) ∧ R ((a.put o.dst (.pointer (some ⟨b, 0, none⟩))).put o'.dst undef) b
theorem headsY_lex {S : World → Prop} {Z Z' : Obj} {n m g : Nat} {R : Act → Nat → Prop} {b : Nat} (hsel : Region.noSelect ops = true) (hs : Region.sinkB md ops n = true) (hc : Region.chainB md ops n = true) (hn : n < ops.size) (hmn : m + 2 = n) (l : List Oper) :
    ∀ k d a, (∀ j, j < l.length → l[j]? = ops[k + j]?) → k + l.length = m → HeadInv md ops n d → lexY md ops g n m l.length k d = true → wpLex P ops S (phY P ops Z Z' m R) l a →
      headsY P md ops S Z Z' n m (LY md ops g n m R) (l.length + 2) d a b := by
  induction l with
  | nil =>
    intro k d a _ _ _ hB h
    simp only [List.length_nil, lexY, endY, Bool.and_eq_true, decide_eq_true_eq] at hB
    obtain ⟨⟨⟨h1, h2⟩, h3⟩, h4⟩ := hB
    obtain ⟨o, o', ho, ho', hR⟩ := h
    rw [List.length_nil, Nat.zero_add]
    refine ⟨by rw [h1]; simp, fun i hi => ?_⟩
    rw [h1] at hi
    obtain rfl : i = m := by simpa using hi
    refine ⟨by omega, o, ho, .inl ⟨rfl, fun b' => ?_⟩⟩
    refine ⟨by rw [h2]; simp, fun j hj => ?_⟩
    rw [h2] at hj
    obtain rfl : j = i + 1 := by simpa using hj
    refine ⟨by omega, o', ho', .inr (.inl ⟨rfl, getD_set_at (by omega), (hR b').1, h3, ?_, getD_set_at (by simpa using h4), (hR b').2⟩)⟩
    rw [getD_set_ne false (by omega)]
    exact getD_set_at (by omega)
  | cons o l ih =>
    intro k d a hl hk inv hB h
    have h0 : ops[k]? = some o := by simpa using (hl 0 (by simp)).symm
    simp only [List.length_cons] at hk
    simp only [List.length_cons, lexY, Bool.and_eq_true] at hB
    have hr : k ∈ Region.ready md ops d := by simpa using hB.1.1
    obtain ⟨v, hy, hK⟩ := h
    rw [List.length_cons, show l.length + 1 + 2 = (l.length + 2) + 1 by omega]
    refine headsY_take h0 (Region.noSelect_spec hsel) hs hc hn (by omega) (by omega) (fun d' a' b' h' => LY.ready h') (l.length + 2) d a b inv (Region.free_spec h0 hB.1.2) hr hy ?_
    refine ih (k + 1) _ _ (fun j hj => ?_) (by omega) (inv.set hr (by omega)) hB.2 hK
    have := hl (j + 1) (by simpa using hj)
    simpa [Nat.add_assoc, Nat.add_comm 1 j] using this
def asB (md : Region.Mode) (ops : Array Oper) (m : Nat) : Bool :=
  Region.noSelect ops && decide (m + 2 < ops.size) && Region.sinkB md ops (m + 2) && Region.chainB md ops (m + 2) && lexY md ops (ops.size - (m + 2)) (m + 2) m m 0 (Array.replicate ops.size false)
/-- THE LAW. -/
theorem wp_region_as {id : Nat} {Q : Exit → Act → World → Prop} {a : Act} {w : World} {l : List Oper} (m : Nat) (Z Z' : Obj) (hm : P.follows .mixedOrders = true) (hB : asB .any l.toArray m = true)
    (hA : ∀ o, l.toArray[m]? = some o → o.guard = none ∧ ∀ (a : Act) (w : World), (execOp a.eval o).run P w = .ok (.value (.pointer (some ⟨w.heap.size, 0, none⟩))) (w.alloc Z))
    (h : wpLex P l.toArray (fun w' => Below w.heap.size w w') (phY P l.toArray Z Z' m fun a' b => ∀ w', Below w.heap.size w w' → w.heap.size ≤ b → b < w'.heap.size → w'.heap[b]? = some Z' → wpList P l.toArray Q (l.drop (m + 2)) a' w') (l.take m) a) :
    (Code.region id l.toArray true).wp P Q a w := by
  simp only [asB, Bool.and_eq_true, decide_eq_true_eq] at hB
  obtain ⟨⟨⟨⟨hsel, hn⟩, hs⟩, hc⟩, hlex⟩ := hB
  have hlt : m + 2 < l.length := by simpa using hn
  have hsz : l.toArray.size = l.length := by simp
  have ht : (l.take m).length = m := by rw [List.length_take]; omega
  have hd : (l.drop (m + 2)).length = l.toArray.size - (m + 2) := by simp
  have start : HeadInv .any l.toArray (m + 2) (Array.replicate l.toArray.size false) :=
    ⟨by simp, fun j oj _ hl => (by rw [getD_replicate_false] at hl; cases hl), fun t _ h' => getD_in (by simpa using h') (getD_replicate_false _ _)⟩
  have hS : Below w.heap.size w w.drew := (Below.refl _ _).drew
  have H := headsY_lex (P := P) (m := m) (S := fun w' => Below w.heap.size w w') (md := .any) (g := l.toArray.size - (m + 2)) (b := 0) hsel hs hc hn rfl (l.take m) 0 _ a (fun j hj => by
    have : j < m := by rw [ht] at hj; exact hj
    simp [this]) (by rw [ht]; omega) start (by rw [ht]; exact hlex) h
  have := headsY_any (P := P) (W0 := w) (Z := Z) (Z' := Z') (Q' := Q) (g := l.toArray.size - (m + 2)) hA (fun d a' b w' hw' hF hL => by
    obtain ⟨l1, l2, l3, l4⟩ := hL
    obtain ⟨q1, q2, q3⟩ := hF.2 l2
    rw [l3, if_pos rfl] at q3
    have h1 := wpAny_of_seq (md := .any) (Q' := Q) (l.drop (m + 2)) (m + 2) d a' w' (fun j => by simp [List.getElem?_drop]) (by rw [hd]; exact l1) (l4 w' hw' q1 q2 q3)
    rwa [hd] at h1) _ _ _ _ _ hS ⟨fun h3 => (by rw [getD_replicate_false] at h3; cases h3), fun h3 => (by rw [getD_replicate_false] at h3; cases h3)⟩ H
  rw [ht, show m + 2 + (l.toArray.size - (m + 2)) = l.toArray.size by omega] at this
  exact wp_region_any hm this
theorem sr_row {Z : Obj} {o : Oper} {b : Nat} {a : Act} (hgd : o.guard = none) (ty : TypeId) (x y : Operand) (ho : o.op = .store ty x y) (cells : Array Value) (hx : a.eval x = .pointer (some ⟨b, 0, none⟩)) (hy : a.eval y = .agg cells)
    (t : TypeId) (old : Array Value) (hZ : Z = .cells old t (0, 0)) (hi : (P.info? ty).map (·.size) = some cells.size) (hold : old.size = cells.size) (h1 : cells.all (·.oneCell') = true) : SR P Z (.cells cells t (0, 0)) o b a := by
  subst hZ
  refine ⟨hgd, fun w hg => ?_⟩
  have hr : (execOp a.eval o).run P w = .ok .skip (w.setRow b cells) := by
    unfold execOp
    simp only [ho, hx, hy, Instr.storeAt, Instr.sureAddr, Sem.run_bind, Sem.run_pure, Result.andThen_ok, run_storeVar_row w b t ty old cells hg hi hold h1]
  refine ⟨_, hr, ?_, ?_, ?_⟩
  · unfold World.setRow
    simp only [Array.getElem?_modify, if_pos, hg, Option.map_some]
  · simp [World.setRow]
  · exact fun B w0 hb hB => below_setRow hb hB _
end
end Go.Proofs.Ytcjbjlepgdggpaa
