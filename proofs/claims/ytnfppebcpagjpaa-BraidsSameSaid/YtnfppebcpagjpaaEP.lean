/- The reference's Normal: what its loops keep. -/
import Derived.Test.YtnfppebcpagjpaaDV
import Derived.Test.YtnfppebcpagjpaaDW
import Derived.Test.YtnfppebcpagjpaaDB
namespace Go.Proofs.Ytnfppebcpagjpaa
open Go.RowKit Go.Lib
theorem rl_len (n : Nat) (w : List Int) : (rl n w).length = w.length := by
  induction w using snoc_ind with
  | h0 => rfl
  | h1 w z ih =>
    rw [rl_snoc]
    unfold rlStep
    split <;> simp [ih]
/-- A row of ints stays, if a row of rows is stored into. -/
theorem own_setrow' {B B' n m g cap : Nat} {w : World} {u : Value} {xs ys : List Value} (ho : w.ownsRow B 3 1 u n xs) (hv : w.ownsRow B' 22 1 (.slice (some ⟨g, 0, none⟩) m cap) m ys) (j : Nat) (y : Value) : (w.setCell ⟨g, j, none⟩ y).ownsRow B 3 1 u n xs := by
  have ha := own_apart ho hv (by decide)
  refine ⟨ho.1, ?_⟩
  rcases ho.2 with h0 | ⟨g1, cap', cur, h0, h1, h2, h3⟩
  · exact .inl h0
  · subst h0
    refine .inr ⟨g1, cap', cur, rfl, h1, (heap_setCell_other w ⟨g, j, none⟩ g1 y ?_).trans h2, h3⟩
    intro e
    rcases ha with ha | ha
    · cases ha
    · exact ha (by simp only [Value.ownBlock]; rw [e])
theorem Rows.setrow {B B' m k g cap : Nat} {w : World} {fs ys : List Value} {D : List Pm} (h : Rows B m w fs D) (hv : w.ownsRow B' 22 1 (.slice (some ⟨g, 0, Option.none⟩) k cap) k ys) (j : Nat) (y : Value) : Rows B m (w.setCell ⟨g, j, Option.none⟩ y) fs D := fun k x hx => by
  obtain ⟨u, hu, ho⟩ := h k x hx
  exact ⟨u, hu, own_setrow' ho hv j y⟩
theorem Rows.set {B m : Nat} {w : World} {fs : List Value} {D : List Pm} {x : Pm} {u : Value} (h : Rows B m w fs D) (hl : fs.length = D.length) (i : Nat) (hu : OP w B m u x) : Rows B m w (fs.set i u) (D.set i x) := fun k y hy => by
  rw [List.getElem?_set] at hy ⊢
  by_cases e : i = k
  · rw [if_pos e] at hy ⊢
    split at hy
    · rename_i hk
      simp only [Option.some.injEq] at hy
      subst hy
      exact ⟨u, by rw [if_pos (by omega)], hu⟩
    · cases hy
  · rw [if_neg e] at hy ⊢
    exact h k y hy
/-- append(v, x) as a step of a region that draws: an own row of rows grows by one. -/
theorem step_rows {ops : Array Oper} {o : Oper} {a : Act} {K : Act → World → Prop} {Q : Exit → Act → World → Prop} {E : Prop} {w w0 : World} (B : Nat) (v : Value) (fs : List Value) (k : Nat) (x : Value) (h1 : x.oneCell' = true)
    (hgd : o.guard = none) (s y : Operand) (ho : o.op = .call { callee := .builtin .append, args := #[s, y], argTypes := #[31, 31] }) (hs : a.eval s = v)
    (hown : w.ownsRow B 22 1 v k fs) (blk : Nat) (hy : a.eval y = .slice (some ⟨blk, 0, none⟩) 1 1) (hc : w.cell? ⟨blk, 0, none⟩ = some x) (hl : k < 100000) (hb : Below B w0 w) (hB : B ≤ w.heap.size)
    (h : ∀ v' w', Hid (w'.ownsRow B 22 1 v' (k + 1) (fs ++ [x])) → Hid (w.grownBy w' v.ownBlock) → Hid (Below B w0 w') → K (a.put o.dst v') w') :
    if Region.wanted o (yielded ops a.tmps) = true then Oper.wp Try.prog o a w K Q else E := by
  have hw : Region.wanted o (yielded ops a.tmps) = true := by simp [Region.wanted, hgd]
  rw [if_pos hw]
  obtain ⟨i1, hi, hz0, hz1, hz2⟩ := info_parts infoInts
  refine wp_append_own _ s y 31 ho B 22 i1 (.slice none 0 0) 1 24 Try.underlying31 hi hz0 hz1 hz2 rfl (by decide) v _ _ hs hown ⟨blk, 0, none⟩ 1 1 [x] hy rfl ?_ ?_ (by unfold maxLen; omega) (by omega) hB ?_
  · intro j u hj
    rcases j with _ | j
    · simp at hj
      subst hj
      exact hc
    · simp at hj
  · intro u hu
    obtain rfl := List.mem_singleton.1 hu
    exact h1
  · intro v' w' hown' hgrow _
    exact h v' w' hown' hgrow (Below.grown hb hgrow hB fun k e => (hown.lt k e).1)
theorem map_step {n j : Nat} {L : List Pm} {x : Pm} (h : L[j]? = some x) : ((L.take j).map (tu n) ++ L.drop j).set j (tu n x) = (L.take (j + 1)).map (tu n) ++ L.drop (j + 1) := by
  have hj := (List.getElem?_eq_some_iff.1 h).1
  have hd : L.drop j = x :: L.drop (j + 1) := by
    rw [List.drop_eq_getElem_cons hj, Option.some.inj ((List.getElem?_eq_getElem hj).symm.trans h)]
  rw [List.set_append_right _ _ (by simp; omega), List.take_add_one, h, List.map_append, List.append_assoc]
  congr 1
  rw [List.length_map, List.length_take, show j - min j L.length = 0 by omega, hd]
  rfl
theorem flat_id {n : Nat} {x : Pm} (hx : x.In n) : x = idP ↔ ∀ i, i + 1 < n → (x.f (i + 1) : Int) = (x.f i : Int) + 1 := by
  constructor
  · rintro rfl i _
    show ((i + 1 : Nat) : Int) = (i : Int) + 1
    omega
  · intro h
    refine id_of hx fun k hk hb => ?_
    have := h k hk
    unfold Pm.beg at hb
    omega
theorem flat_dl {n : Nat} (h2 : 1 ≤ n) {x : Pm} (hx : x.In n) : x = dl n ↔ ∀ i, i + 1 < n → (x.f (i + 1) : Int) = (x.f i : Int) + -1 := by
  constructor
  · rintro rfl i hi
    show ((rev n (i + 1) : Nat) : Int) = (rev n i : Int) + -1
    rw [rev_lt hi, rev_lt (by omega)]
    omega
  · intro h
    have e : ∀ i, i < n → (x.f i : Int) = (x.f 0 : Int) - i := by
      intro i
      induction i with
      | zero => intro _; omega
      | succ i ih => intro hi; have := h i hi; have := ih (by omega); omega
    have e1 := e (n - 1) (by omega)
    have e2 := hx.lt (show 0 < n by omega)
    refine Pm.ext' fun i => ?_
    by_cases hi : i < n
    · have := e i hi
      show x.f i = rev n i
      rw [rev_lt hi]
      omega
    · rw [hx i (by omega)]
      exact (rev_ge (by omega)).symm
theorem take_same {n : Nat} {a b : Pm} (h : firstS n a b = none) : take n a b = (a, b) := by
  unfold take
  unfold tk
  rw [h]
theorem take_diff {n : Nat} {a b : Pm} (ha : a.In n) (hb : b.In n) (h : firstS n a b ≠ none) : (take n a b).1 ≠ a := by
  obtain ⟨e, t⟩ := take_spec ha hb
  intro h1
  have h2 := t.same h1
  obtain ⟨k, hk⟩ := Option.ne_none_iff_exists'.1 h
  obtain ⟨k1, k2, k3⟩ := firstS_some hk
  have := t.np k k1
  rw [h1, h2] at this
  exact k3 (this k2)
/-- One pair of neighbours takes over, in a list. -/
theorem pair_set {n j : Nat} {L : List Pm} {a b : Pm} (hL : AllIn n L) (h0 : L[j]? = some a) (h1 : L[j + 1]? = some b) : St n L ((L.set j (take n a b).1).set (j + 1) (take n a b).2) := by
  have hj1 := (List.getElem?_eq_some_iff.1 h1).1
  have hj0 : j < L.length := by omega
  have hs : L = L.take j ++ a :: b :: L.drop (j + 2) := by
    conv => lhs; rw [← List.take_append_drop j L]
    rw [List.drop_eq_getElem_cons hj0, List.drop_eq_getElem_cons hj1]
    rw [Option.some.inj ((List.getElem?_eq_getElem hj0).symm.trans h0), Option.some.inj ((List.getElem?_eq_getElem hj1).symm.trans h1)]
  have hst := take_st (hL a (List.mem_of_getElem? h0)) (hL b (List.mem_of_getElem? h1)) (L.take j) (L.drop (j + 2))
  rw [← hs] at hst
  have e : (L.set j (take n a b).1).set (j + 1) (take n a b).2 = L.take j ++ (take n a b).1 :: (take n a b).2 :: L.drop (j + 2) := by
    generalize take n a b = t
    have hlt : (L.take j).length = j := by rw [List.length_take]; omega
    conv => lhs; rw [hs]
    rw [List.set_append_right _ _ (by omega), hlt, Nat.sub_self, List.set_cons_zero, List.set_append_right _ _ (by omega), hlt, show j + 1 - j = 1 by omega]
    rfl
  rw [e]
  exact hst
theorem negs_le (w : List Int) : 0 ≤ negs w ∧ negs w ≤ w.length := by
  induction w using snoc_ind with
  | h0 => exact ⟨Int.le_refl _, Int.le_refl _⟩
  | h1 w z ih =>
    rw [negs_snoc, List.length_append]
    split <;> simp <;> omega
theorem mid_get {n j : Nat} {L : List Pm} (hj : j < L.length) : ((L.take j).map (tu n) ++ L.drop j)[j]? = L[j]? := by
  rw [List.getElem?_append_right (by simp; omega), List.length_map, List.length_take, List.getElem?_drop]
  congr 1
  omega
theorem set_same {α : Type} {L : List α} {p : Nat} {a : α} (h : L[p]? = some a) : L.set p a = L := by
  apply List.ext_getElem?
  intro i
  rw [List.getElem?_set]
  by_cases e : p = i
  · subst e
    rw [if_pos rfl, if_pos (List.getElem?_eq_some_iff.1 h).1, h]
  · rw [if_neg e]
/-- What one pair's turn keeps of a round of slides. -/
theorem pair_turn {n p : Nat} {L0 L : List Pm} {a b : Pm} (c c1 : Bool) (hi : AllIn n L0) (hst : St n L0 L) (h0 : L[p]? = some a) (h1 : L[p + 1]? = some b) (hc : c = true ↔ firstS n a b ≠ none) (hT : c1 = true → wt n L < wt n L0)
    (hF : c1 = false → L = L0 ∧ ∀ i x y, p + 2 ≤ i + 1 → L[i]? = some x → L[i + 1]? = some y → firstS n x y = none) :
    St n L0 ((L.set p (take n a b).1).set (p + 1) (take n a b).2) ∧ ((c1 || c) = true → wt n ((L.set p (take n a b).1).set (p + 1) (take n a b).2) < wt n L0) ∧
    ((c1 || c) = false → ((L.set p (take n a b).1).set (p + 1) (take n a b).2) = L0 ∧ ∀ i x y, p + 1 ≤ i + 1 → ((L.set p (take n a b).1).set (p + 1) (take n a b).2)[i]? = some x → ((L.set p (take n a b).1).set (p + 1) (take n a b).2)[i + 1]? = some y → firstS n x y = none) := by
  have hiL := hst.allIn hi
  have hp := pair_set hiL h0 h1
  have ha := hiL a (List.mem_of_getElem? h0)
  have hb := hiL b (List.mem_of_getElem? h1)
  have hpl := (List.getElem?_eq_some_iff.1 h1).1
  rcases c with _ | _
  · have hn : firstS n a b = none := by
      rcases h : firstS n a b with _ | k
      · rfl
      · have := hc.2 (by rw [h]; intro e; cases e); cases this
    rw [take_same hn]
    have e : (L.set p a).set (p + 1) b = L := by rw [set_same h0, set_same h1]
    dsimp only
    rw [e]
    refine ⟨hst, fun h => hT (by simpa using h), fun h => ?_⟩
    obtain ⟨f1, f2⟩ := hF (by simpa using h)
    refine ⟨f1, fun i x y hi' hx hy => ?_⟩
    by_cases e2 : i = p
    · subst e2
      rw [h0] at hx
      rw [h1] at hy
      cases hx; cases hy
      exact hn
    · exact f2 i x y (by omega) hx hy
  · have hd := take_diff ha hb (hc.1 rfl)
    have hlow := st_lower hst hi
    have hlow2 := st_lower hp hiL
    have hne : ((L.set p (take n a b).1).set (p + 1) (take n a b).2) ≠ L := fun e => by
      have h2 : ((L.set p (take n a b).1).set (p + 1) (take n a b).2)[p]? = some (take n a b).1 := by
        rw [List.getElem?_set, if_neg (by omega), List.getElem?_set, if_pos rfl, if_pos (by omega)]
      rw [e, h0] at h2
      exact hd (Option.some.inj h2).symm
    refine ⟨hst.trans hp, fun _ => ?_, fun h => by simp at h⟩
    rcases hlow2 with h | h
    · exact absurd h hne
    · rcases hlow with rfl | h'
      · exact h
      · omega
theorem rows_fs' {B m : Nat} {w : World} {v : Value} {fs : List Value} {D : List Pm} (h : w.ownsRow B 22 1 v D.length fs) (hr : Rows B m w fs D) (hm : 0 < m) : FS w v (D.map (ints m)) := by
  by_cases hD : 0 < D.length
  · obtain ⟨g, c, e, h1, h2, h3⟩ := form_of h hr hD hm
    exact ⟨_, c, by rw [e, List.length_map], by rw [List.length_map]; exact h1, h2, h3⟩
  · have : D = [] := List.eq_nil_of_length_eq_zero (by omega)
    subst this
    rcases h.2 with ⟨rfl, _⟩ | ⟨g, cap, cur, rfl, _, hg, h1, h2, _, _⟩
    · exact fs_nil w
    · exact ⟨_, cap, rfl, h1, h2, fun k l h => by cases h⟩
theorem flS_pop {n : Nat} {p : Int} : flS n (p, []) (dl n) = (p + 1, []) := if_pos ⟨rfl, rfl⟩
theorem flS_drop {n : Nat} {p : Int} {O : List Pm} (h : ¬ (O = [] ∧ idP = dl n)) : flS n (p, O) idP = (p, O) := by
  unfold flS
  rw [if_neg h, if_pos rfl]
theorem flS_push {n : Nat} {p : Int} {O : List Pm} {x : Pm} (h : ¬ (O = [] ∧ x = dl n)) (h2 : x ≠ idP) : flS n (p, O) x = (p, O ++ [x]) := by
  unfold flS
  rw [if_neg h, if_neg h2]
theorem fold_next {n j : Nat} {L : List Pm} {x : Pm} {s : Int × List Pm} (h : L[j]? = some x) : (L.take (j + 1)).foldl (flS n) s = flS n ((L.take j).foldl (flS n) s) x := by
  rw [List.take_add_one, h, List.foldl_append]
  rfl
theorem fold_ref {n : Nat} (h1 : 1 ≤ n) {ws : List Int} (hw : Word n ws) {L : List Pm} (hs : St n (rl n ws) L) (hn : ∀ i a b, L[i]? = some a → L[i + 1]? = some b → firstS n a b = none) : L.foldl (flS n) (-(negs ws), []) = nf n ws := by
  by_cases h2 : 2 ≤ n
  · exact ref_nf h2 hw hs (chain_of hn).nf
  · obtain rfl : n = 1 := by omega
    obtain rfl := word_one hw
    have e : L.length = 0 := hs.len
    rw [List.eq_nil_of_length_eq_zero e]
    rfl
end Go.Proofs.Ytnfppebcpagjpaa
