/- Theory of histories: crossings at places apart can be exchanged. -/
import Derived.Test.YtcjbjlepgdggpaaTNC
namespace Go.Proofs.Ytcjbjlepgdggpaa
set_option linter.unusedSimpArgs false
set_option linter.unusedVariables false
abbrev Met := Nat × Bool
abbrev HSt := List Nat × List (List Met)
/-- A crossing of the threads at the places p and p + 1. -/
def hstep (st : HSt) (p : Nat) (z : Int) : HSt :=
  (swN st.1 p, (st.2.modify (atL st.1 p) (· ++ [(atL st.1 (p + 1), decide (0 < z))])).modify (atL st.1 (p + 1)) (· ++ [(atL st.1 p, decide (z < 0))]))
theorem modify_comm {α : Type} (L : List α) {i j : Nat} (h : i ≠ j) (f g : α → α) : (L.modify i f).modify j g = (L.modify j g).modify i f := by
  apply List.ext_getElem?
  intro k
  simp only [List.getElem?_modify]
  by_cases h1 : i = k <;> by_cases h2 : j = k
  · omega
  all_goals simp [h1, h2]
theorem swN_short {α : Type} {L : List α} {p : Nat} (h : L.length ≤ p + 1) : swN L p = L := by
  unfold swN
  rw [List.getElem?_eq_none h]
  split
  · rename_i h; cases h
  · rfl
theorem swN_atL {L : List Nat} {p : Nat} (hp : p + 1 < L.length) (q : Nat) : atL (swN L p) q = if q = p then atL L (p + 1) else if q = p + 1 then atL L p else atL L q := by
  unfold atL
  rw [swN_get hp]
  by_cases h1 : q = p
  · rw [if_pos h1, if_pos h1]
  · rw [if_neg h1, if_neg h1]
    by_cases h2 : q = p + 1
    · rw [if_pos h2, if_pos h2]
    · rw [if_neg h2, if_neg h2]
theorem swN_comm {α : Type} {L : List α} {p q : Nat} (h : p + 1 < q) : swN (swN L p) q = swN (swN L q) p := by
  by_cases hq : q + 1 < L.length
  · apply List.ext_getElem?
    intro k
    rw [swN_get (by rw [swN_len]; exact hq), swN_get (L := swN L q) (by rw [swN_len]; omega)]
    rw [swN_get (by omega), swN_get (by omega), swN_get (by omega), swN_get hq, swN_get hq, swN_get hq]
    by_cases h1 : k = p
    · subst h1
      rw [if_neg (by omega), if_neg (by omega), if_pos rfl, if_pos rfl, if_neg (by omega), if_neg (by omega)]
    · by_cases h2 : k = p + 1
      · subst h2
        rw [if_neg (by omega), if_neg (by omega), if_neg h1, if_pos rfl, if_neg h1, if_pos rfl, if_neg (by omega), if_neg (by omega)]
      · by_cases h3 : k = q
        · subst h3
          rw [if_pos rfl, if_neg (by omega), if_neg (by omega), if_neg h1, if_neg h2, if_pos rfl]
        · by_cases h4 : k = q + 1
          · subst h4
            rw [if_neg h3, if_pos rfl, if_neg (by omega), if_neg (by omega), if_neg h1, if_neg h2, if_neg h3, if_pos rfl]
          · rw [if_neg h3, if_neg h4, if_neg h1, if_neg h2, if_neg h1, if_neg h2, if_neg h3, if_neg h4]
  · rw [swN_short (L := L) (p := q) (by omega), swN_short (L := swN L p) (p := q) (by rw [swN_len]; omega)]
theorem atL_ne {L : List Nat} (hd : L.Nodup) {i j : Nat} (hi : i < L.length) (hj : j < L.length) (h : i ≠ j) : atL L i ≠ atL L j := by
  rw [atL_get (List.getElem?_eq_getElem hi), atL_get (List.getElem?_eq_getElem hj)]
  intro e
  have h1 := List.Nodup.idxOf_getElem hd i hi
  have h2 := List.Nodup.idxOf_getElem hd j hj
  rw [e, h2] at h1
  exact h h1.symm
theorem hstep_comm {st : HSt} (hd : st.1.Nodup) {p q : Nat} (h : p + 1 < q) (hq : q + 1 < st.1.length) (y z : Int) : hstep (hstep st p y) q z = hstep (hstep st q z) p y := by
  obtain ⟨L, O⟩ := st
  simp only at hd hq
  have e1 : atL (swN L p) q = atL L q := by rw [swN_atL (by omega), if_neg (by omega), if_neg (by omega)]
  have e2 : atL (swN L p) (q + 1) = atL L (q + 1) := by rw [swN_atL (by omega), if_neg (by omega), if_neg (by omega)]
  have e3 : atL (swN L q) p = atL L p := by rw [swN_atL hq, if_neg (by omega), if_neg (by omega)]
  have e4 : atL (swN L q) (p + 1) = atL L (p + 1) := by rw [swN_atL hq, if_neg (by omega), if_neg (by omega)]
  unfold hstep
  simp only [e1, e2, e3, e4]
  refine Prod.ext (swN_comm h) ?_
  simp only
  have n1 := atL_ne hd (i := p) (j := q) (by omega) (by omega) (by omega)
  have n2 := atL_ne hd (i := p) (j := q + 1) (by omega) (by omega) (by omega)
  have n3 := atL_ne hd (i := p + 1) (j := q) (by omega) (by omega) (by omega)
  have n4 := atL_ne hd (i := p + 1) (j := q + 1) (by omega) (by omega) (by omega)
  rw [modify_comm _ n3, modify_comm _ n4, modify_comm _ n1, modify_comm _ n2]
theorem hstep_ok {st : HSt} (p : Nat) (z : Int) : (hstep st p z).1.Perm st.1 ∧ (hstep st p z).2.length = st.2.length := ⟨swN_perm _ _, by simp [hstep]⟩
/-- So many crossings, at places from b to b + 2. -/
def hrun (b : Nat) (zs : List Int) (st : HSt) : HSt := zs.foldl (fun st z => hstep st (b + z.natAbs - 1) z) st
theorem hrun_ok (b : Nat) : ∀ (zs : List Int) (st : HSt), (hrun b zs st).1.Perm st.1 ∧ (hrun b zs st).2.length = st.2.length
  | [], st => ⟨List.Perm.refl _, rfl⟩
  | z :: zs, st => by
    have h1 := hrun_ok b zs (hstep st (b + z.natAbs - 1) z)
    have h2 := hstep_ok (st := st) (b + z.natAbs - 1) z
    exact ⟨h1.1.trans h2.1, h1.2.trans h2.2⟩
def okZ (zs : List Int) : Prop := ∀ z ∈ zs, 1 ≤ z.natAbs ∧ z.natAbs ≤ 3
theorem hrun_step {b c : Nat} {n : Nat} (hbc : b + 4 ≤ c ∨ c + 4 ≤ b) (y : Int) (hy : 1 ≤ y.natAbs ∧ y.natAbs ≤ 3) : ∀ (zs : List Int) (st : HSt), okZ zs → st.1.Nodup → st.1.length = n → b + 3 < n → c + 3 < n → hrun c zs (hstep st (b + y.natAbs - 1) y) = hstep (hrun c zs st) (b + y.natAbs - 1) y
  | [], st, _, _, _, _, _ => rfl
  | z :: zs, st, hz, hd, hl, hb, hc => by
    have hz1 := hz z List.mem_cons_self
    show hrun c zs (hstep (hstep st (b + y.natAbs - 1) y) (c + z.natAbs - 1) z) = hstep (hrun c zs (hstep st (c + z.natAbs - 1) z)) (b + y.natAbs - 1) y
    have e : hstep (hstep st (b + y.natAbs - 1) y) (c + z.natAbs - 1) z = hstep (hstep st (c + z.natAbs - 1) z) (b + y.natAbs - 1) y := by
      rcases hbc with h | h
      · exact hstep_comm hd (by omega) (by omega) _ _
      · exact (hstep_comm hd (by omega) (by omega) _ _).symm
    have hp := (hstep_ok (st := st) (c + z.natAbs - 1) z).1
    rw [e, hrun_step hbc y hy zs _ (fun u hu => hz u (List.mem_cons_of_mem _ hu)) (hp.nodup_iff.2 hd) (by rw [hp.length_eq]; exact hl) hb hc]
theorem hrun_comm {b c n : Nat} (hbc : b + 4 ≤ c ∨ c + 4 ≤ b) : ∀ (ys zs : List Int) (st : HSt), okZ ys → okZ zs → st.1.Nodup → st.1.length = n → b + 3 < n → c + 3 < n → hrun c zs (hrun b ys st) = hrun b ys (hrun c zs st)
  | [], zs, st, _, _, _, _, _, _ => rfl
  | y :: ys, zs, st, hy, hz, hd, hl, hb, hc => by
    show hrun c zs (hrun b ys (hstep st (b + y.natAbs - 1) y)) = hrun b ys (hstep (hrun c zs st) (b + y.natAbs - 1) y)
    have hp := (hstep_ok (st := st) (b + y.natAbs - 1) y).1
    rw [hrun_comm hbc ys zs _ (fun u hu => hy u (List.mem_cons_of_mem _ hu)) hz (hp.nodup_iff.2 hd) (by rw [hp.length_eq]; exact hl) hb hc, hrun_step hbc y (hy y List.mem_cons_self) zs st hz hd hl hb hc]
/-- A work: the crossings of its word at its pairs. -/
def hwork (cr : ByteArray → List Int) (st : HSt) (x : Wk) : HSt := hrun (2 * x.pl.toNat) (cr x.wd) st
def hist0 (n : Nat) : HSt := (List.range n, List.replicate n [])
def histS (cr : ByteArray → List Int) (n : Nat) (W : List Wk) : HSt := W.foldl (hwork cr) (hist0 n)
theorem fold_ok (cr : ByteArray → List Int) : ∀ (W : List Wk) (st : HSt), (W.foldl (hwork cr) st).1.Perm st.1 ∧ (W.foldl (hwork cr) st).2.length = st.2.length
  | [], st => ⟨List.Perm.refl _, rfl⟩
  | x :: W, st => by
    have h1 := fold_ok cr W (hwork cr st x)
    have h2 := hrun_ok (2 * x.pl.toNat) (cr x.wd) st
    exact ⟨h1.1.trans h2.1, h1.2.trans h2.2⟩
theorem hist_swap {cr : ByteArray → List Int} {n pr : Nat} (hn : n = 2 * pr) {W : List Wk} (hf : ∀ x ∈ W, 0 ≤ x.pl ∧ x.pl ≤ (pr : Int) - 2) (hz : ∀ x ∈ W, okZ (cr x.wd)) {p : Nat} (hp : p + 1 < W.length) (ht : tchN W p (p + 1) = false) : histS cr n (swN W p) = histS cr n W := by
  have hx := wkN_some (show p < W.length by omega)
  have hy := wkN_some hp
  have mx := List.mem_of_getElem? hx
  have my := List.mem_of_getElem? hy
  have fx := hf _ mx
  have fy := hf _ my
  have e1 : W = W.take p ++ wkN W p :: wkN W (p + 1) :: W.drop (p + 2) := by
    have h1 : W.drop p = wkN W p :: W.drop (p + 1) := by
      rw [List.drop_eq_getElem_cons (show p < W.length by omega)]
      congr 1
      rw [List.getElem?_eq_getElem (show p < W.length by omega)] at hx
      exact Option.some.inj hx
    have h2 : W.drop (p + 1) = wkN W (p + 1) :: W.drop (p + 2) := by
      rw [List.drop_eq_getElem_cons hp]
      congr 1
      rw [List.getElem?_eq_getElem hp] at hy
      exact Option.some.inj hy
    rw [← h2, ← h1, List.take_append_drop]
  have e2 : swN W p = W.take p ++ wkN W (p + 1) :: wkN W p :: W.drop (p + 2) := by
    apply List.ext_getElem?
    intro q
    rw [swN_get hp]
    by_cases h1 : q = p
    · subst h1
      rw [if_pos rfl, List.getElem?_append_right (by simp; omega), hy]
      simp [show min q W.length = q by omega]
    · by_cases h2 : q = p + 1
      · subst h2
        rw [if_neg h1, if_pos rfl, List.getElem?_append_right (by simp; omega), hx]
        simp [show min p W.length = p by omega, show p + 1 - p = 1 by omega]
      · rw [if_neg h1, if_neg h2]
        rcases Nat.lt_or_ge q p with g | g
        · rw [List.getElem?_append_left (by simp; omega), List.getElem?_take_of_lt g]
        · rw [List.getElem?_append_right (by simp; omega)]
          simp only [List.length_take, show min p W.length = p by omega]
          obtain ⟨d, rfl⟩ : ∃ d, q = p + 2 + d := ⟨q - p - 2, by omega⟩
          rw [show p + 2 + d - p = d + 1 + 1 by omega, List.getElem?_cons_succ, List.getElem?_cons_succ, List.getElem?_drop]
  have hnt : ¬ (wkN W p).pl - (wkN W (p + 1)).pl < 2 ∨ ¬ (wkN W (p + 1)).pl - (wkN W p).pl < 2 := by
    unfold tchN touchP at ht
    simp only [Bool.and_eq_false_iff, decide_eq_false_iff_not] at ht
    exact ht
  unfold histS
  rw [e2]
  conv => rhs; rw [e1]
  rw [List.foldl_append, List.foldl_append]
  simp only [List.foldl_cons]
  congr 1
  have hok := fold_ok cr (W.take p) (hist0 n)
  generalize (W.take p).foldl (hwork cr) (hist0 n) = st at *
  have hl : st.1.length = n := by rw [hok.1.length_eq]; simp [hist0]
  unfold hwork
  exact (hrun_comm (n := n) (by omega) _ _ st (hz _ my) (hz _ mx) (hok.1.nodup_iff.2 List.nodup_range) hl (by omega) (by omega))
theorem hist_sw {cr : ByteArray → List Int} {n pr : Nat} (hn : n = 2 * pr) : ∀ (m : Nat) (o : List Nat) (W : List Wk), o.length = m → (∀ x ∈ W, 0 ≤ x.pl ∧ x.pl ≤ (pr : Int) - 2) → (∀ x ∈ W, okZ (cr x.wd)) → (∀ (j p : Nat), o[j]? = some p → p + 1 < W.length ∧ tchN (swW W (o.take j)) p (p + 1) = false) → histS cr n (swW W o) = histS cr n W
  | 0, o, W, hm, _, _, _ => by rw [List.eq_nil_of_length_eq_zero hm]; rfl
  | m + 1, [], W, hm, _, _, _ => by simp at hm
  | m + 1, p :: o, W, hm, hf, hz, h => by
    obtain ⟨h1, h2⟩ := h 0 p rfl
    have hmem : ∀ x ∈ swN W p, x ∈ W := fun x hx => (swN_perm W p).mem_iff.1 hx
    show histS cr n (swW (swN W p) o) = _
    rw [hist_sw hn m o (swN W p) (by simpa using hm) (fun x hx => hf x (hmem x hx)) (fun x hx => hz x (hmem x hx)) (fun j q hq => by
      obtain ⟨g1, g2⟩ := h (j + 1) q (by simpa using hq)
      exact ⟨by rw [swN_len]; exact g1, by simpa [swW] using g2⟩)]
    exact hist_swap hn hf hz h1 h2
theorem hist_same {cr : ByteArray → List Int} {n pr : Nat} (hn : n = 2 * pr) {W V : List Wk} {l : List Nat} (hO : OkL W V l) (hf : ∀ x ∈ W, 0 ≤ x.pl ∧ x.pl ≤ (pr : Int) - 2) (hz : ∀ x ∈ W, okZ (cr x.wd)) : histS cr n V = histS cr n W := by
  have hw := hO.way
  generalize LI (invL l V.length) = t at *
  obtain ⟨s3, _, _, s4⟩ := sw_way hw _ (Nat.le_refl _)
  have s5 := way_end s3 (sw_end hw)
  have e : swW W (swGo t (invN t)).2 = V := by
    apply List.ext_getElem?
    intro i
    by_cases hi : i < V.length
    · rw [wkN_some hi, wkN_some (by rw [swW_len, ← hO.vlen]; exact hi), sameW_eq (s5 i hi)]
    · rw [List.getElem?_eq_none (by rw [swW_len, ← hO.vlen]; omega), List.getElem?_eq_none (by omega)]
  rw [← e]
  exact hist_sw hn _ _ W rfl hf hz s4
end Go.Proofs.Ytcjbjlepgdggpaa
