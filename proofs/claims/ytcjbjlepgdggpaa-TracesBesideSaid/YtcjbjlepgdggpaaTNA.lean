/- Theory of exchanges: orders from one row to another, least orders, levels, wrong pairs, ways. -/
import Derived.Test.YtcjbjlepgdggpaaTZ
import Derived.Test.YtcjbjlepgdggpaaTLD
namespace Go.Proofs.Ytcjbjlepgdggpaa
set_option linter.unusedSimpArgs false
set_option linter.unusedVariables false
/-- An order from one row to another one, both of one length. -/
structure OkL (W V : List Wk) (l : List Nat) : Prop where
  len : l.length = W.length
  vlen : V.length = W.length
  nd : l.Nodup
  ok : ∀ j i, l[j]? = some i → sameW (wkN W i) (wkN V j) = true ∧ Rdy W (inL (l.take j)) i ∧ i < W.length
theorem OkL.of_match {W V : List Wk} {l : List Nat} (hv : V.length = W.length) (h : matchTo W V V.length = some l) : OkL W V l :=
  ⟨by rw [(matchTo_clo h).2.1, hv], hv, match_nodup h, match_ok h⟩
theorem wkN_some {W : List Wk} {i : Nat} (h : i < W.length) : W[i]? = some (wkN W i) := by
  rw [List.getElem?_eq_getElem h]
  unfold wkN
  rw [List.getElem?_eq_getElem h]
  rfl
theorem OkL.to_match {W V : List Wk} {l : List Nat} (h : OkL W V l) : ∀ k, k ≤ V.length → matchTo W V k = some (l.take k)
  | 0, _ => rfl
  | k + 1, hk => by
    have hkl : k < l.length := by rw [h.len, ← h.vlen]; exact hk
    obtain ⟨i, hi⟩ : ∃ i, l[k]? = some i := ⟨_, List.getElem?_eq_getElem hkl⟩
    obtain ⟨h1, h2, h3⟩ := h.ok k i hi
    rw [matchTo_next (h.to_match k (by omega)) (wkN_some (by omega : k < V.length)), findR_eq (wkN_some h3) h1 h2]
    rw [List.take_add_one, hi]
    rfl
theorem OkL.whole {W V : List Wk} {l : List Nat} (h : OkL W V l) : matchTo W V V.length = some l := by
  rw [h.to_match _ (Nat.le_refl _), List.take_of_length_le (by rw [h.len, h.vlen]; exact Nat.le_refl _)]
theorem OkL.get {W V : List Wk} {l : List Nat} (h : OkL W V l) {j : Nat} (hj : j < W.length) : ∃ i, l[j]? = some i ∧ i < W.length ∧ sameW (wkN W i) (wkN V j) = true := by
  have hkl : j < l.length := by rw [h.len]; exact hj
  obtain ⟨i, hi⟩ : ∃ i, l[j]? = some i := ⟨_, List.getElem?_eq_getElem hkl⟩
  exact ⟨i, hi, (h.ok j i hi).2.2, (h.ok j i hi).1⟩
theorem OkL.all {W V : List Wk} {l : List Nat} (h : OkL W V l) {i : Nat} (hi : i < W.length) : ∃ j, l[j]? = some i ∧ j < W.length := by
  have hm := mem_all h.nd (fun i hi => by
    obtain ⟨j, hj⟩ := List.getElem?_of_mem hi
    exact (h.ok j i hj).2.2) h.len i hi
  obtain ⟨j, hj⟩ := List.getElem?_of_mem hm
  exact ⟨j, hj, by have := (List.getElem?_eq_some_iff.1 hj).1; rw [h.len] at this; exact this⟩
theorem OkL.inj {W V : List Wk} {l : List Nat} (h : OkL W V l) {j k i : Nat} (hj : l[j]? = some i) (hk : l[k]? = some i) : j = k := by
  rw [← idx_at h.nd hj, ← idx_at h.nd hk]
theorem OkL.tch {W V : List Wk} {l : List Nat} (h : OkL W V l) {j k a b : Nat} (hj : l[j]? = some a) (hk : l[k]? = some b) : tchN W a b = tchN V j k := by
  unfold tchN touchP
  rw [sameW_pl (h.ok j a hj).1, sameW_pl (h.ok k b hk).1]
theorem tchN_symm (W : List Wk) (a b : Nat) : tchN W a b = tchN W b a := by
  unfold tchN touchP
  rw [Bool.and_comm]
/-- Works that touch keep their order. -/
theorem OkL.ord {W V : List Wk} {l : List Nat} (h : OkL W V l) {j k a b : Nat} (hj : l[j]? = some a) (hk : l[k]? = some b) (ht : tchN V j k = true) : j < k ↔ a < b := by
  have key : ∀ {j k a b : Nat}, l[j]? = some a → l[k]? = some b → tchN V j k = true → a < b → j < k := fun {j k a b} hj hk ht hab => by
    have h1 := (h.ok k b hk).2.1.2 a hab (by rw [h.tch hj hk]; exact ht)
    unfold inL at h1
    rw [List.contains_iff_mem] at h1
    obtain ⟨m, hm⟩ := List.getElem?_of_mem h1
    have hm2 : m < k := by
      have := (List.getElem?_eq_some_iff.1 hm).1
      rw [List.length_take] at this
      omega
    rw [List.getElem?_take_of_lt hm2] at hm
    have := h.inj hj hm
    omega
  constructor
  · intro hjk
    refine Classical.byContradiction fun hn => ?_
    rcases Nat.lt_or_ge b a with q | q
    · have := key hk hj (by rw [tchN_symm]; exact ht) q
      omega
    · have e : a = b := by omega
      subst e
      have := h.inj hj hk
      omega
  · exact key hj hk ht
theorem inL_range (n i : Nat) : inL (List.range n) i = decide (i < n) := by
  unfold inL
  by_cases h : i < n <;> simp [h]
theorem sameW_refl (x : Wk) : sameW x x = true := by rw [sameW_iff]; exact ⟨rfl, rfl, rfl⟩
theorem okL_refl (W : List Wk) : OkL W W (List.range W.length) :=
  ⟨by simp, rfl, List.nodup_range, fun j i h => by
    obtain ⟨h1, h2⟩ := List.getElem?_eq_some_iff.1 h
    simp at h1 h2
    subst h2
    refine ⟨sameW_refl _, ⟨?_, fun a ha _ => ?_⟩, h1⟩
    · rw [List.take_range, inL_range]; simp; omega
    · rw [List.take_range, inL_range]; simp; omega⟩
/-- Two neighbours exchanged. -/
def swN {α : Type} (L : List α) (p : Nat) : List α :=
  match L[p]?, L[p + 1]? with
  | some x, some y => (L.set p y).set (p + 1) x
  | _, _ => L
theorem swN_len {α : Type} (L : List α) (p : Nat) : (swN L p).length = L.length := by
  unfold swN
  split <;> simp
theorem swN_get {α : Type} {L : List α} {p : Nat} (hp : p + 1 < L.length) (q : Nat) : (swN L p)[q]? = if q = p then L[p + 1]? else if q = p + 1 then L[p]? else L[q]? := by
  unfold swN
  rw [List.getElem?_eq_getElem hp, List.getElem?_eq_getElem (show p < L.length by omega)]
  simp only
  rw [List.getElem?_set, List.getElem?_set]
  by_cases h1 : q = p
  · subst h1
    rw [if_neg (by omega), if_pos rfl, if_pos rfl, if_pos (by omega)]
  · by_cases h2 : q = p + 1
    · subst h2
      rw [if_pos rfl, if_neg h1, if_pos rfl, if_pos (by simpa using hp)]
    · rw [if_neg (fun e => h2 e.symm), if_neg (fun e => h1 e.symm), if_neg h1, if_neg h2]
theorem swN_wk {L : List Wk} {p : Nat} (hp : p + 1 < L.length) (q : Nat) : wkN (swN L p) q = if q = p then wkN L (p + 1) else if q = p + 1 then wkN L p else wkN L q := by
  unfold wkN
  rw [swN_get hp]
  by_cases h1 : q = p
  · rw [if_pos h1, if_pos h1]
  · rw [if_neg h1, if_neg h1]
    by_cases h2 : q = p + 1
    · rw [if_pos h2, if_pos h2]
    · rw [if_neg h2, if_neg h2]
theorem swN_perm {α : Type} (L : List α) (p : Nat) : (swN L p).Perm L := by
  by_cases hp : p + 1 < L.length
  · have e : swN L p = L.take p ++ [L[p + 1]] ++ [L[p]] ++ L.drop (p + 2) := by
      apply List.ext_getElem?
      intro q
      rw [swN_get hp]
      by_cases h1 : q = p
      · subst h1
        rw [if_pos rfl, List.append_assoc, List.append_assoc, List.getElem?_append_right (by simp; omega)]
        simp [show min q L.length = q by omega]
      · by_cases h2 : q = p + 1
        · subst h2
          rw [if_neg h1, if_pos rfl, List.append_assoc, List.append_assoc, List.getElem?_append_right (by simp; omega)]
          simp [show min p L.length = p by omega]
        · rw [if_neg h1, if_neg h2]
          rcases Nat.lt_or_ge q p with g | g
          · rw [List.append_assoc, List.append_assoc, List.getElem?_append_left (by simp; omega), List.getElem?_take_of_lt g]
          · rw [List.getElem?_append_right (by simp; omega), List.getElem?_drop]
            congr 1
            simp
            omega
    have e2 : L = L.take p ++ [L[p]] ++ [L[p + 1]] ++ L.drop (p + 2) := by
      have h3 : L.drop p = L[p] :: L.drop (p + 1) := List.drop_eq_getElem_cons (by omega)
      have h4 : L.drop (p + 1) = L[p + 1] :: L.drop (p + 2) := List.drop_eq_getElem_cons hp
      calc L = L.take p ++ L.drop p := (List.take_append_drop p L).symm
        _ = _ := by rw [h3, h4]; simp
    rw [e]
    conv => rhs; rw [e2]
    refine List.Perm.append_right _ ?_
    rw [List.append_assoc, List.append_assoc]
    refine List.Perm.append_left _ ?_
    exact List.Perm.swap _ _ _
  · unfold swN
    rw [List.getElem?_eq_none (show L.length ≤ p + 1 by omega)]
    split
    · rename_i h; cases h
    · exact List.Perm.refl _
theorem inL_iff {l : List Nat} {i : Nat} : inL l i = true ↔ i ∈ l := by unfold inL; exact List.contains_iff_mem
theorem inL_not {l : List Nat} {i : Nat} : inL l i = false ↔ i ∉ l := by
  rw [← Bool.not_eq_true, inL_iff]
theorem mem_take_get {l : List Nat} {k i : Nat} : i ∈ l.take k ↔ ∃ j, j < k ∧ l[j]? = some i := by
  constructor
  · intro h
    obtain ⟨j, hj⟩ := List.getElem?_of_mem h
    have hl := (List.getElem?_eq_some_iff.1 hj).1
    rw [List.length_take] at hl
    rw [List.getElem?_take_of_lt (by omega)] at hj
    exact ⟨j, by omega, hj⟩
  · rintro ⟨j, hj, h⟩
    rw [← List.getElem?_take_of_lt hj] at h
    exact List.mem_of_getElem? h
theorem OkL.swap {W V : List Wk} {l : List Nat} (h : OkL W V l) {p : Nat} (hp : p + 1 < V.length) (ht : tchN V p (p + 1) = false) : OkL W (swN V p) (swN l p) := by
  have hpl : p + 1 < l.length := by rw [h.len, ← h.vlen]; exact hp
  obtain ⟨x, hx⟩ : ∃ x, l[p]? = some x := ⟨_, List.getElem?_eq_getElem (by omega)⟩
  obtain ⟨y, hy⟩ : ∃ y, l[p + 1]? = some y := ⟨_, List.getElem?_eq_getElem hpl⟩
  have hnt : tchN W x y = false := by rw [h.tch hx hy]; exact ht
  have hne : x ≠ y := fun e => by
    subst e
    have := h.inj hx hy
    omega
  refine ⟨by rw [swN_len]; exact h.len, by rw [swN_len]; exact h.vlen, (swN_perm l p).nodup_iff.2 h.nd, fun j i hj => ?_⟩
  rw [swN_get hpl] at hj
  rw [swN_wk hp]
  by_cases h1 : j = p
  · subst h1
    rw [if_pos rfl] at hj ⊢
    obtain ⟨g1, g2, g3⟩ := h.ok _ _ hj
    have e : i = y := by rw [hy] at hj; injection hj with hj; exact hj.symm
    subst e
    refine ⟨g1, ⟨?_, fun a ha hta => ?_⟩, g3⟩
    · rw [inL_not, mem_take_get]
      rintro ⟨k, hk, hki⟩
      rw [swN_get hpl, if_neg (by omega), if_neg (by omega)] at hki
      have := h.inj hki hy
      omega
    · have g4 := g2.2 a ha hta
      rw [inL_iff, mem_take_get] at g4
      obtain ⟨k, hk, hka⟩ := g4
      rw [inL_iff, mem_take_get]
      by_cases hkp : k = j
      · subst hkp
        rw [hx] at hka
        injection hka with hka
        subst hka
        rw [hta] at hnt
        cases hnt
      · exact ⟨k, by omega, by rw [swN_get hpl, if_neg hkp, if_neg (by omega)]; exact hka⟩
  · rw [if_neg h1] at hj ⊢
    by_cases h2 : j = p + 1
    · subst h2
      rw [if_pos rfl] at hj ⊢
      obtain ⟨g1, g2, g3⟩ := h.ok _ _ hj
      have e : i = x := by rw [hx] at hj; injection hj with hj; exact hj.symm
      subst e
      refine ⟨g1, ⟨?_, fun a ha hta => ?_⟩, g3⟩
      · rw [inL_not, mem_take_get]
        rintro ⟨k, hk, hki⟩
        rw [swN_get hpl] at hki
        by_cases hkp : k = p
        · rw [if_pos hkp, hy] at hki
          injection hki with hki
          exact hne hki.symm
        · rw [if_neg hkp, if_neg (by omega)] at hki
          have := h.inj hki hx
          omega
      · have g4 := g2.2 a ha hta
        rw [inL_iff, mem_take_get] at g4
        obtain ⟨k, hk, hka⟩ := g4
        rw [inL_iff, mem_take_get]
        exact ⟨k, by omega, by rw [swN_get hpl, if_neg (by omega), if_neg (by omega)]; exact hka⟩
    · rw [if_neg h2] at hj ⊢
      obtain ⟨g1, g2, g3⟩ := h.ok _ _ hj
      have hmem : ∀ a, inL ((swN l p).take j) a = inL (l.take j) a := fun a => by
        rw [Bool.eq_iff_iff, inL_iff, inL_iff, mem_take_get, mem_take_get]
        constructor
        · rintro ⟨k, hk, hka⟩
          rw [swN_get hpl] at hka
          by_cases k1 : k = p
          · rw [if_pos k1] at hka
            exact ⟨p + 1, by omega, hka⟩
          · rw [if_neg k1] at hka
            by_cases k2 : k = p + 1
            · rw [if_pos k2] at hka
              exact ⟨p, by omega, hka⟩
            · rw [if_neg k2] at hka
              exact ⟨k, hk, hka⟩
        · rintro ⟨k, hk, hka⟩
          by_cases k1 : k = p
          · subst k1
            exact ⟨k + 1, by omega, by rw [swN_get hpl, if_neg (by omega), if_pos rfl]; exact hka⟩
          · by_cases k2 : k = p + 1
            · subst k2
              exact ⟨p, by omega, by rw [swN_get hpl, if_pos rfl]; exact hka⟩
            · exact ⟨k, hk, by rw [swN_get hpl, if_neg k1, if_neg k2]; exact hka⟩
      refine ⟨g1, ⟨by rw [hmem]; exact g2.1, fun a ha hta => by rw [hmem]; exact g2.2 a ha hta⟩, g3⟩
/-- Exchanges of neighbours that do not touch, at places that are counted round. -/
def exL (V : List Wk) : List Nat → List Wk
  | [] => V
  | z :: zs => exL (if 1 < V.length ∧ tchN V (z % (V.length - 1)) (z % (V.length - 1) + 1) = false then swN V (z % (V.length - 1)) else V) zs
theorem exL_ok {W : List Wk} : ∀ (zs : List Nat) (V : List Wk) (l : List Nat), OkL W V l → ∃ l', OkL W (exL V zs) l'
  | [], V, l, h => ⟨l, h⟩
  | z :: zs, V, l, h => by
    unfold exL
    by_cases c : 1 < V.length ∧ tchN V (z % (V.length - 1)) (z % (V.length - 1) + 1) = false
    · rw [if_pos c]
      have := Nat.mod_lt z (show 0 < V.length - 1 by omega)
      exact exL_ok zs _ _ (h.swap (by omega) c.2)
    · rw [if_neg c]
      exact exL_ok zs _ _ h
theorem exL_perm : ∀ (zs : List Nat) (V : List Wk), (exL V zs).Perm V
  | [], V => List.Perm.refl _
  | z :: zs, V => by
    unfold exL
    by_cases c : 1 < V.length ∧ tchN V (z % (V.length - 1)) (z % (V.length - 1) + 1) = false
    · rw [if_pos c]
      exact (exL_perm zs _).trans (swN_perm _ _)
    · rw [if_neg c]
      exact exL_perm zs _
theorem exL_snoc : ∀ (zs : List Nat) (V : List Wk) (z : Nat), exL V (zs ++ [z]) = (if 1 < (exL V zs).length ∧ tchN (exL V zs) (z % ((exL V zs).length - 1)) (z % ((exL V zs).length - 1) + 1) = false then swN (exL V zs) (z % ((exL V zs).length - 1)) else exL V zs)
  | [], V, z => rfl
  | y :: zs, V, z => by
    rw [List.cons_append, exL, exL_snoc zs]
    rfl
theorem OkL.rdy {W V : List Wk} {l : List Nat} (h : OkL W V l) {D E : Nat → Bool} (hD : ∀ j i, l[j]? = some i → D i = E j) {j i : Nat} (hj : l[j]? = some i) : Rdy W D i ↔ Rdy V E j := by
  obtain ⟨_, _, hi⟩ := h.ok j i hj
  have hjV : j < V.length := by have := (List.getElem?_eq_some_iff.1 hj).1; rw [h.len] at this; rw [h.vlen]; exact this
  constructor
  · rintro ⟨h1, h2⟩
    refine ⟨by rw [← hD j i hj]; exact h1, fun k hk ht => ?_⟩
    obtain ⟨a, ha, _, _⟩ := h.get (show k < W.length by rw [← h.vlen]; omega)
    rw [← hD k a ha]
    exact h2 a ((h.ord ha hj ht).1 hk) (by rw [h.tch ha hj]; exact ht)
  · rintro ⟨h1, h2⟩
    refine ⟨by rw [hD j i hj]; exact h1, fun a ha ht => ?_⟩
    obtain ⟨k, hk, _⟩ := h.all (show a < W.length by omega)
    rw [hD k a hk]
    have ht' : tchN V k j = true := by rw [← h.tch hk hj]; exact ht
    exact h2 k ((h.ord hk hj ht').2 ha) ht'
def atL (l : List Nat) (q : Nat) : Nat := (l[q]?).getD 0
theorem atL_get {l : List Nat} {q i : Nat} (h : l[q]? = some i) : atL l q = i := by unfold atL; rw [h]; rfl
/-- Least orders of both rows are of the same works. -/
theorem OkL.least {W V : List Wk} {l : List Nat} (h : OkL W V l) (hp : ∀ i, i < W.length → 0 ≤ (wkN W i).pl) : ∀ m, m ≤ W.length → leastTo W m = (leastTo V m).map (atL l)
  | 0, _ => rfl
  | m + 1, hm => by
    have ih := h.least hp m (by omega)
    have hD : ∀ j i, l[j]? = some i → inL (leastTo W m) i = inL (leastTo V m) j := fun j i hj => by
      rw [ih, Bool.eq_iff_iff, inL_iff, inL_iff, List.mem_map]
      constructor
      · rintro ⟨q, hq, e⟩
        have hql : q < W.length := by rw [← h.vlen]; exact (leastTo_clo V m (by rw [h.vlen]; omega)).2.2 q hq
        obtain ⟨a, ha, _, _⟩ := h.get hql
        rw [atL_get ha] at e
        subst e
        rw [h.inj hj ha]
        exact hq
      · intro hq
        exact ⟨j, hq, atL_get hj⟩
    obtain ⟨i, h1, h2, h3⟩ := least_best (W := V) (k := m) (by rw [h.vlen]; omega)
    obtain ⟨a, ha, haW, hsa⟩ := h.get (show i < W.length by rw [← h.vlen]; exact h2)
    have hb : bestTo W (inL (leastTo W m)) W.length = (a : Int) := by
      refine best_eq haW (hp a haW) ((h.rdy hD ha).2 h3) fun b hb hr => ?_
      obtain ⟨k, hk, hkW⟩ := h.all hb
      have hr' := (h.rdy hD hk).1 hr
      rcases bestTo_spec V (inL (leastTo V m)) V.length with ⟨g1, _⟩ | ⟨i', g1, g2, g3, g4⟩
      · rw [h1] at g1; omega
      · have : i' = i := by omega
        subst this
        have := g4 k (by rw [h.vlen]; exact hkW) hr'
        rw [sameW_pl hsa, sameW_pl (h.ok k b hk).1]
        exact this
    rw [least_next h1, least_next hb, List.map_append, ← ih]
    simp [atL_get ha]
/-- Levels of both rows are those of the same works. -/
theorem OkL.level {W V : List Wk} {l : List Nat} (h : OkL W V l) : ∀ (m j i : Nat), j < m → l[j]? = some i → lv V j = lv W i
  | 0, j, i, hm, _ => by omega
  | m + 1, j, i, hm, hj => by
    obtain ⟨_, _, hi⟩ := h.ok j i hj
    have hjW : j < W.length := by have := (List.getElem?_eq_some_iff.1 hj).1; rw [h.len] at this; exact this
    obtain ⟨v1, v2⟩ := lvOf_spec V j j (Nat.le_refl _)
    obtain ⟨w1, w2⟩ := lvOf_spec W i i (Nat.le_refl _)
    have ev : lvOf V (lvL V j) j j = lv V j := rfl
    have ew : lvOf W (lvL W i) i i = lv W i := rfl
    rw [ev] at v1 v2
    rw [ew] at w1 w2
    have up : ∀ k, k < j → tchN V k j = true → lv V k + 1 ≤ lv W i := fun k hk ht => by
      obtain ⟨a, ha, haW, _⟩ := h.get (show k < W.length by omega)
      rw [h.level m k a (by omega) ha]
      exact w1 a ((h.ord ha hj ht).1 hk) (by rw [h.tch ha hj]; exact ht)
    have down : ∀ a, a < i → tchN W a i = true → lv W a + 1 ≤ lv V j := fun a ha ht => by
      obtain ⟨k, hk, hkW⟩ := h.all (show a < W.length by omega)
      have ht' : tchN V k j = true := by rw [← h.tch hk hj]; exact ht
      have hkj := (h.ord hk hj ht').2 ha
      rw [← h.level m k a (by omega) hk]
      exact v1 k hkj ht'
    have e1 : lv V j ≤ lv W i := by
      rcases v2 with e | ⟨k, hk, ht, e⟩
      · omega
      · have := up k hk ht; omega
    have e2 : lv W i ≤ lv V j := by
      rcases w2 with e | ⟨a, ha, ht, e⟩
      · omega
      · have := down a ha ht; omega
    omega
/-- How many works of a row are of one kind. -/
def kdC (k : Int) (V : List Wk) : Nat := V.countP fun x => decide (x.kd = k)
theorem map_wkN (W : List Wk) : (List.range W.length).map (wkN W) = W := by
  apply List.ext_getElem?
  intro i
  rw [List.getElem?_map]
  by_cases h : i < W.length
  · rw [List.getElem?_range h, wkN_some h]; rfl
  · rw [List.getElem?_eq_none (by simp; omega), List.getElem?_eq_none (by omega)]; rfl
theorem OkL.perm {W V : List Wk} {l : List Nat} (h : OkL W V l) : l.Perm (List.range W.length) := by
  refine (List.perm_ext_iff_of_nodup h.nd List.nodup_range).2 fun i => ?_
  rw [List.mem_range]
  constructor
  · intro hm
    obtain ⟨j, hj⟩ := List.getElem?_of_mem hm
    exact (h.ok j i hj).2.2
  · intro hi
    obtain ⟨j, hj, _⟩ := h.all hi
    exact List.mem_of_getElem? hj
theorem OkL.kinds {W V : List Wk} {l : List Nat} (h : OkL W V l) (k : Int) : kdC k V = kdC k W := by
  have e1 : kdC k W = (l.map fun i => (wkN W i).kd).countP fun z => decide (z = k) := by
    have hp := (h.perm.map fun i => (wkN W i).kd).countP_eq fun z => decide (z = k)
    rw [hp, List.countP_map]
    unfold kdC
    conv => lhs; rw [← map_wkN W]
    rw [List.countP_map]
    rfl
  have e2 : V.map (fun x => x.kd) = l.map fun i => (wkN W i).kd := by
    apply List.ext_getElem?
    intro j
    rw [List.getElem?_map, List.getElem?_map]
    by_cases hj : j < W.length
    · obtain ⟨i, hi, _, hs⟩ := h.get hj
      rw [hi, wkN_some (show j < V.length by rw [h.vlen]; exact hj)]
      rw [sameW_iff] at hs
      simp [hs.1]
    · rw [List.getElem?_eq_none (by rw [h.vlen]; omega), List.getElem?_eq_none (by rw [h.len]; omega)]; rfl
  rw [e1, ← e2, List.countP_map]
  rfl
theorem set_split {α : Type} {V : List α} {k : Nat} {x : α} (h : V[k]? = some x) (y : α) : ∃ A B, V = A ++ x :: B ∧ V.set k y = A ++ y :: B := by
  obtain ⟨hk, rfl⟩ := List.getElem?_eq_some_iff.1 h
  refine ⟨V.take k, V.drop (k + 1), ?_, ?_⟩
  · rw [← List.drop_eq_getElem_cons hk, List.take_append_drop]
  · rw [List.set_eq_take_append_cons_drop, if_pos hk]
/-- With one work of another kind there is no order from the row. -/
theorem OkL.changed {W V : List Wk} {l : List Nat} (h : OkL W V l) {k : Nat} {x y : Wk} (hx : V[k]? = some x) (hne : y.kd ≠ x.kd) : matchTo W (V.set k y) (V.set k y).length = none := by
  cases hm : matchTo W (V.set k y) (V.set k y).length with
  | none => rfl
  | some l' =>
    exfalso
    have h' := OkL.of_match (by rw [List.length_set]; exact h.vlen) hm
    have e := h'.kinds x.kd
    rw [← h.kinds x.kd] at e
    obtain ⟨A, B, e1, e2⟩ := set_split hx y
    rw [e2, e1] at e
    unfold kdC at e
    simp [List.countP_append, List.countP_cons, hne] at e
/-- How many pairs of a list stand in the wrong order. -/
def invN : List Int → Nat
  | [] => 0
  | x :: t => t.countP (fun y => decide (y < x)) + invN t
theorem invN_snoc : ∀ (t : List Int) (x : Int), invN (t ++ [x]) = invN t + t.countP fun y => decide (x < y)
  | [], x => rfl
  | y :: t, x => by
    rw [List.cons_append, invN, invN_snoc t x, invN, List.countP_append, List.countP_cons]
    by_cases h : x < y
    · simp [List.countP_cons, h]; omega
    · simp [List.countP_cons, h]; omega
theorem invN_swap (x y : Int) (B : List Int) (h : y < x) : ∀ (A : List Int), invN (A ++ x :: y :: B) = invN (A ++ y :: x :: B) + 1
  | [] => by
    simp only [List.nil_append, invN, List.countP_cons]
    have : ¬ x < y := by omega
    simp [h, this]
    omega
  | a :: A => by
    rw [List.cons_append, List.cons_append, invN, invN, invN_swap x y B h A]
    have : (A ++ x :: y :: B).countP (fun z => decide (z < a)) = (A ++ y :: x :: B).countP (fun z => decide (z < a)) := (List.Perm.append_left A (List.Perm.swap y x B)).countP_eq _
    omega
theorem swapL_split {t : List Int} {p : Nat} (hp : p + 1 < t.length) : ∃ A x y B, t = A ++ x :: y :: B ∧ swapL t p = A ++ y :: x :: B ∧ t[p]? = some x ∧ t[p + 1]? = some y := by
  refine ⟨t.take p, t[p], t[p + 1], t.drop (p + 2), ?_, ?_, List.getElem?_eq_getElem _, List.getElem?_eq_getElem hp⟩
  · rw [← List.drop_eq_getElem_cons hp, ← List.drop_eq_getElem_cons (by omega), List.take_append_drop]
  · apply List.ext_getElem?
    intro q
    rw [swapL_get hp]
    by_cases h1 : q = p
    · subst h1
      rw [if_pos rfl, List.getElem?_append_right (by simp; omega)]
      simp [show min q t.length = q by omega]
    · by_cases h2 : q = p + 1
      · subst h2
        rw [if_neg h1, if_pos rfl, List.getElem?_append_right (by simp; omega)]
        simp [show min p t.length = p by omega, show p + 1 - p = 1 by omega]
      · rw [if_neg h1, if_neg h2]
        rcases Nat.lt_or_ge q p with g | g
        · rw [List.getElem?_append_left (by simp; omega), List.getElem?_take_of_lt g]
        · rw [List.getElem?_append_right (by simp; omega)]
          simp only [List.length_take, show min p t.length = p by omega]
          obtain ⟨d, rfl⟩ : ∃ d, q = p + 2 + d := ⟨q - p - 2, by omega⟩
          rw [show p + 2 + d - p = d + 1 + 1 by omega, List.getElem?_cons_succ, List.getElem?_cons_succ, List.getElem?_drop]
theorem invN_wrong {t : List Int} {p : Nat} (hp : p + 1 < t.length) (hw : wrongB t p = true) : invN t = invN (swapL t p) + 1 := by
  obtain ⟨A, x, y, B, e1, e2, hx, hy⟩ := swapL_split hp
  unfold wrongB at hw
  rw [hx, hy] at hw
  simp at hw
  rw [e2]
  conv => lhs; rw [e1]
  exact invN_swap x y B hw A
theorem swapL_perm {t : List Int} {p : Nat} (hp : p + 1 < t.length) : (swapL t p).Perm t := by
  obtain ⟨A, x, y, B, e1, e2, _, _⟩ := swapL_split hp
  rw [e2]
  conv => rhs; rw [e1]
  exact List.Perm.append_left A (List.Perm.swap _ _ _)
theorem desc_some {t : List Int} {p : Nat} (h : desc t = some p) : p + 1 < t.length ∧ wrongB t p = true := by
  unfold desc at h
  have h1 := List.find?_some h
  have h2 := List.mem_range.1 (List.mem_of_find?_eq_some h)
  exact ⟨by omega, h1⟩
theorem desc_sorted {t : List Int} (h : desc t = none) {p : Nat} {x y : Int} (hx : t[p]? = some x) (hy : t[p + 1]? = some y) : x ≤ y := by
  unfold desc at h
  have hp := (List.getElem?_eq_some_iff.1 hy).1
  have := List.find?_eq_none.1 h p (List.mem_range.2 (by omega))
  unfold wrongB at this
  rw [hx, hy] at this
  simp at this
  exact this
theorem sorted_all {t : List Int} (h : desc t = none) : ∀ (d p : Nat) (x y : Int), t[p]? = some x → t[p + d]? = some y → x ≤ y
  | 0, p, x, y, hx, hy => by rw [Nat.add_zero, hx] at hy; injection hy with hy; omega
  | d + 1, p, x, y, hx, hy => by
    have hl := (List.getElem?_eq_some_iff.1 hy).1
    obtain ⟨z, hz⟩ : ∃ z, t[p + d]? = some z := ⟨_, List.getElem?_eq_getElem (by omega)⟩
    have h1 := sorted_all h d p x z hx hz
    have h2 := desc_sorted h hz (by rw [Nat.add_assoc]; exact hy)
    omega
theorem sorted_inv : ∀ {t : List Int}, (∀ (p d : Nat) (x y : Int), t[p]? = some x → t[p + d]? = some y → x ≤ y) → invN t = 0
  | [], _ => rfl
  | x :: t, h => by
    rw [invN, sorted_inv (t := t) fun p d x y hx hy => h (p + 1) d x y (by simpa using hx) (by rw [show p + 1 + d = (p + d) + 1 by omega]; simpa using hy)]
    rw [List.countP_eq_zero.2]
    intro y hy
    obtain ⟨k, hk⟩ := List.getElem?_of_mem hy
    have := h 0 (k + 1) x y rfl (by rw [Nat.zero_add]; simpa using hk)
    simp
    omega
/-- A row on its way to another one: t says where each of its works must go. -/
structure Way (V : List Wk) (x : List Wk) (t : List Int) : Prop where
  xl : x.length = V.length
  tl : t.length = V.length
  dst : ∀ (i j : Nat) (z : Int), t[i]? = some z → t[j]? = some z → i = j
  goes : ∀ (i : Nat) (z : Int), t[i]? = some z → 0 ≤ z ∧ z < (V.length : Int) ∧ sameW (wkN x i) (wkN V z.toNat) = true
  tch : ∀ (i j : Nat) (y z : Int), i < j → t[i]? = some y → t[j]? = some z → tchN x i j = true → y < z
theorem Way.free {V x : List Wk} {t : List Int} (h : Way V x t) {p : Nat} (hp : p + 1 < t.length) (hw : wrongB t p = true) : tchN x p (p + 1) = false := by
  cases ht : tchN x p (p + 1) with
  | false => rfl
  | true =>
    have h1 := h.tch p (p + 1) _ _ (by omega) (List.getElem?_eq_getElem (by omega)) (List.getElem?_eq_getElem hp) ht
    unfold wrongB at hw
    rw [List.getElem?_eq_getElem hp, List.getElem?_eq_getElem (by omega : p < t.length)] at hw
    simp at hw
    omega
theorem Way.next {V x : List Wk} {t : List Int} (h : Way V x t) {p : Nat} (hp : p + 1 < t.length) (hw : wrongB t p = true) : Way V (swN x p) (swapL t p) := by
  have hfree := h.free hp hw
  have hpx : p + 1 < x.length := by rw [h.xl, ← h.tl]; exact hp
  -- where a place stood before
  have back : ∀ (i : Nat) (z : Int), (swapL t p)[i]? = some z → ∃ i', t[i']? = some z ∧ wkN (swN x p) i = wkN x i' ∧ i' = (if i = p then p + 1 else if i = p + 1 then p else i) := fun i z hz => by
    rw [swapL_get hp] at hz
    rw [swN_wk hpx]
    by_cases h1 : i = p
    · rw [if_pos h1] at hz ⊢
      exact ⟨p + 1, hz, rfl, by rw [if_pos h1]⟩
    · rw [if_neg h1] at hz ⊢
      by_cases h2 : i = p + 1
      · rw [if_pos h2] at hz ⊢
        exact ⟨p, hz, rfl, by rw [if_neg h1, if_pos h2]⟩
      · rw [if_neg h2] at hz ⊢
        exact ⟨i, hz, rfl, by rw [if_neg h1, if_neg h2]⟩
  refine ⟨by rw [swN_len]; exact h.xl, by rw [swapL_len]; exact h.tl, fun i j z hi hj => ?_, fun i z hi => ?_, fun i j y z hij hy hz ht => ?_⟩
  · obtain ⟨i', h1, _, e1⟩ := back i z hi
    obtain ⟨j', h2, _, e2⟩ := back j z hj
    have e := h.dst i' j' z h1 h2
    subst e
    rw [e1] at e2
    split at e2 <;> split at e2 <;> (try split at e2) <;> (try split at e2) <;> omega
  · obtain ⟨i', h1, e, _⟩ := back i z hi
    rw [e]
    exact h.goes i' z h1
  · obtain ⟨i', h1, e1, f1⟩ := back i y hy
    obtain ⟨j', h2, e2, f2⟩ := back j z hz
    have ht' : tchN x i' j' = true := by
      unfold tchN at ht ⊢
      rw [← e1, ← e2]
      exact ht
    by_cases c : i = p ∧ j = p + 1
    · obtain ⟨rfl, rfl⟩ := c
      rw [if_pos rfl] at f1
      rw [if_neg (by omega), if_pos rfl] at f2
      subst f1 f2
      rw [tchN_symm, hfree] at ht'
      cases ht'
    · refine h.tch i' j' y z ?_ h1 h2 ht'
      subst f1 f2
      split <;> split <;> (try split) <;> (try split) <;> omega
/-- What both exchanges do to a row. -/
def swW (x : List Wk) : List Nat → List Wk
  | [] => x
  | p :: ps => swW (swN x p) ps
theorem swW_snoc : ∀ (ps : List Nat) (x : List Wk) (p : Nat), swW x (ps ++ [p]) = swN (swW x ps) p
  | [], x, p => rfl
  | q :: ps, x, p => by rw [List.cons_append, swW, swW_snoc ps]; rfl
theorem swW_len : ∀ (ps : List Nat) (x : List Wk), (swW x ps).length = x.length
  | [], x => rfl
  | q :: ps, x => by rw [swW, swW_len ps, swN_len]
/-- The exchanges so far: a way, each of two works that do not touch, and as many as pairs were put right. -/
theorem sw_way {V W : List Wk} {t : List Int} (h : Way V W t) : ∀ m, m ≤ invN t → Way V (swW W (swGo t m).2) (swGo t m).1 ∧ (swGo t m).2.length = m ∧ invN t = m + invN (swGo t m).1 ∧
    ∀ (j p : Nat), (swGo t m).2[j]? = some p → p + 1 < W.length ∧ tchN (swW W ((swGo t m).2.take j)) p (p + 1) = false
  | 0, _ => ⟨h, rfl, by show invN t = 0 + invN t; omega, fun j p hj => by simp [swGo] at hj⟩
  | m + 1, hm => by
    obtain ⟨h1, h2, h3, h4⟩ := sw_way h m (by omega)
    cases hd : desc (swGo t m).1 with
    | none =>
      have := sorted_inv fun p d x y hx hy => sorted_all hd d p x y hx hy
      omega
    | some p =>
      obtain ⟨d1, d2⟩ := desc_some hd
      rw [swGo_some hd]
      refine ⟨?_, by simp [h2], ?_, fun j q hj => ?_⟩
      · rw [swW_snoc]
        exact h1.next d1 d2
      · have := invN_wrong d1 d2
        simp only
        omega
      · simp only at hj ⊢
        by_cases c : j < m
        · rw [List.getElem?_append_left (by omega)] at hj
          rw [List.take_append_of_le_length (by omega)]
          exact h4 j q hj
        · have hl := (List.getElem?_eq_some_iff.1 hj).1
          simp [h2] at hl
          have e : j = m := by omega
          subst e
          rw [List.getElem?_append_right (by omega), h2, Nat.sub_self] at hj
          simp at hj
          subst hj
          rw [List.take_append_of_le_length (by omega), List.take_of_length_le (by omega)]
          exact ⟨by rw [h1.tl, ← h.xl] at d1; exact d1, h1.free d1 d2⟩
theorem sw_end {V W : List Wk} {t : List Int} (h : Way V W t) : desc (swGo t (invN t)).1 = none := by
  obtain ⟨h1, h2, h3, h4⟩ := sw_way h _ (Nat.le_refl _)
  cases hd : desc (swGo t (invN t)).1 with
  | none => rfl
  | some p =>
    obtain ⟨d1, d2⟩ := desc_some hd
    have := invN_wrong d1 d2
    omega
theorem sw_out {V W : List Wk} {t : List Int} (h : Way V W t) (hi : invN t ≤ 5000) : swOut t = some (swGo t (invN t)).2 ∧ (swGo t (invN t)).2.length = invN t := by
  obtain ⟨_, h2, _, _⟩ := sw_way h _ (Nat.le_refl _)
  have e := swGo_stop (sw_end h) (5001 - invN t)
  rw [show invN t + (5001 - invN t) = 5001 by omega] at e
  unfold swOut
  rw [e, if_neg (by omega)]
  exact ⟨rfl, h2⟩
theorem invN_le : ∀ (t : List Int), 2 * invN t ≤ t.length * (t.length - 1)
  | [] => Nat.le_refl _
  | x :: t => by
    have h1 := invN_le t
    have h2 : t.countP (fun y => decide (y < x)) ≤ t.length := List.countP_le_length
    rw [invN, List.length_cons, Nat.add_sub_cancel]
    cases hl : t.length with
    | zero => rw [hl] at h1 h2; omega
    | succ n =>
      rw [hl, Nat.add_sub_cancel] at h1
      rw [hl] at h2
      have : (n + 1 + 1) * (n + 1) = (n + 1) * n + 2 * (n + 1) := by rw [Nat.add_mul, Nat.mul_succ]; omega
      omega
/-- At the end each work stands at its place. -/
theorem way_end {V x : List Wk} {t : List Int} (h : Way V x t) (hd : desc t = none) : ∀ i, i < V.length → sameW (wkN x i) (wkN V i) = true := by
  have hs := sorted_all hd
  have lt : ∀ (i j : Nat) (y z : Int), i < j → t[i]? = some y → t[j]? = some z → y < z := fun i j y z hij hy hz => by
    have h1 := hs (j - i) i y z hy (by rw [show i + (j - i) = j by omega]; exact hz)
    have : y ≠ z := fun e => by
      subst e
      have := h.dst i j y hy hz
      omega
    omega
  have lo : ∀ (i : Nat) (z : Int), t[i]? = some z → (i : Int) ≤ z := fun i => by
    induction i with
    | zero => intro z hz; exact (h.goes 0 z hz).1
    | succ i ih =>
      intro z hz
      have hl := (List.getElem?_eq_some_iff.1 hz).1
      have h1 := ih _ (List.getElem?_eq_getElem (show i < t.length by omega))
      have h2 := lt i (i + 1) _ z (by omega) (List.getElem?_eq_getElem (show i < t.length by omega)) hz
      omega
  have hi : ∀ (d i : Nat) (z : Int), i + d + 1 = t.length → t[i]? = some z → z ≤ (i : Int) := fun d => by
    induction d with
    | zero =>
      intro i z hl hz
      have := (h.goes i z hz).2.1
      have := h.tl
      omega
    | succ d ih =>
      intro i z hl hz
      have h1 := ih (i + 1) _ (by omega) (List.getElem?_eq_getElem (show i + 1 < t.length by omega))
      have h2 := lt i (i + 1) z _ (by omega) hz (List.getElem?_eq_getElem (show i + 1 < t.length by omega))
      omega
  intro i hiV
  have hil : i < t.length := by rw [h.tl]; exact hiV
  have hz := List.getElem?_eq_getElem hil
  have h1 := lo i _ hz
  have h2 := hi (t.length - i - 1) i _ (by omega) hz
  have h3 := (h.goes i _ hz).2.2
  rwa [show t[i].toNat = i by omega] at h3
theorem LI_at {l : List Nat} {j i : Nat} (h : l[j]? = some i) : (LI l)[j]? = some (i : Int) := by unfold LI; rw [List.getElem?_map, h]; rfl
theorem LI_inv {l : List Nat} {j : Nat} {z : Int} (h : (LI l)[j]? = some z) : ∃ i : Nat, l[j]? = some i ∧ z = (i : Int) := by
  unfold LI at h
  rw [List.getElem?_map, Option.map_eq_some_iff] at h
  obtain ⟨i, h1, h2⟩ := h
  exact ⟨i, h1, h2.symm⟩
theorem invL_get {l : List Nat} {n i j : Nat} (h : (invL l n)[i]? = some j) : i < n ∧ l.idxOf i = j := by
  unfold invL at h
  rw [List.getElem?_map, Option.map_eq_some_iff] at h
  obtain ⟨k, h1, h2⟩ := h
  obtain ⟨h3, h4⟩ := List.getElem?_eq_some_iff.1 h1
  simp at h3 h4
  subst h4
  exact ⟨h3, h2⟩
theorem OkL.way {W V : List Wk} {l : List Nat} (h : OkL W V l) : Way V W (LI (invL l V.length)) := by
  have at_ : ∀ {i j : Nat}, (invL l V.length)[i]? = some j → l[j]? = some i := fun {i j} hi => by
    obtain ⟨h1, h2⟩ := invL_get hi
    obtain ⟨k, hk, _⟩ := h.all (show i < W.length by rw [← h.vlen]; exact h1)
    rw [idx_at h.nd hk] at h2
    subst h2
    exact hk
  refine ⟨h.vlen.symm, by simp [LI, invL], fun i j z hi hj => ?_, fun i z hi => ?_, fun i j y z hij hy hz ht => ?_⟩
  · obtain ⟨a, ha, rfl⟩ := LI_inv hi
    obtain ⟨b, hb, e⟩ := LI_inv hj
    have e' : b = a := by omega
    subst e'
    have h1 := at_ ha
    rw [at_ hb] at h1
    injection h1 with h1
    exact h1.symm
  · obtain ⟨a, ha, rfl⟩ := LI_inv hi
    have h1 := at_ ha
    have h2 := (List.getElem?_eq_some_iff.1 h1).1
    rw [h.len, ← h.vlen] at h2
    exact ⟨by omega, by omega, by rw [Int.toNat_natCast]; exact (h.ok a i h1).1⟩
  · obtain ⟨a, ha, rfl⟩ := LI_inv hy
    obtain ⟨b, hb, rfl⟩ := LI_inv hz
    have := (h.ord (at_ ha) (at_ hb) (by rw [← h.tch (at_ ha) (at_ hb)]; exact ht)).2 hij
    omega
def sumN (L M : List Nat) (f : Nat → Nat → Bool) : Nat := (L.map fun i => M.countP (f i)).sum
theorem sumN_nil (M : List Nat) (f : Nat → Nat → Bool) : sumN M [] f = 0 := by
  unfold sumN
  induction M with
  | nil => rfl
  | cons x M ih => rw [List.map_cons, List.sum_cons, ih]; rfl
theorem sumN_cons (M L : List Nat) (x : Nat) (f : Nat → Nat → Bool) : sumN M (x :: L) f = M.countP (fun k => f k x) + sumN M L f := by
  unfold sumN
  induction M with
  | nil => rfl
  | cons y M ih =>
    rw [List.map_cons, List.sum_cons, ih, List.map_cons, List.sum_cons, List.countP_cons, List.countP_cons]
    omega
theorem sumN_comm : ∀ (L M : List Nat) (f : Nat → Nat → Bool), sumN L M f = sumN M L fun k i => f i k
  | [], M, f => by rw [sumN_nil]; rfl
  | x :: L, M, f => by
    rw [sumN_cons, ← sumN_comm L M f]
    rfl
theorem sum_perm {A B : List Nat} (h : A.Perm B) : A.sum = B.sum := by
  induction h with
  | nil => rfl
  | cons x _ ih => simp [ih]
  | swap x y l => simp; omega
  | trans _ _ h1 h2 => omega
theorem sumN_perm1 {L L' : List Nat} (h : L.Perm L') (M : List Nat) (f : Nat → Nat → Bool) : sumN L M f = sumN L' M f := sum_perm (h.map _)
theorem sumN_perm2 {M M' : List Nat} (h : M.Perm M') (L : List Nat) (f : Nat → Nat → Bool) : sumN L M f = sumN L M' f := by
  rw [sumN_comm, sumN_perm1 h, ← sumN_comm]
theorem map_atL (l : List Nat) : (List.range l.length).map (atL l) = l := by
  apply List.ext_getElem?
  intro i
  rw [List.getElem?_map]
  by_cases h : i < l.length
  · rw [List.getElem?_range h, List.getElem?_eq_getElem h, Option.map_some, atL_get (List.getElem?_eq_getElem h)]
  · rw [List.getElem?_eq_none (by simp; omega), List.getElem?_eq_none (by omega)]; rfl
theorem sumN_map (L : List Nat) (n : Nat) (g : Nat → Nat) (f : Nat → Nat → Bool) : sumN ((List.range n).map g) ((List.range n).map g) f = sumN (List.range n) (List.range n) fun i k => f (g i) (g k) := by
  unfold sumN
  rw [List.map_map]
  congr 1
  apply List.map_congr_left
  intro i _
  simp only [Function.comp]
  rw [List.countP_map]
  rfl
def atI (t : List Int) (q : Nat) : Int := (t[q]?).getD 0
theorem atI_get {t : List Int} {q : Nat} {z : Int} (h : t[q]? = some z) : atI t q = z := by unfold atI; rw [h]; rfl
theorem take_map (t : List Int) : ∀ m, m ≤ t.length → t.take m = (List.range m).map (atI t) := fun m hm => by
  apply List.ext_getElem?
  intro i
  rw [List.getElem?_map]
  by_cases h : i < m
  · rw [List.getElem?_take_of_lt h, List.getElem?_range h, List.getElem?_eq_getElem (by omega), Option.map_some, atI_get (List.getElem?_eq_getElem (by omega))]
  · rw [List.getElem?_eq_none (by rw [List.length_take]; omega), List.getElem?_eq_none (by simp; omega)]; rfl
theorem invN_sum (t : List Int) : invN t = sumN (List.range t.length) (List.range t.length) fun i k => decide (k < i) && decide (atI t i < atI t k) := by
  have key : ∀ m, m ≤ t.length → invN (t.take m) = sumN (List.range m) (List.range t.length) fun i k => decide (k < i) && decide (atI t i < atI t k) := by
    intro m
    induction m with
    | zero => intro _; rfl
    | succ m ih =>
      intro hm
      obtain ⟨z, hz⟩ : ∃ z, t[m]? = some z := ⟨_, List.getElem?_eq_getElem (by omega)⟩
      have ez := atI_get hz
      rw [List.take_add_one, hz]
      simp only [Option.toList_some]
      rw [invN_snoc, ih (by omega)]
      unfold sumN
      rw [List.range_succ, List.map_append, List.sum_append]
      congr 1
      rw [List.map_cons, List.map_nil, List.sum_cons, List.sum_nil, Nat.add_zero, take_map t m (by omega), List.countP_map, ← ez]
      obtain ⟨d, hd⟩ : ∃ d, t.length = m + d := ⟨t.length - m, by omega⟩
      rw [hd, List.range_add, List.countP_append]
      have z0 : ((List.range d).map (fun x => m + x)).countP (fun k => decide (k < m) && decide (atI t m < atI t k)) = 0 := by
        rw [List.countP_eq_zero]
        intro a ha
        obtain ⟨b, _, rfl⟩ := List.mem_map.1 ha
        simp
        omega
      rw [z0, Nat.add_zero]
      apply List.countP_congr
      intro a ha
      have := List.mem_range.1 ha
      simp [this]
  have := key t.length (Nat.le_refl _)
  rwa [List.take_length] at this
/-- There and back there are as many wrong pairs. -/
theorem OkL.inv {W V : List Wk} {l : List Nat} (h : OkL W V l) : invN (LI (invL l V.length)) = invN (LI l) := by
  have hl := h.len
  have hv := h.vlen
  have e1 : (LI (invL l V.length)).length = W.length := by simp [LI, invL, hv]
  have e2 : (LI l).length = W.length := by rw [LI_len, hl]
  rw [invN_sum, invN_sum, e1, e2]
  have hp : ((List.range W.length).map (atL l)).Perm (List.range W.length) := by
    have := h.perm
    rw [← hl] at this ⊢
    rw [map_atL]
    exact this
  rw [← sumN_perm1 hp, ← sumN_perm2 hp, sumN_map (List.range W.length), sumN_comm]
  have fact : ∀ i, i < W.length → atL l i < W.length ∧ atI (LI (invL l V.length)) (atL l i) = (i : Int) ∧ atI (LI l) i = (atL l i : Int) := fun i hi => by
    obtain ⟨a, ha, haW, _⟩ := h.get hi
    rw [atL_get ha, atI_get (LI_at ha)]
    refine ⟨haW, atI_get (LI_at ?_), rfl⟩
    unfold invL
    rw [List.getElem?_map, List.getElem?_range (by omega), Option.map_some, idx_at h.nd ha]
  unfold sumN
  congr 1
  apply List.map_congr_left
  intro i hi
  apply List.countP_congr
  intro k hk
  obtain ⟨a1, a2, a3⟩ := fact i (List.mem_range.1 hi)
  obtain ⟨b1, b2, b3⟩ := fact k (List.mem_range.1 hk)
  show (decide (atL l i < atL l k) && decide (atI (LI (invL l V.length)) (atL l k) < atI (LI (invL l V.length)) (atL l i))) = true ↔ (decide (k < i) && decide (atI (LI l) i < atI (LI l) k)) = true
  rw [a2, a3, b2, b3]
  simp
  omega
end Go.Proofs.Ytcjbjlepgdggpaa
