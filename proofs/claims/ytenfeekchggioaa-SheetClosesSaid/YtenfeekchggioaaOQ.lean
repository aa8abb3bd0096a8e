/- Steps between works and works that touch; orders: theory. -/
import Derived.Test.YtenfeekchggioaaOI2
namespace Go.Proofs.Ytenfeekchggioaa
open Go.RowKit Go.Shelf
theorem wkN_get {W : List Wk} {i : Nat} {x : Wk} (h : W[i]? = some x) : wkN W i = x := by unfold wkN; rw [h]; rfl
/-- Where an edge ends. -/
theorem endL_char (W : List Wk) (p : Int) : ∀ (m f : Nat), W.length ≤ f + m →
    (∃ c x, f ≤ c ∧ W[c]? = some x ∧ endL (W.drop f) f p = ((c : Int), p - x.pl) ∧ 0 ≤ p - x.pl ∧ p - x.pl < 2 ∧ ∀ k y, f ≤ k → k < c → W[k]? = some y → ¬ (0 ≤ p - y.pl ∧ p - y.pl < 2)) ∨
    (endL (W.drop f) f p = (-1, p) ∧ ∀ k y, f ≤ k → W[k]? = some y → ¬ (0 ≤ p - y.pl ∧ p - y.pl < 2))
  | 0, f, h => .inr ⟨endL_none (by omega), fun k y hk hy => by have := (List.getElem?_eq_some_iff.1 hy).1; omega⟩
  | m + 1, f, h => by
    by_cases hf : f < W.length
    · obtain ⟨x, hx⟩ : ∃ x, W[f]? = some x := ⟨_, List.getElem?_eq_getElem hf⟩
      by_cases hp : 0 ≤ p - x.pl ∧ p - x.pl < 2
      · exact .inl ⟨f, x, Nat.le_refl _, hx, endL_hit hx hp.1 hp.2, hp.1, hp.2, fun k y h1 h2 => by omega⟩
      · rw [endL_miss hx hp]
        rcases endL_char W p m (f + 1) (by omega) with ⟨c, y, h1, h2, h3, h4, h5, h6⟩ | ⟨h1, h2⟩
        · refine .inl ⟨c, y, by omega, h2, h3, h4, h5, fun k z k1 k2 kz => ?_⟩
          by_cases e : k = f
          · subst e
            rw [hx] at kz
            cases kz
            exact hp
          · exact h6 k z (by omega) k2 kz
        · refine .inr ⟨h1, fun k z k1 kz => ?_⟩
          by_cases e : k = f
          · subst e
            rw [hx] at kz
            cases kz
            exact hp
          · exact h2 k z (by omega) kz
    · exact .inr ⟨endL_none (by omega), fun k y hk hy => by have := (List.getElem?_eq_some_iff.1 hy).1; omega⟩
theorem downE_mem (W : List Wk) (e : Ed) : ∀ (L : List Wk) (i0 : Nat), e ∈ downE W L i0 → ∃ i x j, j < 2 ∧ L[i]? = some x ∧ e = sideE W (i0 + i) x j
  | [], _, h => by simp [downE] at h
  | y :: L, i0, h => by
    simp only [downE, List.mem_cons] at h
    rcases h with rfl | rfl | h
    · exact ⟨0, y, 0, by omega, rfl, rfl⟩
    · exact ⟨0, y, 1, by omega, rfl, rfl⟩
    · obtain ⟨i, x, j, h1, h2, h3⟩ := downE_mem W e L (i0 + 1) h
      exact ⟨i + 1, x, j, h1, by simpa using h2, by rw [h3, show i0 + 1 + i = i0 + (i + 1) by omega]⟩
theorem tch_iff {W : List Wk} {i j : Nat} {x y : Wk} (hx : W[i]? = some x) (hy : W[j]? = some y) : tchN W i j = true ↔ (x.pl - y.pl < 2 ∧ y.pl - x.pl < 2) := by
  unfold tchN touchP
  rw [wkN_get hx, wkN_get hy]
  simp
/-- Each step leads to a later work that touches. -/
theorem step_char {pr : Nat} {W : List Wk} {e : Ed} (h : e ∈ stepsL pr W) : ∃ i j : Nat, e.fr = (i : Int) ∧ e.to = (j : Int) ∧ i < j ∧ j < W.length ∧ tchN W i j = true := by
  obtain ⟨h1, h2⟩ := List.mem_filter.1 h
  unfold edgesL at h1
  rcases List.mem_append.1 h1 with h1 | h1
  · obtain ⟨p, _, rfl⟩ := List.mem_map.1 h1
    exact absurd h2 (by show ¬ isStep (topE W p) = true; unfold isStep topE edgeP; simp)
  · obtain ⟨i, x, j, hj, hx, he⟩ := downE_mem W e W 0 h1
    rw [Nat.zero_add] at he
    subst he
    have hto : (sideE W i x j).to = (endL (W.drop (i + 1)) (i + 1) (x.pl + (j : Int))).1 := rfl
    rcases endL_char W (x.pl + (j : Int)) W.length (i + 1) (by omega) with ⟨c, y, g1, g2, g3, g4, g5, _⟩ | ⟨g1, _⟩
    · refine ⟨i, c, by show (((i + 1 : Nat) : Int) - 1) = _; omega, by rw [hto, g3], by omega, (List.getElem?_eq_some_iff.1 g2).1, ?_⟩
      rw [tch_iff hx g2]
      omega
    · exfalso
      unfold isStep at h2
      rw [hto, g1] at h2
      simp at h2
/-- Where two works touch, a step leads from the first one on towards the other one. -/
theorem step_to {pr : Nat} {W : List Wk} {a b : Nat} (hab : a < b) (hb : b < W.length) (ht : tchN W a b = true) : ∃ c, a < c ∧ c ≤ b ∧ (c = b ∨ tchN W c b = true) ∧ ∃ e ∈ stepsL pr W, e.fr = (a : Int) ∧ e.to = (c : Int) := by
  obtain ⟨x, hx⟩ : ∃ x, W[a]? = some x := ⟨_, List.getElem?_eq_getElem (by omega)⟩
  obtain ⟨y, hy⟩ : ∃ y, W[b]? = some y := ⟨_, List.getElem?_eq_getElem hb⟩
  rw [tch_iff hx hy] at ht
  obtain ⟨j, hj, h1, h2⟩ : ∃ j : Nat, j < 2 ∧ 0 ≤ x.pl + (j : Int) - y.pl ∧ x.pl + (j : Int) - y.pl < 2 := by
    by_cases h : y.pl ≤ x.pl
    · exact ⟨0, by omega, by omega, by omega⟩
    · exact ⟨1, by omega, by omega, by omega⟩
  rcases endL_char W (x.pl + (j : Int)) W.length (a + 1) (by omega) with ⟨c, z, g1, g2, g3, g4, g5, g6⟩ | ⟨_, g2⟩
  · have hcb : c ≤ b := by
      rcases Nat.lt_or_ge b c with h | h
      · exact absurd ⟨h1, h2⟩ (g6 b y (by omega) h hy)
      · exact h
    have hfr : (sideE W a x j).fr = (a : Int) := by show (((a + 1 : Nat) : Int) - 1) = _; omega
    have hto : (sideE W a x j).to = (c : Int) := by show (endL (W.drop (a + 1)) (a + 1) (x.pl + (j : Int))).1 = _; rw [g3]
    refine ⟨c, by omega, hcb, ?_, sideE W a x j, List.mem_filter.2 ⟨side_mem W pr a j x hj hx, ?_⟩, hfr, hto⟩
    · rcases Nat.lt_or_ge c b with h | h
      · right
        rw [tch_iff g2 hy]
        omega
      · left; omega
    · unfold isStep
      rw [hfr, hto]
      simp
  · exact absurd ⟨h1, h2⟩ (g2 b y (by omega) hy)
/-- The reference's order. -/
def goodAt (W : List Wk) (os : List Int) (k : Nat) : Bool :=
  match os[k]? with
  | none => true
  | some z => (decide (0 ≤ z) && decide (z < (W.length : Int))) && !doneS (os.take k) z.toNat && (List.range z.toNat).all fun a => !tchN W a z.toNat || doneS (os.take k) a
def refOrdB (W : List Wk) (os : List Int) : Bool := decide (os.length = W.length) && (List.range os.length).all (goodAt W os)
theorem perm_idx {n : Nat} {os : List Int} (h : permB n os = true) : (∀ j, j < n → (j : Int) ∈ os) ∧ (∀ (k : Nat) (z : Int), os[k]? = some z → os.idxOf z = k) ∧ os.length = n ∧ ∀ z ∈ os, 0 ≤ z ∧ z < (n : Int) := by
  unfold permB at h
  simp only [Bool.and_eq_true, decide_eq_true_eq, List.all_eq_true] at h
  obtain ⟨⟨h1, h2⟩, h3⟩ := h
  refine ⟨fun j hj => ?_, fun k z hk => ?_, h1, h2⟩
  · rcases Classical.em ((j : Int) ∈ os) with hm | hm
    · exact hm
    · exfalso
      -- the others are fewer
      have hd : (os.map Int.toNat).Nodup := by
        unfold List.Nodup
        rw [List.pairwise_map]
        refine List.Pairwise.imp_of_mem (fun {a b} ha hb hab => ?_) h3
        have := h2 a ha
        have := h2 b hb
        omega
      have hd2 : (j :: os.map Int.toNat).Nodup := by
        rw [List.nodup_cons]
        refine ⟨fun h => ?_, hd⟩
        obtain ⟨z, hz, e⟩ := List.mem_map.1 h
        have := h2 z hz
        exact hm (by rw [show (j : Int) = z by omega]; exact hz)
      have := nodup_len n (j :: os.map Int.toNat) hd2 (fun x hx => by
        rcases List.mem_cons.1 hx with rfl | hx
        · exact hj
        · obtain ⟨z, hz, rfl⟩ := List.mem_map.1 hx
          have := h2 z hz
          omega)
      simp only [List.length_cons, List.length_map] at this
      omega
  · obtain ⟨hk1, hk2⟩ := List.getElem?_eq_some_iff.1 hk
    rw [← hk2]
    exact List.Nodup.idxOf_getElem h3 k hk1
theorem take_idx {os : List Int} {k : Nat} {z : Int} (hn : ∀ (k : Nat) (z : Int), os[k]? = some z → os.idxOf z = k) (hz : z ∈ os) : z ∈ os.take k ↔ os.idxOf z < k := by
  constructor
  · intro h
    obtain ⟨i, hi, he⟩ := List.mem_iff_getElem.1 h
    rw [List.length_take] at hi
    have : os[i]? = some z := by
      rw [List.getElem_take] at he
      rw [List.getElem?_eq_getElem (by omega), he]
    rw [hn i z this]
    omega
  · intro h
    have hl : os.idxOf z < os.length := List.idxOf_lt_length_of_mem hz
    rw [List.mem_iff_getElem]
    refine ⟨os.idxOf z, by rw [List.length_take]; omega, ?_⟩
    rw [List.getElem_take]
    exact List.getElem_idxOf hl
theorem ord_eq (pr : Nat) (W : List Wk) (os : List Int) : ordB pr W os = refOrdB W os := by
  rw [Bool.eq_iff_iff]
  constructor
  · intro h
    unfold ordB at h
    rw [Bool.and_eq_true, List.all_eq_true] at h
    obtain ⟨hp, hs⟩ := h
    obtain ⟨p1, p2, p3, p4⟩ := perm_idx hp
    have hpos : ∀ j, j < W.length → posN os os.length j = os.idxOf (j : Int) := fun j hj => by
      unfold posN
      rw [List.take_length, if_pos (p1 j hj)]
    have hlt : ∀ (m a b : Nat), b ≤ a + m → a < b → b < W.length → tchN W a b = true → os.idxOf (a : Int) < os.idxOf (b : Int) := fun m => by
      induction m with
      | zero => intro a b h1 h2; omega
      | succ m ih =>
        intro a b h1 h2 h3 h4
        obtain ⟨c, g1, g2, g3, e, he, hf, ht⟩ := step_to (pr := pr) h2 h3 h4
        have hse := hs e he
        unfold inOrd at hse
        rw [hf, ht, Int.toNat_natCast, Int.toNat_natCast, hpos a (by omega), hpos c (by omega), decide_eq_true_eq] at hse
        have hne : os.idxOf (a : Int) ≠ os.idxOf (c : Int) := fun h => by
          have ha := List.getElem_idxOf (List.idxOf_lt_length_of_mem (p1 a (by omega)))
          have hc := List.getElem_idxOf (List.idxOf_lt_length_of_mem (p1 c (by omega)))
          have : (a : Int) = (c : Int) := by
            rw [← ha, ← hc]
            congr 1
          omega
        rcases g3 with rfl | g3
        · omega
        · by_cases hcb : c = b
          · subst hcb; omega
          · have := ih c b (by omega) (by omega) h3 g3
            omega
    unfold refOrdB
    rw [Bool.and_eq_true, decide_eq_true_eq, List.all_eq_true]
    refine ⟨p3, fun k hk => ?_⟩
    have hk := List.mem_range.1 hk
    obtain ⟨z, hz⟩ : ∃ z, os[k]? = some z := ⟨_, List.getElem?_eq_getElem hk⟩
    have hzm := List.mem_of_getElem? hz
    have hzr := p4 z hzm
    obtain ⟨b, rfl⟩ : ∃ b : Nat, z = (b : Int) := ⟨z.toNat, by omega⟩
    unfold goodAt
    rw [hz]
    simp only [Int.toNat_natCast, Bool.and_eq_true, decide_eq_true_eq, List.all_eq_true, Bool.not_eq_true', doneS, decide_eq_false_iff_not, Bool.or_eq_true]
    refine ⟨⟨hzr, fun h => ?_⟩, fun a ha => ?_⟩
    · have := (take_idx p2 hzm).1 h
      rw [p2 k _ hz] at this
      omega
    · have ha := List.mem_range.1 ha
      by_cases ht : tchN W a b = true
      · right
        rw [take_idx p2 (p1 a (by omega)), ← p2 k _ hz]
        exact hlt W.length a b (by omega) ha (by omega) ht
      · left
        simpa using ht
  · intro h
    unfold refOrdB at h
    rw [Bool.and_eq_true, decide_eq_true_eq, List.all_eq_true] at h
    obtain ⟨hl, hg⟩ := h
    have hgk : ∀ (k : Nat) (z : Int), os[k]? = some z → (0 ≤ z ∧ z < (W.length : Int)) ∧ ¬ z ∈ os.take k ∧ ∀ a, a < z.toNat → tchN W a z.toNat = true → (a : Int) ∈ os.take k := fun k z hz => by
      have := hg k (List.mem_range.2 (List.getElem?_eq_some_iff.1 hz).1)
      unfold goodAt at this
      rw [hz] at this
      simp only [Bool.and_eq_true, decide_eq_true_eq, List.all_eq_true, Bool.not_eq_true', doneS, decide_eq_false_iff_not, Bool.or_eq_true] at this
      obtain ⟨⟨h1, h2⟩, h3⟩ := this
      refine ⟨h1, by rw [Int.toNat_of_nonneg h1.1] at h2; exact h2, fun a ha ht => ?_⟩
      rcases h3 a (List.mem_range.2 ha) with h | h
      · rw [ht] at h; cases h
      · exact h
    have hpo : ∀ k, k ≤ os.length → PreOk W.length os k := fun k => by
      induction k with
      | zero => intro _; exact ⟨fun z hz => by simp at hz, by simp⟩
      | succ k ih =>
        intro hk
        obtain ⟨z, hz⟩ : ∃ z, os[k]? = some z := ⟨_, List.getElem?_eq_getElem (by omega)⟩
        exact preOk_next (ih (by omega)) hz (hgk k z hz).1 (hgk k z hz).2.1
    have hp : permB W.length os = true := permB_ok hl (hpo _ (Nat.le_refl _))
    obtain ⟨p1, p2, p3, p4⟩ := perm_idx hp
    unfold ordB
    rw [hp, Bool.true_and, List.all_eq_true]
    intro e he
    obtain ⟨i, j, hf, ht, hij, hj, htc⟩ := step_char he
    unfold inOrd
    rw [hf, ht, Int.toNat_natCast, Int.toNat_natCast, decide_eq_true_eq]
    unfold posN
    rw [List.take_length, if_pos (p1 i (by omega)), if_pos (p1 j hj)]
    have hjk := List.idxOf_lt_length_of_mem (p1 j hj)
    have hjs : os[os.idxOf (j : Int)]? = some (j : Int) := by rw [List.getElem?_eq_getElem hjk, List.getElem_idxOf hjk]
    have := (hgk _ _ hjs).2.2 i (by simpa using hij) (by simpa using htc)
    have := (take_idx p2 (p1 i (by omega))).1 this
    omega
end Go.Proofs.Ytenfeekchggioaa
