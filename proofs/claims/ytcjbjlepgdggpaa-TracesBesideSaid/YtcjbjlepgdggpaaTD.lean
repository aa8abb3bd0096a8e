/- Theory of traces: works that are ready, orders, levels, exchanges. -/
import Derived.Test.YtcjbjlepgdggpaaTC
import Derived.Test.YtcjbjlepgdggpaaFN
namespace Go.Proofs.Ytcjbjlepgdggpaa
set_option linter.unusedSimpArgs false
set_option linter.unusedVariables false
theorem downE_mem (W : List Wk) (e : Ed) : ∀ (L : List Wk) (i0 : Nat), e ∈ downE W L i0 → ∃ i x j, j < 2 ∧ L[i]? = some x ∧ e = sideE W (i0 + i) x j
  | [], _, h => by simp [downE] at h
  | y :: L, i0, h => by
    simp only [downE, List.mem_cons] at h
    rcases h with rfl | rfl | h
    · exact ⟨0, y, 0, by omega, rfl, rfl⟩
    · exact ⟨0, y, 1, by omega, rfl, rfl⟩
    · obtain ⟨i, x, j, h1, h2, h3⟩ := downE_mem W e L (i0 + 1) h
      exact ⟨i + 1, x, j, h1, by simpa using h2, by rw [h3, show i0 + 1 + i = i0 + (i + 1) by omega]⟩
/-- Each step leads to a later work that touches. -/
theorem step_char {pr : Nat} {W : List Wk} {e : Ed} (h : e ∈ stepsL pr W) : ∃ i j : Nat, e.fr = (i : Int) ∧ e.to = (j : Int) ∧ i < j ∧ j < W.length ∧ tchN W i j = true := by
  obtain ⟨h1, h2⟩ := List.mem_filter.1 h
  unfold edgesL at h1
  rcases List.mem_append.1 h1 with h1 | h1
  · obtain ⟨p, _, rfl⟩ := List.mem_map.1 h1
    exact absurd h2 (by show ¬ isStep (topE W p) = true; unfold isStep topE edgeP; simp)
  · obtain ⟨i, x, j, hj, hx, he⟩ := downE_mem W e W 0 h1
    rw [Nat.zero_add] at he
    subst he
    have hto : (sideE W i x j).to = (endL (W.drop (i + 1)) (i + 1) (x.pl + (j : Int))).1 := rfl
    rcases endL_char W (x.pl + (j : Int)) W.length (i + 1) (by omega) with ⟨c, y, g1, g2, g3, g4, g5, _⟩ | ⟨g1, _⟩
    · refine ⟨i, c, by show (((i + 1 : Nat) : Int) - 1) = _; omega, by rw [hto, g3], by omega, (List.getElem?_eq_some_iff.1 g2).1, ?_⟩
      rw [tch_iff hx g2]
      omega
    · exfalso
      unfold isStep at h2
      rw [hto, g1] at h2
      simp at h2
/-- Where two works touch, a step leads from the first one on towards the other one. -/
theorem step_to {pr : Nat} {W : List Wk} {a b : Nat} (hab : a < b) (hb : b < W.length) (ht : tchN W a b = true) : ∃ c, a < c ∧ c ≤ b ∧ (c = b ∨ tchN W c b = true) ∧ ∃ e ∈ stepsL pr W, e.fr = (a : Int) ∧ e.to = (c : Int) := by
  obtain ⟨x, hx⟩ : ∃ x, W[a]? = some x := ⟨_, List.getElem?_eq_getElem (by omega)⟩
  obtain ⟨y, hy⟩ : ∃ y, W[b]? = some y := ⟨_, List.getElem?_eq_getElem hb⟩
  rw [tch_iff hx hy] at ht
  obtain ⟨j, hj, h1, h2⟩ : ∃ j : Nat, j < 2 ∧ 0 ≤ x.pl + (j : Int) - y.pl ∧ x.pl + (j : Int) - y.pl < 2 := by
    by_cases h : y.pl ≤ x.pl
    · exact ⟨0, by omega, by omega, by omega⟩
    · exact ⟨1, by omega, by omega, by omega⟩
  rcases endL_char W (x.pl + (j : Int)) W.length (a + 1) (by omega) with ⟨c, z, g1, g2, g3, g4, g5, g6⟩ | ⟨_, g2⟩
  · have hcb : c ≤ b := by
      rcases Nat.lt_or_ge b c with h | h
      · exact absurd ⟨h1, h2⟩ (g6 b y (by omega) h hy)
      · exact h
    have hfr : (sideE W a x j).fr = (a : Int) := by show (((a + 1 : Nat) : Int) - 1) = _; omega
    have hto : (sideE W a x j).to = (c : Int) := by show (endL (W.drop (a + 1)) (a + 1) (x.pl + (j : Int))).1 = _; rw [g3]
    refine ⟨c, by omega, hcb, ?_, sideE W a x j, List.mem_filter.2 ⟨side_mem W pr a j x hj hx, ?_⟩, hfr, hto⟩
    · rcases Nat.lt_or_ge c b with h | h
      · right
        rw [tch_iff g2 hy]
        omega
      · left; omega
    · unfold isStep
      rw [hfr, hto]
      simp
  · exact absurd ⟨h1, h2⟩ (g2 b y (by omega) hy)
/-- Sets of works that hold what must come before. -/
def Clo (W : List Wk) (D : Nat → Bool) : Prop := ∀ a b, D a = true → a < W.length → b < a → tchN W b a = true → D b = true
theorem clo_none (W : List Wk) : Clo W (fun _ => false) := fun a b h => by cases h
theorem clo_step {W : List Wk} {D : Nat → Bool} {k : Nat} (hC : Clo W D) (hpre : ∀ a, a < k → tchN W a k = true → D a = true) : Clo W (fun j => decide (j = k) || D j) := fun a b hDa ha hb ht => by
  by_cases e : a = k
  · subst e
    simp [hpre b hb ht]
  · have : D a = true := by simpa [e] using hDa
    simp [hC a b this ha hb ht]
/-- The first work at a place that is not done. -/
def NX (W : List Wk) (D : Nat → Bool) (p : Nat) (z : Int) : Prop :=
  (z = -1 ∧ ∀ k y, W[k]? = some y → D k = false → ¬ y.takes p) ∨
  ∃ (k : Nat) (y : Wk), z = (k : Int) ∧ W[k]? = some y ∧ D k = false ∧ y.takes p ∧ ∀ j x, j < k → W[j]? = some x → D j = false → ¬ x.takes p
theorem nx_0 (W : List Wk) (p : Nat) : NX W (fun _ => false) p (topE W p).to := by
  unfold topE edgeP
  rcases endL_char W p W.length 0 (by omega) with ⟨c, x, h1, h2, h3, h4, h5, h6⟩ | ⟨h1, h2⟩
  · exact .inr ⟨c, x, by rw [h3], h2, rfl, ⟨h4, h5⟩, fun j y hj hy _ => h6 j y (Nat.zero_le _) hj hy⟩
  · exact .inl ⟨by rw [h1], fun k y hy _ => h2 k y (Nat.zero_le _) hy⟩
theorem nx_do {W : List Wk} {D : Nat → Bool} {i p j : Nat} {x : Wk} (hC : Clo W D) (hx : W[i]? = some x) (hD : D i = false) (hpre : ∀ a, a < i → tchN W a i = true → D a = true) (hj : j < 2) (hp : x.pl + j = (p : Int)) :
    NX W (fun k => decide (k = i) || D k) p (sideE W i x j).to := by
  have ht : x.takes p := by unfold Wk.takes; omega
  have early : ∀ k y, k ≤ i → W[k]? = some y → (decide (k = i) || D k) = false → ¬ y.takes p := fun k y hk hy hd hty => by
    simp at hd
    have := hpre k (by omega) (tch_of hy hx hty ht)
    rw [hd.2] at this
    cases this
  have late : ∀ k y, i < k → W[k]? = some y → y.takes p → D k = false := fun k y hk hy hty => by
    cases h : D k with
    | false => rfl
    | true =>
      have := hC k i h (List.getElem?_eq_some_iff.1 hy).1 hk (tch_of hx hy ht hty)
      rw [hD] at this
      cases this
  unfold sideE edgeP
  rw [hp]
  rcases endL_char W p W.length (i + 1) (by omega) with ⟨c, y, h1, h2, h3, h4, h5, h6⟩ | ⟨h1, h2⟩
  · refine .inr ⟨c, y, by rw [h3], h2, ?_, ⟨h4, h5⟩, fun k z hk hz hd => ?_⟩
    · simp [late c y (by omega) h2 ⟨h4, h5⟩]; omega
    · by_cases q : k ≤ i
      · exact early k z q hz hd
      · exact h6 k z (by omega) hk hz
  · refine .inl ⟨by rw [h1], fun k y hy hd => ?_⟩
    by_cases q : k ≤ i
    · exact early k y q hy hd
    · exact h2 k y (by omega) hy
theorem nx_keep {W : List Wk} {D : Nat → Bool} {i p : Nat} {x : Wk} {z : Int} (hx : W[i]? = some x) (ht : ¬ x.takes p) (h : NX W D p z) : NX W (fun k => decide (k = i) || D k) p z := by
  rcases h with ⟨h1, h2⟩ | ⟨k, y, h1, h2, h3, h4, h5⟩
  · exact .inl ⟨h1, fun k y hy hd => h2 k y hy (by simp at hd; exact hd.2)⟩
  · refine .inr ⟨k, y, h1, h2, ?_, h4, fun j y' hj hy' hd => h5 j y' hj hy' (by simp at hd; exact hd.2)⟩
    have : k ≠ i := fun e => by subst e; rw [hx] at h2; cases h2; exact ht h4
    simp [this, h3]
theorem nx_uniq {W : List Wk} {D : Nat → Bool} {p : Nat} {z z' : Int} (h : NX W D p z) (h' : NX W D p z') : z = z' := by
  rcases h with ⟨h1, h2⟩ | ⟨k, y, h1, h2, h3, h4, h5⟩ <;> rcases h' with ⟨g1, g2⟩ | ⟨m, x, g1, g2, g3, g4, g5⟩
  · omega
  · exact absurd g4 (h2 m x g2 g3)
  · exact absurd h4 (g2 k y h2 h3)
  · rcases Nat.lt_trichotomy k m with q | q | q
    · exact absurd h4 (g5 k y q h2 h3)
    · omega
    · exact absurd g4 (h5 m x q g2 g3)
/-- A work that can be done next. -/
def Rdy (W : List Wk) (D : Nat → Bool) (i : Nat) : Prop := D i = false ∧ ∀ a, a < i → tchN W a i = true → D a = true
theorem nx_ready {W : List Wk} {D : Nat → Bool} {p : Nat} {z : Int} (h : NX W D p z) (h' : NX W D (p + 1) z) (hz : z ≠ -1) : ∃ (i : Nat) (x : Wk), z = (i : Int) ∧ W[i]? = some x ∧ x.pl = (p : Int) ∧ Rdy W D i := by
  rcases h with ⟨h1, _⟩ | ⟨k, y, h1, h2, h3, h4, h5⟩
  · exact absurd h1 hz
  · rcases h' with ⟨g1, _⟩ | ⟨m, x, g1, g2, g3, g4, g5⟩
    · exact absurd g1 hz
    · have e : k = m := by omega
      subst e
      rw [h2] at g2
      cases g2
      unfold Wk.takes at h4 g4
      refine ⟨k, y, h1, h2, by omega, h3, fun a ha ht => ?_⟩
      cases hd : D a with
      | true => rfl
      | false =>
        obtain ⟨x, hx⟩ : ∃ x, W[a]? = some x := ⟨_, List.getElem?_eq_getElem (by have := (List.getElem?_eq_some_iff.1 h2).1; omega)⟩
        have n1 := h5 a x ha hx hd
        have n2 := g5 a x ha hx hd
        rw [tch_iff hx h2] at ht
        unfold Wk.takes at n1 n2
        omega
theorem nx_of_ready {W : List Wk} {D : Nat → Bool} {p q i : Nat} {x : Wk} (hx : W[i]? = some x) (hr : Rdy W D i) (hq : x.takes q) : NX W D q (i : Int) :=
  .inr ⟨i, x, rfl, hx, hr.1, hq, fun j y hj hy hd ht => by
    have := hr.2 j hj (tch_of hy hx ht hq)
    rw [hd] at this
    cases this⟩
theorem rdy_uniq {W : List Wk} {D : Nat → Bool} {i k p : Nat} {x y : Wk} (hx : W[i]? = some x) (hy : W[k]? = some y) (h1 : Rdy W D i) (h2 : Rdy W D k) (ex : x.takes p) (ey : y.takes p) : i = k := by
  have := nx_uniq (nx_of_ready (p := p) hx h1 ex) (nx_of_ready (p := p) hy h2 ey)
  omega
/-- Where neither place has such a work. -/
theorem nx_not {W : List Wk} {D : Nat → Bool} {p : Nat} {z z' : Int} (h : NX W D p z) (h' : NX W D (p + 1) z') (hz : z = -1 ∨ z ≠ z') : ∀ i x, W[i]? = some x → x.pl = (p : Int) → ¬ Rdy W D i := fun i x hx hp hr => by
  have e1 := nx_uniq h (nx_of_ready (p := p) hx hr (by unfold Wk.takes; omega))
  have e2 := nx_uniq h' (nx_of_ready (p := p) hx hr (by unfold Wk.takes; omega))
  omega
def rdyB (W : List Wk) (D : Nat → Bool) (i : Nat) : Bool := !D i && (List.range i).all fun a => D a || !tchN W a i
theorem rdyB_iff {W : List Wk} {D : Nat → Bool} {i : Nat} : rdyB W D i = true ↔ Rdy W D i := by
  unfold rdyB Rdy
  simp only [Bool.and_eq_true, Bool.not_eq_true', List.all_eq_true, List.mem_range, Bool.or_eq_true, Bool.not_eq_true']
  constructor
  · rintro ⟨h1, h2⟩
    refine ⟨h1, fun a ha ht => ?_⟩
    rcases h2 a ha with h | h
    · exact h
    · rw [ht] at h; cases h
  · rintro ⟨h1, h2⟩
    refine ⟨h1, fun a ha => ?_⟩
    cases ht : tchN W a i with
    | false => exact .inr rfl
    | true => exact .inl (h2 a ha ht)
def sameW (x y : Wk) : Bool := decide (x.kd = y.kd) && decide (x.pl = y.pl) && decide (x.wd.toList = y.wd.toList)
theorem sameW_pl {x y : Wk} (h : sameW x y = true) : x.pl = y.pl := by
  unfold sameW at h
  simp at h
  exact h.1.2
/-- The first work that is ready and is this one. -/
def findR (W : List Wk) (D : Nat → Bool) (y : Wk) : Option Nat := (List.range W.length).find? fun i => sameW (wkN W i) y && rdyB W D i
theorem findR_some {W : List Wk} {D : Nat → Bool} {y : Wk} {i : Nat} (h : findR W D y = some i) : i < W.length ∧ sameW (wkN W i) y = true ∧ Rdy W D i := by
  unfold findR at h
  have h1 := List.find?_some h
  have h2 := List.mem_range.1 (List.mem_of_find?_eq_some h)
  simp only [Bool.and_eq_true] at h1
  exact ⟨h2, h1.1, rdyB_iff.1 h1.2⟩
theorem findR_eq {W : List Wk} {D : Nat → Bool} {x y : Wk} {i : Nat} (hx : W[i]? = some x) (hs : sameW x y = true) (hr : Rdy W D i) : findR W D y = some i := by
  cases h : findR W D y with
  | none =>
    unfold findR at h
    have := List.find?_eq_none.1 h i (List.mem_range.2 (List.getElem?_eq_some_iff.1 hx).1)
    rw [wkN_get hx, hs, rdyB_iff.2 hr] at this
    simp at this
  | some k =>
    obtain ⟨h1, h2, h3⟩ := findR_some h
    obtain ⟨z, hz⟩ : ∃ z, W[k]? = some z := ⟨_, List.getElem?_eq_getElem h1⟩
    rw [wkN_get hz] at h2
    have e1 := sameW_pl hs
    have e2 := sameW_pl h2
    have hk : k = i := by
      by_cases hp : 0 ≤ x.pl
      · exact rdy_uniq (p := x.pl.toNat) hz hx h3 hr (by unfold Wk.takes; omega) (by unfold Wk.takes; omega)
      · rcases Nat.lt_trichotomy k i with q | q | q
        · have := hr.2 k q ((tch_iff hz hx).2 (by omega))
          rw [h3.1] at this; cases this
        · exact q
        · have := h3.2 i q ((tch_iff hx hz).2 (by omega))
          rw [hr.1] at this; cases this
    rw [hk]
theorem findR_none {W : List Wk} {D : Nat → Bool} {y : Wk} (h : ∀ i x, W[i]? = some x → sameW x y = true → ¬ Rdy W D i) : findR W D y = none := by
  cases h' : findR W D y with
  | none => rfl
  | some k =>
    obtain ⟨h1, h2, h3⟩ := findR_some h'
    obtain ⟨z, hz⟩ : ∃ z, W[k]? = some z := ⟨_, List.getElem?_eq_getElem h1⟩
    rw [wkN_get hz] at h2
    exact absurd h3 (h k z hz h2)
def inL (l : List Nat) (j : Nat) : Bool := l.contains j
theorem inL_snoc (l : List Nat) (i : Nat) : inL (l ++ [i]) = fun j => decide (j = i) || inL l j := by
  funext j
  unfold inL
  by_cases h : j = i <;> simp [h, Bool.or_comm]
/-- The order from one row of works to another one, as far as it goes. -/
def matchTo (W V : List Wk) : Nat → Option (List Nat)
  | 0 => some []
  | k + 1 => (matchTo W V k).bind fun l => (findR W (inL l) (wkN V k)).map fun i => l ++ [i]
theorem matchTo_next {W V : List Wk} {k : Nat} {l : List Nat} {y : Wk} (h : matchTo W V k = some l) (hy : V[k]? = some y) : matchTo W V (k + 1) = (findR W (inL l) y).map fun i => l ++ [i] := by
  simp only [matchTo, h, Option.bind_some, wkN_get hy]
theorem matchTo_stop {W V : List Wk} {k : Nat} (h : matchTo W V k = none) : ∀ m, matchTo W V (k + m) = none
  | 0 => h
  | m + 1 => by rw [← Nat.add_assoc, matchTo, matchTo_stop h m]; rfl
theorem matchTo_late {W V : List Wk} {k n : Nat} (h : matchTo W V k = none) (hk : k ≤ n) : matchTo W V n = none := by
  have := matchTo_stop h (n - k)
  rwa [show k + (n - k) = n by omega] at this
theorem matchTo_clo {W V : List Wk} : ∀ {k : Nat} {l : List Nat}, matchTo W V k = some l → Clo W (inL l) ∧ l.length = k ∧ ∀ i ∈ l, i < W.length
  | 0, l, h => by simp [matchTo] at h; subst h; exact ⟨clo_none W, rfl, by simp⟩
  | k + 1, l, h => by
    simp only [matchTo] at h
    cases h1 : matchTo W V k with
    | none => rw [h1] at h; cases h
    | some l1 =>
      rw [h1] at h
      simp only [Option.bind_some, Option.map_eq_some_iff] at h
      obtain ⟨i, hi, rfl⟩ := h
      obtain ⟨g1, g2, g3⟩ := matchTo_clo h1
      obtain ⟨f1, _, f3⟩ := findR_some hi
      refine ⟨by rw [inL_snoc]; exact clo_step g1 f3.2, by simp [g2], fun j hj => ?_⟩
      rcases List.mem_append.1 hj with q | q
      · exact g3 j q
      · simp at q; omega
/-- How many of the first n bits are not set. -/
def miss (n x : Nat) : Nat := ((List.range n).filter fun i => !x.testBit i).length
def wholeN (n : Nat) : Nat := 2 ^ n - 1
theorem testBit_or (x i j : Nat) : (x ||| 1 <<< i).testBit j = (decide (j = i) || x.testBit j) := by
  rw [Nat.testBit_or, Nat.one_shiftLeft, Nat.testBit_two_pow, Bool.or_comm]
  congr 1
  by_cases h : i = j
  · simp [h]
  · simp [h]; omega
theorem filter_lt {α : Type} {p q : α → Bool} {a : α} : ∀ {l : List α}, (∀ b ∈ l, q b = true → p b = true) → a ∈ l → p a = true → q a = false → (l.filter q).length < (l.filter p).length
  | [], _, ha, _, _ => by cases ha
  | b :: l, h, ha, hp, hq => by
    have hle : (l.filter q).length ≤ (l.filter p).length := by
      have : ∀ (l : List α), (∀ b ∈ l, q b = true → p b = true) → (l.filter q).length ≤ (l.filter p).length := by
        intro l
        induction l with
        | nil => intro _; simp
        | cons c l ih =>
          intro h
          have i1 := ih (fun b hb => h b (List.mem_cons_of_mem _ hb))
          have i2 := h c List.mem_cons_self
          cases hc : q c with
          | true => simp [hc, i2 hc]; exact i1
          | false =>
            rw [List.filter_cons_of_neg (by simp [hc])]
            cases hd : p c with
            | true => simp [hd]; omega
            | false => simp [hd]; exact i1
      exact this l fun b hb => h b (List.mem_cons_of_mem _ hb)
    rcases List.mem_cons.1 ha with rfl | ha
    · simp [hp, hq]; omega
    · have i1 := filter_lt (l := l) (fun b hb => h b (List.mem_cons_of_mem _ hb)) ha hp hq
      have i2 := h b List.mem_cons_self
      cases hc : q b with
      | true => simp [hc, i2 hc]; exact i1
      | false =>
        rw [List.filter_cons_of_neg (by simp [hc])]
        cases hd : p b with
        | true => simp [hd]; omega
        | false => simp [hd]; exact i1
theorem miss_or {n x i : Nat} (hi : i < n) (hx : x.testBit i = false) : miss n (x ||| 1 <<< i) < miss n x := by
  unfold miss
  refine filter_lt (a := i) (fun b _ h => ?_) (List.mem_range.2 hi) (by simp [hx]) (by simp [testBit_or])
  rw [testBit_or] at h
  simp at h
  simp [h.2]
theorem miss_le (n x : Nat) : miss n x ≤ n := by
  unfold miss
  exact Nat.le_trans (List.length_filter_le _ _) (by simp)
/-- In how many orders what is left can be done, when R says what can be done next. -/
def ordC (n : Nat) (R : Nat → Nat → Bool) : Nat → Nat → Nat
  | 0, x => if x = wholeN n then 1 else 0
  | m + 1, x => if x = wholeN n then 1 else ((List.range n).map fun i => if R x i = true then ordC n R m (x ||| 1 <<< i) else 0).sum
def ordN (n : Nat) (R : Nat → Nat → Bool) (x : Nat) : Nat := ordC n R n x
/-- The sum over the first works. -/
def ordS (n : Nat) (R : Nat → Nat → Bool) (x k : Nat) : Nat := ((List.range k).map fun i => if R x i = true then ordN n R (x ||| 1 <<< i) else 0).sum
theorem ordS_0 (n : Nat) (R : Nat → Nat → Bool) (x : Nat) : ordS n R x 0 = 0 := rfl
theorem ordS_next (n : Nat) (R : Nat → Nat → Bool) (x k : Nat) : ordS n R x (k + 1) = ordS n R x k + if R x k = true then ordN n R (x ||| 1 <<< k) else 0 := by
  unfold ordS
  rw [List.range_succ, List.map_append, List.sum_append]
  simp
theorem sum_zero {α : Type} {f : α → Nat} : ∀ {l : List α}, (∀ a ∈ l, f a = 0) → (l.map f).sum = 0
  | [], _ => rfl
  | a :: l, h => by
    rw [List.map_cons, List.sum_cons, h a List.mem_cons_self, sum_zero fun b hb => h b (List.mem_cons_of_mem _ hb)]
theorem sum_congr {α : Type} {f g : α → Nat} : ∀ {l : List α}, (∀ a ∈ l, f a = g a) → (l.map f).sum = (l.map g).sum
  | [], _ => rfl
  | a :: l, h => by
    rw [List.map_cons, List.sum_cons, List.map_cons, List.sum_cons, h a List.mem_cons_self, sum_congr fun b hb => h b (List.mem_cons_of_mem _ hb)]
theorem miss_zero {n x i : Nat} (h : miss n x = 0) (hi : i < n) : x.testBit i = true := by
  unfold miss at h
  have := List.filter_eq_nil_iff.1 (List.eq_nil_of_length_eq_zero h) i (List.mem_range.2 hi)
  simpa using this
theorem ordC_eq {n : Nat} {R : Nat → Nat → Bool} (hR : ∀ x i, R x i = true → i < n ∧ x.testBit i = false) : ∀ (m m' x : Nat), miss n x ≤ m → miss n x ≤ m' → ordC n R m x = ordC n R m' x
  | 0, 0, x, _, _ => rfl
  | 0, m' + 1, x, h, _ => by
    unfold ordC
    split
    · rfl
    · refine (sum_zero fun i hi => ?_).symm
      rw [if_neg]
      intro hr
      have := miss_zero (by omega : miss n x = 0) (hR x i hr).1
      rw [(hR x i hr).2] at this
      cases this
  | m + 1, 0, x, _, h => by
    unfold ordC
    split
    · rfl
    · refine sum_zero fun i hi => ?_
      rw [if_neg]
      intro hr
      have := miss_zero (by omega : miss n x = 0) (hR x i hr).1
      rw [(hR x i hr).2] at this
      cases this
  | m + 1, m' + 1, x, h1, h2 => by
    unfold ordC
    split
    · rfl
    · refine sum_congr fun i hi => ?_
      split
      · rename_i hr
        have := miss_or (hR x i hr).1 (hR x i hr).2
        exact ordC_eq hR m m' _ (by omega) (by omega)
      · rfl
theorem ordN_whole (n : Nat) (R : Nat → Nat → Bool) : ordN n R (wholeN n) = 1 := by
  unfold ordN
  cases n <;> simp [ordC]
theorem ordN_sum {n : Nat} {R : Nat → Nat → Bool} (hR : ∀ x i, R x i = true → i < n ∧ x.testBit i = false) {x : Nat} (h : x ≠ wholeN n) : ordN n R x = ordS n R x n := by
  cases n with
  | zero => unfold ordN ordS; simp [ordC, h]
  | succ n =>
    unfold ordN ordS
    rw [show ordC (n + 1) R (n + 1) x = ((List.range (n + 1)).map fun i => if R x i = true then ordC (n + 1) R n (x ||| 1 <<< i) else 0).sum by rw [ordC, if_neg h]]
    refine sum_congr fun i hi => ?_
    split
    · rename_i hr
      have h1 := miss_or (hR x i hr).1 (hR x i hr).2
      have h2 := miss_le (n + 1) x
      exact ordC_eq hR _ _ _ (by omega) (by omega)
    · rfl
def fact : Nat → Nat
  | 0 => 1
  | m + 1 => (m + 1) * fact m
theorem fact_pos : ∀ m, 0 < fact m
  | 0 => Nat.one_pos
  | m + 1 => Nat.mul_pos (Nat.succ_pos _) (fact_pos m)
theorem fact_mono {a b : Nat} (h : a ≤ b) : fact a ≤ fact b := by
  induction b with
  | zero => rw [Nat.le_zero.1 h]; exact Nat.le_refl _
  | succ b ih =>
    rcases Nat.eq_or_lt_of_le h with rfl | h
    · exact Nat.le_refl _
    · refine Nat.le_trans (ih (by omega)) ?_
      show fact b ≤ (b + 1) * fact b
      exact Nat.le_mul_of_pos_left _ (Nat.succ_pos _)
theorem sum_le {α : Type} {p : α → Bool} {f : α → Nat} {B : Nat} : ∀ {l : List α}, (∀ a ∈ l, p a = true → f a ≤ B) → (l.map fun a => if p a = true then f a else 0).sum ≤ (l.filter p).length * B
  | [], _ => by simp
  | a :: l, h => by
    have ih := sum_le (l := l) (p := p) (f := f) (B := B) fun b hb => h b (List.mem_cons_of_mem _ hb)
    rw [List.map_cons, List.sum_cons]
    cases hp : p a with
    | true =>
      have := h a List.mem_cons_self hp
      rw [if_pos rfl, List.filter_cons_of_pos hp, List.length_cons, Nat.succ_mul]
      omega
    | false =>
      rw [if_neg (by simp), List.filter_cons_of_neg (by simp [hp])]
      omega
theorem ordC_fact {n : Nat} {R : Nat → Nat → Bool} (hR : ∀ x i, R x i = true → i < n ∧ x.testBit i = false) : ∀ (m x : Nat), miss n x ≤ m → ordC n R m x ≤ fact m
  | 0, x, _ => by
    unfold ordC
    split
    · exact Nat.le_refl _
    · exact Nat.zero_le _
  | m + 1, x, h => by
    unfold ordC
    split
    · exact fact_pos _
    · refine Nat.le_trans (sum_le (B := fact m) fun i hi hr => ?_) ?_
      · have := miss_or (hR x i hr).1 (hR x i hr).2
        exact ordC_fact hR m _ (by omega)
      · show _ ≤ (m + 1) * fact m
        refine Nat.mul_le_mul_right _ ?_
        refine Nat.le_trans ?_ h
        unfold miss
        have : ∀ l : List Nat, (l.filter (R x)).length ≤ (l.filter fun i => !x.testBit i).length := by
          intro l
          induction l with
          | nil => simp
          | cons c l ih =>
            cases hc : R x c with
            | true => simp [hc, (hR x c hc).2]; exact ih
            | false =>
              rw [List.filter_cons_of_neg (by simp [hc])]
              cases hd : x.testBit c with
              | true => simp [hd]; exact ih
              | false => simp [hd]; omega
        exact this _
theorem ordN_le {n : Nat} {R : Nat → Nat → Bool} (hR : ∀ x i, R x i = true → i < n ∧ x.testBit i = false) (hn : n ≤ 16) (x : Nat) : ordN n R x ≤ 20922789888000 := by
  refine Nat.le_trans (ordC_fact hR n x (miss_le n x)) (Nat.le_trans (fact_mono hn) (Nat.le_of_eq (by simp [fact])))
theorem ordS_le {n : Nat} {R : Nat → Nat → Bool} (hR : ∀ x i, R x i = true → i < n ∧ x.testBit i = false) (hn : n ≤ 16) (x : Nat) : ∀ k, k ≤ 16 → ordS n R x k ≤ k * 20922789888000
  | 0, _ => Nat.zero_le _
  | k + 1, h => by
    rw [ordS_next]
    have := ordS_le hR hn x k (by omega)
    have h2 := ordN_le hR hn (x ||| 1 <<< k)
    rw [Nat.succ_mul]
    split
    · exact Nat.add_le_add this h2
    · exact Nat.le_trans (Nat.add_le_add_right this 0) (Nat.add_le_add_left (Nat.zero_le _) _)
theorem or_lt {n x i : Nat} (hx : x < 2 ^ n) (hi : i < n) : x ||| 1 <<< i < 2 ^ n :=
  Nat.or_lt_two_pow hx (by rw [Nat.one_shiftLeft]; exact Nat.pow_lt_pow_right (by omega) hi)
/-- Of each work: those from which an edge leads to it. -/
def frs (L : List Ed) (i : Nat) : Nat := L.foldl (fun m e => if e.to = (i : Int) then m ||| 1 <<< e.fr.toNat else m) 0
theorem frs_snoc (L : List Ed) (e : Ed) (i : Nat) : frs (L ++ [e]) i = if e.to = (i : Int) then frs L i ||| 1 <<< e.fr.toNat else frs L i := by
  unfold frs
  rw [List.foldl_append]
  rfl
theorem frs_lt {L : List Ed} (h : ∀ e ∈ L, 0 ≤ e.fr ∧ e.fr < 16) (i : Nat) : frs L i < 2 ^ 16 := by
  have : ∀ (L : List Ed) (m : Nat), m < 2 ^ 16 → (∀ e ∈ L, 0 ≤ e.fr ∧ e.fr < 16) → L.foldl (fun m e => if e.to = (i : Int) then m ||| 1 <<< e.fr.toNat else m) m < 2 ^ 16 := by
    intro L
    induction L with
    | nil => intro m hm _; exact hm
    | cons e L ih =>
      intro m hm h
      rw [List.foldl_cons]
      refine ih _ ?_ fun e' he => h e' (List.mem_cons_of_mem _ he)
      have := h e List.mem_cons_self
      split
      · exact or_lt hm (by omega)
      · exact hm
  exact this L 0 (by decide) h
theorem frs_bit (i a : Nat) : ∀ (L : List Ed) (m : Nat), (∀ e ∈ L, 0 ≤ e.fr) → ((L.foldl (fun m e => if e.to = (i : Int) then m ||| 1 <<< e.fr.toNat else m) m).testBit a = true ↔ m.testBit a = true ∨ ∃ e ∈ L, e.to = (i : Int) ∧ e.fr = (a : Int))
  | [], m, _ => by simp
  | e :: L, m, h => by
    rw [List.foldl_cons, frs_bit i a L _ fun e' he => h e' (List.mem_cons_of_mem _ he)]
    have h0 := h e List.mem_cons_self
    by_cases c : e.to = (i : Int)
    · rw [if_pos c, testBit_or]
      simp only [Bool.or_eq_true, decide_eq_true_eq, List.mem_cons, exists_eq_or_imp]
      constructor
      · rintro ((q | q) | q)
        · exact .inr (.inl ⟨c, by omega⟩)
        · exact .inl q
        · exact .inr (.inr q)
      · rintro (q | ⟨_, q⟩ | q)
        · exact .inl (.inr q)
        · exact .inl (.inl (by omega))
        · exact .inr q
    · rw [if_neg c]
      simp only [List.mem_cons, exists_eq_or_imp]
      constructor
      · rintro (q | q)
        · exact .inl q
        · exact .inr (.inr q)
      · rintro (q | ⟨q, _⟩ | q)
        · exact .inl q
        · exact absurd q c
        · exact .inr q
theorem frs_iff {L : List Ed} (h : ∀ e ∈ L, 0 ≤ e.fr) (i a : Nat) : (frs L i).testBit a = true ↔ ∃ e ∈ L, e.to = (i : Int) ∧ e.fr = (a : Int) := by
  unfold frs
  rw [frs_bit i a L 0 h]
  simp
/-- What can be done next, by these sets. -/
def rdyM (n : Nat) (F : Nat → Nat) (x i : Nat) : Bool := decide (i < n) && (!x.testBit i && (List.range 16).all fun a => !(F i).testBit a || x.testBit a)
theorem rdyM_lt (n : Nat) (F : Nat → Nat) (x i : Nat) (h : rdyM n F x i = true) : i < n ∧ x.testBit i = false := by
  unfold rdyM at h
  simp only [Bool.and_eq_true, decide_eq_true_eq, Bool.not_eq_true'] at h
  exact ⟨h.1, h.2.1⟩
theorem isStep_eq (L : List Ed) : keepE L = L.filter isStep := by
  unfold keepE
  congr 1
  funext e
  unfold outB isStep
  simp
theorem rdyM_eq {pr : Nat} {W : List Wk} {x i : Nat} (hn : W.length ≤ 16) (hC : Clo W x.testBit) (hi : i < W.length) : rdyM W.length (frs (stepsL pr W)) x i = true ↔ Rdy W x.testBit i := by
  have hf : ∀ e ∈ stepsL pr W, 0 ≤ e.fr := fun e he => by
    obtain ⟨a, b, h1, _⟩ := step_char he
    omega
  have hb : rdyM W.length (frs (stepsL pr W)) x i = true ↔ x.testBit i = false ∧ ∀ a, (frs (stepsL pr W) i).testBit a = true → x.testBit a = true := by
    unfold rdyM
    simp only [hi, decide_true, Bool.true_and, Bool.and_eq_true, Bool.not_eq_true', List.all_eq_true, List.mem_range, Bool.or_eq_true]
    constructor
    · rintro ⟨h1, h2⟩
      refine ⟨h1, fun a ha => ?_⟩
      obtain ⟨e, he, h3, h4⟩ := (frs_iff hf i a).1 ha
      obtain ⟨p, q, h5, h6, h7, h8, _⟩ := step_char he
      rcases h2 a (by omega) with h | h
      · rw [ha] at h; cases h
      · exact h
    · rintro ⟨h1, h2⟩
      refine ⟨h1, fun a _ => ?_⟩
      cases ha : (frs (stepsL pr W) i).testBit a with
      | false => exact .inl rfl
      | true => exact .inr (h2 a ha)
  rw [hb]
  refine and_congr_right fun _ => ?_
  constructor
  · intro h
    have key : ∀ (m a : Nat), i ≤ a + m → a < i → tchN W a i = true → x.testBit a = true := by
      intro m
      induction m with
      | zero => intro a h1 h2 _; omega
      | succ m ih =>
        intro a h1 h2 ht
        obtain ⟨c, hc1, hc2, hc3, e, he, h5, h6⟩ := step_to (pr := pr) h2 hi ht
        by_cases q : c = i
        · subst q
          exact h a ((frs_iff hf c a).2 ⟨e, he, h6, h5⟩)
        · rcases hc3 with hc3 | hc3
          · exact absurd hc3 q
          · have hc := ih c (by omega) (by omega) hc3
            obtain ⟨p, r, g1, g2, g3, g4, g5⟩ := step_char he
            have e1 : p = a := by omega
            have e2 : r = c := by omega
            subst e1 e2
            exact hC r p hc g4 hc1 g5
    exact fun a ha ht => key i a (by omega) ha ht
  · intro h a ha
    obtain ⟨e, he, h3, h4⟩ := (frs_iff hf i a).1 ha
    obtain ⟨p, q, h5, h6, h7, h8, h9⟩ := step_char he
    have e1 : p = a := by omega
    have e2 : q = i := by omega
    subst e1 e2
    exact h p h7 h9
theorem clo_or {W : List Wk} {x i : Nat} (hC : Clo W x.testBit) (hr : Rdy W x.testBit i) : Clo W (x ||| 1 <<< i).testBit := by
  have := clo_step hC hr.2
  have e : (x ||| 1 <<< i).testBit = fun j => decide (j = i) || x.testBit j := funext fun j => testBit_or x i j
  rw [e]
  exact this
/-- The levels of the first works. -/
def lvOf (W : List Wk) (L : List Nat) (k n : Nat) : Nat := (List.range n).foldl (fun m a => if tchN W a k = true then max m ((L[a]?).getD 0 + 1) else m) 0
theorem lvOf_next (W : List Wk) (L : List Nat) (k n : Nat) : lvOf W L k (n + 1) = if tchN W n k = true then max (lvOf W L k n) ((L[n]?).getD 0 + 1) else lvOf W L k n := by
  unfold lvOf
  rw [List.range_succ, List.foldl_append]
  rfl
def lvL (W : List Wk) : Nat → List Nat
  | 0 => []
  | k + 1 => lvL W k ++ [lvOf W (lvL W k) k k]
theorem lvL_len (W : List Wk) : ∀ n, (lvL W n).length = n
  | 0 => rfl
  | n + 1 => by simp [lvL, lvL_len W n]
theorem lvL_get (W : List Wk) : ∀ (n i : Nat), i < n → (lvL W n)[i]? = some (lvOf W (lvL W i) i i)
  | 0, i, h => by omega
  | n + 1, i, h => by
    by_cases q : i < n
    · rw [lvL, List.getElem?_append_left (by rw [lvL_len]; exact q)]
      exact lvL_get W n i q
    · have e : i = n := by omega
      subst e
      rw [lvL, List.getElem?_append_right (by rw [lvL_len]; exact Nat.le_refl _), lvL_len]
      simp
def lv (W : List Wk) (i : Nat) : Nat := lvOf W (lvL W i) i i
theorem lvL_getD (W : List Wk) {n i : Nat} (h : i < n) : ((lvL W n)[i]?).getD 0 = lv W i := by rw [lvL_get W n i h]; rfl
theorem lvOf_spec (W : List Wk) (k : Nat) : ∀ n, n ≤ k → (∀ a, a < n → tchN W a k = true → lv W a + 1 ≤ lvOf W (lvL W k) k n) ∧ (lvOf W (lvL W k) k n = 0 ∨ ∃ a, a < n ∧ tchN W a k = true ∧ lvOf W (lvL W k) k n = lv W a + 1)
  | 0, _ => ⟨fun a h => by omega, .inl rfl⟩
  | n + 1, hn => by
    obtain ⟨h1, h2⟩ := lvOf_spec W k n (by omega)
    rw [lvOf_next, lvL_getD W (by omega)]
    by_cases c : tchN W n k = true
    · rw [if_pos c]
      refine ⟨fun a ha ht => ?_, ?_⟩
      · by_cases q : a = n
        · subst q; omega
        · have := h1 a (by omega) ht; omega
      · by_cases q : lv W n + 1 ≤ lvOf W (lvL W k) k n
        · rw [Nat.max_eq_left q]
          rcases h2 with h2 | ⟨a, h3, h4, h5⟩
          · omega
          · exact .inr ⟨a, by omega, h4, h5⟩
        · rw [Nat.max_eq_right (by omega)]
          exact .inr ⟨n, by omega, c, rfl⟩
    · rw [if_neg c]
      refine ⟨fun a ha ht => ?_, ?_⟩
      · by_cases q : a = n
        · subst q; exact absurd ht c
        · exact h1 a (by omega) ht
      · rcases h2 with h2 | ⟨a, h3, h4, h5⟩
        · exact .inl h2
        · exact .inr ⟨a, by omega, h4, h5⟩
def updN (A : Nat → Nat) (i v : Nat) : Nat → Nat := fun k => if k = i then v else A k
/-- The levels that the steps give. -/
def plv (L : List Ed) : Nat → Nat := L.foldl (fun A e => updN A e.to.toNat (max (A e.to.toNat) (A e.fr.toNat + 1))) fun _ => 0
theorem plv_snoc (L : List Ed) (e : Ed) : plv (L ++ [e]) = updN (plv L) e.to.toNat (max (plv L e.to.toNat) (plv L e.fr.toNat + 1)) := by
  unfold plv
  rw [List.foldl_append]
  rfl
theorem plv_spec : ∀ (m : Nat) (L : List Ed), L.length = m → L.Pairwise (fun e e' => e.fr ≤ e'.fr) → (∀ e ∈ L, 0 ≤ e.fr ∧ e.fr < e.to) → (∀ e ∈ L, plv L e.fr.toNat + 1 ≤ plv L e.to.toNat) ∧ ∀ i, plv L i = 0 ∨ ∃ e ∈ L, e.to.toNat = i ∧ plv L i = plv L e.fr.toNat + 1
  | 0, L, hm, _, _ => by rw [List.eq_nil_of_length_eq_zero hm]; exact ⟨by simp, fun i => .inl rfl⟩
  | m + 1, L, hm, hs, hb => by
    rcases List.eq_nil_or_concat L with h | ⟨L', e, h⟩
    · subst h; simp at hm
    · rw [List.concat_eq_append] at h
      subst h
      rw [List.pairwise_append] at hs
      obtain ⟨s1, _, s3⟩ := hs
      obtain ⟨i1, i2⟩ := plv_spec m L' (by simpa using hm) s1 fun x hx => hb x (List.mem_append_left _ hx)
      have he := hb e (by simp)
      have keep : ∀ x ∈ L' ++ [e], plv (L' ++ [e]) x.fr.toNat = plv L' x.fr.toNat := fun x hx => by
        rw [plv_snoc]
        unfold updN
        rw [if_neg]
        rcases List.mem_append.1 hx with q | q
        · have := s3 x q e (by simp); omega
        · simp at q; subst q; omega
      have grow : ∀ i, plv L' i ≤ plv (L' ++ [e]) i := fun i => by
        rw [plv_snoc]
        unfold updN
        split
        · rename_i q; subst q; omega
        · exact Nat.le_refl _
      refine ⟨fun x hx => ?_, fun i => ?_⟩
      · rw [keep x hx]
        rcases List.mem_append.1 hx with q | q
        · exact Nat.le_trans (i1 x q) (grow _)
        · simp at q; subst q
          rw [plv_snoc]; unfold updN; rw [if_pos rfl]; omega
      · by_cases q : i = e.to.toNat
        · subst q
          by_cases r : plv L' e.fr.toNat + 1 ≤ plv L' e.to.toNat
          · have ev : plv (L' ++ [e]) e.to.toNat = plv L' e.to.toNat := by rw [plv_snoc]; unfold updN; rw [if_pos rfl]; omega
            rw [ev]
            rcases i2 e.to.toNat with h | ⟨x, h1, h2, h3⟩
            · exact .inl h
            · exact .inr ⟨x, List.mem_append_left _ h1, h2, by rw [keep x (List.mem_append_left _ h1)]; exact h3⟩
          · refine .inr ⟨e, by simp, rfl, ?_⟩
            rw [keep e (by simp), plv_snoc]; unfold updN; rw [if_pos rfl]; omega
        · have ev : plv (L' ++ [e]) i = plv L' i := by rw [plv_snoc]; unfold updN; rw [if_neg q]
          rw [ev]
          rcases i2 i with h | ⟨x, h1, h2, h3⟩
          · exact .inl h
          · exact .inr ⟨x, List.mem_append_left _ h1, h2, by rw [keep x (List.mem_append_left _ h1)]; exact h3⟩
theorem down_sort (W : List Wk) : ∀ (L : List Wk) (i : Nat), (downE W L i).Pairwise (fun e e' => e.fr ≤ e'.fr) ∧ ∀ e ∈ downE W L i, (i : Int) ≤ e.fr
  | [], _ => ⟨List.Pairwise.nil, by simp [downE]⟩
  | x :: L, i => by
    obtain ⟨h1, h2⟩ := down_sort W L (i + 1)
    have f : ∀ j, (sideE W i x j).fr = (i : Int) := fun j => by unfold sideE edgeP; simp
    simp only [downE, List.pairwise_cons, List.mem_cons]
    refine ⟨⟨?_, ?_, h1⟩, ?_⟩
    · rintro e (rfl | h)
      · rw [f, f]; exact Int.le_refl _
      · rw [f]; have := h2 e h; omega
    · intro e h
      rw [f]; have := h2 e h; omega
    · rintro e (rfl | rfl | h)
      · rw [f]; exact Int.le_refl _
      · rw [f]; exact Int.le_refl _
      · have := h2 e h; omega
theorem steps_sort (pr : Nat) (W : List Wk) : (stepsL pr W).Pairwise (fun e e' => e.fr ≤ e'.fr) := by
  unfold stepsL edgesL
  rw [List.filter_append]
  have : ((List.range pr).map (topE W)).filter isStep = [] := by
    rw [List.filter_eq_nil_iff]
    intro e he
    obtain ⟨p, _, rfl⟩ := List.mem_map.1 he
    unfold isStep topE edgeP
    simp
  rw [this, List.nil_append]
  exact (down_sort W W 0).1.filter _
theorem plv_eq {pr : Nat} {W : List Wk} : ∀ (m i : Nat), i < m → i < W.length → plv (stepsL pr W) i = lv W i
  | 0, i, h, _ => by omega
  | m + 1, i, h, hi => by
    have hb : ∀ e ∈ stepsL pr W, 0 ≤ e.fr ∧ e.fr < e.to := fun e he => by
      obtain ⟨a, b, h1, h2, h3, _⟩ := step_char he
      omega
    obtain ⟨p1, p2⟩ := plv_spec _ _ rfl (steps_sort pr W) hb
    obtain ⟨l1, l2⟩ := lvOf_spec W i i (Nat.le_refl _)
    have path : ∀ (k a : Nat), i ≤ a + k → a < i → tchN W a i = true → plv (stepsL pr W) a + 1 ≤ plv (stepsL pr W) i := by
      intro k
      induction k with
      | zero => intro a h1 h2 _; omega
      | succ k ih =>
        intro a h1 h2 ht
        obtain ⟨c, hc1, hc2, hc3, e, he, h5, h6⟩ := step_to (pr := pr) h2 hi ht
        have := p1 e he
        rw [h5, h6] at this
        simp only [Int.toNat_natCast] at this
        by_cases q : c = i
        · subst q; exact this
        · rcases hc3 with hc3 | hc3
          · exact absurd hc3 q
          · have := ih c (by omega) (by omega) hc3
            omega
    have le1 : plv (stepsL pr W) i ≤ lv W i := by
      rcases p2 i with h0 | ⟨e, he, h1, h2⟩
      · omega
      · obtain ⟨a, b, g1, g2, g3, g4, g5⟩ := step_char he
        have e2 : b = i := by omega
        subst e2
        have e1 : e.fr.toNat = a := by omega
        rw [h2, e1, plv_eq m a (by omega) (by omega)]
        exact l1 a g3 g5
    have le2 : lv W i ≤ plv (stepsL pr W) i := by
      rcases l2 with h0 | ⟨a, ha, h1, h2⟩
      · show lvOf W (lvL W i) i i ≤ _; omega
      · show lvOf W (lvL W i) i i ≤ _
        rw [h2, ← plv_eq m a (by omega) (by omega)]
        exact path i a (by omega) ha h1
    omega
/-- The first one of the ready works that are most to the left. -/
def bestTo (W : List Wk) (D : Nat → Bool) : Nat → Int
  | 0 => -1
  | n + 1 => if (decide (bestTo W D n < 0) || decide ((wkN W n).pl < (wkN W (bestTo W D n).toNat).pl)) = true ∧ rdyB W D n = true then (n : Int) else bestTo W D n
theorem bestTo_spec (W : List Wk) (D : Nat → Bool) : ∀ n, (bestTo W D n = -1 ∧ ∀ i, i < n → ¬ Rdy W D i) ∨ ∃ i : Nat, bestTo W D n = (i : Int) ∧ i < n ∧ Rdy W D i ∧ ∀ j, j < n → Rdy W D j → (wkN W i).pl ≤ (wkN W j).pl
  | 0 => .inl ⟨rfl, fun i h => by omega⟩
  | n + 1 => by
    unfold bestTo
    rcases bestTo_spec W D n with ⟨h1, h2⟩ | ⟨i, h1, h2, h3, h4⟩
    · by_cases c : Rdy W D n
      · rw [if_pos ⟨by simp [h1], rdyB_iff.2 c⟩]
        refine .inr ⟨n, rfl, by omega, c, fun j hj hr => ?_⟩
        by_cases q : j = n
        · subst q; exact Int.le_refl _
        · exact absurd hr (h2 j (by omega))
      · rw [if_neg (fun h => c (rdyB_iff.1 h.2))]
        refine .inl ⟨h1, fun j hj hr => ?_⟩
        by_cases q : j = n
        · subst q; exact c hr
        · exact h2 j (by omega) hr
    · by_cases c : Rdy W D n
      · by_cases d : (wkN W n).pl < (wkN W i).pl
        · rw [if_pos ⟨by simp [h1, d], rdyB_iff.2 c⟩]
          refine .inr ⟨n, rfl, by omega, c, fun j hj hr => ?_⟩
          by_cases q : j = n
          · subst q; exact Int.le_refl _
          · have := h4 j (by omega) hr; omega
        · rw [if_neg (fun h => by have := h.1; simp [h1] at this; omega)]
          refine .inr ⟨i, h1, by omega, h3, fun j hj hr => ?_⟩
          by_cases q : j = n
          · subst q; omega
          · exact h4 j (by omega) hr
      · rw [if_neg (fun h => c (rdyB_iff.1 h.2))]
        refine .inr ⟨i, h1, by omega, h3, fun j hj hr => ?_⟩
        by_cases q : j = n
        · subst q; exact absurd hr c
        · exact h4 j (by omega) hr
theorem best_eq {W : List Wk} {D : Nat → Bool} {i : Nat} (hi : i < W.length) (hp : 0 ≤ (wkN W i).pl) (hr : Rdy W D i) (hl : ∀ j, j < W.length → Rdy W D j → (wkN W i).pl ≤ (wkN W j).pl) : bestTo W D W.length = (i : Int) := by
  rcases bestTo_spec W D W.length with ⟨h1, h2⟩ | ⟨j, h1, h2, h3, h4⟩
  · exact absurd hr (h2 i hi)
  · have e1 := hl j h2 h3
    have e2 := h4 i hi hr
    obtain ⟨x, hx⟩ : ∃ x, W[i]? = some x := ⟨_, List.getElem?_eq_getElem hi⟩
    obtain ⟨y, hy⟩ : ∃ y, W[j]? = some y := ⟨_, List.getElem?_eq_getElem h2⟩
    rw [wkN_get hx] at e1 e2 hp
    rw [wkN_get hy] at e1 e2
    rw [h1, rdy_uniq (p := x.pl.toNat) hx hy hr h3 (by unfold Wk.takes; omega) (by unfold Wk.takes; omega)]
theorem all_len : ∀ (n : Nat) (l : List Nat), (∀ i, i < n → i ∈ l) → n ≤ l.length
  | 0, _, _ => Nat.zero_le _
  | n + 1, l, h => by
    have h0 := h n (by omega)
    have h1 := all_len n (l.erase n) fun i hi => (List.mem_erase_of_ne (by omega)).2 (h i (by omega))
    rw [List.length_erase_of_mem h0] at h1
    have := List.length_pos_of_mem h0
    omega
theorem rdy_some {W : List Wk} {l : List Nat} (h : l.length < W.length) : ∃ i, i < W.length ∧ Rdy W (inL l) i := by
  have hu : ∃ i, i < W.length ∧ inL l i = false := by
    refine Classical.byContradiction fun hn => ?_
    have := all_len W.length l fun i hi => by
      refine Classical.byContradiction fun hm => hn ⟨i, hi, ?_⟩
      unfold inL
      simpa using hm
    omega
  obtain ⟨i, hi, hu⟩ := hu
  have key : ∀ (m i : Nat), i < m → i < W.length → inL l i = false → ∃ i, i < W.length ∧ Rdy W (inL l) i := by
    intro m
    induction m with
    | zero => intro i h; omega
    | succ m ih =>
      intro i hm hi hu
      by_cases q : ∃ a, a < i ∧ inL l a = false
      · obtain ⟨a, ha, hd⟩ := q
        exact ih a (by omega) (by omega) hd
      · refine ⟨i, hi, hu, fun a ha _ => ?_⟩
        cases hd : inL l a with
        | true => rfl
        | false => exact absurd ⟨a, ha, hd⟩ q
  exact key (i + 1) i (by omega) hi hu
/-- The order in which the work most to the left is always done first. -/
def leastTo (W : List Wk) : Nat → List Nat
  | 0 => []
  | k + 1 => leastTo W k ++ [(bestTo W (inL (leastTo W k)) W.length).toNat]
theorem leastTo_clo (W : List Wk) : ∀ k, k ≤ W.length → (leastTo W k).length = k ∧ Clo W (inL (leastTo W k)) ∧ ∀ i ∈ leastTo W k, i < W.length
  | 0, _ => ⟨rfl, clo_none W, by simp [leastTo]⟩
  | k + 1, h => by
    obtain ⟨h1, h2, h3⟩ := leastTo_clo W k (by omega)
    rcases bestTo_spec W (inL (leastTo W k)) W.length with ⟨g1, g2⟩ | ⟨i, g1, g2, g3, _⟩
    · obtain ⟨i, hi, hr⟩ := rdy_some (W := W) (l := leastTo W k) (by omega)
      exact absurd hr (g2 i hi)
    · rw [leastTo, g1, Int.toNat_natCast]
      refine ⟨by simp [h1], by rw [inL_snoc]; exact clo_step h2 g3.2, fun j hj => ?_⟩
      rcases List.mem_append.1 hj with q | q
      · exact h3 j q
      · simp at q; omega
theorem least_best {W : List Wk} {k : Nat} (h : k < W.length) : ∃ i : Nat, bestTo W (inL (leastTo W k)) W.length = (i : Int) ∧ i < W.length ∧ Rdy W (inL (leastTo W k)) i := by
  rcases bestTo_spec W (inL (leastTo W k)) W.length with ⟨g1, g2⟩ | ⟨i, g1, g2, g3, _⟩
  · obtain ⟨i, hi, hr⟩ := rdy_some (W := W) (l := leastTo W k) (by rw [(leastTo_clo W k (by omega)).1]; exact h)
    exact absurd hr (g2 i hi)
  · exact ⟨i, g1, g2, g3⟩
/-- No work further to the left is ready. -/
def LeftOf (W : List Wk) (D : Nat → Bool) (p : Int) : Prop := ∀ i x, W[i]? = some x → Rdy W D i → p ≤ x.pl
theorem left_step {W : List Wk} {D : Nat → Bool} {p i : Nat} {x : Wk} (hf : ∀ (i : Nat) (x : Wk), W[i]? = some x → 0 ≤ x.pl) (hL : LeftOf W D p) (hx : W[i]? = some x) (hp : x.pl = (p : Int)) : LeftOf W (fun j => decide (j = i) || D j) ((p - 1 : Nat) : Int) := fun k y hy hr => by
  refine Classical.byContradiction fun hn => ?_
  have hk : k ≠ i := fun e => by have := hr.1; simp [e] at this
  have h0 := hf k y hy
  have hd : D k = false := by have := hr.1; simp at this; exact this.2
  have := hL k y hy ⟨hd, fun a ha ht => by
    have h1 := hr.2 a ha ht
    by_cases q : a = i
    · subst q
      rw [tch_iff hx hy] at ht
      omega
    · simpa [q] using h1⟩
  omega
theorem left_next {W : List Wk} {D : Nat → Bool} {p : Nat} (hL : LeftOf W D p) (hn : ∀ i x, W[i]? = some x → x.pl = (p : Int) → ¬ Rdy W D i) : LeftOf W D ((p + 1 : Nat) : Int) := fun k y hy hr => by
  have := hL k y hy hr
  have h2 : y.pl ≠ (p : Int) := fun e => hn k y hy e hr
  omega
theorem sameW_iff {x y : Wk} : sameW x y = true ↔ x.kd = y.kd ∧ x.pl = y.pl ∧ x.wd.toList = y.wd.toList := by
  unfold sameW
  simp [and_assoc]
/-- What an order from one row to another one is. -/
theorem match_ok {W V : List Wk} : ∀ {k : Nat} {l : List Nat}, matchTo W V k = some l → ∀ j i, l[j]? = some i → sameW (wkN W i) (wkN V j) = true ∧ Rdy W (inL (l.take j)) i ∧ i < W.length
  | 0, l, h, j, i, hj => by simp [matchTo] at h; subst h; simp at hj
  | k + 1, l, h, j, i, hj => by
    simp only [matchTo] at h
    cases h1 : matchTo W V k with
    | none => rw [h1] at h; cases h
    | some l1 =>
      rw [h1] at h
      simp only [Option.bind_some, Option.map_eq_some_iff] at h
      obtain ⟨i1, hi, rfl⟩ := h
      obtain ⟨_, g2, _⟩ := matchTo_clo h1
      obtain ⟨f1, f2, f3⟩ := findR_some hi
      by_cases q : j < l1.length
      · rw [List.getElem?_append_left q] at hj
        rw [List.take_append_of_le_length (by omega)]
        exact match_ok h1 j i hj
      · have e : j = l1.length := by
          have := (List.getElem?_eq_some_iff.1 hj).1
          simp at this
          omega
        subst e
        rw [List.getElem?_append_right (Nat.le_refl _), Nat.sub_self] at hj
        simp at hj
        subst hj
        rw [List.take_append_of_le_length (Nat.le_refl _), List.take_length]
        exact ⟨by rw [g2]; exact f2, f3, f1⟩
theorem mem_all {n : Nat} {l : List Nat} (hd : l.Nodup) (hm : ∀ i ∈ l, i < n) (hl : l.length = n) : ∀ i, i < n → i ∈ l := fun i hi => by
  refine Classical.byContradiction fun hn => ?_
  have := nodup_len n (i :: l) (List.nodup_cons.2 ⟨hn, hd⟩) (fun j hj => by
    rcases List.mem_cons.1 hj with rfl | q
    · exact hi
    · exact hm j q)
  simp at this
  omega
theorem match_nodup {W V : List Wk} : ∀ {k : Nat} {l : List Nat}, matchTo W V k = some l → l.Nodup
  | 0, l, h => by simp [matchTo] at h; subst h; exact List.nodup_nil
  | k + 1, l, h => by
    simp only [matchTo] at h
    cases h1 : matchTo W V k with
    | none => rw [h1] at h; cases h
    | some l1 =>
      rw [h1] at h
      simp only [Option.bind_some, Option.map_eq_some_iff] at h
      obtain ⟨i1, hi, rfl⟩ := h
      obtain ⟨_, _, f3⟩ := findR_some hi
      refine List.nodup_append.2 ⟨match_nodup h1, by simp, fun a ha b hb e => ?_⟩
      simp at hb
      subst hb e
      have := f3.1
      unfold inL at this
      simp at this
      exact this ha
/-- The order back. -/
def invL (l : List Nat) (n : Nat) : List Nat := (List.range n).map fun i => l.idxOf i
theorem idx_at {l : List Nat} (hd : l.Nodup) {j i : Nat} (h : l[j]? = some i) : l.idxOf i = j := by
  obtain ⟨hj, he⟩ := List.getElem?_eq_some_iff.1 h
  rw [← he]
  exact List.Nodup.idxOf_getElem hd j hj
theorem at_idx {l : List Nat} {i : Nat} (h : i ∈ l) : l[l.idxOf i]? = some i := by
  rw [List.getElem?_eq_getElem (List.idxOf_lt_length_iff.2 h)]
  simp
theorem match_inv {W V : List Wk} {l : List Nat} (hl : W.length = V.length) (h : matchTo W V W.length = some l) : matchTo V W V.length = some (invL l V.length) := by
  have hok := match_ok h
  have hd := match_nodup h
  obtain ⟨_, hlen, hmem⟩ := matchTo_clo h
  have hall := mem_all hd hmem hlen
  have wk : ∀ i j, l[j]? = some i → tchN V j = fun k => touchP (wkN V j) (wkN V k) := fun i j _ => rfl
  -- touching pairs keep their order
  have pls : ∀ j i, l[j]? = some i → (wkN V j).pl = (wkN W i).pl := fun j i hj => (sameW_pl (hok j i hj).1).symm
  have ord : ∀ j j' i i', l[j]? = some i → l[j']? = some i' → j < j' → tchN V j j' = true → i < i' := fun j j' i i' hj hj' hlt ht => by
    refine Classical.byContradiction fun hn => ?_
    have hne : i ≠ i' := fun e => by
      subst e
      have := idx_at hd hj
      have := idx_at hd hj'
      omega
    have ht' : tchN W i' i = true := by
      unfold tchN touchP at ht ⊢
      rw [pls j i hj, pls j' i' hj'] at ht
      simp at ht ⊢
      omega
    have h1 := (hok j i hj).2.1.2 i' (by omega) ht'
    unfold inL at h1
    rw [List.contains_iff_mem] at h1
    obtain ⟨k, hk⟩ := List.getElem?_of_mem h1
    have hk2 : k < j := by
      have := (List.getElem?_eq_some_iff.1 hk).1
      rw [List.length_take] at this
      omega
    rw [List.getElem?_take_of_lt hk2] at hk
    have e1 := idx_at hd hk
    have e2 := idx_at hd hj'
    omega
  have key : ∀ k, k ≤ V.length → matchTo V W k = some (invL l k) := by
    intro k
    induction k with
    | zero => intro _; rfl
    | succ k ih =>
      intro hk
      obtain ⟨y, hy⟩ : ∃ y, W[k]? = some y := ⟨_, List.getElem?_eq_getElem (by omega)⟩
      rw [matchTo_next (ih (by omega)) hy]
      have hki := at_idx (hall k (by omega))
      generalize hp : l.idxOf k = p at hki
      have hpl : p < V.length := by have := (List.getElem?_eq_some_iff.1 hki).1; omega
      obtain ⟨x, hx⟩ : ∃ x, V[p]? = some x := ⟨_, List.getElem?_eq_getElem hpl⟩
      have hs := (hok p k hki).1
      rw [wkN_get hx, wkN_get hy, sameW_iff] at hs
      rw [findR_eq (i := p) hx (sameW_iff.2 ⟨hs.1.symm, hs.2.1.symm, hs.2.2.symm⟩)]
      · simp [invL, List.range_succ, hp]
      · refine ⟨?_, fun a ha ht => ?_⟩
        · unfold inL invL
          simp only [List.contains_eq_mem, List.mem_map, List.mem_range, decide_eq_false_iff_not]
          rintro ⟨i, hi, e⟩
          have := at_idx (hall i (by omega))
          rw [e, hki] at this
          simp at this
          omega
        · obtain ⟨i, hi⟩ : ∃ i, l[a]? = some i := ⟨_, List.getElem?_eq_getElem (by omega)⟩
          have := ord a p i k hi hki ha ht
          unfold inL invL
          simp only [List.contains_eq_mem, List.mem_map, List.mem_range, decide_eq_true_eq]
          exact ⟨i, this, idx_at hd hi⟩
  exact key V.length (Nat.le_refl _)
theorem match_none {W V : List Wk} (hl : W.length = V.length) (h : matchTo W V W.length = none) : matchTo V W V.length = none := by
  cases h1 : matchTo V W V.length with
  | none => rfl
  | some l =>
    rw [match_inv hl.symm h1] at h
    cases h
/-- The first neighbours that stand in the wrong order. -/
def wrongB (t : List Int) (p : Nat) : Bool := decide ((t[p + 1]?).getD 0 < (t[p]?).getD 0)
def desc (t : List Int) : Option Nat := (List.range (t.length - 1)).find? (wrongB t)
def swapL (t : List Int) (p : Nat) : List Int := (t.set p ((t[p + 1]?).getD 0)).set (p + 1) ((t[p]?).getD 0)
theorem swapL_len (t : List Int) (p : Nat) : (swapL t p).length = t.length := by simp [swapL]
def swGo (t : List Int) : Nat → List Int × List Nat
  | 0 => (t, [])
  | m + 1 => match desc (swGo t m).1 with
    | none => swGo t m
    | some p => (swapL (swGo t m).1 p, (swGo t m).2 ++ [p])
theorem swGo_len (t : List Int) : ∀ m, (swGo t m).1.length = t.length ∧ (swGo t m).2.length ≤ m
  | 0 => ⟨rfl, Nat.le_refl _⟩
  | m + 1 => by
    obtain ⟨h1, h2⟩ := swGo_len t m
    unfold swGo
    cases desc (swGo t m).1 with
    | none => exact ⟨h1, by simp only; omega⟩
    | some p => exact ⟨by simp only; rw [swapL_len]; exact h1, by simp; omega⟩
theorem desc_of {t : List Int} {p : Nat} (hp : p + 1 < t.length) (hw : wrongB t p = true) (hb : ∀ q, q < p → wrongB t q = false) : desc t = some p := by
  unfold desc
  rw [List.find?_range_eq_some]
  exact ⟨hw, List.mem_range.2 (by omega), fun q hq => by simp [hb q hq]⟩
theorem desc_none {t : List Int} (hb : ∀ q, q + 1 < t.length → wrongB t q = false) : desc t = none := by
  unfold desc
  rw [List.find?_eq_none]
  intro q hq
  rw [hb q (by have := List.mem_range.1 hq; omega)]
  simp
theorem swGo_some {t : List Int} {m p : Nat} (h : desc (swGo t m).1 = some p) : swGo t (m + 1) = (swapL (swGo t m).1 p, (swGo t m).2 ++ [p]) := by
  rw [swGo, h]
theorem swGo_stop {t : List Int} {m : Nat} (h : desc (swGo t m).1 = none) : ∀ d, swGo t (m + d) = swGo t m
  | 0 => rfl
  | d + 1 => by
    have ih := swGo_stop h d
    rw [← Nat.add_assoc, swGo, ih, h]
theorem swapL_get {t : List Int} {p q : Nat} (hp : p + 1 < t.length) : (swapL t p)[q]? = if q = p then t[p + 1]? else if q = p + 1 then t[p]? else t[q]? := by
  unfold swapL
  rw [List.getElem?_set, List.getElem?_set]
  by_cases h1 : q = p
  · subst h1
    rw [if_neg (by omega), if_pos rfl, if_pos rfl, if_pos (by omega), List.getElem?_eq_getElem hp]
    rfl
  · by_cases h2 : q = p + 1
    · subst h2
      rw [if_pos rfl, if_neg h1, if_pos rfl, if_pos (by simpa using hp), List.getElem?_eq_getElem (by omega)]
      rfl
    · rw [if_neg (fun e => h2 e.symm), if_neg (fun e => h1 e.symm), if_neg h1, if_neg h2]
theorem wrong_keep {t : List Int} {p q : Nat} (hp : p + 1 < t.length) (hq : q + 1 < p) : wrongB (swapL t p) q = wrongB t q := by
  unfold wrongB
  rw [swapL_get hp, swapL_get hp, if_neg (by omega), if_neg (by omega), if_neg (by omega), if_neg (by omega)]
/-- What both searches keep: so many exchanges are made, and ahead of p all stand right. -/
structure SwI (t0 : List Int) (t : List Int) (o : List Nat) (m p : Nat) : Prop where
  eq : swGo t0 m = (t, o)
  len : o.length = m
  sorted : ∀ q, q < p → wrongB t q = false
theorem SwI.size {t0 t : List Int} {o : List Nat} {m p : Nat} (h : SwI t0 t o m p) : t.length = t0.length := by
  have := (swGo_len t0 m).1
  rwa [h.eq] at this
theorem swI_0 (t0 : List Int) : SwI t0 t0 [] 0 0 := ⟨rfl, rfl, fun q h => by omega⟩
theorem SwI.next {t0 t : List Int} {o : List Nat} {m p : Nat} (h : SwI t0 t o m p) (hw : wrongB t p = false) : SwI t0 t o m (p + 1) :=
  ⟨h.eq, h.len, fun q hq => by
    by_cases e : q = p
    · subst e; exact hw
    · exact h.sorted q (by omega)⟩
theorem SwI.swap {t0 t : List Int} {o : List Nat} {m p p' : Nat} (h : SwI t0 t o m p) (hp : p + 1 < t.length) (hw : wrongB t p = true) (hp' : p' ≤ p - 1) : SwI t0 (swapL t p) (o ++ [p]) (m + 1) p' := by
  have hd := desc_of hp hw h.sorted
  have e := h.eq
  refine ⟨?_, by simp [h.len], fun q hq => ?_⟩
  · rw [swGo_some (p := p) (by rw [e]; exact hd), e]
  · rw [wrong_keep hp (by omega)]
    exact h.sorted q (by omega)
/-- The exchanges; none where they are too many. -/
def swOut (t0 : List Int) : Option (List Nat) := if 5000 < (swGo t0 5001).2.length then none else some (swGo t0 5001).2
theorem SwI.done {t0 t : List Int} {o : List Nat} {m p : Nat} (h : SwI t0 t o m p) (hp : t.length ≤ p + 1) (hm : m ≤ 5000) : swOut t0 = some o := by
  have hd : desc (swGo t0 m).1 = none := by
    rw [h.eq]
    exact desc_none fun q hq => h.sorted q (by have hq' : q + 1 < t.length := hq; omega)
  have e := swGo_stop hd (5001 - m)
  rw [show m + (5001 - m) = 5001 by omega, h.eq] at e
  unfold swOut
  rw [e, if_neg (by rw [h.len]; omega)]
theorem SwI.full {t0 t : List Int} {o : List Nat} {p : Nat} (h : SwI t0 t o 5001 p) : swOut t0 = none := by
  unfold swOut
  rw [h.eq, if_pos (by rw [h.len]; omega)]
end Go.Proofs.Ytcjbjlepgdggpaa
