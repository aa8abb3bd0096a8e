/- Lines in any order: theory. -/
import Derived.Test.YtenfeekchggioaaOQ
import Derived.Test.YtenfeekchggioaaFV
namespace Go.Proofs.Ytenfeekchggioaa
open Go.RowKit Go.Shelf
theorem top_get (pr : Nat) (W : List Wk) (p : Nat) (h : p < pr) : (edgesL pr W)[p]? = some (topE W p) := by
  unfold edgesL
  rw [List.getElem?_append_left (by rw [List.length_map, List.length_range]; exact h), List.getElem?_map, List.getElem?_range h]
  rfl
theorem down_get (W : List Wk) : ∀ (L : List Wk) (i0 i j : Nat) (x : Wk), j < 2 → L[i]? = some x → (downE W L i0)[2 * i + j]? = some (sideE W (i0 + i) x j)
  | [], _, i, _, _, _, h => by simp at h
  | y :: L, i0, 0, j, x, hj, h => by
    simp at h
    subst h
    have : j = 0 ∨ j = 1 := by omega
    rcases this with rfl | rfl <;> rfl
  | y :: L, i0, i + 1, j, x, hj, h => by
    have := down_get W L (i0 + 1) i j x hj (by simpa using h)
    rw [show i0 + 1 + i = i0 + (i + 1) by omega] at this
    rw [show 2 * (i + 1) + j = (2 * i + j) + 1 + 1 by omega]
    simpa [downE] using this
theorem side_get (pr : Nat) (W : List Wk) (i j : Nat) (x : Wk) (hj : j < 2) (h : W[i]? = some x) : (edgesL pr W)[pr + 2 * i + j]? = some (sideE W i x j) := by
  unfold edgesL
  rw [List.getElem?_append_right (by rw [List.length_map, List.length_range]; omega), List.length_map, List.length_range, show pr + 2 * i + j - pr = 2 * i + j by omega, down_get W W 0 i j x hj h, Nat.zero_add]
def Wk.takes (y : Wk) (p : Nat) : Prop := 0 ≤ (p : Int) - y.pl ∧ (p : Int) - y.pl < 2
instance (y : Wk) (p : Nat) : Decidable (y.takes p) := by unfold Wk.takes; infer_instance
/-- What a line is after some works. -/
structure LineInv (pr : Nat) (W : List Wk) (D : Nat → Bool) (l : List Int) : Prop where
  len : l.length = pr
  spot : ∀ p, p < pr → (l[p]? = some (p : Int) ∧ ∀ b y, W[b]? = some y → D b = true → ¬ y.takes p) ∨
    ∃ a x j, W[a]? = some x ∧ D a = true ∧ j < 2 ∧ l[p]? = some ((pr + 2 * a + j : Nat) : Int) ∧ x.pl + j = (p : Int) ∧ ∀ b y, a < b → W[b]? = some y → D b = true → ¬ y.takes p
def Clo (W : List Wk) (D : Nat → Bool) : Prop := ∀ a b, D a = true → a < W.length → b < a → tchN W b a = true → D b = true
theorem tch_of {W : List Wk} {a b p : Nat} {x y : Wk} (hx : W[a]? = some x) (hy : W[b]? = some y) (h1 : x.takes p) (h2 : y.takes p) : tchN W a b = true := by
  rw [tch_iff hx hy]
  unfold Wk.takes at h1 h2
  omega
theorem lineInv_0 (pr : Nat) (W : List Wk) : LineInv pr W (fun _ => false) (line0 pr) := by
  refine ⟨line0_len pr, fun p hp => .inl ⟨?_, fun b y _ h => by cases h⟩⟩
  unfold line0
  rw [List.getElem?_map, List.getElem?_range hp]
  rfl
/-- An edge from behind work f ends at k. -/
theorem end_at {W : List Wk} {f k p j : Nat} {x : Wk} (hx : W[k]? = some x) (hp : x.pl + j = (p : Int)) (hj : j < 2) (hfk : f ≤ k) (hno : ∀ c y, f ≤ c → c < k → W[c]? = some y → ¬ y.takes p) : endL (W.drop f) f (p : Int) = ((k : Int), (j : Int)) := by
  have ht : x.takes p := by unfold Wk.takes; omega
  rcases endL_char W p W.length f (by omega) with ⟨c, y, h1, h2, h3, h4, h5, h6⟩ | ⟨h1, h2⟩
  · have e : c = k := by
      by_cases q : c < k
      · exact absurd ⟨h4, h5⟩ (hno c y h1 q h2)
      · by_cases q2 : k < c
        · exact absurd ht (h6 k x hfk q2 hx)
        · omega
    subst e
    rw [hx] at h2
    cases h2
    rw [h3]
    congr 1
    omega
  · exact absurd ht (h2 k x hfk hx)
theorem end_no {W : List Wk} {f p : Nat} (hno : ∀ c y, f ≤ c → W[c]? = some y → ¬ y.takes p) : endL (W.drop f) f (p : Int) = (-1, (p : Int)) := by
  rcases endL_char W p W.length f (by omega) with ⟨c, y, h1, h2, h3, h4, h5, h6⟩ | ⟨h1, h2⟩
  · exact absurd ⟨h4, h5⟩ (hno c y h1 h2)
  · exact h1
theorem line_finds {pr : Nat} {W : List Wk} {D : Nat → Bool} {l : List Int} {k p j : Nat} {x : Wk} (hI : LineInv pr W D l) (hC : Clo W D) (hx : W[k]? = some x) (hp : x.pl + j = (p : Int)) (hj : j < 2) (hpr : p < pr) (hD : D k = false) (hpre : ∀ a, a < k → tchN W a k = true → D a = true) :
    ∃ (z : Nat) (e : Ed), l[p]? = some (z : Int) ∧ (edgesL pr W)[z]? = some e ∧ e.to = (k : Int) ∧ e.inn = (j : Int) := by
  have ht : x.takes p := by unfold Wk.takes; omega
  rcases hI.spot p hpr with ⟨h1, h2⟩ | ⟨a, y, i, h1, h2, h3, h4, h5, h6⟩
  · have e := end_at (f := 0) hx hp hj (Nat.zero_le _) (fun c y _ hc hy hty => h2 c y hy (hpre c hc (tch_of hy hx hty ht)) hty)
    refine ⟨p, _, h1, top_get pr W p hpr, ?_⟩
    unfold topE edgeP
    rw [e]
    exact ⟨rfl, rfl⟩
  · have hty : y.takes p := by unfold Wk.takes; omega
    have hak : a ≠ k := fun e => by rw [e, hD] at h2; cases h2
    have hlt : a < k := by
      by_cases q : a < k
      · exact q
      · have := hC a k h2 (List.getElem?_eq_some_iff.1 h1).1 (by omega) (tch_of hx h1 ht hty)
        rw [hD] at this
        cases this
    have e := end_at (f := a + 1) hx hp hj (by omega) (fun c y' h0 hc hy' hty' => h6 c y' (by omega) hy' (hpre c hc (tch_of hy' hx hty' ht)) hty')
    refine ⟨_, _, h4, side_get pr W a i y h3 h1, ?_⟩
    unfold sideE edgeP
    rw [h5, e]
    exact ⟨rfl, rfl⟩
theorem line_end {pr : Nat} {W : List Wk} {D : Nat → Bool} {l : List Int} {p : Nat} (hI : LineInv pr W D l) (hpr : p < pr) (hD : ∀ a, a < W.length → D a = true) :
    ∃ (z : Nat) (e : Ed), l[p]? = some (z : Int) ∧ (edgesL pr W)[z]? = some e ∧ e.to = -1 ∧ e.inn = (p : Int) := by
  rcases hI.spot p hpr with ⟨h1, h2⟩ | ⟨a, y, i, h1, h2, h3, h4, h5, h6⟩
  · have e := end_no (W := W) (f := 0) (p := p) (fun c y _ hy => h2 c y hy (hD c (List.getElem?_eq_some_iff.1 hy).1))
    refine ⟨p, _, h1, top_get pr W p hpr, ?_⟩
    unfold topE edgeP
    rw [e]
    exact ⟨rfl, rfl⟩
  · have e := end_no (W := W) (f := a + 1) (p := p) (fun c y' hc hy => h6 c y' (by omega) hy (hD c (List.getElem?_eq_some_iff.1 hy).1))
    refine ⟨_, _, h4, side_get pr W a i y h3 h1, ?_⟩
    unfold sideE edgeP
    rw [h5, e]
    exact ⟨rfl, rfl⟩
theorem at_eq {W : List Wk} {k : Nat} {x : Wk} (hx : W[k]? = some x) : atW W k = x.pl.toNat := by unfold atW; rw [hx]; rfl
theorem line_step {pr : Nat} {W : List Wk} {D : Nat → Bool} {l : List Int} {k : Nat} {x : Wk} (hI : LineInv pr W D l) (hC : Clo W D) (hx : W[k]? = some x) (h0 : 0 ≤ x.pl) (hD : D k = false) :
    LineInv pr W (fun j => decide (j = k) || D j) (sideL pr W l k 2) := by
  refine ⟨by rw [sideL_len]; exact hI.len, fun p hp => ?_⟩
  have hl := hI.len
  have ha := at_eq hx
  have get : (sideL pr W l k 2)[p]? = if x.takes p then some ((pr + 2 * k + (p - x.pl.toNat) : Nat) : Int) else l[p]? := by
    have hti : x.takes p ↔ (0 ≤ (p : Int) - x.pl ∧ (p : Int) - x.pl < 2) := Iff.rfl
    unfold sideL
    rw [if_neg (by omega), if_neg (by omega), ha, List.getElem?_set, List.getElem?_set]
    simp only [List.length_set]
    by_cases c1 : x.pl.toNat + 1 = p
    · rw [if_pos c1, if_pos (by omega), if_pos (hti.2 (by omega))]
      congr 1
      omega
    · rw [if_neg c1]
      by_cases c2 : x.pl.toNat = p
      · rw [if_pos c2, if_pos (by omega), if_pos (hti.2 (by omega))]
        congr 1
        omega
      · rw [if_neg c2, if_neg (fun h => by have := hti.1 h; omega)]
  by_cases ht : x.takes p
  · right
    rw [if_pos ht] at get
    have htt := ht
    unfold Wk.takes at htt
    refine ⟨k, x, p - x.pl.toNat, hx, by simp, by omega, get, by omega, fun b y hb hy hDb hty => ?_⟩
    have hDb' : D b = true := by
      have : ¬ b = k := by omega
      simpa [this] using hDb
    have := hC b k hDb' (List.getElem?_eq_some_iff.1 hy).1 hb (tch_of hx hy ht hty)
    rw [hD] at this
    cases this
  · rw [if_neg ht] at get
    have nk : ∀ b y, W[b]? = some y → (decide (b = k) || D b) = true → y.takes p → D b = true := fun b y hy hDb hty => by
      by_cases e : b = k
      · subst e
        rw [hx] at hy
        cases hy
        exact absurd hty ht
      · simpa [e] using hDb
    rcases hI.spot p hp with ⟨h1, h2⟩ | ⟨a, y, i, h1, h2, h3, h4, h5, h6⟩
    · exact .inl ⟨get.trans h1, fun b y hy hDb hty => h2 b y hy (nk b y hy hDb hty) hty⟩
    · exact .inr ⟨a, y, i, h1, by rw [h2]; simp, h3, get.trans h4, h5, fun b y' hb hy hDb hty => h6 b y' hb hy (nk b y' hy hDb hty) hty⟩
theorem clo_step {W : List Wk} {D : Nat → Bool} {k : Nat} (hC : Clo W D) (hpre : ∀ a, a < k → tchN W a k = true → D a = true) : Clo W (fun j => decide (j = k) || D j) := fun a b hDa ha hb ht => by
  by_cases e : a = k
  · subst e
    simp [hpre b hb ht]
  · have : D a = true := by simpa [e] using hDa
    simp [hC a b this ha hb ht]
/-- The walk of an order. -/
theorem line_ord {pr : Nat} {W : List Wk} {os : List Int} (h : refOrdB W os = true) (hf : ∀ x ∈ W, 0 ≤ x.pl ∧ x.pl + 2 ≤ (pr : Int)) : ∀ k, k ≤ os.length → LineInv pr W (doneS (os.take k)) (lineL pr W (os.take k)) ∧ Clo W (doneS (os.take k))
  | 0, _ => by
    rw [List.take_zero, doneS_nil]
    exact ⟨lineInv_0 pr W, fun a b h => by cases h⟩
  | k + 1, hk => by
    obtain ⟨h1, h2⟩ := line_ord h hf k (by omega)
    obtain ⟨z, hz⟩ : ∃ z, os[k]? = some z := ⟨_, List.getElem?_eq_getElem (by omega)⟩
    unfold refOrdB at h
    simp only [Bool.and_eq_true, List.all_eq_true, decide_eq_true_eq] at h
    have g := h.2 k (List.mem_range.2 (by omega))
    unfold goodAt at g
    rw [hz] at g
    simp only [Bool.and_eq_true, List.all_eq_true, decide_eq_true_eq, List.mem_range, Bool.or_eq_true, Bool.not_eq_true'] at g
    obtain ⟨⟨⟨g1, g2⟩, g3⟩, g4⟩ := g
    obtain ⟨i, rfl⟩ : ∃ i : Nat, z = (i : Int) := ⟨z.toNat, by omega⟩
    obtain ⟨x, hx⟩ : ∃ x, W[i]? = some x := ⟨_, List.getElem?_eq_getElem (by omega)⟩
    have g5 : ∀ a, a < i → tchN W a i = true → doneS (os.take k) a = true := fun a ha ht => by
      rcases g4 a (by simpa using ha) with q | q
      · have q' : tchN W a i = false := by simpa using q
        rw [ht] at q'
        cases q'
      · exact q
    have hx2 := hf x (List.mem_of_getElem? hx)
    rw [lineL_next pr W os k _ hz, ← doneS_snoc os k i hz]
    exact ⟨line_step h1 h2 hx hx2.1 (by simpa using g3), clo_step h2 g5⟩
/-- What the walk of an order finds. -/
theorem ord_at {W : List Wk} {os : List Int} (h : refOrdB W os = true) {k : Nat} {z : Int} (hz : os[k]? = some z) : ∃ (i : Nat) (x : Wk), z = (i : Int) ∧ W[i]? = some x ∧ doneS (os.take k) i = false ∧ ∀ a, a < i → tchN W a i = true → doneS (os.take k) a = true := by
  have hk := (List.getElem?_eq_some_iff.1 hz).1
  unfold refOrdB at h
  simp only [Bool.and_eq_true, List.all_eq_true, decide_eq_true_eq] at h
  have g := h.2 k (List.mem_range.2 hk)
  unfold goodAt at g
  rw [hz] at g
  simp only [Bool.and_eq_true, List.all_eq_true, decide_eq_true_eq, List.mem_range, Bool.or_eq_true, Bool.not_eq_true'] at g
  obtain ⟨⟨⟨g1, g2⟩, g3⟩, g4⟩ := g
  obtain ⟨i, rfl⟩ : ∃ i : Nat, z = (i : Int) := ⟨z.toNat, by omega⟩
  obtain ⟨x, hx⟩ : ∃ x, W[i]? = some x := ⟨_, List.getElem?_eq_getElem (by omega)⟩
  refine ⟨i, x, rfl, hx, by simpa using g3, fun a ha ht => ?_⟩
  rcases g4 a (by simpa using ha) with q | q
  · have q' : tchN W a i = false := by simpa using q
    rw [ht] at q'
    cases q'
  · exact q
theorem ord_all {W : List Wk} {os : List Int} (h : refOrdB W os = true) : ∀ a, a < W.length → doneS os a = true := by
  have h2 : ordB 0 W os = true := (ord_eq 0 W os).trans h
  unfold ordB at h2
  simp only [Bool.and_eq_true] at h2
  intro a ha
  unfold doneS
  exact decide_eq_true ((perm_idx h2.1).1 a ha)
end Go.Proofs.Ytenfeekchggioaa
