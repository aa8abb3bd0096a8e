/- Chains: the search finds the least of the shortest; the table of distances leads along it: theory. -/
import Derived.Test.YtenfeekchggioaaOB
namespace Go.Proofs.Ytenfeekchggioaa
open Go.RowKit Go.Shelf
set_option linter.unusedSimpArgs false
/-- Shorter, or as long and less from the end of the list on. -/
def slt : List Nat → List Nat → Prop
  | _, [] => False
  | [], _ :: _ => True
  | x :: p, y :: q => slt p q ∨ (p = q ∧ x < y)
def sle (p q : List Nat) : Prop := p = q ∨ slt p q
theorem slt_irr : ∀ p, ¬ slt p p
  | [] => fun h => h
  | x :: p => fun h => by
    rcases h with h | h
    · exact slt_irr p h
    · exact Nat.lt_irrefl _ h.2
theorem slt_trans : ∀ {p q r : List Nat}, slt p q → slt q r → slt p r
  | _, _, [], _, h => by simp [slt] at h
  | _, [], _ :: _, h, _ => by simp [slt] at h
  | [], _ :: _, _ :: _, _, _ => trivial
  | x :: p, y :: q, z :: r, h1, h2 => by
    rcases h1 with h1 | ⟨rfl, h1⟩
    · rcases h2 with h2 | ⟨rfl, h2⟩
      · exact .inl (slt_trans h1 h2)
      · exact .inl h1
    · rcases h2 with h2 | ⟨rfl, h2⟩
      · exact .inl h2
      · exact .inr ⟨rfl, by omega⟩
theorem slt_len : ∀ {p q : List Nat}, p.length < q.length → slt p q
  | _, [], h => by simp at h
  | [], _ :: _, _ => trivial
  | x :: p, y :: q, h => .inl (slt_len (by simpa using h))
theorem slt_self_cons (x : Nat) (p : List Nat) : slt p (x :: p) := slt_len (by simp)
theorem sle_trans {p q r : List Nat} (h1 : sle p q) (h2 : sle q r) : sle p r := by
  rcases h1 with rfl | h1
  · exact h2
  · rcases h2 with rfl | h2
    · exact .inr h1
    · exact .inr (slt_trans h1 h2)
theorem sle_slt {p q r : List Nat} (h1 : sle p q) (h2 : slt q r) : slt p r := by
  rcases h1 with rfl | h1
  · exact h2
  · exact slt_trans h1 h2
theorem slt_sle {p q r : List Nat} (h1 : slt p q) (h2 : sle q r) : slt p r := by
  rcases h2 with rfl | h2
  · exact h1
  · exact slt_trans h1 h2
theorem sle_cons {p q : List Nat} (x : Nat) (h : sle p q) : sle (x :: p) (x :: q) := by
  rcases h with rfl | h
  · exact .inl rfl
  · exact .inr (.inl h)
theorem slt_not_sle {p q : List Nat} (h : slt p q) (h2 : sle q p) : False := slt_irr _ (slt_sle h h2)
theorem slt_le_len : ∀ {p q : List Nat}, sle p q → p.length ≤ q.length := by
  intro p q h
  by_cases c : p.length ≤ q.length
  · exact c
  · exact (slt_not_sle (slt_len (by omega)) h).elim
theorem slt_app (P : List Nat) : ∀ {s t : List Nat}, slt s t → slt (s ++ P) (t ++ P)
  | _, [], h => by simp [slt] at h
  | [], _ :: t, _ => slt_len (by simp; omega)
  | x :: p, y :: q, h => by
    rcases h with h | ⟨rfl, h⟩
    · exact .inl (slt_app P h)
    · exact .inr ⟨rfl, h⟩
theorem slt_last {x y : Nat} (h : x < y) : ∀ {s t : List Nat}, s.length = t.length → slt (s ++ [x]) (t ++ [y])
  | [], [], _ => .inr ⟨rfl, h⟩
  | [], _ :: _, e => by simp at e
  | _ :: _, [], e => by simp at e
  | _ :: s, _ :: t, e => .inl (slt_last h (by simpa using e))
/-- A chain from a on, read backwards. -/
def Ch (W : List Wk) (a : Nat) : List Nat → Prop
  | [] => False
  | [y] => y = a
  | x :: y :: r => y < x ∧ tchN W y x = true ∧ Ch W a (y :: r)
theorem Ch.form {W : List Wk} {a : Nat} : ∀ {c : List Nat}, Ch W a c → c = [a] ∨ ∃ x c', c = x :: c' ∧ Ch W a c' ∧ hdN c' < x ∧ tchN W (hdN c') x = true
  | [], h => h.elim
  | [y], h => .inl (by rw [show y = a from h])
  | x :: y :: r, h => .inr ⟨x, y :: r, rfl, h.2.2, h.1, h.2.1⟩
theorem Ch.cons {W : List Wk} {a x : Nat} {c : List Nat} (h : Ch W a c) (h1 : hdN c < x) (h2 : tchN W (hdN c) x = true) : Ch W a (x :: c) := by
  cases c with
  | nil => exact h.elim
  | cons y r => exact ⟨h1, h2, h⟩
theorem Ch.ge {W : List Wk} {a : Nat} : ∀ {c : List Nat}, Ch W a c → a ≤ hdN c
  | [], h => h.elim
  | [_], h => Nat.le_of_eq (Eq.symm h)
  | _ :: _ :: _, h => Nat.le_trans (Ch.ge h.2.2) (Nat.le_of_lt h.1)
theorem Ch.eq_hd {W : List Wk} {a : Nat} {c : List Nat} (h : Ch W a c) (e : hdN c = a) : c = [a] := by
  rcases h.form with h1 | ⟨x, c', rfl, h2, h3, _⟩
  · exact h1
  · have := h2.ge
    have e : x = a := e
    omega
theorem Ch.ne {W : List Wk} {a : Nat} {c : List Nat} (h : Ch W a c) : 0 < c.length := by
  cases c with
  | nil => exact h.elim
  | cons => simp
/-- What the search keeps, k paths looked at. -/
structure QI (W : List Wk) (a b k : Nat) (ps : List (List Nat)) : Prop where
  first : ps[0]? = some [a]
  ch : ∀ p ∈ ps, Ch W a p ∧ hdN p < b
  sorted : ∀ (i j : Nat) p q, i < j → ps[i]? = some p → ps[j]? = some q → slt p q
  min : ∀ p ∈ ps, ∀ c, Ch W a c → hdN c = hdN p → sle p c
  done : ∀ (i : Nat) p, i < k → ps[i]? = some p → (∀ x, hdN p < x → x < b → tchN W (hdN p) x = true → x ∈ heads ps) ∧ tchN W (hdN p) b = false
  par : ∀ p ∈ ps, p = [a] ∨ ∃ (i : Nat) (q : List Nat) (x : Nat), i < k ∧ ps[i]? = some q ∧ p = x :: q
theorem QI.leq {W : List Wk} {a b k : Nat} {ps : List (List Nat)} (h : QI W a b k ps) {i j : Nat} {p q : List Nat} (hij : i ≤ j) (hp : ps[i]? = some p) (hq : ps[j]? = some q) : sle p q := by
  rcases Nat.lt_or_ge i j with c | c
  · exact .inr (h.sorted i j p q c hp hq)
  · have : i = j := by omega
    subst this
    rw [hp] at hq
    exact .inl (Option.some.inj hq)
theorem mem_heads {ps : List (List Nat)} {x : Nat} (h : x ∈ heads ps) : ∃ (i : Nat) (p : List Nat), ps[i]? = some p ∧ hdN p = x := by
  obtain ⟨p, hp, e⟩ := List.mem_map.1 h
  obtain ⟨i, hi⟩ := List.mem_iff_getElem?.1 hp
  exact ⟨i, p, hi, e⟩
theorem heads_of {ps : List (List Nat)} {i : Nat} {p : List Nat} (h : ps[i]? = some p) : hdN p ∈ heads ps := List.mem_map.2 ⟨p, List.mem_of_getElem? h, rfl⟩
theorem QI.late {W : List Wk} {a b k : Nat} {ps : List (List Nat)} (h : QI W a b k ps) {i : Nat} {p : List Nat} (hi : i ≤ k) (hp : ps[i]? = some p) : ∀ c, Ch W a c → hdN c < b → hdN c ∉ heads ps → slt p c
  | [], hc, _, _ => hc.elim
  | x :: c', hc, hb, hn => by
    rcases hc.form with e | ⟨x', c'', e, h2, h3, h4⟩
    · rw [e] at hn
      exact absurd (heads_of h.first) hn
    · cases e
      by_cases hy : hdN c' ∈ heads ps
      · obtain ⟨j, q, hq, e⟩ := mem_heads hy
        have hm := h.min q (List.mem_of_getElem? hq) c' h2 e.symm
        by_cases hj : j < k
        · exfalso
          have := (h.done j q hj hq).1 x (by rw [e]; exact h3) hb (by rw [e]; exact h4)
          exact hn this
        · exact sle_slt (sle_trans (h.leq (by omega) hp hq) hm) (slt_self_cons _ _)
      · exact slt_trans (QI.late h hi hp c' h2 (by have hb : x < b := hb; omega) hy) (slt_self_cons _ _)
theorem QI.nodup {W : List Wk} {a b k : Nat} {ps : List (List Nat)} (h : QI W a b k ps) : (heads ps).Nodup := by
  unfold List.Nodup
  rw [List.pairwise_iff_getElem]
  intro i j hi hj hij e
  have li : i < ps.length := by simpa [heads] using hi
  have lj : j < ps.length := by simpa [heads] using hj
  have gi : ps[i]? = some ps[i] := List.getElem?_eq_getElem li
  have gj : ps[j]? = some ps[j] := List.getElem?_eq_getElem lj
  have e2 : hdN ps[i] = hdN ps[j] := by simpa [heads] using e
  exact slt_not_sle (h.sorted i j _ _ hij gi gj) (h.min _ (List.mem_of_getElem? gj) _ (h.ch _ (List.mem_of_getElem? gi)).1 e2)
theorem QI.len {W : List Wk} {a b k : Nat} {ps : List (List Nat)} (h : QI W a b k ps) : ps.length ≤ b := by
  have := nodup_len b (heads ps) h.nodup (fun x hx => by
    obtain ⟨p, hp, rfl⟩ := List.mem_map.1 hx
    exact (h.ch p hp).2)
  rwa [heads, List.length_map] at this
/-- The works that a path finds. -/
def newP (W : List Wk) (b : Nat) (r : List Nat) (ps : List (List Nat)) (x n : Nat) : List (List Nat) := ((List.range' x n).filter fun y => decide (y < b) && !(heads ps).contains y && tchN W (hdN r) y).map (· :: r)
theorem contains_app (ps : List (List Nat)) (x y : Nat) (r : List Nat) (h : x ≠ y) : (heads (ps ++ [y :: r])).contains x = (heads ps).contains x := by
  rw [Bool.eq_iff_iff]
  simp [heads, hdN, h]
theorem newP_app (W : List Wk) (b : Nat) (r : List Nat) (ps : List (List Nat)) (y : Nat) : ∀ (n x : Nat), y < x → newP W b r (ps ++ [y :: r]) x n = newP W b r ps x n := by
  intro n x hx
  unfold newP
  congr 1
  apply List.filter_congr
  intro z hz
  have hz := (List.mem_range'_1.1 hz).1
  rw [contains_app ps z y r (by omega)]
theorem scan_eq (W : List Wk) (b : Nat) (r : List Nat) : ∀ (n x : Nat) (ps : List (List Nat)), x + n = b + 1 → (heads ps).contains b = false → 0 < n →
    scan W b r n x ps = (ps ++ newP W b r ps x n, if tchN W (hdN r) b = true then some (b :: r) else none)
  | 0, _, _, _, _, h => by omega
  | n + 1, x, ps, hx, hb, _ => by
    rw [scan]
    by_cases hn : n = 0
    · have e : x = b := by omega
      subst hn
      subst e
      rw [hb]
      have hp : newP W x r ps x (0 + 1) = [] := by unfold newP; simp [List.range']
      rw [hp, List.append_nil]
      by_cases ht : tchN W (hdN r) x = true
      · rw [ht]
        simp
      · have ht' : tchN W (hdN r) x = false := by simpa using ht
        rw [ht']
        simp [scan]
    · have hxb : x < b := by omega
      have hr : newP W b r ps x (n + 1) = (if !(heads ps).contains x && tchN W (hdN r) x then [x :: r] else []) ++ newP W b r ps (x + 1) n := by
        unfold newP
        rw [List.range'_succ, List.filter_cons]
        rw [decide_eq_true hxb, Bool.true_and]
        by_cases q : (!(heads ps).contains x && tchN W (hdN r) x) = true
        · rw [if_pos q, if_pos q]; rfl
        · rw [if_neg q, if_neg q]; rfl
      by_cases c : (heads ps).contains x || !tchN W (hdN r) x
      · have hq : (!(heads ps).contains x && tchN W (hdN r) x) = false := by
          rw [Bool.or_eq_true] at c
          rcases c with c | c
          · rw [c]; rfl
          · have c : tchN W (hdN r) x = false := by simpa using c
            rw [c, Bool.and_false]
        rw [hq] at hr
        rw [if_pos c, scan_eq W b r n (x + 1) ps (by omega) hb (by omega), hr]
        rfl
      · have hq : (!(heads ps).contains x && tchN W (hdN r) x) = true := by
          rw [Bool.and_eq_true]
          simp only [Bool.or_eq_true, Bool.not_eq_true', not_or] at c
          refine ⟨by simpa using c.1, by simpa using c.2⟩
        rw [hq] at hr
        rw [if_neg c, if_neg (by omega), scan_eq W b r n (x + 1) (ps ++ [x :: r]) (by omega) (by rw [contains_app ps b x r (by omega)]; exact hb) (by omega), newP_app W b r ps x n (x + 1) (by omega), hr, List.append_assoc]
        rfl
theorem mem_new {W : List Wk} {b : Nat} {r : List Nat} {ps : List (List Nat)} {x n : Nat} {p : List Nat} (h : p ∈ newP W b r ps x n) : ∃ y, p = y :: r ∧ x ≤ y ∧ y < x + n ∧ y < b ∧ y ∉ heads ps ∧ tchN W (hdN r) y = true := by
  obtain ⟨y, hy, rfl⟩ := List.mem_map.1 h
  obtain ⟨h1, h2⟩ := List.mem_filter.1 hy
  have h1 := List.mem_range'_1.1 h1
  simp only [Bool.and_eq_true, decide_eq_true_eq, Bool.not_eq_true'] at h2
  refine ⟨y, rfl, h1.1, h1.2, h2.1.1, fun hm => ?_, h2.2⟩
  have := List.contains_iff_mem.2 hm
  rw [h2.1.2] at this
  cases this
theorem new_mem {W : List Wk} {b : Nat} {r : List Nat} {ps : List (List Nat)} {x n y : Nat} (h1 : x ≤ y) (h2 : y < x + n) (h3 : y < b) (h4 : y ∉ heads ps) (h5 : tchN W (hdN r) y = true) : y :: r ∈ newP W b r ps x n := by
  refine List.mem_map.2 ⟨y, List.mem_filter.2 ⟨List.mem_range'_1.2 ⟨h1, h2⟩, ?_⟩, rfl⟩
  simp only [Bool.and_eq_true, decide_eq_true_eq, Bool.not_eq_true']
  refine ⟨⟨h3, ?_⟩, h5⟩
  rw [Bool.eq_false_iff]
  intro e
  exact h4 (List.contains_iff_mem.1 e)
theorem new_sorted (W : List Wk) (b : Nat) (r : List Nat) (ps : List (List Nat)) (x n : Nat) : (newP W b r ps x n).Pairwise slt := by
  unfold newP
  rw [List.pairwise_map]
  refine List.Pairwise.imp (fun {a b} h => .inr ⟨rfl, h⟩) (List.Pairwise.filter _ (List.pairwise_lt_range' ))
theorem QI.next {W : List Wk} {a b k : Nat} {ps : List (List Nat)} {r : List Nat} (h : QI W a b k ps) (hr : ps[k]? = some r) (hn : tchN W (hdN r) b = false) : QI W a b (k + 1) (ps ++ newP W b r ps (hdN r + 1) (b - hdN r)) := by
  have hrm := List.mem_of_getElem? hr
  have hk := (List.getElem?_eq_some_iff.1 hr).1
  have hold : ∀ {i : Nat} {p : List Nat}, ps[i]? = some p → (ps ++ newP W b r ps (hdN r + 1) (b - hdN r))[i]? = some p := fun {i p} e => by
    rw [List.getElem?_append_left (List.getElem?_eq_some_iff.1 e).1]; exact e
  have hhd : ∀ x, x ∈ heads ps → x ∈ heads (ps ++ newP W b r ps (hdN r + 1) (b - hdN r)) := fun x hx => by
    unfold heads at hx ⊢
    rw [List.map_append]
    exact List.mem_append_left _ hx
  have hback : ∀ {i : Nat} {p : List Nat}, i ≤ k → (ps ++ newP W b r ps (hdN r + 1) (b - hdN r))[i]? = some p → ps[i]? = some p := fun {i p} hi e => by
    rwa [List.getElem?_append_left (by omega)] at e
  refine ⟨hold h.first, fun p hp => ?_, fun i j p q hij hp hq => ?_, fun p hp c hc he => ?_, fun i p hi hp => ?_, fun p hp => ?_⟩
  · rcases List.mem_append.1 hp with hp | hp
    · exact h.ch p hp
    · obtain ⟨y, rfl, h1, h2, h3, h4, h5⟩ := mem_new hp
      exact ⟨(h.ch r hrm).1.cons (by omega) h5, h3⟩
  · by_cases hj : j < ps.length
    · rw [List.getElem?_append_left hj] at hq
      rw [List.getElem?_append_left (by omega)] at hp
      exact h.sorted i j p q hij hp hq
    · rw [List.getElem?_append_right (by omega)] at hq
      by_cases hi : i < ps.length
      · rw [List.getElem?_append_left hi] at hp
        obtain ⟨y, rfl, h1, h2, h3, h4, h5⟩ := mem_new (List.mem_of_getElem? hq)
        by_cases hik : i ≤ k
        · exact sle_slt (h.leq hik hp hr) (slt_self_cons _ _)
        · rcases h.par p (List.mem_of_getElem? hp) with rfl | ⟨i', q', x, h6, h7, rfl⟩
          · exact slt_len (by have := (h.ch r hrm).1.ne; simp; omega)
          · exact .inl (h.sorted i' k q' r h6 h7 hr)
      · rw [List.getElem?_append_right (by omega)] at hp
        have hs := new_sorted W b r ps (hdN r + 1) (b - hdN r)
        rw [List.pairwise_iff_getElem] at hs
        obtain ⟨hi1, hi2⟩ := List.getElem?_eq_some_iff.1 hp
        obtain ⟨hj1, hj2⟩ := List.getElem?_eq_some_iff.1 hq
        rw [← hi2, ← hj2]
        exact hs _ _ hi1 hj1 (by omega)
  · rcases List.mem_append.1 hp with hp | hp
    · exact h.min p hp c hc he
    · obtain ⟨y, rfl, h1, h2, h3, h4, h5⟩ := mem_new hp
      have he : hdN c = y := he
      rcases hc.form with e | ⟨x, c', rfl, h6, h7, h8⟩
      · rw [e] at he
        have he : a = y := he
        exact absurd (he ▸ heads_of h.first) h4
      · have he : x = y := he
        subst he
        refine sle_cons x ?_
        by_cases hy : hdN c' ∈ heads ps
        · obtain ⟨j, q, hq, e⟩ := mem_heads hy
          have hm := h.min q (List.mem_of_getElem? hq) c' h6 e.symm
          by_cases hj : j < k
          · exact absurd ((h.done j q hj hq).1 x (by rw [e]; exact h7) h3 (by rw [e]; exact h8)) h4
          · exact sle_trans (h.leq (by omega) hr hq) hm
        · exact .inr (h.late (Nat.le_refl k) hr c' h6 (by omega) hy)
  · have hp := hback (by omega) hp
    by_cases e : i = k
    · subst e
      rw [hr] at hp
      cases hp
      refine ⟨fun x h1 h2 h3 => ?_, hn⟩
      by_cases hx : x ∈ heads ps
      · exact hhd x hx
      · unfold heads
        rw [List.map_append]
        exact List.mem_append_right _ (List.mem_map.2 ⟨x :: r, new_mem (by omega) (by omega) h2 hx h3, rfl⟩)
    · obtain ⟨h1, h2⟩ := h.done i p (by omega) hp
      exact ⟨fun x h3 h4 h5 => hhd x (h1 x h3 h4 h5), h2⟩
  · rcases List.mem_append.1 hp with hp | hp
    · rcases h.par p hp with e | ⟨i', q', x, h6, h7, e⟩
      · exact .inl e
      · exact .inr ⟨i', q', x, by omega, hold h7, e⟩
    · obtain ⟨y, rfl, _⟩ := mem_new hp
      exact .inr ⟨k, r, y, by omega, hold hr, rfl⟩
/-- The least of the shortest chains. -/
def Least (W : List Wk) (a b : Nat) (c : List Nat) : Prop := Ch W a c ∧ hdN c = b ∧ ∀ c', Ch W a c' → hdN c' = b → sle c c'
def NoCh (W : List Wk) (a b : Nat) : Prop := ∀ c, Ch W a c → hdN c ≠ b
def Found (W : List Wk) (a b : Nat) : Option (List Nat) → Prop
  | some c => Least W a b c
  | none => NoCh W a b
theorem QI.all {W : List Wk} {a b k : Nat} {ps : List (List Nat)} (h : QI W a b k ps) (hk : ps.length ≤ k) : ∀ c, Ch W a c → hdN c < b → hdN c ∈ heads ps
  | [], hc, _ => hc.elim
  | x :: c', hc, hb => by
    rcases hc.form with e | ⟨x', c'', e, h2, h3, h4⟩
    · rw [e]
      exact heads_of h.first
    · cases e
      have hb : x < b := hb
      obtain ⟨j, q, hq, e⟩ := mem_heads (QI.all h hk c' h2 (by omega))
      exact (h.done j q (by have := (List.getElem?_eq_some_iff.1 hq).1; omega) hq).1 x (by rw [e]; exact h3) hb (by rw [e]; exact h4)
theorem bfs_found {W : List Wk} {a b : Nat} (hab : a < b) : ∀ (f k : Nat) (ps : List (List Nat)), QI W a b k ps → b + 1 ≤ f + k → Found W a b (bfs W b f k ps)
  | 0, k, ps, h, hf => by
    have hl := h.len
    rw [bfs_end W b 0 k ps (by omega)]
    intro c hc e
    rcases hc.form with e2 | ⟨x, c', rfl, h2, h3, h4⟩
    · rw [e2] at e
      have e : a = b := e
      omega
    · have e : x = b := e
      subst e
      obtain ⟨j, q, hq, e⟩ := mem_heads (h.all (by omega) c' h2 h3)
      have := (h.done j q (by have := (List.getElem?_eq_some_iff.1 hq).1; omega) hq).2
      rw [e, h4] at this
      cases this
  | f + 1, k, ps, h, hf => by
    by_cases hk : k < ps.length
    · obtain ⟨r, hr⟩ : ∃ r, ps[k]? = some r := ⟨_, List.getElem?_eq_getElem hk⟩
      have hrm := List.mem_of_getElem? hr
      have hrb := (h.ch r hrm).2
      have hbn : (heads ps).contains b = false := by
        rw [Bool.eq_false_iff]
        intro e
        obtain ⟨p, hp, e⟩ := List.mem_map.1 (List.contains_iff_mem.1 e)
        have := (h.ch p hp).2
        omega
      rw [bfs_step W b f k ps r hr, scan_eq W b r (b - hdN r) (hdN r + 1) ps (by omega) hbn (by omega)]
      by_cases ht : tchN W (hdN r) b = true
      · rw [if_pos ht]
        refine ⟨(h.ch r hrm).1.cons hrb ht, rfl, fun c hc e => ?_⟩
        rcases hc.form with e2 | ⟨x, c', rfl, h2, h3, h4⟩
        · rw [e2] at e
          have e : a = b := e
          omega
        · have e : x = b := e
          subst e
          refine sle_cons x ?_
          by_cases hy : hdN c' ∈ heads ps
          · obtain ⟨j, q, hq, e⟩ := mem_heads hy
            have hm := h.min q (List.mem_of_getElem? hq) c' h2 e.symm
            by_cases hj : j < k
            · have := (h.done j q hj hq).2
              rw [e, h4] at this
              cases this
            · exact sle_trans (h.leq (by omega) hr hq) hm
          · exact .inr (h.late (Nat.le_refl k) hr c' h2 h3 hy)
      · rw [if_neg ht]
        exact bfs_found hab f (k + 1) _ (h.next hr (by simpa using ht)) (by omega)
    · rw [bfs_end W b (f + 1) k ps (by omega), ← bfs_end W b 0 k ps (by omega)]
      intro c hc e
      rcases hc.form with e2 | ⟨x, c', rfl, h2, h3, h4⟩
      · rw [e2] at e
        have e : a = b := e
        omega
      · have e : x = b := e
        subst e
        obtain ⟨j, q, hq, e⟩ := mem_heads (h.all (by omega) c' h2 h3)
        have := (h.done j q (by have := (List.getElem?_eq_some_iff.1 hq).1; omega) hq).2
        rw [e, h4] at this
        cases this
theorem chainR_found {W : List Wk} {a b : Nat} (hab : a < b) (hb : b < W.length) : Found W a b (chainR W a b) := by
  refine bfs_found hab (W.length + 1) 0 [[a]] ⟨rfl, fun p hp => ?_, fun i j p q hij hp hq => ?_, fun p hp c hc e => ?_, fun i p hi => by omega, fun p hp => ?_⟩ (by omega)
  · rw [List.mem_singleton] at hp; subst hp; exact ⟨rfl, hab⟩
  · have := (List.getElem?_eq_some_iff.1 hq).1
    simp at this
    omega
  · rw [List.mem_singleton] at hp; subst hp
    exact .inl (hc.eq_hd e).symm
  · rw [List.mem_singleton] at hp; exact .inl hp
theorem chainR_none {W : List Wk} {a b : Nat} (hab : b ≤ a) : chainR W a b = none := by
  unfold chainR
  rw [bfs_step W b W.length 0 [[a]] [a] rfl]
  have e : b - hdN [a] = 0 := by show b - a = 0; omega
  rw [e, scan]
  unfold contB
  exact bfs_end W b W.length 1 [[a]] (by simp)
/-- Chains put together. -/
theorem Ch.app {W : List Wk} {a k y : Nat} {P : List Nat} (hP : Ch W a (y :: P)) (hky : y < k) (ht : tchN W y k = true) : ∀ {E : List Nat}, Ch W k E → Ch W a (E ++ y :: P) ∧ hdN (E ++ y :: P) = hdN E
  | [], h => h.elim
  | [z], h => by
    have h : z = k := h
    subst h
    exact ⟨⟨hky, ht, hP⟩, rfl⟩
  | x :: z :: r, h => ⟨⟨h.1, h.2.1, (Ch.app hP hky ht h.2.2).1⟩, rfl⟩
theorem Ch.last {W : List Wk} {a : Nat} : ∀ {c : List Nat}, Ch W a c → ∃ c', c = c' ++ [a]
  | [], h => h.elim
  | [y], h => ⟨[], by rw [show y = a from h]; rfl⟩
  | x :: y :: r, h => by
    obtain ⟨c', e⟩ := Ch.last h.2.2
    exact ⟨x :: c', by rw [e]; rfl⟩
theorem Ch.lower {W : List Wk} {a x : Nat} {R : List Nat} : ∀ {D : List Nat}, Ch W a (D ++ x :: R) → Ch W a (x :: R) ∧ Ch W x (D ++ [x]) ∧ hdN (D ++ [x]) = hdN (D ++ x :: R)
  | [], h => ⟨h, rfl, rfl⟩
  | [_], h => ⟨h.2.2, ⟨h.1, h.2.1, rfl⟩, rfl⟩
  | _ :: z' :: D, h => ⟨(Ch.lower (D := z' :: D) h.2.2).1, ⟨h.1, h.2.1, (Ch.lower (D := z' :: D) h.2.2).2.1⟩, rfl⟩
/-- The first step of a chain. -/
theorem Ch.front {W : List Wk} {a : Nat} {c : List Nat} (h : Ch W a c) (hn : hdN c ≠ a) : ∃ k c', c = c' ++ [a] ∧ Ch W k c' ∧ a < k ∧ tchN W a k = true ∧ hdN c' = hdN c := by
  obtain ⟨c', e⟩ := h.last
  rcases List.eq_nil_or_concat c' with rfl | ⟨D, k, rfl⟩
  · rw [e] at hn; exact absurd rfl hn
  · rw [List.concat_eq_append] at e
    subst e
    rw [List.append_assoc] at h
    obtain ⟨h1, h2, h3⟩ := Ch.lower (D := D) (x := k) (R := [a]) h
    exact ⟨k, D ++ [k], rfl, h2, h1.1, h1.2.1, by rw [h3, List.append_assoc]; rfl⟩
/-- How far a work is from b, backwards. -/
def Dist (W : List Wk) (b j m : Nat) : Prop := (m = 0 ∧ NoCh W j b) ∨ (0 < m ∧ (∃ c, Ch W j c ∧ hdN c = b ∧ c.length = m + 1) ∧ ∀ c, Ch W j c → hdN c = b → m + 1 ≤ c.length)
def stepF (W : List Wk) (b : Nat) (F : Nat → Nat) (i k v : Nat) : Nat := if (tchN W i k && (decide (k = b) || decide (0 < F k)) && (decide (v = 0) || decide (F k + 1 < v))) = true then F k + 1 else v
def inF (W : List Wk) (b : Nat) (F : Nat → Nat) (i : Nat) : Nat → Nat
  | 0 => 0
  | n + 1 => stepF W b F i (i + 1 + n) (inF W b F i n)
def tabF (W : List Wk) (b : Nat) : Nat → Nat → Nat
  | 0, _ => 0
  | n + 1, j => if j = b - 1 - n then inF W b (tabF W b n) (b - 1 - n) (n + 1) else tabF W b n j
theorem inF_spec (W : List Wk) (b : Nat) (F : Nat → Nat) (i : Nat) : ∀ n, (inF W b F i n = 0 ∧ ∀ k, i < k → k ≤ i + n → tchN W i k = true → k ≠ b ∧ F k = 0) ∨
    ((∃ k, i < k ∧ k ≤ i + n ∧ tchN W i k = true ∧ (k = b ∨ 0 < F k) ∧ inF W b F i n = F k + 1) ∧ ∀ k, i < k → k ≤ i + n → tchN W i k = true → (k = b ∨ 0 < F k) → inF W b F i n ≤ F k + 1)
  | 0 => .inl ⟨rfl, fun k h1 h2 => by omega⟩
  | n + 1 => by
    have hi : ∀ k, i < k → k ≤ i + (n + 1) → k ≤ i + n ∨ k = i + 1 + n := fun k h1 h2 => by omega
    show (stepF W b F i (i + 1 + n) (inF W b F i n) = 0 ∧ _) ∨ ((∃ k, i < k ∧ k ≤ i + (n + 1) ∧ tchN W i k = true ∧ (k = b ∨ 0 < F k) ∧ stepF W b F i (i + 1 + n) (inF W b F i n) = F k + 1) ∧ ∀ k, i < k → k ≤ i + (n + 1) → tchN W i k = true → (k = b ∨ 0 < F k) → stepF W b F i (i + 1 + n) (inF W b F i n) ≤ F k + 1)
    unfold stepF
    by_cases c : (tchN W i (i + 1 + n) && (decide (i + 1 + n = b) || decide (0 < F (i + 1 + n))) && (decide (inF W b F i n = 0) || decide (F (i + 1 + n) + 1 < inF W b F i n))) = true
    · rw [if_pos c]
      simp only [Bool.and_eq_true, Bool.or_eq_true, decide_eq_true_eq] at c
      right
      refine ⟨⟨i + 1 + n, by omega, by omega, c.1.1, c.1.2, rfl⟩, fun k h1 h2 h3 h4 => ?_⟩
      rcases hi k h1 h2 with h | h
      · rcases inF_spec W b F i n with ⟨g1, g2⟩ | ⟨_, g2⟩
        · have := g2 k h1 h h3
          omega
        · have := g2 k h1 h h3 h4
          have := c.2
          omega
      · subst h; exact Nat.le_refl _
    · rw [if_neg c]
      simp only [Bool.and_eq_true, Bool.or_eq_true, decide_eq_true_eq] at c
      rcases inF_spec W b F i n with ⟨g1, g2⟩ | ⟨⟨k, h1, h2, h3, h4, h5⟩, g2⟩
      · left
        refine ⟨g1, fun k h1 h2 h3 => ?_⟩
        rcases hi k h1 h2 with h | h
        · exact g2 k h1 h h3
        · subst h
          by_cases q : i + 1 + n = b ∨ 0 < F (i + 1 + n)
          · exact absurd ⟨⟨h3, q⟩, .inl g1⟩ c
          · omega
      · right
        refine ⟨⟨k, h1, by omega, h3, h4, h5⟩, fun k' h1' h2' h3' h4' => ?_⟩
        rcases hi k' h1' h2' with h | h
        · exact g2 k' h1' h h3' h4'
        · subst h
          by_cases q : F (i + 1 + n) + 1 < inF W b F i n
          · exact absurd ⟨⟨h3', h4'⟩, .inr q⟩ c
          · omega
theorem dist_next {W : List Wk} {b i : Nat} {F : Nat → Nat} (hib : i < b) (hF : ∀ k, i < k → k < b → Dist W b k (F k)) (hb : F b = 0) : Dist W b i (inF W b F i (b - i)) := by
  have dk : ∀ k, i < k → k ≤ b → (k = b ∨ 0 < F k) → (∃ c, Ch W k c ∧ hdN c = b ∧ c.length = F k + 1) ∧ ∀ c, Ch W k c → hdN c = b → F k + 1 ≤ c.length := fun k h1 h2 h3 => by
    by_cases e : k = b
    · subst e
      rw [hb]
      exact ⟨⟨[k], rfl, rfl, rfl⟩, fun c hc _ => hc.ne⟩
    · rcases hF k h1 (by omega) with ⟨h, _⟩ | ⟨_, h⟩
      · omega
      · exact h
  have fr : ∀ c, Ch W i c → hdN c = b → ∃ k c', c = c' ++ [i] ∧ Ch W k c' ∧ i < k ∧ k ≤ b ∧ tchN W i k = true ∧ hdN c' = b ∧ (k = b ∨ 0 < F k) := fun c hc e => by
    obtain ⟨k, c', h1, h2, h3, h4, h5⟩ := hc.front (by omega)
    have hkb := h2.ge
    refine ⟨k, c', h1, h2, h3, by omega, h4, by omega, ?_⟩
    by_cases e2 : k = b
    · exact .inl e2
    · rcases hF k h3 (by omega) with ⟨_, h⟩ | ⟨h, _⟩
      · exact absurd (h5.trans e) (h c' h2)
      · exact .inr h
  rcases inF_spec W b F i (b - i) with ⟨h1, h2⟩ | ⟨⟨k, h1, h2, h3, h4, h5⟩, h6⟩
  · left
    refine ⟨h1, fun c hc e => ?_⟩
    obtain ⟨k, c', g1, g2, g3, g4, g5, g6, g7⟩ := fr c hc e
    have := h2 k g3 (by omega) g5
    omega
  · right
    rw [h5]
    refine ⟨by omega, ?_, fun c hc e => ?_⟩
    · obtain ⟨⟨c, c1, c2, c3⟩, _⟩ := dk k h1 (by omega) h4
      have hi : Ch W i [i] := rfl
      obtain ⟨a1, a2⟩ := Ch.app (P := []) hi h1 h3 c1
      exact ⟨c ++ [i], a1, a2.trans c2, by rw [List.length_append, c3]; rfl⟩
    · obtain ⟨k', c', g1, g2, g3, g4, g5, g6, g7⟩ := fr c hc e
      have h := h6 k' g3 (by omega) g5 g7
      have := (dk k' g3 g4 g7).2 c' g2 g6
      rw [g1, List.length_append, List.length_singleton]
      omega
theorem tabF_spec (W : List Wk) (b : Nat) : ∀ n, n ≤ b → (∀ k, b - n ≤ k → k < b → Dist W b k (tabF W b n k)) ∧ ∀ k, k < b - n ∨ b ≤ k → tabF W b n k = 0
  | 0, _ => ⟨fun k h1 h2 => by omega, fun k _ => rfl⟩
  | n + 1, hn => by
    obtain ⟨h1, h2⟩ := tabF_spec W b n (by omega)
    have hd := dist_next (W := W) (b := b) (i := b - 1 - n) (F := tabF W b n) (by omega) (fun k g1 g2 => h1 k (by omega) g2) (h2 b (.inr (Nat.le_refl _)))
    rw [show b - (b - 1 - n) = n + 1 by omega] at hd
    refine ⟨fun k g1 g2 => ?_, fun k g => ?_⟩
    · show Dist W b k (if k = b - 1 - n then _ else _)
      by_cases e : k = b - 1 - n
      · rw [if_pos e, e]; exact hd
      · rw [if_neg e]; exact h1 k (by omega) g2
    · show (if k = b - 1 - n then _ else _) = 0
      rw [if_neg (by omega)]
      exact h2 k (by omega)
theorem dist_least {W : List Wk} {b j m : Nat} {c : List Nat} (h : Dist W b j m) (hc : Ch W j c) (e : hdN c = b) (hm : ∀ c', Ch W j c' → hdN c' = b → c.length ≤ c'.length) : c.length = m + 1 := by
  rcases h with ⟨_, h⟩ | ⟨_, ⟨c', h1, h2, h3⟩, h4⟩
  · exact absurd e (h c hc)
  · have := hm c' h1 h2
    have := h4 c hc e
    omega
/-- What the reference looks for: the next work of a chain. -/
def goB (W : List Wk) (b : Nat) (F : Nat → Nat) (y k : Nat) : Bool := tchN W y k && decide (F k + 1 = F y) && (decide (k = b) || decide (0 < F k))
theorem greedy {W : List Wk} {a b x y : Nat} {F : Nat → Nat} {D P : List Nat} (hL : Least W a b (D ++ x :: y :: P)) (hF : ∀ k, a ≤ k → k < b → Dist W b k (F k)) (hb : F b = 0) :
    goB W b F y x = true ∧ y < x ∧ x ≤ b ∧ ∀ k, y < k → k < x → goB W b F y k = false := by
  obtain ⟨h1, h2, h3⟩ := hL
  obtain ⟨l1, l2, l3⟩ := Ch.lower h1
  have l3 := l3.trans h2
  have hxy := l1.1
  have ht := l1.2.1
  have hP := l1.2.2
  have hxb : x ≤ b := by have := l2.ge; omega
  have hya := hP.ge
  have hya : a ≤ y := hya
  have minx : ∀ E, Ch W x E → hdN E = b → (D ++ [x]).length ≤ E.length := fun E hE e => by
    obtain ⟨g1, g2⟩ := Ch.app hP hxy ht hE
    have := slt_le_len (h3 _ g1 (g2.trans e))
    simp only [List.length_append, List.length_cons, List.length_nil] at this ⊢
    omega
  have hfx : F x = D.length := by
    by_cases e : x = b
    · subst e
      rw [hb]
      have := minx [x] rfl rfl
      simp only [List.length_append, List.length_cons, List.length_nil] at this
      omega
    · have := dist_least (hF x (by omega) (by omega)) l2 l3 minx
      simp only [List.length_append, List.length_cons, List.length_nil] at this
      omega
  have hi : Ch W y [y] := rfl
  obtain ⟨y1, y2⟩ := Ch.app (P := []) hi hxy ht l2
  have hfy : F y = D.length + 1 := by
    have := dist_least (hF y hya (by omega)) y1 (y2.trans l3) (fun E hE e => by
      obtain ⟨k, E', g1, g2, g3, g4, g5⟩ := hE.front (by omega)
      obtain ⟨q1, q2⟩ := Ch.app hP g3 g4 g2
      have := slt_le_len (h3 _ q1 (q2.trans (g5.trans e)))
      rw [g1]
      simp only [List.length_append, List.length_cons, List.length_nil] at this ⊢
      omega)
    simp only [List.length_append, List.length_cons, List.length_nil] at this
    omega
  refine ⟨?_, hxy, hxb, fun k k1 k2 => ?_⟩
  · unfold goB
    rw [ht, hfx, hfy]
    by_cases e : x = b
    · simp [e]
    · have : 0 < F x := by
        rcases hF x (by omega) (by omega) with ⟨_, h⟩ | ⟨h, _⟩
        · exact absurd l3 (h _ l2)
        · exact h
      simp
      omega
  · rw [Bool.eq_false_iff]
    intro g
    unfold goB at g
    simp only [Bool.and_eq_true, Bool.or_eq_true, decide_eq_true_eq] at g
    obtain ⟨⟨g1, g2⟩, g3⟩ := g
    rcases hF k (by omega) (by omega) with ⟨g4, _⟩ | ⟨_, ⟨E, e1, e2, e3⟩, _⟩
    · omega
    · obtain ⟨q1, q2⟩ := Ch.app hP k1 g1 e1
      obtain ⟨E', rfl⟩ := e1.last
      have hs : slt ((E' ++ [k]) ++ (y :: P)) ((D ++ [x]) ++ (y :: P)) := slt_app _ (slt_last k2 (by simp only [List.length_append, List.length_cons, List.length_nil] at e3; omega))
      rw [List.append_assoc D] at hs
      exact slt_not_sle hs (h3 _ q1 (q2.trans e2))
end Go.Proofs.Ytenfeekchggioaa
