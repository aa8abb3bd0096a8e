/- How often pairs pass through each other: theory. -/
import Derived.Test.YtgbdccoimmkmeaaWC
namespace Go.Proofs.Ytgbdccoimmkmeaa
open Go.RowKit
set_option linter.unusedSimpArgs false
/-- The bytes of a word. -/
def wb (s : ByteArray) : List UInt8 := s.data.toList
def isC (s : ByteArray) : Bool := wb s == [67, 84, 67]
theorem isC_iff (s : ByteArray) : isC s = true ↔ s = sCTC := by
  unfold isC wb
  rw [beq_iff_eq]
  constructor
  · intro h
    obtain ⟨⟨l⟩⟩ := s
    simp only at h
    subst h
    rfl
  · rintro rfl; rfl
/-- The line of pairs, and which ones have passed through each other, the last ones first. -/
def stepP (s : List Nat × List (Nat × Nat)) (x : Wk) : List Nat × List (Nat × Nat) :=
  if isC x.wd = true then
    (((s.1.set x.pl.toNat (s.1.getD (x.pl.toNat + 1) 0)).set (x.pl.toNat + 1) (s.1.getD x.pl.toNat 0)), (s.1.getD (x.pl.toNat + 1) 0, s.1.getD x.pl.toNat 0) :: (s.1.getD x.pl.toNat 0, s.1.getD (x.pl.toNat + 1) 0) :: s.2)
  else s
def runP (s : List Nat × List (Nat × Nat)) (W : List Wk) : List Nat × List (Nat × Nat) := W.foldl stepP s
theorem runP_app (s : List Nat × List (Nat × Nat)) (A B : List Wk) : runP s (A ++ B) = runP (runP s A) B := by unfold runP; rw [List.foldl_append]
theorem runP_log (W : List Wk) : ∀ (l : List Nat) (g : List (Nat × Nat)), runP (l, g) W = ((runP (l, []) W).1, (runP (l, []) W).2 ++ g) := by
  induction W with
  | nil => intro l g; rfl
  | cons x W ih =>
    intro l g
    show runP (stepP (l, g) x) W = ((runP (stepP (l, []) x) W).1, (runP (stepP (l, []) x) W).2 ++ g)
    unfold stepP
    by_cases c : isC x.wd = true
    · rw [if_pos c, if_pos c]
      simp only
      rw [ih, ih _ [_, _]]
      simp
    · rw [if_neg c, if_neg c]
      exact ih l g
theorem runP_none {W : List Wk} (h : ∀ x ∈ W, isC x.wd = false) (s : List Nat × List (Nat × Nat)) : runP s W = s := by
  induction W generalizing s with
  | nil => rfl
  | cons x W ih =>
    show runP (stepP s x) W = s
    unfold stepP
    rw [if_neg (by rw [h x (List.mem_cons_self)]; decide)]
    exact ih (fun y hy => h y (List.mem_cons_of_mem _ hy)) s
theorem isC_T (t : Nat) : isC (sT t) = false := by
  unfold isC wb sT
  match t with
  | 0 => rfl
  | 1 => rfl
  | n + 2 => simp [List.replicate_succ]
theorem legs_none (n t : Nat) : ∀ x ∈ legsL n t, isC x.wd = false := fun x hx => by
  unfold legsL at hx
  split at hx
  · cases hx
  · obtain ⟨k, _, rfl⟩ := List.mem_map.1 hx
    exact isC_T t
def idL (n : Nat) : List Nat := List.range n
/-- How often two pairs have met. -/
def metN (g : List (Nat × Nat)) (i k : Nat) : Nat := g.count (i, k)
theorem spider_run (n t : Nat) : runP (idL (2 * n), []) (spiderL n t) = runP (idL (2 * n), []) (bodyL n ++ bodyL n) := by
  have hp : ∀ s, runP s [⟨(n : Int) - 1, sP⟩] = s := fun s => rfl
  have hg : ∀ s, runP s (legsL n t) = s := fun s => runP_none (legs_none n t) s
  unfold spiderL
  simp only [runP_app, hp, hg]
def spiderB (n : Nat) : Bool := ((runP (idL (2 * n), []) (bodyL n ++ bodyL n)).1 == idL (2 * n)) && (List.range (2 * n)).all fun i => (List.range (2 * n)).all fun k => metN (runP (idL (2 * n), []) (bodyL n ++ bodyL n)).2 i k == (if (decide (i < n) != decide (k < n)) = true then 2 else 0)
theorem spider_all : ∀ n, n < 7 → 1 ≤ n → spiderB n = true := by decide +kernel
def fanB2 (n : Nat) : Bool := ((runP (idL (n + 1), []) (fanL n)).1 == idL (n + 1)) && (List.range (n + 1)).all fun k => k == 0 || metN (runP (idL (n + 1), []) (fanL n)).2 0 k == 2 * (2 * (n - k) + 1)
theorem fan_all : ∀ n, n < 13 → 1 ≤ n → fanB2 n = true := by decide +kernel
def footB (n : Nat) : Bool := ((runP (idL (n + 1), []) (footRow n)).1 == idL (n + 1)) && (List.range n).all fun k => metN (runP (idL (n + 1), []) (footRow n)).2 n k == 2
theorem foot_all : ∀ n, n < 24 → 1 ≤ n → footB n = true := by decide +kernel
theorem repL_succ (m : Nat) (W : List Wk) : repL (m + 1) W = repL m W ++ W := by unfold repL; rw [List.range_succ, List.flatMap_append]; simp
theorem foot_rows {n : Nat} (h1 : 1 ≤ n) (h2 : n < 24) : ∀ m, (runP (idL (n + 1), []) (repL m (footRow n))).1 = idL (n + 1) ∧ ∀ k, k < n → metN (runP (idL (n + 1), []) (repL m (footRow n))).2 n k = 2 * m
  | 0 => ⟨rfl, fun k _ => rfl⟩
  | m + 1 => by
    obtain ⟨g1, g2⟩ := foot_rows h1 h2 m
    have hb := foot_all n h2 h1
    unfold footB at hb
    simp only [Bool.and_eq_true, List.all_eq_true, beq_iff_eq, List.mem_range] at hb
    rw [repL_succ, runP_app, show runP (idL (n + 1), []) (repL m (footRow n)) = (idL (n + 1), (runP (idL (n + 1), []) (repL m (footRow n))).2) from Prod.ext g1 rfl, runP_log]
    refine ⟨hb.1, fun k hk => ?_⟩
    show ((runP (idL (n + 1), []) (footRow n)).2 ++ _).count (n, k) = _
    rw [List.count_append]
    have a := hb.2 k hk
    have b := g2 k hk
    unfold metN at a b
    rw [a, b]
    omega
def millB : Bool := ((runP (idL 4, []) millL).1 == [2, 3, 0, 1]) && (metN (runP (idL 4, []) millL).2 0 2 == 1) && (metN (runP (idL 4, []) millL).2 0 1 == 0)
theorem mill_all : millB = true := by decide +kernel
/-- What passes accepts. -/
def okP (pr : Nat) (x : Wk) : Prop := (0 ≤ x.pl ∧ x.pl ≤ (pr : Int) - 2) ∧ x.wd.size ≤ 16 ∧ (isC x.wd = true ∨ ∀ c ∈ wb x.wd, c = 84 ∨ c = 76 ∨ c = 82 ∨ c = 80)
theorem ok_up {pr n : Nat} {wd : ByteArray} {a : Int} (h0 : 0 ≤ a) (h1 : a + n ≤ (pr : Int) - 1) (hs : wd.size ≤ 16) (hw : isC wd = true ∨ ∀ c ∈ wb wd, c = 84 ∨ c = 76 ∨ c = 82 ∨ c = 80) : ∀ x ∈ upL wd a n, okP pr x := fun x hx => by
  obtain ⟨i, hi, rfl⟩ := List.mem_map.1 hx
  have := List.mem_range.1 hi
  exact ⟨⟨by show 0 ≤ a + (i : Int); omega, by show a + (i : Int) ≤ _; omega⟩, hs, hw⟩
theorem ok_dn {pr n : Nat} {wd : ByteArray} {a : Int} (h0 : (n : Int) ≤ a + 1) (h1 : a ≤ (pr : Int) - 2) (hs : wd.size ≤ 16) (hw : isC wd = true ∨ ∀ c ∈ wb wd, c = 84 ∨ c = 76 ∨ c = 82 ∨ c = 80) : ∀ x ∈ dnL wd a n, okP pr x := fun x hx => by
  obtain ⟨i, hi, rfl⟩ := List.mem_map.1 hx
  have := List.mem_range.1 hi
  exact ⟨⟨by show 0 ≤ a - (i : Int); omega, by show a - (i : Int) ≤ _; omega⟩, hs, hw⟩
theorem wP : ∀ c ∈ wb sP, c = 84 ∨ c = 76 ∨ c = 82 ∨ c = 80 := by intro c hc; simp [wb, sP] at hc; subst hc; decide
theorem wRP : ∀ c ∈ wb sRP, c = 84 ∨ c = 76 ∨ c = 82 ∨ c = 80 := by intro c hc; simp [wb, sRP] at hc; rcases hc with rfl | rfl <;> decide
theorem wLLP : ∀ c ∈ wb sLLP, c = 84 ∨ c = 76 ∨ c = 82 ∨ c = 80 := by intro c hc; simp [wb, sLLP] at hc; rcases hc with rfl | rfl <;> decide
theorem wT (t : Nat) : ∀ c ∈ wb (sT t), c = 84 ∨ c = 76 ∨ c = 82 ∨ c = 80 := by intro c hc; simp [wb, sT] at hc; exact .inl hc.2
theorem ok_legs {n t : Nat} (ht : t ≤ 16) : ∀ x ∈ legsL n t, okP (2 * n) x := fun x hx => by
  unfold legsL at hx
  split at hx
  · cases hx
  · obtain ⟨k, hk, rfl⟩ := List.mem_map.1 hx
    have := List.mem_range.1 hk
    exact ⟨⟨by show 0 ≤ 2 * (k : Int); omega, by show 2 * (k : Int) ≤ _; omega⟩, by show (sT t).data.size ≤ 16; simp [sT]; exact ht, .inr (wT t)⟩
theorem ok_body {n : Nat} (_ : 1 ≤ n) : ∀ x ∈ bodyL n, okP (2 * n) x := fun x hx => by
  obtain ⟨j, hj, hx⟩ := List.mem_flatMap.1 hx
  have := List.mem_range.1 hj
  exact ok_up (by omega) (by omega) (by decide) (.inl rfl) x hx
theorem ok_spider {n t : Nat} (h : 1 ≤ n) (ht : t ≤ 16) : ∀ x ∈ spiderL n t, okP (2 * n) x := fun x hx => by
  unfold spiderL at hx
  simp only [List.mem_append, List.mem_singleton] at hx
  rcases hx with (((hx | hx) | hx) | hx) | hx
  · exact ok_legs ht x hx
  · exact ok_body h x hx
  · subst hx
    exact ⟨⟨by show 0 ≤ (n : Int) - 1; omega, by show (n : Int) - 1 ≤ _; omega⟩, by show sP.size ≤ 16; decide, .inr wP⟩
  · exact ok_body h x hx
  · exact ok_legs ht x hx
theorem ok_fanRow {n k : Nat} (h1 : 1 ≤ k) (h2 : k ≤ n) : ∀ x ∈ fanRowL k, okP (n + 1) x := fun x hx => by
  unfold fanRowL at hx
  simp only [List.mem_append, List.mem_singleton] at hx
  rcases hx with (hx | hx) | hx
  · exact ok_up (by omega) (by omega) (by decide) (.inl rfl) x hx
  · subst hx
    exact ⟨⟨by show 0 ≤ (k : Int) - 1; omega, by show (k : Int) - 1 ≤ _; omega⟩, by show sRP.size ≤ 16; decide, .inr wRP⟩
  · exact ok_dn (by omega) (by omega) (by decide) (.inl rfl) x hx
theorem ok_fan {n : Nat} : ∀ x ∈ fanL n, okP (n + 1) x := fun x hx => by
  unfold fanL at hx
  rcases List.mem_append.1 hx with hx | hx
  · obtain ⟨j, hj, hx⟩ := List.mem_flatMap.1 hx
    have := List.mem_range.1 hj
    exact ok_fanRow (by omega) (by omega) x hx
  · obtain ⟨j, hj, hx⟩ := List.mem_flatMap.1 hx
    have := List.mem_range.1 hj
    exact ok_fanRow (by omega) (by omega) x hx
theorem ok_foot {n m : Nat} (h : 1 ≤ n) : ∀ x ∈ repL m (footRow n), okP (n + 1) x := fun x hx => by
  obtain ⟨_, _, hx⟩ := List.mem_flatMap.1 hx
  unfold footRow at hx
  simp only [List.mem_append, List.mem_singleton] at hx
  rcases hx with (hx | hx) | hx
  · exact ok_dn (by omega) (by omega) (by decide) (.inl rfl) x hx
  · subst hx
    exact ⟨⟨by decide, by show (0 : Int) ≤ _; omega⟩, by decide, .inr wLLP⟩
  · exact ok_up (by omega) (by omega) (by decide) (.inl rfl) x hx
theorem ok_mill : ∀ x ∈ millL, okP 4 x := fun x hx => by
  unfold millL at hx
  simp only [List.mem_cons, List.not_mem_nil, or_false] at hx
  rcases hx with rfl | rfl | rfl | rfl | rfl
  · exact ⟨⟨by decide, by decide⟩, by decide, .inl rfl⟩
  · exact ⟨⟨by decide, by decide⟩, by decide, .inl rfl⟩
  · exact ⟨⟨by decide, by decide⟩, by decide, .inl rfl⟩
  · exact ⟨⟨by decide, by decide⟩, by decide, .inr wP⟩
  · exact ⟨⟨by decide, by decide⟩, by decide, .inl rfl⟩
end Go.Proofs.Ytgbdccoimmkmeaa
