/- Plain facts on the text of a list: no text that is read as the list comes before it. -/
import Derived.Test.YtkbmdmipdcjjcaaGreatDoorLT
namespace Go.Proofs.YtkbmdmipdcjjcaaGreatDoor
open Go.RowKit

theorem step_pick {T : Nat → ByteArray} {b : ByteArray} {x : ByteArray × Nat} (hb : b.size ≠ 0) : (stepB T b x = b ∨ stepB T b x = x.1 ++ T x.2) ∧ leB (stepB T b x).data.toList b.data.toList ∧ leB (stepB T b x).data.toList (x.1 ++ T x.2).data.toList := by
  unfold stepB
  rw [if_neg hb]
  cases h : ltB (x.1 ++ T x.2).data.toList b.data.toList with
  | true => rw [if_pos rfl]; exact ⟨Or.inr rfl, leB_of h, leB_refl _⟩
  | false => rw [if_neg (by simp)]; exact ⟨Or.inl rfl, leB_refl _, h⟩
theorem fold_pick {T : Nat → ByteArray} : ∀ (l : List (ByteArray × Nat)) (b : ByteArray), b.size ≠ 0 → (∀ x ∈ l, (x.1 ++ T x.2).size ≠ 0) →
    (l.foldl (stepB T) b = b ∨ ∃ x ∈ l, l.foldl (stepB T) b = x.1 ++ T x.2) ∧ leB (l.foldl (stepB T) b).data.toList b.data.toList ∧ ∀ y ∈ l, leB (l.foldl (stepB T) b).data.toList (y.1 ++ T y.2).data.toList
  | [], b, _, _ => ⟨Or.inl rfl, leB_refl _, fun y hy => by simp at hy⟩
  | x :: l, b, hb, hx => by
    obtain ⟨h1, h2, h3⟩ := step_pick (T := T) (x := x) hb
    have hne : (stepB T b x).size ≠ 0 := by
      rcases h1 with h1 | h1
      · rw [h1]; exact hb
      · rw [h1]; exact hx x (by simp)
    obtain ⟨k1, k2, k3⟩ := fold_pick (T := T) l (stepB T b x) hne (fun y hy => hx y (by simp [hy]))
    rw [List.foldl_cons]
    refine ⟨?_, leB_trans k2 h2, fun y hy => ?_⟩
    · rcases k1 with k1 | ⟨y, hy, k1⟩
      · rcases h1 with h1 | h1
        · exact Or.inl (k1.trans h1)
        · exact Or.inr ⟨x, by simp, k1.trans h1⟩
      · exact Or.inr ⟨y, by simp [hy], k1⟩
    · rcases List.mem_cons.1 hy with rfl | hy
      · exact leB_trans k2 h3
      · exact k3 y hy
theorem best_pick {T : Nat → ByteArray} {l : List (ByteArray × Nat)} (hl : l ≠ []) (hx : ∀ x ∈ l, (x.1 ++ T x.2).size ≠ 0) :
    (∃ x ∈ l, bestOf T l = x.1 ++ T x.2) ∧ ∀ y ∈ l, leB (bestOf T l).data.toList (y.1 ++ T y.2).data.toList := by
  cases l with
  | nil => exact absurd rfl hl
  | cons x l =>
    have e : bestOf T (x :: l) = l.foldl (stepB T) (x.1 ++ T x.2) := by
      unfold bestOf
      rw [List.foldl_cons]
      congr 1
    obtain ⟨k1, k2, k3⟩ := fold_pick (T := T) l (x.1 ++ T x.2) (hx x (by simp)) (fun y hy => hx y (by simp [hy]))
    rw [e]
    refine ⟨?_, fun y hy => ?_⟩
    · rcases k1 with k1 | ⟨y, hy, k1⟩
      · exact ⟨x, by simp, k1⟩
      · exact ⟨y, by simp [hy], k1⟩
    · rcases List.mem_cons.1 hy with rfl | hy
      · exact k2
      · exact k3 y hy

theorem cntP_lt {p : Nat → Bool} : ∀ (f j m : Nat), m < cntP p f j → ∀ t, t ≤ m → p (j + t) = true
  | 0, j, m, h, t, ht => by simp [cntP] at h
  | f + 1, j, m, h, t, ht => by
    unfold cntP at h
    by_cases hp : p j = true
    · rw [if_pos hp] at h
      cases t with
      | zero => exact hp
      | succ t =>
        have := cntP_lt (p := p) f (j + 1) (m - 1) (by omega) t (by omega)
        rwa [show j + 1 + t = j + (t + 1) by omega] at this
    · rw [if_neg hp] at h; omega
theorem lt_cntP {p : Nat → Bool} : ∀ (f j m : Nat), m < f → (∀ t, t ≤ m → p (j + t) = true) → m < cntP p f j
  | 0, j, m, h, _ => by omega
  | f + 1, j, m, h, hp => by
    unfold cntP
    rw [if_pos (show p j = true from hp 0 (by omega))]
    cases m with
    | zero => omega
    | succ m =>
      have := lt_cntP (p := p) f (j + 1) m (by omega) (fun t ht => by have := hp (t + 1) (by omega); rwa [show j + (t + 1) = j + 1 + t by omega] at this)
      omega

theorem run_one (b : Nat) : ∀ k : Nat, runN 1 k b = (List.range k).map fun t => ((b + t : Nat) : Int)
  | 0 => rfl
  | k + 1 => by rw [runN_snoc, run_one b k, List.range_succ, List.map_append]; rfl
theorem run_same (a b : Nat) : runN a 1 b = List.replicate a (b : Int) := by
  rw [runN_snoc]; rfl
/-- The t-th number of an item. -/
def valN (x : NItm) (t : Nat) : Nat := if x.1 = 1 then x.2.1 + t else x.2.1
theorem exp_one {x : NItm} (hv : vI x) : expN [x] = (List.range (numN x)).map fun t => (valN x t : Int) := by
  obtain ⟨a, b, c⟩ := x
  show runN a (c - b + 1) b ++ [] = _
  rw [List.append_nil]
  unfold numN valN
  simp only
  by_cases ha : a = 1
  · subst ha
    rw [run_one, Nat.one_mul]
    simp
  · have hbc : b = c := by
      rcases hv with h | h
      · exact absurd h.1 ha
      · exact h.2
    subst hbc
    rw [show b - b + 1 = 1 by omega, run_same, Nat.mul_one]
    simp only [if_neg ha]
    exact (List.map_const' (l := List.range a) (b := (b : Int))).symm ▸ (by simp)
theorem exp_cons (x : NItm) (r : List NItm) : expN (x :: r) = expN [x] ++ expN r := by simp [expN]
theorem numN_pos {x : NItm} (hv : vI x) : 1 ≤ numN x := by
  obtain ⟨a, b, c⟩ := x
  unfold numN
  simp only
  have : 1 ≤ a := by
    rcases hv with h | h
    · have := h.1; simp only at this; omega
    · have := h.1; simp only at this; omega
  exact Nat.mul_pos this (by omega)
theorem exp_one_len {x : NItm} (hv : vI x) : (expN [x]).length = numN x := by rw [exp_one hv]; simp
theorem drop_cons {zs : List Int} {i : Nat} {x : NItm} {r : List NItm} (hv : vI x) (h : expN (x :: r) = zs.drop i) :
    i + numN x ≤ zs.length ∧ (∀ t, t < numN x → zs.getD (i + t) 0 = (valN x t : Int)) ∧ expN r = zs.drop (i + numN x) := by
  rw [exp_cons] at h
  have hl := congrArg List.length h
  rw [List.length_append, exp_one_len hv, List.length_drop] at hl
  have hp := numN_pos hv
  refine ⟨by omega, fun t ht => ?_, ?_⟩
  · have h1 : (zs.drop i)[t]? = some (valN x t : Int) := by
      rw [← h, List.getElem?_append_left (by rw [exp_one_len hv]; exact ht), exp_one hv]
      simp [ht]
    rw [List.getElem?_drop] at h1
    rw [List.getD_eq_getElem?_getD, h1]; rfl
  · have h2 := congrArg (List.drop (numN x)) h
    rw [List.drop_drop] at h2
    rw [← h2, List.drop_left' (exp_one_len hv)]
theorem numS_dec (n : Nat) : (numS (n : Int)).data.toList = Lib.decDigits n := by
  unfold numS Lib.itoa
  rw [if_neg (by omega)]
  simp
theorem app_data (a b : ByteArray) : (a ++ b).data.toList = a.data.toList ++ b.data.toList := by simp
theorem mem_items {zs : List Int} {i : Nat} {x : NItm} {r : List NItm} (hv : vI x) (h : expN (x :: r) = zs.drop i) : ∃ y ∈ itL zs i, y.1.data.toList = itext x ∧ y.2 = i + numN x := by
  obtain ⟨hle, hval, _⟩ := drop_cons hv h
  have hp := numN_pos hv
  obtain ⟨a, b, c⟩ := x
  have h0 := hval 0 hp
  rw [Nat.add_zero] at h0
  have hv0 : valN (a, b, c) 0 = b := by unfold valN; simp
  rw [hv0] at h0
  unfold itL
  by_cases hbc : b < c
  · have ha : a = 1 := by
      rcases hv with h | h
      · exact h.1
      · have : b = c := h.2; omega
    subst ha
    have hn : numN (1, b, c) = c - b + 1 := by unfold numN; simp
    rw [hn] at hle hval ⊢
    obtain ⟨m, hm⟩ : ∃ m, c = b + 1 + m := ⟨c - b - 1, by omega⟩
    have hcnt : m < upN zs i := by
      refine lt_cntP _ _ _ (by omega) fun t ht => ?_
      unfold upP
      have v1 := hval (1 + t) (by omega)
      have v2 := hval t (by omega)
      have e1 : valN (1, b, c) (1 + t) = b + (1 + t) := by unfold valN; simp
      have e2 : valN (1, b, c) t = b + t := by unfold valN; simp
      rw [e1, show i + (1 + t) = i + 1 + t by omega] at v1
      rw [e2, show i + t = i + 1 + t - 1 by omega] at v2
      rw [v1, v2]
      simp
      omega
    refine ⟨upI zs i m, ?_, ?_, ?_⟩
    · exact List.mem_cons_of_mem _ (List.mem_append_left _ (List.mem_map.2 ⟨m, List.mem_range.2 hcnt, rfl⟩))
    · have v1 := hval (1 + m) (by omega)
      have e1 : valN (1, b, c) (1 + m) = b + (1 + m) := by unfold valN; simp
      rw [e1, show i + (1 + m) = i + 1 + m by omega] at v1
      show (upS zs i (i + 1 + m)).data.toList = _
      unfold upS itext
      rw [h0, v1, app_data, app_data, numS_dec, numS_dec]
      simp only [if_pos hbc]
      rw [hm, show b + (1 + m) = b + 1 + m by omega]
      simp
    · show i + 1 + m + 1 = _
      omega
  · have hbe : b = c := by
      rcases hv with h | h
      · have : b ≤ c := h.2; omega
      · exact h.2
    subst hbe
    have hn : numN (a, b, b) = a := by unfold numN; simp
    rw [hn] at hle hval hp ⊢
    by_cases ha : a = 1
    · subst ha
      refine ⟨firstI zs i, by simp, ?_, rfl⟩
      show (numS (zs.getD i 0)).data.toList = _
      unfold itext
      rw [h0, numS_dec]
      simp
    · have ha2 : 2 ≤ a := by omega
      obtain ⟨m, hm⟩ : ∃ m, a = m + 2 := ⟨a - 2, by omega⟩
      have hcnt : m < eqN zs i := by
        refine lt_cntP _ _ _ (by omega) fun t ht => ?_
        unfold eqP
        have v1 := hval (1 + t) (by omega)
        have e1 : valN (a, b, b) (1 + t) = b := by unfold valN; simp [ha]
        rw [e1, show i + (1 + t) = i + 1 + t by omega] at v1
        rw [v1, h0]
        simp
        omega
      refine ⟨eqI zs i m, ?_, ?_, ?_⟩
      · exact List.mem_cons_of_mem _ (List.mem_append_right _ (List.mem_map.2 ⟨m, List.mem_range.2 hcnt, rfl⟩))
      · show (eqS zs i (i + 1 + m)).data.toList = _
        unfold eqS itext
        rw [h0, show ((i + 1 + m : Nat) : Int) - (i : Int) + 1 = ((a : Nat) : Int) by omega, app_data, app_data, numS_dec, numS_dec]
        simp [ha]
      · show i + 1 + m + 1 = _
        omega
theorem item_mem {zs : List Int} (hz : ∀ z ∈ zs, 0 ≤ z ∧ z ≤ 9999) (hlen : zs.length ≤ 500) {i : Nat} (hi : i < zs.length) {y : ByteArray × Nat} (hy : y ∈ itL zs i) :
    ∃ x : NItm, good x ∧ y.1.data.toList = itext x ∧ y.2 = i + numN x ∧ i + numN x ≤ zs.length ∧ expN [x] ++ zs.drop (i + numN x) = zs.drop i := by
  have hg := getD_bd hz
  have fin : ∀ x : NItm, vI x → i + numN x ≤ zs.length → (∀ t, t < numN x → zs.getD (i + t) 0 = (valN x t : Int)) → expN [x] ++ zs.drop (i + numN x) = zs.drop i := by
    intro x hv hle hval
    have h1 : zs.drop i = (zs.drop i).take (numN x) ++ (zs.drop i).drop (numN x) := (List.take_append_drop _ _).symm
    rw [h1, List.drop_drop]
    congr 1
    rw [exp_one hv]
    apply List.ext_getElem?
    intro t
    by_cases ht : t < numN x
    · have h2 := hval t ht
      rw [List.getD_eq_getElem?_getD, List.getElem?_eq_getElem (by omega)] at h2
      simp only [Option.getD_some] at h2
      have hlt : i + t < zs.length := by omega
      rw [List.getElem?_take_of_lt ht, List.getElem?_drop, show zs[i + t]? = some (zs[i + t]'hlt) from List.getElem?_eq_getElem hlt, h2]
      simp [ht]
    · rw [List.getElem?_eq_none (by simp; omega), List.getElem?_eq_none (by rw [List.length_take]; omega)]
  have hgi := hg i
  obtain ⟨b, hb⟩ : ∃ b : Nat, zs.getD i 0 = b := ⟨(zs.getD i 0).toNat, by omega⟩
  have hb9 : b ≤ 9999 := by omega
  unfold itL at hy
  rcases List.mem_cons.1 hy with rfl | hy
  · have hn : numN (1, b, b) = 1 := by unfold numN; simp
    refine ⟨(1, b, b), ⟨Or.inl ⟨rfl, Nat.le_refl _⟩, by show 1 ≤ 9999; omega, hb9⟩, ?_, by rw [hn]; rfl, by omega, ?_⟩
    · show (numS (zs.getD i 0)).data.toList = _
      rw [hb, numS_dec]
      unfold itext
      simp
    · refine fin _ (Or.inl ⟨rfl, Nat.le_refl _⟩) (by omega) fun t ht => ?_
      obtain rfl : t = 0 := by omega
      rw [Nat.add_zero, hb]
      unfold valN
      simp
  · rcases List.mem_append.1 hy with hy | hy
    · obtain ⟨m, hm, rfl⟩ := List.mem_map.1 hy
      have hm' : m < upN zs i := List.mem_range.1 hm
      have hup := cntP_lt _ _ _ hm'
      have hval : ∀ t, t ≤ m + 1 → i + t < zs.length ∧ zs.getD (i + t) 0 = ((b + t : Nat) : Int) := by
        intro t
        induction t with
        | zero => intro _; exact ⟨hi, by rw [Nat.add_zero, hb]; rfl⟩
        | succ t ih =>
          intro ht
          obtain ⟨_, h2⟩ := ih (by omega)
          have h3 := hup t (by omega)
          unfold upP at h3
          simp only [Bool.and_eq_true, decide_eq_true_eq] at h3
          rw [show i + 1 + t - 1 = i + t by omega, h2] at h3
          refine ⟨by omega, ?_⟩
          rw [show i + (t + 1) = i + 1 + t by omega, h3.2]
          omega
      obtain ⟨hl, hv⟩ := hval (m + 1) (Nat.le_refl _)
      have hc := hg (i + (m + 1))
      have hn : numN (1, b, b + (m + 1)) = m + 2 := by unfold numN; simp only; rw [Nat.one_mul]; omega
      have hvi : vI (1, b, b + (m + 1)) := Or.inl ⟨rfl, by show b ≤ b + (m + 1); omega⟩
      refine ⟨(1, b, b + (m + 1)), ⟨hvi, by show 1 ≤ 9999; omega, by show b + (m + 1) ≤ 9999; omega⟩, ?_, by rw [hn]; show i + 1 + m + 1 = _; omega, by omega, ?_⟩
      · show (upS zs i (i + 1 + m)).data.toList = _
        unfold upS itext
        rw [show i + (m + 1) = i + 1 + m by omega] at hv
        rw [hb, hv, app_data, app_data, numS_dec, numS_dec]
        simp
      · refine fin _ hvi (by omega) fun t ht => ?_
        rw [(hval t (by omega)).2]
        unfold valN
        simp
    · obtain ⟨m, hm, rfl⟩ := List.mem_map.1 hy
      have hm' : m < eqN zs i := List.mem_range.1 hm
      have heq := cntP_lt _ _ _ hm'
      have hval : ∀ t, t ≤ m + 1 → i + t < zs.length ∧ zs.getD (i + t) 0 = (b : Int) := by
        intro t ht
        cases t with
        | zero => exact ⟨hi, by rw [Nat.add_zero, hb]⟩
        | succ t =>
          have h3 := heq t (by omega)
          unfold eqP at h3
          simp only [Bool.and_eq_true, decide_eq_true_eq] at h3
          rw [show i + (t + 1) = i + 1 + t by omega]
          exact ⟨h3.1, by rw [h3.2, hb]⟩
      obtain ⟨hl, _⟩ := hval (m + 1) (Nat.le_refl _)
      have hn : numN (m + 2, b, b) = m + 2 := by unfold numN; simp
      have hvi : vI (m + 2, b, b) := Or.inr ⟨by show 2 ≤ m + 2; omega, rfl⟩
      refine ⟨(m + 2, b, b), ⟨hvi, by show m + 2 ≤ 9999; omega, hb9⟩, ?_, by rw [hn]; show i + 1 + m + 1 = _; omega, by omega, ?_⟩
      · show (eqS zs i (i + 1 + m)).data.toList = _
        unfold eqS itext
        rw [hb, show ((i + 1 + m : Nat) : Int) - (i : Int) + 1 = ((m + 2 : Nat) : Int) by omega, app_data, app_data, numS_dec, numS_dec]
        simp
      · refine fin _ hvi (by omega) fun t ht => ?_
        rw [(hval t (by omega)).2]
        unfold valN
        simp
end Go.Proofs.YtkbmdmipdcjjcaaGreatDoor
