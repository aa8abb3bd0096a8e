/- Plain facts on the reference's texts: they are the items' texts; the best text, step by step. -/
import Derived.Test.YtkbmdmipdcjjcaaGreatDoorRF
namespace Go.Proofs.YtkbmdmipdcjjcaaGreatDoor
open Go.RowKit

theorem drop_getD (zs : List Int) (i j : Nat) : (zs.drop i).getD j 0 = zs.getD (i + j) 0 := by
  rw [List.getD_eq_getElem?_getD, List.getD_eq_getElem?_getD, List.getElem?_drop]
theorem upT_iff (ys : List Int) (k : Nat) : upT ys k = true ↔ ∀ j, j < k → ys.getD j 0 = ys.getD 0 0 + (j : Int) := by unfold upT; exact decide_eq_true_iff
theorem eqT_iff (ys : List Int) (k : Nat) : eqT ys k = true ↔ ∀ j, j < k → ys.getD j 0 = ys.getD 0 0 := by unfold eqT; exact decide_eq_true_iff
theorem upP_iff (zs : List Int) (j : Nat) : upP zs j = true ↔ j < zs.length ∧ zs.getD j 0 = zs.getD (j - 1) 0 + 1 := by unfold upP; simp
theorem eqP_iff (zs : List Int) (i j : Nat) : eqP zs i j = true ↔ j < zs.length ∧ zs.getD j 0 = zs.getD i 0 := by unfold eqP; simp
theorem up_to (zs : List Int) (i m : Nat) (hi : i + (m + 1) < zs.length) (h : upT (zs.drop i) (m + 1 + 1) = true) : m < upN zs i := by
  rw [upT_iff] at h
  refine lt_cntP _ _ _ (by omega) (fun t ht => ?_)
  rw [upP_iff]
  have h1 := h (t + 1) (by omega)
  have h2 := h t (by omega)
  rw [drop_getD, drop_getD] at h1 h2
  refine ⟨by omega, ?_⟩
  rw [show i + 1 + t = i + (t + 1) by omega, show i + (t + 1) - 1 = i + t by omega, h1, h2]
  omega
theorem up_of (zs : List Int) (i m : Nat) (h : m < upN zs i) : i + (m + 1) < zs.length ∧ upT (zs.drop i) (m + 1 + 1) = true := by
  have hp := cntP_lt _ _ _ h
  refine ⟨by have := ((upP_iff _ _).1 (hp m (Nat.le_refl _))).1; omega, ?_⟩
  rw [upT_iff]
  intro j
  induction j with
  | zero => intro _; simp
  | succ j ih =>
    intro hj
    have h1 := ih (by omega)
    have h2 := ((upP_iff _ _).1 (hp j (by omega))).2
    rw [drop_getD, drop_getD] at h1 ⊢
    rw [show i + 1 + j = i + (j + 1) by omega, show i + (j + 1) - 1 = i + j by omega] at h2
    rw [h2, h1]
    omega
theorem eq_to (zs : List Int) (i m : Nat) (hi : i + (m + 1) < zs.length) (h : eqT (zs.drop i) (m + 1 + 1) = true) : m < eqN zs i := by
  rw [eqT_iff] at h
  refine lt_cntP _ _ _ (by omega) (fun t ht => ?_)
  rw [eqP_iff]
  have h1 := h (t + 1) (by omega)
  rw [drop_getD, drop_getD] at h1
  exact ⟨by omega, by rw [show i + 1 + t = i + (t + 1) by omega, h1]; rfl⟩
theorem eq_of (zs : List Int) (i m : Nat) (h : m < eqN zs i) : i + (m + 1) < zs.length ∧ eqT (zs.drop i) (m + 1 + 1) = true := by
  have hp := cntP_lt _ _ _ h
  refine ⟨by have := ((eqP_iff _ _ _).1 (hp m (Nat.le_refl _))).1; omega, ?_⟩
  rw [eqT_iff]
  intro j hj
  rw [drop_getD, drop_getD, Nat.add_zero]
  cases j with
  | zero => rfl
  | succ j =>
    have h2 := ((eqP_iff _ _ _).1 (hp j (by omega))).2
    rw [show i + (j + 1) = i + 1 + j by omega, h2]
theorem tx_mem {zs : List Int} {i m : Nat} {t : ByteArray} (hi : i + m < zs.length) (h : txO (zs.drop i) m = some t) : (t, i + m + 1) ∈ itL zs i := by
  unfold txO at h
  unfold itL
  by_cases hm : m = 0
  · rw [if_pos hm] at h
    cases h
    subst hm
    rw [drop_getD]
    exact List.mem_cons_self
  · obtain ⟨q, rfl⟩ : ∃ q, m = q + 1 := ⟨m - 1, by omega⟩
    rw [if_neg hm] at h
    by_cases hu : upT (zs.drop i) (q + 1 + 1) = true
    · rw [if_pos hu] at h
      cases h
      refine List.mem_cons_of_mem _ (List.mem_append_left _ (List.mem_map.2 ⟨q, List.mem_range.2 (up_to zs i q hi hu), ?_⟩))
      rw [drop_getD, drop_getD, Nat.add_zero]
      unfold upI upS
      rw [show i + 1 + q = i + (q + 1) by omega]
    · rw [if_neg hu] at h
      by_cases he : eqT (zs.drop i) (q + 1 + 1) = true
      · rw [if_pos he] at h
        cases h
        refine List.mem_cons_of_mem _ (List.mem_append_right _ (List.mem_map.2 ⟨q, List.mem_range.2 (eq_to zs i q hi he), ?_⟩))
        rw [drop_getD]
        unfold eqI eqS
        rw [show i + 1 + q = i + (q + 1) by omega, show ((i + (q + 1) : Nat) : Int) - (i : Int) + 1 = ((q + 1 : Nat) : Int) + 1 by omega]
        rfl
      · rw [if_neg he] at h; cases h
theorem mem_tx {zs : List Int} {i : Nat} {y : ByteArray × Nat} (h : y ∈ itL zs i) : ∃ m, y.2 = i + m + 1 ∧ txO (zs.drop i) m = some y.1 := by
  unfold itL at h
  rcases List.mem_cons.1 h with rfl | h
  · exact ⟨0, rfl, by unfold txO firstI; rw [if_pos rfl, drop_getD]; rfl⟩
  · rcases List.mem_append.1 h with h | h
    · obtain ⟨q, hq, rfl⟩ := List.mem_map.1 h
      obtain ⟨_, h2⟩ := up_of zs i q (List.mem_range.1 hq)
      refine ⟨q + 1, by unfold upI; simp only; omega, ?_⟩
      unfold txO
      rw [if_neg (by omega), if_pos h2, drop_getD, drop_getD, Nat.add_zero]
      unfold upI upS
      rw [show i + 1 + q = i + (q + 1) by omega]
    · obtain ⟨q, hq, rfl⟩ := List.mem_map.1 h
      obtain ⟨_, h2⟩ := eq_of zs i q (List.mem_range.1 hq)
      refine ⟨q + 1, by unfold eqI; simp only; omega, ?_⟩
      have h3 : ¬ upT (zs.drop i) (q + 1 + 1) = true := by
        intro e
        have e1 := (upT_iff _ _).1 e 1 (by omega)
        have e2 := (eqT_iff _ _).1 h2 1 (by omega)
        omega
      unfold txO
      rw [if_neg (by omega), if_neg h3, if_pos h2, drop_getD]
      unfold eqI eqS
      rw [show i + 1 + q = i + (q + 1) by omega, show ((i + (q + 1) : Nat) : Int) - (i : Int) + 1 = ((q + 1 : Nat) : Int) + 1 by omega]
      rfl
theorem tx_none {ys : List Int} {q m : Nat} (h : txO ys q = none) (hm : q ≤ m) : txO ys m = none := by
  unfold txO at h ⊢
  by_cases h0 : q = 0
  · rw [if_pos h0] at h; cases h
  · rw [if_neg h0] at h
    by_cases hu : upT ys (q + 1) = true
    · rw [if_pos hu] at h; cases h
    · rw [if_neg hu] at h
      by_cases he : eqT ys (q + 1) = true
      · rw [if_pos he] at h; cases h
      · rw [if_neg (by omega), if_neg (fun e => hu ((upT_iff _ _).2 fun j hj => (upT_iff _ _).1 e j (by omega))), if_neg (fun e => he ((eqT_iff _ _).2 fun j hj => (eqT_iff _ _).1 e j (by omega)))]
/-- The text that begins with just so many numbers. -/
def cnd (zs : List Int) (T : Nat → ByteArray) (i m : Nat) (t : ByteArray) : ByteArray := if i + m + 1 < zs.length then t ++ ⟨#[44]⟩ ++ T (i + m + 1) else t
structure BestR (zs : List Int) (i : Nat) (B : ByteArray) : Prop where
  made : ∃ (x : NItm) (r : List NItm), (∀ y ∈ x :: r, good y) ∧ txt (x :: r) = B.data.toList ∧ expN (x :: r) = zs.drop i
  least : ∀ ys : List NItm, (∀ y ∈ ys, good y) → expN ys = zs.drop i → leB B.data.toList (txt ys)
/-- What is the best one among the first q. -/
def CI (zs : List Int) (T : Nat → ByteArray) (i q : Nat) (cur : ByteArray) : Prop :=
  (q = 0 ∧ cur = ⟨#[]⟩) ∨ (cur.size ≠ 0 ∧ (∃ m t, m < q ∧ txO (zs.drop i) m = some t ∧ cur = cnd zs T i m t) ∧ ∀ m t, m < q → txO (zs.drop i) m = some t → leB cur.data.toList (cnd zs T i m t).data.toList)
theorem tx_item {zs : List Int} (hz : ∀ z ∈ zs, 0 ≤ z ∧ z ≤ 9999) (hlen : zs.length ≤ 500) {i m : Nat} {t : ByteArray} (hi : i + m < zs.length) (h : txO (zs.drop i) m = some t) :
    ∃ x : NItm, good x ∧ t.data.toList = itext x ∧ numN x = m + 1 ∧ expN [x] ++ zs.drop (i + m + 1) = zs.drop i := by
  obtain ⟨x, hg, ht, hn, _, hd⟩ := item_mem hz hlen (by omega) (tx_mem hi h)
  have hn' : i + m + 1 = i + numN x := hn
  exact ⟨x, hg, ht, by omega, by rw [hn']; exact hd⟩
theorem cnd_data (zs : List Int) (T : Nat → ByteArray) (i m : Nat) (t : ByteArray) : (cnd zs T i m t).data.toList = if i + m + 1 < zs.length then t.data.toList ++ 44 :: (T (i + m + 1)).data.toList else t.data.toList := by
  unfold cnd
  split
  · rw [app_data, app_data, List.append_assoc]; rfl
  · rfl
theorem ci_next {zs : List Int} {T : Nat → ByteArray} {i q : Nat} {cur t s : ByteArray} (h : CI zs T i q cur) (ht : txO (zs.drop i) q = some t) (hs : s = cnd zs T i q t) (hne : s.size ≠ 0) :
    CI zs T i (q + 1) (if cur.size = 0 ∨ ltB s.data.toList cur.data.toList = true then s else cur) := by
  rcases h with ⟨rfl, rfl⟩ | ⟨h1, ⟨m0, t0, h2, h3, h4⟩, h5⟩
  · rw [if_pos (Or.inl (show (ByteArray.mk #[]).size = 0 from rfl))]
    refine Or.inr ⟨hne, ⟨0, t, by omega, ht, hs⟩, fun m t' hm ht' => ?_⟩
    obtain rfl : m = 0 := by omega
    rw [ht] at ht'
    cases ht'
    rw [hs]
    exact leB_refl _
  · by_cases hl : ltB s.data.toList cur.data.toList = true
    · rw [if_pos (Or.inr hl)]
      refine Or.inr ⟨hne, ⟨q, t, by omega, ht, hs⟩, fun m t' hm ht' => ?_⟩
      by_cases e : m = q
      · subst e
        rw [ht] at ht'
        cases ht'
        rw [hs]
        exact leB_refl _
      · exact leB_trans (leB_of hl) (h5 m t' (by omega) ht')
    · rw [if_neg (by rintro (e | e); exact h1 e; exact hl e)]
      refine Or.inr ⟨h1, ⟨m0, t0, by omega, h3, h4⟩, fun m t' hm ht' => ?_⟩
      by_cases e : m = q
      · subst e
        rw [ht] at ht'
        cases ht'
        rw [← hs]
        unfold leB
        exact Bool.eq_false_iff.2 hl
      · exact h5 m t' (by omega) ht'
theorem ci_done {zs : List Int} (hz : ∀ z ∈ zs, 0 ≤ z ∧ z ≤ 9999) (hlen : zs.length ≤ 500) {T : Nat → ByteArray} {i q : Nat} {cur : ByteArray} (hi : i < zs.length) (hq : i + q ≤ zs.length) (h : CI zs T i q cur)
    (hT : ∀ j, i < j → j < zs.length → BestR zs j (T j)) (hend : i + q = zs.length ∨ txO (zs.drop i) q = none) : BestR zs i cur := by
  have q0 : q ≠ 0 := by
    rintro rfl
    rcases hend with e | e
    · omega
    · unfold txO at e; rw [if_pos rfl] at e; cases e
  rcases h with ⟨e, _⟩ | ⟨h1, ⟨m0, t0, h2, h3, h4⟩, h5⟩
  · exact absurd e q0
  · refine ⟨?_, fun ys hys he => ?_⟩
    · obtain ⟨x, hg, ht, hn, hd⟩ := tx_item hz hlen (by omega) h3
      have hc := cnd_data zs T i m0 t0
      rw [← h4, ht] at hc
      by_cases hl : i + m0 + 1 < zs.length
      · rw [if_pos hl] at hc
        obtain ⟨x', r', hg', ht', hd'⟩ := (hT _ (by omega) hl).made
        refine ⟨x, x' :: r', fun y hy => ?_, ?_, ?_⟩
        · rcases List.mem_cons.1 hy with rfl | hy
          · exact hg
          · exact hg' y hy
        · rw [hc, txt_cons, ht']
        · rw [exp_cons, hd', hd]
      · rw [if_neg hl] at hc
        refine ⟨x, [], fun y hy => by rw [List.mem_singleton.1 hy]; exact hg, hc.symm, ?_⟩
        rw [List.drop_eq_nil_of_le (show zs.length ≤ i + m0 + 1 by omega), List.append_nil] at hd
        exact hd
    · cases ys with
      | nil =>
        exfalso
        have e1 := congrArg List.length he
        rw [List.length_drop] at e1
        have e2 : (expN []).length = 0 := rfl
        omega
      | cons x' r' =>
        have hg' := hys x' (by simp)
        obtain ⟨y, hy, t1, t2⟩ := mem_items hg'.1 he
        obtain ⟨m, hm, htx⟩ := mem_tx hy
        obtain ⟨hle, _, hr⟩ := drop_cons hg'.1 he
        have hmq : m < q := by
          rcases Nat.lt_or_ge m q with h | h
          · exact h
          · exfalso
            rcases hend with e | e
            · omega
            · rw [tx_none e h] at htx; cases htx
        refine leB_trans (h5 m _ hmq htx) ?_
        rw [cnd_data, t1]
        have hnm : i + m + 1 = i + numN x' := by omega
        rw [hnm]
        by_cases hl : i + numN x' < zs.length
        · rw [if_pos hl]
          have hmin := (hT _ (by have := numN_pos hg'.1; omega) hl).least r' (fun z hz' => hys z (by simp [hz'])) hr
          cases r' with
          | nil =>
            exfalso
            have e1 := congrArg List.length hr
            rw [List.length_drop] at e1
            have e2 : (expN []).length = 0 := rfl
            omega
          | cons y2 r3 =>
            rw [txt_cons]
            have := leB_app (itext x' ++ [44]) hmin
            rw [List.append_assoc, List.append_assoc] at this
            exact this
        · rw [if_neg hl]
          rw [List.drop_eq_nil_of_le (by omega)] at hr
          have hr0 := exp_nil_of (fun z hz' => hys z (by simp [hz'])) hr
          subst hr0
          exact leB_refl _
theorem best_list {zs : List Int} (hz : ∀ z ∈ zs, 0 ≤ z ∧ z ≤ 9999) (hlen : zs.length ≤ 500) {B : ByteArray} (hB : BestR zs 0 B) : B.data.toList = listS zs := by
  obtain ⟨p1, p2, p3⟩ := list_main hz hlen
  obtain ⟨us, ga, ta, ea, sa, _⟩ := par_good p1
  have h1 := hB.least us ga (by rw [ea]; rfl)
  rw [ta] at h1
  obtain ⟨x, r, hg, ht, hd⟩ := hB.made
  have hl := leB_len h1
  have hpar : parP B.data.toList = (zs, 0) := by
    rw [← ht]
    have hsum : sumN (x :: r) ≤ 500 := by rw [← expN_length, hd]; exact hlen
    rw [par_txt _ hg hsum (by rw [ht]; omega), hd]
    rfl
  have h2 := p3 _ hpar
  rcases ltB_tri B.data.toList (listS zs) with e | e | e
  · unfold leB at h2; rw [h2] at e; cases e
  · exact e
  · unfold leB at h1; rw [h1] at e; cases e
theorem best_size {zs : List Int} (hz : ∀ z ∈ zs, 0 ≤ z ∧ z ≤ 9999) {i : Nat} {B : ByteArray} (hB : BestR zs i B) : B.size ≤ 5 * zs.length := by
  have hz' : ∀ z ∈ zs.drop i, 0 ≤ z ∧ z ≤ 9999 := fun z h => hz z (List.mem_of_mem_drop h)
  have h1 := leB_len (hB.least (singles (zs.drop i)) (singles_good hz') (singles_exp hz'))
  have h2 := singles_len hz'
  rw [size_len] at h1
  rw [List.length_drop] at h2
  omega
end Go.Proofs.YtkbmdmipdcjjcaaGreatDoor
