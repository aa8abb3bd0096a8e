/- The text of a list: it is read as the list, and no text that is read as the list comes before it. -/
import Derived.Test.YtkbmdmipdcjjcaaGreatDoorLU
namespace Go.Proofs.YtkbmdmipdcjjcaaGreatDoor
open Go.RowKit

theorem exp_nil_of {xs : List NItm} (h : ∀ x ∈ xs, good x) (he : expN xs = []) : xs = [] := by
  cases xs with
  | nil => rfl
  | cons x r =>
    have hv := (h x (by simp)).1
    have h1 := congrArg List.length he
    rw [exp_cons, List.length_append, exp_one_len hv] at h1
    have := numN_pos hv
    simp at h1
    omega
/-- What the best texts hold, when the last m of them are made. -/
structure Best (zs : List Int) (T : Nat → ByteArray) (j : Nat) : Prop where
  made : ∃ (B : ByteArray) (x : NItm) (r : List NItm), T j = ⟨#[44]⟩ ++ B ∧ (∀ y ∈ x :: r, good y) ∧ txt (x :: r) = B.data.toList ∧ expN (x :: r) = zs.drop j
  least : ∀ (B : ByteArray) (ys : List NItm), T j = ⟨#[44]⟩ ++ B → (∀ y ∈ ys, good y) → expN ys = zs.drop j → leB B.data.toList (txt ys)
theorem data_size (B : ByteArray) : B.size ≠ 0 ↔ B.data.toList ≠ [] := by
  rw [← size_len]
  exact ⟨fun h e => h (by rw [e]; rfl), fun h e => h (List.eq_nil_of_length_eq_zero e)⟩
theorem cat_inj {B C : ByteArray} (h : (⟨#[44]⟩ : ByteArray) ++ B = ⟨#[44]⟩ ++ C) : B.data.toList = C.data.toList := by
  have := congrArg (fun x => x.data.toList) h
  simp only [app_data] at this
  exact List.append_cancel_left this
/-- An item and the best text behind it. -/
theorem cand_eq {T : Nat → ByteArray} {x : NItm} {B : ByteArray} {y : NItm} {r : List NItm} {t : ByteArray} (ht : t.data.toList = itext x) (hB : txt (y :: r) = B.data.toList) (n : Nat) (hn : T n = ⟨#[44]⟩ ++ B) : (t ++ T n).data.toList = txt (x :: y :: r) := by
  rw [hn, app_data, app_data, ht, txt_cons, hB]
  rfl
theorem best_step {zs : List Int} (hz : ∀ z ∈ zs, 0 ≤ z ∧ z ≤ 9999) (hlen : zs.length ≤ 500) {T : Nat → ByteArray} {i : Nat} (hi : i < zs.length) (hT : ∀ j, i < j → j < zs.length → Best zs T j) (hN : T zs.length = ⟨#[]⟩) :
    ∃ (x : NItm) (r : List NItm), (∀ y ∈ x :: r, good y) ∧ txt (x :: r) = (bestOf T (itL zs i)).data.toList ∧ expN (x :: r) = zs.drop i ∧ ∀ ys : List NItm, (∀ y ∈ ys, good y) → expN ys = zs.drop i → leB (bestOf T (itL zs i)).data.toList (txt ys) := by
  -- each candidate is a text
  have cand : ∀ y ∈ itL zs i, ∃ (x : NItm) (r : List NItm), (∀ z ∈ x :: r, good z) ∧ (y.1 ++ T y.2).data.toList = txt (x :: r) ∧ expN (x :: r) = zs.drop i := by
    intro y hy
    obtain ⟨x, hg, ht, hn, hle, hd⟩ := item_mem hz hlen hi hy
    have hp := numN_pos hg.1
    rw [hn]
    by_cases he : i + numN x = zs.length
    · refine ⟨x, [], fun z hz => by simp at hz; subst hz; exact hg, ?_, ?_⟩
      · rw [he, hN, app_data, ht]
        show itext x ++ [] = itext x
        simp
      · rw [he, List.drop_length, List.append_nil] at hd
        exact hd
    · obtain ⟨B, x', r', hB, hg', ht', hd'⟩ := (hT (i + numN x) (by omega) (by omega)).made
      refine ⟨x, x' :: r', fun z hz => ?_, cand_eq ht ht' _ hB, ?_⟩
      · rcases List.mem_cons.1 hz with rfl | hz
        · exact hg
        · exact hg' z hz
      · rw [exp_cons, hd', hd]
  have hne : ∀ y ∈ itL zs i, (y.1 ++ T y.2).size ≠ 0 := by
    intro y hy
    obtain ⟨x, r, _, ht, _⟩ := cand y hy
    rw [data_size, ht]
    exact txt_ne
  obtain ⟨⟨y, hy, hb⟩, hl⟩ := best_pick (T := T) (l := itL zs i) (by simp [itL]) hne
  obtain ⟨x, r, hg, ht, hd⟩ := cand y hy
  refine ⟨x, r, hg, by rw [hb, ht], hd, fun ys hys he => ?_⟩
  cases ys with
  | nil =>
    exfalso
    have h1 := congrArg List.length he
    rw [List.length_drop] at h1
    have h2 : (expN []).length = 0 := rfl
    omega
  | cons x' r' =>
    have hg' := hys x' (by simp)
    obtain ⟨y', hy', t1, t2⟩ := mem_items hg'.1 he
    obtain ⟨hle, _, hr⟩ := drop_cons hg'.1 he
    have hp := numN_pos hg'.1
    refine leB_trans (hl y' hy') ?_
    rw [t2]
    by_cases hen : i + numN x' = zs.length
    · rw [hen, List.drop_length] at hr
      have hr0 := exp_nil_of (fun z hz => hys z (by simp [hz])) hr
      subst hr0
      rw [hen, hN, app_data, t1]
      show leB (itext x' ++ []) (itext x')
      rw [List.append_nil]
      exact leB_refl _
    · have hbest := hT (i + numN x') (by omega) (by omega)
      obtain ⟨B, x2, r2, hB, _, ht2, _⟩ := hbest.made
      have hmin := hbest.least B r' hB (fun z hz => hys z (by simp [hz])) hr
      rw [cand_eq t1 ht2 _ hB, txt_cons, ht2]
      cases r' with
      | nil =>
        exfalso
        have h1 := congrArg List.length hr
        rw [List.length_drop] at h1
        have h2 : (expN []).length = 0 := rfl
        omega
      | cons y2 r3 =>
        rw [txt_cons]
        have := leB_app (itext x' ++ [44]) hmin
        rw [List.append_assoc, List.append_assoc] at this
        exact this
theorem tl_best {zs : List Int} (hz : ∀ z ∈ zs, 0 ≤ z ∧ z ≤ 9999) (hlen : zs.length ≤ 500) : ∀ m, m ≤ zs.length → (tlF zs m zs.length = ⟨#[]⟩) ∧ ∀ j, zs.length - m ≤ j → j < zs.length → Best zs (tlF zs m) j
  | 0, _ => ⟨rfl, fun j h1 h2 => by omega⟩
  | m + 1, hm => by
    obtain ⟨ih1, ih2⟩ := tl_best hz hlen m (by omega)
    refine ⟨by rw [tlF_other zs m zs.length (by omega)]; exact ih1, fun j h1 h2 => ?_⟩
    by_cases hj : j = zs.length - 1 - m
    · subst hj
      obtain ⟨x, r, hg, ht, hd, hl⟩ := best_step hz hlen (T := tlF zs m) h2 (fun j' a b => ih2 j' (by omega) b) ih1
      refine ⟨⟨_, x, r, tlF_top zs m, hg, ht, hd⟩, fun B ys hB hys he => ?_⟩
      rw [tlF_top] at hB
      rw [← cat_inj hB]
      exact hl ys hys he
    · have h3 := ih2 j (by omega) h2
      refine ⟨?_, fun B ys hB hys he => ?_⟩
      · rw [tlF_other zs m j hj]; exact h3.made
      · rw [tlF_other zs m j hj] at hB
        exact h3.least B ys hB hys he
theorem trim_cat (B : ByteArray) : Lib.trimPrefix ((⟨#[44]⟩ : ByteArray) ++ B).data.toList [44] = B.data.toList := by
  rw [app_data]
  show Lib.trimPrefix (44 :: B.data.toList) [44] = _
  have h : Lib.hasPrefix (44 :: B.data.toList) [44] = true := by simp [Lib.hasPrefix, List.isPrefixOf]
  simp [Lib.trimPrefix, h]
def singles (zs : List Int) : List NItm := zs.map fun z => (1, z.toNat, z.toNat)
theorem singles_good {zs : List Int} (hz : ∀ z ∈ zs, 0 ≤ z ∧ z ≤ 9999) : ∀ x ∈ singles zs, good x := by
  intro x hx
  obtain ⟨z, hz', rfl⟩ := List.mem_map.1 hx
  have := hz z hz'
  exact ⟨Or.inl ⟨rfl, Nat.le_refl _⟩, by show 1 ≤ 9999; omega, by show z.toNat ≤ 9999; omega⟩
theorem singles_exp : ∀ {zs : List Int}, (∀ z ∈ zs, 0 ≤ z ∧ z ≤ 9999) → expN (singles zs) = zs
  | [], _ => rfl
  | z :: zs, h => by
    have h1 := h z (by simp)
    have ih := singles_exp (zs := zs) (fun y hy => h y (by simp [hy]))
    show expN ((1, z.toNat, z.toNat) :: singles zs) = _
    rw [exp_cons, ih]
    have : expN [(1, z.toNat, z.toNat)] = [z] := by
      show runN 1 (z.toNat - z.toNat + 1) z.toNat ++ [] = [z]
      rw [show z.toNat - z.toNat + 1 = 1 by omega, run_same, List.append_nil]
      show [((z.toNat : Nat) : Int)] = [z]
      rw [show ((z.toNat : Nat) : Int) = z by omega]
    rw [this]; rfl
theorem dec_len4 {n : Nat} (h : n ≤ 9999) : (Lib.decDigits n).length ≤ 4 := decDigits_len 3 n (by omega)
theorem singles_len : ∀ {zs : List Int}, (∀ z ∈ zs, 0 ≤ z ∧ z ≤ 9999) → (txt (singles zs)).length ≤ 5 * zs.length
  | [], _ => Nat.le_refl _
  | [z], h => by
    have h1 := h z (by simp)
    have := dec_len4 (n := z.toNat) (by omega)
    show (itext (1, z.toNat, z.toNat)).length ≤ 5
    unfold itext
    simp
    omega
  | z :: y :: zs, h => by
    have h1 := h z (by simp)
    have h4 := dec_len4 (n := z.toNat) (by omega)
    have ih := singles_len (zs := y :: zs) (fun x hx => h x (by simp at hx ⊢; exact Or.inr hx))
    show (itext (1, z.toNat, z.toNat) ++ 44 :: txt (singles (y :: zs))).length ≤ _
    have h5 : (itext (1, z.toNat, z.toNat)).length ≤ 4 := by unfold itext; simp; omega
    rw [List.length_append, List.length_cons]
    simp only [List.length_cons] at ih ⊢
    omega
theorem leB_len {a b : List UInt8} (h : leB a b) : a.length ≤ b.length := by
  unfold leB ltB at h
  simp at h
  omega
/-- The text of a list. -/
theorem list_main {zs : List Int} (hz : ∀ z ∈ zs, 0 ≤ z ∧ z ≤ 9999) (hlen : zs.length ≤ 500) :
    parP (listS zs) = (zs, 0) ∧ (listS zs).length ≤ 2500 ∧ ∀ s, parP s = (zs, 0) → leB (listS zs) s := by
  have key : (∃ xs : List NItm, (∀ x ∈ xs, good x) ∧ txt xs = listS zs ∧ expN xs = zs) ∧ ∀ ys : List NItm, (∀ y ∈ ys, good y) → expN ys = zs → leB (listS zs) (txt ys) := by
    by_cases h0 : zs = []
    · subst h0
      refine ⟨⟨[], fun x hx => by simp at hx, rfl, rfl⟩, fun ys hys he => ?_⟩
      rw [exp_nil_of hys he]
      exact leB_refl _
    · have hp : 0 < zs.length := List.length_pos_iff.2 h0
      obtain ⟨_, hb⟩ := tl_best hz hlen zs.length (Nat.le_refl _)
      have h1 := hb 0 (by omega) hp
      obtain ⟨B, x, r, hB, hg, ht, hd⟩ := h1.made
      have hS : listS zs = B.data.toList := by
        unfold listS
        rw [hB, trim_cat]
      refine ⟨⟨x :: r, hg, by rw [hS, ht], hd⟩, fun ys hys he => ?_⟩
      rw [hS]
      exact h1.least B ys hB hys he
  obtain ⟨⟨xs, hg, ht, he⟩, hmin⟩ := key
  have hlen2 : (listS zs).length ≤ 2500 := by
    have h1 := leB_len (hmin (singles zs) (singles_good hz) (singles_exp hz))
    have h2 := singles_len hz
    omega
  refine ⟨?_, hlen2, fun s hs => ?_⟩
  · rw [← ht]
    have hsum : sumN xs ≤ 500 := by rw [← expN_length, he]; exact hlen
    rw [par_txt xs hg hsum (by rw [ht]; exact hlen2), he]
  · obtain ⟨ys, hys, hyt, hye, _, _⟩ := par_good hs
    rw [← hyt]
    exact hmin ys hys hye
theorem exp_range : ∀ xs : List NItm, (∀ x ∈ xs, good x) → ∀ z ∈ expN xs, 0 ≤ z ∧ z ≤ 9999
  | [], _, z, hz => by simp [expN] at hz
  | x :: r, hg, z, hz => by
    rw [exp_cons] at hz
    rcases List.mem_append.1 hz with hz | hz
    · have hx := hg x (by simp)
      rw [exp_one hx.1] at hz
      obtain ⟨t, ht, rfl⟩ := List.mem_map.1 hz
      have ht' := List.mem_range.1 ht
      obtain ⟨a, b, c⟩ := x
      unfold numN at ht'
      unfold valN
      have h9 := hx.2.2
      simp only at ht' h9 ⊢
      rcases hx.1 with hv | hv
      · have h1 : a = 1 := hv.1
        have h2 : b ≤ c := hv.2
        subst h1
        rw [Nat.one_mul] at ht'
        rw [if_pos rfl]
        omega
      · have h1 : 2 ≤ a := hv.1
        have h2 : b = c := hv.2
        rw [if_neg (by omega)]
        omega
    · exact exp_range r (fun y hy => hg y (by simp [hy])) z hz
/-- What is read is a list. -/
theorem par_range {s : List UInt8} {zs : List Int} (h : parP s = (zs, 0)) : zs.length ≤ 500 ∧ ∀ z ∈ zs, 0 ≤ z ∧ z ≤ 9999 := by
  obtain ⟨xs, hg, _, he, hs, _⟩ := par_good h
  exact ⟨by rw [← he, expN_length]; exact hs, by rw [← he]; exact exp_range xs hg⟩
end Go.Proofs.YtkbmdmipdcjjcaaGreatDoor
