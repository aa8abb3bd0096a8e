/- What the reference of groups computes, as plain lists: roots, steps of a length, matrices in order. -/
import Derived.Test.YtehpgmhilcoalaaDoorIA
namespace Go.Proofs.YtehpgmhilcoalaaDoor
open Go.RowKit
/-! Roots. -/
def Root (n r : Int) : Prop := 0 ≤ r ∧ r * r ≤ n ∧ n < (r + 1) * (r + 1)
theorem Root.unique {n r s : Int} (h : Root n r) (k : Root n s) : r = s := by
  obtain ⟨h1, h2, h3⟩ := h
  obtain ⟨k1, k2, k3⟩ := k
  have a : r < s + 1 := Int.not_le.1 fun hh => by
    have := sq_ge (x := r) (k := s + 1) (by omega) (.inr hh); omega
  have b : s < r + 1 := Int.not_le.1 fun hh => by
    have := sq_ge (x := s) (k := r + 1) (by omega) (.inr hh); omega
  omega
def rootN : Nat → Nat
  | 0 => 0
  | n + 1 => if (rootN n + 1) * (rootN n + 1) ≤ n + 1 then rootN n + 1 else rootN n
theorem rootN_ok (n : Nat) : rootN n * rootN n ≤ n ∧ n < (rootN n + 1) * (rootN n + 1) := by
  induction n with
  | zero => exact ⟨Nat.le_refl _, by decide⟩
  | succ n ih =>
    unfold rootN
    split
    · rename_i h
      refine ⟨h, ?_⟩
      have e : (rootN n + 1 + 1) * (rootN n + 1 + 1) = (rootN n + 1) * (rootN n + 1) + 2 * rootN n + 3 := by grind
      omega
    · rename_i h
      exact ⟨by omega, by omega⟩
def rootI (n : Int) : Int := (rootN n.toNat : Int)
theorem rootI_ok {n : Int} (h : 0 ≤ n) : Root n (rootI n) := by
  obtain ⟨h1, h2⟩ := rootN_ok n.toNat
  have e : ((n.toNat : Nat) : Int) = n := Int.toNat_of_nonneg h
  refine ⟨Int.natCast_nonneg _, ?_, ?_⟩
  · unfold rootI
    have : ((rootN n.toNat * rootN n.toNat : Nat) : Int) ≤ ((n.toNat : Nat) : Int) := by omega
    rw [Int.natCast_mul] at this; omega
  · unfold rootI
    have : ((n.toNat : Nat) : Int) < (((rootN n.toNat + 1) * (rootN n.toNat + 1) : Nat) : Int) := by omega
    rw [Int.natCast_mul, Int.natCast_add] at this
    exact Int.lt_of_le_of_lt (Int.le_of_eq e.symm) this
theorem root_sq {s : Int} (h : 0 ≤ s) : rootI (s * s) = s := by
  have h0 := sq_nonneg s
  refine (rootI_ok h0).unique ⟨h, Int.le_refl _, ?_⟩
  have e : (s + 1) * (s + 1) = s * s + 2 * s + 1 := by grind
  omega
/-! Steps of a squared length, row by row. -/
def dY (l : Lat) (n y : Int) : Int := l.a * n - l.det * y * y
def rowY (l : Lat) (n y : Int) : List Pt :=
  if dY l n y < 0 then [] else
    if rootI (dY l n y) * rootI (dY l n y) ≠ dY l n y then [] else
      (if (rootI (dY l n y) - l.b * y).tmod l.a = 0 then [⟨(rootI (dY l n y) - l.b * y).tdiv l.a, y⟩] else []) ++
      (if 0 < rootI (dY l n y) ∧ (rootI (dY l n y) + l.b * y).tmod l.a = 0 then [⟨(-(rootI (dY l n y) + l.b * y)).tdiv l.a, y⟩] else [])
theorem rowY_len (l : Lat) (n y : Int) : (rowY l n y).length ≤ 2 := by
  unfold rowY
  split
  · simp
  · split
    · simp
    · split <;> split <;> simp
theorem dY_sq (l : Lat) (p : Pt) : dY l (prod l p p) p.y = (l.a * p.x + l.b * p.y) * (l.a * p.x + l.b * p.y) := by
  simp only [dY, prod, Lat.det]; grind
theorem tdiv_exact {a z : Int} (h : z.tmod a = 0) : a * z.tdiv a = z := by
  have := Int.mul_tdiv_add_tmod z a; omega
theorem tmod_mul {a x : Int} : (a * x).tmod a = 0 := Int.mul_tmod_right a x
theorem tdiv_mul {a x : Int} (ha : 1 ≤ a) : (a * x).tdiv a = x := Int.mul_tdiv_cancel_left x (by omega)
theorem mem_rowY {l : Lat} (ha : 1 ≤ l.a) (n y : Int) (p : Pt) : p ∈ rowY l n y ↔ p.y = y ∧ prod l p p = n := by
  have key : ∀ q : Pt, q.y = y → (l.a * q.x + l.b * y) * (l.a * q.x + l.b * y) = dY l n y → prod l q q = n := fun q hy hd => by
    have h1 := dY_sq l q
    rw [hy] at h1
    rw [← h1] at hd
    unfold dY at hd
    have h2 : l.a * (prod l q q - n) = 0 := by grind
    rcases Int.mul_eq_zero.1 h2 with h | h <;> omega
  constructor
  · intro h
    unfold rowY at h
    split at h
    · cases h
    · rename_i hd
      split at h
      · cases h
      · rename_i hs
        have hs' : rootI (dY l n y) * rootI (dY l n y) = dY l n y := Decidable.not_not.1 hs
        rw [List.mem_append] at h
        rcases h with h | h
        · split at h
          · rename_i hm
            rw [List.mem_singleton] at h
            subst h
            refine ⟨rfl, key _ rfl ?_⟩
            have := tdiv_exact hm
            dsimp only
            have e : rootI (dY l n y) - l.b * y + l.b * y = rootI (dY l n y) := by omega
            rw [this, e]
            exact hs'
          · cases h
        · split at h
          · rename_i hm
            rw [List.mem_singleton] at h
            subst h
            refine ⟨rfl, key _ rfl ?_⟩
            have h3 : (-(rootI (dY l n y) + l.b * y)).tmod l.a = 0 := by rw [Int.neg_tmod, hm.2]; rfl
            have := tdiv_exact h3
            dsimp only
            have e : -(rootI (dY l n y) + l.b * y) + l.b * y = -rootI (dY l n y) := by omega
            rw [this, e, Int.neg_mul_neg]
            exact hs'
          · cases h
  · rintro ⟨rfl, rfl⟩
    have h1 := dY_sq l p
    have h0 := sq_nonneg (l.a * p.x + l.b * p.y)
    unfold rowY
    rw [if_neg (by omega)]
    rcases Int.le_total 0 (l.a * p.x + l.b * p.y) with hz | hz
    · have hr : rootI (dY l (prod l p p) p.y) = l.a * p.x + l.b * p.y := by rw [h1, root_sq hz]
      rw [hr, if_neg (by rw [h1]; exact fun h => h rfl)]
      have e : l.a * p.x + l.b * p.y - l.b * p.y = l.a * p.x := by omega
      rw [e, if_pos tmod_mul, tdiv_mul ha]
      simp
    · by_cases h00 : l.a * p.x + l.b * p.y = 0
      · have hr : rootI (dY l (prod l p p) p.y) = l.a * p.x + l.b * p.y := by rw [h1, root_sq (by omega)]
        rw [hr, if_neg (by rw [h1]; exact fun h => h rfl)]
        have e : l.a * p.x + l.b * p.y - l.b * p.y = l.a * p.x := by omega
        rw [e, if_pos tmod_mul, tdiv_mul ha]
        simp
      · have hr : rootI (dY l (prod l p p) p.y) = -(l.a * p.x + l.b * p.y) := by
          rw [h1, ← Int.neg_mul_neg, root_sq (by omega)]
        have e : -(l.a * p.x + l.b * p.y) + l.b * p.y = -(l.a * p.x) := by omega
        rw [hr, if_neg (by rw [h1, Int.neg_mul_neg]; exact fun h => h rfl), e]
        have h5 : 0 < -(l.a * p.x + l.b * p.y) ∧ (-(l.a * p.x)).tmod l.a = 0 := ⟨by omega, by rw [Int.neg_tmod, tmod_mul]; rfl⟩
        rw [if_pos h5, Int.neg_neg, tdiv_mul ha]
        simp
theorem rowY_nodup (l : Lat) (n y : Int) : (rowY l n y).Nodup := by
  unfold rowY
  split
  · exact .nil
  · split
    · exact .nil
    · split
      · rename_i hm
        split
        · rename_i hm2
          have e1 := tdiv_exact hm
          have h3 : (-(rootI (dY l n y) + l.b * y)).tmod l.a = 0 := by rw [Int.neg_tmod, hm2.2]; rfl
          have e2 := tdiv_exact h3
          simp only [List.cons_append, List.nil_append, List.nodup_cons, List.mem_singleton, Pt.mk.injEq, and_true, List.not_mem_nil, not_false_eq_true, List.nodup_nil]
          intro h
          rw [h] at e1
          omega
        · simp
      · split <;> simp
def stepsL (l : Lat) (n : Int) (k : Nat) : List Pt := (List.range k).flatMap fun (i : Nat) => rowY l n ((i : Int) - 10000)
theorem stepsL_succ (l : Lat) (n : Int) (k : Nat) : stepsL l n (k + 1) = stepsL l n k ++ rowY l n ((k : Int) - 10000) := by
  simp [stepsL, List.range_succ, List.flatMap_append]
theorem stepsL_len (l : Lat) (n : Int) (k : Nat) : (stepsL l n k).length ≤ 2 * k := by
  induction k with
  | zero => simp [stepsL]
  | succ k ih =>
    rw [stepsL_succ, List.length_append]
    have := rowY_len l n ((k : Int) - 10000)
    omega
theorem mem_stepsK {l : Lat} (ha : 1 ≤ l.a) (n : Int) (k : Nat) (p : Pt) : p ∈ stepsL l n k ↔ (-10000 ≤ p.y ∧ p.y < (k : Int) - 10000) ∧ prod l p p = n := by
  unfold stepsL
  rw [List.mem_flatMap]
  constructor
  · rintro ⟨i, hi, hp⟩
    rw [List.mem_range] at hi
    obtain ⟨h1, h2⟩ := (mem_rowY ha _ _ _).1 hp
    exact ⟨by omega, h2⟩
  · rintro ⟨h1, h2⟩
    exact ⟨(p.y + 10000).toNat, List.mem_range.2 (by omega), (mem_rowY ha _ _ _).2 ⟨by omega, h2⟩⟩
theorem mem_stepsL {l : Lat} (hl : Ok l) {n : Int} (hn : n ≤ 10000) (p : Pt) : p ∈ stepsL l n 20001 ↔ prod l p p = n := by
  rw [mem_stepsK hl.1]
  refine ⟨fun h => h.2, fun h => ⟨?_, h⟩⟩
  have := col_bound (p := p) (K := 10000) hl.1 hl.2.2.2.2.2.2 (by omega) hl.2.1 hl.2.2.2.2.2.1 (by omega)
  omega
theorem stepsL_rng {l : Lat} (hl : Ok l) {n : Int} (hn : n ≤ 10000) {k : Nat} {p : Pt} (h : p ∈ stepsL l n k) : (-10000 ≤ p.x ∧ p.x ≤ 10000) ∧ -10000 ≤ p.y ∧ p.y ≤ 10000 := by
  have h := ((mem_stepsK hl.1 n k p).1 h).2
  have := col_bound (p := p) (K := 10000) hl.1 hl.2.2.2.2.2.2 (by omega) hl.2.1 hl.2.2.2.2.2.1 (by omega)
  omega
theorem stepsL_nodup {l : Lat} (ha : 1 ≤ l.a) (n : Int) (k : Nat) : (stepsL l n k).Nodup := by
  induction k with
  | zero => simp [stepsL]
  | succ k ih =>
    rw [stepsL_succ, List.nodup_append]
    refine ⟨ih, rowY_nodup l _ _, fun a h1 b h2 he => ?_⟩
    subst he
    have := ((mem_stepsK ha n k a).1 h1).1
    have := ((mem_rowY ha n _ a).1 h2).1
    omega
/-! Matrices in order. -/
def atM (m : Mat) : List Mat → Nat
  | [] => 0
  | x :: xs => if mlt x m = true then atM m xs + 1 else 0
theorem atM_le (m : Mat) (L : List Mat) : atM m L ≤ L.length := by
  induction L with
  | nil => exact Nat.le_refl _
  | cons x xs ih => unfold atM; split <;> simp <;> omega
theorem atM_lt {m : Mat} {L : List Mat} : ∀ {j : Nat} {x : Mat}, j < atM m L → L[j]? = some x → mlt x m = true := by
  induction L with
  | nil => intro j x h; simp [atM] at h
  | cons y ys ih =>
    intro j x h hx
    unfold atM at h
    split at h
    · rename_i hy
      cases j with
      | zero => simp at hx; subst hx; exact hy
      | succ j => exact ih (j := j) (by omega) (by simpa using hx)
    · omega
theorem atM_at {m : Mat} {L : List Mat} : ∀ {x : Mat}, L[atM m L]? = some x → ¬ mlt x m = true := by
  induction L with
  | nil => intro x h; simp [atM] at h
  | cons y ys ih =>
    intro x h
    unfold atM at h
    split at h
    · exact ih (by simpa using h)
    · rename_i hy; simp at h; subst h; exact hy
theorem atM_eq {m : Mat} {L : List Mat} {j : Nat} (h1 : j ≤ L.length) (h2 : ∀ i x, i < j → L[i]? = some x → mlt x m = true) (h3 : ∀ x, L[j]? = some x → ¬ mlt x m = true) : atM m L = j := by
  have a : ¬ atM m L < j := fun hlt => by
    have hl : atM m L < L.length := by omega
    exact atM_at (List.getElem?_eq_getElem hl) (h2 _ _ hlt (List.getElem?_eq_getElem hl))
  have b : ¬ j < atM m L := fun hlt => by
    have := atM_le m L
    have hl : j < L.length := by omega
    exact h3 _ (List.getElem?_eq_getElem hl) (atM_lt hlt (List.getElem?_eq_getElem hl))
  omega
def insM (L : List Mat) (m : Mat) : List Mat := L.take (atM m L) ++ m :: L.drop (atM m L)
def sortL (C : List Mat) : List Mat := C.foldl insM []
theorem sortL_snoc (C : List Mat) (m : Mat) : sortL (C ++ [m]) = insM (sortL C) m := by simp [sortL]
theorem insM_len (L : List Mat) (m : Mat) : (insM L m).length = L.length + 1 := by
  have := atM_le m L
  simp [insM]; omega
theorem sortL_len (C : List Mat) : (sortL C).length = C.length := by
  have : ∀ (C o : List Mat), (C.foldl insM o).length = o.length + C.length := fun C => by
    induction C with
    | nil => intro o; rfl
    | cons c C ih => intro o; rw [List.foldl_cons, ih, insM_len, List.length_cons]; omega
  simpa [sortL] using this C []
theorem mem_insM (L : List Mat) (m x : Mat) : x ∈ insM L m ↔ x = m ∨ x ∈ L := by
  unfold insM
  have h : x ∈ L ↔ x ∈ L.take (atM m L) ∨ x ∈ L.drop (atM m L) := by
    rw [← List.mem_append, List.take_append_drop]
  rw [h, List.mem_append, List.mem_cons]
  constructor
  · rintro (h | h | h)
    · exact .inr (.inl h)
    · exact .inl h
    · exact .inr (.inr h)
  · rintro (h | h | h)
    · exact .inr (.inl h)
    · exact .inl h
    · exact .inr (.inr h)
theorem insM_sorted {L : List Mat} {m : Mat} (h : L.Pairwise (fun a b => mlt a b = true)) (hm : m ∉ L) : (insM L m).Pairwise (fun a b => mlt a b = true) := by
  unfold insM
  have hsplit := h
  rw [← List.take_append_drop (atM m L) L] at hsplit
  rw [List.pairwise_append] at hsplit
  obtain ⟨s1, s2, s3⟩ := hsplit
  have lo : ∀ x ∈ L.take (atM m L), mlt x m = true := fun x hx => by
    obtain ⟨j, hj, he⟩ := List.mem_iff_getElem.1 hx
    rw [List.length_take] at hj
    refine atM_lt (j := j) (L := L) (by omega) ?_
    rw [List.getElem_take] at he
    rw [List.getElem?_eq_getElem (by omega), he]
  have hi : ∀ x ∈ L.drop (atM m L), mlt m x = true := fun x hx => by
    have hne : L.drop (atM m L) ≠ [] := List.ne_nil_of_mem hx
    have hl : atM m L < L.length := by
      rcases Nat.lt_or_ge (atM m L) L.length with g | g
      · exact g
      · exact absurd (List.drop_eq_nil_of_le g) hne
    have hz := List.getElem?_eq_getElem hl
    have hnl := atM_at hz
    have hmem : L[atM m L] ∈ L := List.getElem_mem hl
    have h0 : mlt m L[atM m L] = true := by
      rcases mlt_total m L[atM m L] with g | g | g
      · exact g
      · exact absurd (g ▸ hmem) hm
      · exact absurd g hnl
    rw [List.drop_eq_getElem_cons hl] at hx s2
    rcases List.mem_cons.1 hx with g | g
    · rw [g]; exact h0
    · exact mlt_trans h0 ((List.pairwise_cons.1 s2).1 x g)
  rw [List.pairwise_append, List.pairwise_cons]
  refine ⟨s1, ⟨hi, s2⟩, fun a ha b hb => ?_⟩
  rcases List.mem_cons.1 hb with rfl | hb
  · exact lo a ha
  · exact s3 a ha b hb
theorem sortL_ok {C : List Mat} (h : C.Nodup) : (sortL C).Pairwise (fun a b => mlt a b = true) ∧ ∀ x, x ∈ sortL C ↔ x ∈ C := by
  have : ∀ (C o : List Mat), C.Nodup → (∀ x ∈ C, x ∉ o) → o.Pairwise (fun a b => mlt a b = true) → (C.foldl insM o).Pairwise (fun a b => mlt a b = true) ∧ ∀ x, x ∈ C.foldl insM o ↔ x ∈ C ∨ x ∈ o := fun C => by
    induction C with
    | nil => intro o _ _ h; exact ⟨h, fun x => by simp⟩
    | cons c C ih =>
      intro o hn hd hs
      rw [List.nodup_cons] at hn
      obtain ⟨h1, h2⟩ := ih (insM o c) hn.2 (fun x hx hx2 => by
        rcases (mem_insM _ _ _).1 hx2 with g | g
        · exact hn.1 (g ▸ hx)
        · exact hd x (List.mem_cons_of_mem _ hx) g) (insM_sorted hs (hd c (by simp)))
      refine ⟨h1, fun x => ?_⟩
      rw [List.foldl_cons, h2, mem_insM, List.mem_cons]
      constructor
      · rintro (h | h | h)
        · exact .inl (.inr h)
        · exact .inl (.inl h)
        · exact .inr h
      · rintro ((h | h) | h)
        · exact .inr (.inl h)
        · exact .inl h
        · exact .inr (.inr h)
  obtain ⟨h1, h2⟩ := this C [] h (by simp) .nil
  exact ⟨h1, fun x => by rw [sortL, h2]; simp⟩
/-! The matrices of two columns. -/
def mk2 (p q : Pt) : Mat := ⟨p.x, q.x, p.y, q.y⟩
def good (l to : Lat) (p q : Pt) : Bool := decide (prod l p q = to.b) && (decide (crossP p q = 1) || decide (crossP p q = -1))
def cands (l to : Lat) (p : Pt) (S : List Pt) : List Mat := (S.filter (good l to p)).map (mk2 p)
def candL (l to : Lat) (F S : List Pt) : List Mat := F.flatMap fun p => cands l to p S
theorem candL_snoc (l to : Lat) (F S : List Pt) (p : Pt) : candL l to (F ++ [p]) S = candL l to F S ++ cands l to p S := by simp [candL]
theorem cands_snoc (l to : Lat) (p q : Pt) (S : List Pt) : cands l to p (S ++ [q]) = cands l to p S ++ if good l to p q then [mk2 p q] else [] := by
  simp only [cands, List.filter_append, List.map_append, List.filter_cons, List.filter_nil]
  split <;> rfl
theorem cands_len (l to : Lat) (p : Pt) (S : List Pt) : (cands l to p S).length ≤ S.length := by
  simp only [cands, List.length_map]; exact List.length_filter_le _ _
theorem candL_len (l to : Lat) (F S : List Pt) : (candL l to F S).length ≤ F.length * S.length := by
  induction F with
  | nil => simp [candL]
  | cons p F ih =>
    have := cands_len l to p S
    have e : (candL l to (p :: F) S).length = (cands l to p S).length + (candL l to F S).length := by simp [candL]
    rw [e, List.length_cons, Nat.succ_mul]; omega
theorem mk2_inj {p q p' q' : Pt} (h : mk2 p q = mk2 p' q') : p = p' ∧ q = q' := by
  cases p; cases q; cases p'; cases q'
  simp only [mk2, Mat.mk.injEq, Pt.mk.injEq] at *
  omega
theorem mem_cands {l to : Lat} {p : Pt} {S : List Pt} {m : Mat} : m ∈ cands l to p S ↔ ∃ q ∈ S, good l to p q = true ∧ m = mk2 p q := by
  simp only [cands, List.mem_map, List.mem_filter]
  exact ⟨fun ⟨q, ⟨h1, h2⟩, h3⟩ => ⟨q, h1, h2, h3.symm⟩, fun ⟨q, h1, h2, h3⟩ => ⟨q, ⟨h1, h2⟩, h3.symm⟩⟩
theorem candL_nodup {l to : Lat} {F S : List Pt} (hF : F.Nodup) (hS : S.Nodup) : (candL l to F S).Nodup := by
  induction F with
  | nil => simp [candL]
  | cons p F ih =>
    rw [List.nodup_cons] at hF
    have e : candL l to (p :: F) S = cands l to p S ++ candL l to F S := by simp [candL]
    rw [e, List.nodup_append]
    refine ⟨?_, ih hF.2, fun a h1 b h2 he => ?_⟩
    · refine List.pairwise_map.2 ((hS.filter _).imp ?_)
      intro a b hab he
      exact hab (mk2_inj he).2
    · subst he
      obtain ⟨q, _, _, rfl⟩ := mem_cands.1 h1
      simp only [candL, List.mem_flatMap] at h2
      obtain ⟨p', hp', h3⟩ := h2
      obtain ⟨q', _, _, h4⟩ := mem_cands.1 h3
      exact hF.1 ((mk2_inj h4).1 ▸ hp')
theorem mem_candL {l to : Lat} (hl : Ok l) (ta : to.a ≤ 10000) (tc : to.c ≤ 10000) (hd : to.det = l.det) (m : Mat) :
    m ∈ candL l to (stepsL l to.a 20001) (stepsL l to.c 20001) ↔ led l m = to := by
  simp only [candL, List.mem_flatMap]
  constructor
  · rintro ⟨p, hp, hm⟩
    obtain ⟨q, hq, hg, rfl⟩ := mem_cands.1 hm
    rw [mem_stepsL hl ta] at hp
    rw [mem_stepsL hl tc] at hq
    simp only [good, Bool.and_eq_true, decide_eq_true_eq] at hg
    cases to
    simp only [led, mk2, Lat.mk.injEq]
    exact ⟨hp, hg.1, hq⟩
  · intro e
    have u := unit_of_led hl.2.2.2.2.2.2 hd e
    refine ⟨⟨m.a, m.c⟩, (mem_stepsL hl ta _).2 (congrArg Lat.a e), mem_cands.2 ⟨⟨m.b, m.d⟩, (mem_stepsL hl tc _).2 (congrArg Lat.c e), ?_, rfl⟩⟩
    simp only [good, Bool.and_eq_true, decide_eq_true_eq, Bool.or_eq_true]
    refine ⟨congrArg Lat.b e, ?_⟩
    have e2 : crossP ⟨m.a, m.c⟩ ⟨m.b, m.d⟩ = m.det := by simp only [crossP, Mat.det]; grind
    rw [e2]; exact u
def leadL (l to : Lat) : List Mat := sortL (candL l to (stepsL l to.a 20001) (stepsL l to.c 20001))
theorem leadL_ok {l to : Lat} (hl : Ok l) (ta : to.a ≤ 10000) (tc : to.c ≤ 10000) (hd : to.det = l.det) :
    (leadL l to).Pairwise (fun a b => mlt a b = true) ∧ ∀ m, m ∈ leadL l to ↔ led l m = to := by
  obtain ⟨h1, h2⟩ := sortL_ok (candL_nodup (l := l) (to := to) (stepsL_nodup hl.1 to.a 20001) (stepsL_nodup hl.1 to.c 20001))
  exact ⟨h1, fun m => (h2 m).trans (mem_candL hl ta tc hd m)⟩
/-- The group is the list of the reference. -/
theorem group_lead {l : Lat} (hl : Ok l) {G : List Mat} (h : IsGroup l G) : leadL l l = G := by
  obtain ⟨h1, h2⟩ := leadL_ok hl hl.2.1 hl.2.2.2.2.2.1 rfl
  exact sorted_ext h1 h.2.1 fun m => (h2 m).trans (h.1 m).symm
/-- The least matrix is the first one. -/
theorem red_lead {l L : Lat} {m : Mat} (hl : Ok l) (h : IsRed l L m) : ∃ R, leadL l L = m :: R := by
  obtain ⟨hr, hL, u, _, e, hmin⟩ := h
  have hd : L.det = l.det := by rw [← e, det_led, u.sq, Int.one_mul]
  obtain ⟨h1, h2⟩ := leadL_ok hl hL.2.1 hL.2.2.2.2.2.1 hd
  have hm := (h2 m).2 e
  cases hR : leadL l L with
  | nil => rw [hR] at hm; cases hm
  | cons x R =>
    refine ⟨R, ?_⟩
    rw [hR] at hm h1
    rcases List.mem_cons.1 hm with g | g
    · rw [g]
    · exact absurd ((List.pairwise_cons.1 h1).1 m g) (hmin x ((h2 x).1 (by rw [hR]; simp)))
/-! The reference's reduction. -/
def isRedB (l : Lat) : Bool := decide (0 ≤ l.b) && decide (2 * l.b ≤ l.a) && decide (l.a ≤ l.c)
def rstep (l : Lat) : Lat := if l.c < l.a then ⟨l.c, l.b, l.a⟩ else if l.b < 0 then ⟨l.a, -l.b, l.c⟩ else ⟨l.a, l.b - l.a, l.c - 2 * l.b + l.a⟩
def rmat (l : Lat) : Mat := if l.c < l.a then ⟨0, 1, 1, 0⟩ else if l.b < 0 then ⟨1, 0, 0, -1⟩ else ⟨1, -1, 0, 1⟩
theorem rstep_led (l : Lat) : led l (rmat l) = rstep l := by
  unfold rstep rmat
  split
  · simp only [led, prod, Lat.mk.injEq]; refine ⟨?_, ?_, ?_⟩ <;> grind
  · split
    · simp only [led, prod, Lat.mk.injEq]; refine ⟨?_, ?_, ?_⟩ <;> grind
    · simp only [led, prod, Lat.mk.injEq]; refine ⟨?_, ?_, ?_⟩ <;> grind
theorem rmat_unit (l : Lat) : Unit1 (rmat l) := by
  unfold rmat Unit1 Mat.det
  split
  · exact .inr rfl
  · split
    · exact .inr rfl
    · exact .inl rfl
/-- What is kept while the reference reduces: positive, with a bounded sum. -/
def RI (l x : Lat) : Prop := 1 ≤ x.a ∧ x.a ≤ 10000 ∧ 1 ≤ x.c ∧ x.c ≤ 10000 ∧ -10000 ≤ x.b ∧ x.b ≤ 10000 ∧ ∃ m, Unit1 m ∧ led l m = x
def rmu (x : Lat) : Nat := 4 * (x.a + x.c).toNat + (if x.c < x.a then 2 else 0) + (if x.b < 0 then 1 else 0)
theorem RI.ok {l x : Lat} (hl : Ok l) (h : RI l x) : Ok x := by
  obtain ⟨h1, h2, h3, h4, h5, h6, m, u, e⟩ := h
  have hd : x.det = l.det := by rw [← e, det_led, u.sq, Int.one_mul]
  have := hl.2.2.2.2.2.2
  simp only [Lat.det] at hd
  exact ⟨h1, h2, h5, h6, h3, h4, by omega⟩
theorem rstep_ri {l x : Lat} (hl : Ok l) (h : RI l x) (hn : ¬ (0 ≤ x.b ∧ 2 * x.b ≤ x.a ∧ x.a ≤ x.c)) : RI l (rstep x) ∧ rmu (rstep x) < rmu x := by
  have hx := h.ok hl
  obtain ⟨h1, h2, h3, h4, h5, h6, m, u, e⟩ := h
  have hled : ∃ m, Unit1 m ∧ led l m = rstep x := ⟨m.times (rmat x), unit_times u (rmat_unit x), by rw [led_times, e, rstep_led]⟩
  have hdet : (rstep x).det = x.det := by rw [← rstep_led, det_led, (rmat_unit x).sq, Int.one_mul]
  have hok := hx.2.2.2.2.2.2
  unfold RI rmu
  revert hled hdet
  unfold rstep
  split
  · rename_i hca
    intro hled _
    dsimp only
    refine ⟨⟨by omega, by omega, by omega, by omega, by omega, by omega, hled⟩, ?_⟩
    rw [if_neg (show ¬ x.a < x.c by omega)]
    have : (x.c + x.a).toNat = (x.a + x.c).toNat := by omega
    omega
  · split
    · rename_i hca hb
      intro hled _
      dsimp only
      refine ⟨⟨by omega, by omega, by omega, by omega, by omega, by omega, hled⟩, ?_⟩
      rw [if_neg (show ¬ -x.b < 0 by omega)]
      omega
    · rename_i hca hb
      intro hled hdet
      dsimp only at hdet ⊢
      have h2b : x.a < 2 * x.b := by omega
      have hc : 1 ≤ x.c - 2 * x.b + x.a := by
        simp only [Lat.det] at hdet
        refine Int.not_lt.1 fun hlt => ?_
        have h7 := Int.mul_nonneg (show 0 ≤ x.a by omega) (show 0 ≤ -(x.c - 2 * x.b + x.a) by omega)
        have h8 : x.a * -(x.c - 2 * x.b + x.a) = -(x.a * (x.c - 2 * x.b + x.a)) := by grind
        have h9 := sq_nonneg (x.b - x.a)
        omega
      refine ⟨⟨by omega, by omega, by omega, by omega, by omega, by omega, hled⟩, ?_⟩
      have : (x.a + (x.c - 2 * x.b + x.a)).toNat + 1 ≤ (x.a + x.c).toNat := by omega
      split <;> (try split) <;> omega
theorem ri_start {l : Lat} (hl : Ok l) : RI l l := ⟨hl.1, hl.2.1, hl.2.2.2.2.1, hl.2.2.2.2.2.1, hl.2.2.1, hl.2.2.2.1, Mat.one, .inl rfl, led_one l⟩
theorem ri_end {l x L : Lat} {m : Mat} (_ : Ok l) (h : RI l x) (hr : 0 ≤ x.b ∧ 2 * x.b ≤ x.a ∧ x.a ≤ x.c) (h2 : IsRed l L m) : x = L := by
  obtain ⟨h1, _, _, _, _, _, n, u, e⟩ := h
  obtain ⟨hL, _, um, _, em, _⟩ := h2
  have hX : Red x := ⟨hr.1, hr.2.1, hr.2.2, h1⟩
  have h3 : led x (n.inv.times m) = L := by rw [← e, ← led_times, ← times_assoc, times_inv u, one_times, em]
  exact red_unique hX hL (unit_times (unit_inv u) um) h3
end Go.Proofs.YtehpgmhilcoalaaDoor
