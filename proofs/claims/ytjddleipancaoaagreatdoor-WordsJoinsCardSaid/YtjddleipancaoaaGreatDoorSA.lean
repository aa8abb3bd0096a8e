/- Plain facts on lines and their fields: what is read is what was written. -/
import Derived.Test.YtjddleipancaoaaGreatDoorI
import Derived.Test.YtjddleipancaoaaGreatDoorQA
namespace Go.Proofs.YtjddleipancaoaaGreatDoor
open Go.RowKit

def wr (f : Fld) : List UInt8 := if f.1 then quoteL f.2 else f.2
def okF (f : Fld) : Bool := if f.1 then textB f.2 else bareB f.2
def joinL : List Fld → List UInt8
  | [] => []
  | f :: r => wr f ++ (if r.isEmpty then [] else 32 :: joinL r)
theorem joinL_one (f : Fld) : joinL [f] = wr f := by simp [joinL]
theorem joinL_cons (f g : Fld) (r : List Fld) : joinL (f :: g :: r) = wr f ++ 32 :: joinL (g :: r) := by rw [joinL]; simp

theorem bare_any {l : List UInt8} (h : bareB l = true) : ∀ b ∈ l, 33 ≤ b.toNat ∧ b.toNat ≤ 126 ∧ b ≠ 34 := by
  unfold bareB withinB inB at h
  simp only [Bool.and_eq_true, List.all_eq_true, decide_eq_true_eq, Bool.not_eq_true', List.any_eq_false, beq_iff_eq] at h
  intro b hb
  have h1 := h.1.2 b hb
  exact ⟨by omega, by omega, h.2 b hb⟩
theorem bare_len {l : List UInt8} (h : bareB l = true) : 1 ≤ l.length ∧ l.length ≤ 200 := by
  unfold bareB at h
  simp only [Bool.and_eq_true, decide_eq_true_eq] at h
  exact ⟨h.1.1.1, h.1.1.2⟩
theorem bare_mk {l : List UInt8} (h1 : 1 ≤ l.length) (h2 : l.length ≤ 200) (h : ∀ b ∈ l, 33 ≤ b.toNat ∧ b.toNat ≤ 126 ∧ b ≠ 34) : bareB l = true := by
  unfold bareB withinB inB
  simp only [Bool.and_eq_true, List.all_eq_true, decide_eq_true_eq, Bool.not_eq_true', List.any_eq_false, beq_iff_eq]
  exact ⟨⟨⟨h1, h2⟩, fun b hb => by have := h b hb; omega⟩, fun b hb => (h b hb).2.2⟩
theorem wr_ne {f : Fld} (h : okF f = true) : wr f ≠ [] := by
  obtain ⟨q, t⟩ := f
  cases q with
  | true => simp [wr, quoteL]
  | false =>
    intro e
    have hb : bareB t = true := h
    have := bare_len hb
    have e' : t = [] := e
    rw [e'] at this
    simp at this

theorem idxF_cons (ins : Bool) (b : UInt8) (l : List UInt8) : idxF ins (b :: l) = if b = 32 ∧ ins = false then 0 else if idxF (if b = 34 then !ins else ins) l = -1 then -1 else idxF (if b = 34 then !ins else ins) l + 1 := by
  conv => lhs; unfold idxF
/-- The state behind a piece in which no field ends. -/
def thr : Bool → List UInt8 → Option Bool
  | ins, [] => some ins
  | ins, b :: l => if b = 32 ∧ ins = false then none else thr (if b = 34 then !ins else ins) l
theorem thr_cons (ins : Bool) (b : UInt8) (l : List UInt8) : thr ins (b :: l) = if b = 32 ∧ ins = false then none else thr (if b = 34 then !ins else ins) l := by
  conv => lhs; unfold thr
theorem thr_idx : ∀ (m : List UInt8) (ins ins' : Bool) (r : List UInt8), thr ins m = some ins' → idxF ins (m ++ r) = if idxF ins' r = -1 then -1 else (m.length : Int) + idxF ins' r
  | [], ins, ins', r, h => by
    simp only [thr, Option.some.injEq] at h
    subst h
    simp only [List.nil_append, List.length_nil]
    split
    · assumption
    · simp
  | b :: m, ins, ins', r, h => by
    rw [thr_cons] at h
    by_cases hb : b = 32 ∧ ins = false
    · rw [if_pos hb] at h; cases h
    · rw [if_neg hb] at h
      have ih := thr_idx m _ ins' r h
      show idxF ins (b :: (m ++ r)) = _
      rw [idxF_cons, if_neg hb, ih]
      have hge := idxF_ge ins' r
      by_cases hm : idxF ins' r = -1
      · rw [if_pos hm, if_pos rfl, if_pos hm]
      · rw [if_neg hm, if_neg (by omega), List.length_cons, if_neg hm]; omega
theorem thr_bare : ∀ (m : List UInt8), (∀ b ∈ m, 33 ≤ b.toNat ∧ b.toNat ≤ 126 ∧ b ≠ 34) → thr false m = some false
  | [], _ => rfl
  | b :: m, h => by
    have hb := h b (by simp)
    unfold thr
    rw [if_neg (fun e => by rw [e.1] at hb; have := hb.1; revert this; decide), if_neg hb.2.2]
    exact thr_bare m (fun c hc => h c (by simp [hc]))
theorem thr_app : ∀ (m : List UInt8) (ins ins' : Bool) (r : List UInt8), thr ins m = some ins' → thr ins (m ++ r) = thr ins' r
  | [], ins, ins', r, h => by
    simp only [thr, Option.some.injEq] at h
    subst h; rfl
  | b :: m, ins, ins', r, h => by
    rw [thr_cons] at h
    by_cases hb : b = 32 ∧ ins = false
    · rw [if_pos hb] at h; cases h
    · rw [if_neg hb] at h
      show thr ins (b :: (m ++ r)) = _
      rw [thr_cons, if_neg hb]
      exact thr_app m _ ins' r h
theorem thr_dbl : ∀ t : List UInt8, thr true (dblL t) = some true
  | [] => rfl
  | b :: t => by
    have ih := thr_dbl t
    rw [dblL_cons]
    by_cases hb : b = 34
    · subst hb
      rw [if_pos rfl]
      show thr true (34 :: 34 :: dblL t) = _
      simpa [thr] using ih
    · rw [if_neg hb]
      show thr true (b :: dblL t) = _
      simpa [thr, hb] using ih
theorem thr_quote (t : List UInt8) : thr false (quoteL t) = some false := by
  unfold quoteL
  show thr false (34 :: (dblL t ++ [34])) = _
  have h1 := thr_app (dblL t) true true [34] (thr_dbl t)
  have h2 : thr false (34 :: (dblL t ++ [34])) = thr true (dblL t ++ [34]) := by
    conv => lhs; unfold thr
    simp
  rw [h2, h1]
  simp [thr]
theorem thr_wr {f : Fld} (h : okF f = true) : thr false (wr f) = some false := by
  obtain ⟨q, t⟩ := f
  cases q with
  | true => exact thr_quote t
  | false => exact thr_bare t (bare_any h)
theorem pre_quote (l : List UInt8) : Lib.hasPrefix (34 :: l) [34] = true := by simp [Lib.hasPrefix, List.isPrefixOf]
theorem rdF_wr {f : Fld} (h : okF f = true) : rdF (wr f) = (f.1, f.2, true) := by
  obtain ⟨q, t⟩ := f
  cases q with
  | true =>
    have ht : textB t = true := h
    show rdF (quoteL t) = _
    unfold rdF
    rw [if_pos (show Lib.hasPrefix (quoteL t) [34] = true from pre_quote _), if_pos (by rw [unqB_quote, ht]), unq_quote]
  | false =>
    have hb : bareB t = true := h
    have ha := bare_any hb
    show rdF t = _
    unfold rdF
    have : Lib.hasPrefix t [34] = false := by
      cases t with
      | nil => rfl
      | cons b r =>
        have := (ha b (by simp)).2.2
        simp [Lib.hasPrefix, List.isPrefixOf]
        exact fun e => this e.symm
    rw [if_neg (by rw [this]; simp), hb]
theorem rdF_ok {p : List UInt8} {q : Bool} {t : List UInt8} (h : rdF p = (q, t, true)) : okF (q, t) = true ∧ wr (q, t) = p := by
  unfold rdF at h
  by_cases hq : Lib.hasPrefix p [34] = true
  · rw [if_pos hq] at h
    by_cases hu : unqB p = true
    · rw [if_pos hu] at h
      obtain ⟨h1, h2⟩ := unqB_yes hu
      simp only [Prod.mk.injEq] at h
      obtain ⟨rfl, rfl, _⟩ := h
      exact ⟨h1, h2⟩
    · rw [if_neg hu] at h; simp at h
  · rw [if_neg hq] at h
    simp only [Prod.mk.injEq] at h
    obtain ⟨rfl, rfl, hb⟩ := h
    exact ⟨hb, rfl⟩
theorem idxF_at : ∀ (ins : Bool) (l : List UInt8) (i : Nat), idxF ins l = i → ∃ r, l = l.take i ++ 32 :: r ∧ l.drop (i + 1) = r ∧ i < l.length
  | ins, [], i, h => by simp [idxF] at h
  | ins, b :: l, i, h => by
    rw [idxF_cons] at h
    by_cases hb : b = 32 ∧ ins = false
    · rw [if_pos hb] at h
      obtain rfl : i = 0 := by omega
      exact ⟨l, by rw [hb.1]; rfl, rfl, by simp⟩
    · rw [if_neg hb] at h
      by_cases hm : idxF (if b = 34 then !ins else ins) l = -1
      · rw [if_pos hm] at h; omega
      · rw [if_neg hm] at h
        obtain ⟨j, rfl⟩ : ∃ j, i = j + 1 := ⟨i - 1, by have := idxF_ge (if b = 34 then !ins else ins) l; omega⟩
        obtain ⟨r, h1, h2, h3⟩ := idxF_at (if b = 34 then !ins else ins) l j (by omega)
        exact ⟨r, by rw [List.take_succ_cons, List.cons_append, ← h1], by rw [List.drop_succ_cons]; exact h2, by simp; exact h3⟩

theorem splitGo_join : ∀ (k : Nat) (f : Fld) (r : List Fld), (∀ x ∈ f :: r, okF x = true) → r.length < k → splitGo k (joinL (f :: r)) = some (f :: r)
  | 0, _, _, _, h => absurd h (Nat.not_lt_zero _)
  | k + 1, f, [], hok, _ => by
    have hf := hok f (by simp)
    have hi := thr_idx (wr f) false false [] (thr_wr hf)
    rw [List.append_nil, if_pos (by rfl)] at hi
    rw [joinL_one]
    unfold splitGo
    rw [if_pos hi, rdF_wr hf]
    rfl
  | k + 1, f, g :: r, hok, hk => by
    have hf := hok f (by simp)
    have hi := thr_idx (wr f) false false (32 :: joinL (g :: r)) (thr_wr hf)
    have h0 : idxF false (32 :: joinL (g :: r)) = 0 := by simp [idxF]
    rw [h0, if_neg (by omega), Int.add_zero] at hi
    rw [joinL_cons]
    unfold splitGo
    rw [if_neg (by rw [hi]; omega), hi]
    have ih := splitGo_join k g r (fun x hx => hok x (by simp at hx ⊢; exact Or.inr hx)) (by simp at hk; omega)
    rw [Int.toNat_natCast, List.take_left, rdF_wr hf]
    have hd : (wr f ++ 32 :: joinL (g :: r)).drop ((wr f).length + 1) = joinL (g :: r) := by
      rw [List.drop_append]; simp
    rw [hd, ih]
    rfl
theorem splitGo_ok : ∀ (k : Nat) (l : List UInt8) (fs : List Fld), splitGo k l = some fs → (∀ x ∈ fs, okF x = true) ∧ joinL fs = l ∧ fs ≠ []
  | 0, _, _, h => by simp [splitGo] at h
  | k + 1, l, fs, h => by
    unfold splitGo at h
    by_cases hi : idxF false l = -1
    · rw [if_pos hi] at h
      rcases hr : rdF l with ⟨q, t, ok⟩
      rw [hr] at h
      cases ok with
      | false => simp at h
      | true =>
        obtain ⟨h1, h2⟩ := rdF_ok hr
        simp only [if_true, Option.some.injEq] at h
        subst h
        exact ⟨fun x hx => by simp at hx; subst hx; exact h1, by rw [joinL_one]; exact h2, by simp⟩
    · rw [if_neg hi] at h
      have hge := idxF_ge false l
      obtain ⟨i, hi2⟩ : ∃ i : Nat, idxF false l = i := ⟨(idxF false l).toNat, by omega⟩
      rw [hi2] at h
      simp only [Int.toNat_natCast] at h
      rcases hr : rdF (l.take i) with ⟨q, t, ok⟩
      rw [hr] at h
      cases ok with
      | false => simp at h
      | true =>
        obtain ⟨h1, h2⟩ := rdF_ok hr
        simp only [if_true, Option.map_eq_some_iff] at h
        obtain ⟨gs, hg, rfl⟩ := h
        obtain ⟨a1, a2, a3⟩ := splitGo_ok k _ gs hg
        obtain ⟨r, b1, b2, _⟩ := idxF_at false l i hi2
        cases gs with
        | nil => exact absurd rfl a3
        | cons g gs =>
          refine ⟨fun x hx => ?_, ?_, by simp⟩
          · rcases List.mem_cons.1 hx with rfl | hx
            · exact h1
            · exact a1 x hx
          · rw [joinL_cons, a2, h2, b2]; exact b1.symm
theorem joinL_len : ∀ (fs : List Fld), (∀ x ∈ fs, okF x = true) → fs.length ≤ (joinL fs).length
  | [], _ => Nat.le_refl _
  | [f], h => by
    have := wr_ne (h f (by simp))
    rw [joinL_one]
    have : 0 < (wr f).length := List.length_pos_iff.2 this
    simp; omega
  | f :: g :: r, h => by
    have := joinL_len (g :: r) (fun x hx => h x (by simp at hx ⊢; exact Or.inr hx))
    have hw : 0 < (wr f).length := List.length_pos_iff.2 (wr_ne (h f (by simp)))
    rw [joinL_cons]
    simp at this ⊢
    omega
theorem joinL_ne {f : Fld} {r : List Fld} (h : okF f = true) : joinL (f :: r) ≠ [] := by
  unfold joinL
  intro e
  exact wr_ne h (List.append_eq_nil_iff.1 e).1
theorem splitS_join {fs : List Fld} (h : ∀ x ∈ fs, okF x = true) : splitS (joinL fs) = some fs := by
  cases fs with
  | nil => rfl
  | cons f r =>
    unfold splitS
    have hl := joinL_len _ h
    rw [if_neg (joinL_ne (h f (by simp)))]
    exact splitGo_join _ f r h (by simp at hl; omega)
theorem splitS_ok {l : List UInt8} {fs : List Fld} (h : splitS l = some fs) : (∀ x ∈ fs, okF x = true) ∧ joinL fs = l := by
  unfold splitS at h
  by_cases hl : l = []
  · rw [if_pos hl] at h
    simp only [Option.some.injEq] at h
    subst h
    exact ⟨fun x hx => by simp at hx, hl.symm⟩
  · rw [if_neg hl] at h
    have := splitGo_ok _ _ _ h
    exact ⟨this.1, this.2.1⟩

/-- The reference: how many bytes a quoted field has behind its first mark; a bare field. -/
def qend : List UInt8 → Nat
  | [] => 0
  | b :: r => if b = 34 then (match r with
    | c :: r' => if c = 34 then 2 + qend r' else 1
    | [] => 1) else 1 + qend r
def bend : List UInt8 → Nat
  | [] => 0
  | b :: r => if b = 32 then 0 else 1 + bend r
def endL (l : List UInt8) : Nat := match l with
  | [] => 0
  | b :: r => if b = 34 then 1 + qend r else bend l
theorem qend_ne {b : UInt8} (hb : b ≠ 34) (r : List UInt8) : qend (b :: r) = 1 + qend r := by cases r <;> simp [qend, hb]
theorem qend_le : ∀ (n : Nat) (l : List UInt8), l.length ≤ n → qend l ≤ l.length
  | _, [], _ => Nat.le_refl _
  | 0, b :: r, h => by simp at h
  | n + 1, b :: r, h => by
    by_cases hb : b = 34
    · subst hb
      cases r with
      | nil => simp [qend]
      | cons c r' =>
        by_cases hc : c = 34
        · subst hc
          have := qend_le n r' (by simp at h; omega)
          simp [qend]; omega
        · simp [qend, hc]
    · rw [qend_ne hb]
      have := qend_le n r (by simp at h; omega)
      simp; omega
theorem bend_le : ∀ l : List UInt8, bend l ≤ l.length
  | [] => Nat.le_refl _
  | b :: r => by
    have := bend_le r
    unfold bend
    split <;> simp <;> omega
theorem endL_le (l : List UInt8) : endL l ≤ l.length := by
  cases l with
  | nil => exact Nat.le_refl _
  | cons b r =>
    have h1 := qend_le _ r (Nat.le_refl _)
    have h2 := bend_le (b :: r)
    simp only [endL]
    split
    · simp; omega
    · exact h2
theorem qend_dbl (r : List UInt8) (hr : r.head? ≠ some 34) : ∀ t : List UInt8, qend (dblL t ++ 34 :: r) = (dblL t).length + 1
  | [] => by
    show qend (34 :: r) = _
    cases r with
    | nil => rfl
    | cons c r' =>
      have hc : c ≠ 34 := fun e => hr (by rw [e]; rfl)
      simp [qend, hc, dblL]
  | b :: t => by
    have ih := qend_dbl r hr t
    rw [dblL_cons]
    by_cases hb : b = 34
    · subst hb
      rw [if_pos rfl]
      show qend (34 :: 34 :: (dblL t ++ 34 :: r)) = _
      simp [qend, ih]; omega
    · rw [if_neg hb]
      show qend (b :: (dblL t ++ 34 :: r)) = _
      rw [qend_ne hb, ih]; simp; omega
theorem bend_app (r : List UInt8) (hr : r = [] ∨ r.head? = some 32) : ∀ m : List UInt8, (∀ b ∈ m, b ≠ 32) → bend (m ++ r) = m.length
  | [], _ => by
    rcases hr with rfl | hr
    · rfl
    · cases r with
      | nil => rfl
      | cons b r => simp at hr; subst hr; simp [bend]
  | b :: m, h => by
    have := bend_app r hr m (fun c hc => h c (by simp [hc]))
    have hb := h b (by simp)
    show bend (b :: (m ++ r)) = _
    unfold bend
    rw [if_neg hb, this]; simp; omega
theorem endL_wr {f : Fld} (h : okF f = true) (r : List UInt8) (hr : r = [] ∨ r.head? = some 32) : endL (wr f ++ r) = (wr f).length := by
  obtain ⟨q, t⟩ := f
  cases q with
  | true =>
    have hr34 : r.head? ≠ some 34 := by
      rcases hr with rfl | hr
      · simp
      · rw [hr]; decide
    have : qend (dblL t ++ 34 :: r) = (dblL t).length + 1 := qend_dbl r hr34 t
    show endL (34 :: (dblL t ++ [34]) ++ r) = (34 :: (dblL t ++ [34])).length
    rw [List.cons_append, List.append_assoc]
    show endL (34 :: (dblL t ++ 34 :: r)) = _
    simp only [endL, if_true, this]
    simp; omega
  | false =>
    have ha := bare_any (show bareB t = true from h)
    have hl := bare_len (show bareB t = true from h)
    show endL (t ++ r) = t.length
    cases t with
    | nil => simp at hl
    | cons b m =>
      have hb := (ha b (by simp)).2.2
      show endL (b :: (m ++ r)) = _
      simp only [endL, if_neg hb]
      exact bend_app r hr (b :: m) (fun c hc e => by have := (ha c hc).1; rw [e] at this; revert this; decide)

def rightB (f : Fld) : Bool := if f.1 then textB f.2 else (!f.2.isEmpty && !(f.2.any fun b => b == 32 || b == 34) && textB f.2)
theorem right_ok (f : Fld) : rightB f = okF f := by
  obtain ⟨q, t⟩ := f
  cases q with
  | true => rfl
  | false =>
    show (!t.isEmpty && !(t.any fun b => b == 32 || b == 34) && textB t) = bareB t
    rw [Bool.eq_iff_iff]
    constructor
    · intro h
      unfold textB withinB inB at h
      simp only [Bool.and_eq_true, Bool.not_eq_true', List.any_eq_false, List.all_eq_true, decide_eq_true_eq, Bool.or_eq_true, beq_iff_eq, not_or] at h
      obtain ⟨⟨h1, h2⟩, h3, h4⟩ := h
      refine bare_mk ?_ h3 (fun b hb => ?_)
      · cases t with
        | nil => simp at h1
        | cons a r => simp
      · have := h4 b hb
        have h5 := (h2 b hb).1
        have : b.toNat ≠ 32 := fun e => h5 (UInt8.toNat.inj e)
        exact ⟨by omega, by omega, (h2 b hb).2⟩
    · intro h
      have ha := bare_any h
      have hl := bare_len h
      unfold textB withinB inB
      simp only [Bool.and_eq_true, Bool.not_eq_true', List.any_eq_false, List.all_eq_true, decide_eq_true_eq, Bool.or_eq_true, beq_iff_eq, not_or]
      refine ⟨⟨?_, fun b hb => ⟨fun e => ?_, (ha b hb).2.2⟩⟩, hl.2, fun b hb => ?_⟩
      · cases t with
        | nil => simp at hl
        | cons a r => rfl
      · have := (ha b hb).1
        rw [e] at this
        revert this; decide
      · have := ha b hb
        omega

/-- The field that the reference makes of what is written; none: it is no quotation. -/
def refF (x : List UInt8) : Option Fld := if x.head? = some 34 then (if unqB x then some (true, unqT x) else none) else some (false, x)
def refGo : Nat → List UInt8 → Option (List Fld)
  | _, [] => some []
  | 0, _ :: _ => none
  | k + 1, b :: l =>
    match refF ((b :: l).take (endL (b :: l))) with
    | none => none
    | some f => if !rightB f || (decide (endL (b :: l) < (b :: l).length) && (!((b :: l).getD (endL (b :: l)) 0 == 32) || decide (endL (b :: l) + 1 = (b :: l).length))) then none
      else (refGo k ((b :: l).drop (endL (b :: l) + 1))).map (f :: ·)
theorem refGo_nil (k : Nat) : refGo k [] = some [] := by cases k <;> rfl
theorem refF_wr {f : Fld} (h : okF f = true) : refF (wr f) = some f := by
  obtain ⟨q, t⟩ := f
  cases q with
  | true =>
    show refF (quoteL t) = _
    unfold refF
    rw [if_pos (show (quoteL t).head? = some 34 from rfl), unqB_quote, if_pos (show textB t = true from h), unq_quote]
  | false =>
    have ha := bare_any (show bareB t = true from h)
    show refF t = _
    unfold refF
    rw [if_neg]
    intro e
    cases t with
    | nil => simp at e
    | cons b m => simp at e; exact (ha b (by simp)).2.2 e
theorem refF_ok {x : List UInt8} {f : Fld} (h : refF x = some f) : wr f = x := by
  unfold refF at h
  by_cases hq : x.head? = some 34
  · rw [if_pos hq] at h
    by_cases hu : unqB x = true
    · rw [if_pos hu] at h
      simp only [Option.some.injEq] at h
      subst h
      exact (unqB_yes hu).2
    · rw [if_neg hu] at h; cases h
  · rw [if_neg hq] at h
    simp only [Option.some.injEq] at h
    subst h; rfl
theorem refGo_join : ∀ (k : Nat) (f : Fld) (r : List Fld), (∀ x ∈ f :: r, okF x = true) → r.length < k → refGo k (joinL (f :: r)) = some (f :: r)
  | 0, _, _, _, h => absurd h (Nat.not_lt_zero _)
  | k + 1, f, r, hok, hk => by
    have hf := hok f (by simp)
    obtain ⟨m, hm, hmr⟩ : ∃ m, joinL (f :: r) = wr f ++ m ∧ (m = [] ∧ r = [] ∨ m = 32 :: joinL r ∧ r ≠ []) := by
      refine ⟨_, rfl, ?_⟩
      cases r with
      | nil => exact Or.inl ⟨rfl, rfl⟩
      | cons g r => exact Or.inr ⟨rfl, by simp⟩
    have hr : m = [] ∨ m.head? = some 32 := by
      rcases hmr with h | h
      · exact Or.inl h.1
      · rw [h.1]; exact Or.inr rfl
    have he := endL_wr hf m hr
    have hne : wr f ++ m ≠ [] := fun e => wr_ne hf (List.append_eq_nil_iff.1 e).1
    rw [hm]
    obtain ⟨b, l, hbl⟩ : ∃ b l, wr f ++ m = b :: l := by
      cases hx : wr f ++ m with
      | nil => exact absurd hx hne
      | cons b l => exact ⟨b, l, rfl⟩
    rw [hbl] at he ⊢
    unfold refGo
    rw [he, ← hbl, List.take_left, refF_wr hf]
    simp only [right_ok, hf]
    rcases hmr with ⟨rfl, rfl⟩ | ⟨rfl, hrn⟩
    · have hd : (wr f ++ []).drop ((wr f).length + 1) = [] := List.drop_eq_nil_of_le (by simp)
      rw [hd, refGo_nil]
      simp
    · obtain ⟨g, r', rfl⟩ : ∃ g r', r = g :: r' := by
        cases r with
        | nil => exact absurd rfl hrn
        | cons g r' => exact ⟨g, r', rfl⟩
      have ih := refGo_join k g r' (fun x hx => hok x (by simp at hx ⊢; exact Or.inr hx)) (by simp at hk; omega)
      have hd : (wr f ++ 32 :: joinL (g :: r')).drop ((wr f).length + 1) = joinL (g :: r') := by
        rw [List.drop_append]; simp
      have hp : 0 < (joinL (g :: r')).length := List.length_pos_iff.2 (joinL_ne (hok g (by simp)))
      have h1 : (wr f ++ 32 :: joinL (g :: r')).getD (wr f).length 0 = 32 := by simp [List.getD_eq_getElem?_getD]
      have h2 : ¬ ((wr f).length + 1 = (wr f ++ 32 :: joinL (g :: r')).length) := by rw [List.length_append, List.length_cons]; omega
      rw [hd, ih, h1]
      simp only [decide_eq_false h2]
      simp
theorem refGo_ok : ∀ (k : Nat) (l : List UInt8) (fs : List Fld), refGo k l = some fs → (∀ x ∈ fs, okF x = true) ∧ joinL fs = l
  | k, [], fs, h => by
    rw [refGo_nil] at h
    simp only [Option.some.injEq] at h
    subst h
    exact ⟨fun x hx => by simp at hx, rfl⟩
  | 0, b :: l, fs, h => by simp [refGo] at h
  | k + 1, b :: l, fs, h => by
    unfold refGo at h
    obtain ⟨L, hL⟩ : ∃ L, b :: l = L := ⟨_, rfl⟩
    rw [hL] at h ⊢
    have hle := endL_le L
    obtain ⟨E, hE⟩ : ∃ E, endL L = E := ⟨_, rfl⟩
    rw [hE] at h hle
    cases hf : refF (L.take E) with
    | none => rw [hf] at h; cases h
    | some f =>
      rw [hf] at h
      have hw := refF_ok hf
      simp only [right_ok] at h
      by_cases hc : (!okF f || (decide (E < L.length) && (!(L.getD E 0 == 32) || decide (E + 1 = L.length)))) = true
      · rw [if_pos hc] at h; cases h
      · rw [if_neg hc] at h
        simp only [Bool.or_eq_true, Bool.not_eq_true', Bool.and_eq_true, decide_eq_true_eq, not_or, not_and] at hc
        have hof : okF f = true := by simpa using hc.1
        simp only [Option.map_eq_some_iff] at h
        obtain ⟨gs, hg, rfl⟩ := h
        obtain ⟨a1, a2⟩ := refGo_ok k _ gs hg
        refine ⟨fun x hx => ?_, ?_⟩
        · rcases List.mem_cons.1 hx with rfl | hx
          · exact hof
          · exact a1 x hx
        · by_cases hlt : E < L.length
          · have h2 := hc.2 hlt
            have h32 : L.getD E 0 = 32 := by simpa using h2.1
            have hne : L.drop (E + 1) ≠ [] := by
              intro e
              have := congrArg List.length e
              simp at this
              have := h2.2
              omega
            cases gs with
            | nil => exact absurd a2.symm hne
            | cons g gs =>
              rw [joinL_cons, a2, hw]
              have h4 : L[E] = 32 := by rw [← h32, List.getD_eq_getElem?_getD, List.getElem?_eq_getElem hlt]; rfl
              rw [← h4, ← List.drop_eq_getElem_cons hlt, List.take_append_drop]
          · have hn : L.drop (E + 1) = [] := List.drop_eq_nil_of_le (by omega)
            rw [hn] at a2
            cases gs with
            | nil => rw [joinL_one, hw]; exact List.take_of_length_le (by omega)
            | cons g gs => exact absurd a2 (joinL_ne (a1 g (by simp)))
theorem refGo_join' {fs : List Fld} {k : Nat} (h : ∀ x ∈ fs, okF x = true) (hk : fs.length ≤ k) : refGo k (joinL fs) = some fs := by
  cases fs with
  | nil => exact refGo_nil k
  | cons f r => exact refGo_join k f r h (by simp at hk; omega)
theorem refGo_split {l : List UInt8} {k : Nat} (hk : l.length ≤ k) : refGo k l = splitS l := by
  cases hr : refGo k l with
  | some fs =>
    obtain ⟨h1, h2⟩ := refGo_ok k l fs hr
    rw [← h2, splitS_join h1]
  | none =>
    cases hs : splitS l with
    | none => rfl
    | some fs =>
      obtain ⟨h1, h2⟩ := splitS_ok hs
      have hl := joinL_len fs h1
      rw [← h2, refGo_join' h1 (by rw [h2] at hl; omega)] at hr
      cases hr
end Go.Proofs.YtjddleipancaoaaGreatDoor
