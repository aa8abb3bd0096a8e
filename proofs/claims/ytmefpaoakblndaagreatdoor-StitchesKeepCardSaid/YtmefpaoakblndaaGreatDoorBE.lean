/- Plain theory of braids: the least word of a simple braid, the word of a normal form; words with one normal form become each other by the three rules. No program is named here. -/
import Derived.Test.YtmefpaoakblndaaGreatDoorBD
namespace Go.Proofs.YtmefpaoakblndaaGreatDoor

def firstB (n : Nat) (a : Pm) : Option Nat := (List.range (n - 1)).find? fun k => decide (a.beg k)
theorem firstB_none {n : Nat} {a : Pm} (ha : a.In n) (h : firstB n a = none) : a = idP := by
  refine id_of ha fun k hk hb => ?_
  unfold firstB at h
  rw [List.find?_eq_none] at h
  have := h k (by simp; omega)
  simp [hb] at this
theorem firstB_some {n k : Nat} {a : Pm} (h : firstB n a = some k) : k + 1 < n ∧ a.beg k := by
  unfold firstB at h
  have h1 := List.find?_some h
  have h2 := List.mem_of_find?_eq_some h
  simp at h1 h2
  exact ⟨by omega, h1⟩
def leastF (n : Nat) : Nat → Pm → List Int
  | 0, _ => []
  | m + 1, a => match firstB n a with
    | none => []
    | some k => ((k : Int) + 1) :: leastF n m (a.pre k)
def least (n : Nat) (a : Pm) : List Int := leastF n (cost n a) a
theorem leastF_more {n : Nat} : ∀ (m : Nat) (a : Pm), a.In n → cost n a ≤ m → leastF n m a = least n a
  | 0, a, _, h => by unfold least; rw [show cost n a = 0 by omega]
  | m + 1, a, ha, h => by
    cases hf : firstB n a with
    | none =>
      have h1 : ∀ k, leastF n k a = [] := fun k => by cases k <;> simp [leastF, hf]
      unfold least; rw [h1, h1]
    | some k =>
      obtain ⟨hk, hb⟩ := firstB_some hf
      have hc := cost_pre ha hk hb
      obtain ⟨c, hcc⟩ : ∃ c, cost n a = c + 1 := ⟨cost n a - 1, by omega⟩
      unfold least
      rw [hcc]
      simp only [leastF, hf]
      rw [leastF_more m _ (ha.pre hk) (by omega), leastF_more c _ (ha.pre hk) (by omega)]
termination_by m _ _ _ => m
decreasing_by all_goals omega
theorem least_step {n k : Nat} {a : Pm} (ha : a.In n) (h : firstB n a = some k) : least n a = ((k : Int) + 1) :: least n (a.pre k) := by
  obtain ⟨hk, hb⟩ := firstB_some h
  have hc := cost_pre ha hk hb
  rw [← leastF_more (cost n a + 1) a ha (by omega)]
  simp only [leastF, h]
  rw [leastF_more _ _ (ha.pre hk) (by omega)]
theorem least_none {n : Nat} {a : Pm} (ha : a.In n) (h : firstB n a = none) : least n a = [] := by
  rw [← leastF_more (cost n a + 1) a ha (by omega)]
  simp only [leastF, h]
theorem firstB_id (n : Nat) : firstB n idP = none := by
  unfold firstB
  rw [List.find?_eq_none]
  intro k _ h
  have h2 : idP.beg k := of_decide_eq_true h
  have h1 : k + 1 < k := h2
  omega
theorem least_id (n : Nat) : least n idP = [] := least_none (idP_in n) (firstB_id n)
theorem least_word {n : Nat} : ∀ (m : Nat) (a : Pm), a.In n → cost n a ≤ m → Word n (least n a)
  | m, a, ha, h => by
    cases hf : firstB n a with
    | none => rw [least_none ha hf]; exact fun z hz => by simp at hz
    | some k =>
      obtain ⟨hk, hb⟩ := firstB_some hf
      have hc := cost_pre ha hk hb
      rw [least_step ha hf]
      match m, h with
      | 0, h => omega
      | m + 1, h => exact Word.cons ⟨by omega, by omega, by omega⟩ (least_word m _ (ha.pre hk) (by omega))
theorem far_of {i j : Nat} (h : i + 1 < j ∨ j + 1 < i) : Far ((i : Int) + 1) ((j : Int) + 1) := ⟨i + 1, j + 1, Or.inl (by omega), Or.inl (by omega), by omega⟩
/-- A letter with which a simple braid begins may stand first. -/
theorem least_beg {n : Nat} : ∀ (m : Nat) (a : Pm) (k : Nat), a.In n → cost n a ≤ m → k + 1 < n → a.beg k → Eqv n (least n a) (((k : Int) + 1) :: least n (a.pre k))
  | 0, a, k, ha, h, hk, hb => by have := cost_pre ha hk hb; omega
  | m + 1, a, k, ha, h, hk, hb => by
    have hck := cost_pre ha hk hb
    cases hf : firstB n a with
    | none =>
      have := firstB_none ha hf
      subst this
      have h1 : k + 1 < k := hb
      omega
    | some f =>
      obtain ⟨hfn, hfb⟩ := firstB_some hf
      have hcf := cost_pre ha hfn hfb
      rw [least_step ha hf]
      rcases Nat.lt_trichotomy f k with hlt | rfl | hgt
      · by_cases hn : k = f + 1
        · subst hn
          -- neighbours
          have b1 : a.f (f + 1) < a.f f := hfb
          have b2 : a.f (f + 1 + 1) < a.f (f + 1) := hb
          have s1 : sw f (f + 1 + 1) = f + 1 + 1 := sw_o (by omega) (by omega)
          have s2 : sw (f + 1) f = f := sw_o (by omega) (by omega)
          have c1 : (a.pre f).beg (f + 1) := by
            show a.f (sw f (f + 1 + 1)) < a.f (sw f (f + 1)); rw [s1, sw_r]; omega
          have c2 : ((a.pre f).pre (f + 1)).beg f := by
            show a.f (sw f (sw (f + 1) (f + 1))) < a.f (sw f (sw (f + 1) f)); rw [sw_l, s2, s1, sw_l]; omega
          have d1 : (a.pre (f + 1)).beg f := by
            show a.f (sw (f + 1) (f + 1)) < a.f (sw (f + 1) f); rw [sw_l, s2]; omega
          have d2 : ((a.pre (f + 1)).pre f).beg (f + 1) := by
            show a.f (sw (f + 1) (sw f (f + 1 + 1))) < a.f (sw (f + 1) (sw f (f + 1))); rw [s1, sw_r, sw_r, s2]; omega
          have i1 := ha.pre hfn
          have i2 := ha.pre hk
          have e1 := cost_pre i1 hk c1
          have e2 := cost_pre i2 hfn d1
          have q1 := least_beg m _ (f + 1) i1 (by omega) hk c1
          have q2 := least_beg m _ f (i1.pre hk) (by omega) hfn c2
          have q3 := least_beg m _ f i2 (by omega) hfn d1
          have q4 := least_beg m _ (f + 1) (i2.pre hfn) (by omega) hk d2
          have w1 := (q1.trans (q2.cons _)).cons ((f : Int) + 1)
          have w2 := (q3.trans (q4.cons _)).cons (((f + 1 : Nat) : Int) + 1)
          rw [← pre_braid] at w2
          have br := Eqv.braid (n := n) [] (least n (((a.pre f).pre (f + 1)).pre f)) (i := (f : Int) + 1) (by omega) (by omega)
          have ef : ((f + 1 : Nat) : Int) + 1 = (f : Int) + 1 + 1 := by omega
          rw [ef] at w1 w2 ⊢
          exact w1.trans (br.trans w2.symm)
        · have hfar : f + 1 < k ∨ k + 1 < f := by omega
          have c1 : (a.pre f).beg k := (beg_pre_far hfar).2 hb
          have d1 : (a.pre k).beg f := (beg_pre_far (by omega)).2 hfb
          have q1 := least_beg m _ k (ha.pre hfn) (by omega) hk c1
          have q2 := least_beg m _ f (ha.pre hk) (by omega) hfn d1
          have w1 := q1.cons ((f : Int) + 1)
          have w2 := q2.cons ((k : Int) + 1)
          rw [pre_far _ hfar] at w1
          exact w1.trans ((Eqv.far [] _ (far_of hfar)).trans w2.symm)
      · exact .refl _
      · -- the first one is the least
        exfalso
        have h1 := List.find?_eq_some_iff_append.1 hf
        obtain ⟨_, l1, l2, e, hl⟩ := h1
        have hmem : k ∈ l1 := by
          have hk' : k ∈ List.range (n - 1) := by simp; omega
          rw [e] at hk'
          rcases List.mem_append.1 hk' with h | h
          · exact h
          · exfalso
            have hp : (List.range (n - 1)).Pairwise (· < ·) := List.pairwise_lt_range
            rw [e] at hp
            have hp2 := (List.pairwise_append.1 hp).2.1
            rcases List.mem_cons.1 h with h | h
            · omega
            · have := (List.pairwise_cons.1 hp2).1 k h; omega
        have := hl k hmem
        simp [hb] at this
theorem least_pre1 {n k : Nat} (hk : k + 1 < n) : Eqv n (least n (idP.pre k)) [(k : Int) + 1] := by
  have := least_beg _ (idP.pre k) k ((idP_in n).pre hk) (Nat.le_refl _) hk (by show sw k (k + 1) < sw k k; rw [sw_l, sw_r]; omega)
  rwa [Pm.pre_pre, least_id] at this
theorem least_post {n : Nat} : ∀ (m : Nat) (a : Pm) (k : Nat), a.In n → cost n a ≤ m → k + 1 < n → ¬ a.fin k → Eqv n (least n (a.post k)) (least n a ++ [(k : Int) + 1])
  | m, a, k, ha, h, hk, hb => by
    by_cases he : a = idP
    · subst he
      rw [least_id]
      have e : idP.post k = idP.pre k := Pm.ext' fun _ => rfl
      rw [e]
      exact least_pre1 hk
    · obtain ⟨f, hf, hfb⟩ := some_beg ha he
      have hc := cost_pre ha hf hfb
      match m, h with
      | 0, h => omega
      | m + 1, h =>
        have q1 := least_beg _ a f ha (Nat.le_refl _) hf hfb
        have q2 := least_beg _ (a.post k) f (ha.post hk) (Nat.le_refl _) hf (beg_post hfb hb)
        rw [← Pm.pre_post] at q2
        have ih := least_post m (a.pre f) k (ha.pre hf) (by omega) hk (fin_pre hfb hb)
        exact q2.trans ((ih.cons _).trans (q1.symm.right _))
def wd (n : Nat) (L : List Pm) : List Int := L.flatMap (least n)
theorem wd_app (n : Nat) (L M : List Pm) : wd n (L ++ M) = wd n L ++ wd n M := by simp [wd]
theorem wd_cons (n : Nat) (a : Pm) (M : List Pm) : wd n (a :: M) = least n a ++ wd n M := by simp [wd]
theorem wd_word {n : Nat} {L : List Pm} (h : AllIn n L) : Word n (wd n L) := fun z hz => by
  obtain ⟨a, ha, hz⟩ := List.mem_flatMap.1 hz
  exact least_word _ a (h a ha) (Nat.le_refl _) z hz
theorem Sl.eqv {n : Nat} {L L' : List Pm} (h : Sl n L L') (hi : AllIn n L) : Eqv n (wd n L) (wd n L') := by
  induction h with
  | here k a b L hk hb ha =>
    rw [wd_cons, wd_cons, wd_cons, wd_cons]
    have q1 := least_beg _ b k (hi b (by simp)) (Nat.le_refl _) hk hb
    have q2 := least_post _ a k (hi a (by simp)) (Nat.le_refl _) hk ha
    have w1 := (q1.right (wd n L)).left (least n a)
    have w2 := q2.right (least n (b.pre k) ++ wd n L)
    rw [List.append_assoc] at w2
    exact w1.trans w2.symm
  | there a _ ih =>
    rw [wd_cons, wd_cons]
    exact (ih (fun y hy => hi y (by simp [hy]))).left _
theorem St.eqv {n : Nat} {L L' : List Pm} (h : St n L L') (hi : AllIn n L) : Eqv n (wd n L) (wd n L') := by
  induction h with
  | refl => exact .refl _
  | step s _ ih => exact (s.eqv hi).trans (ih (s.allIn hi))

def rep (c : Nat) (w : List Int) : List Int := (List.replicate c w).flatten
theorem rep_succ (c : Nat) (w : List Int) : rep (c + 1) w = w ++ rep c w := by simp [rep, List.replicate_succ]
theorem rep_succ' (c : Nat) (w : List Int) : rep (c + 1) w = rep c w ++ w := by simp [rep, List.replicate_succ']
theorem rep_word {n c : Nat} {w : List Int} (h : Word n w) : Word n (rep c w) := by
  induction c with
  | zero => exact fun z hz => by simp [rep] at hz
  | succ c ih => rw [rep_succ]; exact h.app ih
def dw (n : Nat) : List Int := least n (dl n)
theorem dw_word (n : Nat) : Word n (dw n) := least_word _ _ (dl_in n) (Nat.le_refl _)
/-- Delta past a list of factors, which turns. -/
theorem dw_past {n : Nat} {L : List Pm} (hi : AllIn n L) : Eqv n (wd n (L.map (tu n)) ++ dw n) (dw n ++ wd n L) := by
  have h := dl_all (n := n) (L.map (tu n)) [] (allIn_tu hi)
  rw [map_tu_tu, List.append_nil] at h
  have := h.eqv (fun a ha => by
    rcases List.mem_append.1 ha with ha | ha
    · exact allIn_tu hi a ha
    · simp at ha; subst ha; exact dl_in n)
  rwa [wd_app, wd_cons, wd_cons, show wd n [] = [] from rfl, List.append_nil] at this
theorem dw_less {n k : Nat} (hk : k + 1 < n) : Eqv n (least n ((dl n).post k)) (dw n ++ [-((k : Int) + 1)]) := by
  have hlk : Letter n ((k : Int) + 1) := ⟨by omega, by omega, by omega⟩
  have q := least_post _ ((dl n).post k) k ((dl_in n).post hk) (Nat.le_refl _) hk (by
    show ¬ rev n (sw k (k + 1)) < rev n (sw k k)
    rw [sw_l, sw_r, rev_lt hk, rev_lt (by omega)]; omega)
  rw [Pm.post_post] at q
  have w := q.right [-((k : Int) + 1)]
  rw [List.append_assoc] at w
  have c := Eqv.canc (least n ((dl n).post k)) [] hlk
  rw [List.append_nil] at c
  exact (w.trans c).symm
theorem negs_nat (w : List Int) : ∃ c : Nat, negs w = c := by
  induction w using snoc_ind with
  | h0 => exact ⟨0, rfl⟩
  | h1 w z ih =>
    obtain ⟨c, hc⟩ := ih
    rw [negs_snoc]
    by_cases hp : 0 < z
    · rw [if_pos hp]; exact ⟨c, hc⟩
    · rw [if_neg hp]; exact ⟨c + 1, by omega⟩
theorem eqv_rl {n : Nat} (w : List Int) : Word n w → ∀ c : Nat, negs w = c → Eqv n w (rep c (inv (dw n)) ++ wd n (rl n w)) := by
  induction w using snoc_ind with
  | h0 =>
    intro _ c hc
    have : negs [] = 0 := rfl
    obtain rfl : c = 0 := by omega
    exact .refl _
  | h1 w z ih =>
    intro hw c hc
    have hz : Letter n z := hw z (by simp)
    have hi := rl_in w hw.left
    by_cases hp : 0 < z
    · obtain ⟨k, rfl, hk⟩ := pos_nat hz hp
      rw [negs_pos] at hc
      have h1 := ih hw.left c hc
      rw [rl_pos, wd_app, wd_cons, show wd n [] = [] from rfl, List.append_nil, ← List.append_assoc]
      exact h1.mul (least_pre1 hk).symm
    · obtain ⟨k, rfl, hk⟩ := neg_nat hz hp
      rw [negs_neg] at hc
      obtain ⟨d, hd⟩ := negs_nat w
      obtain rfl : c = d + 1 := by omega
      have h1 := ih hw.left d hd
      rw [rl_neg _ hk, wd_app, wd_cons, show wd n [] = [] from rfl, List.append_nil, rep_succ', List.append_assoc]
      have q1 := (dw_less hk).left (wd n ((rl n w).map (tu n)))
      rw [← List.append_assoc] at q1
      have q2 := (dw_past hi).right [-((k : Int) + 1)]
      have q3 := (q1.trans q2).left (inv (dw n))
      rw [List.append_assoc, ← List.append_assoc (inv (dw n)) (dw n)] at q3
      have q4 := (canc_l (dw n) (dw_word n)).right (wd n (rl n w) ++ [-((k : Int) + 1)])
      have q5 := (q3.trans q4).left (rep d (inv (dw n)))
      rw [List.nil_append, ← List.append_assoc (rep d (inv (dw n))) (wd n (rl n w))] at q5
      exact (h1.right _).trans q5.symm
def powW (n : Nat) (p : Int) : List Int := if p < 0 then rep (-p).toNat (inv (dw n)) else rep p.toNat (dw n)
theorem powW_word (n : Nat) (p : Int) : Word n (powW n p) := by
  unfold powW
  split
  · exact rep_word (dw_word n).inv
  · exact rep_word (dw_word n)
theorem pow_eqv (n : Nat) : ∀ (c k : Nat), Eqv n (rep c (inv (dw n)) ++ rep k (dw n)) (powW n ((k : Int) - c))
  | 0, k => by
    unfold powW
    rw [if_neg (by omega), show ((k : Int) - (0 : Nat)).toNat = k by omega]
    exact .refl _
  | c + 1, 0 => by
    unfold powW
    rw [if_pos (by omega), show (-((0 : Nat) - ((c + 1 : Nat) : Int))).toNat = c + 1 by omega, show rep 0 (dw n) = [] from rfl, List.append_nil]
    exact .refl _
  | c + 1, k + 1 => by
    have ih := pow_eqv n c k
    rw [show ((k + 1 : Nat) : Int) - ((c + 1 : Nat) : Int) = (k : Int) - c by omega]
    refine .trans ?_ ih
    rw [rep_succ', rep_succ, List.append_assoc, ← List.append_assoc (inv (dw n))]
    exact ((canc_l (dw n) (dw_word n)).right _).left _
theorem wd_norm (n k m : Nat) (F : List Pm) : wd n (List.replicate k (dl n) ++ (F ++ List.replicate m idP)) = rep k (dw n) ++ wd n F := by
  have h1 : wd n (List.replicate k (dl n)) = rep k (dw n) := by
    induction k with
    | zero => rfl
    | succ k ih => rw [List.replicate_succ, wd_cons, rep_succ, ih]; rfl
  have h2 : wd n (List.replicate m idP) = [] := by
    induction m with
    | zero => rfl
    | succ m ih => rw [List.replicate_succ, wd_cons, ih, least_id]; rfl
  rw [wd_app, wd_app, h1, h2, List.append_nil]
/-- The word of the normal form is the same braid. -/
theorem eqv_form {n : Nat} {w : List Int} {p : Int} {F : List Pm} (hw : Word n w) (h : IsN n w p F) : Eqv n w (powW n p ++ wd n F) := by
  obtain ⟨k, m, e, s⟩ := h.slides
  obtain ⟨c, hc⟩ := negs_nat w
  have h1 := eqv_rl w hw c hc
  have h2 := s.eqv (rl_in w hw)
  rw [wd_norm] at h2
  have h3 := h1.trans (h2.left _)
  rw [← List.append_assoc] at h3
  refine h3.trans ?_
  rw [e, hc]
  exact (pow_eqv n c k).right _
theorem nf_eqv {n : Nat} (hn : 2 ≤ n) {w v : List Int} (hw : Word n w) (hv : Word n v) (h : nf n w = nf n v) : Eqv n w v := by
  have h1 := eqv_form hw (nf_isN hn w hw)
  have h2 := eqv_form hv (nf_isN hn v hv)
  rw [h] at h1
  exact h1.trans h2.symm
theorem eqv_iff {n : Nat} (hn : 2 ≤ n) {w v : List Int} (hw : Word n w) (hv : Word n v) : nf n w = nf n v ↔ Eqv n w v := ⟨nf_eqv hn hw hv, fun h => h.nf hn hw⟩
theorem nf_form {n : Nat} (hn : 2 ≤ n) {w : List Int} (hw : Word n w) : Word n (powW n (nf n w).1 ++ wd n (nf n w).2) ∧ nf n (powW n (nf n w).1 ++ wd n (nf n w).2) = nf n w := by
  have h := nf_isN hn w hw
  have e := eqv_form hw h
  exact ⟨e.word.1 hw, (e.nf hn hw).symm⟩
end Go.Proofs.YtmefpaoakblndaaGreatDoor
