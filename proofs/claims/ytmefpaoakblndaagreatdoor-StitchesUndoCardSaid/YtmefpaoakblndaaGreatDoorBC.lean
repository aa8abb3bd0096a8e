/- Plain theory of braids: the normal form of a word, letter by letter; it is the one in which no letter can slide, so any other way of sliding leads to it too. No program is named here. -/
import Derived.Test.YtmefpaoakblndaaGreatDoorBB
namespace Go.Proofs.YtmefpaoakblndaaGreatDoor

/-- Equal as far as n places go. -/
def eqB (n : Nat) (a b : Pm) : Bool := (List.range n).all fun x => a.f x == b.f x
theorem eqB_iff {n : Nat} {a b : Pm} (ha : a.In n) (hb : b.In n) : eqB n a b = true ↔ a = b := by
  unfold eqB
  rw [List.all_eq_true]
  constructor
  · intro h
    refine Pm.ext' fun x => ?_
    rcases Nat.lt_or_ge x n with hx | hx
    · simpa using h x (List.mem_range.2 hx)
    · rw [ha x hx, hb x hx]
  · rintro rfl x _
    simp

/-- A new last factor s; R: the factors before it, the last one first; acc: those behind it. -/
def pushR (n : Nat) : List Pm → Pm → List Pm → List Pm
  | [], s, acc => s :: acc
  | a :: R, s, acc => if eqB n (take n a s).1 a then R.reverse ++ a :: s :: acc else pushR n R (take n a s).1 ((take n a s).2 :: acc)
theorem kept_ne {b B : Pm} {n : Nat} (hb : b.In n) (hk : Kept b B) (h : b ≠ idP) : B ≠ idP := by
  intro e
  obtain ⟨k, hk1, hk2⟩ := some_beg hb h
  have := hk k (k + 1) (by omega) hk2
  rw [e] at this
  have h1 : k + 1 < k := this
  omega
theorem rest_ne {n : Nat} {a b B a' B' e : Pm} (hb : b.In n) (hn : NP n a b) (hk : Kept b B) (h : b ≠ idP) (s : TS n a B a' B' e) : B' ≠ idP := by
  intro hB
  obtain ⟨k, k1, k2⟩ := some_beg hb h
  have h1 := hk k (k + 1) (by omega) k2
  have h2 : ∀ x, B.f x = e.f x := fun x => by rw [s.rest x, hB]; rfl
  rw [h2, h2] at h1
  have h3 := s.red k (k + 1) (by omega) h1
  have h4 : a.g (k + 1) < a.g k := hn k k1 k2
  omega
theorem rest_dl {n : Nat} {a B a' B' e : Pm} (s : TS n a B a' B' e) (h : B' = dl n) : a' = a := by
  have he : e = idP := by
    refine id_of s.ine (fun k hk hb => ?_)
    have h1 := s.sub k (k + 1) (by omega) hb
    rw [s.rest, s.rest, h] at h1
    have h2 : rev n (e.f (k + 1)) < rev n (e.f k) := h1
    have b1 := s.ine.lt (show k < n by omega)
    have b2 := s.ine.lt hk
    have hb' : e.f (k + 1) < e.f k := hb
    rw [rev_lt b1, rev_lt b2] at h2
    omega
  exact Pm.ext' fun x => by rw [s.mul, he]; rfl
theorem dl_left {n : Nat} {a : Pm} (ha : a.In n) (h : NP n a (dl n)) : a = dl n := dl_of ha fun k hk => h k hk (by
  show rev n (k + 1) < rev n k
  rw [rev_lt hk, rev_lt (by omega)]; omega)
theorem id_right {n : Nat} {b : Pm} (hb : b.In n) (h : NP n idP b) : b = idP := id_of hb fun k hk hbk => by
  have h1 : k + 1 < k := h k hk hbk
  omega
/-- The work of pushR behind its first round: R and b are the old form, B is what b has become, t the first of acc. -/
theorem pushR_spec {n : Nat} : ∀ (R : List Pm) (b B t : Pm) (acc : List Pm), AllIn n R → b.In n → B.In n → Chain n (R.reverse ++ [b]) → Kept b B → Dom n b B t → Chain n (B :: t :: acc) → b ≠ idP →
    (∀ x ∈ R, x ≠ idP ∧ x ≠ dl n) → (∀ x ∈ (t :: acc).dropLast, x ≠ idP) → (∀ x ∈ t :: acc, x ≠ dl n) →
    St n (R.reverse ++ B :: t :: acc) (pushR n R B (t :: acc)) ∧ Chain n (pushR n R B (t :: acc)) ∧ (∀ x ∈ (pushR n R B (t :: acc)).dropLast, x ≠ idP) ∧ (∀ x ∈ (pushR n R B (t :: acc)).tail, x ≠ dl n)
  | [], b, B, t, acc, _, hb, _, _, hk, _, hc, hne, _, h1, h2 => by
    refine ⟨.refl _, hc, fun x hx => ?_, fun x hx => h2 x hx⟩
    have hx' : x ∈ (B :: t :: acc).dropLast := hx
    rw [List.dropLast_cons_of_ne_nil (by simp)] at hx'
    rcases List.mem_cons.1 hx' with rfl | hx'
    · exact kept_ne hb hk hne
    · exact h1 x hx'
  | a :: R, b, B, t, acc, hi, hb, hB, hco, hk, hd, hc, hne, hR, h1, h2 => by
    have ha := hi a (by simp)
    obtain ⟨e, s⟩ := take_spec ha hB
    have hn : NP n a b := by
      have h3 : Chain n (R.reverse ++ (a :: [b])) := by
        rw [List.reverse_cons, List.append_assoc] at hco
        exact hco
      exact (Chain.right h3).1
    have hcR : Chain n (R.reverse ++ [a]) := by
      rw [List.reverse_cons] at hco
      exact Chain.left hco
    unfold pushR
    by_cases he : eqB n (take n a B).1 a = true
    · rw [if_pos he]
      have hs := (eqB_iff s.ina ha).1 he
      have hB' := s.same hs
      have hnp : NP n a B := by have := s.np; rwa [hs, hB'] at this
      have hch : Chain n (a :: B :: t :: acc) := ⟨hnp, hc⟩
      refine ⟨by rw [List.reverse_cons, List.append_assoc]; exact .refl _, Chain.glue hcR hch, fun x hx => ?_, fun x hx => ?_⟩
      · have e1 : (R.reverse ++ a :: B :: t :: acc).dropLast = R.reverse ++ a :: B :: (t :: acc).dropLast := by
          rw [List.dropLast_append_of_ne_nil (by simp), List.dropLast_cons_of_ne_nil (by simp), List.dropLast_cons_of_ne_nil (by simp)]
        rw [e1] at hx
        rcases List.mem_append.1 hx with hx | hx
        · exact (hR x (by simp at hx ⊢; exact Or.inr hx)).1
        · rcases List.mem_cons.1 hx with rfl | hx
          · exact (hR _ (by simp)).1
          · rcases List.mem_cons.1 hx with rfl | hx
            · exact kept_ne hb hk hne
            · exact h1 x hx
      · have hx' := List.mem_of_mem_tail hx
        rcases List.mem_append.1 hx' with hx | hx
        · exact (hR x (by simp at hx ⊢; exact Or.inr hx)).2
        · rcases List.mem_cons.1 hx with rfl | hx
          · exact (hR _ (by simp)).2
          · rcases List.mem_cons.1 hx with rfl | hx
            · intro e'
              rw [e'] at hnp
              exact (hR _ (by simp)).2 (dl_left ha hnp)
            · exact h2 x hx
    · rw [if_neg he]
      have hne' : (take n a B).1 ≠ a := fun e' => he ((eqB_iff s.ina ha).2 e')
      have ih := pushR_spec R a (take n a B).1 (take n a B).2 (t :: acc) (fun x hx => hi x (by simp [hx])) ha s.ina hcR (fun x y hxy hc' => s.keep hxy hc') (dom_of s)
        ⟨s.np, domino hn hk hd hB s, Chain.tail hc⟩ (hR a (by simp)).1 (fun x hx => hR x (by simp [hx]))
        (fun x hx => by
          rw [List.dropLast_cons_of_ne_nil (by simp)] at hx
          rcases List.mem_cons.1 hx with rfl | hx
          · exact rest_ne hb hn hk hne s
          · exact h1 x hx)
        (fun x hx => by
          rcases List.mem_cons.1 hx with rfl | hx
          · exact fun e' => hne' (rest_dl s e')
          · exact h2 x hx)
      refine ⟨?_, ih.2⟩
      rw [List.reverse_cons, List.append_assoc]
      exact (St.pre R.reverse (s.st (t :: acc))).trans ih.1

theorem push_spec {n : Nat} (R : List Pm) (s : Pm) (hi : AllIn n R) (hs : s.In n) (hc : Chain n R.reverse) (hR : ∀ x ∈ R, x ≠ idP ∧ x ≠ dl n) :
    St n (R.reverse ++ [s]) (pushR n R s []) ∧ Chain n (pushR n R s []) ∧ (∀ x ∈ (pushR n R s []).dropLast, x ≠ idP) ∧ (∀ x ∈ (pushR n R s []).tail, x ≠ dl n) := by
  cases R with
  | nil => exact ⟨.refl _, trivial, fun x hx => by simp [pushR] at hx, fun x hx => by simp [pushR] at hx⟩
  | cons a R =>
    have ha := hi a (by simp)
    obtain ⟨e, t⟩ := take_spec ha hs
    have hcR : Chain n (R.reverse ++ [a]) := by rw [List.reverse_cons] at hc; exact hc
    unfold pushR
    by_cases he : eqB n (take n a s).1 a = true
    · rw [if_pos he]
      have h1 := (eqB_iff t.ina ha).1 he
      have h2 := t.same h1
      have hnp : NP n a s := by have := t.np; rwa [h1, h2] at this
      have hch : Chain n (a :: s :: []) := ⟨hnp, trivial⟩
      refine ⟨by rw [List.reverse_cons, List.append_assoc]; exact .refl _, Chain.glue hcR hch, fun x hx => ?_, fun x hx => ?_⟩
      · rw [List.dropLast_append_of_ne_nil (by simp)] at hx
        rcases List.mem_append.1 hx with hx | hx
        · exact (hR x (by simp at hx ⊢; exact Or.inr hx)).1
        · simp at hx; subst hx
          exact (hR _ (by simp)).1
      · have hx' := List.mem_of_mem_tail hx
        rcases List.mem_append.1 hx' with hx | hx
        · exact (hR x (by simp at hx ⊢; exact Or.inr hx)).2
        · rcases List.mem_cons.1 hx with rfl | hx
          · exact (hR _ (by simp)).2
          · simp at hx; subst hx
            intro e'
            rw [e'] at hnp
            exact (hR _ (by simp)).2 (dl_left ha hnp)
    · rw [if_neg he]
      have hne' : (take n a s).1 ≠ a := fun e' => he ((eqB_iff t.ina ha).2 e')
      have ih := pushR_spec R a (take n a s).1 (take n a s).2 [] (fun x hx => hi x (by simp [hx])) ha t.ina hcR (fun x y hxy hc' => t.keep hxy hc') (dom_of t)
        ⟨t.np, trivial⟩ (hR a (by simp)).1 (fun x hx => hR x (by simp [hx])) (fun x hx => by simp at hx)
        (fun x hx => by
          simp at hx; subst hx
          exact fun e' => hne' (rest_dl t e'))
      refine ⟨?_, ih.2⟩
      rw [List.reverse_cons, List.append_assoc]
      exact (St.pre R.reverse (t.st [])).trans ih.1

/-- One letter more behind a normal form. -/
def dropFlat (n : Nat) (L : List Pm) : List Pm := if eqB n (L.getLastD (dl n)) idP then L.dropLast else L
def popDelta (n : Nat) (p : Int) (L : List Pm) : Int × List Pm := match L with
  | [] => (p, [])
  | a :: L => if eqB n a (dl n) then (p + 1, L) else (p, a :: L)
def stepN (n : Nat) (z : Int) (x : Int × List Pm) : Int × List Pm :=
  if 0 < z then popDelta n x.1 (dropFlat n (pushR n x.2.reverse (idP.pre (z - 1).toNat) []))
  else popDelta n (x.1 - 1) (dropFlat n (pushR n (x.2.map (tu n)).reverse ((dl n).pre (n + z - 1).toNat) []))
def nf (n : Nat) (w : List Int) : Int × List Pm := w.foldl (fun x z => stepN n z x) (0, [])
/-- The factors before anything slides: those of Delta to the power of -1 are counted alone. -/
def rlStep (n : Nat) (L : List Pm) (z : Int) : List Pm := if 0 < z then L ++ [idP.pre (z - 1).toNat] else L.map (tu n) ++ [(dl n).pre (n + z - 1).toNat]
def rl (n : Nat) (w : List Int) : List Pm := w.foldl (rlStep n) []
def negs (w : List Int) : Int := w.foldl (fun c z => if 0 < z then c else c + 1) 0
def Word (n : Nat) (w : List Int) : Prop := ∀ z ∈ w, z ≠ 0 ∧ -(n : Int) < z ∧ z < n
theorem nf_snoc (n : Nat) (w : List Int) (z : Int) : nf n (w ++ [z]) = stepN n z (nf n w) := by simp [nf]
theorem rl_snoc (n : Nat) (w : List Int) (z : Int) : rl n (w ++ [z]) = rlStep n (rl n w) z := by simp [rl]
theorem negs_snoc (w : List Int) (z : Int) : negs (w ++ [z]) = if 0 < z then negs w else negs w + 1 := by simp [negs]
theorem snoc_ind {α : Type} {P : List α → Prop} (h0 : P []) (h1 : ∀ l a, P l → P (l ++ [a])) (l : List α) : P l := by
  have : ∀ m : List α, P m.reverse := by
    intro m
    induction m with
    | nil => exact h0
    | cons a m ih => rw [List.reverse_cons]; exact h1 _ _ ih
  have h := this l.reverse
  rwa [List.reverse_reverse] at h
theorem Word.left {n : Nat} {w v : List Int} (h : Word n (w ++ v)) : Word n w := fun z hz => h z (by simp [hz])
theorem Word.right {n : Nat} {w v : List Int} (h : Word n (w ++ v)) : Word n v := fun z hz => h z (by simp [hz])
theorem Word.app {n : Nat} {w v : List Int} (h : Word n w) (k : Word n v) : Word n (w ++ v) := fun z hz => by
  rcases List.mem_append.1 hz with hz | hz
  · exact h z hz
  · exact k z hz
theorem rl_in {n : Nat} (w : List Int) : Word n w → AllIn n (rl n w) := by
  induction w using snoc_ind with
  | h0 => intro _ a ha; simp [rl] at ha
  | h1 w z ih =>
    intro hw
    have ih' := ih hw.left
    have hz := hw z (by simp)
    rw [rl_snoc]
    unfold rlStep
    by_cases hp : 0 < z
    · rw [if_pos hp]
      intro a ha
      rcases List.mem_append.1 ha with ha | ha
      · exact ih' a ha
      · simp at ha; subst ha
        exact (idP_in n).pre (by omega)
    · rw [if_neg hp]
      intro a ha
      rcases List.mem_append.1 ha with ha | ha
      · exact allIn_tu ih' a ha
      · simp at ha; subst ha
        exact (dl_in n).pre (by omega)

/-- (p, F) is the normal form of w. -/
structure IsN (n : Nat) (w : List Int) (p : Int) (F : List Pm) : Prop where
  slides : ∃ k m : Nat, p = (k : Int) - negs w ∧ St n (rl n w) (List.replicate k (dl n) ++ (F ++ List.replicate m idP))
  chain : Chain n F
  mids : ∀ a ∈ F, a ≠ idP ∧ a ≠ dl n
theorem np_id {n : Nat} (a : Pm) : NP n a idP := fun k _ h => by
  have h1 : k + 1 < k := h
  omega
theorem np_dl {n : Nat} (b : Pm) : NP n (dl n) b := fun k hk _ => by
  show rev n (k + 1) < rev n k
  rw [rev_lt hk, rev_lt (by omega)]; omega
theorem chain_ids {n : Nat} : ∀ (m : Nat), Chain n (List.replicate m idP)
  | 0 => trivial
  | 1 => trivial
  | m + 2 => ⟨np_id _, chain_ids (m + 1)⟩
theorem chain_back {n : Nat} (m : Nat) : ∀ {F : List Pm}, Chain n F → Chain n (F ++ List.replicate m idP)
  | [], _ => chain_ids m
  | [a], _ => by
    cases m with
    | zero => trivial
    | succ m => exact ⟨np_id _, chain_ids (m + 1)⟩
  | a :: b :: F, h => ⟨h.1, chain_back m (F := b :: F) h.2⟩
theorem chain_front {n : Nat} : ∀ (k : Nat) {F : List Pm}, Chain n F → Chain n (List.replicate k (dl n) ++ F)
  | 0, _, h => h
  | k + 1, F, h => by
    have ih := chain_front k h
    rw [List.replicate_succ, List.cons_append]
    cases hx : List.replicate k (dl n) ++ F with
    | nil => trivial
    | cons b L => rw [hx] at ih; exact ⟨np_dl _, ih⟩
theorem dl_ne {n : Nat} (h : 2 ≤ n) : dl n ≠ idP := by
  intro e
  have := congrFun (congrArg Pm.f e) 0
  have h1 : rev n 0 = 0 := this
  rw [rev_lt (by omega)] at h1
  omega
theorem norm_inj {n : Nat} (hn : 2 ≤ n) : ∀ {k k' m m' : Nat} {F F' : List Pm}, (∀ a ∈ F, a ≠ idP ∧ a ≠ dl n) → (∀ a ∈ F', a ≠ idP ∧ a ≠ dl n) →
    List.replicate k (dl n) ++ (F ++ List.replicate m idP) = List.replicate k' (dl n) ++ (F' ++ List.replicate m' idP) → k = k' ∧ F = F'
  | k + 1, k' + 1, m, m', F, F', h, h', e => by
    rw [List.replicate_succ, List.replicate_succ, List.cons_append, List.cons_append] at e
    have := norm_inj hn h h' (List.cons.inj e).2
    exact ⟨by omega, this.2⟩
  | k + 1, 0, m, m', F, F', h, h', e => by
    exfalso
    rw [List.replicate_succ, List.cons_append, List.replicate_zero, List.nil_append] at e
    cases F' with
    | nil =>
      cases m' with
      | zero => simp at e
      | succ m' => rw [List.nil_append, List.replicate_succ] at e; exact dl_ne hn (List.cons.inj e).1
    | cons a F' => exact (h' a (by simp)).2 (List.cons.inj e).1.symm
  | 0, k' + 1, m, m', F, F', h, h', e => by
    exfalso
    rw [List.replicate_succ, List.cons_append, List.replicate_zero, List.nil_append] at e
    cases F with
    | nil =>
      cases m with
      | zero => simp at e
      | succ m => rw [List.nil_append, List.replicate_succ] at e; exact dl_ne hn (List.cons.inj e).1.symm
    | cons a F => exact (h a (by simp)).2 (List.cons.inj e).1
  | 0, 0, m, m', F, F', h, h', e => by
    refine ⟨rfl, ?_⟩
    rw [List.replicate_zero, List.nil_append, List.nil_append] at e
    induction F generalizing F' with
    | nil =>
      cases F' with
      | nil => rfl
      | cons a F' =>
        exfalso
        cases m with
        | zero => simp at e
        | succ m => rw [List.nil_append, List.replicate_succ] at e; exact (h' a (by simp)).1 (List.cons.inj e).1.symm
    | cons b F ih =>
      cases F' with
      | nil =>
        exfalso
        cases m' with
        | zero => simp at e
        | succ m' => rw [List.nil_append, List.replicate_succ] at e; exact (h b (by simp)).1 (List.cons.inj e).1
      | cons a F' =>
        have h1 := (List.cons.inj e).1
        have h2 := ih F' (fun x hx => h x (List.mem_cons_of_mem _ hx)) (fun x hx => h' x (List.mem_cons_of_mem _ hx)) (List.cons.inj e).2
        rw [h1, h2]
theorem IsN.unique {n : Nat} {w : List Int} {p q : Int} {F G : List Pm} (hn : 2 ≤ n) (hw : Word n w) (h : IsN n w p F) (k : IsN n w q G) : p = q ∧ F = G := by
  obtain ⟨k1, m1, e1, s1⟩ := h.slides
  obtain ⟨k2, m2, e2, s2⟩ := k.slides
  have := St.unique (rl_in w hw) s1 s2 (Chain.nf (chain_front _ (chain_back _ h.chain))) (Chain.nf (chain_front _ (chain_back _ k.chain)))
  obtain ⟨hk, hF⟩ := norm_inj hn h.mids k.mids this
  exact ⟨by rw [e1, e2, hk], hF⟩
/-- Whatever both words slide to, they have one normal form. -/
theorem IsN.meet {n : Nat} {w v : List Int} {p : Int} {F M : List Pm} (hw : Word n w) (h : IsN n w p F) (s1 : St n (rl n w) M) (s2 : St n (rl n v) M) (hn : negs w = negs v) : IsN n v p F := by
  obtain ⟨k, m, e, s⟩ := h.slides
  obtain ⟨z, a, b⟩ := St.meet _ (Nat.le_refl _) (rl_in w hw) s s1
  have := (Chain.nf (chain_front k (chain_back m h.chain))).stay a
  rw [this] at b
  exact ⟨⟨k, m, by rw [e, hn], s2.trans b⟩, h.chain, h.mids⟩

theorem In_of_slides {n : Nat} {w : List Int} {p : Int} {F : List Pm} (hw : Word n w) (h : IsN n w p F) : AllIn n F := by
  obtain ⟨k, m, _, s⟩ := h.slides
  have := s.allIn (rl_in w hw)
  intro a ha
  exact this a (by simp [ha])
theorem map_rep (n k m : Nat) (F : List Pm) : (List.replicate k (dl n) ++ (F ++ List.replicate m idP)).map (tu n) = List.replicate k (dl n) ++ (F.map (tu n) ++ List.replicate m idP) := by
  simp [tu_dl, tu_id]
theorem getLastD_app {α : Type} (L : List α) (a d : α) : (L ++ [a]).getLastD d = a := by simp [List.getLastD_eq_getLast?]
/-- A factor behind a normal form, the empty one dropped, a Delta counted. -/
theorem add_spec {n : Nat} (_ : 2 ≤ n) {L F : List Pm} {s : Pm} {k m : Nat} (hF : AllIn n F) (hs : s.In n) (hc : Chain n F) (hm : ∀ a ∈ F, a ≠ idP ∧ a ≠ dl n)
    (hL : St n L (List.replicate k (dl n) ++ (F ++ List.replicate m idP))) (p : Int) :
    ∃ k' m' : Nat, St n (L ++ [s]) (List.replicate k' (dl n) ++ ((popDelta n p (dropFlat n (pushR n F.reverse s []))).2 ++ List.replicate m' idP)) ∧
      (popDelta n p (dropFlat n (pushR n F.reverse s []))).1 - p = (k' : Int) - k ∧ Chain n (popDelta n p (dropFlat n (pushR n F.reverse s []))).2 ∧
      (∀ a ∈ (popDelta n p (dropFlat n (pushR n F.reverse s []))).2, a ≠ idP ∧ a ≠ dl n) := by
  have hP := push_spec (n := n) F.reverse s (fun a ha => hF a (by simpa using ha)) hs (by rw [List.reverse_reverse]; exact hc) (fun x hx => hm x (by simpa using hx))
  rw [List.reverse_reverse] at hP
  obtain ⟨G, hG⟩ : ∃ G, pushR n F.reverse s [] = G := ⟨_, rfl⟩
  rw [hG] at hP ⊢
  obtain ⟨p1, p2, p3, p4⟩ := hP
  have hGin : AllIn n G := p1.allIn (fun a ha => by
    rcases List.mem_append.1 ha with ha | ha
    · exact hF a ha
    · simp at ha; subst ha; exact hs)
  have hlen : G.length = F.length + 1 := by have := p1.len; simpa using this
  have hall : St n (L ++ [s]) (List.replicate k (dl n) ++ (G ++ List.replicate m idP)) := by
    refine (hL.app [s]).trans ?_
    rw [List.append_assoc, List.append_assoc]
    refine St.pre _ ?_
    have h1 := St.pre F (ids_slide hs m)
    have h2 := p1.app (List.replicate m idP)
    rw [List.append_assoc] at h2
    exact h1.trans h2
  -- the last one
  obtain ⟨H, x, hHx⟩ : ∃ H x, G = H ++ [x] := by
    refine ⟨G.dropLast, G.getLast (by intro e; rw [e] at hlen; simp at hlen), ?_⟩
    exact (List.dropLast_concat_getLast _).symm
  subst hHx
  have hdf : ∃ m' : Nat, ∃ D : List Pm, dropFlat n (H ++ [x]) = D ∧ H ++ [x] ++ List.replicate m idP = D ++ List.replicate m' idP ∧ Chain n D ∧ (∀ a ∈ D, a ≠ idP) ∧ (∀ a ∈ D.tail, a ≠ dl n) ∧ AllIn n D := by
    unfold dropFlat
    rw [getLastD_app, List.dropLast_concat]
    have hx := hGin x (by simp)
    rw [List.dropLast_concat] at p3
    by_cases he : eqB n x idP = true
    · rw [if_pos he]
      have hxi := (eqB_iff hx (idP_in n)).1 he
      refine ⟨m + 1, H, rfl, by rw [hxi, List.append_assoc, List.replicate_succ]; rfl, Chain.left p2, p3, fun a ha => ?_, fun a ha => hGin a (by simp [ha])⟩
      cases H with
      | nil => simp at ha
      | cons b H => exact p4 a (by simp at ha ⊢; exact Or.inl ha)
    · rw [if_neg he]
      refine ⟨m, H ++ [x], rfl, rfl, p2, fun a ha => ?_, p4, hGin⟩
      rcases List.mem_append.1 ha with ha | ha
      · exact p3 a ha
      · simp at ha; subst ha
        exact fun e => he ((eqB_iff hx (idP_in n)).2 e)
  obtain ⟨m', D, hD, hDe, d1, d2, d3, d4⟩ := hdf
  rw [hD]
  rw [hDe] at hall
  cases D with
  | nil => exact ⟨k, m', hall, by show p - p = _; omega, trivial, fun a ha => by simp [popDelta] at ha⟩
  | cons a D =>
    unfold popDelta
    simp only
    by_cases he : eqB n a (dl n) = true
    · rw [if_pos he]
      have ha := (eqB_iff (d4 a (by simp)) (dl_in n)).1 he
      subst ha
      refine ⟨k + 1, m', ?_, by show p + 1 - p = ((k + 1 : Nat) : Int) - k; omega, Chain.tail d1, fun x hx => ⟨d2 x (by simp [hx]), d3 x hx⟩⟩
      have e1 : List.replicate (k + 1) (dl n) ++ (D ++ List.replicate m' idP) = List.replicate k (dl n) ++ (dl n :: D ++ List.replicate m' idP) := by
        rw [List.replicate_succ', List.append_assoc]; rfl
      rw [e1]
      exact hall
    · rw [if_neg he]
      refine ⟨k, m', hall, by show p - p = _; omega, d1, fun x hx => ⟨d2 x hx, ?_⟩⟩
      rcases List.mem_cons.1 hx with rfl | hx
      · exact fun e => he ((eqB_iff (d4 _ (by simp)) (dl_in n)).2 e)
      · exact d3 x hx
theorem step_isN {n : Nat} (hn : 2 ≤ n) {w : List Int} {z : Int} {x : Int × List Pm} (hw : Word n (w ++ [z])) (h : IsN n w x.1 x.2) : IsN n (w ++ [z]) (stepN n z x).1 (stepN n z x).2 := by
  have hz := hw z (by simp)
  have hF := In_of_slides hw.left h
  obtain ⟨k, m, e, s⟩ := h.slides
  unfold stepN
  by_cases hp : 0 < z
  · rw [if_pos hp]
    obtain ⟨k', m', s', e', c', d'⟩ := add_spec hn (L := rl n w) (s := idP.pre (z - 1).toNat) hF ((idP_in n).pre (by omega)) h.chain h.mids s x.1
    refine ⟨⟨k', m', ?_, ?_⟩, c', d'⟩
    · rw [negs_snoc, if_pos hp]; omega
    · rw [rl_snoc]; unfold rlStep; rw [if_pos hp]; exact s'
  · rw [if_neg hp]
    have s2 := s.tu (rl_in w hw.left)
    rw [map_rep] at s2
    obtain ⟨k', m', s', e', c', d'⟩ := add_spec hn (L := (rl n w).map (tu n)) (s := (dl n).pre (n + z - 1).toNat) (allIn_tu hF) ((dl_in n).pre (by omega)) (chain_tu hF h.chain)
      (fun a ha => by
        obtain ⟨b, hb, rfl⟩ := List.mem_map.1 ha
        have := h.mids b hb
        exact ⟨fun e => this.1 (by rw [← tu_tu n b, e, tu_id]), fun e => this.2 (by rw [← tu_tu n b, e, tu_dl])⟩) s2 (x.1 - 1)
    refine ⟨⟨k', m', ?_, ?_⟩, c', d'⟩
    · rw [negs_snoc, if_neg hp]; omega
    · rw [rl_snoc]; unfold rlStep; rw [if_neg hp]; exact s'
theorem nf_isN {n : Nat} (hn : 2 ≤ n) (w : List Int) : Word n w → IsN n w (nf n w).1 (nf n w).2 := by
  induction w using snoc_ind with
  | h0 => exact fun _ => ⟨⟨0, 0, rfl, .refl _⟩, trivial, fun a ha => by simp [nf] at ha⟩
  | h1 w z ih =>
    intro hw
    rw [nf_snoc]
    exact step_isN hn hw (ih hw.left)
theorem nf_unique {n : Nat} (hn : 2 ≤ n) {w : List Int} {p : Int} {F : List Pm} (hw : Word n w) (h : IsN n w p F) : nf n w = (p, F) := by
  obtain ⟨a, b⟩ := (nf_isN hn w hw).unique hn hw h
  exact Prod.ext a b
theorem nf_meet {n : Nat} (hn : 2 ≤ n) {w v : List Int} {M : List Pm} (hw : Word n w) (hv : Word n v) (s1 : St n (rl n w) M) (s2 : St n (rl n v) M) (e : negs w = negs v) : nf n w = nf n v := by
  have := nf_unique hn hv ((nf_isN hn w hw).meet hw s1 s2 e)
  rw [this]
end Go.Proofs.YtmefpaoakblndaaGreatDoor
