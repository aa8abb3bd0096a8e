/- Words that act alike in every group are equal as braids. No program is named here. -/
import Derived.Test.YtnfppebcpagjpaaEB
namespace Go.Proofs.Ytnfppebcpagjpaa
/-- Bijections of a set. -/
structure Bj (X : Type) where
  f : X → X
  g : X → X
  fg : ∀ x, f (g x) = x
  gf : ∀ x, g (f x) = x
theorem Bj.ext' {X : Type} {a b : Bj X} (h : ∀ x, a.f x = b.f x) : a = b := by
  have hf : a.f = b.f := funext h
  have hg : a.g = b.g := funext fun x => by
    have h1 : a.f (a.g x) = a.f (b.g x) := by rw [a.fg, h, b.fg]
    have := congrArg a.g h1
    rwa [a.gf, a.gf] at this
  cases a; cases b
  cases hf; cases hg
  rfl
def bjG (X : Type) : Gp (Bj X) where
  m a b := ⟨fun x => a.f (b.f x), fun x => b.g (a.g x), fun x => by simp only [a.fg, b.fg], fun x => by simp only [a.gf, b.gf]⟩
  e := ⟨fun x => x, fun x => x, fun _ => rfl, fun _ => rfl⟩
  i a := ⟨a.g, a.f, a.gf, a.fg⟩
  asc _ _ _ := rfl
  em _ := rfl
  me _ := rfl
  im a := Bj.ext' a.gf
  mi a := Bj.ext' a.fg
/-- A group, beside sets of its elements. -/
def lpG {F : Type} (K : Gp F) : Gp ((F → Bool) × F) where
  m a b := (fun x => xor (a.1 x) (b.1 (K.m (K.i a.2) x)), K.m a.2 b.2)
  e := (fun _ => false, K.e)
  i a := (fun x => a.1 (K.m a.2 x), K.i a.2)
  asc a b c := by
    refine Prod.ext (funext fun x => ?_) (K.asc _ _ _)
    simp only [K.i_m, K.asc, Bool.xor_assoc]
  em a := by
    refine Prod.ext (funext fun x => ?_) (K.em _)
    simp only [K.i_e, K.em, Bool.false_xor]
  me a := by
    refine Prod.ext (funext fun x => ?_) (K.me _)
    simp only [Bool.xor_false]
  im a := by
    refine Prod.ext (funext fun x => ?_) (K.im _)
    simp only [K.i_i, Bool.xor_self]
  mi a := by
    refine Prod.ext (funext fun x => ?_) (K.mi _)
    simp only [K.mia, Bool.xor_self]
noncomputable def lamp {F : Type} (K : Gp F) (y : F) : (F → Bool) × F := (fun x => @decide (x = y) (Classical.propDecidable _), K.e)
theorem lamp_inj {F : Type} (K : Gp F) {y z : F} (h : lamp K y = lamp K z) : y = z := by
  have h1 := congrFun (congrArg Prod.fst h) y
  simp only [lamp, decide_true] at h1
  exact @of_decide_eq_true _ (Classical.propDecidable _) h1.symm
theorem lamp_not {F : Type} (K : Gp F) {y h : F} (e : lamp K y = (fun _ => false, h)) : False := by
  have h1 := congrFun (congrArg Prod.fst e) y
  simp [lamp] at h1
theorem lamp_conj {F : Type} (K : Gp F) (a : (F → Bool) × F) (y : F) : (lpG K).m ((lpG K).m a (lamp K y)) ((lpG K).i a) = lamp K (K.m a.2 y) := by
  refine Prod.ext (funext fun x => ?_) ?_
  · show xor (xor (a.1 x) (@decide (K.m (K.i a.2) x = y) (Classical.propDecidable _))) (a.1 (K.m a.2 (K.m (K.i (K.m a.2 K.e)) x))) = @decide (x = K.m a.2 y) (Classical.propDecidable _)
    rw [K.me, K.mia]
    have e : (K.m (K.i a.2) x = y) = (x = K.m a.2 y) := propext ⟨fun h => by rw [← h, K.mia], fun h => by rw [h, K.ima]⟩
    have e2 : @decide (K.m (K.i a.2) x = y) (Classical.propDecidable _) = @decide (x = K.m a.2 y) (Classical.propDecidable _) := by congr
    rw [e2]
    cases a.1 x <;> cases @decide (x = K.m a.2 y) (Classical.propDecidable _) <;> rfl
  · show K.m (K.m a.2 K.e) (K.i a.2) = K.e
    rw [K.me, K.mi]
theorem lamp_conj' {F : Type} (K : Gp F) (a : (F → Bool) × F) (y : F) : (lpG K).m ((lpG K).m ((lpG K).i a) (lamp K y)) a = lamp K (K.m (K.i a.2) y) := by
  have := lamp_conj K ((lpG K).i a) y
  rwa [(lpG K).i_i] at this
def cc {F : Type} (K : Gp F) (N : Nat) (h : Nat → F) : Nat → F
  | 0 => K.e
  | d + 1 => K.m (h (N - (d + 1))) (cc K N h d)
noncomputable def tauS {F : Type} (K : Gp F) (N d : Nat) (h : Nat → F) (y : F) (g : Nat → (F → Bool) × F) : Nat → (F → Bool) × F :=
  fun j => if j = N - d then lamp K (K.m (cc K N h d) y) else if N - d < j ∧ j ≤ N then g (j - 1) else g j
theorem tau_hz {F : Type} (K : Gp F) (N : Nat) (h : Nat → F) (y : F) (g : Nat → (F → Bool) × F) (hN : g N = lamp K y) (hh : ∀ j, j < N → (g j).2 = h j) : ∀ d, d ≤ N → hzW (lpG K) g (tau N d) = tauS K N d h y g
  | 0, _ => by
    funext j
    show g j = _
    unfold tauS
    by_cases h1 : j = N - 0
    · rw [if_pos h1, show j = N by omega, hN]
      show lamp K y = lamp K (K.m K.e y)
      rw [K.em]
    · rw [if_neg h1, if_neg (by omega)]
  | d + 1, hd => by
    have ih := tau_hz K N h y g hN hh d (by omega)
    show hzW (lpG K) g (tau N d ++ [(N : Int) - d]) = _
    rw [hzW_app, ih, hzW_one]
    obtain ⟨k, hk⟩ : ∃ k, N - d = k + 1 := ⟨N - d - 1, by omega⟩
    rw [show (N : Int) - d = (k : Int) + 1 by omega, hz_pos]
    have hk2 : N - (d + 1) = k := by omega
    have e1 : tauS K N d h y g k = g k := by unfold tauS; rw [if_neg (by omega), if_neg (by omega)]
    have e2 : tauS K N d h y g (k + 1) = lamp K (K.m (cc K N h d) y) := by unfold tauS; rw [if_pos hk.symm]
    funext j
    by_cases h1 : j = k
    · subst h1
      rw [hzP_l, e1, e2, lamp_conj, hh j (by omega)]
      unfold tauS
      rw [if_pos hk2.symm]
      show _ = lamp K (K.m (K.m (h (N - (d + 1))) (cc K N h d)) y)
      rw [hk2, K.asc]
    · by_cases h2 : j = k + 1
      · subst h2
        rw [hzP_r, e1]
        unfold tauS
        rw [if_neg (by omega), if_pos (by omega)]
        rfl
      · rw [hzP_o _ _ h1 h2]
        unfold tauS
        rw [if_neg (show ¬ j = N - d by omega), if_neg (show ¬ j = N - (d + 1) by omega)]
        by_cases h3 : N - d < j ∧ j ≤ N
        · rw [if_pos h3, if_pos (by omega)]
        · rw [if_neg h3, if_neg (by omega)]
/-- Back from a state behind tau. -/
theorem tau_back {F : Type} (K : Gp F) (N a : Nat) (h : Nat → F) (y Y : F) (g S : Nat → (F → Bool) × F) (ha : 0 < a) (haN : a ≤ N) (_ : g N = lamp K y) (hh : ∀ j, j < N → (g j).2 = h j)
    (hS : ∀ j, j ≠ a - 1 → j ≠ a → S j = tauS K N (N - a) h y g j) (hl : S a = lamp K (K.m (cc K N h (N - a)) (K.m Y y))) (hk : (S (a - 1)).2 = h (a - 1)) :
    ∃ g', hzW (lpG K) S (inv (tau N (N - a))) = g' ∧ g' N = lamp K (K.m Y y) ∧ ∀ j, j < N → (g' j).2 = h j := by
  let g' : Nat → (F → Bool) × F := fun j => if j = N then lamp K (K.m Y y) else if j = a - 1 then S (a - 1) else g j
  have gN : g' N = lamp K (K.m Y y) := if_pos rfl
  have gk : g' (a - 1) = S (a - 1) := by show (if _ then _ else _) = _; rw [if_neg (by omega), if_pos rfl]
  have go : ∀ j, j ≠ N → j ≠ a - 1 → g' j = g j := fun j h1 h2 => by show (if _ then _ else _) = _; rw [if_neg h1, if_neg h2]
  have gh : ∀ j, j < N → (g' j).2 = h j := fun j hj => by
    by_cases h1 : j = a - 1
    · rw [h1, gk, hk]
    · rw [go j (by omega) h1, hh j hj]
  have e : hzW (lpG K) g' (tau N (N - a)) = S := by
    rw [tau_hz K N h (K.m Y y) g' gN gh (N - a) (by omega)]
    funext j
    by_cases h1 : j = a
    · subst h1
      unfold tauS
      rw [if_pos (by omega), hl]
    · by_cases h2 : j = a - 1
      · subst h2
        unfold tauS
        rw [if_neg (by omega), if_neg (by omega), gk]
      · rw [hS j h2 h1]
        unfold tauS
        rw [if_neg (show ¬ j = N - (N - a) by omega), if_neg (show ¬ j = N - (N - a) by omega)]
        by_cases h3 : N - (N - a) < j ∧ j ≤ N
        · rw [if_pos h3, if_pos h3, go _ (by omega) (by omega)]
        · rw [if_neg h3, if_neg h3, go _ (by omega) h2]
  exact ⟨g', by rw [← e, hzW_inv (lpG K) _ (tau_word (N := N) (by omega))], gN, gh⟩
def Xs {F : Type} (K : Gp F) (X : Nat → F) (x : Int) : F := if 0 < x then X (x.natAbs - 1) else K.i (X (x.natAbs - 1))
theorem al1_hz {F : Type} (K : Gp F) (N : Nat) (h : Nat → F) (y : F) (g : Nat → (F → Bool) × F) (hN : g N = lamp K y) (hh : ∀ j, j < N → (g j).2 = h j) {x : Int} (hx : Letter (N + 1) x) :
    ∃ g', hzW (lpG K) g (al1 N x) = g' ∧ g' N = lamp K (K.m (K.m (K.m (K.i (cc K N h (N - x.natAbs))) (Xs K h x)) (cc K N h (N - x.natAbs))) y) ∧ ∀ j, j < N → (g' j).2 = h j := by
  have := hx.1; have := hx.2.1; have := hx.2.2
  obtain ⟨a, ha⟩ : ∃ a, x.natAbs = a := ⟨_, rfl⟩
  rw [ha]
  obtain ⟨k, rfl⟩ : ∃ k, a = k + 1 := ⟨a - 1, by omega⟩
  have hk : k + 1 ≤ N := by omega
  have et := tau_hz K N h y g hN hh (N - (k + 1)) (by omega)
  have e1 : tauS K N (N - (k + 1)) h y g k = g k := by unfold tauS; rw [if_neg (by omega), if_neg (by omega)]
  have e2 : tauS K N (N - (k + 1)) h y g (k + 1) = lamp K (K.m (cc K N h (N - (k + 1))) y) := by unfold tauS; rw [if_pos (by omega)]
  by_cases hp : 0 < x
  · unfold al1 Xs Aw
    rw [if_pos hp, if_pos hp, ha, hzW_app, et, show tauS K N (N - (k + 1)) h y g = tauS K N (N - (k + 1)) h y g from rfl]
    show ∃ g', hzW (lpG K) (hz (lpG K) (hz (lpG K) (tauS K N (N - (k + 1)) h y g) (((k + 1 : Nat) : Int))) ((k + 1 : Nat) : Int)) _ = g' ∧ _
    rw [show ((k + 1 : Nat) : Int) = (k : Int) + 1 by omega, hz_pos, hz_pos]
    refine tau_back K N (k + 1) h y _ g _ (by omega) hk hN hh (fun j h1 h2 => ?_) ?_ ?_
    · rw [hzP_o _ _ (by omega) h2, hzP_o _ _ (by omega) h2]
    · rw [hzP_r, hzP_l, e1, e2, lamp_conj, hh k (by omega)]
      simp only [K.asc, K.mia]
      rfl
    · simp only [Nat.add_sub_cancel]
      rw [hzP_l, hzP_r, hzP_l, e1, e2, lamp_conj]
      show K.m (K.m K.e (g k).2) (K.i K.e) = h k
      rw [K.em, K.i_e, K.me, hh k (by omega)]
  · unfold al1 Xs
    rw [if_neg hp, if_neg hp, ha]
    unfold Aw
    simp only [inv_app, inv_cons, inv_inv, List.append_assoc]
    rw [hzW_app, et]
    show ∃ g', hzW (lpG K) (hz (lpG K) (hz (lpG K) (tauS K N (N - (k + 1)) h y g) (-((k + 1 : Nat) : Int))) (-((k + 1 : Nat) : Int))) _ = g' ∧ _
    rw [show ((k + 1 : Nat) : Int) = (k : Int) + 1 by omega, hz_neg, hz_neg]
    have e3 : hzN (lpG K) (tauS K N (N - (k + 1)) h y g) k (k + 1) = (lpG K).m ((lpG K).m ((lpG K).i (lamp K (K.m (cc K N h (N - (k + 1))) y))) (g k)) (lamp K (K.m (cc K N h (N - (k + 1))) y)) := by rw [hzN_r, e1, e2]
    have e4 : (hzN (lpG K) (tauS K N (N - (k + 1)) h y g) k (k + 1)).2 = h k := by
      rw [e3]
      show K.m (K.m (K.i K.e) (g k).2) K.e = h k
      rw [K.i_e, K.em, K.me, hh k (by omega)]
    refine tau_back K N (k + 1) h y _ g _ (by omega) hk hN hh (fun j h1 h2 => ?_) ?_ ?_
    · rw [hzN_o _ _ (by omega) h2, hzN_o _ _ (by omega) h2]
    · rw [hzN_r, hzN_l, e2, lamp_conj', e4]
      simp only [K.asc, K.mia]
      rfl
    · simp only [Nat.add_sub_cancel]
      rw [hzN_l, e4]
def Dd {F : Type} (K : Gp F) (N : Nat) (X : Nat → F) : Nat → F
  | 0 => K.e
  | d + 1 => K.m (Dd K N X d) (X (N - (d + 1)))
/-- The values that the last strand's way meets as the letters X. -/
def hX {F : Type} (K : Gp F) (N : Nat) (X : Nat → F) (j : Nat) : F := K.m (K.m (Dd K N X (N - 1 - j)) (X j)) (K.i (Dd K N X (N - 1 - j)))
theorem cc_hX {F : Type} (K : Gp F) (N : Nat) (X : Nat → F) : ∀ d, d ≤ N → cc K N (hX K N X) d = Dd K N X d
  | 0, _ => rfl
  | d + 1, hd => by
    show K.m (hX K N X (N - (d + 1))) (cc K N (hX K N X) d) = K.m (Dd K N X d) (X (N - (d + 1)))
    rw [cc_hX K N X d (by omega)]
    unfold hX
    rw [show N - 1 - (N - (d + 1)) = d by omega, K.asc, K.im, K.me]
theorem way_hX {F : Type} (K : Gp F) (N : Nat) (X : Nat → F) {x : Int} (hx : Letter (N + 1) x) : K.m (K.m (K.i (cc K N (hX K N X) (N - x.natAbs))) (Xs K (hX K N X) x)) (cc K N (hX K N X) (N - x.natAbs)) = Xs K X x := by
  have := hx.1; have := hx.2.1; have := hx.2.2
  rw [cc_hX K N X _ (by omega)]
  unfold Xs hX
  rw [show N - 1 - (x.natAbs - 1) = N - x.natAbs by omega]
  split
  · simp only [K.asc, K.ima, K.im, K.me]
  · simp only [K.asc, K.i_m, K.i_i, K.ima, K.im, K.me]
theorem al_hz {F : Type} (K : Gp F) (N : Nat) (X : Nat → F) : ∀ (u : List Int), Word (N + 1) u → ∀ (y : F) (g : Nat → (F → Bool) × F), g N = lamp K y → (∀ j, j < N → (g j).2 = hX K N X j) →
    ∃ g', hzW (lpG K) g (al N u) = g' ∧ g' N = lamp K (u.foldl (fun y x => K.m (Xs K X x) y) y) ∧ ∀ j, j < N → (g' j).2 = hX K N X j
  | [], _, _, g, h1, h2 => ⟨g, rfl, h1, h2⟩
  | x :: u, hu, y, g, h1, h2 => by
    obtain ⟨g1, e1, n1, c1⟩ := al1_hz K N (hX K N X) y g h1 h2 (hu x (by simp))
    rw [way_hX K N X (hu x (by simp))] at n1
    obtain ⟨g2, e2, n2, c2⟩ := al_hz K N X u (fun z hz => hu z (by simp [hz])) _ g1 n1 c1
    exact ⟨g2, by rw [al_cons, hzW_app, e1, e2], n2, c2⟩
/-- Letters laid on a stack that cancel. -/
def psh (z : Int) : List Int → List Int
  | [] => [z]
  | y :: t => if y = -z then t else z :: y :: t
def Rd : List Int → Prop
  | [] => True
  | [_] => True
  | a :: b :: t => a ≠ -b ∧ Rd (b :: t)
theorem Rd.tail {a : Int} {t : List Int} (h : Rd (a :: t)) : Rd t := by
  cases t with
  | nil => trivial
  | cons b t => exact h.2
theorem psh_eq (z y : Int) (t : List Int) (h : y = -z) : psh z (y :: t) = t := if_pos h
theorem psh_ne (z y : Int) (t : List Int) (h : ¬ y = -z) : psh z (y :: t) = z :: y :: t := if_neg h
theorem psh_rd {z : Int} : ∀ {s : List Int}, Rd s → Rd (psh z s)
  | [], _ => trivial
  | y :: t, h => by
    by_cases hn : y = -z
    · rw [psh_eq z y t hn]
      exact h.tail
    · rw [psh_ne z y t hn]
      exact ⟨fun e => hn (by omega), h⟩
theorem psh_psh (z : Int) : ∀ {s : List Int}, Rd s → psh (-z) (psh z s) = s
  | [], _ => by simp [psh]
  | y :: t, h => by
    by_cases hy : y = -z
    · subst hy
      have e : psh z (-z :: t) = t := by simp [psh]
      rw [e]
      cases t with
      | nil => rfl
      | cons b t =>
        exact psh_ne (-z) b t fun e => h.1 (by omega)
    · have e : psh z (y :: t) = z :: y :: t := by simp [psh, hy]
      rw [e]
      simp [psh]
abbrev Rs := {s : List Int // Rd s}
def pshB (z : Int) : Bj Rs := ⟨fun s => ⟨psh z s.1, psh_rd s.2⟩, fun s => ⟨psh (-z) s.1, psh_rd s.2⟩, fun s => Subtype.ext (by have := psh_psh (-z) s.2; rwa [Int.neg_neg] at this), fun s => Subtype.ext (psh_psh z s.2)⟩
theorem pshB_neg (z : Int) : (bjG Rs).i (pshB z) = pshB (-z) := Bj.ext' fun _ => rfl
def genX (j : Nat) : Bj Rs := pshB ((j : Int) + 1)
theorem Xs_gen {x : Int} (h : x ≠ 0) : Xs (bjG Rs) genX x = pshB x := by
  unfold Xs genX
  split
  · rw [show ((x.natAbs - 1 : Nat) : Int) + 1 = x by omega]
  · rw [pshB_neg, show -(((x.natAbs - 1 : Nat) : Int) + 1) = x by omega]
def stk (s : List Int) (w : List Int) : List Int := w.foldl (fun s z => psh z s) s
theorem stk_gen : ∀ (u : List Int), (∀ x ∈ u, x ≠ 0) → ∀ (y : Bj Rs) (s : Rs), ((u.foldl (fun y x => (bjG Rs).m (Xs (bjG Rs) genX x) y) y).f s).1 = stk (y.f s).1 u
  | [], _, _, _ => rfl
  | x :: u, h, y, s => by
    rw [List.foldl_cons, stk_gen u (fun z hz => h z (by simp [hz])), Xs_gen (h x (by simp))]
    rfl
theorem al_stk {N : Nat} : ∀ (u s : List Int), Word (N + 1) u → Word (N + 1) s → Eqv (N + 1) (al N s.reverse ++ al N u) (al N (stk s u).reverse)
  | [], s, _, _ => by rw [al_nil, List.append_nil]; exact .refl _
  | z :: u, s, hu, hs => by
    have hz := hu z (by simp)
    have hu' : Word (N + 1) u := fun x hx => hu x (by simp [hx])
    show Eqv (N + 1) _ (al N (stk (psh z s) u).reverse)
    cases s with
    | nil =>
      have := al_stk u [z] hu' (Word.one hz)
      show Eqv (N + 1) _ (al N (stk [z] u).reverse)
      rw [al_cons]
      simpa [al] using this
    | cons y t =>
      have ht : Word (N + 1) t := fun x hx => hs x (by simp [hx])
      by_cases hy : y = -z
      · have e : psh z (y :: t) = t := by simp [psh, hy]
        rw [e]
        refine Eqv.trans ?_ (al_stk u t hu' ht)
        rw [List.reverse_cons, al_app, al_cons, al_nil, List.append_nil, al_cons, hy, ← al1_inv N hz.1]
        have := ((canc_l (al1 N z) (al1_word hz)).right (al N u)).left (al N t.reverse)
        simpa using this
      · have e : psh z (y :: t) = z :: y :: t := by simp [psh, hy]
        rw [e]
        have := al_stk u (z :: y :: t) hu' (Word.cons hz hs)
        rw [List.reverse_cons, al_app, al_cons (z := z), al_nil, List.append_nil, List.append_assoc] at this
        rw [al_cons (z := z)]
        exact this
theorem Eqv.mono {n m : Nat} (hm : n ≤ m) {w v : List Int} (h : Eqv n w v) : Eqv m w v := by
  induction h with
  | refl => exact .refl _
  | symm _ ih => exact ih.symm
  | trans _ _ ih1 ih2 => exact ih1.trans ih2
  | canc a b h => exact .canc a b ⟨h.1, by have := h.2.1; omega, by have := h.2.2; omega⟩
  | far a b h => exact .far a b h
  | braid a b h k => exact .braid a b h (by omega)
theorem faithful : ∀ (n : Nat) (w : List Int), Word n w → (∀ (G : Type) (K : Gp G) (g : Nat → G) (j : Nat), j < n → hzW K g w j = g j) → Eqv n w []
  | 0, w, hw, _ => by
    cases w with
    | nil => exact .refl _
    | cons z w => have := hw z (by simp); omega
  | N + 1, w, hw, H => by
    obtain ⟨u, v, d, hd, hu, hv, hE⟩ := comb w hw
    let K := bjG Rs
    let g0 : Nat → (Bj Rs → Bool) × Bj Rs := fun j => if j = N then lamp K K.e else (fun _ => false, hX K N genX j)
    have g0N : g0 N = lamp K K.e := if_pos rfl
    have g0j : ∀ j, j < N → g0 j = (fun _ => false, hX K N genX j) := fun j hj => if_neg (by omega)
    obtain ⟨g1, e1, n1, c1⟩ := al_hz K N genX u hu K.e g0 g0N (fun j hj => by rw [g0j j hj])
    have H0 := H _ (lpG K) g0 (N - d) (by omega)
    rw [hE.hz (lpG K) hw, hzW_app, e1, hzW_app] at H0
    have n2 := (hzW_keep (lpG K) v hv g1 N (Nat.le_refl _)).trans n1
    rw [tau_hz K N (fun j => (hzW (lpG K) g1 v j).2) _ (hzW (lpG K) g1 v) n2 (fun _ _ => rfl) d hd] at H0
    unfold tauS at H0
    rw [if_pos rfl] at H0
    have hd0 : d = 0 := by
      apply Classical.byContradiction
      intro hne
      rw [g0j _ (by omega)] at H0
      exact lamp_not K H0
    subst hd0
    have H1 := lamp_inj K (H0.trans g0N)
    have H2 : (u.foldl (fun y x => K.m (Xs K genX x) y) K.e) = K.e := by
      have : K.m (cc K N (fun j => (hzW (lpG K) g1 v j).2) 0) (u.foldl (fun y x => K.m (Xs K genX x) y) K.e) = u.foldl (fun y x => K.m (Xs K genX x) y) K.e := K.em _
      rw [← this]
      exact H1
    have H3 := stk_gen u (fun x hx => (hu x hx).1) K.e ⟨[], trivial⟩
    rw [H2] at H3
    have H4 : stk [] u = [] := H3.symm
    have H5 := al_stk (N := N) u [] hu (fun x hx => by simp at hx)
    rw [H4] at H5
    have H6 : Eqv (N + 1) (al N u) [] := H5
    have H7 : Eqv (N + 1) w v := hE.trans (by
      have := H6.right v
      show Eqv (N + 1) (al N u ++ (v ++ [])) v
      rw [List.append_nil]
      exact this)
    have H8 : Eqv N v [] := faithful N v hv fun G K' g j hj => by
      rw [← H7.hz K' hw]
      exact H G K' g j (by omega)
    exact H7.trans (H8.mono (by omega))
theorem faithful2 {n : Nat} {a b : List Int} (ha : Word n a) (hb : Word n b) (H : ∀ (G : Type) (K : Gp G) (g : Nat → G) (j : Nat), j < n → hzW K g a j = hzW K g b j) : Eqv n a b := by
  have h := faithful n (a ++ inv b) (ha.app hb.inv) fun G K g j _ => by
    have e : hzW K g a = hzW K g b := funext fun i => by
      by_cases hi : i < n
      · exact H G K g i hi
      · rw [hzW_keep K a ha g i (by omega), hzW_keep K b hb g i (by omega)]
    rw [hzW_app, e, hzW_inv K b hb]
  have h1 := h.right b
  have h2 := (canc_l b hb).left a
  simp only [List.append_assoc, List.nil_append, List.append_nil] at h1 h2
  exact h2.symm.trans h1
end Go.Proofs.Ytnfppebcpagjpaa
