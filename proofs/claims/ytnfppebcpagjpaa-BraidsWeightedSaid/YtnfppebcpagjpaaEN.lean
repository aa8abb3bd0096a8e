/- The action on letters: it respects the three rules, and words that act alike are equal as braids; the reference's product and Act walked. -/
import Derived.Test.YtnfppebcpagjpaaBE
import Derived.Test.YtnfppebcpagjpaaCG
import Derived.Test.YtnfppebcpagjpaaDB
namespace Go.Proofs.Ytnfppebcpagjpaa
structure Gp (G : Type) where
  m : G → G → G
  e : G
  i : G → G
  asc : ∀ a b c, m (m a b) c = m a (m b c)
  em : ∀ a, m e a = a
  me : ∀ a, m a e = a
  im : ∀ a, m (i a) a = e
  mi : ∀ a, m a (i a) = e
theorem Gp.ima {G : Type} (K : Gp G) (a b : G) : K.m (K.i a) (K.m a b) = b := by rw [← K.asc, K.im, K.em]
theorem Gp.mia {G : Type} (K : Gp G) (a b : G) : K.m a (K.m (K.i a) b) = b := by rw [← K.asc, K.mi, K.em]
theorem Gp.canc {G : Type} (K : Gp G) {a b c : G} (h : K.m a b = K.m a c) : b = c := by
  have := congrArg (K.m (K.i a)) h
  rwa [K.ima, K.ima] at this
theorem Gp.inv_of {G : Type} (K : Gp G) {a b : G} (h : K.m a b = K.e) : b = K.i a := K.canc (a := a) (by rw [h, K.mi])
theorem Gp.i_m {G : Type} (K : Gp G) (a b : G) : K.i (K.m a b) = K.m (K.i b) (K.i a) := (K.inv_of (by rw [K.asc, ← K.asc b, K.mi, K.em, K.mi])).symm
theorem Gp.i_i {G : Type} (K : Gp G) (a : G) : K.i (K.i a) = a := (K.inv_of (K.im a)).symm
theorem Gp.i_e {G : Type} (K : Gp G) : K.i K.e = K.e := (K.inv_of (K.em _)).symm
/-- One letter: neighbours exchange places, one of them conjugated. -/
def hzP {G : Type} (K : Gp G) (g : Nat → G) (k : Nat) : Nat → G := fun j => if j = k then K.m (K.m (g k) (g (k + 1))) (K.i (g k)) else if j = k + 1 then g k else g j
def hzN {G : Type} (K : Gp G) (g : Nat → G) (k : Nat) : Nat → G := fun j => if j = k then g (k + 1) else if j = k + 1 then K.m (K.m (K.i (g (k + 1))) (g k)) (g (k + 1)) else g j
def hz {G : Type} (K : Gp G) (g : Nat → G) (z : Int) : Nat → G := if 0 < z then hzP K g (z.natAbs - 1) else hzN K g (z.natAbs - 1)
def hzW {G : Type} (K : Gp G) (g : Nat → G) (w : List Int) : Nat → G := w.foldl (hz K) g
theorem hzW_app {G : Type} (K : Gp G) (g : Nat → G) (u v : List Int) : hzW K g (u ++ v) = hzW K (hzW K g u) v := by simp [hzW]
theorem hzW_one {G : Type} (K : Gp G) (g : Nat → G) (z : Int) : hzW K g [z] = hz K g z := rfl
theorem hzW_nil {G : Type} (K : Gp G) (g : Nat → G) : hzW K g [] = g := rfl
theorem hz_pos {G : Type} (K : Gp G) (g : Nat → G) (k : Nat) : hz K g ((k : Int) + 1) = hzP K g k := by
  unfold hz; rw [if_pos (by omega), show ((k : Int) + 1).natAbs - 1 = k by omega]
theorem hz_neg {G : Type} (K : Gp G) (g : Nat → G) (k : Nat) : hz K g (-((k : Int) + 1)) = hzN K g k := by
  unfold hz; rw [if_neg (by omega), show (-((k : Int) + 1)).natAbs - 1 = k by omega]
theorem hzP_l {G : Type} (K : Gp G) (g : Nat → G) (k : Nat) : hzP K g k k = K.m (K.m (g k) (g (k + 1))) (K.i (g k)) := by simp [hzP]
theorem hzP_r {G : Type} (K : Gp G) (g : Nat → G) (k : Nat) : hzP K g k (k + 1) = g k := by simp [hzP]
theorem hzP_o {G : Type} (K : Gp G) (g : Nat → G) {k j : Nat} (h1 : j ≠ k) (h2 : j ≠ k + 1) : hzP K g k j = g j := by simp [hzP, h1, h2]
theorem hzN_l {G : Type} (K : Gp G) (g : Nat → G) (k : Nat) : hzN K g k k = g (k + 1) := by simp [hzN]
theorem hzN_r {G : Type} (K : Gp G) (g : Nat → G) (k : Nat) : hzN K g k (k + 1) = K.m (K.m (K.i (g (k + 1))) (g k)) (g (k + 1)) := by simp [hzN]
theorem hzN_o {G : Type} (K : Gp G) (g : Nat → G) {k j : Nat} (h1 : j ≠ k) (h2 : j ≠ k + 1) : hzN K g k j = g j := by simp [hzN, h1, h2]
theorem hzPN {G : Type} (K : Gp G) (g : Nat → G) (k : Nat) : hzN K (hzP K g k) k = g := by
  funext j
  by_cases h1 : j = k
  · subst h1; rw [hzN_l, hzP_r]
  · by_cases h2 : j = k + 1
    · subst h2; rw [hzN_r, hzP_r, hzP_l, K.asc, K.asc, K.asc, K.im, K.me, K.ima]
    · rw [hzN_o K _ h1 h2, hzP_o K _ h1 h2]
theorem hzNP {G : Type} (K : Gp G) (g : Nat → G) (k : Nat) : hzP K (hzN K g k) k = g := by
  funext j
  by_cases h1 : j = k
  · subst h1; rw [hzP_l, hzN_l, hzN_r, K.asc, K.asc, K.asc, K.mi, K.me, K.mia]
  · by_cases h2 : j = k + 1
    · subst h2; rw [hzP_r, hzN_l]
    · rw [hzP_o K _ h1 h2, hzN_o K _ h1 h2]
theorem hz_canc {G : Type} (K : Gp G) (g : Nat → G) {z : Int} (h : z ≠ 0) : hz K (hz K g z) (-z) = g := by
  by_cases hp : 0 < z
  · obtain ⟨k, rfl⟩ : ∃ k : Nat, z = (k : Int) + 1 := ⟨(z - 1).toNat, by omega⟩
    rw [hz_pos, hz_neg, hzPN]
  · obtain ⟨k, rfl⟩ : ∃ k : Nat, z = -((k : Int) + 1) := ⟨(-z - 1).toNat, by omega⟩
    rw [hz_neg, Int.neg_neg, hz_pos, hzNP]
theorem hz_loc {G : Type} (K : Gp G) (g : Nat → G) (z : Int) {j : Nat} (h1 : j ≠ z.natAbs - 1) (h2 : j ≠ z.natAbs - 1 + 1) : hz K g z j = g j := by
  unfold hz
  split
  · exact hzP_o K g h1 h2
  · exact hzN_o K g h1 h2
/-- What a letter makes of two values. -/
def hzA {G : Type} (K : Gp G) (z : Int) (a b : G) : G := if 0 < z then K.m (K.m a b) (K.i a) else b
def hzB {G : Type} (K : Gp G) (z : Int) (a b : G) : G := if 0 < z then a else K.m (K.m (K.i b) a) b
theorem hz_l {G : Type} (K : Gp G) (g : Nat → G) (z : Int) : hz K g z (z.natAbs - 1) = hzA K z (g (z.natAbs - 1)) (g (z.natAbs - 1 + 1)) := by
  unfold hz hzA
  split
  · exact hzP_l K g _
  · exact hzN_l K g _
theorem hz_r {G : Type} (K : Gp G) (g : Nat → G) (z : Int) : hz K g z (z.natAbs - 1 + 1) = hzB K z (g (z.natAbs - 1)) (g (z.natAbs - 1 + 1)) := by
  unfold hz hzB
  split
  · exact hzP_r K g _
  · exact hzN_r K g _
theorem hz_far {G : Type} (K : Gp G) (g : Nat → G) {a b : Int} (h : a.natAbs - 1 + 1 < b.natAbs - 1 ∨ b.natAbs - 1 + 1 < a.natAbs - 1) : hz K (hz K g a) b = hz K (hz K g b) a := by
  funext j
  by_cases a1 : j = a.natAbs - 1
  · subst a1
    rw [hz_loc K _ b (by omega) (by omega), hz_l, hz_l, hz_loc K _ b (by omega) (by omega), hz_loc K _ b (by omega) (by omega)]
  · by_cases a2 : j = a.natAbs - 1 + 1
    · subst a2
      rw [hz_loc K _ b (by omega) (by omega), hz_r, hz_r, hz_loc K _ b (by omega) (by omega), hz_loc K _ b (by omega) (by omega)]
    · rw [hz_loc K _ a a1 a2]
      by_cases b1 : j = b.natAbs - 1
      · subst b1
        rw [hz_l, hz_l, hz_loc K _ a (by omega) (by omega), hz_loc K _ a (by omega) (by omega)]
      · by_cases b2 : j = b.natAbs - 1 + 1
        · subst b2
          rw [hz_r, hz_r, hz_loc K _ a (by omega) (by omega), hz_loc K _ a (by omega) (by omega)]
        · rw [hz_loc K _ b b1 b2, hz_loc K _ b b1 b2, hz_loc K _ a a1 a2]
theorem hz_braid {G : Type} (K : Gp G) (g : Nat → G) (k : Nat) : hzP K (hzP K (hzP K g k) (k + 1)) k = hzP K (hzP K (hzP K g (k + 1)) k) (k + 1) := by
  funext j
  by_cases h0 : j = k
  · subst h0
    rw [hzP_l, hzP_o K _ (show j ≠ j + 1 by omega) (by omega), hzP_l, hzP_l, hzP_r, hzP_o K _ (show j + 1 + 1 ≠ j by omega) (by omega)]
    rw [hzP_o K _ (show j ≠ j + 1 by omega) (by omega), hzP_l, hzP_l, hzP_o K _ (show j ≠ j + 1 by omega) (by omega)]
    simp only [K.asc, K.i_m, K.i_i, K.ima]
  · by_cases h1 : j = k + 1
    · subst h1
      rw [hzP_r, hzP_o K _ (show k ≠ k + 1 by omega) (by omega), hzP_l, hzP_l]
      rw [hzP_r, hzP_o K _ (show k + 1 + 1 ≠ k by omega) (by omega), hzP_o K _ (show k ≠ k + 1 by omega) (by omega), hzP_r]
    · by_cases h2 : j = k + 1 + 1
      · subst h2
        rw [hzP_o K _ (by omega) (by omega), hzP_r, hzP_r, hzP_r, hzP_r, hzP_o K _ (by omega) (by omega)]
      · rw [hzP_o K _ h0 h1, hzP_o K _ h1 h2, hzP_o K _ h0 h1, hzP_o K _ h1 h2, hzP_o K _ h0 h1, hzP_o K _ h1 h2]
theorem Eqv.hz {G : Type} (K : Gp G) {n : Nat} {w v : List Int} (h : Eqv n w v) : Word n w → ∀ g, hzW K g w = hzW K g v := by
  induction h with
  | refl => intro _ x; rfl
  | symm h ih => intro hw x; exact (ih (h.word.2 hw) x).symm
  | trans h _ ih1 ih2 => intro hw x; exact (ih1 hw x).trans (ih2 (h.word.1 hw) x)
  | canc a b hz => intro _ x; simp only [hzW, List.foldl_append, List.foldl_cons]; rw [hz_canc _ _ hz.1]
  | far u v hf =>
    intro hw x
    rename_i a b
    have ha := (hw a (by simp)).1
    have hb := (hw b (by simp)).1
    obtain ⟨i, j, h1, h2, h3⟩ := hf
    simp only [hzW, List.foldl_append, List.foldl_cons]
    rw [hz_far _ _ (by omega)]
  | braid a b h0 hk =>
    intro _hw x
    rename_i i
    obtain ⟨k, rfl⟩ : ∃ k : Nat, i = (k : Int) + 1 := ⟨(i - 1).toNat, by omega⟩
    have e : (k : Int) + 1 + 1 = ((k + 1 : Nat) : Int) + 1 := by omega
    simp only [hzW, List.foldl_append, List.foldl_cons]
    rw [e]
    simp only [hz_pos]
    rw [hz_braid]
theorem hzW_inv {G : Type} (K : Gp G) {n : Nat} (u : List Int) (h : Word n u) (g : Nat → G) : hzW K (hzW K g u) (Proofs.Ytnfppebcpagjpaa.inv u) = g := by
  rw [← hzW_app, (canc_r u h).hz K (h.app h.inv), hzW_nil]
/-- Letters that are less than N leave the value at N and behind. -/
theorem hzW_keep {G : Type} (K : Gp G) {N : Nat} : ∀ (v : List Int), Word N v → ∀ (g : Nat → G) (j : Nat), N ≤ j → hzW K g v j = g j
  | [], _, _, _, _ => rfl
  | z :: v, h, g, j, hj => by
    have hl := h z (by simp)
    show hzW K (Proofs.Ytnfppebcpagjpaa.hz K g z) v j = g j
    rw [hzW_keep K v (fun x hx => h x (by simp [hx])) _ j hj]
    exact hz_loc K g z (by omega) (by omega)
/-- A map that keeps products takes the action along. -/
theorem hz_map {G H : Type} (K : Gp G) (L : Gp H) (f : G → H) (hm : ∀ a b, f (K.m a b) = L.m (f a) (f b)) (hi : ∀ a, f (K.i a) = L.i (f a)) (g : Nat → G) (z : Int) : (fun j => f (Proofs.Ytnfppebcpagjpaa.hz K g z j)) = Proofs.Ytnfppebcpagjpaa.hz L (fun j => f (g j)) z := by
  funext j
  by_cases h1 : j = z.natAbs - 1
  · subst h1
    rw [hz_l, hz_l]
    unfold hzA
    split
    · rw [hm, hm, hi]
    · rfl
  · by_cases h2 : j = z.natAbs - 1 + 1
    · subst h2
      rw [hz_r, hz_r]
      unfold hzB
      split
      · rfl
      · rw [hm, hm, hi]
    · rw [hz_loc K g z h1 h2, hz_loc L _ z h1 h2]
theorem hzW_map {G H : Type} (K : Gp G) (L : Gp H) (f : G → H) (hm : ∀ a b, f (K.m a b) = L.m (f a) (f b)) (hi : ∀ a, f (K.i a) = L.i (f a)) : ∀ (w : List Int) (g : Nat → G), (fun j => f (hzW K g w j)) = hzW L (fun j => f (g j)) w
  | [], _ => rfl
  | z :: w, g => by
    show (fun j => f (hzW K (Proofs.Ytnfppebcpagjpaa.hz K g z) w j)) = hzW L (Proofs.Ytnfppebcpagjpaa.hz L (fun j => f (g j)) z) w
    rw [← hz_map K L f hm hi, hzW_map K L f hm hi w]
theorem Eqv.nil_l {n : Nat} {a b : List Int} (h : Eqv n a []) : Eqv n (a ++ b) b := h.right b
theorem far_abs {a b : Int} (h : a.natAbs + 2 ≤ b.natAbs ∨ b.natAbs + 2 ≤ a.natAbs) : Far a b := ⟨a.natAbs, b.natAbs, by omega, by omega, h⟩
theorem far_all {n : Nat} {z : Int} : ∀ r : List Int, (∀ x ∈ r, Far z x) → Eqv n (z :: r) (r ++ [z])
  | [], _ => .refl _
  | x :: r, h => by
    have h1 : Eqv n (z :: x :: r) (x :: z :: r) := .far [] r (h x (by simp))
    exact h1.trans ((far_all r (fun y hy => h y (by simp [hy]))).cons x)
theorem pass_inv {n : Nat} {z y : Int} {t : List Int} (ht : Word n t) (h : Eqv n (z :: t) (t ++ [y])) : Eqv n (y :: inv t) (inv t ++ [z]) := by
  have h1 : Eqv n (inv t ++ ((z :: t) ++ inv t)) (inv t ++ ((t ++ [y]) ++ inv t)) := (h.right _).left _
  have h2 : Eqv n (inv t ++ ((z :: t) ++ inv t)) (inv t ++ [z]) := by
    have := (canc_r t ht).left (inv t ++ [z])
    simpa using this
  have h3 : Eqv n (inv t ++ ((t ++ [y]) ++ inv t)) (y :: inv t) := by
    have := (canc_l t ht).right (y :: inv t)
    simpa using this
  exact (h2.symm.trans (h1.trans h3)).symm
theorem pass_neg {n : Nat} {z y : Int} {t s : List Int} (hz : Letter n z) (hy : Letter n y) (h : Eqv n (z :: t) (s ++ [y])) : Eqv n (-z :: s) (t ++ [-y]) := by
  have h1 : Eqv n (-z :: ((s ++ [y]) ++ [-y])) (-z :: ((z :: t) ++ [-y])) := (h.symm.right _).cons _
  have h2 : Eqv n (-z :: ((s ++ [y]) ++ [-y])) (-z :: s) := by
    have := (Eqv.canc (n := n) (-z :: s) [] hy)
    simpa using this
  have h3 : Eqv n (-z :: ((z :: t) ++ [-y])) (t ++ [-y]) := by
    have := (Eqv.canc (n := n) [] (t ++ [-y]) hz.neg)
    simpa using this
  exact h2.symm.trans (h1.trans h3)
def tau (N : Nat) : Nat → List Int
  | 0 => []
  | d + 1 => tau N d ++ [(N : Int) - d]
theorem tau_mem {N : Nat} : ∀ {d : Nat} {x : Int}, x ∈ tau N d → (N : Int) - d < x ∧ x ≤ N
  | 0, _, h => by simp [tau] at h
  | d + 1, x, h => by
    rcases List.mem_append.1 h with h | h
    · have := tau_mem h; omega
    · have := List.mem_singleton.1 h; omega
theorem tau_word {N d : Nat} (hd : d ≤ N) : Word (N + 1) (tau N d) := fun x hx => by
  have := tau_mem hx
  exact ⟨by omega, by omega, by omega⟩
theorem tau_lo {N d : Nat} {z : Int} (h : (z.natAbs : Int) < (N : Int) - d) : Eqv (N + 1) (z :: tau N d) (tau N d ++ [z]) := far_all _ fun x hx => far_abs (by have := tau_mem hx; omega)
theorem tau_hi {N : Nat} : ∀ {d : Nat} {m : Int}, d ≤ N → (N : Int) - d + 1 < m → m ≤ N → Eqv (N + 1) ((m - 1) :: tau N d) (tau N d ++ [m])
  | 0, m, _, h1, h2 => by omega
  | d + 1, m, hd, h1, h2 => by
    by_cases h : (N : Int) - d + 1 < m
    · have ih := tau_hi (by omega) h h2
      have f : Eqv (N + 1) (tau N d ++ m :: ((N : Int) - d) :: []) (tau N d ++ ((N : Int) - d) :: m :: []) := .far _ _ (far_abs (by omega))
      show Eqv (N + 1) ((m - 1) :: (tau N d ++ [(N : Int) - d])) (tau N d ++ [(N : Int) - d] ++ [m])
      have i2 := ih.right [(N : Int) - d]
      simp only [List.cons_append, List.append_assoc, List.nil_append] at i2 ⊢
      exact i2.trans f
    · obtain ⟨c, rfl⟩ : ∃ c, d = c + 1 := ⟨d - 1, by omega⟩
      obtain rfl : m = (N : Int) - (c : Nat) := by omega
      have e : tau N (c + 1 + 1) = tau N c ++ [(N : Int) - c, (N : Int) - c - 1] := by
        show tau N c ++ [(N : Int) - c] ++ [(N : Int) - ((c + 1 : Nat) : Int)] = _
        rw [show (N : Int) - ((c + 1 : Nat) : Int) = (N : Int) - c - 1 by omega]
        simp
      rw [e]
      have f : Eqv (N + 1) (((N : Int) - c - 1) :: tau N c) (tau N c ++ [(N : Int) - c - 1]) := far_all _ fun x hx => far_abs (by have := tau_mem hx; omega)
      have b := Eqv.braid (n := N + 1) (tau N c) [] (i := (N : Int) - c - 1) (by omega) (by omega)
      rw [show (N : Int) - c - 1 + 1 = (N : Int) - c by omega] at b
      have f2 := f.right [(N : Int) - c, (N : Int) - c - 1]
      simp only [List.cons_append, List.append_assoc, List.nil_append] at f2 ⊢
      exact f2.trans b
/-- The last strand round the one at a place (from 1 on), and back. -/
def Aw (N a : Nat) : List Int := tau N (N - a) ++ ((a : Int) :: (a : Int) :: inv (tau N (N - a)))
def al1 (N : Nat) (z : Int) : List Int := if 0 < z then Aw N z.natAbs else inv (Aw N z.natAbs)
def al (N : Nat) (u : List Int) : List Int := u.flatMap (al1 N)
theorem al_app (N : Nat) (u v : List Int) : al N (u ++ v) = al N u ++ al N v := by simp [al]
theorem al_cons (N : Nat) (z : Int) (v : List Int) : al N (z :: v) = al1 N z ++ al N v := by simp [al]
theorem al_nil (N : Nat) : al N [] = [] := rfl
theorem al1_pos (N a : Nat) (h : 0 < a) : al1 N (a : Int) = Aw N a := by unfold al1; rw [if_pos (by omega)]; rfl
theorem al1_neg (N a : Nat) : al1 N (-(a : Int)) = inv (Aw N a) := by unfold al1; rw [if_neg (by omega)]; congr 2; omega
theorem Aw_word {N a : Nat} (h0 : 0 < a) (h : a ≤ N) : Word (N + 1) (Aw N a) := by
  have t := tau_word (N := N) (d := N - a) (by omega)
  have l : Letter (N + 1) (a : Int) := ⟨by omega, by omega, by omega⟩
  exact t.app (Word.cons l (Word.cons l t.inv))
theorem al1_word {N : Nat} {z : Int} (h : Letter (N + 1) z) : Word (N + 1) (al1 N z) := by
  have := h.1; have := h.2.1; have := h.2.2
  unfold al1
  split
  · exact Aw_word (by omega) (by omega)
  · exact (Aw_word (by omega) (by omega)).inv
theorem al_word {N : Nat} : ∀ {u : List Int}, Word (N + 1) u → Word (N + 1) (al N u)
  | [], _ => fun x hx => by simp [al] at hx
  | z :: u, h => by rw [al_cons]; exact (al1_word (h z (by simp))).app (al_word fun x hx => h x (by simp [hx]))
theorem al1_inv (N : Nat) {z : Int} (h : z ≠ 0) : inv (al1 N z) = al1 N (-z) := by
  unfold al1
  by_cases hp : 0 < z
  · rw [if_pos hp, if_neg (by omega), Int.natAbs_neg]
  · rw [if_neg hp, if_pos (by omega), Int.natAbs_neg, inv_inv]
theorem al_inv (N : Nat) : ∀ {u : List Int}, (∀ z ∈ u, z ≠ 0) → inv (al N u) = al N (inv u)
  | [], _ => rfl
  | z :: u, h => by rw [al_cons, inv_app, al_inv N (fun x hx => h x (by simp [hx])), inv_cons, al_app, al1_inv N (h z (by simp)), al_cons, al_nil, List.append_nil]
theorem tau_snoc {N a : Nat} (h : a < N) : tau N (N - a) = tau N (N - (a + 1)) ++ [(a : Int) + 1] := by
  obtain ⟨c, hc⟩ : ∃ c, N - a = c + 1 := ⟨N - a - 1, by omega⟩
  rw [hc, show N - (a + 1) = c by omega]
  show tau N c ++ [(N : Int) - c] = _
  rw [show (N : Int) - c = (a : Int) + 1 by omega]
theorem Aw_open {N a : Nat} (h : a < N) : Aw N a = tau N (N - (a + 1)) ++ ([(a : Int) + 1, a, a, -((a : Int) + 1)] ++ inv (tau N (N - (a + 1)))) := by
  unfold Aw
  rw [tau_snoc h, inv_app]
  simp [inv]
/-- A letter before the strand at its left end gives the next one. -/
theorem pass_same {N a : Nat} (h0 : 0 < a) (h : a < N) : Eqv (N + 1) ((a : Int) :: Aw N a) (Aw N (a + 1) ++ [(a : Int)]) := by
  have tw := tau_word (N := N) (d := N - (a + 1)) (by omega)
  have f : Eqv (N + 1) ((a : Int) :: tau N (N - (a + 1))) (tau N (N - (a + 1)) ++ [(a : Int)]) := far_all _ fun x hx => far_abs (by have := tau_mem hx; omega)
  have g := pass_inv tw f
  have e : Aw N (a + 1) = tau N (N - (a + 1)) ++ (((a : Int) + 1) :: ((a : Int) + 1) :: inv (tau N (N - (a + 1)))) := by
    unfold Aw; rw [show ((a + 1 : Nat) : Int) = (a : Int) + 1 by omega]
  rw [Aw_open h, e]
  generalize tau N (N - (a + 1)) = t at *
  have hl : Letter (N + 1) ((a : Int) + 1) := ⟨by omega, by omega, by omega⟩
  have s1 := f.right ([(a : Int) + 1, a, a, -((a : Int) + 1)] ++ inv t)
  have s2 := Eqv.braid (n := N + 1) t ((a : Int) :: -((a : Int) + 1) :: inv t) (i := (a : Int)) (by omega) (by omega)
  have s3 := Eqv.braid (n := N + 1) (t ++ [(a : Int) + 1]) (-((a : Int) + 1) :: inv t) (i := (a : Int)) (by omega) (by omega)
  have s4 := Eqv.canc (t ++ [(a : Int) + 1, (a : Int) + 1, a]) (inv t) hl
  have s5 := g.left (t ++ [(a : Int) + 1, (a : Int) + 1])
  simp only [List.cons_append, List.append_assoc, List.nil_append] at s1 s2 s3 s4 s5 ⊢
  exact s1.trans (s2.trans (s3.trans (s4.trans s5)))
/-- And the next one becomes it, conjugated. -/
theorem pass_next {N b : Nat} (h0 : 0 < b) (h : b < N) : Eqv (N + 1) (Aw N (b + 1) ++ ((b : Int) :: Aw N (b + 1))) (Aw N b ++ (Aw N (b + 1) ++ [(b : Int)])) := by
  have tw := tau_word (N := N) (d := N - (b + 1)) (by omega)
  have f : Eqv (N + 1) ((b : Int) :: tau N (N - (b + 1))) (tau N (N - (b + 1)) ++ [(b : Int)]) := far_all _ fun x hx => far_abs (by have := tau_mem hx; omega)
  have g := pass_inv tw f
  have e : Aw N (b + 1) = tau N (N - (b + 1)) ++ (((b : Int) + 1) :: ((b : Int) + 1) :: inv (tau N (N - (b + 1)))) := by
    unfold Aw; rw [show ((b + 1 : Nat) : Int) = (b : Int) + 1 by omega]
  rw [Aw_open h, e]
  generalize tau N (N - (b + 1)) = t at *
  have hl : Letter (N + 1) ((b : Int) + 1) := ⟨by omega, by omega, by omega⟩
  have c1 := canc_l t tw
  have s1 := (f.right (((b : Int) + 1) :: ((b : Int) + 1) :: inv t)).left (t ++ (((b : Int) + 1) :: ((b : Int) + 1) :: inv t))
  have s2 := (c1.right ((b : Int) :: ((b : Int) + 1) :: ((b : Int) + 1) :: inv t)).left (t ++ [(b : Int) + 1, (b : Int) + 1])
  have s3 := (Eqv.braid (n := N + 1) (t ++ [(b : Int) + 1]) (((b : Int) + 1) :: inv t) (i := (b : Int)) (by omega) (by omega)).symm
  have s4 := (Eqv.braid (n := N + 1) (t ++ [(b : Int) + 1, (b : Int)]) (inv t) (i := (b : Int)) (by omega) (by omega)).symm
  have s5 := g.left (t ++ [(b : Int) + 1, b, b, (b : Int) + 1])
  have r1 := (c1.right (((b : Int) + 1) :: ((b : Int) + 1) :: (inv t ++ [(b : Int)]))).left (t ++ [(b : Int) + 1, b, b, -((b : Int) + 1)])
  have r2 := Eqv.canc (t ++ [(b : Int) + 1, b, b]) (((b : Int) + 1) :: (inv t ++ [(b : Int)])) hl.neg
  simp only [List.cons_append, List.append_assoc, List.nil_append, Int.neg_neg] at s1 s2 s3 s4 s5 r1 r2 ⊢
  exact s1.trans (s2.trans (s3.trans (s4.trans (s5.trans (r1.trans r2).symm))))
/-- A letter of the others, and the last strand round one of them: first the last strand round others, then the letter. -/
theorem pass_pos {N a : Nat} {z : Int} (ha : 0 < a) (haN : a ≤ N) (hz : Letter N z) : ∃ u, Word (N + 1) u ∧ Eqv (N + 1) (z :: Aw N a) (al N u ++ [z]) := by
  obtain ⟨z0, z1, z2⟩ := hz
  have hzl : Letter (N + 1) z := ⟨z0, by omega, by omega⟩
  have la : Letter (N + 1) (a : Int) := ⟨by omega, by omega, by omega⟩
  have tw := tau_word (N := N) (d := N - a) (by omega)
  have one : ∀ u : List Int, Word (N + 1) u → Eqv (N + 1) (z :: Aw N a) (al N u ++ [z]) → ∃ u, Word (N + 1) u ∧ Eqv (N + 1) (z :: Aw N a) (al N u ++ [z]) := fun u h1 h2 => ⟨u, h1, h2⟩
  have ea : al N [(a : Int)] = Aw N a := by rw [al_cons, al_nil, List.append_nil, al1_pos N a ha]
  by_cases c1 : z.natAbs + 1 < a
  · refine one [(a : Int)] (Word.one la) ?_
    rw [ea]
    refine far_all _ fun x hx => far_abs ?_
    unfold Aw at hx
    rcases List.mem_append.1 hx with hx | hx
    · have := tau_mem hx; omega
    · rcases List.mem_cons.1 hx with rfl | hx
      · omega
      · rcases List.mem_cons.1 hx with rfl | hx
        · omega
        · unfold inv at hx
          rw [List.mem_reverse, List.mem_map] at hx
          obtain ⟨y, hy, rfl⟩ := hx
          have := tau_mem hy; omega
  by_cases c2 : a < z.natAbs
  · refine one [(a : Int)] (Word.one la) ?_
    rw [ea]
    have f : ∃ y : Int, a + 2 ≤ y.natAbs ∧ Eqv (N + 1) (z :: tau N (N - a)) (tau N (N - a) ++ [y]) := by
      by_cases hp : 0 < z
      · refine ⟨z + 1, by omega, ?_⟩
        have := tau_hi (N := N) (d := N - a) (m := z + 1) (by omega) (by omega) (by omega)
        rwa [show z + 1 - 1 = z by omega] at this
      · refine ⟨z - 1, by omega, ?_⟩
        have := tau_hi (N := N) (d := N - a) (m := -z + 1) (by omega) (by omega) (by omega)
        have h2 := pass_neg ⟨by omega, by omega, by omega⟩ ⟨by omega, by omega, by omega⟩ this
        rwa [show -(-z + 1 - 1) = z by omega, show -(-z + 1) = z - 1 by omega] at h2
    obtain ⟨y, hy, f⟩ := f
    have g := pass_inv tw f
    unfold Aw
    generalize tau N (N - a) = t at *
    have s1 := f.right ((a : Int) :: (a : Int) :: inv t)
    have s2 : Eqv (N + 1) (t ++ y :: (a : Int) :: ((a : Int) :: inv t)) (t ++ (a : Int) :: y :: ((a : Int) :: inv t)) := .far _ _ (far_abs (by omega))
    have s3 : Eqv (N + 1) ((t ++ [(a : Int)]) ++ y :: (a : Int) :: (inv t)) ((t ++ [(a : Int)]) ++ (a : Int) :: y :: (inv t)) := .far _ _ (far_abs (by omega))
    have s4 := g.left (t ++ [(a : Int), (a : Int)])
    simp only [List.cons_append, List.append_assoc, List.nil_append] at s1 s2 s3 s4 ⊢
    exact s1.trans (s2.trans (s3.trans s4))
  have lA : ∀ c : Nat, 0 < c → c ≤ N → Letter (N + 1) (c : Int) := fun c _ _ => ⟨by omega, by omega, by omega⟩
  by_cases c3 : z.natAbs = a
  · have haN' : a < N := by omega
    have p1 := pass_same ha haN'
    have wA := Aw_word ha haN
    have wB := Aw_word (N := N) (a := a + 1) (by omega) haN'
    by_cases hp : 0 < z
    · obtain rfl : z = (a : Int) := by omega
      refine one [((a + 1 : Nat) : Int)] (Word.one (lA _ (by omega) haN')) ?_
      rw [al_cons, al_nil, List.append_nil, al1_pos N (a + 1) (by omega)]
      exact p1
    · obtain rfl : z = -(a : Int) := by omega
      refine one [(a : Int), ((a + 1 : Nat) : Int), -(a : Int)] (Word.cons la (Word.cons (lA _ (by omega) haN') (Word.one la.neg))) ?_
      rw [al_cons, al_cons, al_cons, al_nil, List.append_nil, al1_pos N a ha, al1_pos N (a + 1) (by omega), al1_neg]
      have p2 := pass_next ha haN'
      generalize Aw N (a + 1) = B at *
      generalize Aw N a = A at *
      have q1 := pass_neg la la p1
      -- A B s ~ B s B
      have t1 := (p2.symm.cons (-(a : Int)))
      have t2 := q1.right ((a : Int) :: B)
      have t3 := Eqv.canc (n := N + 1) A B la.neg
      have t4 := (p1.left (-(a : Int) :: A))
      rw [Int.neg_neg] at t3
      have t5 : Eqv (N + 1) (-(a : Int) :: (A ++ (a : Int) :: A)) (A ++ B) := by
        simp only [List.cons_append, List.append_assoc, List.nil_append] at t1 t2 t3 t4 ⊢
        exact t4.trans (t1.trans (t2.trans t3))
      have t6 := t5.right (inv A ++ [-(a : Int)])
      have t7 := (canc_r A wA).left (-(a : Int) :: (A ++ [(a : Int)]))
      have t8 := Eqv.canc (n := N + 1) (-(a : Int) :: A) [] la
      have t9 := t7.right [-(a : Int)]
      simp only [List.cons_append, List.append_assoc, List.nil_append, List.append_nil] at t6 t7 t8 t9 ⊢
      exact (t9.trans t8).symm.trans t6
  · obtain ⟨b, rfl⟩ : ∃ b, a = b + 1 := ⟨a - 1, by omega⟩
    have hb : 0 < b := by omega
    have hbN : b < N := by omega
    have lb := lA b hb (by omega)
    have p1 := pass_same hb hbN
    by_cases hp : 0 < z
    · obtain rfl : z = (b : Int) := by omega
      refine one [-((b + 1 : Nat) : Int), (b : Int), ((b + 1 : Nat) : Int)] (Word.cons la.neg (Word.cons lb (Word.one la))) ?_
      rw [al_cons, al_cons, al_cons, al_nil, List.append_nil, al1_pos N b hb, al1_pos N (b + 1) (by omega), al1_neg]
      have p2 := pass_next hb hbN
      have wB := Aw_word (N := N) (a := b + 1) (by omega) haN
      generalize Aw N (b + 1) = B at *
      generalize Aw N b = A at *
      have t1 := p2.left (inv B)
      have t2 := (canc_l B wB).right ((b : Int) :: B)
      simp only [List.append_assoc, List.nil_append] at t1 t2 ⊢
      exact t2.symm.trans t1
    · obtain rfl : z = -(b : Int) := by omega
      refine one [(b : Int)] (Word.one lb) ?_
      rw [al_cons, al_nil, List.append_nil, al1_pos N b hb]
      exact pass_neg lb lb p1
theorem pass_one {N : Nat} {z x : Int} (hx : Letter (N + 1) x) (hz : Letter N z) : ∃ u, Word (N + 1) u ∧ Eqv (N + 1) (z :: al1 N x) (al N u ++ [z]) := by
  have := hx.1; have := hx.2.1; have := hx.2.2
  have hzl : Letter (N + 1) z := ⟨hz.1, by have := hz.2.1; omega, by have := hz.2.2; omega⟩
  obtain ⟨u, hu, h⟩ := pass_pos (N := N) (a := x.natAbs) (z := z) (by omega) (by omega) hz
  by_cases hp : 0 < x
  · refine ⟨u, hu, ?_⟩
    unfold al1
    rwa [if_pos hp]
  · refine ⟨Proofs.Ytnfppebcpagjpaa.inv u, hu.inv, ?_⟩
    unfold al1
    rw [if_neg hp, ← al_inv N (fun y hy => (hu y hy).1)]
    have wA := Aw_word (N := N) (a := x.natAbs) (by omega) (by omega)
    have wU := al_word hu
    generalize Aw N x.natAbs = A at *
    generalize al N u = U at *
    have t1 := (h.right (Proofs.Ytnfppebcpagjpaa.inv A)).left (Proofs.Ytnfppebcpagjpaa.inv U)
    have t2 := (canc_r A wA).left (Proofs.Ytnfppebcpagjpaa.inv U ++ [z])
    have t3 := (canc_l U wU).right (z :: Proofs.Ytnfppebcpagjpaa.inv A)
    simp only [List.cons_append, List.append_assoc, List.nil_append, List.append_nil] at t1 t2 t3 ⊢
    exact t3.symm.trans (t1.symm.trans t2)
theorem pass_al {N : Nat} {z : Int} (hz : Letter N z) : ∀ (u : List Int), Word (N + 1) u → ∃ u', Word (N + 1) u' ∧ Eqv (N + 1) (z :: al N u) (al N u' ++ [z])
  | [], _ => ⟨[], fun x hx => by simp at hx, .refl _⟩
  | x :: u, h => by
    obtain ⟨a, ha, h1⟩ := pass_one (h x (by simp)) hz
    obtain ⟨b, hb, h2⟩ := pass_al hz u (fun y hy => h y (by simp [hy]))
    refine ⟨a ++ b, ha.app hb, ?_⟩
    rw [al_cons, al_app]
    have t1 := h1.right (al N u)
    have t2 := h2.left (al N a)
    simp only [List.cons_append, List.append_assoc, List.nil_append] at t1 t2 ⊢
    exact t1.trans t2
theorem pass_word {N : Nat} : ∀ (v : List Int), Word N v → ∀ (u : List Int), Word (N + 1) u → ∃ u', Word (N + 1) u' ∧ Eqv (N + 1) (v ++ al N u) (al N u' ++ v)
  | [], _, u, h => ⟨u, h, by rw [List.append_nil, List.nil_append]; exact .refl _⟩
  | z :: v, hv, u, h => by
    obtain ⟨a, ha, h1⟩ := pass_word v (fun y hy => hv y (by simp [hy])) u h
    obtain ⟨b, hb, h2⟩ := pass_al (hv z (by simp)) a ha
    refine ⟨b, hb, ?_⟩
    have t1 := h1.cons z
    have t2 := h2.right v
    simp only [List.cons_append, List.append_assoc, List.nil_append] at t1 t2 ⊢
    exact t1.trans t2
/-- The last strand's place, after one more letter. -/
theorem comb_step {N d : Nat} {z : Int} (hd : d ≤ N) (hz : Letter (N + 1) z) : ∃ u v e, e ≤ N ∧ Word (N + 1) u ∧ Word N v ∧ Eqv (N + 1) (tau N d ++ [z]) (al N u ++ (v ++ tau N e)) := by
  obtain ⟨z0, z1, z2⟩ := hz
  have hzl : Letter (N + 1) z := ⟨z0, z1, z2⟩
  have nil : ∀ m, Word m ([] : List Int) := fun m x hx => by simp at hx
  by_cases c1 : (z.natAbs : Int) < (N : Int) - d
  · exact ⟨[], [z], d, hd, nil _, Word.one ⟨z0, by omega, by omega⟩, (tau_lo c1).symm⟩
  by_cases c2 : (N : Int) - d + 1 < z.natAbs
  · by_cases hp : 0 < z
    · refine ⟨[], [z - 1], d, hd, nil _, Word.one ⟨by omega, by omega, by omega⟩, ?_⟩
      exact (tau_hi hd (by omega) (by omega)).symm
    · refine ⟨[], [z + 1], d, hd, nil _, Word.one ⟨by omega, by omega, by omega⟩, ?_⟩
      have := tau_hi (N := N) (d := d) (m := -z) hd (by omega) (by omega)
      have h2 := pass_neg ⟨by omega, by omega, by omega⟩ ⟨by omega, by omega, by omega⟩ this
      rw [show -(-z - 1) = z + 1 by omega, Int.neg_neg] at h2
      exact h2.symm
  by_cases c3 : (z.natAbs : Int) = (N : Int) - d
  · have hdN : d + 1 ≤ N := by omega
    by_cases hp : 0 < z
    · obtain rfl : z = (N : Int) - d := by omega
      exact ⟨[], [], d + 1, hdN, nil _, nil _, .refl _⟩
    · obtain rfl : z = -((N : Int) - d) := by omega
      have hl : Letter (N + 1) ((N : Int) - d) := ⟨by omega, by omega, by omega⟩
      refine ⟨[-((N - d : Nat) : Int)], [], d + 1, hdN, Word.one ⟨by omega, by omega, by omega⟩, nil _, ?_⟩
      rw [al_cons, al_nil, List.append_nil, al1_neg]
      unfold Aw
      rw [show N - (N - d) = d by omega, show ((N - d : Nat) : Int) = (N : Int) - d by omega]
      have tw := tau_word (N := N) (d := d) (by omega)
      show Eqv (N + 1) _ (_ ++ ([] ++ (tau N d ++ [(N : Int) - d])))
      generalize tau N d = t at *
      generalize (N : Int) - d = m at *
      have t1 := ((canc_l t tw).right [m]).left (t ++ [-m, -m])
      have t2 := Eqv.canc (n := N + 1) (t ++ [-m]) [] hl.neg
      simp only [inv_app, inv_cons, inv_inv, List.cons_append, List.append_assoc, List.nil_append, List.append_nil, Int.neg_neg] at t1 t2 ⊢
      exact (t1.trans t2).symm
  · obtain ⟨c, rfl⟩ : ∃ c, d = c + 1 := ⟨d - 1, by omega⟩
    have hl : Letter (N + 1) ((N : Int) - c) := ⟨by omega, by omega, by omega⟩
    by_cases hp : 0 < z
    · obtain rfl : z = (N : Int) - c := by omega
      refine ⟨[((N - c : Nat) : Int)], [], c, by omega, Word.one ⟨by omega, by omega, by omega⟩, nil _, ?_⟩
      rw [al_cons, al_nil, List.append_nil, al1_pos N _ (by omega)]
      unfold Aw
      rw [show N - (N - c) = c by omega, show ((N - c : Nat) : Int) = (N : Int) - c by omega]
      have tw := tau_word (N := N) (d := c) (by omega)
      show Eqv (N + 1) (tau N c ++ [(N : Int) - c] ++ _) _
      generalize tau N c = t at *
      generalize (N : Int) - c = m at *
      have t1 := (canc_l t tw).left (t ++ [m, m])
      simp only [List.cons_append, List.append_assoc, List.nil_append, List.append_nil] at t1 ⊢
      exact t1.symm
    · obtain rfl : z = -((N : Int) - c) := by omega
      refine ⟨[], [], c, by omega, nil _, nil _, ?_⟩
      have t1 := Eqv.canc (n := N + 1) (tau N c) [] hl
      show Eqv (N + 1) (tau N c ++ [(N : Int) - c] ++ _) _
      simp only [al_nil, List.cons_append, List.append_assoc, List.nil_append, List.append_nil] at t1 ⊢
      exact t1
theorem comb {N : Nat} (w : List Int) : Word (N + 1) w → ∃ u v d, d ≤ N ∧ Word (N + 1) u ∧ Word N v ∧ Eqv (N + 1) w (al N u ++ (v ++ tau N d)) := by
  induction w using snoc_ind with
  | h0 => exact fun _ => ⟨[], [], 0, Nat.zero_le _, fun x hx => by simp at hx, fun x hx => by simp at hx, .refl _⟩
  | h1 w z ih =>
    intro hw
    obtain ⟨u, v, d, hd, hu, hv, h⟩ := ih (fun x hx => hw x (by simp [hx]))
    obtain ⟨u1, v1, e, he, hu1, hv1, h1⟩ := comb_step hd (hw z (by simp))
    obtain ⟨u2, hu2, h2⟩ := pass_word v hv u1 hu1
    refine ⟨u ++ u2, v ++ v1, e, he, hu.app hu2, hv.app hv1, ?_⟩
    have t1 := h.right [z]
    have t2 := h1.left (al N u ++ v)
    have t3 := (h2.right (v1 ++ tau N e)).left (al N u)
    rw [al_app]
    simp only [List.append_assoc] at t1 t2 t3 ⊢
    exact t1.trans (t2.trans t3)
/-- Bijections of a set. -/
structure Bj (X : Type) where
  f : X → X
  g : X → X
  fg : ∀ x, f (g x) = x
  gf : ∀ x, g (f x) = x
theorem Bj.ext' {X : Type} {a b : Bj X} (h : ∀ x, a.f x = b.f x) : a = b := by
  have hf : a.f = b.f := funext h
  have hg : a.g = b.g := funext fun x => by
    have h1 : a.f (a.g x) = a.f (b.g x) := by rw [a.fg, h, b.fg]
    have := congrArg a.g h1
    rwa [a.gf, a.gf] at this
  cases a; cases b
  cases hf; cases hg
  rfl
def bjG (X : Type) : Gp (Bj X) where
  m a b := ⟨fun x => a.f (b.f x), fun x => b.g (a.g x), fun x => by simp only [a.fg, b.fg], fun x => by simp only [a.gf, b.gf]⟩
  e := ⟨fun x => x, fun x => x, fun _ => rfl, fun _ => rfl⟩
  i a := ⟨a.g, a.f, a.gf, a.fg⟩
  asc _ _ _ := rfl
  em _ := rfl
  me _ := rfl
  im a := Bj.ext' a.gf
  mi a := Bj.ext' a.fg
/-- A group, beside sets of its elements. -/
def lpG {F : Type} (K : Gp F) : Gp ((F → Bool) × F) where
  m a b := (fun x => xor (a.1 x) (b.1 (K.m (K.i a.2) x)), K.m a.2 b.2)
  e := (fun _ => false, K.e)
  i a := (fun x => a.1 (K.m a.2 x), K.i a.2)
  asc a b c := by
    refine Prod.ext (funext fun x => ?_) (K.asc _ _ _)
    simp only [K.i_m, K.asc, Bool.xor_assoc]
  em a := by
    refine Prod.ext (funext fun x => ?_) (K.em _)
    simp only [K.i_e, K.em, Bool.false_xor]
  me a := by
    refine Prod.ext (funext fun x => ?_) (K.me _)
    simp only [Bool.xor_false]
  im a := by
    refine Prod.ext (funext fun x => ?_) (K.im _)
    simp only [K.i_i, Bool.xor_self]
  mi a := by
    refine Prod.ext (funext fun x => ?_) (K.mi _)
    simp only [K.mia, Bool.xor_self]
noncomputable def lamp {F : Type} (K : Gp F) (y : F) : (F → Bool) × F := (fun x => @decide (x = y) (Classical.propDecidable _), K.e)
theorem lamp_inj {F : Type} (K : Gp F) {y z : F} (h : lamp K y = lamp K z) : y = z := by
  have h1 := congrFun (congrArg Prod.fst h) y
  simp only [lamp, decide_true] at h1
  exact @of_decide_eq_true _ (Classical.propDecidable _) h1.symm
theorem lamp_not {F : Type} (K : Gp F) {y h : F} (e : lamp K y = (fun _ => false, h)) : False := by
  have h1 := congrFun (congrArg Prod.fst e) y
  simp [lamp] at h1
theorem lamp_conj {F : Type} (K : Gp F) (a : (F → Bool) × F) (y : F) : (lpG K).m ((lpG K).m a (lamp K y)) ((lpG K).i a) = lamp K (K.m a.2 y) := by
  refine Prod.ext (funext fun x => ?_) ?_
  · show xor (xor (a.1 x) (@decide (K.m (K.i a.2) x = y) (Classical.propDecidable _))) (a.1 (K.m a.2 (K.m (K.i (K.m a.2 K.e)) x))) = @decide (x = K.m a.2 y) (Classical.propDecidable _)
    rw [K.me, K.mia]
    have e : (K.m (K.i a.2) x = y) = (x = K.m a.2 y) := propext ⟨fun h => by rw [← h, K.mia], fun h => by rw [h, K.ima]⟩
    have e2 : @decide (K.m (K.i a.2) x = y) (Classical.propDecidable _) = @decide (x = K.m a.2 y) (Classical.propDecidable _) := by congr
    rw [e2]
    cases a.1 x <;> cases @decide (x = K.m a.2 y) (Classical.propDecidable _) <;> rfl
  · show K.m (K.m a.2 K.e) (K.i a.2) = K.e
    rw [K.me, K.mi]
theorem lamp_conj' {F : Type} (K : Gp F) (a : (F → Bool) × F) (y : F) : (lpG K).m ((lpG K).m ((lpG K).i a) (lamp K y)) a = lamp K (K.m (K.i a.2) y) := by
  have := lamp_conj K ((lpG K).i a) y
  rwa [(lpG K).i_i] at this
def cc {F : Type} (K : Gp F) (N : Nat) (h : Nat → F) : Nat → F
  | 0 => K.e
  | d + 1 => K.m (h (N - (d + 1))) (cc K N h d)
noncomputable def tauS {F : Type} (K : Gp F) (N d : Nat) (h : Nat → F) (y : F) (g : Nat → (F → Bool) × F) : Nat → (F → Bool) × F :=
  fun j => if j = N - d then lamp K (K.m (cc K N h d) y) else if N - d < j ∧ j ≤ N then g (j - 1) else g j
theorem tau_hz {F : Type} (K : Gp F) (N : Nat) (h : Nat → F) (y : F) (g : Nat → (F → Bool) × F) (hN : g N = lamp K y) (hh : ∀ j, j < N → (g j).2 = h j) : ∀ d, d ≤ N → hzW (lpG K) g (tau N d) = tauS K N d h y g
  | 0, _ => by
    funext j
    show g j = _
    unfold tauS
    by_cases h1 : j = N - 0
    · rw [if_pos h1, show j = N by omega, hN]
      show lamp K y = lamp K (K.m K.e y)
      rw [K.em]
    · rw [if_neg h1, if_neg (by omega)]
  | d + 1, hd => by
    have ih := tau_hz K N h y g hN hh d (by omega)
    show hzW (lpG K) g (tau N d ++ [(N : Int) - d]) = _
    rw [hzW_app, ih, hzW_one]
    obtain ⟨k, hk⟩ : ∃ k, N - d = k + 1 := ⟨N - d - 1, by omega⟩
    rw [show (N : Int) - d = (k : Int) + 1 by omega, hz_pos]
    have hk2 : N - (d + 1) = k := by omega
    have e1 : tauS K N d h y g k = g k := by unfold tauS; rw [if_neg (by omega), if_neg (by omega)]
    have e2 : tauS K N d h y g (k + 1) = lamp K (K.m (cc K N h d) y) := by unfold tauS; rw [if_pos hk.symm]
    funext j
    by_cases h1 : j = k
    · subst h1
      rw [hzP_l, e1, e2, lamp_conj, hh j (by omega)]
      unfold tauS
      rw [if_pos hk2.symm]
      show _ = lamp K (K.m (K.m (h (N - (d + 1))) (cc K N h d)) y)
      rw [hk2, K.asc]
    · by_cases h2 : j = k + 1
      · subst h2
        rw [hzP_r, e1]
        unfold tauS
        rw [if_neg (by omega), if_pos (by omega)]
        rfl
      · rw [hzP_o _ _ h1 h2]
        unfold tauS
        rw [if_neg (show ¬ j = N - d by omega), if_neg (show ¬ j = N - (d + 1) by omega)]
        by_cases h3 : N - d < j ∧ j ≤ N
        · rw [if_pos h3, if_pos (by omega)]
        · rw [if_neg h3, if_neg (by omega)]
/-- Back from a state behind tau. -/
theorem tau_back {F : Type} (K : Gp F) (N a : Nat) (h : Nat → F) (y Y : F) (g S : Nat → (F → Bool) × F) (ha : 0 < a) (haN : a ≤ N) (_ : g N = lamp K y) (hh : ∀ j, j < N → (g j).2 = h j)
    (hS : ∀ j, j ≠ a - 1 → j ≠ a → S j = tauS K N (N - a) h y g j) (hl : S a = lamp K (K.m (cc K N h (N - a)) (K.m Y y))) (hk : (S (a - 1)).2 = h (a - 1)) :
    ∃ g', hzW (lpG K) S (inv (tau N (N - a))) = g' ∧ g' N = lamp K (K.m Y y) ∧ ∀ j, j < N → (g' j).2 = h j := by
  let g' : Nat → (F → Bool) × F := fun j => if j = N then lamp K (K.m Y y) else if j = a - 1 then S (a - 1) else g j
  have gN : g' N = lamp K (K.m Y y) := if_pos rfl
  have gk : g' (a - 1) = S (a - 1) := by show (if _ then _ else _) = _; rw [if_neg (by omega), if_pos rfl]
  have go : ∀ j, j ≠ N → j ≠ a - 1 → g' j = g j := fun j h1 h2 => by show (if _ then _ else _) = _; rw [if_neg h1, if_neg h2]
  have gh : ∀ j, j < N → (g' j).2 = h j := fun j hj => by
    by_cases h1 : j = a - 1
    · rw [h1, gk, hk]
    · rw [go j (by omega) h1, hh j hj]
  have e : hzW (lpG K) g' (tau N (N - a)) = S := by
    rw [tau_hz K N h (K.m Y y) g' gN gh (N - a) (by omega)]
    funext j
    by_cases h1 : j = a
    · subst h1
      unfold tauS
      rw [if_pos (by omega), hl]
    · by_cases h2 : j = a - 1
      · subst h2
        unfold tauS
        rw [if_neg (by omega), if_neg (by omega), gk]
      · rw [hS j h2 h1]
        unfold tauS
        rw [if_neg (show ¬ j = N - (N - a) by omega), if_neg (show ¬ j = N - (N - a) by omega)]
        by_cases h3 : N - (N - a) < j ∧ j ≤ N
        · rw [if_pos h3, if_pos h3, go _ (by omega) (by omega)]
        · rw [if_neg h3, if_neg h3, go _ (by omega) h2]
  exact ⟨g', by rw [← e, hzW_inv (lpG K) _ (tau_word (N := N) (by omega))], gN, gh⟩
def Xs {F : Type} (K : Gp F) (X : Nat → F) (x : Int) : F := if 0 < x then X (x.natAbs - 1) else K.i (X (x.natAbs - 1))
theorem al1_hz {F : Type} (K : Gp F) (N : Nat) (h : Nat → F) (y : F) (g : Nat → (F → Bool) × F) (hN : g N = lamp K y) (hh : ∀ j, j < N → (g j).2 = h j) {x : Int} (hx : Letter (N + 1) x) :
    ∃ g', hzW (lpG K) g (al1 N x) = g' ∧ g' N = lamp K (K.m (K.m (K.m (K.i (cc K N h (N - x.natAbs))) (Xs K h x)) (cc K N h (N - x.natAbs))) y) ∧ ∀ j, j < N → (g' j).2 = h j := by
  have := hx.1; have := hx.2.1; have := hx.2.2
  obtain ⟨a, ha⟩ : ∃ a, x.natAbs = a := ⟨_, rfl⟩
  rw [ha]
  obtain ⟨k, rfl⟩ : ∃ k, a = k + 1 := ⟨a - 1, by omega⟩
  have hk : k + 1 ≤ N := by omega
  have et := tau_hz K N h y g hN hh (N - (k + 1)) (by omega)
  have e1 : tauS K N (N - (k + 1)) h y g k = g k := by unfold tauS; rw [if_neg (by omega), if_neg (by omega)]
  have e2 : tauS K N (N - (k + 1)) h y g (k + 1) = lamp K (K.m (cc K N h (N - (k + 1))) y) := by unfold tauS; rw [if_pos (by omega)]
  by_cases hp : 0 < x
  · unfold al1 Xs Aw
    rw [if_pos hp, if_pos hp, ha, hzW_app, et, show tauS K N (N - (k + 1)) h y g = tauS K N (N - (k + 1)) h y g from rfl]
    show ∃ g', hzW (lpG K) (hz (lpG K) (hz (lpG K) (tauS K N (N - (k + 1)) h y g) (((k + 1 : Nat) : Int))) ((k + 1 : Nat) : Int)) _ = g' ∧ _
    rw [show ((k + 1 : Nat) : Int) = (k : Int) + 1 by omega, hz_pos, hz_pos]
    refine tau_back K N (k + 1) h y _ g _ (by omega) hk hN hh (fun j h1 h2 => ?_) ?_ ?_
    · rw [hzP_o _ _ (by omega) h2, hzP_o _ _ (by omega) h2]
    · rw [hzP_r, hzP_l, e1, e2, lamp_conj, hh k (by omega)]
      simp only [K.asc, K.mia]
      rfl
    · simp only [Nat.add_sub_cancel]
      rw [hzP_l, hzP_r, hzP_l, e1, e2, lamp_conj]
      show K.m (K.m K.e (g k).2) (K.i K.e) = h k
      rw [K.em, K.i_e, K.me, hh k (by omega)]
  · unfold al1 Xs
    rw [if_neg hp, if_neg hp, ha]
    unfold Aw
    simp only [inv_app, inv_cons, inv_inv, List.append_assoc]
    rw [hzW_app, et]
    show ∃ g', hzW (lpG K) (hz (lpG K) (hz (lpG K) (tauS K N (N - (k + 1)) h y g) (-((k + 1 : Nat) : Int))) (-((k + 1 : Nat) : Int))) _ = g' ∧ _
    rw [show ((k + 1 : Nat) : Int) = (k : Int) + 1 by omega, hz_neg, hz_neg]
    have e3 : hzN (lpG K) (tauS K N (N - (k + 1)) h y g) k (k + 1) = (lpG K).m ((lpG K).m ((lpG K).i (lamp K (K.m (cc K N h (N - (k + 1))) y))) (g k)) (lamp K (K.m (cc K N h (N - (k + 1))) y)) := by rw [hzN_r, e1, e2]
    have e4 : (hzN (lpG K) (tauS K N (N - (k + 1)) h y g) k (k + 1)).2 = h k := by
      rw [e3]
      show K.m (K.m (K.i K.e) (g k).2) K.e = h k
      rw [K.i_e, K.em, K.me, hh k (by omega)]
    refine tau_back K N (k + 1) h y _ g _ (by omega) hk hN hh (fun j h1 h2 => ?_) ?_ ?_
    · rw [hzN_o _ _ (by omega) h2, hzN_o _ _ (by omega) h2]
    · rw [hzN_r, hzN_l, e2, lamp_conj', e4]
      simp only [K.asc, K.mia]
      rfl
    · simp only [Nat.add_sub_cancel]
      rw [hzN_l, e4]
def Dd {F : Type} (K : Gp F) (N : Nat) (X : Nat → F) : Nat → F
  | 0 => K.e
  | d + 1 => K.m (Dd K N X d) (X (N - (d + 1)))
/-- The values that the last strand's way meets as the letters X. -/
def hX {F : Type} (K : Gp F) (N : Nat) (X : Nat → F) (j : Nat) : F := K.m (K.m (Dd K N X (N - 1 - j)) (X j)) (K.i (Dd K N X (N - 1 - j)))
theorem cc_hX {F : Type} (K : Gp F) (N : Nat) (X : Nat → F) : ∀ d, d ≤ N → cc K N (hX K N X) d = Dd K N X d
  | 0, _ => rfl
  | d + 1, hd => by
    show K.m (hX K N X (N - (d + 1))) (cc K N (hX K N X) d) = K.m (Dd K N X d) (X (N - (d + 1)))
    rw [cc_hX K N X d (by omega)]
    unfold hX
    rw [show N - 1 - (N - (d + 1)) = d by omega, K.asc, K.im, K.me]
theorem way_hX {F : Type} (K : Gp F) (N : Nat) (X : Nat → F) {x : Int} (hx : Letter (N + 1) x) : K.m (K.m (K.i (cc K N (hX K N X) (N - x.natAbs))) (Xs K (hX K N X) x)) (cc K N (hX K N X) (N - x.natAbs)) = Xs K X x := by
  have := hx.1; have := hx.2.1; have := hx.2.2
  rw [cc_hX K N X _ (by omega)]
  unfold Xs hX
  rw [show N - 1 - (x.natAbs - 1) = N - x.natAbs by omega]
  split
  · simp only [K.asc, K.ima, K.im, K.me]
  · simp only [K.asc, K.i_m, K.i_i, K.ima, K.im, K.me]
theorem al_hz {F : Type} (K : Gp F) (N : Nat) (X : Nat → F) : ∀ (u : List Int), Word (N + 1) u → ∀ (y : F) (g : Nat → (F → Bool) × F), g N = lamp K y → (∀ j, j < N → (g j).2 = hX K N X j) →
    ∃ g', hzW (lpG K) g (al N u) = g' ∧ g' N = lamp K (u.foldl (fun y x => K.m (Xs K X x) y) y) ∧ ∀ j, j < N → (g' j).2 = hX K N X j
  | [], _, _, g, h1, h2 => ⟨g, rfl, h1, h2⟩
  | x :: u, hu, y, g, h1, h2 => by
    obtain ⟨g1, e1, n1, c1⟩ := al1_hz K N (hX K N X) y g h1 h2 (hu x (by simp))
    rw [way_hX K N X (hu x (by simp))] at n1
    obtain ⟨g2, e2, n2, c2⟩ := al_hz K N X u (fun z hz => hu z (by simp [hz])) _ g1 n1 c1
    exact ⟨g2, by rw [al_cons, hzW_app, e1, e2], n2, c2⟩
/-- Letters laid on a stack that cancel. -/
def psh (z : Int) : List Int → List Int
  | [] => [z]
  | y :: t => if y = -z then t else z :: y :: t
def Rd : List Int → Prop
  | [] => True
  | [_] => True
  | a :: b :: t => a ≠ -b ∧ Rd (b :: t)
theorem Rd.tail {a : Int} {t : List Int} (h : Rd (a :: t)) : Rd t := by
  cases t with
  | nil => trivial
  | cons b t => exact h.2
theorem psh_eq (z y : Int) (t : List Int) (h : y = -z) : psh z (y :: t) = t := if_pos h
theorem psh_ne (z y : Int) (t : List Int) (h : ¬ y = -z) : psh z (y :: t) = z :: y :: t := if_neg h
theorem psh_rd {z : Int} : ∀ {s : List Int}, Rd s → Rd (psh z s)
  | [], _ => trivial
  | y :: t, h => by
    by_cases hn : y = -z
    · rw [psh_eq z y t hn]
      exact h.tail
    · rw [psh_ne z y t hn]
      exact ⟨fun e => hn (by omega), h⟩
theorem psh_psh (z : Int) : ∀ {s : List Int}, Rd s → psh (-z) (psh z s) = s
  | [], _ => by simp [psh]
  | y :: t, h => by
    by_cases hy : y = -z
    · subst hy
      have e : psh z (-z :: t) = t := by simp [psh]
      rw [e]
      cases t with
      | nil => rfl
      | cons b t =>
        exact psh_ne (-z) b t fun e => h.1 (by omega)
    · have e : psh z (y :: t) = z :: y :: t := by simp [psh, hy]
      rw [e]
      simp [psh]
abbrev Rs := {s : List Int // Rd s}
def pshB (z : Int) : Bj Rs := ⟨fun s => ⟨psh z s.1, psh_rd s.2⟩, fun s => ⟨psh (-z) s.1, psh_rd s.2⟩, fun s => Subtype.ext (by have := psh_psh (-z) s.2; rwa [Int.neg_neg] at this), fun s => Subtype.ext (psh_psh z s.2)⟩
theorem pshB_neg (z : Int) : (bjG Rs).i (pshB z) = pshB (-z) := Bj.ext' fun _ => rfl
def genX (j : Nat) : Bj Rs := pshB ((j : Int) + 1)
theorem Xs_gen {x : Int} (h : x ≠ 0) : Xs (bjG Rs) genX x = pshB x := by
  unfold Xs genX
  split
  · rw [show ((x.natAbs - 1 : Nat) : Int) + 1 = x by omega]
  · rw [pshB_neg, show -(((x.natAbs - 1 : Nat) : Int) + 1) = x by omega]
def stk (s : List Int) (w : List Int) : List Int := w.foldl (fun s z => psh z s) s
theorem stk_gen : ∀ (u : List Int), (∀ x ∈ u, x ≠ 0) → ∀ (y : Bj Rs) (s : Rs), ((u.foldl (fun y x => (bjG Rs).m (Xs (bjG Rs) genX x) y) y).f s).1 = stk (y.f s).1 u
  | [], _, _, _ => rfl
  | x :: u, h, y, s => by
    rw [List.foldl_cons, stk_gen u (fun z hz => h z (by simp [hz])), Xs_gen (h x (by simp))]
    rfl
theorem al_stk {N : Nat} : ∀ (u s : List Int), Word (N + 1) u → Word (N + 1) s → Eqv (N + 1) (al N s.reverse ++ al N u) (al N (stk s u).reverse)
  | [], s, _, _ => by rw [al_nil, List.append_nil]; exact .refl _
  | z :: u, s, hu, hs => by
    have hz := hu z (by simp)
    have hu' : Word (N + 1) u := fun x hx => hu x (by simp [hx])
    show Eqv (N + 1) _ (al N (stk (psh z s) u).reverse)
    cases s with
    | nil =>
      have := al_stk u [z] hu' (Word.one hz)
      show Eqv (N + 1) _ (al N (stk [z] u).reverse)
      rw [al_cons]
      simpa [al] using this
    | cons y t =>
      have ht : Word (N + 1) t := fun x hx => hs x (by simp [hx])
      by_cases hy : y = -z
      · have e : psh z (y :: t) = t := by simp [psh, hy]
        rw [e]
        refine Eqv.trans ?_ (al_stk u t hu' ht)
        rw [List.reverse_cons, al_app, al_cons, al_nil, List.append_nil, al_cons, hy, ← al1_inv N hz.1]
        have := ((canc_l (al1 N z) (al1_word hz)).right (al N u)).left (al N t.reverse)
        simpa using this
      · have e : psh z (y :: t) = z :: y :: t := by simp [psh, hy]
        rw [e]
        have := al_stk u (z :: y :: t) hu' (Word.cons hz hs)
        rw [List.reverse_cons, al_app, al_cons (z := z), al_nil, List.append_nil, List.append_assoc] at this
        rw [al_cons (z := z)]
        exact this
theorem Eqv.mono {n m : Nat} (hm : n ≤ m) {w v : List Int} (h : Eqv n w v) : Eqv m w v := by
  induction h with
  | refl => exact .refl _
  | symm _ ih => exact ih.symm
  | trans _ _ ih1 ih2 => exact ih1.trans ih2
  | canc a b h => exact .canc a b ⟨h.1, by have := h.2.1; omega, by have := h.2.2; omega⟩
  | far a b h => exact .far a b h
  | braid a b h k => exact .braid a b h (by omega)
theorem faithful : ∀ (n : Nat) (w : List Int), Word n w → (∀ (G : Type) (K : Gp G) (g : Nat → G) (j : Nat), j < n → hzW K g w j = g j) → Eqv n w []
  | 0, w, hw, _ => by
    cases w with
    | nil => exact .refl _
    | cons z w => have := hw z (by simp); omega
  | N + 1, w, hw, H => by
    obtain ⟨u, v, d, hd, hu, hv, hE⟩ := comb w hw
    let K := bjG Rs
    let g0 : Nat → (Bj Rs → Bool) × Bj Rs := fun j => if j = N then lamp K K.e else (fun _ => false, hX K N genX j)
    have g0N : g0 N = lamp K K.e := if_pos rfl
    have g0j : ∀ j, j < N → g0 j = (fun _ => false, hX K N genX j) := fun j hj => if_neg (by omega)
    obtain ⟨g1, e1, n1, c1⟩ := al_hz K N genX u hu K.e g0 g0N (fun j hj => by rw [g0j j hj])
    have H0 := H _ (lpG K) g0 (N - d) (by omega)
    rw [hE.hz (lpG K) hw, hzW_app, e1, hzW_app] at H0
    have n2 := (hzW_keep (lpG K) v hv g1 N (Nat.le_refl _)).trans n1
    rw [tau_hz K N (fun j => (hzW (lpG K) g1 v j).2) _ (hzW (lpG K) g1 v) n2 (fun _ _ => rfl) d hd] at H0
    unfold tauS at H0
    rw [if_pos rfl] at H0
    have hd0 : d = 0 := by
      apply Classical.byContradiction
      intro hne
      rw [g0j _ (by omega)] at H0
      exact lamp_not K H0
    subst hd0
    have H1 := lamp_inj K (H0.trans g0N)
    have H2 : (u.foldl (fun y x => K.m (Xs K genX x) y) K.e) = K.e := by
      have : K.m (cc K N (fun j => (hzW (lpG K) g1 v j).2) 0) (u.foldl (fun y x => K.m (Xs K genX x) y) K.e) = u.foldl (fun y x => K.m (Xs K genX x) y) K.e := K.em _
      rw [← this]
      exact H1
    have H3 := stk_gen u (fun x hx => (hu x hx).1) K.e ⟨[], trivial⟩
    rw [H2] at H3
    have H4 : stk [] u = [] := H3.symm
    have H5 := al_stk (N := N) u [] hu (fun x hx => by simp at hx)
    rw [H4] at H5
    have H6 : Eqv (N + 1) (al N u) [] := H5
    have H7 : Eqv (N + 1) w v := hE.trans (by
      have := H6.right v
      show Eqv (N + 1) (al N u ++ (v ++ [])) v
      rw [List.append_nil]
      exact this)
    have H8 : Eqv N v [] := faithful N v hv fun G K' g j hj => by
      rw [← H7.hz K' hw]
      exact H G K' g j (by omega)
    exact H7.trans (H8.mono (by omega))
theorem faithful2 {n : Nat} {a b : List Int} (ha : Word n a) (hb : Word n b) (H : ∀ (G : Type) (K : Gp G) (g : Nat → G) (j : Nat), j < n → hzW K g a j = hzW K g b j) : Eqv n a b := by
  have h := faithful n (a ++ inv b) (ha.app hb.inv) fun G K g j _ => by
    have e : hzW K g a = hzW K g b := funext fun i => by
      by_cases hi : i < n
      · exact H G K g i hi
      · rw [hzW_keep K a ha g i (by omega), hzW_keep K b hb g i (by omega)]
    rw [hzW_app, e, hzW_inv K b hb]
  have h1 := h.right b
  have h2 := (canc_l b hb).left a
  simp only [List.append_assoc, List.nil_append, List.append_nil] at h1 h2
  exact h2.symm.trans h1
def actS (g : List (List Int)) (z : Int) : List (List Int) :=
  if 0 < z then (g.set (z.natAbs - 1) (red (g.getD (z.natAbs - 1) [] ++ g.getD (z.natAbs - 1 + 1) [] ++ inv (g.getD (z.natAbs - 1) [])))).set (z.natAbs - 1 + 1) (g.getD (z.natAbs - 1) [])
  else (g.set (z.natAbs - 1) (g.getD (z.natAbs - 1 + 1) [])).set (z.natAbs - 1 + 1) (red (inv (g.getD (z.natAbs - 1 + 1) []) ++ g.getD (z.natAbs - 1) [] ++ g.getD (z.natAbs - 1 + 1) []))
def gens (n : Nat) : List (List Int) := (List.range n).map fun (i : Nat) => [(i : Int) + 1]
def actL (n : Nat) (w : List Int) : List (List Int) := w.foldl actS (gens n)
theorem gens_len (n : Nat) : (gens n).length = n := by simp [gens]
theorem actS_len (g : List (List Int)) (z : Int) : (actS g z).length = g.length := by unfold actS; split <;> simp
theorem actL_snoc (n : Nat) (w : List Int) (z : Int) : actL n (w ++ [z]) = actS (actL n w) z := by simp [actL]
theorem actL_len (n : Nat) (w : List Int) : (actL n w).length = n := by
  induction w using snoc_ind with
  | h0 => exact gens_len n
  | h1 w z ih => rw [actL_snoc, actS_len, ih]
/-- Letters that are none of 0, up to m. -/
def Ltr (m : Nat) (l : List Int) : Prop := ∀ z ∈ l, z ≠ 0 ∧ z.natAbs ≤ m
theorem Ltr.app {m : Nat} {a b : List Int} (h : Ltr m a) (k : Ltr m b) : Ltr m (a ++ b) := fun z hz => (List.mem_append.1 hz).elim (h z) (k z)
theorem Ltr.inv {m : Nat} {a : List Int} (h : Ltr m a) : Ltr m (Proofs.Ytnfppebcpagjpaa.inv a) := fun z hz => by
  unfold Proofs.Ytnfppebcpagjpaa.inv at hz
  rw [List.mem_reverse, List.mem_map] at hz
  obtain ⟨y, hy, rfl⟩ := hz
  have := h y hy
  omega
theorem redS_mem {o : List Int} {z x : Int} (h : x ∈ redS o z) : x ∈ o ∨ x = z := by
  unfold redS at h
  split at h
  · exact .inl (List.dropLast_subset _ h)
  · rcases List.mem_append.1 h with h | h
    · exact .inl h
    · exact .inr (List.mem_singleton.1 h)
theorem red_mem {l : List Int} : ∀ {x : Int}, x ∈ red l → x ∈ l := by
  induction l using snoc_ind with
  | h0 => intro x h; exact h
  | h1 l z ih =>
    intro x h
    rw [show red (l ++ [z]) = redS (red l) z by simp [red]] at h
    rcases redS_mem h with h | h
    · exact List.mem_append_left _ (ih h)
    · exact List.mem_append_right _ (by simp [h])
theorem Ltr.red {m : Nat} {a : List Int} (h : Ltr m a) : Ltr m (Proofs.Ytnfppebcpagjpaa.red a) := fun z hz => h z (red_mem hz)
theorem getD_ltr {m : Nat} {g : List (List Int)} (h : ∀ l ∈ g, Ltr m l) (k : Nat) : Ltr m (g.getD k []) := by
  rw [List.getD_eq_getElem?_getD]
  cases e : g[k]? with
  | none => exact fun z hz => by simp at hz
  | some l => exact h l (List.mem_of_getElem? e)
theorem actS_ltr {m : Nat} {g : List (List Int)} (h : ∀ l ∈ g, Ltr m l) (z : Int) : ∀ l ∈ actS g z, Ltr m l := by
  have s : ∀ (G : List (List Int)) (i j : Nat) (a b : List Int), (∀ l ∈ G, Ltr m l) → Ltr m a → Ltr m b → ∀ l ∈ (G.set i a).set j b, Ltr m l := fun G i j a b hG ha hb l hl => by
    rcases List.mem_or_eq_of_mem_set hl with hl | rfl
    · rcases List.mem_or_eq_of_mem_set hl with hl | rfl
      · exact hG l hl
      · exact ha
    · exact hb
  unfold actS
  have g0 := getD_ltr h (z.natAbs - 1)
  have g1 := getD_ltr h (z.natAbs - 1 + 1)
  split
  · exact s _ _ _ _ _ h ((g0.app g1).app g0.inv).red g0
  · exact s _ _ _ _ _ h g1 ((g1.inv.app g0).app g1).red
theorem gens_ltr (n : Nat) : ∀ l ∈ gens n, Ltr n l := fun l hl z hz => by
  unfold gens at hl
  obtain ⟨i, hi, rfl⟩ := List.mem_map.1 hl
  have := List.mem_range.1 hi
  have := List.mem_singleton.1 hz
  omega
theorem actL_ltr (n : Nat) (w : List Int) : ∀ l ∈ actL n w, Ltr n l := by
  induction w using snoc_ind with
  | h0 => exact gens_ltr n
  | h1 w z ih => rw [actL_snoc]; exact actS_ltr ih z
/-- The value of a word of letters in a group. -/
def lv {G : Type} (K : Gp G) (g : Nat → G) (z : Int) : G := if 0 < z then g (z.natAbs - 1) else K.i (g (z.natAbs - 1))
def ev {G : Type} (K : Gp G) (g : Nat → G) (l : List Int) : G := l.foldl (fun x z => K.m x (lv K g z)) K.e
theorem ev_from {G : Type} (K : Gp G) (g : Nat → G) : ∀ (l : List Int) (x : G), l.foldl (fun x z => K.m x (lv K g z)) x = K.m x (ev K g l)
  | [], x => (K.me x).symm
  | z :: l, x => by
    show l.foldl _ (K.m x (lv K g z)) = K.m x (l.foldl _ (K.m K.e (lv K g z)))
    rw [ev_from K g l, ev_from K g l, K.em, K.asc]
theorem ev_app {G : Type} (K : Gp G) (g : Nat → G) (a b : List Int) : ev K g (a ++ b) = K.m (ev K g a) (ev K g b) := by
  show (a ++ b).foldl _ _ = _
  rw [List.foldl_append, ev_from]
  rfl
theorem ev_one {G : Type} (K : Gp G) (g : Nat → G) (z : Int) : ev K g [z] = lv K g z := K.em _
theorem lv_neg {G : Type} (K : Gp G) (g : Nat → G) {z : Int} (h : z ≠ 0) : lv K g (-z) = K.i (lv K g z) := by
  unfold lv
  rw [Int.natAbs_neg]
  by_cases hp : 0 < z
  · rw [if_pos hp, if_neg (by omega)]
  · rw [if_neg hp, if_pos (by omega), K.i_i]
theorem ev_inv {G : Type} (K : Gp G) (g : Nat → G) {m : Nat} : ∀ {a : List Int}, Ltr m a → ev K g (inv a) = K.i (ev K g a)
  | [], _ => K.i_e.symm
  | z :: a, h => by
    rw [inv_cons, ev_app, ev_inv K g (fun x hx => h x (by simp [hx])), ev_one, lv_neg K g (h z (by simp)).1, show z :: a = [z] ++ a from rfl, ev_app, ev_one, K.i_m]
theorem ev_red {G : Type} (K : Gp G) (g : Nat → G) {m : Nat} {a : List Int} : Ltr m a → ev K g (red a) = ev K g a := by
  induction a using snoc_ind with
  | h0 => intro _; rfl
  | h1 a z ih =>
    intro h
    have ih' := ih fun x hx => h x (by simp [hx])
    have hz := (h z (by simp)).1
    rw [show red (a ++ [z]) = redS (red a) z by simp [red], ev_app, ev_one, ← ih']
    generalize red a = o
    rcases last_or o with rfl | ⟨E, y, rfl⟩
    · rw [redS_nil, ev_one]
      exact (K.em _).symm
    · by_cases hy : y = -z
      · rw [redS_pop E hy, ev_app, ev_one, hy, lv_neg K g hz, K.asc, K.im, K.me]
      · rw [redS_push E hy, ev_app (b := [z]), ev_one]
theorem getD_set {g : List (List Int)} {i j : Nat} {a : List Int} (hi : i < g.length) : (g.set i a).getD j [] = if j = i then a else g.getD j [] := by
  rw [List.getD_eq_getElem?_getD, List.getD_eq_getElem?_getD, List.getElem?_set]
  by_cases h : j = i
  · subst h; rw [if_pos rfl, if_pos rfl, if_pos hi]; rfl
  · rw [if_neg h, if_neg (fun e => h e.symm)]
theorem actS_ev {G : Type} (K : Gp G) (g : Nat → G) {m : Nat} {L : List (List Int)} {z : Int} (hL : ∀ l ∈ L, Ltr m l) (hlt : Letter L.length z) (f : Nat → G) (hf : ∀ j, j < L.length → ev K g (L.getD j []) = f j) :
    ∀ j, j < L.length → ev K g ((actS L z).getD j []) = hz K f z j := by
  intro j hj
  have := hlt.1; have := hlt.2.1; have := hlt.2.2
  have h1 : z.natAbs - 1 + 1 < L.length := by omega
  have g0 := getD_ltr hL (z.natAbs - 1)
  have g1 := getD_ltr hL (z.natAbs - 1 + 1)
  unfold actS hz
  by_cases hp : 0 < z
  · rw [if_pos hp, if_pos hp, getD_set (by simp; omega), getD_set (by omega)]
    unfold hzP
    by_cases c1 : j = z.natAbs - 1 + 1
    · rw [if_pos c1, if_neg (by omega), if_pos c1, hf _ (by omega)]
    · rw [if_neg c1]
      by_cases c2 : j = z.natAbs - 1
      · rw [if_pos c2, if_pos c2, ev_red K g ((g0.app g1).app g0.inv), ev_app, ev_app, ev_inv K g g0, hf _ (by omega), hf _ h1]
      · rw [if_neg c2, if_neg c2, if_neg c1, hf j hj]
  · rw [if_neg hp, if_neg hp, getD_set (by simp; omega), getD_set (by omega)]
    unfold hzN
    by_cases c1 : j = z.natAbs - 1 + 1
    · rw [if_pos c1, if_neg (by omega), if_pos c1, ev_red K g ((g1.inv.app g0).app g1), ev_app, ev_app, ev_inv K g g1, hf _ h1, hf _ (show z.natAbs - 1 < L.length by omega)]
    · rw [if_neg c1]
      by_cases c2 : j = z.natAbs - 1
      · rw [if_pos c2, if_pos c2, hf _ h1]
      · rw [if_neg c2, if_neg c2, if_neg c1, hf j hj]
theorem actL_ev {G : Type} (K : Gp G) (g : Nat → G) {n : Nat} (w : List Int) : Word n w → ∀ j, j < n → ev K g ((actL n w).getD j []) = hzW K g w j := by
  induction w using snoc_ind with
  | h0 =>
    intro _ j hj
    show ev K g ((gens n).getD j []) = g j
    have e : (gens n).getD j [] = [(j : Int) + 1] := by
      rw [List.getD_eq_getElem?_getD]
      simp [gens, hj]
    rw [e, ev_one]
    unfold lv
    rw [if_pos (by omega), show ((j : Int) + 1).natAbs - 1 = j by omega]
  | h1 w z ih =>
    intro hw j hj
    have hl := actL_len n w
    rw [actL_snoc, hzW_app, hzW_one]
    exact actS_ev K g (actL_ltr n w) (by rw [hl]; exact hw z (by simp)) _ (fun i hi => ih (fun x hx => hw x (by simp [hx])) i (by omega)) j (by omega)
theorem act_faith {n : Nat} {a b : List Int} (ha : Word n a) (hb : Word n b) (h : actL n a = actL n b) : Eqv n a b := faithful2 ha hb fun G K g j hj => by
  rw [← actL_ev K g a ha j hj, ← actL_ev K g b hb j hj, h]
/-- The same group, the other way round. -/
def opG {G : Type} (K : Gp G) : Gp G where
  m a b := K.m b a
  e := K.e
  i := K.i
  asc a b c := (K.asc c b a).symm
  em := K.me
  me := K.em
  im := K.mi
  mi := K.im
theorem ev_stk {m : Nat} : ∀ (l : List Int), Ltr m l → ∀ (x : Bj Rs) (s : Rs), ((l.foldl (fun x z => (opG (bjG Rs)).m x (lv (opG (bjG Rs)) genX z)) x).f s).1 = stk (x.f s).1 l
  | [], _, _, _ => rfl
  | z :: l, h, x, s => by
    have hz := (h z (by simp)).1
    have e : lv (opG (bjG Rs)) genX z = pshB z := Xs_gen hz
    rw [List.foldl_cons, ev_stk l (fun y hy => h y (by simp [hy])), e]
    rfl
theorem red_stk (l : List Int) : (red l).reverse = stk [] l := by
  induction l using snoc_ind with
  | h0 => rfl
  | h1 l z ih =>
    rw [show red (l ++ [z]) = redS (red l) z by simp [red], show stk [] (l ++ [z]) = psh z (stk [] l) by simp [stk], ← ih]
    rcases last_or (red l) with e | ⟨E, y, e⟩
    · rw [e]; rfl
    · rw [e]
      by_cases hy : y = -z
      · rw [redS_pop E hy, List.reverse_append]
        exact (psh_eq z y E.reverse hy).symm
      · rw [redS_push E hy, List.reverse_append, List.reverse_append]
        exact (psh_ne z y E.reverse hy).symm
/-- A word without neighbours that cancel. -/
def Rw (l : List Int) : Prop := stk [] l = l.reverse
theorem red_rw {m : Nat} {l : List Int} (h : Ltr m l) : Rw (red l) := by
  unfold Rw
  have e := ev_red (opG (bjG Rs)) genX h
  have e1 := ev_stk (red l) h.red (bjG Rs).e ⟨[], trivial⟩
  have e2 := ev_stk l h (bjG Rs).e ⟨[], trivial⟩
  have e3 : stk [] (red l) = stk [] l := by
    have h1 : stk [] (red l) = ((ev (opG (bjG Rs)) genX (red l)).f ⟨[], trivial⟩).1 := e1.symm
    have h2 : stk [] l = ((ev (opG (bjG Rs)) genX l).f ⟨[], trivial⟩).1 := e2.symm
    rw [h1, h2, e]
  rw [e3, red_stk]
theorem getD_rw {g : List (List Int)} (h : ∀ l ∈ g, Rw l) (k : Nat) : Rw (g.getD k []) := by
  rw [List.getD_eq_getElem?_getD]
  cases e : g[k]? with
  | none => rfl
  | some l => exact h l (List.mem_of_getElem? e)
theorem actS_rw {m : Nat} {g : List (List Int)} (hl : ∀ l ∈ g, Ltr m l) (h : ∀ l ∈ g, Rw l) (z : Int) : ∀ l ∈ actS g z, Rw l := by
  have s : ∀ (G : List (List Int)) (i j : Nat) (a b : List Int), (∀ l ∈ G, Rw l) → Rw a → Rw b → ∀ l ∈ (G.set i a).set j b, Rw l := fun G i j a b hG ha hb l hl => by
    rcases List.mem_or_eq_of_mem_set hl with hl | rfl
    · rcases List.mem_or_eq_of_mem_set hl with hl | rfl
      · exact hG l hl
      · exact ha
    · exact hb
  unfold actS
  have g0 := getD_ltr hl (z.natAbs - 1)
  have g1 := getD_ltr hl (z.natAbs - 1 + 1)
  split
  · exact s _ _ _ _ _ h (red_rw ((g0.app g1).app g0.inv)) (getD_rw h _)
  · exact s _ _ _ _ _ h (getD_rw h _) (red_rw ((g1.inv.app g0).app g1))
theorem actL_rw (n : Nat) (w : List Int) : ∀ l ∈ actL n w, Rw l := by
  induction w using snoc_ind with
  | h0 =>
    intro l hl
    have hl : l ∈ gens n := hl
    unfold gens at hl
    obtain ⟨i, _, rfl⟩ := List.mem_map.1 hl
    rfl
  | h1 w z ih => rw [actL_snoc]; exact actS_rw (actL_ltr n w) ih z
theorem act_sound {n : Nat} {a b : List Int} (ha : Word n a) (h : Eqv n a b) : actL n a = actL n b := by
  have hb := h.word.1 ha
  apply List.ext_getElem?
  intro j
  by_cases hj : j < n
  · have la := actL_len n a
    have lb := actL_len n b
    obtain ⟨x, hx⟩ : ∃ x, (actL n a)[j]? = some x := ⟨_, List.getElem?_eq_getElem (by omega)⟩
    obtain ⟨y, hy⟩ : ∃ y, (actL n b)[j]? = some y := ⟨_, List.getElem?_eq_getElem (by omega)⟩
    rw [hx, hy]
    have ea := actL_ev (opG (bjG Rs)) genX a ha j hj
    have eb := actL_ev (opG (bjG Rs)) genX b hb j hj
    rw [h.hz _ ha] at ea
    rw [List.getD_eq_getElem?_getD, hx] at ea
    rw [List.getD_eq_getElem?_getD, hy] at eb
    have e : ev (opG (bjG Rs)) genX x = ev (opG (bjG Rs)) genX y := ea.trans eb.symm
    have hxm := List.mem_of_getElem? hx
    have hym := List.mem_of_getElem? hy
    have e1 := ev_stk x (actL_ltr n a x hxm) (bjG Rs).e ⟨[], trivial⟩
    have e2 := ev_stk y (actL_ltr n b y hym) (bjG Rs).e ⟨[], trivial⟩
    have h1 : stk [] x = ((ev (opG (bjG Rs)) genX x).f ⟨[], trivial⟩).1 := e1.symm
    have h2 : stk [] y = ((ev (opG (bjG Rs)) genX y).f ⟨[], trivial⟩).1 := e2.symm
    have rx := actL_rw n a x hxm
    have ry := actL_rw n b y hym
    unfold Rw at rx ry
    rw [← List.reverse_inj.1 (show x.reverse = y.reverse by rw [← rx, ← ry, h1, h2, e])]
  · rw [List.getElem?_eq_none (by rw [actL_len]; omega), List.getElem?_eq_none (by rw [actL_len]; omega)]
theorem act_iff {n : Nat} {a b : List Int} (ha : Word n a) (hb : Word n b) : actL n a = actL n b ↔ Eqv n a b := ⟨act_faith ha hb, act_sound ha⟩
open Go.RowKit Go.Lib
set_option maxHeartbeats 1000000 in
set_option maxRecDepth 100000 in
theorem refproduct_any (xs ys zs : List Int) (u v t : Value) (w : World) (hu : IS w u xs) (hv : IS w v ys) (ht : IS w t zs) (hx : Ltr 50 xs) (hy : Ltr 50 ys) (hz : Ltr 50 zs) (lx : xs.length ≤ 5000) (ly : ys.length ≤ 5000) (lz : zs.length ≤ 5000) :
    Calls Try.prog 72 #[u, v, t] w fun e w' => ∃ v', e = .returned v' ∧ w'.ownsRow w.heap.size 3 1 v' (red (xs ++ ys ++ zs)).length ((red (xs ++ ys ++ zs)).map (Value.int .i64)) ∧ Below w.heap.size w w' := by
  have hs1 := Nat.le_refl w.heap.size
  have B1 := Below.refl w.heap.size w
  have B1' : Below w.heap.size w (w.alloc (.cells #[] 3)) := below_alloc _ _
  have IX := Lib.hid (hu.below B1')
  have Hv := Lib.hid hv
  have Ht := Lib.hid ht
  have hw : Ltr 50 (xs ++ ys ++ zs) := (hx.app hy).app hz
  have Hw := Lib.hid hw
  clear hv ht hu hw hx hy hz
  go_enter Try.func72, Try.ntmps72
  go_wp2_with (first
    | (at_builtin; refine app_all (w0 := w) w.heap.size _ ([] ++ xs ++ ys) zs rfl _ _ rfl rfl HO3.out _ rfl IZ.out (by simp; omega) HB3.out HB3.out.size ?_; intro v4 w4 O4 B4; have HO4 := Lib.hid O4; have HB4 := Lib.hid B4; clear O4)
    | (at_builtin; refine app_all (w0 := w) w.heap.size _ ([] ++ xs) ys rfl _ _ rfl rfl HO2.out _ rfl IY.out (by simp; omega) HB2.out HB2.out.size ?_; intro v3 w3 O3 B3; have IZ := Lib.hid (Ht.out.below B3); have HB3 := Lib.hid B3; have HO3 := Lib.hid O3; clear O3)
    | (at_builtin; refine app_all (w0 := w) w.heap.size _ [] xs rfl _ _ rfl rfl (World.ownsRow_made _ #[] 0 hs1 (Nat.zero_le _) rfl) _ rfl IX.out (by simp; omega) B1' B1'.size ?_; intro v1 w2 O2 B2; have IY := Lib.hid (Hv.out.below B2); have HB2 := Lib.hid B2; have HO2 := Lib.hid O2; clear O2))
  rw [List.nil_append] at HO4
  refine (refreduced_any (xs ++ ys ++ zs) v4 w4 (is_own HO4.out rfl) (fun z hz => by have := Hw.out z hz; omega) (by simp; omega)).mono ?_
  rintro e w5 ⟨v5, rfl, O5, B5⟩
  have HO5 := Lib.hid O5
  clear O5
  go_wp2_with fail
  go_ret
  exact ⟨_, rfl, own_mono HO5.out HB4.out.size, bon HB4.out B5⟩
/-- The values fs are own rows that read as the lists G. -/
def RW (B : Nat) (w : World) (fs : List Value) (G : List (List Int)) : Prop := ∀ (k : Nat) (l : List Int), G[k]? = some l → ∃ u, fs[k]? = some u ∧ w.ownsRow B 3 1 u l.length (l.map (Value.int .i64))
theorem RW.below {B : Nat} {w w' : World} {fs : List Value} {G : List (List Int)} (h : RW B w fs G) (hb : Below w.heap.size w w') : RW B w' fs G := fun k x hx => by
  obtain ⟨u, hu, ho⟩ := h k x hx
  exact ⟨u, hu, own_below ho hb⟩
theorem RW.grown {B B' n : Nat} {w w' : World} {fs xs : List Value} {G : List (List Int)} {v : Value} (h : RW B w fs G) (hv : w.ownsRow B' 22 1 v n xs) (hg : w.grownBy w' v.ownBlock) : RW B w' fs G := fun k x hx => by
  obtain ⟨u, hu, ho⟩ := h k x hx
  exact ⟨u, hu, ho.kept hg (own_apart ho hv (by decide))⟩
theorem RW.mono {B B' : Nat} {w : World} {fs : List Value} {G : List (List Int)} (h : RW B w fs G) (hb : B' ≤ B) : RW B' w fs G := fun k x hx => by
  obtain ⟨u, hu, ho⟩ := h k x hx
  exact ⟨u, hu, own_mono ho hb⟩
theorem RW.snoc {B : Nat} {w : World} {fs : List Value} {G : List (List Int)} {x : List Int} {u : Value} (h : RW B w fs G) (hl : fs.length = G.length) (hu : w.ownsRow B 3 1 u x.length (x.map (Value.int .i64))) : RW B w (fs ++ [u]) (G ++ [x]) := fun k y hy => by
  rcases Nat.lt_or_ge k G.length with hk | hk
  · rw [List.getElem?_append_left hk] at hy
    obtain ⟨v, hv, ho⟩ := h k y hy
    exact ⟨v, by rw [List.getElem?_append_left (by omega)]; exact hv, ho⟩
  · rw [List.getElem?_append_right hk] at hy
    obtain rfl : k = G.length := by
      rcases Nat.eq_zero_or_pos (k - G.length) with h0 | h0
      · omega
      · rw [List.getElem?_eq_none (by simp; omega)] at hy; cases hy
    simp at hy
    subst hy
    exact ⟨u, by rw [List.getElem?_append_right (by omega), hl]; simp, hu⟩
theorem RW.set {B : Nat} {w : World} {fs : List Value} {G : List (List Int)} {x : List Int} {u : Value} (h : RW B w fs G) (hl : fs.length = G.length) (i : Nat) (hu : w.ownsRow B 3 1 u x.length (x.map (Value.int .i64))) : RW B w (fs.set i u) (G.set i x) := fun k y hy => by
  rw [List.getElem?_set] at hy ⊢
  by_cases e : i = k
  · rw [if_pos e] at hy ⊢
    split at hy
    · rename_i hk
      simp only [Option.some.injEq] at hy
      subst hy
      exact ⟨u, by rw [if_pos (by omega)], hu⟩
    · cases hy
  · rw [if_neg e] at hy ⊢
    exact h k y hy
/-- A row of ints stays, if a row of rows is stored into. -/
theorem own_setrow {B B' n m g cap : Nat} {w : World} {u : Value} {xs ys : List Value} (ho : w.ownsRow B 3 1 u n xs) (hv : w.ownsRow B' 22 1 (.slice (some ⟨g, 0, none⟩) m cap) m ys) (j : Nat) (y : Value) : (w.setCell ⟨g, j, none⟩ y).ownsRow B 3 1 u n xs := by
  have ha := own_apart ho hv (by decide)
  refine ⟨ho.1, ?_⟩
  rcases ho.2 with h0 | ⟨g1, cap', cur, h0, h1, h2, h3⟩
  · exact .inl h0
  · subst h0
    refine .inr ⟨g1, cap', cur, rfl, h1, (heap_setCell_other w ⟨g, j, none⟩ g1 y ?_).trans h2, h3⟩
    intro e
    rcases ha with ha | ha
    · cases ha
    · exact ha (by simp only [Value.ownBlock]; rw [e])
theorem RW.setrow {B B' m g cap : Nat} {w : World} {fs ys : List Value} {G : List (List Int)} (h : RW B w fs G) (hv : w.ownsRow B' 22 1 (.slice (some ⟨g, 0, none⟩) m cap) m ys) (j : Nat) (y : Value) : RW B (w.setCell ⟨g, j, none⟩ y) fs G := fun k x hx => by
  obtain ⟨u, hu, ho⟩ := h k x hx
  exact ⟨u, hu, own_setrow ho hv j y⟩
/-- Such a row of rows reads as a form. -/
theorem RW.fs {B B' g cap : Nat} {w : World} {fs : List Value} {G : List (List Int)} (h : RW B w fs G) (hv : w.ownsRow B' 22 1 (.slice (some ⟨g, 0, none⟩) G.length cap) G.length fs) : FS w (.slice (some ⟨g, 0, none⟩) G.length cap) G := by
  obtain ⟨c1, c2⟩ := own_cap hv
  refine ⟨_, _, rfl, c1, c2, fun k l hl => ?_⟩
  obtain ⟨u, hu, ho⟩ := h k l hl
  obtain ⟨ia, c, e, i1, i2, _, i3⟩ := is_own ho (rfl : l.length = l.length)
  have hk := (List.getElem?_eq_some_iff.1 hl).1
  exact ⟨g, 0, rfl, (hv.lt g rfl).2, ia, c, by rw [Nat.zero_add, hv.cellAt k (by omega), hu, e], i1, i2, i3⟩
open Go.RowKit Go.Lib
def tot (G : List (List Int)) : Nat := (G.map List.length).sum
theorem tot_snoc (G : List (List Int)) (l : List Int) : tot (G ++ [l]) = tot G + l.length := by simp [tot]
theorem tot_mem {G : List (List Int)} {k : Nat} {l : List Int} (h : G[k]? = some l) : l.length ≤ tot G := by
  unfold tot
  induction G generalizing k with
  | nil => cases h
  | cons x G ih =>
    cases k with
    | zero => simp at h; subst h; simp
    | succ k => simp at h; have := ih h; simp; omega
theorem tot_take {G : List (List Int)} {k : Nat} {l : List Int} (h : G[k]? = some l) : tot (G.take (k + 1)) = tot (G.take k) + l.length := by
  rw [List.take_add_one, h]; exact tot_snoc _ _
theorem tot_take_le (G : List (List Int)) (k : Nat) : tot (G.take k) ≤ tot G := by
  conv => rhs; rw [← List.take_append_drop k G]
  unfold tot
  rw [List.map_append, List.sum_append]
  omega
theorem tot_set (G : List (List Int)) (i : Nat) (a : List Int) : tot (G.set i a) ≤ tot G + a.length := by
  unfold tot
  induction G generalizing i with
  | nil => simp
  | cons x G ih =>
    cases i with
    | zero => simp; omega
    | succ i => have := ih i; simp only [List.set_cons_succ, List.map_cons, List.sum_cons]; omega
theorem tot_set2 (G : List (List Int)) (i j : Nat) (a b : List Int) : tot ((G.set i a).set j b) ≤ tot G + a.length + b.length := Nat.le_trans (tot_set _ _ _) (by have := tot_set G i a; omega)
theorem tot_gens (n : Nat) : tot (gens n) = n := by
  unfold tot gens
  induction n with
  | zero => rfl
  | succ n ih =>
    rw [List.map_map] at ih ⊢
    rw [List.range_succ, List.map_append, List.sum_append, ih]
    simp
/-- Act, as far as the letters become at most 4000. -/
def actF (o : Option (List (List Int))) (z : Int) : Option (List (List Int)) := o.bind fun g => if 4000 < tot (actS g z) then none else some (actS g z)
def actV (n : Nat) (w : List Int) : Option (List (List Int)) := w.foldl actF (some (gens n))
theorem actF_none (w : List Int) : w.foldl actF none = none := by
  induction w with
  | nil => rfl
  | cons z w ih => exact ih
theorem actV_more {n : Nat} {w : List Int} {k : Nat} {z : Int} (h : w[k]? = some z) : actV n (w.take (k + 1)) = actF (actV n (w.take k)) z := by
  rw [take_more h]; simp [actV]
theorem actV_none {n : Nat} {w : List Int} {k : Nat} (h : actV n (w.take k) = none) : actV n w = none := by
  rw [← List.take_append_drop k w]
  show (w.take k ++ w.drop k).foldl actF (some (gens n)) = none
  rw [List.foldl_append, show (w.take k).foldl actF (some (gens n)) = none from h, actF_none]
theorem actV_some {n : Nat} {w : List Int} : ∀ {G : List (List Int)}, actV n w = some G → G = actL n w ∧ (tot G ≤ 4000 ∨ G = gens n) := by
  induction w using snoc_ind with
  | h0 => intro G h; simp [actV] at h; exact ⟨h.symm, .inr h.symm⟩
  | h1 w z ih =>
    intro G h
    rw [show actV n (w ++ [z]) = actF (actV n w) z by simp [actV]] at h
    cases e : actV n w with
    | none => rw [e] at h; cases h
    | some g =>
      rw [e] at h
      obtain ⟨h1, _⟩ := ih e
      simp only [actF, Option.bind_some] at h
      split at h
      · cases h
      · rename_i hn
        simp only [Option.some.injEq] at h
        subst h
        rw [actL_snoc, h1]
        rw [h1] at hn
        exact ⟨rfl, .inl (by omega)⟩
theorem gens_more {n k : Nat} (h : k < n) : (gens n).take (k + 1) = (gens n).take k ++ [[(k : Int) + 1]] := by
  have : (gens n)[k]? = some [(k : Int) + 1] := by simp [gens, h]
  rw [List.take_add_one, this]; rfl
set_option maxHeartbeats 4000000 in
set_option maxRecDepth 100000 in
theorem refAct_any (n : Nat) (h1 : 1 ≤ n) (hn : n ≤ 12) (ws : List Int) (hw : Word n ws) (hl : ws.length ≤ 1000) (v : Value) (w : World) (hv : IS w v ws) :
    Calls Try.prog 41 #[.int .i64 (n : Int), v, .int .i64 4000] w fun e w' => ∃ v', e = .returned (.tuple #[v', .bool (actV n ws).isSome]) ∧ FS w' v' ((actV n ws).getD []) ∧ Below w.heap.size w w' := by
  obtain ⟨i1, hi, hz0, hz1, hz2⟩ := info_parts infoInts
  obtain ⟨sa, sc, rfl, k1, k2, k3, hI⟩ := hv
  unfold maxLen at k2
  have HI := Lib.hid hI
  have Hw := Lib.hid hw
  have Hi := Lib.hid hi
  clear hI hw hi
  go_enter Try.func41, Try.ntmps41
  go_wp2_with fail
  go_loopw [8, 9] (fun vo i wr => ∃ (k : Nat) (fs : List Value), k ≤ n ∧ i = .int .i64 k ∧ wr.ownsRow w.heap.size 22 1 vo k fs ∧ RW w.heap.size wr fs ((gens n).take k) ∧ Below w.heap.size w wr) (fun _ i _ => n - (intOf i).toNat)
  case atStart => exact ⟨0, [], Nat.zero_le _, rfl, World.ownsRow_nil _ _ _ _, fun k x h => by simp at h, Below.refl _ w⟩
  case round =>
    obtain ⟨k, fs, hk, rfl, hown, hrows, hbw⟩ := hrel
    have hbs := hbw.size
    by_cases hkn : k < n
    · have q1 : (k : Int) < (n : Int) := by omega
      have q2 : IntKind.i64.wrap ((k : Int) + 1) = (k : Int) + 1 := IntWalk.i64_in _ (by omega)
      obtain ⟨W, hW⟩ : ∃ W, W = wr.alloc (.cells #[.int .i64 ((k : Int) + 1)] 3) := ⟨_, rfl⟩
      have BW : Below wr.heap.size wr W := by rw [hW]; exact below_alloc _ _
      have hWz : W.heap.size = wr.heap.size + 1 := by rw [hW]; simp
      have hWn : W.ownsRow w.heap.size 3 1 (.slice (some ⟨wr.heap.size, 0, none⟩) 1 1) ([(k : Int) + 1] : List Int).length (([(k : Int) + 1] : List Int).map (Value.int .i64)) := by
        rw [hW]
        exact ⟨rfl, .inr ⟨wr.heap.size, 1, _, rfl, hbs, heap_alloc_new wr _, Nat.le_refl _, by unfold maxLen; omega, rfl, rfl⟩⟩
      obtain ⟨ao, co, rfl⟩ := own_form hown
      have H5 := Lib.hid hWn
      have HO5 := Lib.hid (own_below hown BW)
      have HR5 := Lib.hid (hrows.below BW)
      have HB5 := Lib.hid (bon hbw BW)
      have HBW := Lib.hid BW
      have HWz := Lib.hid hWz
      have HWe := Lib.hid hW
      have hfl := Lib.hid hown.1
      clear hown hrows hWn BW hWz hW
      go_wp2_with (at_builtin; rw [← HWe.out]; refine wpList_append_own _ rfl _ _ 31 rfl w.heap.size 22 i1 (.slice none 0 0) 1 24 Try.underlying31 Hi.out hz0 hz1 hz2 rfl (by decide) _ k fs rfl (HO5.out.alloc _) ⟨W.heap.size, 0, none⟩ 1 1 [Value.slice (some ⟨wr.heap.size, 0, none⟩) 1 1] (by rw [HWz.out]; rfl) rfl (cell_one_new _ _ _) (by simp [Value.oneCell']) (by unfold maxLen; omega) (by omega) (Nat.le_trans HB5.out.size (below_alloc W _).size) ?_; intro v6 w6 hown6 hgrow hnil)
      have hR6 : RW w.heap.size w6 (fs ++ [Value.slice (some ⟨wr.heap.size, 0, none⟩) 1 1]) ((gens n).take (k + 1)) := by
        rw [gens_more hkn]
        refine ((HR5.out.below (below_alloc W _)).grown (HO5.out.alloc _) hgrow).snoc ?_ ((H5.out.alloc _).kept hgrow (own_apart H5.out HO5.out (by decide)))
        rw [hfl.out, List.length_take, gens_len]
        omega
      have hB6 : Below w.heap.size w w6 := ((HB5.out.alloc HB5.out.size _).grown hgrow (Nat.le_trans HB5.out.size (below_alloc W _).size) (fun j hj => (HO5.out.lt j hj).1))
      have HR6 := Lib.hid hR6
      have HB6 := Lib.hid hB6
      have HO6 := Lib.hid hown6
      clear hR6 hB6 hown6 hgrow hnil
      go_wp2_with fail
      go_roundw
      case rel => exact ⟨k + 1, _, hkn, by go_num, HO6.out, HR6.out, HB6.out⟩
      case measure => (simp [intOf] <;> omega)
    · obtain rfl : k = n := by omega
      have q1 : ¬ (k : Int) < (k : Int) := by omega
      obtain ⟨gl, cap, rfl⟩ := own_pos hown h1
      rw [List.take_of_length_le (by rw [gens_len]; exact Nat.le_refl _)] at hrows
      have hgl := hown.lt gl rfl
      have hcap := own_cap hown
      have HO0 := Lib.hid hown
      have HR0 := Lib.hid hrows
      have HB0 := Lib.hid hbw
      clear hown hrows hbw
      go_wp2_with fail
      go_loopw [10] (fun i wz => ∃ (q : Nat) (fs : List Value) (G : List (List Int)), q ≤ ws.length ∧ i = .int .i64 q ∧ actV k (ws.take q) = some G ∧ wz.ownsRow w.heap.size 22 1 (.slice (some ⟨gl, 0, none⟩) k cap) k fs ∧ RW w.heap.size wz fs G ∧ Below w.heap.size w wz) (fun i _ => ws.length - (intOf i).toNat)
      case atStart => exact ⟨0, fs, gens k, Nat.zero_le _, rfl, by simp [actV], HO0.out, HR0.out, HB0.out⟩
      case round =>
        obtain ⟨q, fs, G, hq, rfl, hG, hown, hrows, hbw⟩ := hrel
        rename World => wz
        clear HO0 HR0 HB0
        by_cases hql : q < ws.length
        · obtain ⟨x, hx⟩ : ∃ x, ws[q]? = some x := ⟨_, List.getElem?_eq_getElem hql⟩
          have hlet : Letter k x := Hw.out x (List.mem_of_getElem? hx)
          obtain ⟨b0, off, rfl, hb0, hc⟩ := HI.out q x hx
          have hcx := (hbw.cell (p := ⟨b0, off + q, none⟩) hb0).trans hc
          obtain ⟨hGe, hGt⟩ := actV_some hG
          have hGl : G.length = k := by rw [hGe, actL_len]
          have hGr : ∀ l ∈ G, Ltr k l := by rw [hGe]; exact actL_ltr k _
          have htt : tot G ≤ 4000 := by
            rcases hGt with h | h
            · exact h
            · rw [h, tot_gens]; omega
          have hmore := actV_more (n := k) hx
          rw [hG] at hmore
          have hj := num_lt hlet
          obtain ⟨j, hjn⟩ : ∃ j, j = num x := ⟨_, rfl⟩
          have CN := Lib.hid (fun w => refsize_any x hlet.1 (by have := hlet.2; omega) w)
          rw [← hjn] at hj CN
          obtain ⟨A, hA⟩ : ∃ A, G[j]? = some A := ⟨_, List.getElem?_eq_getElem (by omega)⟩
          obtain ⟨C, hC⟩ : ∃ C, G[j + 1]? = some C := ⟨_, List.getElem?_eq_getElem (by omega)⟩
          obtain ⟨ua, hua, oA⟩ := hrows j A hA
          obtain ⟨uc, huc, oC⟩ := hrows (j + 1) C hC
          obtain ⟨a1, c1, rfl⟩ := own_form oA
          obtain ⟨a2, c2, rfl⟩ := own_form oC
          have lA := tot_mem hA
          have lC := tot_mem hC
          have rA : Ltr 50 A := fun z hz => by have := hGr A (List.mem_of_getElem? hA) z hz; omega
          have rC : Ltr 50 C := fun z hz => by have := hGr C (List.mem_of_getElem? hC) z hz; omega
          have ca : wz.cell? ⟨gl, j, none⟩ = some (.slice a1 A.length c1) := by rw [hown.cellAt j (by omega), hua]
          have cc : wz.cell? ⟨gl, j + 1, none⟩ = some (.slice a2 C.length c2) := by rw [hown.cellAt (j + 1) (by omega), huc]
          have hfl := hown.1
          have k0 : (0 : Int) ≤ (q : Int) := by omega
          have k1 : (q : Int) < (ws.length : Int) := by omega
          have j0 : (0 : Int) ≤ (j : Int) := by omega
          have j1 : (j : Int) < (k : Int) := by omega
          have j2 : (0 : Int) ≤ (j : Int) + 1 := by omega
          have j3 : (j : Int) + 1 < (k : Int) := by omega
          have j4 : ((j : Int) + 1).toNat = j + 1 := by omega
          have j5 : IntKind.i64.wrap (j : Int) = (j : Int) := IntWalk.i64_in _ (by omega)
          have HS := Lib.hid (show ∀ (o1 o2 : Bool), True from fun _ _ => trivial)
          have Hown := Lib.hid hown
          have Hrows := Lib.hid hrows
          have HB := Lib.hid hbw
          have HoA := Lib.hid oA
          have Hua := Lib.hid hua
          have Huc := Lib.hid huc
          have HoC := Lib.hid oC
          have HrA := Lib.hid rA
          have HrC := Lib.hid rC
          have Hmore := Lib.hid hmore
          have HhA := Lib.hid hA
          have HhC := Lib.hid hC
          have Hjn := Lib.hid hjn
          have HGl := Lib.hid hGl
          have Hfl := Lib.hid hfl
          have Hlet := Lib.hid hlet
          clear hown hrows hbw oA oC rA rC hmore hA hC hjn hGl hGr hGe hGt hfl hlet hua huc hx hc
          go_wp2_with fail
          refine (CN.out _).mono ?_
          rintro e w3 ⟨rfl, rfl⟩
          go_wp2_with fail
          go_quiet (fail)
          obtain ⟨W0, hW0⟩ : ∃ W0, W0 = w3.drewN nq := ⟨_, rfl⟩
          have BD : Below w3.heap.size w3 W0 := by rw [hW0]; exact below_drewN (Below.refl _ _) _
          have hcx1 : W0.cell? ⟨b0, off + q, none⟩ = some (.int .i64 x) := by rw [hW0]; exact hcx
          have HO1 := Lib.hid (own_below Hown.out BD)
          have HR1 := Lib.hid (Hrows.out.below BD)
          have HA1 := Lib.hid (own_below HoA.out BD)
          have HC1 := Lib.hid (own_below HoC.out BD)
          have HB1 := Lib.hid (bon HB.out BD)
          rw [← hW0]
          clear hW0 Hown Hrows HoA HoC HB hcx ca cc BD
          by_cases hp : 0 < x
          · go_wp2_with fail
            refine (refinverse_any A _ W0 (is_own HA1.out rfl) (fun z hz => by have := HrA.out z hz; omega) (by omega)).mono ?_
            rintro e w4 ⟨v4, rfl, O4, B4⟩
            have HA2 := Lib.hid (own_below HA1.out B4)
            have HC2 := Lib.hid (own_below HC1.out B4)
            have HO4 := Lib.hid O4
            have HB4 := Lib.hid B4
            clear O4 B4
            go_wp2_with fail
            refine (refproduct_any A C (inv A) _ _ v4 w4 (is_own HA2.out rfl) (is_own HC2.out rfl) (is_own HO4.out rfl) HrA.out HrC.out HrA.out.inv (by omega) (by omega) (by rw [inv_len]; omega)).mono ?_
            rintro e w5 ⟨v5, rfl, O5, B5⟩
            have B05 := bon HB4.out B5
            have HO5 := Lib.hid (own_below HO1.out B05)
            have HR5 := Lib.hid (HR1.out.below B05)
            have HA5 := Lib.hid (own_below HA1.out B05)
            have HB5 := Lib.hid (bon HB1.out B05)
            obtain ⟨P, hP⟩ : ∃ P, P = red (A ++ C ++ inv A) := ⟨_, rfl⟩
            rw [← hP] at O5
            obtain ⟨a5, c5, rfl⟩ := own_form O5
            have HP5 := Lib.hid (own_mono O5 (Nat.le_trans HB1.out.size HB4.out.size))
            have ca := (HO5.out.cellAt j (by omega)).trans Hua.out
            have cc := (HO5.out.cellAt (j + 1) (by omega)).trans Huc.out
            have HP := Lib.hid hP
            clear hP
            have fa := HO5.out.frozenAt j
            have fc := HO5.out.frozenAt (j + 1)
            have st1 := (HO5.out.stored j (.slice a5 P.length c5)).1
            have st2 := (st1.stored (j + 1) (.slice a1 A.length c1)).1
            have hlG : fs.length = G.length := by rw [HGl.out, Hfl.out]; omega
            have r6 := (HR5.out.setrow HO5.out j (.slice a5 P.length c5)).set hlG j (own_setrow HP5.out HO5.out j _)
            have r7 := (r6.setrow st1 (j + 1) (.slice a1 A.length c1)).set (by simp [hlG]) (j + 1) (own_setrow (own_setrow HA5.out HO5.out j _) st1 (j + 1) _)
            have b6 := HB5.out.setCell (p := ⟨gl, j, none⟩) hgl.1 (.slice a5 P.length c5)
            have b7 := b6.setCell (p := ⟨gl, j + 1, none⟩) hgl.1 (.slice a1 A.length c1)
            clear O5 B5 B05 HO5 HR5 HA5 HB5 HP5 HO1 HR1 HA1 HC1 HB1 HO4 HB4 HA2 HC2
            obtain ⟨W7, hW7⟩ : ∃ W7, W7 = (w5.setCell ⟨gl, j, none⟩ (.slice a5 P.length c5)).setCell ⟨gl, j + 1, none⟩ (.slice a1 A.length c1) := ⟨_, rfl⟩
            rw [← hW7] at st2 b7 r7
            have HO7 := Lib.hid st2
            have HR7 := Lib.hid r7
            have HB7 := Lib.hid b7
            have hGd : G.getD j [] = A := by rw [List.getD_eq_getElem?_getD, HhA.out]; rfl
            have hGe : G.getD (j + 1) [] = C := by rw [List.getD_eq_getElem?_getD, HhC.out]; rfl
            have hjx : x.natAbs - 1 = j := Hjn.out.symm
            have hG7 : (G.set j P).set (j + 1) A = actS G x := by unfold actS; rw [if_pos hp, hjx, hGd, hGe, HP.out]
            have hl7 : (actS G x).length = k := by rw [actS_len, HGl.out]
            rw [hG7] at HR7
            have Hl7 := Lib.hid hl7
            have hmr := Hmore.out
            rw [show actF (some G) x = if 4000 < tot (actS G x) then none else some (actS G x) from rfl] at hmr
            obtain ⟨G7, hG8⟩ : ∃ G7, G7 = actS G x := ⟨_, rfl⟩
            rw [← hG8] at HR7 Hl7 hmr
            have Hmr := Lib.hid hmr
            have hbnd : tot G7 ≤ 30000 := by
              rw [hG8, ← hG7]
              exact Nat.le_trans (tot_set2 G j (j + 1) _ _) (by have := red_len (A ++ C ++ inv A); rw [HP.out]; have e := inv_len A; have e2 := inv_len C; simp only [List.length_append] at this; omega)
            clear st1 st2 b6 b7 r6 r7 hG7 hG8 hl7 hmr hGd hGe hjx
            go_wp2_with fail
            try rw [← hW7]
            clear hW7 ca cc fa fc
            go_loopw [14, 15] (fun s i wy => ∃ p : Nat, p ≤ k ∧ i = .int .i64 p ∧ s = .int .i64 ((tot (G7.take p) : Nat) : Int) ∧ wy = W7) (fun _ i _ => k - (intOf i).toNat)
            case atStart => exact ⟨0, Nat.zero_le _, rfl, rfl, rfl⟩
            case round =>
              obtain ⟨p, hpk, rfl, rfl, rfl⟩ := hrel
              by_cases hpl : p < k
              · obtain ⟨l, hl'⟩ : ∃ l, G7[p]? = some l := ⟨_, List.getElem?_eq_getElem (by rw [Hl7.out]; exact hpl)⟩
                obtain ⟨u, hu, ou⟩ := HR7.out p l hl'
                obtain ⟨a9, c9, rfl⟩ := own_form ou
                have hll := tot_mem hl'
                have htk := tot_take hl'
                have htl := tot_take_le G7 (p + 1)
                have cp := HO7.out.cellAt p (by omega)
                rw [hu] at cp
                have p0 : (0 : Int) ≤ (p : Int) := by omega
                have p1 : (p : Int) < (k : Int) := by omega
                have hsw : IntKind.i64.wrap ((tot (G7.take p) : Int) + (l.length : Int)) = ((tot (G7.take (p + 1)) : Nat) : Int) := by rw [htk]; exact (IntWalk.i64_in _ (by omega)).trans (by omega)
                clear hl' hu ou htk
                go_wp2_with fail
                go_roundw
                case rel => exact ⟨p + 1, hpl, by go_num, by first | trivial | rfl | go_num | (congr 1)⟩
                case measure => (simp [intOf] <;> omega)
              · obtain rfl : p = k := by omega
                rw [List.take_of_length_le (by rw [Hl7.out]; exact Nat.le_refl _)]
                have p1 : ¬ (p : Int) < (p : Int) := by omega
                by_cases h4 : 4000 < tot G7
                · have h4' : (4000 : Int) < ((tot G7 : Nat) : Int) := by omega
                  have hv := Hmr.out
                  rw [if_pos h4] at hv
                  have HV2 := Lib.hid (actV_none hv)
                  clear hv
                  go_wp2_with fail
                  go_ret2
                  rw [HV2.out]
                  exact ⟨_, rfl, fs_nil _, HB7.out⟩
                · have h4' : ¬ (4000 : Int) < ((tot G7 : Nat) : Int) := by omega
                  have hv := Hmr.out
                  rw [if_neg h4] at hv
                  have Hv := Lib.hid hv
                  clear hv
                  go_wp2_with fail
                  go_roundw
                  case rel => exact ⟨q + 1, _, G7, hql, by go_num, Hv.out, HO7.out, HR7.out, HB7.out⟩
                  case measure => (simp [intOf] <;> omega)
          · go_wp2_with fail
            refine (refinverse_any C _ W0 (is_own HC1.out rfl) (fun z hz => by have := HrC.out z hz; omega) (by omega)).mono ?_
            rintro e w4 ⟨v4, rfl, O4, B4⟩
            have HA2 := Lib.hid (own_below HA1.out B4)
            have HC2 := Lib.hid (own_below HC1.out B4)
            have HO4 := Lib.hid O4
            have HB4 := Lib.hid B4
            clear O4 B4
            go_wp2_with fail
            refine (refproduct_any (inv C) A C v4 _ _ w4 (is_own HO4.out rfl) (is_own HA2.out rfl) (is_own HC2.out rfl) HrC.out.inv HrA.out HrC.out (by rw [inv_len]; omega) (by omega) (by omega)).mono ?_
            rintro e w5 ⟨v5, rfl, O5, B5⟩
            have B05 := bon HB4.out B5
            have HO5 := Lib.hid (own_below HO1.out B05)
            have HR5 := Lib.hid (HR1.out.below B05)
            have HA5 := Lib.hid (own_below HC1.out B05)
            have HB5 := Lib.hid (bon HB1.out B05)
            obtain ⟨P, hP⟩ : ∃ P, P = red (inv C ++ A ++ C) := ⟨_, rfl⟩
            rw [← hP] at O5
            obtain ⟨a5, c5, rfl⟩ := own_form O5
            have HP5 := Lib.hid (own_mono O5 (Nat.le_trans HB1.out.size HB4.out.size))
            have ca := (HO5.out.cellAt j (by omega)).trans Hua.out
            have cc := (HO5.out.cellAt (j + 1) (by omega)).trans Huc.out
            have HP := Lib.hid hP
            clear hP
            have fa := HO5.out.frozenAt j
            have fc := HO5.out.frozenAt (j + 1)
            have st1 := (HO5.out.stored j (.slice a2 C.length c2)).1
            have st2 := (st1.stored (j + 1) (.slice a5 P.length c5)).1
            have hlG : fs.length = G.length := by rw [HGl.out, Hfl.out]; omega
            have r6 := (HR5.out.setrow HO5.out j (.slice a2 C.length c2)).set hlG j (own_setrow HA5.out HO5.out j _)
            have r7 := (r6.setrow st1 (j + 1) (.slice a5 P.length c5)).set (by simp [hlG]) (j + 1) (own_setrow (own_setrow HP5.out HO5.out j _) st1 (j + 1) _)
            have b6 := HB5.out.setCell (p := ⟨gl, j, none⟩) hgl.1 (.slice a2 C.length c2)
            have b7 := b6.setCell (p := ⟨gl, j + 1, none⟩) hgl.1 (.slice a5 P.length c5)
            clear O5 B5 B05 HO5 HR5 HA5 HB5 HP5 HO1 HR1 HA1 HC1 HB1 HO4 HB4 HA2 HC2
            obtain ⟨W7, hW7⟩ : ∃ W7, W7 = (w5.setCell ⟨gl, j, none⟩ (.slice a2 C.length c2)).setCell ⟨gl, j + 1, none⟩ (.slice a5 P.length c5) := ⟨_, rfl⟩
            rw [← hW7] at st2 b7 r7
            have HO7 := Lib.hid st2
            have HR7 := Lib.hid r7
            have HB7 := Lib.hid b7
            have hGd : G.getD j [] = A := by rw [List.getD_eq_getElem?_getD, HhA.out]; rfl
            have hGe : G.getD (j + 1) [] = C := by rw [List.getD_eq_getElem?_getD, HhC.out]; rfl
            have hjx : x.natAbs - 1 = j := Hjn.out.symm
            have hG7 : (G.set j C).set (j + 1) P = actS G x := by unfold actS; rw [if_neg (show ¬ 0 < x by omega), hjx, hGd, hGe, HP.out]
            have hl7 : (actS G x).length = k := by rw [actS_len, HGl.out]
            rw [hG7] at HR7
            have Hl7 := Lib.hid hl7
            have hmr := Hmore.out
            rw [show actF (some G) x = if 4000 < tot (actS G x) then none else some (actS G x) from rfl] at hmr
            obtain ⟨G7, hG8⟩ : ∃ G7, G7 = actS G x := ⟨_, rfl⟩
            rw [← hG8] at HR7 Hl7 hmr
            have Hmr := Lib.hid hmr
            have hbnd : tot G7 ≤ 30000 := by
              rw [hG8, ← hG7]
              exact Nat.le_trans (tot_set2 G j (j + 1) _ _) (by have := red_len (inv C ++ A ++ C); rw [HP.out]; have e := inv_len A; have e2 := inv_len C; simp only [List.length_append] at this; omega)
            clear st1 st2 b6 b7 r6 r7 hG7 hG8 hl7 hmr hGd hGe hjx
            go_wp2_with fail
            try rw [← hW7]
            clear hW7 ca cc fa fc
            go_loopw [14, 15] (fun s i wy => ∃ p : Nat, p ≤ k ∧ i = .int .i64 p ∧ s = .int .i64 ((tot (G7.take p) : Nat) : Int) ∧ wy = W7) (fun _ i _ => k - (intOf i).toNat)
            case atStart => exact ⟨0, Nat.zero_le _, rfl, rfl, rfl⟩
            case round =>
              obtain ⟨p, hpk, rfl, rfl, rfl⟩ := hrel
              by_cases hpl : p < k
              · obtain ⟨l, hl'⟩ : ∃ l, G7[p]? = some l := ⟨_, List.getElem?_eq_getElem (by rw [Hl7.out]; exact hpl)⟩
                obtain ⟨u, hu, ou⟩ := HR7.out p l hl'
                obtain ⟨a9, c9, rfl⟩ := own_form ou
                have hll := tot_mem hl'
                have htk := tot_take hl'
                have htl := tot_take_le G7 (p + 1)
                have cp := HO7.out.cellAt p (by omega)
                rw [hu] at cp
                have p0 : (0 : Int) ≤ (p : Int) := by omega
                have p1 : (p : Int) < (k : Int) := by omega
                have hsw : IntKind.i64.wrap ((tot (G7.take p) : Int) + (l.length : Int)) = ((tot (G7.take (p + 1)) : Nat) : Int) := by rw [htk]; exact (IntWalk.i64_in _ (by omega)).trans (by omega)
                clear hl' hu ou htk
                go_wp2_with fail
                go_roundw
                case rel => exact ⟨p + 1, hpl, by go_num, by first | trivial | rfl | go_num | (congr 1)⟩
                case measure => (simp [intOf] <;> omega)
              · obtain rfl : p = k := by omega
                rw [List.take_of_length_le (by rw [Hl7.out]; exact Nat.le_refl _)]
                have p1 : ¬ (p : Int) < (p : Int) := by omega
                by_cases h4 : 4000 < tot G7
                · have h4' : (4000 : Int) < ((tot G7 : Nat) : Int) := by omega
                  have hv := Hmr.out
                  rw [if_pos h4] at hv
                  have HV2 := Lib.hid (actV_none hv)
                  clear hv
                  go_wp2_with fail
                  go_ret2
                  rw [HV2.out]
                  exact ⟨_, rfl, fs_nil _, HB7.out⟩
                · have h4' : ¬ (4000 : Int) < ((tot G7 : Nat) : Int) := by omega
                  have hv := Hmr.out
                  rw [if_neg h4] at hv
                  have Hv := Lib.hid hv
                  clear hv
                  go_wp2_with fail
                  go_roundw
                  case rel => exact ⟨q + 1, _, G7, hql, by go_num, Hv.out, HO7.out, HR7.out, HB7.out⟩
                  case measure => (simp [intOf] <;> omega)
        · obtain rfl : q = ws.length := by omega
          rw [List.take_length] at hG
          have k1 : ¬ (ws.length : Int) < (ws.length : Int) := by omega
          have hGl : G.length = k := by rw [(actV_some hG).1, actL_len]
          have Hown := Lib.hid hown
          have Hrows := Lib.hid hrows
          have HG := Lib.hid hG
          clear hown hrows hG
          go_wp2_with fail
          go_ret2
          rw [HG.out]
          refine ⟨_, rfl, ?_, hbw⟩
          have := Hown.out
          rw [← hGl] at this ⊢
          exact Hrows.out.fs this
end Go.Proofs.Ytnfppebcpagjpaa
