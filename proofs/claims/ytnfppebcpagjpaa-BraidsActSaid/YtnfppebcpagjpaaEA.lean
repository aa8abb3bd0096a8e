/- The action on letters in any group: it respects the three rules. No program is named here. -/
import Derived.Test.YtnfppebcpagjpaaBE
namespace Go.Proofs.Ytnfppebcpagjpaa
structure Gp (G : Type) where
  m : G → G → G
  e : G
  i : G → G
  asc : ∀ a b c, m (m a b) c = m a (m b c)
  em : ∀ a, m e a = a
  me : ∀ a, m a e = a
  im : ∀ a, m (i a) a = e
  mi : ∀ a, m a (i a) = e
theorem Gp.ima {G : Type} (K : Gp G) (a b : G) : K.m (K.i a) (K.m a b) = b := by rw [← K.asc, K.im, K.em]
theorem Gp.mia {G : Type} (K : Gp G) (a b : G) : K.m a (K.m (K.i a) b) = b := by rw [← K.asc, K.mi, K.em]
theorem Gp.canc {G : Type} (K : Gp G) {a b c : G} (h : K.m a b = K.m a c) : b = c := by
  have := congrArg (K.m (K.i a)) h
  rwa [K.ima, K.ima] at this
theorem Gp.inv_of {G : Type} (K : Gp G) {a b : G} (h : K.m a b = K.e) : b = K.i a := K.canc (a := a) (by rw [h, K.mi])
theorem Gp.i_m {G : Type} (K : Gp G) (a b : G) : K.i (K.m a b) = K.m (K.i b) (K.i a) := (K.inv_of (by rw [K.asc, ← K.asc b, K.mi, K.em, K.mi])).symm
theorem Gp.i_i {G : Type} (K : Gp G) (a : G) : K.i (K.i a) = a := (K.inv_of (K.im a)).symm
theorem Gp.i_e {G : Type} (K : Gp G) : K.i K.e = K.e := (K.inv_of (K.em _)).symm
/-- One letter: neighbours exchange places, one of them conjugated. -/
def hzP {G : Type} (K : Gp G) (g : Nat → G) (k : Nat) : Nat → G := fun j => if j = k then K.m (K.m (g k) (g (k + 1))) (K.i (g k)) else if j = k + 1 then g k else g j
def hzN {G : Type} (K : Gp G) (g : Nat → G) (k : Nat) : Nat → G := fun j => if j = k then g (k + 1) else if j = k + 1 then K.m (K.m (K.i (g (k + 1))) (g k)) (g (k + 1)) else g j
def hz {G : Type} (K : Gp G) (g : Nat → G) (z : Int) : Nat → G := if 0 < z then hzP K g (z.natAbs - 1) else hzN K g (z.natAbs - 1)
def hzW {G : Type} (K : Gp G) (g : Nat → G) (w : List Int) : Nat → G := w.foldl (hz K) g
theorem hzW_app {G : Type} (K : Gp G) (g : Nat → G) (u v : List Int) : hzW K g (u ++ v) = hzW K (hzW K g u) v := by simp [hzW]
theorem hzW_one {G : Type} (K : Gp G) (g : Nat → G) (z : Int) : hzW K g [z] = hz K g z := rfl
theorem hzW_nil {G : Type} (K : Gp G) (g : Nat → G) : hzW K g [] = g := rfl
theorem hz_pos {G : Type} (K : Gp G) (g : Nat → G) (k : Nat) : hz K g ((k : Int) + 1) = hzP K g k := by
  unfold hz; rw [if_pos (by omega), show ((k : Int) + 1).natAbs - 1 = k by omega]
theorem hz_neg {G : Type} (K : Gp G) (g : Nat → G) (k : Nat) : hz K g (-((k : Int) + 1)) = hzN K g k := by
  unfold hz; rw [if_neg (by omega), show (-((k : Int) + 1)).natAbs - 1 = k by omega]
theorem hzP_l {G : Type} (K : Gp G) (g : Nat → G) (k : Nat) : hzP K g k k = K.m (K.m (g k) (g (k + 1))) (K.i (g k)) := by simp [hzP]
theorem hzP_r {G : Type} (K : Gp G) (g : Nat → G) (k : Nat) : hzP K g k (k + 1) = g k := by simp [hzP]
theorem hzP_o {G : Type} (K : Gp G) (g : Nat → G) {k j : Nat} (h1 : j ≠ k) (h2 : j ≠ k + 1) : hzP K g k j = g j := by simp [hzP, h1, h2]
theorem hzN_l {G : Type} (K : Gp G) (g : Nat → G) (k : Nat) : hzN K g k k = g (k + 1) := by simp [hzN]
theorem hzN_r {G : Type} (K : Gp G) (g : Nat → G) (k : Nat) : hzN K g k (k + 1) = K.m (K.m (K.i (g (k + 1))) (g k)) (g (k + 1)) := by simp [hzN]
theorem hzN_o {G : Type} (K : Gp G) (g : Nat → G) {k j : Nat} (h1 : j ≠ k) (h2 : j ≠ k + 1) : hzN K g k j = g j := by simp [hzN, h1, h2]
theorem hzPN {G : Type} (K : Gp G) (g : Nat → G) (k : Nat) : hzN K (hzP K g k) k = g := by
  funext j
  by_cases h1 : j = k
  · subst h1; rw [hzN_l, hzP_r]
  · by_cases h2 : j = k + 1
    · subst h2; rw [hzN_r, hzP_r, hzP_l, K.asc, K.asc, K.asc, K.im, K.me, K.ima]
    · rw [hzN_o K _ h1 h2, hzP_o K _ h1 h2]
theorem hzNP {G : Type} (K : Gp G) (g : Nat → G) (k : Nat) : hzP K (hzN K g k) k = g := by
  funext j
  by_cases h1 : j = k
  · subst h1; rw [hzP_l, hzN_l, hzN_r, K.asc, K.asc, K.asc, K.mi, K.me, K.mia]
  · by_cases h2 : j = k + 1
    · subst h2; rw [hzP_r, hzN_l]
    · rw [hzP_o K _ h1 h2, hzN_o K _ h1 h2]
theorem hz_canc {G : Type} (K : Gp G) (g : Nat → G) {z : Int} (h : z ≠ 0) : hz K (hz K g z) (-z) = g := by
  by_cases hp : 0 < z
  · obtain ⟨k, rfl⟩ : ∃ k : Nat, z = (k : Int) + 1 := ⟨(z - 1).toNat, by omega⟩
    rw [hz_pos, hz_neg, hzPN]
  · obtain ⟨k, rfl⟩ : ∃ k : Nat, z = -((k : Int) + 1) := ⟨(-z - 1).toNat, by omega⟩
    rw [hz_neg, Int.neg_neg, hz_pos, hzNP]
theorem hz_loc {G : Type} (K : Gp G) (g : Nat → G) (z : Int) {j : Nat} (h1 : j ≠ z.natAbs - 1) (h2 : j ≠ z.natAbs - 1 + 1) : hz K g z j = g j := by
  unfold hz
  split
  · exact hzP_o K g h1 h2
  · exact hzN_o K g h1 h2
/-- What a letter makes of two values. -/
def hzA {G : Type} (K : Gp G) (z : Int) (a b : G) : G := if 0 < z then K.m (K.m a b) (K.i a) else b
def hzB {G : Type} (K : Gp G) (z : Int) (a b : G) : G := if 0 < z then a else K.m (K.m (K.i b) a) b
theorem hz_l {G : Type} (K : Gp G) (g : Nat → G) (z : Int) : hz K g z (z.natAbs - 1) = hzA K z (g (z.natAbs - 1)) (g (z.natAbs - 1 + 1)) := by
  unfold hz hzA
  split
  · exact hzP_l K g _
  · exact hzN_l K g _
theorem hz_r {G : Type} (K : Gp G) (g : Nat → G) (z : Int) : hz K g z (z.natAbs - 1 + 1) = hzB K z (g (z.natAbs - 1)) (g (z.natAbs - 1 + 1)) := by
  unfold hz hzB
  split
  · exact hzP_r K g _
  · exact hzN_r K g _
theorem hz_far {G : Type} (K : Gp G) (g : Nat → G) {a b : Int} (h : a.natAbs - 1 + 1 < b.natAbs - 1 ∨ b.natAbs - 1 + 1 < a.natAbs - 1) : hz K (hz K g a) b = hz K (hz K g b) a := by
  funext j
  by_cases a1 : j = a.natAbs - 1
  · subst a1
    rw [hz_loc K _ b (by omega) (by omega), hz_l, hz_l, hz_loc K _ b (by omega) (by omega), hz_loc K _ b (by omega) (by omega)]
  · by_cases a2 : j = a.natAbs - 1 + 1
    · subst a2
      rw [hz_loc K _ b (by omega) (by omega), hz_r, hz_r, hz_loc K _ b (by omega) (by omega), hz_loc K _ b (by omega) (by omega)]
    · rw [hz_loc K _ a a1 a2]
      by_cases b1 : j = b.natAbs - 1
      · subst b1
        rw [hz_l, hz_l, hz_loc K _ a (by omega) (by omega), hz_loc K _ a (by omega) (by omega)]
      · by_cases b2 : j = b.natAbs - 1 + 1
        · subst b2
          rw [hz_r, hz_r, hz_loc K _ a (by omega) (by omega), hz_loc K _ a (by omega) (by omega)]
        · rw [hz_loc K _ b b1 b2, hz_loc K _ b b1 b2, hz_loc K _ a a1 a2]
theorem hz_braid {G : Type} (K : Gp G) (g : Nat → G) (k : Nat) : hzP K (hzP K (hzP K g k) (k + 1)) k = hzP K (hzP K (hzP K g (k + 1)) k) (k + 1) := by
  funext j
  by_cases h0 : j = k
  · subst h0
    rw [hzP_l, hzP_o K _ (show j ≠ j + 1 by omega) (by omega), hzP_l, hzP_l, hzP_r, hzP_o K _ (show j + 1 + 1 ≠ j by omega) (by omega)]
    rw [hzP_o K _ (show j ≠ j + 1 by omega) (by omega), hzP_l, hzP_l, hzP_o K _ (show j ≠ j + 1 by omega) (by omega)]
    simp only [K.asc, K.i_m, K.i_i, K.ima]
  · by_cases h1 : j = k + 1
    · subst h1
      rw [hzP_r, hzP_o K _ (show k ≠ k + 1 by omega) (by omega), hzP_l, hzP_l]
      rw [hzP_r, hzP_o K _ (show k + 1 + 1 ≠ k by omega) (by omega), hzP_o K _ (show k ≠ k + 1 by omega) (by omega), hzP_r]
    · by_cases h2 : j = k + 1 + 1
      · subst h2
        rw [hzP_o K _ (by omega) (by omega), hzP_r, hzP_r, hzP_r, hzP_r, hzP_o K _ (by omega) (by omega)]
      · rw [hzP_o K _ h0 h1, hzP_o K _ h1 h2, hzP_o K _ h0 h1, hzP_o K _ h1 h2, hzP_o K _ h0 h1, hzP_o K _ h1 h2]
theorem Eqv.hz {G : Type} (K : Gp G) {n : Nat} {w v : List Int} (h : Eqv n w v) : Word n w → ∀ g, hzW K g w = hzW K g v := by
  induction h with
  | refl => intro _ x; rfl
  | symm h ih => intro hw x; exact (ih (h.word.2 hw) x).symm
  | trans h _ ih1 ih2 => intro hw x; exact (ih1 hw x).trans (ih2 (h.word.1 hw) x)
  | canc a b hz => intro _ x; simp only [hzW, List.foldl_append, List.foldl_cons]; rw [hz_canc _ _ hz.1]
  | far u v hf =>
    intro hw x
    rename_i a b
    have ha := (hw a (by simp)).1
    have hb := (hw b (by simp)).1
    obtain ⟨i, j, h1, h2, h3⟩ := hf
    simp only [hzW, List.foldl_append, List.foldl_cons]
    rw [hz_far _ _ (by omega)]
  | braid a b h0 hk =>
    intro _hw x
    rename_i i
    obtain ⟨k, rfl⟩ : ∃ k : Nat, i = (k : Int) + 1 := ⟨(i - 1).toNat, by omega⟩
    have e : (k : Int) + 1 + 1 = ((k + 1 : Nat) : Int) + 1 := by omega
    simp only [hzW, List.foldl_append, List.foldl_cons]
    rw [e]
    simp only [hz_pos]
    rw [hz_braid]
theorem hzW_inv {G : Type} (K : Gp G) {n : Nat} (u : List Int) (h : Word n u) (g : Nat → G) : hzW K (hzW K g u) (Proofs.Ytnfppebcpagjpaa.inv u) = g := by
  rw [← hzW_app, (canc_r u h).hz K (h.app h.inv), hzW_nil]
/-- Letters that are less than N leave the value at N and behind. -/
theorem hzW_keep {G : Type} (K : Gp G) {N : Nat} : ∀ (v : List Int), Word N v → ∀ (g : Nat → G) (j : Nat), N ≤ j → hzW K g v j = g j
  | [], _, _, _, _ => rfl
  | z :: v, h, g, j, hj => by
    have hl := h z (by simp)
    show hzW K (Proofs.Ytnfppebcpagjpaa.hz K g z) v j = g j
    rw [hzW_keep K v (fun x hx => h x (by simp [hx])) _ j hj]
    exact hz_loc K g z (by omega) (by omega)
/-- A map that keeps products takes the action along. -/
theorem hz_map {G H : Type} (K : Gp G) (L : Gp H) (f : G → H) (hm : ∀ a b, f (K.m a b) = L.m (f a) (f b)) (hi : ∀ a, f (K.i a) = L.i (f a)) (g : Nat → G) (z : Int) : (fun j => f (Proofs.Ytnfppebcpagjpaa.hz K g z j)) = Proofs.Ytnfppebcpagjpaa.hz L (fun j => f (g j)) z := by
  funext j
  by_cases h1 : j = z.natAbs - 1
  · subst h1
    rw [hz_l, hz_l]
    unfold hzA
    split
    · rw [hm, hm, hi]
    · rfl
  · by_cases h2 : j = z.natAbs - 1 + 1
    · subst h2
      rw [hz_r, hz_r]
      unfold hzB
      split
      · rfl
      · rw [hm, hm, hi]
    · rw [hz_loc K g z h1 h2, hz_loc L _ z h1 h2]
theorem hzW_map {G H : Type} (K : Gp G) (L : Gp H) (f : G → H) (hm : ∀ a b, f (K.m a b) = L.m (f a) (f b)) (hi : ∀ a, f (K.i a) = L.i (f a)) : ∀ (w : List Int) (g : Nat → G), (fun j => f (hzW K g w j)) = hzW L (fun j => f (g j)) w
  | [], _ => rfl
  | z :: w, g => by
    show (fun j => f (hzW K (Proofs.Ytnfppebcpagjpaa.hz K g z) w j)) = hzW L (Proofs.Ytnfppebcpagjpaa.hz L (fun j => f (g j)) z) w
    rw [← hz_map K L f hm hi, hzW_map K L f hm hi w]
end Go.Proofs.Ytnfppebcpagjpaa
