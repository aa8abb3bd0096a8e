/- The letters' words under a braid, reduced: they are equal exactly if the braids are. No program is named here beyond what is imported. -/
import Derived.Test.YtnfppebcpagjpaaEC
import Derived.Test.YtnfppebcpagjpaaCG
namespace Go.Proofs.Ytnfppebcpagjpaa
def actS (g : List (List Int)) (z : Int) : List (List Int) :=
  if 0 < z then (g.set (z.natAbs - 1) (red (g.getD (z.natAbs - 1) [] ++ g.getD (z.natAbs - 1 + 1) [] ++ inv (g.getD (z.natAbs - 1) [])))).set (z.natAbs - 1 + 1) (g.getD (z.natAbs - 1) [])
  else (g.set (z.natAbs - 1) (g.getD (z.natAbs - 1 + 1) [])).set (z.natAbs - 1 + 1) (red (inv (g.getD (z.natAbs - 1 + 1) []) ++ g.getD (z.natAbs - 1) [] ++ g.getD (z.natAbs - 1 + 1) []))
def gens (n : Nat) : List (List Int) := (List.range n).map fun (i : Nat) => [(i : Int) + 1]
def actL (n : Nat) (w : List Int) : List (List Int) := w.foldl actS (gens n)
theorem gens_len (n : Nat) : (gens n).length = n := by simp [gens]
theorem actS_len (g : List (List Int)) (z : Int) : (actS g z).length = g.length := by unfold actS; split <;> simp
theorem actL_snoc (n : Nat) (w : List Int) (z : Int) : actL n (w ++ [z]) = actS (actL n w) z := by simp [actL]
theorem actL_len (n : Nat) (w : List Int) : (actL n w).length = n := by
  induction w using snoc_ind with
  | h0 => exact gens_len n
  | h1 w z ih => rw [actL_snoc, actS_len, ih]
/-- Letters that are none of 0, up to m. -/
def Ltr (m : Nat) (l : List Int) : Prop := ∀ z ∈ l, z ≠ 0 ∧ z.natAbs ≤ m
theorem Ltr.app {m : Nat} {a b : List Int} (h : Ltr m a) (k : Ltr m b) : Ltr m (a ++ b) := fun z hz => (List.mem_append.1 hz).elim (h z) (k z)
theorem Ltr.inv {m : Nat} {a : List Int} (h : Ltr m a) : Ltr m (Proofs.Ytnfppebcpagjpaa.inv a) := fun z hz => by
  unfold Proofs.Ytnfppebcpagjpaa.inv at hz
  rw [List.mem_reverse, List.mem_map] at hz
  obtain ⟨y, hy, rfl⟩ := hz
  have := h y hy
  omega
theorem redS_mem {o : List Int} {z x : Int} (h : x ∈ redS o z) : x ∈ o ∨ x = z := by
  unfold redS at h
  split at h
  · exact .inl (List.dropLast_subset _ h)
  · rcases List.mem_append.1 h with h | h
    · exact .inl h
    · exact .inr (List.mem_singleton.1 h)
theorem red_mem {l : List Int} : ∀ {x : Int}, x ∈ red l → x ∈ l := by
  induction l using snoc_ind with
  | h0 => intro x h; exact h
  | h1 l z ih =>
    intro x h
    rw [show red (l ++ [z]) = redS (red l) z by simp [red]] at h
    rcases redS_mem h with h | h
    · exact List.mem_append_left _ (ih h)
    · exact List.mem_append_right _ (by simp [h])
theorem Ltr.red {m : Nat} {a : List Int} (h : Ltr m a) : Ltr m (Proofs.Ytnfppebcpagjpaa.red a) := fun z hz => h z (red_mem hz)
theorem getD_ltr {m : Nat} {g : List (List Int)} (h : ∀ l ∈ g, Ltr m l) (k : Nat) : Ltr m (g.getD k []) := by
  rw [List.getD_eq_getElem?_getD]
  cases e : g[k]? with
  | none => exact fun z hz => by simp at hz
  | some l => exact h l (List.mem_of_getElem? e)
theorem actS_ltr {m : Nat} {g : List (List Int)} (h : ∀ l ∈ g, Ltr m l) (z : Int) : ∀ l ∈ actS g z, Ltr m l := by
  have s : ∀ (G : List (List Int)) (i j : Nat) (a b : List Int), (∀ l ∈ G, Ltr m l) → Ltr m a → Ltr m b → ∀ l ∈ (G.set i a).set j b, Ltr m l := fun G i j a b hG ha hb l hl => by
    rcases List.mem_or_eq_of_mem_set hl with hl | rfl
    · rcases List.mem_or_eq_of_mem_set hl with hl | rfl
      · exact hG l hl
      · exact ha
    · exact hb
  unfold actS
  have g0 := getD_ltr h (z.natAbs - 1)
  have g1 := getD_ltr h (z.natAbs - 1 + 1)
  split
  · exact s _ _ _ _ _ h ((g0.app g1).app g0.inv).red g0
  · exact s _ _ _ _ _ h g1 ((g1.inv.app g0).app g1).red
theorem gens_ltr (n : Nat) : ∀ l ∈ gens n, Ltr n l := fun l hl z hz => by
  unfold gens at hl
  obtain ⟨i, hi, rfl⟩ := List.mem_map.1 hl
  have := List.mem_range.1 hi
  have := List.mem_singleton.1 hz
  omega
theorem actL_ltr (n : Nat) (w : List Int) : ∀ l ∈ actL n w, Ltr n l := by
  induction w using snoc_ind with
  | h0 => exact gens_ltr n
  | h1 w z ih => rw [actL_snoc]; exact actS_ltr ih z
/-- The value of a word of letters in a group. -/
def lv {G : Type} (K : Gp G) (g : Nat → G) (z : Int) : G := if 0 < z then g (z.natAbs - 1) else K.i (g (z.natAbs - 1))
def ev {G : Type} (K : Gp G) (g : Nat → G) (l : List Int) : G := l.foldl (fun x z => K.m x (lv K g z)) K.e
theorem ev_from {G : Type} (K : Gp G) (g : Nat → G) : ∀ (l : List Int) (x : G), l.foldl (fun x z => K.m x (lv K g z)) x = K.m x (ev K g l)
  | [], x => (K.me x).symm
  | z :: l, x => by
    show l.foldl _ (K.m x (lv K g z)) = K.m x (l.foldl _ (K.m K.e (lv K g z)))
    rw [ev_from K g l, ev_from K g l, K.em, K.asc]
theorem ev_app {G : Type} (K : Gp G) (g : Nat → G) (a b : List Int) : ev K g (a ++ b) = K.m (ev K g a) (ev K g b) := by
  show (a ++ b).foldl _ _ = _
  rw [List.foldl_append, ev_from]
  rfl
theorem ev_one {G : Type} (K : Gp G) (g : Nat → G) (z : Int) : ev K g [z] = lv K g z := K.em _
theorem lv_neg {G : Type} (K : Gp G) (g : Nat → G) {z : Int} (h : z ≠ 0) : lv K g (-z) = K.i (lv K g z) := by
  unfold lv
  rw [Int.natAbs_neg]
  by_cases hp : 0 < z
  · rw [if_pos hp, if_neg (by omega)]
  · rw [if_neg hp, if_pos (by omega), K.i_i]
theorem ev_inv {G : Type} (K : Gp G) (g : Nat → G) {m : Nat} : ∀ {a : List Int}, Ltr m a → ev K g (inv a) = K.i (ev K g a)
  | [], _ => K.i_e.symm
  | z :: a, h => by
    rw [inv_cons, ev_app, ev_inv K g (fun x hx => h x (by simp [hx])), ev_one, lv_neg K g (h z (by simp)).1, show z :: a = [z] ++ a from rfl, ev_app, ev_one, K.i_m]
theorem ev_red {G : Type} (K : Gp G) (g : Nat → G) {m : Nat} {a : List Int} : Ltr m a → ev K g (red a) = ev K g a := by
  induction a using snoc_ind with
  | h0 => intro _; rfl
  | h1 a z ih =>
    intro h
    have ih' := ih fun x hx => h x (by simp [hx])
    have hz := (h z (by simp)).1
    rw [show red (a ++ [z]) = redS (red a) z by simp [red], ev_app, ev_one, ← ih']
    generalize red a = o
    rcases last_or o with rfl | ⟨E, y, rfl⟩
    · rw [redS_nil, ev_one]
      exact (K.em _).symm
    · by_cases hy : y = -z
      · rw [redS_pop E hy, ev_app, ev_one, hy, lv_neg K g hz, K.asc, K.im, K.me]
      · rw [redS_push E hy, ev_app (b := [z]), ev_one]
theorem getD_set {g : List (List Int)} {i j : Nat} {a : List Int} (hi : i < g.length) : (g.set i a).getD j [] = if j = i then a else g.getD j [] := by
  rw [List.getD_eq_getElem?_getD, List.getD_eq_getElem?_getD, List.getElem?_set]
  by_cases h : j = i
  · subst h; rw [if_pos rfl, if_pos rfl, if_pos hi]; rfl
  · rw [if_neg h, if_neg (fun e => h e.symm)]
theorem actS_ev {G : Type} (K : Gp G) (g : Nat → G) {m : Nat} {L : List (List Int)} {z : Int} (hL : ∀ l ∈ L, Ltr m l) (hlt : Letter L.length z) (f : Nat → G) (hf : ∀ j, j < L.length → ev K g (L.getD j []) = f j) :
    ∀ j, j < L.length → ev K g ((actS L z).getD j []) = hz K f z j := by
  intro j hj
  have := hlt.1; have := hlt.2.1; have := hlt.2.2
  have h1 : z.natAbs - 1 + 1 < L.length := by omega
  have g0 := getD_ltr hL (z.natAbs - 1)
  have g1 := getD_ltr hL (z.natAbs - 1 + 1)
  unfold actS hz
  by_cases hp : 0 < z
  · rw [if_pos hp, if_pos hp, getD_set (by simp; omega), getD_set (by omega)]
    unfold hzP
    by_cases c1 : j = z.natAbs - 1 + 1
    · rw [if_pos c1, if_neg (by omega), if_pos c1, hf _ (by omega)]
    · rw [if_neg c1]
      by_cases c2 : j = z.natAbs - 1
      · rw [if_pos c2, if_pos c2, ev_red K g ((g0.app g1).app g0.inv), ev_app, ev_app, ev_inv K g g0, hf _ (by omega), hf _ h1]
      · rw [if_neg c2, if_neg c2, if_neg c1, hf j hj]
  · rw [if_neg hp, if_neg hp, getD_set (by simp; omega), getD_set (by omega)]
    unfold hzN
    by_cases c1 : j = z.natAbs - 1 + 1
    · rw [if_pos c1, if_neg (by omega), if_pos c1, ev_red K g ((g1.inv.app g0).app g1), ev_app, ev_app, ev_inv K g g1, hf _ h1, hf _ (show z.natAbs - 1 < L.length by omega)]
    · rw [if_neg c1]
      by_cases c2 : j = z.natAbs - 1
      · rw [if_pos c2, if_pos c2, hf _ h1]
      · rw [if_neg c2, if_neg c2, if_neg c1, hf j hj]
theorem actL_ev {G : Type} (K : Gp G) (g : Nat → G) {n : Nat} (w : List Int) : Word n w → ∀ j, j < n → ev K g ((actL n w).getD j []) = hzW K g w j := by
  induction w using snoc_ind with
  | h0 =>
    intro _ j hj
    show ev K g ((gens n).getD j []) = g j
    have e : (gens n).getD j [] = [(j : Int) + 1] := by
      rw [List.getD_eq_getElem?_getD]
      simp [gens, hj]
    rw [e, ev_one]
    unfold lv
    rw [if_pos (by omega), show ((j : Int) + 1).natAbs - 1 = j by omega]
  | h1 w z ih =>
    intro hw j hj
    have hl := actL_len n w
    rw [actL_snoc, hzW_app, hzW_one]
    exact actS_ev K g (actL_ltr n w) (by rw [hl]; exact hw z (by simp)) _ (fun i hi => ih (fun x hx => hw x (by simp [hx])) i (by omega)) j (by omega)
theorem act_faith {n : Nat} {a b : List Int} (ha : Word n a) (hb : Word n b) (h : actL n a = actL n b) : Eqv n a b := faithful2 ha hb fun G K g j hj => by
  rw [← actL_ev K g a ha j hj, ← actL_ev K g b hb j hj, h]
/-- The same group, the other way round. -/
def opG {G : Type} (K : Gp G) : Gp G where
  m a b := K.m b a
  e := K.e
  i := K.i
  asc a b c := (K.asc c b a).symm
  em := K.me
  me := K.em
  im := K.mi
  mi := K.im
theorem ev_stk {m : Nat} : ∀ (l : List Int), Ltr m l → ∀ (x : Bj Rs) (s : Rs), ((l.foldl (fun x z => (opG (bjG Rs)).m x (lv (opG (bjG Rs)) genX z)) x).f s).1 = stk (x.f s).1 l
  | [], _, _, _ => rfl
  | z :: l, h, x, s => by
    have hz := (h z (by simp)).1
    have e : lv (opG (bjG Rs)) genX z = pshB z := Xs_gen hz
    rw [List.foldl_cons, ev_stk l (fun y hy => h y (by simp [hy])), e]
    rfl
theorem red_stk (l : List Int) : (red l).reverse = stk [] l := by
  induction l using snoc_ind with
  | h0 => rfl
  | h1 l z ih =>
    rw [show red (l ++ [z]) = redS (red l) z by simp [red], show stk [] (l ++ [z]) = psh z (stk [] l) by simp [stk], ← ih]
    rcases last_or (red l) with e | ⟨E, y, e⟩
    · rw [e]; rfl
    · rw [e]
      by_cases hy : y = -z
      · rw [redS_pop E hy, List.reverse_append]
        exact (psh_eq z y E.reverse hy).symm
      · rw [redS_push E hy, List.reverse_append, List.reverse_append]
        exact (psh_ne z y E.reverse hy).symm
/-- A word without neighbours that cancel. -/
def Rw (l : List Int) : Prop := stk [] l = l.reverse
theorem red_rw {m : Nat} {l : List Int} (h : Ltr m l) : Rw (red l) := by
  unfold Rw
  have e := ev_red (opG (bjG Rs)) genX h
  have e1 := ev_stk (red l) h.red (bjG Rs).e ⟨[], trivial⟩
  have e2 := ev_stk l h (bjG Rs).e ⟨[], trivial⟩
  have e3 : stk [] (red l) = stk [] l := by
    have h1 : stk [] (red l) = ((ev (opG (bjG Rs)) genX (red l)).f ⟨[], trivial⟩).1 := e1.symm
    have h2 : stk [] l = ((ev (opG (bjG Rs)) genX l).f ⟨[], trivial⟩).1 := e2.symm
    rw [h1, h2, e]
  rw [e3, red_stk]
theorem getD_rw {g : List (List Int)} (h : ∀ l ∈ g, Rw l) (k : Nat) : Rw (g.getD k []) := by
  rw [List.getD_eq_getElem?_getD]
  cases e : g[k]? with
  | none => rfl
  | some l => exact h l (List.mem_of_getElem? e)
theorem actS_rw {m : Nat} {g : List (List Int)} (hl : ∀ l ∈ g, Ltr m l) (h : ∀ l ∈ g, Rw l) (z : Int) : ∀ l ∈ actS g z, Rw l := by
  have s : ∀ (G : List (List Int)) (i j : Nat) (a b : List Int), (∀ l ∈ G, Rw l) → Rw a → Rw b → ∀ l ∈ (G.set i a).set j b, Rw l := fun G i j a b hG ha hb l hl => by
    rcases List.mem_or_eq_of_mem_set hl with hl | rfl
    · rcases List.mem_or_eq_of_mem_set hl with hl | rfl
      · exact hG l hl
      · exact ha
    · exact hb
  unfold actS
  have g0 := getD_ltr hl (z.natAbs - 1)
  have g1 := getD_ltr hl (z.natAbs - 1 + 1)
  split
  · exact s _ _ _ _ _ h (red_rw ((g0.app g1).app g0.inv)) (getD_rw h _)
  · exact s _ _ _ _ _ h (getD_rw h _) (red_rw ((g1.inv.app g0).app g1))
theorem actL_rw (n : Nat) (w : List Int) : ∀ l ∈ actL n w, Rw l := by
  induction w using snoc_ind with
  | h0 =>
    intro l hl
    have hl : l ∈ gens n := hl
    unfold gens at hl
    obtain ⟨i, _, rfl⟩ := List.mem_map.1 hl
    rfl
  | h1 w z ih => rw [actL_snoc]; exact actS_rw (actL_ltr n w) ih z
theorem act_sound {n : Nat} {a b : List Int} (ha : Word n a) (h : Eqv n a b) : actL n a = actL n b := by
  have hb := h.word.1 ha
  apply List.ext_getElem?
  intro j
  by_cases hj : j < n
  · have la := actL_len n a
    have lb := actL_len n b
    obtain ⟨x, hx⟩ : ∃ x, (actL n a)[j]? = some x := ⟨_, List.getElem?_eq_getElem (by omega)⟩
    obtain ⟨y, hy⟩ : ∃ y, (actL n b)[j]? = some y := ⟨_, List.getElem?_eq_getElem (by omega)⟩
    rw [hx, hy]
    have ea := actL_ev (opG (bjG Rs)) genX a ha j hj
    have eb := actL_ev (opG (bjG Rs)) genX b hb j hj
    rw [h.hz _ ha] at ea
    rw [List.getD_eq_getElem?_getD, hx] at ea
    rw [List.getD_eq_getElem?_getD, hy] at eb
    have e : ev (opG (bjG Rs)) genX x = ev (opG (bjG Rs)) genX y := ea.trans eb.symm
    have hxm := List.mem_of_getElem? hx
    have hym := List.mem_of_getElem? hy
    have e1 := ev_stk x (actL_ltr n a x hxm) (bjG Rs).e ⟨[], trivial⟩
    have e2 := ev_stk y (actL_ltr n b y hym) (bjG Rs).e ⟨[], trivial⟩
    have h1 : stk [] x = ((ev (opG (bjG Rs)) genX x).f ⟨[], trivial⟩).1 := e1.symm
    have h2 : stk [] y = ((ev (opG (bjG Rs)) genX y).f ⟨[], trivial⟩).1 := e2.symm
    have rx := actL_rw n a x hxm
    have ry := actL_rw n b y hym
    unfold Rw at rx ry
    rw [← List.reverse_inj.1 (show x.reverse = y.reverse by rw [← rx, ← ry, h1, h2, e])]
  · rw [List.getElem?_eq_none (by rw [actL_len]; omega), List.getElem?_eq_none (by rw [actL_len]; omega)]
theorem act_iff {n : Nat} {a b : List Int} (ha : Word n a) (hb : Word n b) : actL n a = actL n b ↔ Eqv n a b := ⟨act_faith ha hb, act_sound ha⟩
end Go.Proofs.Ytnfppebcpagjpaa
