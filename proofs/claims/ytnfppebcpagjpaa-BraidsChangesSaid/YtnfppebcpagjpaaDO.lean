/- Words that are equal as braids by the rules have the same line, links and sum of signs. -/
import Derived.Test.YtnfppebcpagjpaaDA
namespace Go.Proofs.Ytnfppebcpagjpaa
def add2 (M : Nat → Nat → Int) (a b : Nat) (s : Int) : Nat → Nat → Int := addM (addM M a b s) b a s
theorem add2_comm (M : Nat → Nat → Int) (a b c d : Nat) (s t : Int) : add2 (add2 M a b s) c d t = add2 (add2 M c d t) a b s := by
  funext i j
  unfold add2 addM
  generalize M i j = m
  have e : ∀ (p q r u : Prop) [Decidable p] [Decidable q] [Decidable r] [Decidable u],
      (if p then (if q then (if r then (if u then m + s else m) + s else (if u then m + s else m)) + t else (if r then (if u then m + s else m) + s else (if u then m + s else m))) + t else (if q then (if r then (if u then m + s else m) + s else (if u then m + s else m)) + t else (if r then (if u then m + s else m) + s else (if u then m + s else m)))) =
      (if r then (if u then (if p then (if q then m + t else m) + t else (if q then m + t else m)) + s else (if p then (if q then m + t else m) + t else (if q then m + t else m))) + s else (if u then (if p then (if q then m + t else m) + t else (if q then m + t else m)) + s else (if p then (if q then m + t else m) + t else (if q then m + t else m)))) := by
    intro p q r u _ _ _ _
    by_cases hp : p <;> by_cases hq : q <;> by_cases hr : r <;> by_cases hu : u <;> simp only [hp, hq, hr, hu, if_true, if_false] <;> omega
  exact e _ _ _ _
theorem add2_canc (M : Nat → Nat → Int) (a b : Nat) (s : Int) : add2 (add2 M a b s) b a (-s) = M := by
  funext i j
  unfold add2 addM
  generalize M i j = m
  by_cases hp : i = a ∧ j = b <;> by_cases hq : i = b ∧ j = a <;> simp only [hp, hq, and_self, if_true, if_false] <;> (repeat' split) <;> omega
theorem lkF_eq (x : Pm × (Nat → Nat → Int)) (z : Int) : lkF x z = (x.1.pre (num z), add2 x.2 (x.1.f (num z)) (x.1.f (num z + 1)) (sgn z)) := rfl
theorem num_neg (z : Int) : num (-z) = num z := by unfold num; omega
theorem sgn_neg {z : Int} (h : z ≠ 0) : sgn (-z) = -sgn z := by unfold sgn; split <;> split <;> omega
theorem lkF_canc (x : Pm × (Nat → Nat → Int)) {z : Int} (h : z ≠ 0) : lkF (lkF x z) (-z) = x := by
  rw [lkF_eq, lkF_eq, num_neg, sgn_neg h]
  dsimp only
  rw [Pm.pre_pre]
  have e1 : (x.1.pre (num z)).f (num z) = x.1.f (num z + 1) := by show x.1.f (sw _ _) = _; rw [sw_l]
  have e2 : (x.1.pre (num z)).f (num z + 1) = x.1.f (num z) := by show x.1.f (sw _ _) = _; rw [sw_r]
  rw [e1, e2, add2_canc]
theorem lkF_far (x : Pm × (Nat → Nat → Int)) {a b : Int} (h : num a + 1 < num b ∨ num b + 1 < num a) : lkF (lkF x a) b = lkF (lkF x b) a := by
  rw [lkF_eq, lkF_eq, lkF_eq, lkF_eq]
  dsimp only
  rw [pre_far _ h]
  have e : ∀ {k l : Nat}, (k + 1 < l ∨ l + 1 < k) → ∀ p : Pm, (p.pre k).f l = p.f l ∧ (p.pre k).f (l + 1) = p.f (l + 1) := fun {k l} hk p =>
    ⟨by show p.f (sw k l) = _; rw [sw_o (by omega) (by omega)], by show p.f (sw k (l + 1)) = _; rw [sw_o (by omega) (by omega)]⟩
  rw [(e h x.1).1, (e h x.1).2, (e (Or.symm h) x.1).1, (e (Or.symm h) x.1).2, add2_comm]
theorem lkF_braid (x : Pm × (Nat → Nat → Int)) {i : Int} (h : 0 < i) : lkF (lkF (lkF x i) (i + 1)) i = lkF (lkF (lkF x (i + 1)) i) (i + 1) := by
  obtain ⟨k, rfl⟩ : ∃ k : Nat, i = (k : Int) + 1 := ⟨(i - 1).toNat, by omega⟩
  have n1 : num ((k : Int) + 1) = k := by unfold num; omega
  have n2 : num ((k : Int) + 1 + 1) = k + 1 := by unfold num; omega
  have s1 : sgn ((k : Int) + 1) = 1 := by unfold sgn; rw [if_neg (by omega)]
  have s2 : sgn ((k : Int) + 1 + 1) = 1 := by unfold sgn; rw [if_neg (by omega)]
  simp only [lkF_eq, n1, n2, s1, s2]
  rw [pre_braid]
  have g : ∀ (p : Pm) (k j : Nat), (p.pre k).f j = p.f (sw k j) := fun _ _ _ => rfl
  have a1 : sw k (k + 1 + 1) = k + 1 + 1 := sw_o (by omega) (by omega)
  have a2 : sw (k + 1) k = k := sw_o (by omega) (by omega)
  simp only [g, sw_l, sw_r, a1, a2]
  congr 1
  rw [add2_comm (add2 x.2 (x.1.f k) (x.1.f (k + 1)) 1), add2_comm x.2 (x.1.f k), add2_comm (add2 x.2 (x.1.f (k + 1)) (x.1.f (k + 1 + 1)) 1)]
theorem Eqv.lkF {n : Nat} {w v : List Int} (h : Eqv n w v) : Word n w → ∀ x, w.foldl lkF x = v.foldl lkF x := by
  induction h with
  | refl => intro _ x; rfl
  | symm h ih => intro hw x; exact (ih (h.word.2 hw) x).symm
  | trans h _ ih1 ih2 => intro hw x; exact (ih1 hw x).trans (ih2 (h.word.1 hw) x)
  | canc a b hz => intro _ x; simp only [List.foldl_append, List.foldl_cons]; rw [lkF_canc _ hz.1]
  | far u v hf =>
    intro hw x
    rename_i a b
    have ha := (hw a (by simp)).1
    have hb := (hw b (by simp)).1
    obtain ⟨i, j, h1, h2, h3⟩ := hf
    simp only [List.foldl_append, List.foldl_cons]
    rw [lkF_far _ (by unfold num; omega)]
  | braid a b h0 hk => intro _ x; simp only [List.foldl_append, List.foldl_cons]; rw [lkF_braid _ h0]
theorem Eqv.lk {n : Nat} {w v : List Int} (h : Eqv n w v) (hw : Word n w) : lk w = lk v := h.lkF hw _
theorem Eqv.links {n : Nat} {w v : List Int} (h : Eqv n w v) (hw : Word n w) (m : Nat) : linksL m w = linksL m v := by unfold linksL; rw [h.lk hw]
theorem Eqv.perm {n : Nat} {w v : List Int} (h : Eqv n w v) (hw : Word n w) (m : Nat) : permL m w = permL m v := by unfold permL; rw [← lk_line, ← lk_line, h.lk hw]
/-- The sum of the signs. -/
def sumS (ws : List Int) : Int := ws.foldl (fun s z => s + if 0 < z then 1 else -1) 0
theorem sumS_from (ws : List Int) : ∀ s : Int, ws.foldl (fun s z => s + if 0 < z then 1 else -1) s = s + sumS ws := by
  unfold sumS
  induction ws with
  | nil => intro s; simp
  | cons z ws ih => intro s; rw [List.foldl_cons, List.foldl_cons, ih, ih (0 + _)]; omega
theorem sumS_app (a b : List Int) : sumS (a ++ b) = sumS a + sumS b := by
  show List.foldl _ 0 (a ++ b) = _
  rw [List.foldl_append, sumS_from]
  rfl
theorem sumS_cons (z : Int) (b : List Int) : sumS (z :: b) = (if 0 < z then 1 else -1) + sumS b := by
  show List.foldl _ (0 + _) b = _
  rw [sumS_from]
  omega
theorem Eqv.sumS {n : Nat} {w v : List Int} (h : Eqv n w v) : sumS w = sumS v := by
  induction h with
  | refl => rfl
  | symm _ ih => exact ih.symm
  | trans _ _ ih1 ih2 => exact ih1.trans ih2
  | canc a b hz => rw [sumS_app, sumS_app, sumS_cons, sumS_cons]; unfold Letter at hz; split <;> split <;> omega
  | far a b hf => rw [sumS_app, sumS_app, sumS_cons, sumS_cons, sumS_cons, sumS_cons]; omega
  | braid a b h0 hk => rw [sumS_app, sumS_app]; simp only [sumS_cons]; (repeat' split) <;> omega
end Go.Proofs.Ytnfppebcpagjpaa
