/- Plain theory of simple braids: Delta, what a factor takes over from the next one, a factor put behind a normal form. No program is named here. -/
import Derived.Test.YtmefpaoakblndaaGreatDoorBA
namespace Go.Proofs.YtmefpaoakblndaaGreatDoor

def idP : Pm := ⟨fun x => x, fun x => x, fun _ => rfl, fun _ => rfl⟩
def rev (n x : Nat) : Nat := if x < n then n - 1 - x else x
theorem rev_rev (n x : Nat) : rev n (rev n x) = x := by unfold rev; repeat' split
                                                        all_goals omega
theorem rev_lt {n x : Nat} (h : x < n) : rev n x = n - 1 - x := by simp [rev, h]
theorem rev_ge {n x : Nat} (h : n ≤ x) : rev n x = x := by unfold rev; rw [if_neg (by omega)]
def dl (n : Nat) : Pm := ⟨rev n, rev n, rev_rev n, rev_rev n⟩
def tu (n : Nat) (a : Pm) : Pm := ⟨fun x => rev n (a.f (rev n x)), fun x => rev n (a.g (rev n x)), fun x => by simp only [rev_rev, a.fg], fun x => by simp only [rev_rev, a.gf]⟩
def Pm.mul (a e : Pm) : Pm := ⟨fun x => e.f (a.f x), fun x => a.g (e.g x), fun x => by simp only [a.fg, e.fg], fun x => by simp only [e.gf, a.gf]⟩
theorem idP_in (n : Nat) : idP.In n := fun _ _ => rfl
theorem dl_in (n : Nat) : (dl n).In n := fun _ h => rev_ge h
theorem tu_in {n : Nat} {a : Pm} (h : a.In n) : (tu n a).In n := fun x hx => by
  show rev n (a.f (rev n x)) = x
  rw [rev_ge hx, h x hx, rev_ge hx]
theorem mul_in {n : Nat} {a e : Pm} (h : a.In n) (k : e.In n) : (a.mul e).In n := fun x hx => by
  show e.f (a.f x) = x
  rw [h x hx, k x hx]
theorem tu_tu (n : Nat) (a : Pm) : tu n (tu n a) = a := Pm.ext' fun x => by simp only [tu, rev_rev]
theorem tu_id (n : Nat) : tu n idP = idP := Pm.ext' fun x => by simp only [tu, idP, rev_rev]
theorem tu_dl (n : Nat) : tu n (dl n) = dl n := Pm.ext' fun x => by simp only [tu, dl, rev_rev]
theorem tu_inj {n : Nat} {a b : Pm} (h : tu n a = tu n b) : a = b := by rw [← tu_tu n a, h, tu_tu]
theorem map_tu_tu (n : Nat) (L : List Pm) : (L.map (tu n)).map (tu n) = L := by
  rw [List.map_map]
  conv => rhs; rw [← List.map_id L]
  congr 1
  exact funext fun a => tu_tu n a
theorem rev_sw {n k x : Nat} (hk : k + 1 < n) : rev n (sw k x) = sw (n - 2 - k) (rev n x) := by
  unfold rev sw
  repeat' split
  all_goals omega
theorem tu_post {n k : Nat} (a : Pm) (hk : k + 1 < n) : tu n (a.post k) = (tu n a).post (n - 2 - k) := Pm.ext' fun _ => rev_sw hk
theorem tu_pre {n k : Nat} (a : Pm) (hk : k + 1 < n) : tu n (a.pre k) = (tu n a).pre (n - 2 - k) := Pm.ext' fun x => by
  show rev n (a.f (sw k (rev n x))) = rev n (a.f (rev n (sw (n - 2 - k) x)))
  rw [rev_sw (by omega), show n - 2 - (n - 2 - k) = k by omega]
theorem dl_post {n k : Nat} (hk : k + 1 < n) : (dl n).post k = (dl n).pre (n - 2 - k) := Pm.ext' fun x => by
  show sw k (rev n x) = rev n (sw (n - 2 - k) x)
  rw [rev_sw (by omega), show n - 2 - (n - 2 - k) = k by omega]
theorem tu_beg {n k : Nat} {a : Pm} (h : a.In n) (hk : k + 1 < n) : (tu n a).beg (n - 2 - k) ↔ a.beg k := by
  show rev n (a.f (rev n (n - 2 - k + 1))) < rev n (a.f (rev n (n - 2 - k))) ↔ a.f (k + 1) < a.f k
  have e1 : rev n (n - 2 - k + 1) = k := by rw [rev_lt (by omega)]; omega
  have e2 : rev n (n - 2 - k) = k + 1 := by rw [rev_lt (by omega)]; omega
  have h1 := h.lt (show k < n by omega)
  have h2 := h.lt hk
  rw [e1, e2, rev_lt h1, rev_lt h2]
  omega
theorem tu_fin {n k : Nat} {a : Pm} (h : a.In n) (hk : k + 1 < n) : (tu n a).fin (n - 2 - k) ↔ a.fin k := by
  show rev n (a.g (rev n (n - 2 - k + 1))) < rev n (a.g (rev n (n - 2 - k))) ↔ a.g (k + 1) < a.g k
  have e1 : rev n (n - 2 - k + 1) = k := by rw [rev_lt (by omega)]; omega
  have e2 : rev n (n - 2 - k) = k + 1 := by rw [rev_lt (by omega)]; omega
  have h1 := h.glt (show k < n by omega)
  have h2 := h.glt hk
  rw [e1, e2, rev_lt h1, rev_lt h2]
  omega
theorem allIn_tu {n : Nat} {L : List Pm} (h : AllIn n L) : AllIn n (L.map (tu n)) := fun a ha => by
  obtain ⟨b, hb, rfl⟩ := List.mem_map.1 ha
  exact tu_in (h b hb)
theorem Sl.tu {n : Nat} {L L' : List Pm} (h : Sl n L L') (hi : AllIn n L) : Sl n (L.map (tu n)) (L'.map (tu n)) := by
  induction h with
  | here k a b L hk hb ha =>
    rw [List.map_cons, List.map_cons, List.map_cons, List.map_cons, tu_post _ hk, tu_pre _ hk]
    exact .here _ _ _ _ (by omega) ((tu_beg (hi b (by simp)) hk).2 hb) (fun e => ha ((tu_fin (hi a (by simp)) hk).1 e))
  | there a _ ih => exact .there _ (ih (fun y hy => hi y (by simp [hy])))
theorem St.tu {n : Nat} {L L' : List Pm} (h : St n L L') (hi : AllIn n L) : St n (L.map (tu n)) (L'.map (tu n)) := by
  induction h with
  | refl => exact .refl _
  | step s _ ih => exact .step (s.tu hi) (ih (s.allIn hi))

/-- No letter with which a factor begins: there is no crossing. -/
theorem mono_of {n : Nat} {a : Pm} (h : ∀ k, k + 1 < n → ¬ a.beg k) : ∀ {x y : Nat}, x < y → y < n → a.f x < a.f y
  | x, 0, hx, _ => absurd hx (Nat.not_lt_zero _)
  | x, y + 1, hx, hy => by
    have h1 := Pm.beg_not (h y hy)
    by_cases he : x = y
    · subst he; exact h1
    · have := mono_of h (show x < y by omega) (by omega)
      omega
theorem ge_of {n : Nat} {a : Pm} (h : ∀ k, k + 1 < n → ¬ a.beg k) : ∀ x, x < n → x ≤ a.f x
  | 0, _ => Nat.zero_le _
  | x + 1, hx => by
    have h1 := ge_of h x (by omega)
    have h2 := mono_of h (show x < x + 1 by omega) hx
    omega
theorem id_of {n : Nat} {a : Pm} (hi : a.In n) (h : ∀ k, k + 1 < n → ¬ a.beg k) : a = idP := by
  have key : ∀ m x, n - x ≤ m → a.f x = x := by
    intro m
    induction m with
    | zero => intro x hx; exact hi x (by omega)
    | succ m ih =>
      intro x hx
      by_cases hn : n ≤ x
      · exact hi x hn
      · have h1 := ge_of h x (by omega)
        by_cases he : a.f x = x
        · exact he
        · have h2 := hi.lt (show x < n by omega)
          have h3 := ih (a.f x) (by omega)
          exact a.inj h3
  exact Pm.ext' fun x => key n x (by omega)
theorem anti_of {n : Nat} {a : Pm} (h : ∀ k, k + 1 < n → a.fin k) : ∀ {x y : Nat}, x < y → y < n → a.g y < a.g x
  | x, 0, hx, _ => absurd hx (Nat.not_lt_zero _)
  | x, y + 1, hx, hy => by
    have h1 : a.g (y + 1) < a.g y := h y hy
    by_cases he : x = y
    · subst he; exact h1
    · have := anti_of h (show x < y by omega) (by omega)
      omega
theorem dl_of {n : Nat} {a : Pm} (hi : a.In n) (h : ∀ k, k + 1 < n → a.fin k) : a = dl n := by
  have h1 : a.mul (dl n) = idP := by
    refine id_of (mul_in hi (dl_in n)) (fun k hk => ?_)
    show ¬ rev n (a.f (k + 1)) < rev n (a.f k)
    have b1 := hi.lt (show k < n by omega)
    have b2 := hi.lt hk
    rw [rev_lt b1, rev_lt b2]
    intro hc
    have := anti_of h (show a.f k < a.f (k + 1) by omega) b2
    rw [a.gf, a.gf] at this
    omega
  refine Pm.ext' fun x => ?_
  have h2 : rev n (a.f x) = x := congrFun (congrArg Pm.f h1) x
  rw [← rev_rev n (a.f x), h2]
  rfl
theorem some_beg {n : Nat} {a : Pm} (hi : a.In n) (h : a ≠ idP) : ∃ k, k + 1 < n ∧ a.beg k := by
  rcases Classical.em (∃ k, k + 1 < n ∧ a.beg k) with h1 | h1
  · exact h1
  · exact absurd (id_of hi (fun k hk hb => h1 ⟨k, hk, hb⟩)) h

/-- What a begins with b, and a allows, slides all together. -/
theorem slide_all {n : Nat} : ∀ (m : Nat) (e a b c : Pm) (L : List Pm), cost n e ≤ m → e.In n → (∀ x, b.f x = c.f (e.f x)) →
    (∀ u v, u < v → e.f v < e.f u → a.g u < a.g v) → (∀ u v, u < v → e.f v < e.f u → b.f v < b.f u) → St n (a :: b :: L) (a.mul e :: c :: L)
  | m, e, a, b, c, L, hm, hi, hb, h1, h2 => by
    by_cases he : e = idP
    · subst he
      have e1 : a.mul idP = a := Pm.ext' fun x => rfl
      have e2 : b = c := Pm.ext' fun x => hb x
      rw [e1, e2]
      exact .refl _
    · obtain ⟨k, hk, hbk⟩ := some_beg hi he
      have hc := cost_pre hi hk hbk
      match m, hm with
      | 0, hm => omega
      | m + 1, hm =>
        have hbb : b.beg k := h2 k (k + 1) (by omega) hbk
        have haf : ¬ a.fin k := by have := h1 k (k + 1) (by omega) hbk; unfold Pm.fin; omega
        have hbk' : e.f (k + 1) < e.f k := hbk
        have ih := slide_all m (e.pre k) (a.post k) (b.pre k) c L (by omega) (hi.pre hk) (fun x => hb (sw k x))
          (fun u v huv hv => by
            have hv' : e.f (sw k v) < e.f (sw k u) := hv
            show a.g (sw k u) < a.g (sw k v)
            refine h1 _ _ ?_ hv'
            by_cases hu : u = k
            · subst hu
              by_cases hw : v = u + 1
              · subst hw; rw [sw_l, sw_r] at hv'; omega
              · rw [sw_l, sw_o (by omega) hw]; omega
            · unfold sw; repeat' split
              all_goals omega)
          (fun u v huv hv => by
            have hv' : e.f (sw k v) < e.f (sw k u) := hv
            show b.f (sw k v) < b.f (sw k u)
            refine h2 _ _ ?_ hv'
            by_cases hu : u = k
            · subst hu
              by_cases hw : v = u + 1
              · subst hw; rw [sw_l, sw_r] at hv'; omega
              · rw [sw_l, sw_o (by omega) hw]; omega
            · unfold sw; repeat' split
              all_goals omega)
        have em : (a.post k).mul (e.pre k) = a.mul e := Pm.ext' fun x => by
          show e.f (sw k (sw k (a.f x))) = _
          rw [sw_sw]; rfl
        rw [em] at ih
        exact .step (.here k a b L hk hbb haf) ih
theorem id_slides {n : Nat} {s : Pm} (hi : s.In n) (L : List Pm) : St n (idP :: s :: L) (s :: idP :: L) := by
  have := slide_all (n := n) _ s idP s idP L (Nat.le_refl _) hi (fun _ => rfl) (fun u v h _ => h) (fun u v _ h => h)
  have e : idP.mul s = s := Pm.ext' fun x => rfl
  rwa [e] at this
theorem ids_slide {n : Nat} {s : Pm} (hi : s.In n) : ∀ m, St n (List.replicate m idP ++ [s]) (s :: List.replicate m idP)
  | 0 => .refl _
  | m + 1 => by
    rw [List.replicate_succ, List.cons_append]
    exact ((ids_slide hi m).there _).trans (id_slides hi _)
theorem dl_slides {n : Nat} {s : Pm} (hi : s.In n) (L : List Pm) : St n (s :: dl n :: L) (dl n :: tu n s :: L) := by
  let e : Pm := ⟨fun x => rev n (s.g x), fun x => s.f (rev n x), fun x => by simp only [s.gf, rev_rev], fun x => by simp only [rev_rev, s.fg]⟩
  have he : e.In n := fun x hx => by show rev n (s.g x) = x; rw [hi.g x hx, rev_ge hx]
  have out : ∀ u v, u < v → e.f v < e.f u → v < n := by
    intro u v huv hv
    rcases Nat.lt_or_ge v n with h | h
    · exact h
    · have h1 := he v h
      rcases Nat.lt_or_ge u n with h2 | h2
      · have := he.lt h2; omega
      · have := he u h2; omega
  have := slide_all (n := n) _ e s (dl n) (tu n s) L (Nat.le_refl _) he (fun x => by
      show rev n x = rev n (s.f (rev n (rev n (s.g x))))
      rw [rev_rev, s.fg])
    (fun u v huv hv => by
      have hn := out u v huv hv
      have hv' : rev n (s.g v) < rev n (s.g u) := hv
      have b1 := hi.glt hn
      have b2 := hi.glt (show u < n by omega)
      rw [rev_lt b1, rev_lt b2] at hv'
      omega)
    (fun u v huv hv => by
      have hn := out u v huv hv
      show rev n v < rev n u
      rw [rev_lt hn, rev_lt (by omega)]
      omega)
  have em : s.mul e = dl n := Pm.ext' fun x => by show rev n (s.g (s.f x)) = rev n x; rw [s.gf]
  rwa [em] at this
theorem dl_all {n : Nat} : ∀ (L : List Pm) (R : List Pm), AllIn n L → St n (L ++ dl n :: R) (dl n :: (L.map (tu n) ++ R))
  | [], R, _ => .refl _
  | s :: L, R, h => by
    have ih := dl_all L R (fun y hy => h y (by simp [hy]))
    exact (ih.there s).trans (dl_slides (h s (by simp)) _)
/-- A letter, and what is left of Delta behind it. -/
theorem up_down {n k : Nat} (hk : k + 1 < n) (L : List Pm) : St n (idP.pre k :: (dl n).pre k :: L) (dl n :: idP :: L) := by
  have := slide_all (n := n) _ ((dl n).pre k) (idP.pre k) ((dl n).pre k) idP L (Nat.le_refl _) ((dl_in n).pre hk) (fun _ => rfl)
    (fun u v huv hv => by
      have hv' : rev n (sw k v) < rev n (sw k u) := hv
      show sw k u < sw k v
      by_cases hu : u = k ∧ v = k + 1
      · obtain ⟨rfl, rfl⟩ := hu
        rw [sw_l, sw_r, rev_lt (by omega), rev_lt hk] at hv'
        omega
      · unfold sw; repeat' split
        all_goals omega)
    (fun u v _ h => h)
  have em : (idP.pre k).mul ((dl n).pre k) = dl n := Pm.ext' fun x => by
    show rev n (sw k (sw k x)) = rev n x
    rw [sw_sw]
  rwa [em] at this
theorem down_up {n k : Nat} (hk : k + 1 < n) (L : List Pm) : St n ((dl n).post k :: idP.pre k :: L) (dl n :: idP :: L) := by
  have h := Sl.here (n := n) k ((dl n).post k) (idP.pre k) L hk (by show sw k (k + 1) < sw k k; rw [sw_l, sw_r]; omega) (by
    show ¬ rev n (sw k (k + 1)) < rev n (sw k k)
    rw [sw_l, sw_r, rev_lt hk, rev_lt (by omega)]; omega)
  rw [Pm.post_post, Pm.pre_pre] at h
  exact .one h

/-- Two neighbours of which the first one takes nothing over. -/
def NP (n : Nat) (a b : Pm) : Prop := ∀ k, k + 1 < n → b.beg k → a.fin k
def Chain (n : Nat) : List Pm → Prop
  | a :: b :: L => NP n a b ∧ Chain n (b :: L)
  | _ => True
theorem Chain.nf {n : Nat} : ∀ {L : List Pm}, Chain n L → Nf n L
  | [], _, _, s => by cases s
  | [a], _, _, s => by
    cases s with
    | there _ s => cases s
  | a :: b :: L, h, _, s => by
    cases s with
    | here k _ _ _ hk hb ha => exact ha (h.1 k hk hb)
    | there _ s => exact Chain.nf h.2 _ s
theorem Chain.tail {n : Nat} {a : Pm} {L : List Pm} (h : Chain n (a :: L)) : Chain n L := by
  cases L with
  | nil => trivial
  | cons b L => exact h.2
theorem Chain.left {n : Nat} : ∀ {L R : List Pm}, Chain n (L ++ R) → Chain n L
  | [], _, _ => trivial
  | [_], _, _ => trivial
  | _ :: b :: L, _, h => ⟨h.1, Chain.left (L := b :: L) h.2⟩
theorem Chain.right {n : Nat} : ∀ {L R : List Pm}, Chain n (L ++ R) → Chain n R
  | [], _, h => h
  | _ :: L, _, h => Chain.right (L := L) (Chain.tail h)
theorem Chain.glue {n : Nat} : ∀ {L : List Pm} {a : Pm} {R : List Pm}, Chain n (L ++ [a]) → Chain n (a :: R) → Chain n (L ++ a :: R)
  | [], _, _, _, h => h
  | [_], _, _, h, k => ⟨h.1, k⟩
  | _ :: c :: L, _, _, h, k => ⟨h.1, Chain.glue (L := c :: L) h.2 k⟩
theorem chain_tu {n : Nat} : ∀ {L : List Pm}, AllIn n L → Chain n L → Chain n (L.map (tu n))
  | [], _, _ => trivial
  | [a], _, _ => trivial
  | a :: b :: L, hi, h => by
    refine ⟨fun k hk hb => ?_, chain_tu (L := b :: L) (fun y hy => hi y (by simp at hy ⊢; exact Or.inr hy)) h.2⟩
    have e : n - 2 - (n - 2 - k) = k := by omega
    have h1 := (tu_beg (hi b (by simp)) (show n - 2 - k + 1 < n by omega)).1 (by rw [e]; exact hb)
    have h2 := (tu_fin (hi a (by simp)) (show n - 2 - k + 1 < n by omega)).2 (h.1 _ (by omega) h1)
    rwa [e] at h2

def firstS (n : Nat) (a b : Pm) : Option Nat := (List.range (n - 1)).find? fun k => decide (b.beg k) && !decide (a.fin k)
def tk (n : Nat) : Nat → Pm → Pm → Pm × Pm
  | 0, a, b => (a, b)
  | m + 1, a, b => match firstS n a b with
    | none => (a, b)
    | some k => tk n m (a.post k) (b.pre k)
def take (n : Nat) (a b : Pm) : Pm × Pm := tk n (cost n b + 1) a b
theorem firstS_none {n : Nat} {a b : Pm} (h : firstS n a b = none) : NP n a b := by
  intro k hk hb
  unfold firstS at h
  rw [List.find?_eq_none] at h
  have := h k (by simp; omega)
  simpa [hb] using this
theorem firstS_some {n k : Nat} {a b : Pm} (h : firstS n a b = some k) : k + 1 < n ∧ b.beg k ∧ ¬ a.fin k := by
  unfold firstS at h
  have h1 := List.find?_some h
  have h2 := List.mem_of_find?_eq_some h
  simp at h1 h2
  exact ⟨by omega, h1.1, h1.2⟩
structure TS (n : Nat) (a b a' b' e : Pm) : Prop where
  mul : ∀ x, a'.f x = e.f (a.f x)
  rest : ∀ x, b.f x = b'.f (e.f x)
  red : ∀ u v, u < v → e.f v < e.f u → a.g u < a.g v
  sub : ∀ u v, u < v → e.f v < e.f u → b.f v < b.f u
  np : NP n a' b'
  st : ∀ L, St n (a :: b :: L) (a' :: b' :: L)
  ina : a'.In n
  inb : b'.In n
  ine : e.In n
theorem tk_spec {n : Nat} : ∀ (m : Nat) (a b : Pm), cost n b < m → a.In n → b.In n → ∃ e, TS n a b (tk n m a b).1 (tk n m a b).2 e
  | 0, _, _, h, _, _ => absurd h (Nat.not_lt_zero _)
  | m + 1, a, b, h, ha, hb => by
    unfold tk
    cases hf : firstS n a b with
    | none => exact ⟨idP, fun _ => rfl, fun _ => rfl, fun u v h1 h2 => absurd h1 (by have : v < u := h2; omega), fun u v h1 h2 => absurd h1 (by have : v < u := h2; omega), firstS_none hf, fun L => .refl _, ha, hb, idP_in n⟩
    | some k =>
      obtain ⟨hk, h1, h2⟩ := firstS_some hf
      have hc := cost_pre hb hk h1
      obtain ⟨e, t⟩ := tk_spec m (a.post k) (b.pre k) (by omega) (ha.post hk) (hb.pre hk)
      have key : ∀ u v, u < v → ¬ (u = k ∧ v = k + 1) → sw k u < sw k v := by
        intro u v huv hn
        unfold sw; repeat' split
        all_goals omega
      refine ⟨e.pre k, t.mul, fun x => ?_, fun u v huv hv => ?_, fun u v huv hv => ?_, t.np, fun L => .step (.here k a b L hk h1 h2) (t.st L), t.ina, t.inb, t.ine.pre hk⟩
      · have := t.rest (sw k x)
        have e1 : (b.pre k).f (sw k x) = b.f x := by show b.f (sw k (sw k x)) = _; rw [sw_sw]
        rw [e1] at this
        exact this
      · by_cases hx : u = k ∧ v = k + 1
        · obtain ⟨rfl, rfl⟩ := hx
          exact Pm.fin_not h2
        · have := t.red _ _ (key u v huv hx) hv
          have e1 : ∀ y, (a.post k).g (sw k y) = a.g y := fun y => by show a.g (sw k (sw k y)) = _; rw [sw_sw]
          rw [e1, e1] at this
          exact this
      · by_cases hx : u = k ∧ v = k + 1
        · obtain ⟨rfl, rfl⟩ := hx
          exact h1
        · have := t.sub _ _ (key u v huv hx) hv
          have e1 : ∀ y, (b.pre k).f (sw k y) = b.f y := fun y => by show b.f (sw k (sw k y)) = _; rw [sw_sw]
          rw [e1, e1] at this
          exact this
theorem take_spec {n : Nat} {a b : Pm} (ha : a.In n) (hb : b.In n) : ∃ e, TS n a b (take n a b).1 (take n a b).2 e := tk_spec _ a b (Nat.lt_succ_self _) ha hb
/-- What crosses in a factor crosses in it with what it took over. -/
theorem TS.keep {n : Nat} {a b a' b' e : Pm} (t : TS n a b a' b' e) {x y : Nat} (h : x < y) (hc : a.f y < a.f x) : a'.f y < a'.f x := by
  rw [t.mul, t.mul]
  rcases Nat.lt_trichotomy (e.f (a.f y)) (e.f (a.f x)) with h1 | h1 | h1
  · exact h1
  · have := a.inj (e.inj h1); omega
  · have := t.red _ _ hc h1
    rw [a.gf, a.gf] at this
    omega
theorem TS.same {n : Nat} {a b a' b' e : Pm} (t : TS n a b a' b' e) (h : a' = a) : b' = b := by
  have he : ∀ x, e.f x = x := fun x => by
    have := t.mul (a.g x)
    rw [h, a.fg] at this
    exact this.symm
  exact Pm.ext' fun x => by have := t.rest x; rw [he] at this; exact this.symm

/-- b has become B, and t is the next factor: whatever t begins with, crosses in b already. -/
def Dom (n : Nat) (b B t : Pm) : Prop := ∀ j, j + 1 < n → t.beg j → B.g (j + 1) < B.g j ∧ b.f (B.g j) < b.f (B.g (j + 1))
def Kept (b B : Pm) : Prop := ∀ x y, x < y → b.f y < b.f x → B.f y < B.f x
theorem dom_of {n : Nat} {b s b' s' e : Pm} (t : TS n b s b' s' e) : Dom n b b' s' := by
  intro j hj hb
  have hf : b'.g (j + 1) < b'.g j := t.np j hj hb
  refine ⟨hf, ?_⟩
  rcases Nat.lt_trichotomy (b.f (b'.g j)) (b.f (b'.g (j + 1))) with h | h | h
  · exact h
  · have := b.inj h; omega
  · exfalso
    have m1 := t.mul (b'.g j)
    have m2 := t.mul (b'.g (j + 1))
    rw [b'.fg] at m1 m2
    have h1 := t.sub _ _ h (by omega)
    have r1 := t.rest (b.f (b'.g j))
    have r2 := t.rest (b.f (b'.g (j + 1)))
    rw [← m1] at r1
    rw [← m2] at r2
    have hb' : s'.f (j + 1) < s'.f j := hb
    omega
theorem domino {n : Nat} {a b B t a' B' e : Pm} (hn : NP n a b) (hk : Kept b B) (hd : Dom n b B t) (hB : B.In n) (s : TS n a B a' B' e) : NP n B' t := by
  intro j hj hb
  obtain ⟨h1, h2⟩ := hd j hj hb
  rcases Classical.em (B'.fin j) with h | h
  · exact h
  · exfalso
    have h3 := Pm.fin_not h
    -- B' = B behind the inverse of e
    have gi : ∀ y, B'.g y = e.f (B.g y) := fun y => by
      have := s.rest (B.g y)
      rw [B.fg] at this
      have h4 := congrArg B'.g this
      rw [B'.gf] at h4
      exact h4
    rw [gi, gi] at h3
    obtain ⟨x, hx⟩ : ∃ x, x = B.g (j + 1) := ⟨_, rfl⟩
    obtain ⟨y, hy⟩ : ∃ y, y = B.g j := ⟨_, rfl⟩
    rw [← hx, ← hy] at h1 h2 h3
    have Bx : B.f x = j + 1 := by rw [hx, B.fg]
    have By : B.f y = j := by rw [hy, B.fg]
    have hyn : y < n := by rw [hy]; exact hB.glt (by omega)
    -- the last one from x on that ends behind j
    have hex : ∀ d, ∀ k, k + d = y → x ≤ k → j + 1 ≤ B.f k → ∃ k, x ≤ k ∧ k + 1 ≤ y ∧ j + 1 ≤ B.f k ∧ B.f (k + 1) ≤ j := by
      intro d
      induction d with
      | zero => intro k hk1 _ hk3; have : k = y := by omega
                subst this; omega
      | succ d ih =>
        intro k hk1 hk2 hk3
        by_cases hc : B.f (k + 1) ≤ j
        · exact ⟨k, hk2, by omega, hk3, hc⟩
        · exact ih (k + 1) (by omega) (by omega) (by omega)
    obtain ⟨k, k1, k2, k3, k4⟩ := hex (y - x) x (by omega) (Nat.le_refl _) (by omega)
    have nox : ∀ z, x < z → j + 1 ≤ B.f z → b.f x < b.f z ∧ e.f x < e.f z := by
      intro z hz hBz
      constructor
      · rcases Nat.lt_trichotomy (b.f x) (b.f z) with h | h | h
        · exact h
        · have := b.inj h; omega
        · have := hk x z hz h; omega
      · rcases Nat.lt_trichotomy (e.f x) (e.f z) with h | h | h
        · exact h
        · have := e.inj h; omega
        · have := s.sub x z hz h; omega
    have noy : ∀ z, z < y → B.f z ≤ j → b.f z < b.f y ∧ e.f z < e.f y := by
      intro z hz hBz
      constructor
      · rcases Nat.lt_trichotomy (b.f z) (b.f y) with h | h | h
        · exact h
        · have := b.inj h; omega
        · have := hk z y hz h; omega
      · rcases Nat.lt_trichotomy (e.f z) (e.f y) with h | h | h
        · exact h
        · have := e.inj h; omega
        · have := s.sub z y hz h; omega
    have p1 : b.f x ≤ b.f k ∧ e.f x ≤ e.f k := by
      by_cases hxk : x = k
      · subst hxk; exact ⟨Nat.le_refl _, Nat.le_refl _⟩
      · have := nox k (by omega) k3; exact ⟨by omega, by omega⟩
    have p2 : b.f (k + 1) ≤ b.f y ∧ e.f (k + 1) ≤ e.f y := by
      by_cases hyk : k + 1 = y
      · rw [hyk]; exact ⟨Nat.le_refl _, Nat.le_refl _⟩
      · have := noy (k + 1) (by omega) k4; exact ⟨by omega, by omega⟩
    have q1 : a.fin k := hn k (by omega) (by unfold Pm.beg; omega)
    have q2 := s.red k (k + 1) (by omega) (by omega)
    unfold Pm.fin at q1
    omega
end Go.Proofs.YtmefpaoakblndaaGreatDoor
