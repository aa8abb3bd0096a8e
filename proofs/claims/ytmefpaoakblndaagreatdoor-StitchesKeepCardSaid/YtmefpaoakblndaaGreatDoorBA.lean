/- Plain theory of simple braids: positions and permutations, slides between neighbouring factors, and that it does not matter in which order factors slide. No program is named here. -/
import Derived.Test.YtmefpaoakblndaaGreatDoorRows
namespace Go.Proofs.YtmefpaoakblndaaGreatDoor

def sw (k x : Nat) : Nat := if x = k then k + 1 else if x = k + 1 then k else x
theorem sw_l (k : Nat) : sw k k = k + 1 := by simp [sw]
theorem sw_r (k : Nat) : sw k (k + 1) = k := by simp [sw]
theorem sw_o {k x : Nat} (h1 : x ≠ k) (h2 : x ≠ k + 1) : sw k x = x := by simp [sw, h1, h2]
theorem sw_sw (k x : Nat) : sw k (sw k x) = x := by
  unfold sw
  repeat' split
  all_goals omega
theorem sw_braid (i x : Nat) : sw i (sw (i + 1) (sw i x)) = sw (i + 1) (sw i (sw (i + 1) x)) := by
  unfold sw
  repeat' split
  all_goals omega
theorem sw_comm {i j : Nat} (h : i + 1 < j ∨ j + 1 < i) (x : Nat) : sw i (sw j x) = sw j (sw i x) := by
  unfold sw
  repeat' split
  all_goals omega

/-- A permutation of places, with its inverse. -/
structure Pm where
  f : Nat → Nat
  g : Nat → Nat
  fg : ∀ x, f (g x) = x
  gf : ∀ x, g (f x) = x
theorem Pm.inj (a : Pm) {x y : Nat} (h : a.f x = a.f y) : x = y := by rw [← a.gf x, h, a.gf]
theorem Pm.ext' {a b : Pm} (h : ∀ x, a.f x = b.f x) : a = b := by
  have hf : a.f = b.f := funext h
  have hg : a.g = b.g := funext fun x => by
    have h1 : b.f (a.g x) = x := by rw [← h, a.fg]
    calc a.g x = b.g (b.f (a.g x)) := (b.gf _).symm
      _ = b.g x := by rw [h1]
  cases a; cases b
  simp only at hf hg
  subst hf; subst hg
  rfl
def Pm.pre (a : Pm) (k : Nat) : Pm := ⟨fun x => a.f (sw k x), fun x => sw k (a.g x), fun x => by simp only [sw_sw, a.fg], fun x => by simp only [a.gf, sw_sw]⟩
def Pm.post (a : Pm) (k : Nat) : Pm := ⟨fun x => sw k (a.f x), fun x => a.g (sw k x), fun x => by simp only [a.fg, sw_sw], fun x => by simp only [sw_sw, a.gf]⟩
def Pm.beg (a : Pm) (k : Nat) : Prop := a.f (k + 1) < a.f k
def Pm.fin (a : Pm) (k : Nat) : Prop := a.g (k + 1) < a.g k
instance (a : Pm) (k : Nat) : Decidable (a.beg k) := inferInstanceAs (Decidable (a.f (k + 1) < a.f k))
instance (a : Pm) (k : Nat) : Decidable (a.fin k) := inferInstanceAs (Decidable (a.g (k + 1) < a.g k))
theorem Pm.beg_not {a : Pm} {k : Nat} (h : ¬ a.beg k) : a.f k < a.f (k + 1) := by
  unfold Pm.beg at h
  rcases Nat.lt_trichotomy (a.f k) (a.f (k + 1)) with h1 | h1 | h1
  · exact h1
  · have := a.inj h1; omega
  · exact absurd h1 h
theorem Pm.ginj (a : Pm) {x y : Nat} (h : a.g x = a.g y) : x = y := by rw [← a.fg x, h, a.fg]
theorem Pm.fin_not {a : Pm} {k : Nat} (h : ¬ a.fin k) : a.g k < a.g (k + 1) := by
  unfold Pm.fin at h
  rcases Nat.lt_trichotomy (a.g k) (a.g (k + 1)) with h1 | h1 | h1
  · exact h1
  · have := a.ginj h1; omega
  · exact absurd h1 h
theorem Pm.pre_pre (a : Pm) (k : Nat) : (a.pre k).pre k = a := Pm.ext' fun x => by show a.f (sw k (sw k x)) = _; rw [sw_sw]
theorem Pm.post_post (a : Pm) (k : Nat) : (a.post k).post k = a := Pm.ext' fun x => by show sw k (sw k (a.f x)) = _; rw [sw_sw]
theorem Pm.pre_post (a : Pm) (j k : Nat) : (a.pre j).post k = (a.post k).pre j := Pm.ext' fun _ => rfl

theorem pre_braid {a : Pm} {k : Nat} : ((a.pre k).pre (k + 1)).pre k = ((a.pre (k + 1)).pre k).pre (k + 1) := Pm.ext' fun x => by
  show a.f (sw k (sw (k + 1) (sw k x))) = a.f (sw (k + 1) (sw k (sw (k + 1) x)))
  rw [sw_braid]
theorem pre_far (a : Pm) {i j : Nat} (h : i + 1 < j ∨ j + 1 < i) : (a.pre i).pre j = (a.pre j).pre i := Pm.ext' fun x => by
  show a.f (sw i (sw j x)) = a.f (sw j (sw i x))
  rw [sw_comm h]
theorem beg_pre_far {a : Pm} {i j : Nat} (h : i + 1 < j ∨ j + 1 < i) : (a.pre i).beg j ↔ a.beg j := by
  show a.f (sw i (j + 1)) < a.f (sw i j) ↔ a.f (j + 1) < a.f j
  rw [sw_o (by omega) (by omega), sw_o (by omega) (by omega)]
/-- What a factor begins with stays, where a letter comes in at its end; and the other way round. -/
theorem beg_post {a : Pm} {f k : Nat} (hb : a.beg f) (hf : ¬ a.fin k) : (a.post k).beg f := by
  have hf' := Pm.fin_not hf
  show sw k (a.f (f + 1)) < sw k (a.f f)
  unfold Pm.beg at hb
  have hne : ¬ (a.f (f + 1) = k ∧ a.f f = k + 1) := fun ⟨e1, e2⟩ => by
    rw [← e2, a.gf, ← e1, a.gf] at hf'; omega
  unfold sw; repeat' split
  all_goals omega
theorem fin_pre {a : Pm} {f k : Nat} (hb : a.beg f) (hf : ¬ a.fin k) : ¬ (a.pre f).fin k := by
  have hf' := Pm.fin_not hf
  show ¬ sw f (a.g (k + 1)) < sw f (a.g k)
  unfold Pm.beg at hb
  have hne : ¬ (a.g k = f ∧ a.g (k + 1) = f + 1) := fun ⟨e1, e2⟩ => by
    rw [← e2, a.fg, ← e1, a.fg] at hb; omega
  unfold sw; repeat' split
  all_goals omega

/-- Places from n on are left alone. -/
def Pm.In (a : Pm) (n : Nat) : Prop := ∀ x, n ≤ x → a.f x = x
theorem Pm.In.lt {a : Pm} {n x : Nat} (h : a.In n) (hx : x < n) : a.f x < n := by
  rcases Nat.lt_or_ge (a.f x) n with h1 | h1
  · exact h1
  · have := a.inj (h _ h1); omega
theorem Pm.In.g {a : Pm} {n : Nat} (h : a.In n) (x : Nat) (hx : n ≤ x) : a.g x = x := by
  have := congrArg a.g (h x hx)
  rw [a.gf] at this
  exact this.symm
theorem Pm.In.glt {a : Pm} {n x : Nat} (h : a.In n) (hx : x < n) : a.g x < n := by
  rcases Nat.lt_or_ge (a.g x) n with h1 | h1
  · exact h1
  · have := h _ h1; rw [a.fg] at this; omega
theorem Pm.In.pre {a : Pm} {n k : Nat} (h : a.In n) (hk : k + 1 < n) : (a.pre k).In n := fun x hx => by
  show a.f (sw k x) = x
  rw [sw_o (by omega) (by omega), h x hx]
theorem Pm.In.post {a : Pm} {n k : Nat} (h : a.In n) (hk : k + 1 < n) : (a.post k).In n := fun x hx => by
  show sw k (a.f x) = x
  rw [h x hx, sw_o (by omega) (by omega)]

/-- What falls with each letter that is taken from the beginning. -/
def sumC (n : Nat) (f : Nat → Nat) : Nat → Nat
  | 0 => 0
  | m + 1 => sumC n f m + (n - m) * f m
def cost (n : Nat) (a : Pm) : Nat := sumC n a.f n
theorem sumC_same {n : Nat} {f f' : Nat → Nat} : ∀ m, (∀ x, x < m → f' x = f x) → sumC n f' m = sumC n f m
  | 0, _ => rfl
  | m + 1, h => by unfold sumC; rw [sumC_same m (fun x hx => h x (by omega)), h m (by omega)]
theorem sumC_sw {n k : Nat} {f : Nat → Nat} (hk : k + 1 < n) (h : f (k + 1) < f k) : ∀ d, k + 2 + d ≤ n → sumC n (fun x => f (sw k x)) (k + 2 + d) < sumC n f (k + 2 + d)
  | 0, _ => by
    show sumC n (fun x => f (sw k x)) k + (n - k) * f (sw k k) + (n - (k + 1)) * f (sw k (k + 1)) < sumC n f k + (n - k) * f k + (n - (k + 1)) * f (k + 1)
    rw [sumC_same (f' := fun x => f (sw k x)) (f := f) k (fun x hx => by show f (sw k x) = f x; rw [sw_o (by omega) (by omega)]), sw_l, sw_r]
    obtain ⟨c, hc⟩ : ∃ c, n - (k + 1) = c := ⟨_, rfl⟩
    have hc' : n - k = c + 1 := by omega
    obtain ⟨e, he⟩ : ∃ e, f k = f (k + 1) + 1 + e := ⟨f k - f (k + 1) - 1, by omega⟩
    rw [hc, hc', he, Nat.add_mul, Nat.add_mul, Nat.mul_add, Nat.mul_add]
    omega
  | d + 1, hd => by
    have ih := sumC_sw hk h d (by omega)
    show sumC n (fun x => f (sw k x)) (k + 2 + d) + (n - (k + 2 + d)) * f (sw k (k + 2 + d)) < sumC n f (k + 2 + d) + (n - (k + 2 + d)) * f (k + 2 + d)
    rw [sw_o (by omega) (by omega)]
    omega
theorem cost_pre {n k : Nat} {a : Pm} (_ : a.In n) (hk : k + 1 < n) (hb : a.beg k) : cost n (a.pre k) < cost n a := by
  have := sumC_sw hk hb (n - (k + 2)) (by omega)
  rwa [show k + 2 + (n - (k + 2)) = n by omega] at this
theorem sumC_le {n : Nat} {f : Nat → Nat} (h : ∀ x, x < n → f x < n) : ∀ m, m ≤ n → sumC n f m ≤ m * (n * n)
  | 0, _ => Nat.zero_le _
  | m + 1, hm => by
    have ih := sumC_le h m (by omega)
    have h1 : (n - m) * f m ≤ n * n := Nat.mul_le_mul (by omega) (Nat.le_of_lt (h m (by omega)))
    unfold sumC
    rw [Nat.add_mul]
    omega
def topC (n : Nat) : Nat := n * (n * n) + 1
theorem cost_lt {n : Nat} {a : Pm} (h : a.In n) : cost n a < topC n := by
  have := sumC_le (n := n) (f := a.f) (fun x hx => h.lt hx) n (Nat.le_refl _)
  unfold cost topC
  omega

def AllIn (n : Nat) (L : List Pm) : Prop := ∀ a ∈ L, a.In n
inductive Sl (n : Nat) : List Pm → List Pm → Prop
  | here (k : Nat) (a b : Pm) (L : List Pm) (hk : k + 1 < n) (hb : b.beg k) (ha : ¬ a.fin k) : Sl n (a :: b :: L) (a.post k :: b.pre k :: L)
  | there (a : Pm) {L L' : List Pm} (h : Sl n L L') : Sl n (a :: L) (a :: L')
inductive St (n : Nat) : List Pm → List Pm → Prop
  | refl (L : List Pm) : St n L L
  | step {L M N : List Pm} (h : Sl n L M) (t : St n M N) : St n L N
theorem AllIn.tail {n : Nat} {a : Pm} {L : List Pm} (h : AllIn n (a :: L)) : AllIn n L := fun y hy => h y (by simp [hy])
theorem Sl.allIn {n : Nat} {L L' : List Pm} (s : Sl n L L') (hi : AllIn n L) : AllIn n L' := by
  induction s with
  | here k a b L hk _ _ =>
    intro y hy
    rcases List.mem_cons.1 hy with rfl | hy
    · exact (hi a (by simp)).post hk
    · rcases List.mem_cons.1 hy with rfl | hy
      · exact (hi b (by simp)).pre hk
      · exact hi y (by simp [hy])
  | there a _ ih =>
    intro y hy
    rcases List.mem_cons.1 hy with rfl | hy
    · exact hi _ (by simp)
    · exact ih hi.tail y hy
theorem St.allIn {n : Nat} {L L' : List Pm} (s : St n L L') (hi : AllIn n L) : AllIn n L' := by
  induction s with
  | refl => exact hi
  | step s _ ih => exact ih (s.allIn hi)
theorem St.trans {n : Nat} {L M N : List Pm} (s : St n L M) (t : St n M N) : St n L N := by
  induction s with
  | refl => exact t
  | step s _ ih => exact .step s (ih t)
theorem St.one {n : Nat} {L M : List Pm} (s : Sl n L M) : St n L M := .step s (.refl _)
theorem St.there {n : Nat} (a : Pm) {L M : List Pm} (s : St n L M) : St n (a :: L) (a :: M) := by
  induction s with
  | refl => exact .refl _
  | step s _ ih => exact .step (.there a s) ih
theorem St.pre {n : Nat} : ∀ (K : List Pm) {L M : List Pm}, St n L M → St n (K ++ L) (K ++ M)
  | [], _, _, s => s
  | a :: K, _, _, s => St.there a (St.pre K s)
theorem Sl.app {n : Nat} {L M : List Pm} (s : Sl n L M) (R : List Pm) : Sl n (L ++ R) (M ++ R) := by
  induction s with
  | here k a b L hk hb ha => exact .here k a b (L ++ R) hk hb ha
  | there a _ ih => exact .there a ih
theorem St.app {n : Nat} {L M : List Pm} (s : St n L M) (R : List Pm) : St n (L ++ R) (M ++ R) := by
  induction s with
  | refl => exact .refl _
  | step s _ ih => exact .step (s.app R) ih
theorem Sl.len {n : Nat} {L M : List Pm} (s : Sl n L M) : M.length = L.length := by
  induction s with
  | here => rfl
  | there a _ ih => simp [ih]
theorem St.len {n : Nat} {L M : List Pm} (s : St n L M) : M.length = L.length := by
  induction s with
  | refl => rfl
  | step s _ ih => rw [ih, s.len]
def Nf (n : Nat) (L : List Pm) : Prop := ∀ L', ¬ Sl n L L'
theorem Nf.stay {n : Nat} {L M : List Pm} (h : Nf n L) (s : St n L M) : M = L := by
  cases s with
  | refl => rfl
  | step s _ => exact absurd s (h _)

/-- What falls with each slide. -/
def wt (n : Nat) : List Pm → Nat
  | [] => 0
  | a :: L => cost n a + topC n * wt n L
theorem Sl.wt {n : Nat} {L M : List Pm} (s : Sl n L M) (hi : AllIn n L) : wt n M < wt n L := by
  induction s with
  | here k a b L hk hb ha =>
    have h1 := cost_pre (hi b (by simp)) hk hb
    have h2 := cost_lt ((hi a (by simp)).post hk)
    show cost n (a.post k) + topC n * (cost n (b.pre k) + topC n * Go.Proofs.YtmefpaoakblndaaGreatDoor.wt n L) < cost n a + topC n * (cost n b + topC n * Go.Proofs.YtmefpaoakblndaaGreatDoor.wt n L)
    have h3 : topC n * (cost n (b.pre k) + topC n * Go.Proofs.YtmefpaoakblndaaGreatDoor.wt n L + 1) ≤ topC n * (cost n b + topC n * Go.Proofs.YtmefpaoakblndaaGreatDoor.wt n L) := Nat.mul_le_mul (Nat.le_refl _) (by omega)
    rw [Nat.mul_add, Nat.mul_one] at h3
    omega
  | there a _ ih =>
    have h1 := ih hi.tail
    rename_i L L' _
    show cost n a + topC n * Go.Proofs.YtmefpaoakblndaaGreatDoor.wt n L' < cost n a + topC n * Go.Proofs.YtmefpaoakblndaaGreatDoor.wt n L
    have h3 : topC n * (Go.Proofs.YtmefpaoakblndaaGreatDoor.wt n L' + 1) ≤ topC n * Go.Proofs.YtmefpaoakblndaaGreatDoor.wt n L := Nat.mul_le_mul (Nat.le_refl _) h1
    rw [Nat.mul_add, Nat.mul_one] at h3
    have : 0 < topC n := by unfold topC; omega
    omega

/-- Two slides between the same neighbours. -/
theorem two_far {n j k : Nat} {a b : Pm} (L : List Pm) (_ : k + 1 < n) (hj : j + 1 < n) (h : k + 1 < j ∨ j + 1 < k) (_ : b.beg k) (_ : ¬ a.fin k) (bj : b.beg j) (aj : ¬ a.fin j) :
    St n (a.post k :: b.pre k :: L) ((a.post k).post j :: (b.pre k).pre j :: L) ∧ (a.post k).post j = (a.post j).post k ∧ (b.pre k).pre j = (b.pre j).pre k := by
  refine ⟨.one (.here j _ _ L hj ?_ ?_), Pm.ext' fun x => ?_, Pm.ext' fun x => ?_⟩
  · show b.f (sw k (j + 1)) < b.f (sw k j)
    rw [sw_o (by omega) (by omega), sw_o (by omega) (by omega)]; exact bj
  · show ¬ a.g (sw k (j + 1)) < a.g (sw k j)
    rw [sw_o (by omega) (by omega), sw_o (by omega) (by omega)]; exact aj
  · show sw j (sw k (a.f x)) = sw k (sw j (a.f x))
    exact sw_comm (by omega) _
  · show b.f (sw k (sw j x)) = b.f (sw j (sw k x))
    rw [sw_comm (by omega)]
theorem three_up {n k : Nat} {a b : Pm} (L : List Pm) (hk : k + 1 + 1 < n) (b0 : b.beg k) (a0 : ¬ a.fin k) (b1 : b.beg (k + 1)) (a1 : ¬ a.fin (k + 1)) :
    St n (a.post k :: b.pre k :: L) (((a.post k).post (k + 1)).post k :: ((b.pre k).pre (k + 1)).pre k :: L) ∧ St n (a.post (k + 1) :: b.pre (k + 1) :: L) (((a.post k).post (k + 1)).post k :: ((b.pre k).pre (k + 1)).pre k :: L) := by
  have A0 := Pm.fin_not a0
  have A1 := Pm.fin_not a1
  unfold Pm.beg at b0 b1
  have s1 : sw k (k + 1 + 1) = k + 1 + 1 := sw_o (by omega) (by omega)
  have s2 : sw (k + 1) k = k := sw_o (by omega) (by omega)
  have eA : ((a.post k).post (k + 1)).post k = ((a.post (k + 1)).post k).post (k + 1) := Pm.ext' fun x => sw_braid k (a.f x)
  have eB : ((b.pre k).pre (k + 1)).pre k = ((b.pre (k + 1)).pre k).pre (k + 1) := Pm.ext' fun x => by
    show b.f (sw k (sw (k + 1) (sw k x))) = b.f (sw (k + 1) (sw k (sw (k + 1) x)))
    rw [sw_braid]
  constructor
  · refine .step (.here (k + 1) _ _ L hk ?_ ?_) (.one (.here k _ _ L (by omega) ?_ ?_))
    · show b.f (sw k (k + 1 + 1)) < b.f (sw k (k + 1)); rw [s1, sw_r]; omega
    · show ¬ a.g (sw k (k + 1 + 1)) < a.g (sw k (k + 1)); rw [s1, sw_r]; omega
    · show b.f (sw k (sw (k + 1) (k + 1))) < b.f (sw k (sw (k + 1) k)); rw [sw_l, s2, s1, sw_l]; omega
    · show ¬ a.g (sw k (sw (k + 1) (k + 1))) < a.g (sw k (sw (k + 1) k)); rw [sw_l, s2, s1, sw_l]; omega
  · rw [eA, eB]
    refine .step (.here k _ _ L (by omega) ?_ ?_) (.one (.here (k + 1) _ _ L hk ?_ ?_))
    · show b.f (sw (k + 1) (k + 1)) < b.f (sw (k + 1) k); rw [sw_l, s2]; omega
    · show ¬ a.g (sw (k + 1) (k + 1)) < a.g (sw (k + 1) k); rw [sw_l, s2]; omega
    · show b.f (sw (k + 1) (sw k (k + 1 + 1))) < b.f (sw (k + 1) (sw k (k + 1))); rw [s1, sw_r, sw_r, s2]; omega
    · show ¬ a.g (sw (k + 1) (sw k (k + 1 + 1))) < a.g (sw (k + 1) (sw k (k + 1))); rw [s1, sw_r, sw_r, s2]; omega
theorem meet_here {n j k : Nat} {a b : Pm} (L : List Pm) (hk : k + 1 < n) (hj : j + 1 < n) (bk : b.beg k) (ak : ¬ a.fin k) (bj : b.beg j) (aj : ¬ a.fin j) :
    ∃ Z, St n (a.post k :: b.pre k :: L) Z ∧ St n (a.post j :: b.pre j :: L) Z := by
  by_cases h0 : j = k
  · subst h0; exact ⟨_, .refl _, .refl _⟩
  · by_cases h1 : j = k + 1
    · subst h1
      obtain ⟨p, q⟩ := three_up L hj bk ak bj aj
      exact ⟨_, p, q⟩
    · by_cases h2 : k = j + 1
      · subst h2
        obtain ⟨p, q⟩ := three_up L hk bj aj bk ak
        exact ⟨_, q, p⟩
      · obtain ⟨p, e1, e2⟩ := two_far L hk hj (by omega) bk ak bj aj
        obtain ⟨q, _, _⟩ := two_far L hj hk (by omega) bj aj bk ak
        rw [← e1, ← e2] at q
        exact ⟨_, p, q⟩
/-- A slide into a factor, and one out of it. -/
theorem meet_next {n j k : Nat} {a b c : Pm} (L : List Pm) (hk : k + 1 < n) (hj : j + 1 < n) (bk : b.beg k) (ak : ¬ a.fin k) (cj : c.beg j) (bj : ¬ b.fin j) :
    ∃ Z, St n (a.post k :: b.pre k :: c :: L) Z ∧ St n (a :: b.post j :: c.pre j :: L) Z := by
  have Bj := Pm.fin_not bj
  refine ⟨a.post k :: (b.pre k).post j :: c.pre j :: L, .one (.there _ (.here j _ _ L hj cj ?_)), ?_⟩
  · show ¬ sw k (b.g (j + 1)) < sw k (b.g j)
    unfold Pm.beg at bk
    have hne : ¬ (b.g j = k ∧ b.g (j + 1) = k + 1) := fun ⟨e1, e2⟩ => by
      rw [← e2, b.fg, ← e1, b.fg] at bk; omega
    unfold sw; repeat' split
    all_goals omega
  · rw [Pm.pre_post]
    refine .one (.here k _ _ _ hk ?_ ak)
    show sw j (b.f (k + 1)) < sw j (b.f k)
    unfold Pm.beg at bk
    have hne : ¬ (b.f (k + 1) = j ∧ b.f k = j + 1) := fun ⟨e1, e2⟩ => by
      rw [← e2, b.gf, ← e1, b.gf] at Bj; omega
    unfold sw; repeat' split
    all_goals omega
theorem Sl.meet {n : Nat} : ∀ {L A B : List Pm}, Sl n L A → Sl n L B → ∃ Z, St n A Z ∧ St n B Z
  | _, _, _, .here k a b L hk hb ha, s => by
    cases s with
    | here j _ _ _ hj hb' ha' => exact meet_here L hk hj hb ha hb' ha'
    | there _ s =>
      cases s with
      | here j _ c L hj hc hb' => exact meet_next L hk hj hb ha hc hb'
      | there _ s => rename_i M; exact ⟨a.post k :: b.pre k :: M, .one (.there _ (.there _ s)), .one (.here k a b M hk hb ha)⟩
  | _, _, _, .there a s, t => by
    cases t with
    | here k _ b L hk hb ha =>
      cases s with
      | here j _ c L hj hc hb' =>
        obtain ⟨Z, p, q⟩ := meet_next L hk hj hb ha hc hb'
        exact ⟨Z, q, p⟩
      | there _ s => rename_i M; exact ⟨a.post k :: b.pre k :: M, .one (.here k a b M hk hb ha), .one (.there _ (.there _ s))⟩
    | there _ t =>
      obtain ⟨Z, p, q⟩ := Sl.meet s t
      exact ⟨a :: Z, p.there a, q.there a⟩
theorem St.meet {n : Nat} : ∀ (m : Nat) {L A B : List Pm}, wt n L ≤ m → AllIn n L → St n L A → St n L B → ∃ Z, St n A Z ∧ St n B Z
  | m, L, A, B, hm, hi, s, t => by
    cases s with
    | refl => exact ⟨B, t, .refl _⟩
    | step s1 s2 =>
      cases t with
      | refl => exact ⟨A, .refl _, .step s1 s2⟩
      | step t1 t2 =>
        have w1 := s1.wt hi
        have w2 := t1.wt hi
        obtain ⟨Z, p, q⟩ := Sl.meet s1 t1
        match m, hm with
        | 0, hm => omega
        | m + 1, hm =>
          obtain ⟨Y, a1, a2⟩ := St.meet m (by omega) (s1.allIn hi) s2 p
          obtain ⟨X, b1, b2⟩ := St.meet m (by omega) (t1.allIn hi) t2 (q.trans a2)
          exact ⟨X, a1.trans b2, b1⟩
theorem St.unique {n : Nat} {L A B : List Pm} (hi : AllIn n L) (s : St n L A) (t : St n L B) (ha : Nf n A) (hb : Nf n B) : A = B := by
  obtain ⟨Z, p, q⟩ := St.meet _ (Nat.le_refl _) hi s t
  rw [← ha.stay p, ← hb.stay q]
end Go.Proofs.YtmefpaoakblndaaGreatDoor
