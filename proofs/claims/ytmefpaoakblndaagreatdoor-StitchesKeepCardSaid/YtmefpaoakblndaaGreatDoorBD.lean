/- Plain theory of braids: the three rules, and that two words become each other by them exactly if their normal forms are equal. No program is named here. -/
import Derived.Test.YtmefpaoakblndaaGreatDoorBC
namespace Go.Proofs.YtmefpaoakblndaaGreatDoor

def Letter (n : Nat) (z : Int) : Prop := z ≠ 0 ∧ -(n : Int) < z ∧ z < n
theorem Letter.neg {n : Nat} {z : Int} (h : Letter n z) : Letter n (-z) := ⟨by have := h.1; omega, by have := h.2.2; omega, by have := h.2.1; omega⟩
theorem Word.cons {n : Nat} {z : Int} {w : List Int} (h : Letter n z) (k : Word n w) : Word n (z :: w) := fun x hx => by
  rcases List.mem_cons.1 hx with rfl | hx
  · exact h
  · exact k x hx
theorem Word.one {n : Nat} {z : Int} (h : Letter n z) : Word n [z] := Word.cons h (fun x hx => by simp at hx)
def Far (a b : Int) : Prop := ∃ i j : Nat, (a = i ∨ a = -(i : Int)) ∧ (b = j ∨ b = -(j : Int)) ∧ (i + 2 ≤ j ∨ j + 2 ≤ i)
inductive Eqv (n : Nat) : List Int → List Int → Prop
  | refl (w : List Int) : Eqv n w w
  | symm {w v : List Int} : Eqv n w v → Eqv n v w
  | trans {w v u : List Int} : Eqv n w v → Eqv n v u → Eqv n w u
  | canc (u v : List Int) {z : Int} : Letter n z → Eqv n (u ++ z :: -z :: v) (u ++ v)
  | far (u v : List Int) {a b : Int} : Far a b → Eqv n (u ++ a :: b :: v) (u ++ b :: a :: v)
  | braid (u v : List Int) {i : Int} : 0 < i → i + 1 < n → Eqv n (u ++ i :: (i + 1) :: i :: v) (u ++ (i + 1) :: i :: (i + 1) :: v)
theorem Eqv.left {n : Nat} {w v : List Int} (h : Eqv n w v) (u : List Int) : Eqv n (u ++ w) (u ++ v) := by
  induction h with
  | refl => exact .refl _
  | symm _ ih => exact ih.symm
  | trans _ _ ih1 ih2 => exact ih1.trans ih2
  | canc a b h => rw [← List.append_assoc, ← List.append_assoc]; exact .canc _ _ h
  | far a b h => rw [← List.append_assoc, ← List.append_assoc]; exact .far _ _ h
  | braid a b h k => rw [← List.append_assoc, ← List.append_assoc]; exact .braid _ _ h k
theorem Eqv.right {n : Nat} {w v : List Int} (h : Eqv n w v) (u : List Int) : Eqv n (w ++ u) (v ++ u) := by
  induction h with
  | refl => exact .refl _
  | symm _ ih => exact ih.symm
  | trans _ _ ih1 ih2 => exact ih1.trans ih2
  | canc a b h => rw [List.append_assoc, List.append_assoc]; exact .canc _ _ h
  | far a b h => rw [List.append_assoc, List.append_assoc]; exact .far _ _ h
  | braid a b h k => rw [List.append_assoc, List.append_assoc]; exact .braid _ _ h k
theorem Eqv.mul {n : Nat} {w v w' v' : List Int} (h : Eqv n w v) (k : Eqv n w' v') : Eqv n (w ++ w') (v ++ v') := (h.right w').trans (k.left v)
theorem Eqv.cons {n : Nat} {w v : List Int} (z : Int) (h : Eqv n w v) : Eqv n (z :: w) (z :: v) := h.left [z]
def inv (w : List Int) : List Int := (w.map fun z => -z).reverse
theorem inv_app (a b : List Int) : inv (a ++ b) = inv b ++ inv a := by simp [inv]
theorem inv_inv (a : List Int) : inv (inv a) = a := by simp [inv, Function.comp_def]
theorem inv_cons (z : Int) (a : List Int) : inv (z :: a) = inv a ++ [-z] := by simp [inv]
theorem Word.inv {n : Nat} {w : List Int} (h : Word n w) : Word n (inv w) := fun z hz => by
  simp only [Proofs.YtmefpaoakblndaaGreatDoor.inv, List.mem_reverse, List.mem_map] at hz
  obtain ⟨y, hy, rfl⟩ := hz
  exact Letter.neg (h y hy)
theorem canc_r {n : Nat} : ∀ (w : List Int), Word n w → Eqv n (w ++ inv w) []
  | [], _ => .refl _
  | z :: w, h => by
    rw [inv_cons, List.cons_append, ← List.append_assoc]
    have ih := canc_r w (fun x hx => h x (by simp [hx]))
    exact ((ih.right [-z]).cons z).trans (.canc [] [] (h z (by simp)))
theorem canc_l {n : Nat} (w : List Int) (h : Word n w) : Eqv n (inv w ++ w) [] := by
  have := canc_r (inv w) h.inv
  rwa [inv_inv] at this
theorem Eqv.inv {n : Nat} {w v : List Int} (h : Eqv n w v) (hw : Word n w) (hv : Word n v) : Eqv n (inv w) (inv v) := by
  have h1 : Eqv n (Proofs.YtmefpaoakblndaaGreatDoor.inv w) (Proofs.YtmefpaoakblndaaGreatDoor.inv w ++ (v ++ Proofs.YtmefpaoakblndaaGreatDoor.inv v)) := by
    have := (canc_r v hv).symm.left (Proofs.YtmefpaoakblndaaGreatDoor.inv w)
    rwa [List.append_nil] at this
  have h2 : Eqv n (Proofs.YtmefpaoakblndaaGreatDoor.inv w ++ (v ++ Proofs.YtmefpaoakblndaaGreatDoor.inv v)) (Proofs.YtmefpaoakblndaaGreatDoor.inv w ++ (w ++ Proofs.YtmefpaoakblndaaGreatDoor.inv v)) := ((h.symm.right _).left _)
  have h3 : Eqv n (Proofs.YtmefpaoakblndaaGreatDoor.inv w ++ (w ++ Proofs.YtmefpaoakblndaaGreatDoor.inv v)) (Proofs.YtmefpaoakblndaaGreatDoor.inv v) := by
    rw [← List.append_assoc]
    exact (canc_l w hw).right _
  exact h1.trans (h2.trans h3)

/-- A rule makes no word of another one. -/
theorem rlStep_st {n : Nat} {L M : List Pm} {z : Int} (hi : AllIn n L) (h : St n L M) : St n (rlStep n L z) (rlStep n M z) := by
  unfold rlStep
  split
  · exact h.app _
  · exact (h.tu hi).app _
theorem nf_app (n : Nat) (u v : List Int) : nf n (u ++ v) = v.foldl (fun x z => stepN n z x) (nf n u) := by simp [nf]
theorem nf_more {n : Nat} {u v : List Int} (h : nf n u = nf n v) (w : List Int) : nf n (u ++ w) = nf n (v ++ w) := by rw [nf_app, nf_app, h]
theorem pos_nat {n : Nat} {z : Int} (h : Letter n z) (hp : 0 < z) : ∃ k : Nat, z = (k : Int) + 1 ∧ k + 1 < n := ⟨(z - 1).toNat, by omega, by have := h.2.2; omega⟩
theorem neg_nat {n : Nat} {z : Int} (h : Letter n z) (hp : ¬ 0 < z) : ∃ k : Nat, z = -((k : Int) + 1) ∧ k + 1 < n := ⟨(-z - 1).toNat, by have := h.1; omega, by have := h.1; have := h.2.1; omega⟩
theorem rl_pos {n : Nat} (u : List Int) (k : Nat) : rl n (u ++ [(k : Int) + 1]) = rl n u ++ [idP.pre k] := by
  rw [rl_snoc]; unfold rlStep
  rw [if_pos (by omega), show ((k : Int) + 1 - 1).toNat = k by omega]
theorem rl_neg {n : Nat} (u : List Int) {k : Nat} (hk : k + 1 < n) : rl n (u ++ [-((k : Int) + 1)]) = (rl n u).map (tu n) ++ [(dl n).post k] := by
  rw [rl_snoc]; unfold rlStep
  rw [if_neg (by omega), show ((n : Int) + -((k : Int) + 1) - 1).toNat = n - 2 - k by omega, dl_post hk]
theorem negs_pos (u : List Int) (k : Nat) : negs (u ++ [(k : Int) + 1]) = negs u := by rw [negs_snoc, if_pos (by omega)]
theorem negs_neg (u : List Int) (k : Nat) : negs (u ++ [-((k : Int) + 1)]) = negs u + 1 := by rw [negs_snoc, if_neg (by omega)]
theorem canc_slides {n : Nat} (u : List Int) {z : Int} (hu : Word n u) (hz : Letter n z) : St n (rl n (u ++ [z] ++ [-z])) (dl n :: (rl n u ++ [idP])) ∧ negs (u ++ [z] ++ [-z]) = negs u + 1 := by
  have hi := rl_in u hu
  have hmid : St n ((rl n u).map (tu n) ++ [dl n, idP]) (dl n :: (rl n u ++ [idP])) := by
    have := dl_all (n := n) ((rl n u).map (tu n)) [idP] (allIn_tu hi)
    rwa [map_tu_tu] at this
  by_cases hp : 0 < z
  · obtain ⟨k, rfl, hk⟩ := pos_nat hz hp
    constructor
    · rw [rl_neg _ hk, rl_pos, List.map_append, List.append_assoc]
      refine (St.pre _ ?_).trans hmid
      have e : (tu n) (idP.pre k) = idP.pre (n - 2 - k) := by rw [tu_pre _ hk, tu_id]
      rw [List.map_cons, List.map_nil, e, dl_post hk]
      exact up_down (by omega) []
    · rw [negs_neg, negs_pos]
  · obtain ⟨k, rfl, hk⟩ := neg_nat hz hp
    have e : -(-((k : Int) + 1)) = (k : Int) + 1 := by omega
    constructor
    · rw [e, rl_pos, rl_neg _ hk, List.append_assoc]
      exact (St.pre _ (down_up hk [])).trans hmid
    · rw [e, negs_pos, negs_neg]
theorem nf_canc {n : Nat} (hn : 2 ≤ n) (u : List Int) {z : Int} (hu : Word n u) (hz : Letter n z) : nf n (u ++ [z] ++ [-z]) = nf n u := by
  obtain ⟨s, e⟩ := canc_slides u hu hz
  have h := nf_isN hn u hu
  obtain ⟨k, m, e', s'⟩ := h.slides
  have key : IsN n (u ++ [z] ++ [-z]) (nf n u).1 (nf n u).2 := by
    refine ⟨⟨k + 1, m + 1, by rw [e, e']; omega, ?_⟩, h.chain, h.mids⟩
    refine s.trans ?_
    have h1 := (s'.app [idP]).there (dl n)
    have e1 : dl n :: (List.replicate k (dl n) ++ ((nf n u).2 ++ List.replicate m idP) ++ [idP]) = List.replicate (k + 1) (dl n) ++ ((nf n u).2 ++ List.replicate (m + 1) idP) := by
      rw [List.replicate_succ, List.cons_append, List.append_assoc, List.append_assoc, ← List.replicate_succ']
    rwa [e1] at h1
  rw [nf_unique hn ((hu.app (Word.one hz)).app (Word.one hz.neg)) key]
theorem one_more {n k : Nat} (a : Pm) (L : List Pm) (hk : k + 1 < n) (h : ¬ a.fin k) : Sl n (a :: idP.pre k :: L) (a.post k :: idP :: L) := by
  have := Sl.here (n := n) k a (idP.pre k) L hk (by show sw k (k + 1) < sw k k; rw [sw_l, sw_r]; omega) h
  rwa [Pm.pre_pre] at this
theorem nf_far_pos {n : Nat} (hn : 2 ≤ n) (u : List Int) {i j : Nat} (hu : Word n u) (hi : i + 1 < n) (hj : j + 1 < n) (h : i + 1 < j ∨ j + 1 < i) :
    nf n (u ++ [(i : Int) + 1] ++ [(j : Int) + 1]) = nf n (u ++ [(j : Int) + 1] ++ [(i : Int) + 1]) := by
  have li : Letter n ((i : Int) + 1) := ⟨by omega, by omega, by omega⟩
  have lj : Letter n ((j : Int) + 1) := ⟨by omega, by omega, by omega⟩
  have f1 : ¬ (idP.pre i).fin j := by
    show ¬ sw i (j + 1) < sw i j
    rw [sw_o (by omega) (by omega), sw_o (by omega) (by omega)]; omega
  have f2 : ¬ (idP.pre j).fin i := by
    show ¬ sw j (i + 1) < sw j i
    rw [sw_o (by omega) (by omega), sw_o (by omega) (by omega)]; omega
  have e : (idP.pre i).post j = (idP.pre j).post i := Pm.ext' fun x => by
    show sw j (sw i x) = sw i (sw j x)
    unfold sw
    repeat' split
    all_goals omega
  refine nf_meet hn (M := rl n u ++ [(idP.pre i).post j, idP]) ((hu.app (Word.one li)).app (Word.one lj)) ((hu.app (Word.one lj)).app (Word.one li)) ?_ ?_ ?_
  · rw [rl_pos, rl_pos, List.append_assoc]
    exact St.pre _ (.one (one_more _ [] hj f1))
  · rw [rl_pos, rl_pos, List.append_assoc, e]
    exact St.pre _ (.one (one_more _ [] hi f2))
  · rw [negs_pos, negs_pos, negs_pos, negs_pos]
theorem nf_comm_inv {n : Nat} (hn : 2 ≤ n) {a c : Int} (ha : Letter n a) (hc : Letter n c) (h : ∀ u, Word n u → nf n (u ++ [a] ++ [c]) = nf n (u ++ [c] ++ [a])) (u : List Int) (hu : Word n u) :
    nf n (u ++ [a] ++ [-c]) = nf n (u ++ [-c] ++ [a]) := by
  have hu' : Word n (u ++ [-c]) := hu.app (Word.one hc.neg)
  have h1 := nf_more (h (u ++ [-c]) hu') [-c]
  have h2 : nf n (u ++ [-c] ++ [a] ++ [c] ++ [-c]) = nf n (u ++ [-c] ++ [a]) := nf_canc hn _ (hu'.app (Word.one ha)) hc
  have h3 : nf n (u ++ [-c] ++ [c]) = nf n u := by
    have := nf_canc hn u hu hc.neg
    rwa [Int.neg_neg] at this
  have h4 := nf_more (nf_more h3 [a]) [-c]
  rw [← h2, h1, h4]
theorem nf_far {n : Nat} (hn : 2 ≤ n) {a b : Int} (ha : Letter n a) (hb : Letter n b) (h : Far a b) (u : List Int) (hu : Word n u) : nf n (u ++ [a] ++ [b]) = nf n (u ++ [b] ++ [a]) := by
  obtain ⟨i, j, h1, h2, h3⟩ := h
  have a0 := ha.1
  have b0 := hb.1
  have a1 := ha.2.1
  have a2 := ha.2.2
  have b1 := hb.2.1
  have b2 := hb.2.2
  obtain ⟨i, rfl⟩ : ∃ k, i = k + 1 := ⟨i - 1, by omega⟩
  obtain ⟨j, rfl⟩ : ∃ k, j = k + 1 := ⟨j - 1, by omega⟩
  have hi : i + 1 < n := by omega
  have hj : j + 1 < n := by omega
  have li : Letter n ((i : Int) + 1) := ⟨by omega, by omega, by omega⟩
  have lj : Letter n ((j : Int) + 1) := ⟨by omega, by omega, by omega⟩
  have pp : ∀ u, Word n u → nf n (u ++ [(i : Int) + 1] ++ [(j : Int) + 1]) = nf n (u ++ [(j : Int) + 1] ++ [(i : Int) + 1]) := fun u hu => nf_far_pos hn u hu hi hj (by omega)
  have pn := fun u hu => nf_comm_inv hn li lj pp u hu
  have np := fun u hu => nf_comm_inv hn lj li (fun u hu => (pp u hu).symm) u hu
  have nn := fun u hu => nf_comm_inv hn li.neg lj (fun u hu => (np u hu).symm) u hu
  have ei : ((i + 1 : Nat) : Int) = (i : Int) + 1 := by omega
  have ej : ((j + 1 : Nat) : Int) = (j : Int) + 1 := by omega
  rw [ei] at h1
  rw [ej] at h2
  rcases h1 with rfl | rfl <;> rcases h2 with rfl | rfl
  · exact pp u hu
  · exact pn u hu
  · exact (np u hu).symm
  · exact nn u hu
theorem nf_braid {n : Nat} (hn : 2 ≤ n) (u : List Int) {i : Nat} (hu : Word n u) (hi : i + 1 + 1 < n) :
    nf n (u ++ [(i : Int) + 1] ++ [((i + 1 : Nat) : Int) + 1] ++ [(i : Int) + 1]) = nf n (u ++ [((i + 1 : Nat) : Int) + 1] ++ [(i : Int) + 1] ++ [((i + 1 : Nat) : Int) + 1]) := by
  have li : Letter n ((i : Int) + 1) := ⟨by omega, by omega, by omega⟩
  have lj : Letter n (((i + 1 : Nat) : Int) + 1) := ⟨by omega, by omega, by omega⟩
  have s1 : sw i (i + 1 + 1) = i + 1 + 1 := sw_o (by omega) (by omega)
  have s2 : sw (i + 1) i = i := sw_o (by omega) (by omega)
  have key : ∀ a b, a + 1 < n → b + 1 < n → ¬ (idP.pre a).fin b → ¬ ((idP.pre a).post b).fin a → St n (rl n (u ++ [(a : Int) + 1] ++ [(b : Int) + 1] ++ [(a : Int) + 1])) (rl n u ++ [((idP.pre a).post b).post a, idP, idP]) := by
    intro a b ha hb f1 f2
    rw [rl_pos, rl_pos, rl_pos, List.append_assoc, List.append_assoc]
    refine St.pre _ ?_
    refine .step (one_more _ _ hb f1) ?_
    refine St.trans (St.there _ (id_slides ((idP_in n).pre ha) [])) ?_
    exact .one (one_more _ _ ha f2)
  have e : ((idP.pre i).post (i + 1)).post i = ((idP.pre (i + 1)).post i).post (i + 1) := Pm.ext' fun x => sw_braid i x
  refine nf_meet hn (M := rl n u ++ [((idP.pre i).post (i + 1)).post i, idP, idP]) (((hu.app (Word.one li)).app (Word.one lj)).app (Word.one li)) (((hu.app (Word.one lj)).app (Word.one li)).app (Word.one lj)) ?_ ?_ ?_
  · refine key i (i + 1) (by omega) hi ?_ ?_
    · show ¬ sw i (i + 1 + 1) < sw i (i + 1)
      rw [s1, sw_r]; omega
    · show ¬ sw i (sw (i + 1) (i + 1)) < sw i (sw (i + 1) i)
      rw [sw_l, s2, s1, sw_l]; omega
  · rw [e]
    refine key (i + 1) i hi (by omega) ?_ ?_
    · show ¬ sw (i + 1) (i + 1) < sw (i + 1) i
      rw [sw_l, s2]; omega
    · show ¬ sw (i + 1) (sw i (i + 1 + 1)) < sw (i + 1) (sw i (i + 1))
      rw [s1, sw_r, sw_r, s2]; omega
  · rw [negs_pos, negs_pos, negs_pos, negs_pos, negs_pos, negs_pos]

theorem Eqv.word {n : Nat} {w v : List Int} (h : Eqv n w v) : Word n w ↔ Word n v := by
  induction h with
  | refl => exact Iff.rfl
  | symm _ ih => exact ih.symm
  | trans _ _ ih1 ih2 => exact ih1.trans ih2
  | canc a b h =>
    constructor
    · intro k x hx
      rcases List.mem_append.1 hx with hx | hx
      · exact k x (by simp [hx])
      · exact k x (by simp [hx])
    · intro k
      exact k.left.app (Word.cons h (Word.cons h.neg k.right))
  | far a b _ =>
    constructor
    all_goals
      intro k x hx
      refine k x ?_
      simp only [List.mem_append, List.mem_cons] at hx ⊢
      rcases hx with h | h | h | h
      · exact Or.inl h
      · exact Or.inr (Or.inr (Or.inl h))
      · exact Or.inr (Or.inl h)
      · exact Or.inr (Or.inr (Or.inr h))
  | braid a b _ _ =>
    constructor
    all_goals
      intro k x hx
      refine k x ?_
      simp only [List.mem_append, List.mem_cons] at hx ⊢
      rcases hx with h | h | h | h | h
      · exact Or.inl h
      · exact Or.inr (Or.inr (Or.inl h))
      · exact Or.inr (Or.inl h)
      · exact Or.inr (Or.inr (Or.inl h))
      · exact Or.inr (Or.inr (Or.inr (Or.inr h)))
theorem Eqv.nf {n : Nat} (hn : 2 ≤ n) {w v : List Int} (h : Eqv n w v) : Word n w → nf n w = nf n v := by
  induction h with
  | refl => exact fun _ => rfl
  | symm h ih => exact fun k => (ih (h.word.2 k)).symm
  | trans h _ ih1 ih2 => exact fun k => (ih1 k).trans (ih2 (h.word.1 k))
  | @canc a b z h =>
    intro k
    have e : a ++ z :: -z :: b = (a ++ [z] ++ [-z]) ++ b := by simp
    rw [e]
    exact nf_more (nf_canc hn a k.left h) b
  | @far a b x y h =>
    intro k
    have hx : Letter n x := k x (by simp)
    have hy : Letter n y := k y (by simp)
    have e : ∀ x y : Int, a ++ x :: y :: b = (a ++ [x] ++ [y]) ++ b := fun x y => by simp
    rw [e, e]
    exact nf_more (nf_far hn hx hy h a k.left) b
  | @braid a b i h h' =>
    intro k
    obtain ⟨j, rfl⟩ : ∃ j : Nat, i = (j : Int) + 1 := ⟨(i - 1).toNat, by omega⟩
    have e : ∀ x y z : Int, a ++ x :: y :: z :: b = (a ++ [x] ++ [y] ++ [z]) ++ b := fun x y z => by simp
    rw [e, e]
    have := nf_braid hn a (i := j) k.left (by omega)
    rw [show ((j + 1 : Nat) : Int) + 1 = (j : Int) + 1 + 1 by omega] at this
    exact nf_more this b
end Go.Proofs.YtmefpaoakblndaaGreatDoor
