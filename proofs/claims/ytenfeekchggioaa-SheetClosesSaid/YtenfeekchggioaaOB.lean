/- Chains: the search. -/
import Derived.Test.YtenfeekchggioaaOA
namespace Go.Proofs.Ytenfeekchggioaa
open Go.RowKit Go.Shelf Go.Lib
set_option linter.unusedSimpArgs false
attribute [local irreducible] wpQuiet
def hdN (r : List Nat) : Nat := r.headD 0
def heads (ps : List (List Nat)) : List Nat := ps.map hdN
def wkN (W : List Wk) (i : Nat) : Wk := (W[i]?).getD ⟨0, 0, ⟨#[]⟩⟩
def tchN (W : List Wk) (i j : Nat) : Bool := touchP (wkN W i) (wkN W j)
/-- One path is made longer by each work that it meets first. -/
def scan (W : List Wk) (b : Nat) (r : List Nat) : Nat → Nat → List (List Nat) → List (List Nat) × Option (List Nat)
  | 0, _, ps => (ps, none)
  | n + 1, x, ps => if (heads ps).contains x || !tchN W (hdN r) x then scan W b r n (x + 1) ps else if x = b then (ps, some (b :: r)) else scan W b r n (x + 1) (ps ++ [x :: r])
def bfs (W : List Wk) (b : Nat) : Nat → Nat → List (List Nat) → Option (List Nat)
  | 0, _, _ => none
  | f + 1, k, ps => match ps[k]? with
    | none => none
    | some r => match scan W b r (b - hdN r) (hdN r + 1) ps with
      | (_, some res) => some res
      | (ps', none) => bfs W b f (k + 1) ps'
def contB (W : List Wk) (b f k : Nat) : List (List Nat) × Option (List Nat) → Option (List Nat)
  | (_, some res) => some res
  | (ps', none) => bfs W b f (k + 1) ps'
theorem bfs_step (W : List Wk) (b f k : Nat) (ps : List (List Nat)) (r : List Nat) (h : ps[k]? = some r) : bfs W b (f + 1) k ps = contB W b f k (scan W b r (b - hdN r) (hdN r + 1) ps) := by
  rw [bfs, h]
  simp only []
  unfold contB
  cases scan W b r (b - hdN r) (hdN r + 1) ps with
  | mk p o => cases o <;> rfl
theorem bfs_end (W : List Wk) (b f k : Nat) (ps : List (List Nat)) (h : ps.length ≤ k) : bfs W b f k ps = none := by
  cases f with
  | zero => rfl
  | succ f => rw [bfs, List.getElem?_eq_none h]
/-- The chain that is found, read backwards. -/
def chainR (W : List Wk) (a b : Nat) : Option (List Nat) := bfs W b (W.length + 1) 0 [[a]]
def chainL (W : List Wk) (a b : Nat) : List Int := ((chainR W a b).getD []).reverse.map fun (i : Nat) => (i : Int)
theorem nodup_len : ∀ (n : Nat) (l : List Nat), l.Nodup → (∀ x ∈ l, x < n) → l.length ≤ n
  | 0, l, _, h => by
    cases l with
    | nil => simp
    | cons a l => exact absurd (h a (List.mem_cons_self)) (by omega)
  | n + 1, l, hd, h => by
    have h1 := nodup_len n (l.erase n) (hd.erase n) (fun x hx => by
      have := (List.Nodup.mem_erase_iff hd).1 hx
      have := h x this.2
      omega)
    rw [List.length_erase] at h1
    split at h1 <;> omega
/-- What the search keeps. -/
structure Inv (a b : Nat) (bk : Nat → Nat) (ps : List (List Nat)) : Prop where
  tr : ∀ p ∈ ps, Tr bk a p ∧ (hdN p = a ∨ hdN p < b)
  nd : (heads ps).Nodup
  mem : ∀ p ∈ ps, ∀ y ∈ p, y ∈ heads ps
theorem Inv.len {a b n : Nat} {bk : Nat → Nat} {ps : List (List Nat)} (h : Inv a b bk ps) (ha : a < n) (hb : b < n) : ps.length ≤ n := by
  have := nodup_len n (heads ps) h.nd (fun x hx => by
    obtain ⟨p, hp, rfl⟩ := List.mem_map.1 hx
    rcases (h.tr p hp).2 with e | e <;> omega)
  rwa [heads, List.length_map] at this
theorem tr_up {bk : Nat → Nat} {a x l : Nat} : ∀ {p : List Nat}, Tr bk a p → x ∉ p → Tr (upB bk x l) a p
  | [], h, _ => h
  | [y], h, _ => h
  | y :: z :: r, h, hx => by
    obtain ⟨h1, h2, h3, h4⟩ := h
    refine ⟨?_, h2, h3, tr_up h4 (fun h => hx (List.mem_cons_of_mem _ h))⟩
    unfold upB
    rw [if_neg (fun (e : y = x) => hx (by rw [e]; exact List.mem_cons_self))]
    exact h1
theorem Tr.cons {bk : Nat → Nat} {a : Nat} {r : List Nat} (h : Tr bk a r) : ∃ t, r = hdN r :: t := by
  cases r with
  | nil => exact h.elim
  | cons y t => exact ⟨t, rfl⟩
theorem tr_new {a b x : Nat} {bk : Nat → Nat} {ps : List (List Nat)} {r : List Nat} (h : Inv a b bk ps) (hr : r ∈ ps) (hx : x ∉ heads ps) (hl : hdN r < x) (h4 : x < 400) : Tr (upB bk x (hdN r)) a (x :: r) := by
  obtain ⟨t, ht⟩ := Tr.cons (h.tr r hr).1
  have h1 := tr_up (x := x) (l := hdN r) (h.tr r hr).1 (fun hm => hx (h.mem r hr x hm))
  rw [ht] at h1 ⊢
  refine ⟨?_, ?_, h4, ?_⟩
  · simp [upB, hdN]
  · exact hl
  · simpa [hdN] using h1
theorem Inv.push {a b x : Nat} {bk : Nat → Nat} {ps : List (List Nat)} {r : List Nat} (h : Inv a b bk ps) (hr : r ∈ ps) (hx : x ∉ heads ps) (hl : hdN r < x) (h4 : x < 400) (hxb : x < b) : Inv a b (upB bk x (hdN r)) (ps ++ [x :: r]) := by
  have hh : heads (ps ++ [x :: r]) = heads ps ++ [x] := by simp [heads, hdN]
  refine ⟨fun p hp => ?_, ?_, fun p hp y hy => ?_⟩
  · rcases List.mem_append.1 hp with hp | hp
    · exact ⟨tr_up (h.tr p hp).1 (fun hm => hx (h.mem p hp x hm)), (h.tr p hp).2⟩
    · rw [List.mem_singleton] at hp
      subst hp
      exact ⟨tr_new h hr hx hl h4, .inr hxb⟩
  · rw [hh, List.nodup_append]
    exact ⟨h.nd, by simp, fun y hy z hz e => by rw [List.mem_singleton] at hz; subst hz; subst e; exact hx hy⟩
  · rw [hh]
    rcases List.mem_append.1 hp with hp | hp
    · exact List.mem_append_left _ (h.mem p hp y hy)
    · rw [List.mem_singleton] at hp
      subst hp
      rcases List.mem_cons.1 hy with rfl | hy
      · exact List.mem_append_right _ (by simp)
      · exact List.mem_append_left _ (h.mem r hr y hy)
theorem Inv.start (a b : Nat) (bk : Nat → Nat) (h : a < 400) : Inv a b bk [[a]] :=
  ⟨fun p hp => by rw [List.mem_singleton] at hp; subst hp; exact ⟨⟨rfl, h⟩, .inl rfl⟩, by simp [heads, hdN], fun p hp y hy => by rw [List.mem_singleton] at hp; subst hp; simpa [heads, hdN] using hy⟩
end Go.Proofs.Ytenfeekchggioaa
