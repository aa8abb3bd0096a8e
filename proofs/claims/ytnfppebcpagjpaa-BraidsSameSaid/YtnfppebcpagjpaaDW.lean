/- What the reference makes of factors that nothing slides any more: the normal form. No program is named here. -/
import Derived.Test.YtnfppebcpagjpaaBC
namespace Go.Proofs.Ytnfppebcpagjpaa
open Classical in
/-- A Delta ahead of all is counted, what is without crossings is left out. -/
noncomputable def flS (n : Nat) (s : Int × List Pm) (a : Pm) : Int × List Pm := if s.2 = [] ∧ a = dl n then (s.1 + 1, s.2) else if a = idP then s else (s.1, s.2 ++ [a])
theorem flS_dl {n : Nat} (p : Int) : ∀ k : Nat, (List.replicate k (dl n)).foldl (flS n) (p, []) = (p + k, [])
  | 0 => by simp
  | k + 1 => by
    rw [List.replicate_succ, List.foldl_cons, show flS n (p, []) (dl n) = (p + 1, []) from if_pos ⟨rfl, rfl⟩, flS_dl (p + 1) k]
    congr 1
    omega
theorem flS_mid {n : Nat} (p : Int) : ∀ (F out : List Pm), (∀ a ∈ F, a ≠ idP ∧ a ≠ dl n) → F.foldl (flS n) (p, out) = (p, out ++ F)
  | [], out, _ => by simp
  | a :: F, out, h => by
    have ha := h a (by simp)
    have e : flS n (p, out) a = (p, out ++ [a]) := by
      unfold flS
      rw [if_neg (fun h => ha.2 h.2), if_neg ha.1]
    rw [List.foldl_cons, e, flS_mid p F _ (fun b hb => h b (by simp [hb]))]
    simp
theorem flS_id {n : Nat} (hn : 2 ≤ n) (s : Int × List Pm) : ∀ m : Nat, (List.replicate m idP).foldl (flS n) s = s
  | 0 => rfl
  | m + 1 => by
    have e : flS n s idP = s := by
      unfold flS
      rw [if_neg (fun h => dl_ne hn h.2.symm), if_pos rfl]
    rw [List.replicate_succ, List.foldl_cons, e, flS_id hn s m]
/-- Where nothing slides any more, the reference has the normal form. -/
theorem ref_nf {n : Nat} (hn : 2 ≤ n) {w : List Int} {L : List Pm} (hw : Word n w) (s : St n (rl n w) L) (hL : Nf n L) : L.foldl (flS n) (-negs w, []) = nf n w := by
  have h := nf_isN hn w hw
  obtain ⟨k, m, e, t⟩ := h.slides
  have := St.unique (rl_in w hw) s t hL (Chain.nf (chain_front _ (chain_back _ h.chain)))
  rw [this, List.foldl_append, flS_dl, List.foldl_append, flS_mid _ _ _ h.mids, flS_id hn, List.nil_append, Int.add_comm, ← Int.sub_eq_add_neg, ← e]
/-- One pair of neighbours has taken over: so many slides. -/
theorem take_st {n : Nat} {a b : Pm} (ha : a.In n) (hb : b.In n) (K R : List Pm) : St n (K ++ a :: b :: R) (K ++ (take n a b).1 :: (take n a b).2 :: R) := by
  obtain ⟨e, t⟩ := take_spec ha hb
  exact St.pre K (t.st R)
/-- No pair of neighbours slides: nothing does. -/
theorem chain_of {n : Nat} : ∀ {L : List Pm}, (∀ k a b, L[k]? = some a → L[k + 1]? = some b → firstS n a b = none) → Chain n L
  | [], _ => trivial
  | [_], _ => trivial
  | a :: b :: L, h => ⟨firstS_none (h 0 a b rfl rfl), chain_of (L := b :: L) fun k x y hx hy => h (k + 1) x y (by simpa using hx) (by simpa using hy)⟩
/-- A round of slides has an end: it lowers the weight where it changes anything. -/
theorem st_lower {n : Nat} {L M : List Pm} (s : St n L M) (hi : AllIn n L) : M = L ∨ wt n M < wt n L := by
  induction s with
  | refl => exact .inl rfl
  | step a _ ih =>
    right
    have h1 := a.wt hi
    rcases ih (a.allIn hi) with rfl | h2
    · exact h1
    · omega
end Go.Proofs.Ytnfppebcpagjpaa
