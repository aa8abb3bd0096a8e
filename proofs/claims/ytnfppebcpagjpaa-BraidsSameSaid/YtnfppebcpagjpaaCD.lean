/- Plain theory of braids: all signs changed, read backwards, and Delta past a word. No program is named here. -/
import Derived.Test.YtnfppebcpagjpaaBE
namespace Go.Proofs.Ytnfppebcpagjpaa

def ng (w : List Int) : List Int := w.map fun z => -z
theorem ng_app (a b : List Int) : ng (a ++ b) = ng a ++ ng b := by simp [ng]
theorem ng_cons (z : Int) (b : List Int) : ng (z :: b) = -z :: ng b := by simp [ng]
theorem ng_ng (a : List Int) : ng (ng a) = a := by simp [ng, Function.comp_def]
theorem Word.ng {n : Nat} {w : List Int} (h : Word n w) : Word n (ng w) := fun z hz => by
  simp only [Proofs.Ytnfppebcpagjpaa.ng, List.mem_map] at hz
  obtain ⟨y, hy, rfl⟩ := hz
  exact Letter.neg (h y hy)
theorem Word.rev {n : Nat} {w : List Int} (h : Word n w) : Word n w.reverse := fun z hz => h z (List.mem_reverse.1 hz)
theorem far_ng {a b : Int} (h : Far a b) : Far (-a) (-b) := by
  obtain ⟨i, j, ha, hb, h⟩ := h
  exact ⟨i, j, by omega, by omega, h⟩
theorem Eqv.ng {n : Nat} {w v : List Int} (h : Eqv n w v) : Eqv n (ng w) (ng v) := by
  induction h with
  | refl => exact .refl _
  | symm _ ih => exact ih.symm
  | trans _ _ a b => exact a.trans b
  | canc u v h => simp only [ng_app, ng_cons]; exact .canc _ _ h.neg
  | far u v h => simp only [ng_app, ng_cons]; exact .far _ _ (far_ng h)
  | @braid u v i h k =>
    have e : Eqv n [i, i + 1, i] [i + 1, i, i + 1] := .braid [] [] h k
    have l1 : Letter n i := ⟨by omega, by omega, by omega⟩
    have l2 : Letter n (i + 1) := ⟨by omega, by omega, by omega⟩
    have w1 : Word n [i, i + 1, i] := Word.cons l1 (Word.cons l2 (Word.one l1))
    have w2 : Word n [i + 1, i, i + 1] := Word.cons l2 (Word.cons l1 (Word.one l2))
    have q := ((e.inv w1 w2).left (Proofs.Ytnfppebcpagjpaa.ng u)).right (Proofs.Ytnfppebcpagjpaa.ng v)
    simpa [Proofs.Ytnfppebcpagjpaa.inv, Proofs.Ytnfppebcpagjpaa.ng] using q
theorem rev_ng (w : List Int) : w.reverse = inv (ng w) := by simp [inv, ng, Function.comp_def]
theorem Eqv.rev {n : Nat} {w v : List Int} (h : Eqv n w v) (hw : Word n w) (hv : Word n v) : Eqv n w.reverse v.reverse := by
  rw [rev_ng, rev_ng]
  exact h.ng.inv hw.ng hv.ng
theorem eqv_ng {n : Nat} {w v : List Int} : Eqv n (ng w) (ng v) ↔ Eqv n w v := ⟨fun h => by have := h.ng; rwa [ng_ng, ng_ng] at this, fun h => h.ng⟩
theorem eqv_rev {n : Nat} {w v : List Int} (hw : Word n w) (hv : Word n v) : Eqv n w.reverse v.reverse ↔ Eqv n w v :=
  ⟨fun h => by have := h.rev hw.rev hv.rev; rwa [List.reverse_reverse, List.reverse_reverse] at this, fun h => h.rev hw hv⟩
/-- The letter that a letter becomes on the other side of Delta. -/
def trn (n : Nat) (z : Int) : Int := if 0 < z then n - z else -n - z
theorem trn_letter {n : Nat} {z : Int} (h : Letter n z) : Letter n (trn n z) := by
  obtain ⟨h1, h2, h3⟩ := h
  unfold trn
  split
  · exact ⟨by omega, by omega, by omega⟩
  · exact ⟨by omega, by omega, by omega⟩
theorem Word.trn {n : Nat} {w : List Int} (h : Word n w) : Word n (w.map (trn n)) := fun z hz => by
  obtain ⟨y, hy, rfl⟩ := List.mem_map.1 hz
  exact trn_letter (h y hy)
theorem past_pos {n k : Nat} (hk : k + 1 < n) : Eqv n (((n : Int) - ((k : Int) + 1)) :: dw n) (dw n ++ [(k : Int) + 1]) := by
  have h := dw_past (n := n) (L := [idP.pre k]) (fun a ha => by
    simp at ha
    subst ha
    exact (idP_in n).pre hk)
  have e : tu n (idP.pre k) = idP.pre (n - 2 - k) := by rw [tu_pre _ hk, tu_id]
  rw [List.map_cons, List.map_nil, e, wd_cons, wd_cons, show wd n [] = [] from rfl, List.append_nil, List.append_nil] at h
  have p1 := least_pre1 (n := n) (k := n - 2 - k) (by omega)
  have p2 := least_pre1 hk
  have e2 : (((n - 2 - k : Nat) : Int) + 1) = (n : Int) - ((k : Int) + 1) := by omega
  rw [e2] at p1
  exact (p1.symm.right (dw n)).trans (h.trans (p2.left _))
theorem past_one {n : Nat} {z : Int} (h : Letter n z) : Eqv n (trn n z :: dw n) (dw n ++ [z]) := by
  by_cases hp : 0 < z
  · obtain ⟨k, rfl, hk⟩ := pos_nat h hp
    unfold trn
    rw [if_pos hp]
    exact past_pos hk
  · obtain ⟨k, rfl, hk⟩ := neg_nat h hp
    have q := past_pos hk
    have ha : trn n (-((k : Int) + 1)) = -((n : Int) - ((k : Int) + 1)) := by unfold trn; rw [if_neg hp]; omega
    rw [ha]
    obtain ⟨a, hae⟩ : ∃ a, a = (n : Int) - ((k : Int) + 1) := ⟨_, rfl⟩
    rw [← hae] at q ⊢
    have la : Letter n a := ⟨by omega, by omega, by omega⟩
    have lk : Letter n ((k : Int) + 1) := ⟨by omega, by omega, by omega⟩
    have s1 := ((Eqv.canc (dw n) [] lk).symm).cons (-a)
    rw [List.append_nil] at s1
    have s2 := ((q.symm.right [-((k : Int) + 1)]).cons (-a))
    rw [List.append_assoc] at s2
    have s3 := Eqv.canc [] (dw n ++ [-((k : Int) + 1)]) la.neg
    rw [Int.neg_neg] at s3
    exact s1.trans (s2.trans s3)
theorem past_all {n : Nat} : ∀ a : List Int, Word n a → Eqv n (dw n ++ a) (a.map (trn n) ++ dw n)
  | [], _ => by rw [List.append_nil]; exact .refl _
  | z :: a, h => by
    have h1 := past_one (h z (by simp))
    have ih := past_all a (fun x hx => h x (by simp [hx]))
    have s : Eqv n (dw n ++ z :: a) (trn n z :: (dw n ++ a)) := by
      have := h1.symm.right a
      simpa using this
    exact s.trans (ih.cons _)
theorem word_one {w : List Int} (h : Word 1 w) : w = [] := by
  cases w with
  | nil => rfl
  | cons z w =>
    have := h z (by simp)
    omega
theorem nf_eq_iff {n : Nat} (h1 : 1 ≤ n) {w v : List Int} (hw : Word n w) (hv : Word n v) : nf n w = nf n v ↔ Eqv n w v := by
  by_cases h : n = 1
  · subst h
    rw [word_one hw, word_one hv]
    exact ⟨fun _ => .refl _, fun _ => rfl⟩
  · exact eqv_iff (by omega) hw hv
end Go.Proofs.Ytnfppebcpagjpaa
