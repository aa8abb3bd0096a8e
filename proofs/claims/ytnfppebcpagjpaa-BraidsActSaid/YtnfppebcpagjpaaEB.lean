/- Each braid is one of the last strand round the others, then one of the others, then a move of the last strand to its place. No program is named here. -/
import Derived.Test.YtnfppebcpagjpaaEA
namespace Go.Proofs.Ytnfppebcpagjpaa
theorem Eqv.nil_l {n : Nat} {a b : List Int} (h : Eqv n a []) : Eqv n (a ++ b) b := h.right b
theorem far_abs {a b : Int} (h : a.natAbs + 2 ≤ b.natAbs ∨ b.natAbs + 2 ≤ a.natAbs) : Far a b := ⟨a.natAbs, b.natAbs, by omega, by omega, h⟩
theorem far_all {n : Nat} {z : Int} : ∀ r : List Int, (∀ x ∈ r, Far z x) → Eqv n (z :: r) (r ++ [z])
  | [], _ => .refl _
  | x :: r, h => by
    have h1 : Eqv n (z :: x :: r) (x :: z :: r) := .far [] r (h x (by simp))
    exact h1.trans ((far_all r (fun y hy => h y (by simp [hy]))).cons x)
theorem pass_inv {n : Nat} {z y : Int} {t : List Int} (ht : Word n t) (h : Eqv n (z :: t) (t ++ [y])) : Eqv n (y :: inv t) (inv t ++ [z]) := by
  have h1 : Eqv n (inv t ++ ((z :: t) ++ inv t)) (inv t ++ ((t ++ [y]) ++ inv t)) := (h.right _).left _
  have h2 : Eqv n (inv t ++ ((z :: t) ++ inv t)) (inv t ++ [z]) := by
    have := (canc_r t ht).left (inv t ++ [z])
    simpa using this
  have h3 : Eqv n (inv t ++ ((t ++ [y]) ++ inv t)) (y :: inv t) := by
    have := (canc_l t ht).right (y :: inv t)
    simpa using this
  exact (h2.symm.trans (h1.trans h3)).symm
theorem pass_neg {n : Nat} {z y : Int} {t s : List Int} (hz : Letter n z) (hy : Letter n y) (h : Eqv n (z :: t) (s ++ [y])) : Eqv n (-z :: s) (t ++ [-y]) := by
  have h1 : Eqv n (-z :: ((s ++ [y]) ++ [-y])) (-z :: ((z :: t) ++ [-y])) := (h.symm.right _).cons _
  have h2 : Eqv n (-z :: ((s ++ [y]) ++ [-y])) (-z :: s) := by
    have := (Eqv.canc (n := n) (-z :: s) [] hy)
    simpa using this
  have h3 : Eqv n (-z :: ((z :: t) ++ [-y])) (t ++ [-y]) := by
    have := (Eqv.canc (n := n) [] (t ++ [-y]) hz.neg)
    simpa using this
  exact h2.symm.trans (h1.trans h3)
def tau (N : Nat) : Nat → List Int
  | 0 => []
  | d + 1 => tau N d ++ [(N : Int) - d]
theorem tau_mem {N : Nat} : ∀ {d : Nat} {x : Int}, x ∈ tau N d → (N : Int) - d < x ∧ x ≤ N
  | 0, _, h => by simp [tau] at h
  | d + 1, x, h => by
    rcases List.mem_append.1 h with h | h
    · have := tau_mem h; omega
    · have := List.mem_singleton.1 h; omega
theorem tau_word {N d : Nat} (hd : d ≤ N) : Word (N + 1) (tau N d) := fun x hx => by
  have := tau_mem hx
  exact ⟨by omega, by omega, by omega⟩
theorem tau_lo {N d : Nat} {z : Int} (h : (z.natAbs : Int) < (N : Int) - d) : Eqv (N + 1) (z :: tau N d) (tau N d ++ [z]) := far_all _ fun x hx => far_abs (by have := tau_mem hx; omega)
theorem tau_hi {N : Nat} : ∀ {d : Nat} {m : Int}, d ≤ N → (N : Int) - d + 1 < m → m ≤ N → Eqv (N + 1) ((m - 1) :: tau N d) (tau N d ++ [m])
  | 0, m, _, h1, h2 => by omega
  | d + 1, m, hd, h1, h2 => by
    by_cases h : (N : Int) - d + 1 < m
    · have ih := tau_hi (by omega) h h2
      have f : Eqv (N + 1) (tau N d ++ m :: ((N : Int) - d) :: []) (tau N d ++ ((N : Int) - d) :: m :: []) := .far _ _ (far_abs (by omega))
      show Eqv (N + 1) ((m - 1) :: (tau N d ++ [(N : Int) - d])) (tau N d ++ [(N : Int) - d] ++ [m])
      have i2 := ih.right [(N : Int) - d]
      simp only [List.cons_append, List.append_assoc, List.nil_append] at i2 ⊢
      exact i2.trans f
    · obtain ⟨c, rfl⟩ : ∃ c, d = c + 1 := ⟨d - 1, by omega⟩
      obtain rfl : m = (N : Int) - (c : Nat) := by omega
      have e : tau N (c + 1 + 1) = tau N c ++ [(N : Int) - c, (N : Int) - c - 1] := by
        show tau N c ++ [(N : Int) - c] ++ [(N : Int) - ((c + 1 : Nat) : Int)] = _
        rw [show (N : Int) - ((c + 1 : Nat) : Int) = (N : Int) - c - 1 by omega]
        simp
      rw [e]
      have f : Eqv (N + 1) (((N : Int) - c - 1) :: tau N c) (tau N c ++ [(N : Int) - c - 1]) := far_all _ fun x hx => far_abs (by have := tau_mem hx; omega)
      have b := Eqv.braid (n := N + 1) (tau N c) [] (i := (N : Int) - c - 1) (by omega) (by omega)
      rw [show (N : Int) - c - 1 + 1 = (N : Int) - c by omega] at b
      have f2 := f.right [(N : Int) - c, (N : Int) - c - 1]
      simp only [List.cons_append, List.append_assoc, List.nil_append] at f2 ⊢
      exact f2.trans b
/-- The last strand round the one at a place (from 1 on), and back. -/
def Aw (N a : Nat) : List Int := tau N (N - a) ++ ((a : Int) :: (a : Int) :: inv (tau N (N - a)))
def al1 (N : Nat) (z : Int) : List Int := if 0 < z then Aw N z.natAbs else inv (Aw N z.natAbs)
def al (N : Nat) (u : List Int) : List Int := u.flatMap (al1 N)
theorem al_app (N : Nat) (u v : List Int) : al N (u ++ v) = al N u ++ al N v := by simp [al]
theorem al_cons (N : Nat) (z : Int) (v : List Int) : al N (z :: v) = al1 N z ++ al N v := by simp [al]
theorem al_nil (N : Nat) : al N [] = [] := rfl
theorem al1_pos (N a : Nat) (h : 0 < a) : al1 N (a : Int) = Aw N a := by unfold al1; rw [if_pos (by omega)]; rfl
theorem al1_neg (N a : Nat) : al1 N (-(a : Int)) = inv (Aw N a) := by unfold al1; rw [if_neg (by omega)]; congr 2; omega
theorem Aw_word {N a : Nat} (h0 : 0 < a) (h : a ≤ N) : Word (N + 1) (Aw N a) := by
  have t := tau_word (N := N) (d := N - a) (by omega)
  have l : Letter (N + 1) (a : Int) := ⟨by omega, by omega, by omega⟩
  exact t.app (Word.cons l (Word.cons l t.inv))
theorem al1_word {N : Nat} {z : Int} (h : Letter (N + 1) z) : Word (N + 1) (al1 N z) := by
  have := h.1; have := h.2.1; have := h.2.2
  unfold al1
  split
  · exact Aw_word (by omega) (by omega)
  · exact (Aw_word (by omega) (by omega)).inv
theorem al_word {N : Nat} : ∀ {u : List Int}, Word (N + 1) u → Word (N + 1) (al N u)
  | [], _ => fun x hx => by simp [al] at hx
  | z :: u, h => by rw [al_cons]; exact (al1_word (h z (by simp))).app (al_word fun x hx => h x (by simp [hx]))
theorem al1_inv (N : Nat) {z : Int} (h : z ≠ 0) : inv (al1 N z) = al1 N (-z) := by
  unfold al1
  by_cases hp : 0 < z
  · rw [if_pos hp, if_neg (by omega), Int.natAbs_neg]
  · rw [if_neg hp, if_pos (by omega), Int.natAbs_neg, inv_inv]
theorem al_inv (N : Nat) : ∀ {u : List Int}, (∀ z ∈ u, z ≠ 0) → inv (al N u) = al N (inv u)
  | [], _ => rfl
  | z :: u, h => by rw [al_cons, inv_app, al_inv N (fun x hx => h x (by simp [hx])), inv_cons, al_app, al1_inv N (h z (by simp)), al_cons, al_nil, List.append_nil]
theorem tau_snoc {N a : Nat} (h : a < N) : tau N (N - a) = tau N (N - (a + 1)) ++ [(a : Int) + 1] := by
  obtain ⟨c, hc⟩ : ∃ c, N - a = c + 1 := ⟨N - a - 1, by omega⟩
  rw [hc, show N - (a + 1) = c by omega]
  show tau N c ++ [(N : Int) - c] = _
  rw [show (N : Int) - c = (a : Int) + 1 by omega]
theorem Aw_open {N a : Nat} (h : a < N) : Aw N a = tau N (N - (a + 1)) ++ ([(a : Int) + 1, a, a, -((a : Int) + 1)] ++ inv (tau N (N - (a + 1)))) := by
  unfold Aw
  rw [tau_snoc h, inv_app]
  simp [inv]
/-- A letter before the strand at its left end gives the next one. -/
theorem pass_same {N a : Nat} (h0 : 0 < a) (h : a < N) : Eqv (N + 1) ((a : Int) :: Aw N a) (Aw N (a + 1) ++ [(a : Int)]) := by
  have tw := tau_word (N := N) (d := N - (a + 1)) (by omega)
  have f : Eqv (N + 1) ((a : Int) :: tau N (N - (a + 1))) (tau N (N - (a + 1)) ++ [(a : Int)]) := far_all _ fun x hx => far_abs (by have := tau_mem hx; omega)
  have g := pass_inv tw f
  have e : Aw N (a + 1) = tau N (N - (a + 1)) ++ (((a : Int) + 1) :: ((a : Int) + 1) :: inv (tau N (N - (a + 1)))) := by
    unfold Aw; rw [show ((a + 1 : Nat) : Int) = (a : Int) + 1 by omega]
  rw [Aw_open h, e]
  generalize tau N (N - (a + 1)) = t at *
  have hl : Letter (N + 1) ((a : Int) + 1) := ⟨by omega, by omega, by omega⟩
  have s1 := f.right ([(a : Int) + 1, a, a, -((a : Int) + 1)] ++ inv t)
  have s2 := Eqv.braid (n := N + 1) t ((a : Int) :: -((a : Int) + 1) :: inv t) (i := (a : Int)) (by omega) (by omega)
  have s3 := Eqv.braid (n := N + 1) (t ++ [(a : Int) + 1]) (-((a : Int) + 1) :: inv t) (i := (a : Int)) (by omega) (by omega)
  have s4 := Eqv.canc (t ++ [(a : Int) + 1, (a : Int) + 1, a]) (inv t) hl
  have s5 := g.left (t ++ [(a : Int) + 1, (a : Int) + 1])
  simp only [List.cons_append, List.append_assoc, List.nil_append] at s1 s2 s3 s4 s5 ⊢
  exact s1.trans (s2.trans (s3.trans (s4.trans s5)))
/-- And the next one becomes it, conjugated. -/
theorem pass_next {N b : Nat} (h0 : 0 < b) (h : b < N) : Eqv (N + 1) (Aw N (b + 1) ++ ((b : Int) :: Aw N (b + 1))) (Aw N b ++ (Aw N (b + 1) ++ [(b : Int)])) := by
  have tw := tau_word (N := N) (d := N - (b + 1)) (by omega)
  have f : Eqv (N + 1) ((b : Int) :: tau N (N - (b + 1))) (tau N (N - (b + 1)) ++ [(b : Int)]) := far_all _ fun x hx => far_abs (by have := tau_mem hx; omega)
  have g := pass_inv tw f
  have e : Aw N (b + 1) = tau N (N - (b + 1)) ++ (((b : Int) + 1) :: ((b : Int) + 1) :: inv (tau N (N - (b + 1)))) := by
    unfold Aw; rw [show ((b + 1 : Nat) : Int) = (b : Int) + 1 by omega]
  rw [Aw_open h, e]
  generalize tau N (N - (b + 1)) = t at *
  have hl : Letter (N + 1) ((b : Int) + 1) := ⟨by omega, by omega, by omega⟩
  have c1 := canc_l t tw
  have s1 := (f.right (((b : Int) + 1) :: ((b : Int) + 1) :: inv t)).left (t ++ (((b : Int) + 1) :: ((b : Int) + 1) :: inv t))
  have s2 := (c1.right ((b : Int) :: ((b : Int) + 1) :: ((b : Int) + 1) :: inv t)).left (t ++ [(b : Int) + 1, (b : Int) + 1])
  have s3 := (Eqv.braid (n := N + 1) (t ++ [(b : Int) + 1]) (((b : Int) + 1) :: inv t) (i := (b : Int)) (by omega) (by omega)).symm
  have s4 := (Eqv.braid (n := N + 1) (t ++ [(b : Int) + 1, (b : Int)]) (inv t) (i := (b : Int)) (by omega) (by omega)).symm
  have s5 := g.left (t ++ [(b : Int) + 1, b, b, (b : Int) + 1])
  have r1 := (c1.right (((b : Int) + 1) :: ((b : Int) + 1) :: (inv t ++ [(b : Int)]))).left (t ++ [(b : Int) + 1, b, b, -((b : Int) + 1)])
  have r2 := Eqv.canc (t ++ [(b : Int) + 1, b, b]) (((b : Int) + 1) :: (inv t ++ [(b : Int)])) hl.neg
  simp only [List.cons_append, List.append_assoc, List.nil_append, Int.neg_neg] at s1 s2 s3 s4 s5 r1 r2 ⊢
  exact s1.trans (s2.trans (s3.trans (s4.trans (s5.trans (r1.trans r2).symm))))
/-- A letter of the others, and the last strand round one of them: first the last strand round others, then the letter. -/
theorem pass_pos {N a : Nat} {z : Int} (ha : 0 < a) (haN : a ≤ N) (hz : Letter N z) : ∃ u, Word (N + 1) u ∧ Eqv (N + 1) (z :: Aw N a) (al N u ++ [z]) := by
  obtain ⟨z0, z1, z2⟩ := hz
  have hzl : Letter (N + 1) z := ⟨z0, by omega, by omega⟩
  have la : Letter (N + 1) (a : Int) := ⟨by omega, by omega, by omega⟩
  have tw := tau_word (N := N) (d := N - a) (by omega)
  have one : ∀ u : List Int, Word (N + 1) u → Eqv (N + 1) (z :: Aw N a) (al N u ++ [z]) → ∃ u, Word (N + 1) u ∧ Eqv (N + 1) (z :: Aw N a) (al N u ++ [z]) := fun u h1 h2 => ⟨u, h1, h2⟩
  have ea : al N [(a : Int)] = Aw N a := by rw [al_cons, al_nil, List.append_nil, al1_pos N a ha]
  by_cases c1 : z.natAbs + 1 < a
  · refine one [(a : Int)] (Word.one la) ?_
    rw [ea]
    refine far_all _ fun x hx => far_abs ?_
    unfold Aw at hx
    rcases List.mem_append.1 hx with hx | hx
    · have := tau_mem hx; omega
    · rcases List.mem_cons.1 hx with rfl | hx
      · omega
      · rcases List.mem_cons.1 hx with rfl | hx
        · omega
        · unfold inv at hx
          rw [List.mem_reverse, List.mem_map] at hx
          obtain ⟨y, hy, rfl⟩ := hx
          have := tau_mem hy; omega
  by_cases c2 : a < z.natAbs
  · refine one [(a : Int)] (Word.one la) ?_
    rw [ea]
    have f : ∃ y : Int, a + 2 ≤ y.natAbs ∧ Eqv (N + 1) (z :: tau N (N - a)) (tau N (N - a) ++ [y]) := by
      by_cases hp : 0 < z
      · refine ⟨z + 1, by omega, ?_⟩
        have := tau_hi (N := N) (d := N - a) (m := z + 1) (by omega) (by omega) (by omega)
        rwa [show z + 1 - 1 = z by omega] at this
      · refine ⟨z - 1, by omega, ?_⟩
        have := tau_hi (N := N) (d := N - a) (m := -z + 1) (by omega) (by omega) (by omega)
        have h2 := pass_neg ⟨by omega, by omega, by omega⟩ ⟨by omega, by omega, by omega⟩ this
        rwa [show -(-z + 1 - 1) = z by omega, show -(-z + 1) = z - 1 by omega] at h2
    obtain ⟨y, hy, f⟩ := f
    have g := pass_inv tw f
    unfold Aw
    generalize tau N (N - a) = t at *
    have s1 := f.right ((a : Int) :: (a : Int) :: inv t)
    have s2 : Eqv (N + 1) (t ++ y :: (a : Int) :: ((a : Int) :: inv t)) (t ++ (a : Int) :: y :: ((a : Int) :: inv t)) := .far _ _ (far_abs (by omega))
    have s3 : Eqv (N + 1) ((t ++ [(a : Int)]) ++ y :: (a : Int) :: (inv t)) ((t ++ [(a : Int)]) ++ (a : Int) :: y :: (inv t)) := .far _ _ (far_abs (by omega))
    have s4 := g.left (t ++ [(a : Int), (a : Int)])
    simp only [List.cons_append, List.append_assoc, List.nil_append] at s1 s2 s3 s4 ⊢
    exact s1.trans (s2.trans (s3.trans s4))
  have lA : ∀ c : Nat, 0 < c → c ≤ N → Letter (N + 1) (c : Int) := fun c _ _ => ⟨by omega, by omega, by omega⟩
  by_cases c3 : z.natAbs = a
  · have haN' : a < N := by omega
    have p1 := pass_same ha haN'
    have wA := Aw_word ha haN
    have wB := Aw_word (N := N) (a := a + 1) (by omega) haN'
    by_cases hp : 0 < z
    · obtain rfl : z = (a : Int) := by omega
      refine one [((a + 1 : Nat) : Int)] (Word.one (lA _ (by omega) haN')) ?_
      rw [al_cons, al_nil, List.append_nil, al1_pos N (a + 1) (by omega)]
      exact p1
    · obtain rfl : z = -(a : Int) := by omega
      refine one [(a : Int), ((a + 1 : Nat) : Int), -(a : Int)] (Word.cons la (Word.cons (lA _ (by omega) haN') (Word.one la.neg))) ?_
      rw [al_cons, al_cons, al_cons, al_nil, List.append_nil, al1_pos N a ha, al1_pos N (a + 1) (by omega), al1_neg]
      have p2 := pass_next ha haN'
      generalize Aw N (a + 1) = B at *
      generalize Aw N a = A at *
      have q1 := pass_neg la la p1
      -- A B s ~ B s B
      have t1 := (p2.symm.cons (-(a : Int)))
      have t2 := q1.right ((a : Int) :: B)
      have t3 := Eqv.canc (n := N + 1) A B la.neg
      have t4 := (p1.left (-(a : Int) :: A))
      rw [Int.neg_neg] at t3
      have t5 : Eqv (N + 1) (-(a : Int) :: (A ++ (a : Int) :: A)) (A ++ B) := by
        simp only [List.cons_append, List.append_assoc, List.nil_append] at t1 t2 t3 t4 ⊢
        exact t4.trans (t1.trans (t2.trans t3))
      have t6 := t5.right (inv A ++ [-(a : Int)])
      have t7 := (canc_r A wA).left (-(a : Int) :: (A ++ [(a : Int)]))
      have t8 := Eqv.canc (n := N + 1) (-(a : Int) :: A) [] la
      have t9 := t7.right [-(a : Int)]
      simp only [List.cons_append, List.append_assoc, List.nil_append, List.append_nil] at t6 t7 t8 t9 ⊢
      exact (t9.trans t8).symm.trans t6
  · obtain ⟨b, rfl⟩ : ∃ b, a = b + 1 := ⟨a - 1, by omega⟩
    have hb : 0 < b := by omega
    have hbN : b < N := by omega
    have lb := lA b hb (by omega)
    have p1 := pass_same hb hbN
    by_cases hp : 0 < z
    · obtain rfl : z = (b : Int) := by omega
      refine one [-((b + 1 : Nat) : Int), (b : Int), ((b + 1 : Nat) : Int)] (Word.cons la.neg (Word.cons lb (Word.one la))) ?_
      rw [al_cons, al_cons, al_cons, al_nil, List.append_nil, al1_pos N b hb, al1_pos N (b + 1) (by omega), al1_neg]
      have p2 := pass_next hb hbN
      have wB := Aw_word (N := N) (a := b + 1) (by omega) haN
      generalize Aw N (b + 1) = B at *
      generalize Aw N b = A at *
      have t1 := p2.left (inv B)
      have t2 := (canc_l B wB).right ((b : Int) :: B)
      simp only [List.append_assoc, List.nil_append] at t1 t2 ⊢
      exact t2.symm.trans t1
    · obtain rfl : z = -(b : Int) := by omega
      refine one [(b : Int)] (Word.one lb) ?_
      rw [al_cons, al_nil, List.append_nil, al1_pos N b hb]
      exact pass_neg lb lb p1
theorem pass_one {N : Nat} {z x : Int} (hx : Letter (N + 1) x) (hz : Letter N z) : ∃ u, Word (N + 1) u ∧ Eqv (N + 1) (z :: al1 N x) (al N u ++ [z]) := by
  have := hx.1; have := hx.2.1; have := hx.2.2
  have hzl : Letter (N + 1) z := ⟨hz.1, by have := hz.2.1; omega, by have := hz.2.2; omega⟩
  obtain ⟨u, hu, h⟩ := pass_pos (N := N) (a := x.natAbs) (z := z) (by omega) (by omega) hz
  by_cases hp : 0 < x
  · refine ⟨u, hu, ?_⟩
    unfold al1
    rwa [if_pos hp]
  · refine ⟨Proofs.Ytnfppebcpagjpaa.inv u, hu.inv, ?_⟩
    unfold al1
    rw [if_neg hp, ← al_inv N (fun y hy => (hu y hy).1)]
    have wA := Aw_word (N := N) (a := x.natAbs) (by omega) (by omega)
    have wU := al_word hu
    generalize Aw N x.natAbs = A at *
    generalize al N u = U at *
    have t1 := (h.right (Proofs.Ytnfppebcpagjpaa.inv A)).left (Proofs.Ytnfppebcpagjpaa.inv U)
    have t2 := (canc_r A wA).left (Proofs.Ytnfppebcpagjpaa.inv U ++ [z])
    have t3 := (canc_l U wU).right (z :: Proofs.Ytnfppebcpagjpaa.inv A)
    simp only [List.cons_append, List.append_assoc, List.nil_append, List.append_nil] at t1 t2 t3 ⊢
    exact t3.symm.trans (t1.symm.trans t2)
theorem pass_al {N : Nat} {z : Int} (hz : Letter N z) : ∀ (u : List Int), Word (N + 1) u → ∃ u', Word (N + 1) u' ∧ Eqv (N + 1) (z :: al N u) (al N u' ++ [z])
  | [], _ => ⟨[], fun x hx => by simp at hx, .refl _⟩
  | x :: u, h => by
    obtain ⟨a, ha, h1⟩ := pass_one (h x (by simp)) hz
    obtain ⟨b, hb, h2⟩ := pass_al hz u (fun y hy => h y (by simp [hy]))
    refine ⟨a ++ b, ha.app hb, ?_⟩
    rw [al_cons, al_app]
    have t1 := h1.right (al N u)
    have t2 := h2.left (al N a)
    simp only [List.cons_append, List.append_assoc, List.nil_append] at t1 t2 ⊢
    exact t1.trans t2
theorem pass_word {N : Nat} : ∀ (v : List Int), Word N v → ∀ (u : List Int), Word (N + 1) u → ∃ u', Word (N + 1) u' ∧ Eqv (N + 1) (v ++ al N u) (al N u' ++ v)
  | [], _, u, h => ⟨u, h, by rw [List.append_nil, List.nil_append]; exact .refl _⟩
  | z :: v, hv, u, h => by
    obtain ⟨a, ha, h1⟩ := pass_word v (fun y hy => hv y (by simp [hy])) u h
    obtain ⟨b, hb, h2⟩ := pass_al (hv z (by simp)) a ha
    refine ⟨b, hb, ?_⟩
    have t1 := h1.cons z
    have t2 := h2.right v
    simp only [List.cons_append, List.append_assoc, List.nil_append] at t1 t2 ⊢
    exact t1.trans t2
/-- The last strand's place, after one more letter. -/
theorem comb_step {N d : Nat} {z : Int} (hd : d ≤ N) (hz : Letter (N + 1) z) : ∃ u v e, e ≤ N ∧ Word (N + 1) u ∧ Word N v ∧ Eqv (N + 1) (tau N d ++ [z]) (al N u ++ (v ++ tau N e)) := by
  obtain ⟨z0, z1, z2⟩ := hz
  have hzl : Letter (N + 1) z := ⟨z0, z1, z2⟩
  have nil : ∀ m, Word m ([] : List Int) := fun m x hx => by simp at hx
  by_cases c1 : (z.natAbs : Int) < (N : Int) - d
  · exact ⟨[], [z], d, hd, nil _, Word.one ⟨z0, by omega, by omega⟩, (tau_lo c1).symm⟩
  by_cases c2 : (N : Int) - d + 1 < z.natAbs
  · by_cases hp : 0 < z
    · refine ⟨[], [z - 1], d, hd, nil _, Word.one ⟨by omega, by omega, by omega⟩, ?_⟩
      exact (tau_hi hd (by omega) (by omega)).symm
    · refine ⟨[], [z + 1], d, hd, nil _, Word.one ⟨by omega, by omega, by omega⟩, ?_⟩
      have := tau_hi (N := N) (d := d) (m := -z) hd (by omega) (by omega)
      have h2 := pass_neg ⟨by omega, by omega, by omega⟩ ⟨by omega, by omega, by omega⟩ this
      rw [show -(-z - 1) = z + 1 by omega, Int.neg_neg] at h2
      exact h2.symm
  by_cases c3 : (z.natAbs : Int) = (N : Int) - d
  · have hdN : d + 1 ≤ N := by omega
    by_cases hp : 0 < z
    · obtain rfl : z = (N : Int) - d := by omega
      exact ⟨[], [], d + 1, hdN, nil _, nil _, .refl _⟩
    · obtain rfl : z = -((N : Int) - d) := by omega
      have hl : Letter (N + 1) ((N : Int) - d) := ⟨by omega, by omega, by omega⟩
      refine ⟨[-((N - d : Nat) : Int)], [], d + 1, hdN, Word.one ⟨by omega, by omega, by omega⟩, nil _, ?_⟩
      rw [al_cons, al_nil, List.append_nil, al1_neg]
      unfold Aw
      rw [show N - (N - d) = d by omega, show ((N - d : Nat) : Int) = (N : Int) - d by omega]
      have tw := tau_word (N := N) (d := d) (by omega)
      show Eqv (N + 1) _ (_ ++ ([] ++ (tau N d ++ [(N : Int) - d])))
      generalize tau N d = t at *
      generalize (N : Int) - d = m at *
      have t1 := ((canc_l t tw).right [m]).left (t ++ [-m, -m])
      have t2 := Eqv.canc (n := N + 1) (t ++ [-m]) [] hl.neg
      simp only [inv_app, inv_cons, inv_inv, List.cons_append, List.append_assoc, List.nil_append, List.append_nil, Int.neg_neg] at t1 t2 ⊢
      exact (t1.trans t2).symm
  · obtain ⟨c, rfl⟩ : ∃ c, d = c + 1 := ⟨d - 1, by omega⟩
    have hl : Letter (N + 1) ((N : Int) - c) := ⟨by omega, by omega, by omega⟩
    by_cases hp : 0 < z
    · obtain rfl : z = (N : Int) - c := by omega
      refine ⟨[((N - c : Nat) : Int)], [], c, by omega, Word.one ⟨by omega, by omega, by omega⟩, nil _, ?_⟩
      rw [al_cons, al_nil, List.append_nil, al1_pos N _ (by omega)]
      unfold Aw
      rw [show N - (N - c) = c by omega, show ((N - c : Nat) : Int) = (N : Int) - c by omega]
      have tw := tau_word (N := N) (d := c) (by omega)
      show Eqv (N + 1) (tau N c ++ [(N : Int) - c] ++ _) _
      generalize tau N c = t at *
      generalize (N : Int) - c = m at *
      have t1 := (canc_l t tw).left (t ++ [m, m])
      simp only [List.cons_append, List.append_assoc, List.nil_append, List.append_nil] at t1 ⊢
      exact t1.symm
    · obtain rfl : z = -((N : Int) - c) := by omega
      refine ⟨[], [], c, by omega, nil _, nil _, ?_⟩
      have t1 := Eqv.canc (n := N + 1) (tau N c) [] hl
      show Eqv (N + 1) (tau N c ++ [(N : Int) - c] ++ _) _
      simp only [al_nil, List.cons_append, List.append_assoc, List.nil_append, List.append_nil] at t1 ⊢
      exact t1
theorem comb {N : Nat} (w : List Int) : Word (N + 1) w → ∃ u v d, d ≤ N ∧ Word (N + 1) u ∧ Word N v ∧ Eqv (N + 1) w (al N u ++ (v ++ tau N d)) := by
  induction w using snoc_ind with
  | h0 => exact fun _ => ⟨[], [], 0, Nat.zero_le _, fun x hx => by simp at hx, fun x hx => by simp at hx, .refl _⟩
  | h1 w z ih =>
    intro hw
    obtain ⟨u, v, d, hd, hu, hv, h⟩ := ih (fun x hx => hw x (by simp [hx]))
    obtain ⟨u1, v1, e, he, hu1, hv1, h1⟩ := comb_step hd (hw z (by simp))
    obtain ⟨u2, hu2, h2⟩ := pass_word v hv u1 hu1
    refine ⟨u ++ u2, v ++ v1, e, he, hu.app hu2, hv.app hv1, ?_⟩
    have t1 := h.right [z]
    have t2 := h1.left (al N u ++ v)
    have t3 := (h2.right (v1 ++ tau N e)).left (al N u)
    rw [al_app]
    simp only [List.append_assoc] at t1 t2 t3 ⊢
    exact t1.trans (t2.trans t3)
end Go.Proofs.Ytnfppebcpagjpaa
