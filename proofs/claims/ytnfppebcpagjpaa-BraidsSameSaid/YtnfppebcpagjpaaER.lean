/- The reference's Same and Trivial, and the law of equal braids, walked. -/
import Derived.Test.YtnfppebcpagjpaaEQ
import Derived.Test.YtnfppebcpagjpaaCL
namespace Go.Proofs.Ytnfppebcpagjpaa
open Go.RowKit Go.Lib
theorem ints_inj2 {n : Nat} {x y : Pm} (hx : x.In n) (hy : y.In n) (h : ints n x = ints n y) : x = y := Pm.ext' fun j => by
  by_cases hj : j < n
  · have := (ints_get x hj).symm.trans ((congrArg (·[j]?) h).trans (ints_get y hj))
    have := Option.some.inj this
    omega
  · rw [hx j (by omega), hy j (by omega)]
theorem map_ints_inj2 {n : Nat} : ∀ {X Y : List Pm}, (∀ x ∈ X, x.In n) → (∀ y ∈ Y, y.In n) → X.map (ints n) = Y.map (ints n) → X = Y
  | [], [], _, _, _ => rfl
  | [], _ :: _, _, _, h => by cases h
  | _ :: _, [], _, _, h => by cases h
  | x :: X, y :: Y, hX, hY, h => by
    simp only [List.map_cons, List.cons.injEq] at h
    rw [ints_inj2 (hX x (by simp)) (hY y (by simp)) h.1, map_ints_inj2 (fun a ha => hX a (by simp [ha])) (fun a ha => hY a (by simp [ha])) h.2]
set_option maxHeartbeats 2000000 in
set_option maxRecDepth 100000 in
theorem refSame_any (n : Int) (xs ys : List Int) (u v : Value) (w : World) (hu : IS w u xs) (hv : IS w v ys) (r : Bool) (hr0 : bothV n xs ys ≠ 0 → r = false) (hr1 : bothV n xs ys = 0 → (r = true ↔ nf n.toNat xs = nf n.toNat ys)) :
    Calls Try.prog 37 #[.int .i64 n, u, v] w fun e w' => e = .returned (.tuple #[.bool r, .int .i64 (bothV n xs ys)]) ∧ Below w.heap.size w w' := by
  have Hu := Lib.hid hu
  have Hv := Lib.hid hv
  obtain ⟨sa, sc, rfl, h1, h2, _, hI⟩ := hu
  obtain ⟨sb, sd, rfl, k1, k2, _, kI⟩ := hv
  have CB := Lib.hid (refBoth_any n xs ys sa sb sc sd w h1 h2 k1 k2 hI kI)
  have hok := fun h => bothV_ok (n := n) (xs := xs) (ys := ys) h
  obtain ⟨c, hc⟩ : ∃ c, c = bothV n xs ys := ⟨_, rfl⟩
  rw [← hc] at CB hok hr0 hr1 ⊢
  have HO := Lib.hid hok
  clear hI kI hc hok
  by_cases q3 : c = 0
  · obtain ⟨hx, hy⟩ := HO.out q3
    obtain ⟨m, rfl, m1, m2, lx, wx⟩ := checkV_ok hx
    obtain ⟨_, _, _, _, ly, wy⟩ := checkV_ok hy
    rename_i m' hm' _ _
    obtain rfl : m = m' := by omega
    have hr := hr1 q3
    rw [Int.toNat_natCast] at hr
    subst q3
    have CX := Lib.hid (fun W h => refNormal_ok m m1 m2 xs lx wx (.slice sa xs.length sc) W h)
    have CY := Lib.hid (fun W h => refNormal_ok m m1 m2 ys ly wy (.slice sb ys.length sd) W h)
    have ix := (nf_le xs wx).2.2.2
    have iy := (nf_le ys wy).2.2.2
    obtain ⟨p, D, hpd⟩ : ∃ p D, nf m xs = (p, D) := ⟨_, _, rfl⟩
    obtain ⟨q, E, hqe⟩ : ∃ q E, nf m ys = (q, E) := ⟨_, _, rfl⟩
    rw [hpd] at CX ix hr
    rw [hqe] at CY iy hr
    dsimp only at CX CY ix iy
    have Hr := Lib.hid hr
    have Hix := Lib.hid ix
    have Hiy := Lib.hid iy
    clear hx hy hpd hqe ix iy wx wy hr0 hr1 hr HO hm'
    by_cases hpq : p = q
    · subst hpq
      have hr2 : r = true ↔ D.map (ints m) = E.map (ints m) := Hr.out.trans ⟨fun h => by cases h; rfl, fun h => by rw [map_ints_inj2 Hix.out Hiy.out h]⟩
      have Hr2 := Lib.hid hr2
      clear hr2
      go_enter Try.func37, Try.ntmps37
      go_wp2_with fail
      refine CB.out.mono ?_
      rintro e w1 ⟨rfl, B1⟩
      have HB1 := Lib.hid B1
      clear B1
      go_wp2_with fail
      refine (CX.out w1 (Hu.out.below HB1.out)).mono ?_
      rintro e w2 ⟨v2, rfl, F2, B2⟩
      have HF2 := Lib.hid F2
      have HB2 := Lib.hid (bon HB1.out B2)
      clear F2 B2
      go_wp2_with fail
      refine (CY.out w2 (Hv.out.below HB2.out)).mono ?_
      rintro e w3 ⟨v3, rfl, F3, B3⟩
      have HF3 := Lib.hid F3
      have HF2' := Lib.hid (HF2.out.below B3)
      have HB3 := Lib.hid (bon HB2.out B3)
      clear F3 B3
      go_wp2_with fail
      refine (sameForm_fs HF2'.out HF3.out r Hr2.out).mono ?_
      rintro e w4 ⟨rfl, B4⟩
      have HB4 := Lib.hid (bon HB3.out B4)
      clear B4
      go_wp2_with fail
      go_ret2
      exact ⟨rfl, HB4.out⟩
    · have hrf : r = false := by
        rcases r with _ | _
        · rfl
        · have := Hr.out.1 rfl
          cases this
          exact absurd rfl hpq
      subst hrf
      have hpb : (p == q) = false := by simpa using hpq
      go_enter Try.func37, Try.ntmps37
      go_wp2_with fail
      refine CB.out.mono ?_
      rintro e w1 ⟨rfl, B1⟩
      have HB1 := Lib.hid B1
      clear B1
      go_wp2_with fail
      refine (CX.out w1 (Hu.out.below HB1.out)).mono ?_
      rintro e w2 ⟨v2, rfl, F2, B2⟩
      have HB2 := Lib.hid (bon HB1.out B2)
      clear F2 B2
      go_wp2_with fail
      refine (CY.out w2 (Hv.out.below HB2.out)).mono ?_
      rintro e w3 ⟨v3, rfl, F3, B3⟩
      have HB3 := Lib.hid (bon HB2.out B3)
      clear F3 B3
      go_wp2_with fail
      go_ret2
      exact ⟨rfl, HB3.out⟩
  · have hrf := hr0 q3
    subst hrf
    clear HO hr1
    go_enter Try.func37, Try.ntmps37
    go_wp2_with fail
    refine CB.out.mono ?_
    rintro e w1 ⟨rfl, B1⟩
    go_wp2_with fail
    go_ret2
    exact ⟨rfl, B1⟩
set_option maxHeartbeats 400000 in
set_option maxRecDepth 100000 in
theorem refTrivial_any (n : Int) (xs : List Int) (u : Value) (w : World) (hu : IS w u xs) (r : Bool) (hr0 : bothV n xs [] ≠ 0 → r = false) (hr1 : bothV n xs [] = 0 → (r = true ↔ nf n.toNat xs = nf n.toNat [])) :
    Calls Try.prog 39 #[.int .i64 n, u] w fun e w' => e = .returned (.tuple #[.bool r, .int .i64 (bothV n xs [])]) ∧ Below w.heap.size w w' := by
  have C := Lib.hid (refSame_any n xs [] u (.slice none 0 0) w hu (is_nil w) r hr0 hr1)
  obtain ⟨v, hv⟩ : ∃ v, v = bothV n xs [] := ⟨_, rfl⟩
  rw [← hv] at C ⊢
  clear hv hr0 hr1
  go_enter Try.func39, Try.ntmps39
  go_wp2_with fail
  refine C.out.mono ?_
  rintro e w1 ⟨rfl, B1⟩
  go_wp2_with fail
  go_ret2
  exact ⟨rfl, B1⟩
set_option maxHeartbeats 1000000 in
set_option maxRecDepth 100000 in
theorem heavy2_any (sa : Option Addr) (n sc : Nat) (w : World) (r : Bool) (hr : r = true ↔ (120 < n ∧ n ≤ 400) ∨ 1000 < n) :
    Calls Try.prog 35 #[.slice sa n sc] w fun e w' => e = .returned (.bool r) ∧ w' = w := by
  have Hr := Lib.hid hr
  clear hr
  by_cases a : 120 < n
  · have a' : (120 : Int) < (n : Int) := by omega
    by_cases b : n ≤ 400
    · have b' : (n : Int) ≤ 400 := by omega
      have e : r = true := Hr.out.2 (.inl ⟨a, b⟩)
      subst e
      go_enter Try.func35, Try.ntmps35
      go_wp2_with fail
      go_ret
      exact ⟨rfl, rfl⟩
    · have b' : ¬ (n : Int) ≤ 400 := by omega
      by_cases c : 1000 < n
      · have c' : (1000 : Int) < (n : Int) := by omega
        have e : r = true := Hr.out.2 (.inr c)
        subst e
        go_enter Try.func35, Try.ntmps35
        go_wp2_with fail
        go_ret
        exact ⟨rfl, rfl⟩
      · have c' : ¬ (1000 : Int) < (n : Int) := by omega
        have e : r = false := by
          rcases r with _ | _
          · rfl
          · have := Hr.out.1 rfl; omega
        subst e
        go_enter Try.func35, Try.ntmps35
        go_wp2_with fail
        go_ret
        exact ⟨rfl, rfl⟩
  · have a' : ¬ (120 : Int) < (n : Int) := by omega
    have c' : ¬ (1000 : Int) < (n : Int) := by omega
    have e : r = false := by
      rcases r with _ | _
      · rfl
      · have := Hr.out.1 rfl; omega
    subst e
    go_enter Try.func35, Try.ntmps35
    go_wp2_with fail
    go_ret
    exact ⟨rfl, rfl⟩
set_option maxHeartbeats 2000000 in
set_option maxRecDepth 100000 in
theorem same_row (n : Int) (xs ys : List Int) (u v : Value) (w : World) (_ : (Lit.int .i64 n).wf = true) (hu : IS w u xs) (_ : ∀ z ∈ xs, -9223372036854775808 ≤ z ∧ z ≤ 9223372036854775807) (hv : IS w v ys) (_ : ∀ z ∈ ys, -9223372036854775808 ≤ z ∧ z ≤ 9223372036854775807) :
    Calls Try.prog 6 #[.int .i64 n, u, v] w fun e w' => e = .returned (.bool true) ∧ Below w.heap.size w w' := by
  have Hu := Lib.hid hu
  have Hv := Lib.hid hv
  obtain ⟨sa, sc, rfl, h1, h2, _, hI⟩ := hu
  obtain ⟨sb, sd, rfl, k1, k2, _, kI⟩ := hv
  by_cases hx : (120 < xs.length ∧ xs.length ≤ 400) ∨ 1000 < xs.length
  · have CH := Lib.hid (heavy2_any sa xs.length sc w true ⟨fun _ => hx, fun _ => rfl⟩)
    clear hI kI
    go_enter Try.func6, Try.ntmps6
    go_wp2_with fail
    refine CH.out.mono ?_
    rintro e w0 ⟨rfl, rfl⟩
    go_wp2_with fail
    refine (awake_any _).mono ?_
    rintro e w1 ⟨rfl, B1⟩
    go_wp2_with fail
    go_ret
    exact ⟨rfl, B1⟩
  · have CH := Lib.hid (heavy2_any sa xs.length sc w false ⟨fun h => (by cases h), fun h => absurd h hx⟩)
    by_cases hy : (120 < ys.length ∧ ys.length ≤ 400) ∨ 1000 < ys.length
    · have CG := Lib.hid (heavy2_any sb ys.length sd w true ⟨fun _ => hy, fun _ => rfl⟩)
      clear hI kI
      go_enter Try.func6, Try.ntmps6
      go_wp2_with fail
      refine CH.out.mono ?_
      rintro e w0 ⟨rfl, rfl⟩
      go_wp2_with fail
      refine CG.out.mono ?_
      rintro e w0 ⟨rfl, rfl⟩
      go_wp2_with fail
      refine (awake_any _).mono ?_
      rintro e w1 ⟨rfl, B1⟩
      go_wp2_with fail
      go_ret
      exact ⟨rfl, B1⟩
    · have CG := Lib.hid (heavy2_any sb ys.length sd w false ⟨fun h => (by cases h), fun h => absurd h hy⟩)
      obtain ⟨r, hr⟩ : ∃ r : Bool, r = true ↔ (bothV n xs ys = 0 ∧ nf n.toNat xs = nf n.toNat ys) := ⟨@decide _ (Classical.propDecidable _), @decide_eq_true_iff _ (Classical.propDecidable _)⟩
      obtain ⟨t, ht⟩ : ∃ t : Bool, t = true ↔ (bothV n xs [] = 0 ∧ nf n.toNat xs = nf n.toNat []) := ⟨@decide _ (Classical.propDecidable _), @decide_eq_true_iff _ (Classical.propDecidable _)⟩
      have r0 : bothV n xs ys ≠ 0 → r = false := fun h => by
        rcases r with _ | _
        · rfl
        · exact absurd (hr.1 rfl).1 h
      have r1 : bothV n xs ys = 0 → (r = true ↔ nf n.toNat xs = nf n.toNat ys) := fun h => ⟨fun e => (hr.1 e).2, fun e => hr.2 ⟨h, e⟩⟩
      have t0 : bothV n xs [] ≠ 0 → t = false := fun h => by
        rcases t with _ | _
        · rfl
        · exact absurd (ht.1 rfl).1 h
      have t1 : bothV n xs [] = 0 → (t = true ↔ nf n.toNat xs = nf n.toNat []) := fun h => ⟨fun e => (ht.1 e).2, fun e => ht.2 ⟨h, e⟩⟩
      have C1 := Lib.hid (Same_any n xs ys sa sb sc sd w h1 h2 k1 k2 hI kI r r0 r1)
      have C2 := Lib.hid (fun W a b => refSame_any n xs ys (.slice sa xs.length sc) (.slice sb ys.length sd) W a b r r0 r1)
      have C3 := Lib.hid (fun W a => Trivial_any n xs sa sc W h1 h2 a t t0 t1)
      have C4 := Lib.hid (fun W a => refTrivial_any n xs (.slice sa xs.length sc) W a t t0 t1)
      have HI := Lib.hid hI
      generalize bothV n xs ys = c at *
      generalize bothV n xs [] = d at *
      clear hI kI hr ht r0 r1 t0 t1 hx hy
      go_enter Try.func6, Try.ntmps6
      go_wp2_with fail
      refine CH.out.mono ?_
      rintro e w0 ⟨rfl, rfl⟩
      go_wp2_with fail
      refine CG.out.mono ?_
      rintro e w0 ⟨rfl, rfl⟩
      go_wp2_with fail
      refine C1.out.mono ?_
      rintro e w1 ⟨rfl, B1⟩
      have HB1 := Lib.hid B1
      clear B1
      go_wp2_with fail
      refine (C2.out w1 (Hu.out.below HB1.out) (Hv.out.below HB1.out)).mono ?_
      rintro e w2 ⟨rfl, B2⟩
      have HB2 := Lib.hid (bon HB1.out B2)
      clear B2
      go_wp2_with fail
      refine (C3.out w2 (HI.out.below HB2.out)).mono ?_
      rintro e w3 ⟨rfl, B3⟩
      have HB3 := Lib.hid (bon HB2.out B3)
      clear B3
      go_wp2_with fail
      refine (C4.out w3 (Hu.out.below HB3.out)).mono ?_
      rintro e w4 ⟨rfl, B4⟩
      have HB4 := Lib.hid (bon HB3.out B4)
      clear B4
      go_wp2_with fail
      refine (awake_any _).mono ?_
      rintro e w5 ⟨rfl, B5⟩
      go_wp2_with fail
      go_ret
      exact ⟨rfl, bon HB4.out B5⟩
end Go.Proofs.Ytnfppebcpagjpaa
