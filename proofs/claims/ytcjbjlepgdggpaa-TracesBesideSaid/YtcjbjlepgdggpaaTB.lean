/- IndexFunc and DeleteFunc at edges. -/
import Derived.Test.YtcjbjlepgdggpaaTA
import Derived.Lib.SliceRun
namespace Go.Proofs.Ytcjbjlepgdggpaa
open Go.RowKit Go.Shelf Go.Lib
set_option linter.unusedSimpArgs false
theorem infoEd4 : (Try.prog.info? 76).map (·.size) = some 4 := by kernel_rfl
theorem below_setCellsE {B : Nat} {a w : World} (h : Below B a w) {b : Nat} (hb : B ≤ b) (o : Nat) : ∀ (vs : List Value), Below B a (w.setCells b o vs) := by
  intro vs
  induction vs generalizing w o with
  | nil => exact h
  | cons v vs ih => exact ih (h.setCell (p := ⟨b, o, none⟩) hb v) (o + 1)
set_option maxHeartbeats 1000000 in
set_option maxRecDepth 100000 in
theorem indexE_any (X : List Ed) (g cap : Nat) (w : World) (hg : g < w.heap.size) (hX : ER w g X) (hl : X.length ≤ 10000) :
    Calls Try.prog 81 #[.slice (some ⟨g, 0, none⟩) X.length cap, .func (.func 68) #[] #[]] w fun e w' => ∃ z : Int, e = .returned (.int .i64 z) ∧ ((z = -1 ∧ ∀ x ∈ X, outB x = false) ∨ ∃ i : Nat, z = (i : Int) ∧ i < X.length ∧ (∀ x ∈ X.take i, outB x = false) ∧ ∀ x, X[i]? = some x → outB x = true) ∧ Below w.heap.size w w' := by
  have HX := Lib.hid hX
  clear hX
  go_enter Try.func81, Try.ntmps81
  go_wp2_with fail
  go_loopw [8] (fun i wr => ∃ k : Nat, k ≤ X.length ∧ i = .int .i64 k ∧ (∀ x ∈ X.take k, outB x = false) ∧ Below w.heap.size w wr) (fun i _ => X.length - (intOf i).toNat)
  case atStart => exact ⟨0, Nat.zero_le _, rfl, (fun x hx => by simp at hx), Below.refl _ _⟩
  case round =>
    obtain ⟨k, hk, rfl, hall, hbw⟩ := hrel
    have Hall := Lib.hid hall
    have HB := Lib.hid hbw
    clear hall
    by_cases hkl : k < X.length
    · obtain ⟨x, hx⟩ : ∃ x, X[k]? = some x := ⟨_, List.getElem?_eq_getElem hkl⟩
      have hr := (HX.out.below hg hbw).range hx
      have CA := Lib.hid (fun W => outB_any x W)
      have j0 : (0 : Int) ≤ (k : Int) := by omega
      have j1 : (k : Int) < (X.length : Int) := by omega
      have Hx := Lib.hid hx
      unfold Ed.cs at hr
      clear hbw hx
      by_cases hi : outB x = true
      · rw [hi] at CA
        have Hi := Lib.hid hi
        clear hi
        go_wp2_with (refine wpList_load_mid rfl 76 (.tmp 14) rfl g (k * 4) rfl [.int .i64 x.fr, .int .i64 x.out, .int .i64 x.to, .int .i64 x.inn] _ hr Try.underlying76 rfl infoEd4 ?_)
        refine (CA.out wr).mono ?_
        rintro e w1 ⟨rfl, B1⟩
        have HB1 := Lib.hid (bon HB.out B1)
        clear B1
        go_wp2_with fail
        go_ret
        exact ⟨_, rfl, .inr ⟨k, rfl, hkl, Hall.out, fun y hy => by rw [Hx.out] at hy; cases hy; exact Hi.out⟩, HB1.out⟩
      · have hi' : outB x = false := by simpa using hi
        rw [hi'] at CA
        have Hi := Lib.hid hi'
        clear hi hi'
        go_wp2_with (refine wpList_load_mid rfl 76 (.tmp 14) rfl g (k * 4) rfl [.int .i64 x.fr, .int .i64 x.out, .int .i64 x.to, .int .i64 x.inn] _ hr Try.underlying76 rfl infoEd4 ?_)
        refine (CA.out wr).mono ?_
        rintro e w1 ⟨rfl, B1⟩
        have HB1 := Lib.hid (bon HB.out B1)
        clear B1
        go_wp2_with fail
        go_roundw
        case rel => exact ⟨k + 1, hkl, by go_num, (fun y hy => by
          rw [List.take_add_one, Hx.out] at hy
          rcases List.mem_append.1 hy with hy | hy
          · exact Hall.out y hy
          · simp at hy; subst hy; exact Hi.out), HB1.out⟩
        case measure => (simp [intOf] <;> omega)
    · have j1 : ¬ (k : Int) < (X.length : Int) := by omega
      have e : k = X.length := by omega
      subst e
      rw [List.take_length] at Hall
      go_wp2_with fail
      go_ret
      exact ⟨_, rfl, .inl ⟨rfl, Hall.out⟩, HB.out⟩
/-- The edges that stay. -/
def keepE (X : List Ed) : List Ed := X.filter fun e => !outB e
theorem er_set {w : World} {g i : Nat} {L : List Ed} (h : ER w g L) (x : Ed) : ER ((((w.setCell ⟨g, i * 4, none⟩ (.int .i64 x.fr)).setCell ⟨g, i * 4 + 1, none⟩ (.int .i64 x.out)).setCell ⟨g, i * 4 + 2, none⟩ (.int .i64 x.to)).setCell ⟨g, i * 4 + 3, none⟩ (.int .i64 x.inn)) g (L.set i x) := by
  intro k y hy j u hu
  have hk := (List.getElem?_eq_some_iff.1 hy).1
  rw [List.length_set] at hk
  have hj := (List.getElem?_eq_some_iff.1 hu).1
  have hj4 : j < 4 := by simpa [Ed.cs] using hj
  obtain ⟨y0, hy0⟩ : ∃ y0, L[k]? = some y0 := ⟨_, List.getElem?_eq_getElem hk⟩
  have g0 : ∀ j, j < 4 → ∃ u0, y0.cs[j]? = some u0 := fun j hj => ⟨_, List.getElem?_eq_getElem (by simpa [Ed.cs] using hj)⟩
  have hc : ∀ j, j < 4 → ∃ u0, w.cell? ⟨g, k * 4 + j, none⟩ = some u0 ∧ w.frozen? ⟨g, k * 4 + j, none⟩ = false := fun j hj => by
    obtain ⟨u0, hu0⟩ := g0 j hj
    exact ⟨u0, h k y0 hy0 j u0 hu0⟩
  refine ⟨?_, by simp only [World.frozen?_setCell]; obtain ⟨_, _, h2⟩ := hc j hj4; exact h2⟩
  by_cases e : i = k
  · subst e
    rw [List.getElem?_set, if_pos rfl, if_pos hk] at hy
    cases hy
    have c0 := hc 0 (by omega)
    have c1 := hc 1 (by omega)
    have c2 := hc 2 (by omega)
    have c3 := hc 3 (by omega)
    obtain ⟨u0, c0, _⟩ := c0
    obtain ⟨u1, c1, _⟩ := c1
    obtain ⟨u2, c2, _⟩ := c2
    obtain ⟨u3, c3, _⟩ := c3
    have ne : ∀ {a b : Nat}, a ≠ b → (⟨g, i * 4 + a, none⟩ : Addr) ≠ ⟨g, i * 4 + b, none⟩ := fun h e => h (by injection e with _ e2; omega)
    have ne0 : ∀ {b : Nat}, 0 ≠ b → (⟨g, i * 4, none⟩ : Addr) ≠ ⟨g, i * 4 + b, none⟩ := fun h e => h (by injection e with _ e2; omega)
    have ne1 : ∀ {b : Nat}, b ≠ 0 → (⟨g, i * 4 + b, none⟩ : Addr) ≠ ⟨g, i * 4, none⟩ := fun h e => h (by injection e with _ e2; omega)
    rw [show i * 4 + 0 = i * 4 by omega] at c0
    match j, hj4, hu with
    | 0, _, hu =>
      cases hu
      rw [show i * 4 + 0 = i * 4 by omega, World.cell?_setCell_other _ _ _ _ (ne1 (by omega)), World.cell?_setCell_other _ _ _ _ (ne1 (by omega)), World.cell?_setCell_other _ _ _ _ (ne1 (by omega))]
      exact World.cell?_setCell_same _ _ _ c0
    | 1, _, hu =>
      cases hu
      rw [World.cell?_setCell_other _ _ _ _ (ne (by omega)), World.cell?_setCell_other _ _ _ _ (ne (by omega))]
      exact World.cell?_setCell_same _ _ _ ((World.cell?_setCell_other _ _ _ _ (ne0 (by omega))).trans c1)
    | 2, _, hu =>
      cases hu
      rw [World.cell?_setCell_other _ _ _ _ (ne (by omega))]
      exact World.cell?_setCell_same _ _ _ (((World.cell?_setCell_other _ _ _ _ (ne (by omega))).trans (World.cell?_setCell_other _ _ _ _ (ne0 (by omega)))).trans c2)
    | 3, _, hu =>
      cases hu
      exact World.cell?_setCell_same _ _ _ ((((World.cell?_setCell_other _ _ _ _ (ne (by omega))).trans (World.cell?_setCell_other _ _ _ _ (ne (by omega)))).trans (World.cell?_setCell_other _ _ _ _ (ne0 (by omega)))).trans c3)
  · rw [List.getElem?_set, if_neg e] at hy
    have hh := (h k y hy j u hu).1
    have nf : ∀ a, a < 4 → (⟨g, i * 4 + a, none⟩ : Addr) ≠ ⟨g, k * 4 + j, none⟩ := fun a ha e2 => by injection e2 with _ e3; omega
    have nf0 : (⟨g, i * 4, none⟩ : Addr) ≠ ⟨g, k * 4 + j, none⟩ := fun e2 => by injection e2 with _ e3; omega
    rw [World.cell?_setCell_other _ _ _ _ (nf 3 (by omega)), World.cell?_setCell_other _ _ _ _ (nf 2 (by omega)), World.cell?_setCell_other _ _ _ _ (nf 1 (by omega)), World.cell?_setCell_other _ _ _ _ nf0]
    exact hh
end Go.Proofs.Ytcjbjlepgdggpaa
