/- Plain facts for the laws of shortest steps, of reduced lattices, of kept distances and of moves. -/
import Derived.Test.YtehpgmhilcoalaaDoorHG
import Derived.Test.YtehpgmhilcoalaaDoorGZ
import Derived.Test.YtehpgmhilcoalaaDoorHA
import Derived.Test.YtehpgmhilcoalaaDoorHB
namespace Go.Proofs.YtehpgmhilcoalaaDoor
open Go.RowKit
/-! Images. -/
theorem prod_image (l : Lat) (m : Mat) (s t : Pt) : prod l (image m s) (image m t) = prod (led l m) s t := by
  simp only [prod, image, led]; grind
theorem cross_image (m : Mat) (s t : Pt) : crossP (image m s) (image m t) = m.det * crossP s t := by
  simp only [crossP, image, Mat.det]; grind
theorem image_times (m n : Mat) (p : Pt) : image (m.times n) p = image m (image n p) := by
  simp only [image, Mat.times, Pt.mk.injEq]
  refine ⟨?_, ?_⟩ <;> grind
theorem image_one (p : Pt) : image Mat.one p = p := by simp [image, Mat.one]
theorem image_inv {m : Mat} (h : Unit1 m) (p : Pt) : image m (image m.inv p) = p := by
  rw [← image_times, times_inv h, image_one]
theorem inv_image {m : Mat} (h : Unit1 m) (p : Pt) : image m.inv (image m p) = p := by
  rw [← image_times, inv_times h, image_one]
theorem image_zero (m : Mat) : image m ⟨0, 0⟩ = ⟨0, 0⟩ := by simp [image]
/-- No step is shorter than the first one of the reduced lattice, none off it shorter than the second one. -/
theorem short_first {l L : Lat} {m : Mat} (hr : Red L) (u : Unit1 m) (e : led l m = L) {p : Pt} (hp : p ≠ ⟨0, 0⟩) : L.a ≤ prod l p p := by
  have h := prod_image l m (image m.inv p) (image m.inv p)
  rw [image_inv u, e] at h
  rw [h]
  refine red_first hr fun h0 => hp ?_
  rw [← image_inv u p, h0, image_zero]
theorem short_second {l L : Lat} {m : Mat} (hr : Red L) (u : Unit1 m) (e : led l m = L) {p : Pt} (hp : crossP p ⟨m.a, m.c⟩ ≠ 0) : L.c ≤ prod l p p := by
  have h := prod_image l m (image m.inv p) (image m.inv p)
  rw [image_inv u, e] at h
  rw [h]
  refine red_second hr fun h0 => hp ?_
  have e1 : (⟨m.a, m.c⟩ : Pt) = image m ⟨1, 0⟩ := by simp [image]
  have e2 : p = image m (image m.inv p) := (image_inv u p).symm
  rw [e1, e2, cross_image]
  have : crossP (image m.inv p) ⟨1, 0⟩ = 0 := by
    simp only [crossP, h0]; omega
  rw [this, Int.mul_zero]
/-- Two lattices, of which one leads to the other one, have the same reduced lattice. -/
theorem red_same {l L S : Lat} {m x y : Mat} (hL : Red L) (hS : Red S) (um : Unit1 m) (ux : Unit1 x) (uy : Unit1 y) (eL : led l x = L) (eS : led (led l m) y = S) : S = L := by
  have h1 : led L (x.inv.times (m.times y)) = S := by
    rw [← eL, ← led_times, ← times_assoc, times_inv ux, one_times, led_times, eS]
  exact (red_unique hL hS (unit_times (unit_inv ux) (unit_times um uy)) h1).symm
/-- The remainders of the laws. -/
theorem near_rng (x : Int) : -10 ≤ x.tmod 11 ∧ x.tmod 11 ≤ 10 := by
  have h1 := Int.tmod_lt_of_pos x (show (0 : Int) < 11 by omega)
  have h2 := Int.lt_tmod_of_pos x (show (0 : Int) < 11 by omega)
  omega
theorem thou_rng (x : Int) : -1000 ≤ x.tmod 1001 ∧ x.tmod 1001 ≤ 1000 := by
  have h1 := Int.tmod_lt_of_pos x (show (0 : Int) < 1001 by omega)
  have h2 := Int.lt_tmod_of_pos x (show (0 : Int) < 1001 by omega)
  omega
theorem four_rng (x : Int) : -3 ≤ x.tmod 4 ∧ x.tmod 4 ≤ 3 := by
  have h1 := Int.tmod_lt_of_pos x (show (0 : Int) < 4 by omega)
  have h2 := Int.lt_tmod_of_pos x (show (0 : Int) < 4 by omega)
  omega
theorem gram_mod {x : Int} (h : -10000 ≤ x ∧ x ≤ 10000) : x.tmod 10001 = x := by
  rcases Int.le_total 0 x with h0 | h0
  · exact Int.tmod_eq_of_lt h0 (by omega)
  · have h1 : (-x).tmod 10001 = -x := Int.tmod_eq_of_lt (by omega) (by omega)
    rw [Int.neg_tmod] at h1; omega
/-! Bounds. -/
theorem prod_id {l : Lat} (hl : Ok l) {s t : Pt} (hs : Sm s) (ht : Sm t) : wrap64 (prod l s t) = prod l s t := by
  obtain ⟨h1, h2, h3, h4, h5, h6, h7⟩ := hl
  have a1 := mul_bound (a := l.a) (b := s.x) (A := 10000) (B := 2000000) ⟨by omega, by omega⟩ hs.1
  have a2 := mul_bound (a := l.a * s.x) (b := t.x) a1 ht.1
  have b1 := mul_bound hs.1 ht.2
  have b2 := mul_bound hs.2 ht.1
  have b3 := mul_bound (a := l.b) (b := s.x * t.y + s.y * t.x) (A := 10000) (B := 8000000000000) ⟨by omega, by omega⟩ ⟨by omega, by omega⟩
  have c1 := mul_bound (a := l.c) (b := s.y) (A := 10000) (B := 2000000) ⟨by omega, by omega⟩ hs.2
  have c2 := mul_bound (a := l.c * s.y) (b := t.y) c1 ht.2
  exact wrap64_id (by unfold prod; omega)
/-- The lattice of a small matrix. -/
theorem led_mok {l : Lat} (hl : Ok l) {m : Mat} (hm : Mok m) : (led l m).w = led l m := by
  obtain ⟨ha, hb, hc, hd⟩ := hm
  have s1 : Sm ⟨m.a, m.c⟩ := ⟨by dsimp only; omega, by dsimp only; omega⟩
  have s2 : Sm ⟨m.b, m.d⟩ := ⟨by dsimp only; omega, by dsimp only; omega⟩
  simp only [Lat.w, led, prod_id hl s1 s1, prod_id hl s1 s2, prod_id hl s2 s2]
theorem cmpI_sign {d z : Int} (h : d = 1 ∨ d = -1) : cmpI (d * z) 0 = d * cmpI z 0 := by
  rcases h with rfl | rfl
  · rw [Int.one_mul, Int.one_mul]
  · unfold cmpI; split <;> (try split) <;> (try split) <;> (try split) <;> omega
theorem det_mok {m : Mat} (h : Mok m) : wrap64 m.det = m.det := by
  obtain ⟨ha, hb, hc, hd⟩ := h
  have e1 := mul_bound ha hd
  have e2 := mul_bound hb hc
  exact wrap64_id (by unfold Mat.det; omega)
theorem unit_keeps {l : Lat} (hl : Ok l) {m : Mat} (e : led l m = l) : Unit1 m := unit_of_led hl.2.2.2.2.2.2 rfl e
theorem keep_ok {l : Lat} (hl : Ok l) {m : Mat} (e : led l m = l) : Mok m := lead_ok hl ⟨hl.2.1, hl.2.2.2.2.2.1⟩ e
theorem inv_w {m : Mat} (h : Mok m) (u : Unit1 m) : m.inv.w = m.inv := mok_w (inv_ok h u)
/-! Moves. -/
def Mov.w (m : Mov) : Mov := ⟨m.m.w, m.t.w⟩
def comp (m n : Mov) : Mov := ⟨m.m.times n.m, appl m n.t⟩
def back (m : Mov) : Mov := ⟨m.m.inv, ⟨-(image m.m.inv m.t).x, -(image m.m.inv m.t).y⟩⟩
theorem appl_back {m : Mov} (u : Unit1 m.m) (p : Pt) : appl (back m) (appl m p) = p := by
  have h := inv_image u p
  have h2 : ∀ s t : Pt, image m.m.inv ⟨s.x + t.x, s.y + t.y⟩ = ⟨(image m.m.inv s).x + (image m.m.inv t).x, (image m.m.inv s).y + (image m.m.inv t).y⟩ := fun s t => by
    simp only [image, Pt.mk.injEq]; refine ⟨?_, ?_⟩ <;> grind
  have h3 : appl m p = ⟨(image m.m p).x + m.t.x, (image m.m p).y + m.t.y⟩ := rfl
  have h4 : ∀ q : Pt, appl (back m) q = ⟨(image m.m.inv q).x + -(image m.m.inv m.t).x, (image m.m.inv q).y + -(image m.m.inv m.t).y⟩ := fun q => rfl
  rw [h4, h3, h2, h]
  cases p
  simp only [Pt.mk.injEq]
  omega
theorem appl_comp (m n : Mov) (p : Pt) : appl (comp m n) p = appl m (appl n p) := by
  simp only [appl, comp, Mat.times, Pt.mk.injEq]
  refine ⟨?_, ?_⟩ <;> grind
theorem comp_assoc (m n o : Mov) : comp (comp m n) o = comp m (comp n o) := by
  simp only [comp, Mov.mk.injEq, appl, Mat.times, Mat.mk.injEq, Pt.mk.injEq]
  refine ⟨⟨?_, ?_, ?_, ?_⟩, ?_, ?_⟩ <;> grind
theorem mulsum_rng {a b x y : Int} {A B : Int} (ha : -A ≤ a ∧ a ≤ A) (hb : -A ≤ b ∧ b ≤ A) (hx : -B ≤ x ∧ x ≤ B) (hy : -B ≤ y ∧ y ≤ B) : -(2 * (A * B)) ≤ a * x + b * y ∧ a * x + b * y ≤ 2 * (A * B) := by
  have e1 := mul_bound ha hx
  have e2 := mul_bound hb hy
  omega
theorem okV_iff (m : Mov) : okV m = true ↔ Mok m.m ∧ okP m.t = true := by
  unfold okV; rw [Bool.and_eq_true, okM_iff]
theorem appl_w {m : Mov} {p : Pt} (hm : okV m = true) (hp : okP p = true) : (appl m p).w = appl m p := by
  obtain ⟨⟨ha, hb, hc, hd⟩, ht⟩ := (okV_iff m).1 hm
  rw [okP_iff] at ht hp
  have e1 := mulsum_rng ha hb hp.1 hp.2
  have e2 := mulsum_rng hc hd hp.1 hp.2
  simp only [Pt.w, appl, Pt.mk.injEq]
  exact ⟨wrap64_id (by omega), wrap64_id (by omega)⟩
theorem timesm_w {m n : Mat} (hm : Mok m) (hn : Mok n) : (m.times n).w = m.times n := times_w hm hn
theorem comp_w {m n : Mov} (hm : okV m = true) (hn : okV n = true) : (comp m n).w = comp m n := by
  have h1 := times_w ((okV_iff m).1 hm).1 ((okV_iff n).1 hn).1
  have h2 := appl_w hm ((okV_iff n).1 hn).2
  simp only [Mov.w, comp, h1, h2]
theorem image_rng {m : Mat} (hm : Mok m) {p : Pt} (hp : okP p = true) : (-20000000000 ≤ (image m p).x ∧ (image m p).x ≤ 20000000000) ∧ -20000000000 ≤ (image m p).y ∧ (image m p).y ≤ 20000000000 := by
  obtain ⟨ha, hb, hc, hd⟩ := hm
  rw [okP_iff] at hp
  have e1 := mulsum_rng ha hb hp.1 hp.2
  have e2 := mulsum_rng hc hd hp.1 hp.2
  simp only [image]
  omega
theorem inv_back {m : Mov} (hm : okV m = true) (u : Unit1 m.m) : (back m).w = back m := by
  have h1 := inv_ok ((okV_iff m).1 hm).1 u
  have h2 := image_rng h1 ((okV_iff m).1 hm).2
  simp only [Mov.w, back, mok_w h1, Pt.w, Mov.mk.injEq, true_and, Pt.mk.injEq]
  exact ⟨wrap64_id (by omega), wrap64_id (by omega)⟩
end Go.Proofs.YtehpgmhilcoalaaDoor
