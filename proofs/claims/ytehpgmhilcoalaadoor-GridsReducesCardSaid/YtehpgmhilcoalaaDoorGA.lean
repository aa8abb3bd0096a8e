/- Lattices and matrices: plain mathematics. -/
import Derived.Test.YtehpgmhilcoalaaDoorRows
namespace Go.Proofs.YtehpgmhilcoalaaDoor
structure Lat where (a b c : Int)
  deriving DecidableEq
structure Pt where (x y : Int)
  deriving DecidableEq
structure Mat where (a b c d : Int)
  deriving DecidableEq
def prod (l : Lat) (s t : Pt) : Int := l.a * s.x * t.x + l.b * (s.x * t.y + s.y * t.x) + l.c * s.y * t.y
def Mat.times (m n : Mat) : Mat := ⟨m.a * n.a + m.b * n.c, m.a * n.b + m.b * n.d, m.c * n.a + m.d * n.c, m.c * n.b + m.d * n.d⟩
def Mat.det (m : Mat) : Int := m.a * m.d - m.b * m.c
def Mat.one : Mat := ⟨1, 0, 0, 1⟩
def Mat.inv (m : Mat) : Mat := ⟨m.det * m.d, -m.det * m.b, -m.det * m.c, m.det * m.a⟩
def led (l : Lat) (m : Mat) : Lat := ⟨prod l ⟨m.a, m.c⟩ ⟨m.a, m.c⟩, prod l ⟨m.a, m.c⟩ ⟨m.b, m.d⟩, prod l ⟨m.b, m.d⟩ ⟨m.b, m.d⟩⟩
def Lat.det (l : Lat) : Int := l.a * l.c - l.b * l.b
theorem led_times (l : Lat) (m n : Mat) : led l (m.times n) = led (led l m) n := by
  simp only [led, Mat.times, prod, Lat.mk.injEq]
  refine ⟨?_, ?_, ?_⟩ <;> grind
theorem times_assoc (m n o : Mat) : (m.times n).times o = m.times (n.times o) := by
  simp only [Mat.times, Mat.mk.injEq]
  refine ⟨?_, ?_, ?_, ?_⟩ <;> grind
theorem one_times (m : Mat) : Mat.one.times m = m := by simp [Mat.one, Mat.times]
theorem times_one (m : Mat) : m.times Mat.one = m := by simp [Mat.one, Mat.times]
theorem det_times (m n : Mat) : (m.times n).det = m.det * n.det := by simp only [Mat.det, Mat.times]; grind
theorem det_led (l : Lat) (m : Mat) : (led l m).det = m.det * m.det * l.det := by simp only [Mat.det, Lat.det, led, prod]; grind
theorem led_one (l : Lat) : led l Mat.one = l := by simp [led, Mat.one, prod]
def Unit1 (m : Mat) : Prop := m.det = 1 ∨ m.det = -1
theorem Unit1.sq {m : Mat} (h : Unit1 m) : m.det * m.det = 1 := by rcases h with h | h <;> rw [h] <;> rfl
theorem unit_of_sq {m : Mat} (h : m.det * m.det = 1) : Unit1 m := by
  have h1 : (m.det - 1) * (m.det + 1) = 0 := by grind
  rcases Int.mul_eq_zero.1 h1 with h | h
  · exact .inl (by omega)
  · exact .inr (by omega)
theorem times_inv {m : Mat} (h : Unit1 m) : m.times m.inv = Mat.one := by
  have := h.sq
  simp only [Mat.times, Mat.inv, Mat.one, Mat.mk.injEq]
  simp only [Mat.det] at this ⊢
  refine ⟨?_, ?_, ?_, ?_⟩ <;> grind
theorem inv_times {m : Mat} (h : Unit1 m) : m.inv.times m = Mat.one := by
  have := h.sq
  simp only [Mat.times, Mat.inv, Mat.one, Mat.mk.injEq]
  simp only [Mat.det] at this ⊢
  refine ⟨?_, ?_, ?_, ?_⟩ <;> grind
theorem unit_times {m n : Mat} (h : Unit1 m) (k : Unit1 n) : Unit1 (m.times n) := by
  rw [Unit1, det_times]
  rcases h with h | h <;> rcases k with k | k <;> rw [h, k] <;> decide
theorem det_inv {m : Mat} (h : Unit1 m) : m.inv.det = m.det := by
  have h2 := h.sq
  have h1 : m.inv.det = m.det * m.det * m.det := by simp only [Mat.det, Mat.inv]; grind
  rw [h1, h2]; omega
theorem unit_inv {m : Mat} (h : Unit1 m) : Unit1 m.inv := by
  rw [Unit1, det_inv h]; exact h
def Ok (l : Lat) : Prop := 1 ≤ l.a ∧ l.a ≤ 10000 ∧ -10000 ≤ l.b ∧ l.b ≤ 10000 ∧ 1 ≤ l.c ∧ l.c ≤ 10000 ∧ 1 ≤ l.a * l.c - l.b * l.b
def Red (l : Lat) : Prop := 0 ≤ l.b ∧ 2 * l.b ≤ l.a ∧ l.a ≤ l.c ∧ 1 ≤ l.a
theorem sq_nonneg (x : Int) : 0 ≤ x * x := by
  rcases Int.le_total 0 x with h | h
  · exact Int.mul_nonneg h h
  · have := Int.mul_nonneg (show 0 ≤ -x by omega) (show 0 ≤ -x by omega)
    rw [Int.neg_mul_neg] at this; exact this
theorem sq_ge {x k : Int} (hk : 0 ≤ k) (h : x ≤ -k ∨ k ≤ x) : k * k ≤ x * x := by
  rcases h with h | h
  · have h1 := Int.mul_nonneg (show 0 ≤ -x - k by omega) (show 0 ≤ -x + k by omega)
    have : (-x - k) * (-x + k) = x * x - k * k := by grind
    omega
  · have h1 := Int.mul_nonneg (show 0 ≤ x - k by omega) (show 0 ≤ x + k by omega)
    have : (x - k) * (x + k) = x * x - k * k := by grind
    omega
theorem abs_le_of_sq {x k : Int} (hk : 0 ≤ k) (h : x * x ≤ k * k) : -k ≤ x ∧ x ≤ k := by
  refine ⟨?_, ?_⟩
  · refine Int.not_lt.1 fun hx => ?_
    have := sq_ge (x := x) (k := k + 1) (by omega) (.inl (by omega))
    have : (k + 1) * (k + 1) = k * k + 2 * k + 1 := by grind
    omega
  · refine Int.not_lt.1 fun hx => ?_
    have := sq_ge (x := x) (k := k + 1) (by omega) (.inr (by omega))
    have : (k + 1) * (k + 1) = k * k + 2 * k + 1 := by grind
    omega
theorem le_mul_pos {d x : Int} (hd : 1 ≤ d) (hx : 0 ≤ x) : x ≤ d * x := by
  have := Int.mul_nonneg (show 0 ≤ d - 1 by omega) hx
  have : (d - 1) * x = d * x - x := by grind
  omega
/-- The numbers of a step that is not long. -/
theorem col_bound {l : Lat} {p : Pt} {K : Int} (ha : 1 ≤ l.a) (hd : 1 ≤ l.a * l.c - l.b * l.b) (hk : 0 ≤ K) (ka : l.a ≤ K) (kc : l.c ≤ K) (h : prod l p p ≤ K) : -K ≤ p.x ∧ p.x ≤ K ∧ -K ≤ p.y ∧ p.y ≤ K := by
  have e1 : l.a * prod l p p = (l.a * p.x + l.b * p.y) * (l.a * p.x + l.b * p.y) + (l.a * l.c - l.b * l.b) * (p.y * p.y) := by simp only [prod]; grind
  have e2 : l.c * prod l p p = (l.c * p.y + l.b * p.x) * (l.c * p.y + l.b * p.x) + (l.a * l.c - l.b * l.b) * (p.x * p.x) := by simp only [prod]; grind
  have h1 := sq_nonneg (l.a * p.x + l.b * p.y)
  have h2 := sq_nonneg (l.c * p.y + l.b * p.x)
  have h3 := le_mul_pos hd (sq_nonneg p.x)
  have h4 := le_mul_pos hd (sq_nonneg p.y)
  have h5 := sq_nonneg p.x
  have h6 := sq_nonneg p.y
  have hq : 0 ≤ prod l p p := by
    refine Int.not_lt.1 fun hn => ?_
    have := Int.mul_pos (show 0 < l.a by omega) (show 0 < - prod l p p by omega)
    have : l.a * - prod l p p = - (l.a * prod l p p) := by grind
    omega
  have b1 : l.a * prod l p p ≤ K * K := Int.mul_le_mul ka h hq hk
  have b2 : l.c * prod l p p ≤ K * K := Int.mul_le_mul kc h hq hk
  have c1 := abs_le_of_sq (x := p.x) (k := K) hk (by omega)
  have c2 := abs_le_of_sq (x := p.y) (k := K) hk (by omega)
  exact ⟨c1.1, c1.2, c2.1, c2.2⟩
theorem prod_pos {l : Lat} {p : Pt} (ha : 1 ≤ l.a) (hd : 1 ≤ l.a * l.c - l.b * l.b) (hp : p ≠ ⟨0, 0⟩) : 1 ≤ prod l p p := by
  have e1 : l.a * prod l p p = (l.a * p.x + l.b * p.y) * (l.a * p.x + l.b * p.y) + (l.a * l.c - l.b * l.b) * (p.y * p.y) := by simp only [prod]; grind
  have h1 := sq_nonneg (l.a * p.x + l.b * p.y)
  have h4 := le_mul_pos hd (sq_nonneg p.y)
  refine Int.not_lt.1 fun hn => ?_
  have h0 : l.a * prod l p p ≤ 0 := by
    have := Int.mul_nonneg (show 0 ≤ l.a by omega) (show 0 ≤ - prod l p p by omega)
    have : l.a * - prod l p p = - (l.a * prod l p p) := by grind
    omega
  have h6 := sq_nonneg p.y
  have y0 : p.y * p.y = 0 := by omega
  have y : p.y = 0 := by rcases Int.mul_eq_zero.1 y0 with h | h <;> exact h
  have x0 : (l.a * p.x) * (l.a * p.x) = 0 := by
    rw [y] at e1 h1; simp only [Int.mul_zero, Int.add_zero] at e1 h1; omega
  have x1 : l.a * p.x = 0 := by rcases Int.mul_eq_zero.1 x0 with h | h <;> exact h
  have x : p.x = 0 := by rcases Int.mul_eq_zero.1 x1 with h | h <;> omega
  exact hp (by cases p; simp_all)
/-- In a reduced lattice: a step off the first axis is at least as long as the second axis. -/
theorem red_second {l : Lat} (h : Red l) {p : Pt} (hy : p.y ≠ 0) : l.c ≤ prod l p p := by
  obtain ⟨h1, h2, h3, h4⟩ := h
  have e : prod l p p = l.a * (p.x * p.x) + 2 * l.b * (p.x * p.y) + l.c * (p.y * p.y) := by simp only [prod]; grind
  -- twice the product is at least minus the sum of the squares
  have k1 : -(2 * l.b * (p.x * p.y)) ≤ l.b * (p.x * p.x) + l.b * (p.y * p.y) := by
    have := Int.mul_nonneg h1 (sq_nonneg (p.x + p.y))
    have : l.b * ((p.x + p.y) * (p.x + p.y)) = l.b * (p.x * p.x) + l.b * (p.y * p.y) + 2 * l.b * (p.x * p.y) := by grind
    omega
  by_cases hv : p.y = 1 ∨ p.y = -1
  · -- then A x x + 2 B x y is not negative
    have hyy : p.y * p.y = 1 := by rcases hv with h | h <;> rw [h] <;> rfl
    have hx : 0 ≤ l.a * (p.x * p.x) + 2 * l.b * (p.x * p.y) := by
      have q1 : 2 * l.b * (p.x * p.y) = (2 * l.b) * (p.x * p.y) := rfl
      have q2 : 0 ≤ p.x * p.x + p.x * p.y := by
        rcases hv with h | h <;> rw [h]
        · rcases Int.le_total 0 p.x with g | g
          · have := sq_nonneg p.x; omega
          · rcases Int.lt_or_eq_of_le g with g | g
            · have := Int.mul_nonneg (show 0 ≤ -p.x by omega) (show 0 ≤ -p.x - 1 by omega)
              have : -p.x * (-p.x - 1) = p.x * p.x + p.x * 1 := by grind
              omega
            · rw [g]; decide
        · rcases Int.le_total p.x 0 with g | g
          · have := sq_nonneg p.x; omega
          · rcases Int.lt_or_eq_of_le g with g | g
            · have := Int.mul_nonneg (show 0 ≤ p.x by omega) (show 0 ≤ p.x - 1 by omega)
              have : p.x * (p.x - 1) = p.x * p.x + p.x * (-1) := by grind
              omega
            · rw [← g]; decide
      have q3 := Int.mul_nonneg (show 0 ≤ 2 * l.b by omega) q2
      have q4 := Int.mul_nonneg (show 0 ≤ l.a - 2 * l.b by omega) (sq_nonneg p.x)
      have q5 : 2 * l.b * (p.x * p.x + p.x * p.y) + (l.a - 2 * l.b) * (p.x * p.x) = l.a * (p.x * p.x) + 2 * l.b * (p.x * p.y) := by grind
      omega
    rw [hyy] at e; omega
  · have hyy : 4 ≤ p.y * p.y := sq_ge (k := 2) (by omega) (by omega)
    have q1 := Int.mul_nonneg (show 0 ≤ l.c by omega) (show 0 ≤ p.y * p.y - 4 by omega)
    have q0 : l.c * (p.y * p.y - 4) = l.c * (p.y * p.y) - 4 * l.c := by grind
    have q2 := Int.mul_nonneg (show 0 ≤ l.a - l.b by omega) (sq_nonneg p.x)
    have q3 : (l.a - l.b) * (p.x * p.x) = l.a * (p.x * p.x) - l.b * (p.x * p.x) := by grind
    have q4 := Int.mul_nonneg (show 0 ≤ l.c - 2 * l.b by omega) (show 0 ≤ p.y * p.y by omega)
    have q5 : (l.c - 2 * l.b) * (p.y * p.y) = l.c * (p.y * p.y) - 2 * (l.b * (p.y * p.y)) := by grind
    omega
theorem red_first {l : Lat} (h : Red l) {p : Pt} (hp : p ≠ ⟨0, 0⟩) : l.a ≤ prod l p p := by
  by_cases hy : p.y = 0
  · have hx : p.x ≠ 0 := fun hx => hp (by cases p; simp_all)
    have e : prod l p p = l.a * (p.x * p.x) := by simp only [prod, hy]; grind
    have h1 : 1 ≤ p.x * p.x := sq_ge (k := 1) (by omega) (by omega)
    have := Int.mul_nonneg (show 0 ≤ l.a by have := h.2.2.2; omega) (show 0 ≤ p.x * p.x - 1 by omega)
    have : l.a * (p.x * p.x - 1) = l.a * (p.x * p.x) - l.a := by grind
    omega
  · have := red_second h hy
    have := h.2.2.1
    omega
theorem red_det {l : Lat} (h : Red l) : 1 ≤ l.a * l.c - l.b * l.b := by
  obtain ⟨h1, h2, h3, h4⟩ := h
  have := Int.mul_nonneg (show 0 ≤ l.a by omega) (show 0 ≤ l.c - l.a by omega)
  have : l.a * (l.c - l.a) = l.a * l.c - l.a * l.a := by grind
  have := Int.mul_nonneg h1 (show 0 ≤ l.a - 2 * l.b by omega)
  have : l.b * (l.a - 2 * l.b) = l.a * l.b - 2 * (l.b * l.b) := by grind
  have := Int.mul_nonneg (show 0 ≤ l.a by omega) (show 0 ≤ l.a - 2 * l.b by omega)
  have : l.a * (l.a - 2 * l.b) = l.a * l.a - 2 * (l.a * l.b) := by grind
  have : 1 * 1 ≤ l.a * l.a := sq_ge (by omega) (by omega)
  have := sq_nonneg l.b
  omega
/-- One reduced lattice. -/
theorem red_le {r s : Lat} (hr : Red r) (hs : Red s) {m : Mat} (hm : Unit1 m) (e : led r m = s) : r.a ≤ s.a ∧ r.c ≤ s.c := by
  have ne1 : (⟨m.a, m.c⟩ : Pt) ≠ ⟨0, 0⟩ := fun h => by
    simp only [Pt.mk.injEq] at h
    rcases hm with k | k <;> rw [Mat.det, h.1, h.2] at k <;> omega
  have ea : s.a = prod r ⟨m.a, m.c⟩ ⟨m.a, m.c⟩ := by rw [← e]; rfl
  have ec : s.c = prod r ⟨m.b, m.d⟩ ⟨m.b, m.d⟩ := by rw [← e]; rfl
  refine ⟨by rw [ea]; exact red_first hr ne1, ?_⟩
  by_cases hd : m.d = 0
  · have hc : m.c ≠ 0 := fun hc => by
      rcases hm with k | k <;> rw [Mat.det, hc, hd] at k <;> omega
    have h1 : r.c ≤ s.a := by rw [ea]; exact red_second hr hc
    have := hs.2.2.1
    omega
  · rw [ec]; exact red_second hr hd
theorem red_unique {r s : Lat} (hr : Red r) (hs : Red s) {m : Mat} (hm : Unit1 m) (e : led r m = s) : r = s := by
  have h1 := red_le hr hs hm e
  have e' : led s m.inv = r := by rw [← e, ← led_times, times_inv hm, led_one]
  have h2 := red_le hs hr (unit_inv hm) e'
  have hd : s.det = r.det := by rw [← e, det_led, hm.sq]; omega
  have ha : r.a = s.a := by omega
  have hc : r.c = s.c := by omega
  have hb : r.b * r.b = s.b * s.b := by simp only [Lat.det] at hd; rw [ha, hc] at hd; omega
  have hb' : r.b = s.b := by
    have : (r.b - s.b) * (r.b + s.b) = 0 := by grind
    rcases Int.mul_eq_zero.1 this with h | h
    · omega
    · have := hr.1; have := hs.1; omega
  cases r; cases s; simp_all
theorem abs_le_one {a b x : Int} (ha : 1 ≤ a) (hb : 0 ≤ b) (hba : 2 * b ≤ a) (h : a * (x * x) = 2 * b * x ∨ a * (x * x) = -(2 * b * x)) : -1 ≤ x ∧ x ≤ 1 := by
  have key : ∀ y : Int, 2 ≤ y → a * (y * y) ≤ 2 * b * y → False := fun y hy h => by
    have h1 := Int.mul_nonneg (show 0 ≤ y by omega) (show 0 ≤ a * y - 2 * b by
      have := Int.mul_nonneg (show 0 ≤ a by omega) (show 0 ≤ y - 2 by omega)
      have : a * (y - 2) = a * y - 2 * a := by grind
      omega)
    have h2 : y * (a * y - 2 * b) = a * (y * y) - 2 * b * y := by grind
    have h3 := Int.mul_pos (show 0 < y by omega) (show 0 < a * y - 2 * b by
      have := Int.mul_nonneg (show 0 ≤ a by omega) (show 0 ≤ y - 2 by omega)
      have : a * (y - 2) = a * y - 2 * a := by grind
      omega)
    omega
  have hn : -x * -x = x * x := Int.neg_mul_neg x x
  refine ⟨?_, ?_⟩
  · refine Int.not_lt.1 fun hx => ?_
    refine key (-x) (by omega) ?_
    rw [hn]
    have e : 2 * b * -x = -(2 * b * x) := by grind
    have : 0 ≤ 2 * b * -x := Int.mul_nonneg (by omega) (by omega)
    have := Int.mul_nonneg (show 0 ≤ a by omega) (sq_nonneg x)
    rcases h with h | h <;> omega
  · refine Int.not_lt.1 fun hx => ?_
    refine key x (by omega) ?_
    have : 0 ≤ 2 * b * x := Int.mul_nonneg (by omega) (by omega)
    have := Int.mul_nonneg (show 0 ≤ a by omega) (sq_nonneg x)
    rcases h with h | h <;> omega
/-- What keeps a reduced lattice has numbers from -1 to 1. -/
theorem keep_small {l : Lat} (h : Red l) {m : Mat} (e : led l m = l) : (-1 ≤ m.a ∧ m.a ≤ 1) ∧ (-1 ≤ m.b ∧ m.b ≤ 1) ∧ (-1 ≤ m.c ∧ m.c ≤ 1) ∧ -1 ≤ m.d ∧ m.d ≤ 1 := by
  have hdet := red_det h
  have hm : Unit1 m := by
    have hd := det_led l m
    rw [e] at hd
    have hd' : (m.det * m.det - 1) * l.det = 0 := by grind
    refine unit_of_sq ?_
    rcases Int.mul_eq_zero.1 hd' with k | k
    · omega
    · simp only [Lat.det] at k; omega
  have ea : prod l ⟨m.a, m.c⟩ ⟨m.a, m.c⟩ = l.a := congrArg Lat.a e
  have ec : prod l ⟨m.b, m.d⟩ ⟨m.b, m.d⟩ = l.c := congrArg Lat.c e
  -- long steps
  have big : ∀ p : Pt, prod l p p ≤ l.c → -1 ≤ p.y ∧ p.y ≤ 1 := fun p hp => by
    by_cases hy : -1 ≤ p.y ∧ p.y ≤ 1
    · exact hy
    · exfalso
      obtain ⟨h1, h2, h3, h4⟩ := h
      have hyy : 4 ≤ p.y * p.y := sq_ge (k := 2) (by omega) (by omega)
      have e1 : prod l p p = l.a * (p.x * p.x) + 2 * l.b * (p.x * p.y) + l.c * (p.y * p.y) := by simp only [prod]; grind
      have := Int.mul_nonneg h1 (sq_nonneg (p.x + p.y))
      have : l.b * ((p.x + p.y) * (p.x + p.y)) = l.b * (p.x * p.x) + l.b * (p.y * p.y) + 2 * l.b * (p.x * p.y) := by grind
      have q2 := Int.mul_nonneg (show 0 ≤ l.a - l.b by omega) (sq_nonneg p.x)
      have q3 : (l.a - l.b) * (p.x * p.x) = l.a * (p.x * p.x) - l.b * (p.x * p.x) := by grind
      have q4 := Int.mul_nonneg (show 0 ≤ l.c - 2 * l.b by omega) (show 0 ≤ p.y * p.y by omega)
      have q5 : (l.c - 2 * l.b) * (p.y * p.y) = l.c * (p.y * p.y) - 2 * (l.b * (p.y * p.y)) := by grind
      have q1 := Int.mul_nonneg (show 0 ≤ l.c by omega) (show 0 ≤ p.y * p.y - 4 by omega)
      have q0 : l.c * (p.y * p.y - 4) = l.c * (p.y * p.y) - 4 * l.c := by grind
      omega
  have bigx : ∀ p : Pt, prod l p p ≤ l.a → -1 ≤ p.x ∧ p.x ≤ 1 := fun p hp => by
    by_cases hx : -1 ≤ p.x ∧ p.x ≤ 1
    · exact hx
    · exfalso
      obtain ⟨h1, h2, h3, h4⟩ := h
      have hxx : 4 ≤ p.x * p.x := sq_ge (k := 2) (by omega) (by omega)
      have e1 : prod l p p = l.a * (p.x * p.x) + 2 * l.b * (p.x * p.y) + l.c * (p.y * p.y) := by simp only [prod]; grind
      have := Int.mul_nonneg h1 (sq_nonneg (p.x + p.y))
      have : l.b * ((p.x + p.y) * (p.x + p.y)) = l.b * (p.x * p.x) + l.b * (p.y * p.y) + 2 * l.b * (p.x * p.y) := by grind
      have q2 := Int.mul_nonneg (show 0 ≤ l.c - l.b by omega) (sq_nonneg p.y)
      have q3 : (l.c - l.b) * (p.y * p.y) = l.c * (p.y * p.y) - l.b * (p.y * p.y) := by grind
      have q4 := Int.mul_nonneg (show 0 ≤ l.a - 2 * l.b by omega) (show 0 ≤ p.x * p.x by omega)
      have q5 : (l.a - 2 * l.b) * (p.x * p.x) = l.a * (p.x * p.x) - 2 * (l.b * (p.x * p.x)) := by grind
      have q1 := Int.mul_nonneg (show 0 ≤ l.a by omega) (show 0 ≤ p.x * p.x - 4 by omega)
      have q0 : l.a * (p.x * p.x - 4) = l.a * (p.x * p.x) - 4 * l.a := by grind
      omega
  have hc := big ⟨m.a, m.c⟩ (by rw [ea]; exact h.2.2.1)
  have hd := big ⟨m.b, m.d⟩ (by rw [ec]; omega)
  have ha := bigx ⟨m.a, m.c⟩ (by rw [ea]; omega)
  dsimp only at hc hd ha
  refine ⟨ha, ?_, hc, hd⟩
  have hd3 : m.d = 0 ∨ m.d = 1 ∨ m.d = -1 := by omega
  rcases hd3 with k | k | k
  · -- then b c is 1 or -1
    have hbc : m.b * m.c = 1 ∨ m.b * m.c = -1 := by
      rcases hm with g | g <;> rw [Mat.det, k] at g <;> omega
    have hc3 : m.c = 0 ∨ m.c = 1 ∨ m.c = -1 := by omega
    rcases hc3 with g | g | g <;> rw [g] at hbc <;> omega
  · obtain ⟨h1, h2, h3, h4⟩ := h
    refine abs_le_one h4 h1 h2 (.inr ?_)
    simp only [prod, k] at ec
    grind
  · obtain ⟨h1, h2, h3, h4⟩ := h
    refine abs_le_one h4 h1 h2 (.inl ?_)
    simp only [prod, k] at ec
    grind
/-- The order of matrices. -/
def mlt (m n : Mat) : Bool := decide (m.a < n.a) || (m.a == n.a && (decide (m.b < n.b) || (m.b == n.b && (decide (m.c < n.c) || (m.c == n.c && decide (m.d < n.d))))))
theorem mlt_iff (m n : Mat) : mlt m n = true ↔ m.a < n.a ∨ (m.a = n.a ∧ (m.b < n.b ∨ (m.b = n.b ∧ (m.c < n.c ∨ (m.c = n.c ∧ m.d < n.d))))) := by
  simp [mlt]
theorem mlt_irrefl (m : Mat) : ¬ mlt m m = true := by rw [mlt_iff]; omega
theorem mlt_trans {m n o : Mat} (h : mlt m n = true) (k : mlt n o = true) : mlt m o = true := by
  rw [mlt_iff] at *; omega
theorem mlt_total (m n : Mat) : mlt m n = true ∨ m = n ∨ mlt n m = true := by
  rw [mlt_iff, mlt_iff]
  cases m; cases n
  simp only [Mat.mk.injEq]
  omega
theorem mlt_asymm {m n : Mat} (h : mlt m n = true) : ¬ mlt n m = true := fun k => mlt_irrefl _ (mlt_trans h k)
/-- Two lists in strict order with the same members are equal. -/
theorem sorted_ext : ∀ {xs ys : List Mat}, xs.Pairwise (fun m n => mlt m n = true) → ys.Pairwise (fun m n => mlt m n = true) → (∀ m, m ∈ xs ↔ m ∈ ys) → xs = ys
  | [], [], _, _, _ => rfl
  | [], y :: ys, _, _, h => by have := (h y).2 (by simp); simp at this
  | x :: xs, [], _, _, h => by have := (h x).1 (by simp); simp at this
  | x :: xs, y :: ys, hx, hy, h => by
    rw [List.pairwise_cons] at hx hy
    have e : x = y := by
      rcases List.mem_cons.1 ((h x).1 (by simp)) with e | e
      · exact e
      · rcases List.mem_cons.1 ((h y).2 (by simp)) with g | g
        · exact g.symm
        · exact absurd (hx.1 y g) (mlt_asymm (hy.1 x e))
    subst e
    refine congrArg _ (sorted_ext hx.2 hy.2 fun m => ⟨fun hm => ?_, fun hm => ?_⟩)
    · rcases List.mem_cons.1 ((h m).1 (List.mem_cons_of_mem _ hm)) with e | e
      · subst e; exact absurd (hx.1 _ hm) (mlt_irrefl _)
      · exact e
    · rcases List.mem_cons.1 ((h m).2 (List.mem_cons_of_mem _ hm)) with e | e
      · subst e; exact absurd (hy.1 _ hm) (mlt_irrefl _)
      · exact e
/-- All matrices with numbers from -1 to 1, in order. -/
def cand (i : Nat) : Mat := ⟨(i / 27 : Nat) - 1, (i / 9 % 3 : Nat) - 1, (i / 3 % 3 : Nat) - 1, (i % 3 : Nat) - 1⟩
def keeps (l : Lat) (m : Mat) : Bool := decide (led l m = l)
def keepL (l : Lat) (n : Nat) : List Mat := ((List.range n).map cand).filter (keeps l)
theorem keepL_succ (l : Lat) (n : Nat) : keepL l (n + 1) = keepL l n ++ if keeps l (cand n) then [cand n] else [] := by
  simp only [keepL, List.range_succ, List.map_append, List.filter_append, List.map_cons, List.map_nil, List.filter_cons, List.filter_nil]
theorem mem_keepL {l : Lat} (h : Red l) (m : Mat) : m ∈ keepL l 81 ↔ led l m = l := by
  simp only [keepL, List.mem_filter, List.mem_map, List.mem_range, keeps, decide_eq_true_eq]
  refine ⟨fun k => k.2, fun k => ⟨?_, k⟩⟩
  obtain ⟨h1, h2, h3, h4⟩ := keep_small h k
  refine ⟨(27 * (m.a + 1) + 9 * (m.b + 1) + 3 * (m.c + 1) + (m.d + 1)).toNat, by omega, ?_⟩
  cases m
  simp only [cand, Mat.mk.injEq] at *
  omega
theorem cand_nodup : ((List.range 81).map cand).Nodup := by decide +kernel
theorem keepL_nodup (l : Lat) : (keepL l 81).Nodup := cand_nodup.filter _
theorem one_mem {l : Lat} (h : Red l) : Mat.one ∈ keepL l 81 := (mem_keepL h _).2 (led_one l)
/-- The kind of a reduced lattice. -/
def rep (l : Lat) : Lat :=
  if l.b = 0 then (if l.a = l.c then ⟨1, 0, 1⟩ else ⟨1, 0, 2⟩) else if 2 * l.b = l.a then (if l.a = l.c then ⟨2, 1, 2⟩ else ⟨2, 1, 3⟩) else if l.a = l.c then ⟨3, 1, 3⟩ else ⟨3, 1, 4⟩
set_option maxHeartbeats 4000000 in
theorem keeps_rep {l : Lat} (h : Red l) {m : Mat} (ha : m.a = -1 ∨ m.a = 0 ∨ m.a = 1) (hb : m.b = -1 ∨ m.b = 0 ∨ m.b = 1) (hc : m.c = -1 ∨ m.c = 0 ∨ m.c = 1) (hd : m.d = -1 ∨ m.d = 0 ∨ m.d = 1) :
    led l m = l ↔ led (rep l) m = rep l := by
  obtain ⟨h1, h2, h3, h4⟩ := h
  obtain ⟨A, B, C⟩ := l
  obtain ⟨a, b, c, d⟩ := m
  dsimp only at *
  have key : ∀ A' B' C' : Int, 1 ≤ A' → ((B = 0 ↔ B' = 0) ∧ (2 * B = A ↔ 2 * B' = A') ∧ (A = C ↔ A' = C') ∧ 0 ≤ B' ∧ 2 * B' ≤ A' ∧ A' ≤ C') → (led ⟨A, B, C⟩ ⟨a, b, c, d⟩ = ⟨A, B, C⟩ ↔ led ⟨A', B', C'⟩ ⟨a, b, c, d⟩ = ⟨A', B', C'⟩) := fun A' B' C' hA hh => by
    simp only [led, prod, Lat.mk.injEq]
    rcases ha with rfl | rfl | rfl <;> rcases hb with rfl | rfl | rfl <;> rcases hc with rfl | rfl | rfl <;> rcases hd with rfl | rfl | rfl <;> omega
  simp only [rep]
  split
  · split
    · exact key 1 0 1 (by omega) (by omega)
    · exact key 1 0 2 (by omega) (by omega)
  · split
    · split
      · exact key 2 1 2 (by omega) (by omega)
      · exact key 2 1 3 (by omega) (by omega)
    · split
      · exact key 3 1 3 (by omega) (by omega)
      · exact key 3 1 4 (by omega) (by omega)
theorem cand_in : ∀ m ∈ (List.range 81).map cand, (m.a = -1 ∨ m.a = 0 ∨ m.a = 1) ∧ (m.b = -1 ∨ m.b = 0 ∨ m.b = 1) ∧ (m.c = -1 ∨ m.c = 0 ∨ m.c = 1) ∧ (m.d = -1 ∨ m.d = 0 ∨ m.d = 1) := by decide +kernel
theorem keepL_rep {l : Lat} (h : Red l) : keepL l 81 = keepL (rep l) 81 := by
  unfold keepL
  refine List.filter_congr fun m hm => ?_
  obtain ⟨ha, hb, hc, hd⟩ := cand_in m hm
  unfold keeps
  rw [decide_eq_decide]
  exact keeps_rep h ha hb hc hd
theorem keepL_len {l : Lat} (h : Red l) : (keepL l 81).length = 2 ∨ (keepL l 81).length = 4 ∨ (keepL l 81).length = 8 ∨ (keepL l 81).length = 12 := by
  rw [keepL_rep h]
  unfold rep
  split
  · split
    · exact .inr (.inr (.inl (by decide +kernel)))
    · exact .inr (.inl (by decide +kernel))
  · split
    · split
      · exact .inr (.inr (.inr (by decide +kernel)))
      · exact .inr (.inl (by decide +kernel))
    · split
      · exact .inr (.inl (by decide +kernel))
      · exact .inl (by decide +kernel)
/-! All matrices that lead from one lattice to an equivalent one. -/
theorem lead_iff {l r : Lat} {g : Mat} (hg : Unit1 g) (e : led l g = r) (m : Mat) : led l m = r ↔ ∃ k, led r k = r ∧ m = g.times k := by
  refine ⟨fun h => ⟨g.inv.times m, ?_, ?_⟩, ?_⟩
  · have h2 : g.times (g.inv.times m) = m := by rw [← times_assoc, times_inv hg, one_times]
    rw [← h2, led_times, e] at h
    exact h
  · rw [← times_assoc, times_inv hg, one_times]
  · rintro ⟨k, hk, rfl⟩
    rw [led_times, e, hk]
theorem unit_of_led {l : Lat} (hd : 1 ≤ l.a * l.c - l.b * l.b) {m : Mat} {r : Lat} (hr : r.det = l.det) (e : led l m = r) : Unit1 m := by
  have hd2 := det_led l m
  rw [e, hr] at hd2
  have hd' : (m.det * m.det - 1) * l.det = 0 := by grind
  refine unit_of_sq ?_
  rcases Int.mul_eq_zero.1 hd' with k | k
  · omega
  · simp only [Lat.det] at k; omega
theorem times_inj {g k k' : Mat} (hg : Unit1 g) (h : g.times k = g.times k') : k = k' := by
  have := congrArg (fun z => g.inv.times z) h
  simp only [← times_assoc, inv_times hg, one_times] at this
  exact this
theorem times_inj' {g k k' : Mat} (hg : Unit1 g) (h : k.times g = k'.times g) : k = k' := by
  have := congrArg (fun z => z.times g.inv) h
  simp only [times_assoc, times_inv hg, times_one] at this
  exact this
/-- The numbers of a matrix that leads to a lattice with small numbers. -/
theorem lead_bound {l r : Lat} {m : Mat} {K : Int} (ha : 1 ≤ l.a) (hd : 1 ≤ l.a * l.c - l.b * l.b) (hk : 0 ≤ K) (ka : l.a ≤ K) (kc : l.c ≤ K) (e : led l m = r) (ra : r.a ≤ K) (rc : r.c ≤ K) :
    (-K ≤ m.a ∧ m.a ≤ K) ∧ (-K ≤ m.b ∧ m.b ≤ K) ∧ (-K ≤ m.c ∧ m.c ≤ K) ∧ -K ≤ m.d ∧ m.d ≤ K := by
  have ea : prod l ⟨m.a, m.c⟩ ⟨m.a, m.c⟩ = r.a := congrArg Lat.a e
  have ec : prod l ⟨m.b, m.d⟩ ⟨m.b, m.d⟩ = r.c := congrArg Lat.c e
  have h1 := col_bound (p := ⟨m.a, m.c⟩) ha hd hk ka kc (by omega)
  have h2 := col_bound (p := ⟨m.b, m.d⟩) ha hd hk ka kc (by omega)
  dsimp only at h1 h2
  omega
/-- The group as the program makes it: what leads, and back by the first one. -/
theorem group_mem {l r : Lat} (hr : Red r) {g : Mat} (hg : Unit1 g) (e : led l g = r) {k0 : Mat} (h0 : led r k0 = r) (u0 : Unit1 k0) (m : Mat) :
    m ∈ (keepL r 81).map (fun k => (g.times k).times (g.times k0).inv) ↔ led l m = l := by
  have ug := unit_times hg u0
  have eg : led l (g.times k0) = r := by rw [led_times, e, h0]
  rw [List.mem_map]
  refine ⟨?_, fun h => ?_⟩
  · rintro ⟨k, hk, rfl⟩
    rw [mem_keepL hr] at hk
    rw [led_times, led_times, e, hk, ← eg, ← led_times, times_inv ug, led_one]
  · refine ⟨g.inv.times (m.times (g.times k0)), (mem_keepL hr _).2 ?_, ?_⟩
    · have : g.times (g.inv.times (m.times (g.times k0))) = m.times (g.times k0) := by rw [← times_assoc, times_inv hg, one_times]
      have h2 : led l (m.times (g.times k0)) = r := by rw [led_times, h, eg]
      rw [← this, led_times, e] at h2
      exact h2
    · rw [← times_assoc, times_inv hg, one_times, times_assoc, times_inv ug, times_one]
theorem group_nodup (r : Lat) {g k0 : Mat} (hg : Unit1 g) (u0 : Unit1 k0) : ((keepL r 81).map (fun k => (g.times k).times (g.times k0).inv)).Nodup := by
  refine List.pairwise_map.2 ((keepL_nodup r).imp ?_)
  intro a b hab he
  exact hab (times_inj hg (times_inj' (unit_inv (unit_times hg u0)) he))
theorem leads_nodup (r : Lat) {g : Mat} (hg : Unit1 g) : ((keepL r 81).map (fun k => g.times k)).Nodup :=
  List.pairwise_map.2 ((keepL_nodup r).imp fun hab he => hab (times_inj hg he))
/-! Orders of matrices. -/
def powm (m : Mat) : Nat → Mat
  | 0 => Mat.one
  | k + 1 => m.times (powm m k)
def Mok (m : Mat) : Prop := (-10000 ≤ m.a ∧ m.a ≤ 10000) ∧ (-10000 ≤ m.b ∧ m.b ≤ 10000) ∧ (-10000 ≤ m.c ∧ m.c ≤ 10000) ∧ -10000 ≤ m.d ∧ m.d ≤ 10000
theorem powm_add (m : Mat) (j k : Nat) : powm m (j + k) = (powm m j).times (powm m k) := by
  induction j with
  | zero => rw [Nat.zero_add]; exact (one_times _).symm
  | succ j ih => rw [show j + 1 + k = (j + k) + 1 by omega, powm, powm, ih, times_assoc]
def uu (t : Int) : Nat → Int
  | 0 => 0
  | 1 => 1
  | k + 2 => t * uu t (k + 1) - uu t k
theorem uu_ge {t : Int} (ht : 2 ≤ t) (k : Nat) : 0 ≤ uu t k ∧ uu t k + 1 ≤ uu t (k + 1) := by
  induction k with
  | zero => exact ⟨Int.le_refl _, by simp [uu]⟩
  | succ k ih =>
    refine ⟨by omega, ?_⟩
    have := Int.mul_nonneg (show 0 ≤ t - 2 by omega) (show 0 ≤ uu t (k + 1) by omega)
    have : (t - 2) * uu t (k + 1) = t * uu t (k + 1) - 2 * uu t (k + 1) := by grind
    simp only [uu]
    omega
theorem powm_uu {m : Mat} (hd : m.det = 1) (k : Nat) : powm m (k + 1) = ⟨uu (m.a + m.d) (k + 1) * m.a - uu (m.a + m.d) k, uu (m.a + m.d) (k + 1) * m.b, uu (m.a + m.d) (k + 1) * m.c, uu (m.a + m.d) (k + 1) * m.d - uu (m.a + m.d) k⟩ := by
  induction k with
  | zero => cases m; simp [powm, uu, times_one]
  | succ k ih =>
    rw [powm, ih]
    simp only [Mat.times, uu, Mat.mk.injEq, Mat.det] at *
    refine ⟨?_, ?_, ?_, ?_⟩ <;> grind
theorem fin_two {m : Mat} (hd : m.det = 1) (ht : 2 ≤ m.a + m.d) {k : Nat} (h : powm m (k + 1) = Mat.one) : m = Mat.one := by
  have hu := (uu_ge ht k).2
  have h0 := (uu_ge ht k).1
  rw [powm_uu hd] at h
  simp only [Mat.one, Mat.mk.injEq] at h
  obtain ⟨h1, h2, h3, h4⟩ := h
  have hb : m.b = 0 := by rcases Int.mul_eq_zero.1 h2 with g | g <;> omega
  have hc : m.c = 0 := by rcases Int.mul_eq_zero.1 h3 with g | g <;> omega
  have had : m.a = m.d := by
    have : uu (m.a + m.d) (k + 1) * (m.a - m.d) = 0 := by grind
    rcases Int.mul_eq_zero.1 this with g | g <;> omega
  have hsq : (m.a - 1) * (m.a + 1) = 0 := by
    simp only [Mat.det, hb, had] at hd
    rw [had]
    grind
  have ha : m.a = 1 := by rcases Int.mul_eq_zero.1 hsq with g | g <;> omega
  cases m; simp_all [Mat.one]
def Mat.neg (m : Mat) : Mat := ⟨-m.a, -m.b, -m.c, -m.d⟩
theorem neg_times (m n : Mat) : m.neg.times n.neg = m.times n := by
  simp only [Mat.neg, Mat.times, Mat.mk.injEq]
  refine ⟨?_, ?_, ?_, ?_⟩ <;> grind
theorem neg_det (m : Mat) : m.neg.det = m.det := by simp only [Mat.neg, Mat.det]; grind
theorem powm_two (m : Mat) (k : Nat) : powm m (2 * k) = powm (m.times m) k := by
  induction k with
  | zero => rfl
  | succ k ih => rw [show 2 * (k + 1) = 2 * k + 1 + 1 by omega, powm, powm, ih, ← times_assoc]; rfl
theorem powm_unit {m : Mat} {k : Nat} (h : powm m (k + 1) = Mat.one) : Unit1 m := by
  have h1 : (powm m (k + 1)).det = 1 := by rw [h]; rfl
  rw [powm, det_times] at h1
  -- its absolute value is 1
  have h3 : m.det.natAbs * (powm m k).det.natAbs = 1 := by rw [← Int.natAbs_mul, h1]; rfl
  have h4 := Nat.eq_one_of_mul_eq_one_right h3
  rcases Int.natAbs_eq m.det with g | g
  · exact .inl (by omega)
  · exact .inr (by omega)
/-- A matrix that has an order: its square is one, or its trace is -1, 0 or 1 and its determinant 1. -/
theorem fin_kind {m : Mat} {k : Nat} (h : powm m (k + 1) = Mat.one) : m.times m = Mat.one ∨ (m.det = 1 ∧ (m.a + m.d = 0 ∨ m.a + m.d = 1 ∨ m.a + m.d = -1)) := by
  have hsq : powm (m.times m) (k + 1) = Mat.one := by
    rw [← powm_two, show 2 * (k + 1) = (k + 1) + (k + 1) by omega, powm_add, h]; rfl
  rcases powm_unit h with hd | hd
  · by_cases h2 : 2 ≤ m.a + m.d
    · have := fin_two hd h2 h
      exact .inl (by rw [this]; rfl)
    · by_cases h3 : m.a + m.d ≤ -2
      · have h4 : powm m.neg (2 * (k + 1)) = Mat.one := by rw [powm_two, neg_times]; exact hsq
        have h5 := fin_two (m := m.neg) (by rw [neg_det]; exact hd) (by simp only [Mat.neg]; omega) (k := 2 * k + 1) h4
        exact .inl (by rw [← neg_times, h5]; rfl)
      · exact .inr ⟨hd, by omega⟩
  · refine .inl (fin_two (k := k) ?_ ?_ hsq)
    · rw [det_times, hd]; rfl
    · have := sq_nonneg (m.a + m.d)
      have e : (m.times m).a + (m.times m).d = (m.a + m.d) * (m.a + m.d) - 2 * m.det := by simp only [Mat.times, Mat.det]; grind
      rw [e, hd]; omega
/-- Its powers are matrices whose numbers are not greater. -/
theorem fin_ok {m : Mat} (hm : Mok m) {k : Nat} (h : powm m (k + 1) = Mat.one) (j : Nat) : Mok (powm m j) := by
  obtain ⟨a, b, c, d⟩ := m
  simp only [Mok] at hm
  have step : ∀ S : Mat → Prop, S Mat.one → (∀ n, S n → S ((⟨a, b, c, d⟩ : Mat).times n)) → S (powm ⟨a, b, c, d⟩ j) := fun S h1 hs => by
    induction j with
    | zero => exact h1
    | succ j ih => exact hs _ ih
  rcases fin_kind h with h2 | ⟨hd, ht⟩
  · have := step (fun n => n = Mat.one ∨ n = ⟨a, b, c, d⟩) (.inl rfl) (fun n hn => by
      rcases hn with rfl | rfl
      · exact .inr (times_one _)
      · exact .inl h2)
    rcases this with e | e <;> rw [e] <;> simp only [Mok, Mat.one] <;> omega
  · simp only [Mat.det] at hd ht
    have hs : (⟨a, b, c, d⟩ : Mat).times ⟨a, b, c, d⟩ = ⟨(a + d) * a - 1, (a + d) * b, (a + d) * c, (a + d) * d - 1⟩ := by
      simp only [Mat.times, Mat.mk.injEq]; refine ⟨?_, ?_, ?_, ?_⟩ <;> grind
    rcases ht with ht | ht | ht
    · have := step (fun n => n = Mat.one ∨ n = ⟨a, b, c, d⟩ ∨ n = ⟨-1, 0, 0, -1⟩ ∨ n = ⟨-a, -b, -c, -d⟩) (.inl rfl) (fun n hn => by
        rcases hn with rfl | rfl | rfl | rfl
        · exact .inr (.inl (times_one _))
        · refine .inr (.inr (.inl ?_)); rw [hs, ht]; simp
        · refine .inr (.inr (.inr ?_)); simp [Mat.times]
        · refine .inl ?_; simp only [Mat.times, Mat.mk.injEq, Mat.one] at hs ⊢; grind)
      rcases this with e | e | e | e <;> rw [e] <;> simp only [Mok, Mat.one] <;> omega
    · have := step (fun n => n = Mat.one ∨ n = ⟨a, b, c, d⟩ ∨ n = ⟨a - 1, b, c, d - 1⟩ ∨ n = ⟨-1, 0, 0, -1⟩ ∨ n = ⟨-a, -b, -c, -d⟩ ∨ n = ⟨1 - a, -b, -c, 1 - d⟩) (.inl rfl) (fun n hn => by
        rcases hn with rfl | rfl | rfl | rfl | rfl | rfl
        · exact .inr (.inl (times_one _))
        · refine .inr (.inr (.inl ?_)); rw [hs, ht]; simp
        · refine .inr (.inr (.inr (.inl ?_))); simp only [Mat.times, Mat.mk.injEq] at hs ⊢; refine ⟨?_, ?_, ?_, ?_⟩ <;> grind
        · refine .inr (.inr (.inr (.inr (.inl ?_)))); simp [Mat.times]
        · refine .inr (.inr (.inr (.inr (.inr ?_)))); simp only [Mat.times, Mat.mk.injEq] at hs ⊢; refine ⟨?_, ?_, ?_, ?_⟩ <;> grind
        · refine .inl ?_; simp only [Mat.times, Mat.mk.injEq, Mat.one] at hs ⊢; refine ⟨?_, ?_, ?_, ?_⟩ <;> grind)
      rcases this with e | e | e | e | e | e <;> rw [e] <;> simp only [Mok, Mat.one] <;> omega
    · have := step (fun n => n = Mat.one ∨ n = ⟨a, b, c, d⟩ ∨ n = ⟨-a - 1, -b, -c, -d - 1⟩) (.inl rfl) (fun n hn => by
        rcases hn with rfl | rfl | rfl
        · exact .inr (.inl (times_one _))
        · refine .inr (.inr ?_); rw [hs, ht]; simp only [Mat.mk.injEq]; omega
        · refine .inl ?_; simp only [Mat.times, Mat.mk.injEq, Mat.one] at hs ⊢; refine ⟨?_, ?_, ?_, ?_⟩ <;> grind)
      rcases this with e | e | e <;> rw [e] <;> simp only [Mok, Mat.one] <;> omega
/-- What Order returns. -/
def ordV (m : Mat) : Int := match (List.range 12).find? (fun k => decide (powm m (k + 1) = Mat.one)) with | some k => (k : Int) + 1 | none => 0
end Go.Proofs.YtehpgmhilcoalaaDoor
