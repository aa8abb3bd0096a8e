/- The tests of validity: lattices, matrices, points, moves, on both sides. -/
import Derived.Test.YtehpgmhilcoalaaDoorGE
namespace Go.Proofs.YtehpgmhilcoalaaDoor
open Go.RowKit Go.Lib
set_option linter.unusedSimpArgs false
def okL (l : Lat) : Bool := inB 1 10000 l.a && inB 1 10000 l.c && inB (-10000) 10000 l.b && decide (1 ≤ l.det)
theorem inB_iff (lo hi n : Int) : inB lo hi n = true ↔ lo ≤ n ∧ n ≤ hi := by unfold inB; simp
theorem okL_iff (l : Lat) : okL l = true ↔ Ok l := by
  unfold okL Ok
  simp only [Bool.and_eq_true, inB_iff, decide_eq_true_eq]
  unfold Lat.det
  omega
theorem okM_iff (m : Mat) : okM m = true ↔ Mok m := by
  unfold okM Mok
  simp only [Bool.and_eq_true, inB_iff]
  omega
theorem okP_iff (p : Pt) : okP p = true ↔ (-1000000 ≤ p.x ∧ p.x ≤ 1000000) ∧ -1000000 ≤ p.y ∧ p.y ≤ 1000000 := by
  unfold okP
  simp only [Bool.and_eq_true, inB_iff]
theorem mul_bound {a b A B : Int} (ha : -A ≤ a ∧ a ≤ A) (hb : -B ≤ b ∧ b ≤ B) : -(A * B) ≤ a * b ∧ a * b ≤ A * B := by
  have h1 := Int.mul_nonneg (show 0 ≤ A - a by omega) (show 0 ≤ B - b by omega)
  have h2 := Int.mul_nonneg (show 0 ≤ A + a by omega) (show 0 ≤ B + b by omega)
  have h3 := Int.mul_nonneg (show 0 ≤ A - a by omega) (show 0 ≤ B + b by omega)
  have h4 := Int.mul_nonneg (show 0 ≤ A + a by omega) (show 0 ≤ B - b by omega)
  have e1 : (A - a) * (B - b) = A * B - A * b - a * B + a * b := by grind
  have e2 : (A + a) * (B + b) = A * B + A * b + a * B + a * b := by grind
  have e3 : (A - a) * (B + b) = A * B + A * b - a * B - a * b := by grind
  have e4 : (A + a) * (B - b) = A * B - A * b + a * B - a * b := by grind
  omega
theorem within2 (lim : Int) (hl : 0 ≤ lim ∧ lim ≤ 1000000) (a b : Int) (W : World) (T : TypeId) (B : Nat) (hB : W.heap.size = B) :
    Calls Tryd.prog 81 #[.int .i64 lim, .slice (some ⟨B, 0, none⟩) 2 2] (W.alloc (.cells #[.int .i64 a, .int .i64 b] T)) fun e w' => e = .returned (.bool ([a, b].all (inB (-lim) lim))) ∧ w' = W.alloc (.cells #[.int .i64 a, .int .i64 b] T) :=
  hB ▸ within_any lim hl [a, b] (some ⟨W.heap.size, 0, none⟩) 2 _ (by simp) (by unfold maxLen; omega) (intsAt_lit W [a, b] T)
theorem within3 (lim : Int) (hl : 0 ≤ lim ∧ lim ≤ 1000000) (a b c : Int) (W : World) (T : TypeId) (B : Nat) (hB : W.heap.size = B) :
    Calls Tryd.prog 81 #[.int .i64 lim, .slice (some ⟨B, 0, none⟩) 3 3] (W.alloc (.cells #[.int .i64 a, .int .i64 b, .int .i64 c] T)) fun e w' => e = .returned (.bool ([a, b, c].all (inB (-lim) lim))) ∧ w' = W.alloc (.cells #[.int .i64 a, .int .i64 b, .int .i64 c] T) :=
  hB ▸ within_any lim hl [a, b, c] (some ⟨W.heap.size, 0, none⟩) 3 _ (by simp) (by unfold maxLen; omega) (intsAt_lit W [a, b, c] T)
theorem within4 (lim : Int) (hl : 0 ≤ lim ∧ lim ≤ 1000000) (a b c d : Int) (W : World) (T : TypeId) (B : Nat) (hB : W.heap.size = B) :
    Calls Tryd.prog 81 #[.int .i64 lim, .slice (some ⟨B, 0, none⟩) 4 4] (W.alloc (.cells #[.int .i64 a, .int .i64 b, .int .i64 c, .int .i64 d] T)) fun e w' => e = .returned (.bool ([a, b, c, d].all (inB (-lim) lim))) ∧ w' = W.alloc (.cells #[.int .i64 a, .int .i64 b, .int .i64 c, .int .i64 d] T) :=
  hB ▸ within_any lim hl [a, b, c, d] (some ⟨W.heap.size, 0, none⟩) 4 _ (by simp) (by unfold maxLen; omega) (intsAt_lit W [a, b, c, d] T)
set_option maxHeartbeats 400000 in
theorem validMatrix_any (m : Mat) (w : World) : Calls Tryd.prog 68 #[m.val] w fun e w' => e = .returned (.bool (okM m)) ∧ Below w.heap.size w w' := by
  have CW := Lib.hid (fun W T B hB => within4 10000 (by omega) m.a m.b m.c m.d W T B hB)
  have e : okM m = [m.a, m.b, m.c, m.d].all (inB (-10000) 10000) := by simp [okM, Bool.and_assoc]
  rw [e]
  generalize List.all _ _ = b at *
  clear e
  simp only [Mat.val]
  go_enter Tryd.func68, Tryd.ntmps68
  go_wp2_with fail
  refine (CW.out _ _ _ (by simp)).mono ?_
  rintro e w' ⟨rfl, rfl⟩
  go_wp2_with fail
  go_ret
  exact ⟨rfl, by repeat (first | exact Below.refl _ _ | refine Below.alloc ?_ (by simp <;> omega) _)⟩
set_option maxHeartbeats 1000000 in
theorem validLattice_any (l : Lat) (w : World) : Calls Tryd.prog 49 #[l.val] w fun e w' => e = .returned (.bool (okL l)) ∧ Below w.heap.size w w' := by
  have CW := Lib.hid (fun W T B hB => within3 10000 (by omega) l.a l.b l.c W T B hB)
  obtain ⟨b, hb⟩ : ∃ b, b = [l.a, l.b, l.c].all (inB (-10000) 10000) := ⟨_, rfl⟩
  rw [← hb] at CW
  obtain ⟨r, hr0⟩ : ∃ r, r = okL l := ⟨_, rfl⟩
  rw [← hr0]
  have hr : r = (b && decide (1 ≤ l.a) && decide (1 ≤ l.c) && decide (1 ≤ wrap64 (wrap64 (l.a * l.c) - wrap64 (l.b * l.b)))) := by
    rw [hb, hr0]
    rw [Bool.eq_iff_iff, okL_iff]
    unfold Ok
    simp only [Bool.and_eq_true, List.all_cons, List.all_nil, inB_iff, decide_eq_true_eq, wrap64_sl, wrap64_sr]
    constructor
    · rintro ⟨h1, h2, h3, h4, h5, h6, h7⟩
      have k1 := mul_bound (a := l.a) (b := l.c) (A := 10000) (B := 10000) (by omega) (by omega)
      have k2 := mul_bound (a := l.b) (b := l.b) (A := 10000) (B := 10000) (by omega) (by omega)
      rw [wrap64_id (by omega)]
      simp; omega
    · rintro ⟨⟨⟨h1, h2⟩, h3⟩, h4⟩
      have k1 := mul_bound (a := l.a) (b := l.c) (A := 10000) (B := 10000) (by omega) (by omega)
      have k2 := mul_bound (a := l.b) (b := l.b) (A := 10000) (B := 10000) (by omega) (by omega)
      rw [wrap64_id (by omega)] at h4
      omega
  have Hr := Lib.hid hr
  clear hb hr hr0
  obtain ⟨A, B, C⟩ := l
  simp only [Lat.val]
  dsimp only at *
  cases b
  · obtain rfl : r = false := Hr.out
    clear Hr
    go_enter Tryd.func49, Tryd.ntmps49
    go_wp2_with fail
    refine (CW.out _ _ _ (by simp)).mono ?_
    rintro e w' ⟨rfl, rfl⟩
    go_wp2_with fail
    go_ret
    exact ⟨rfl, by repeat (first | exact Below.refl _ _ | refine Below.alloc ?_ (by simp <;> omega) _)⟩
  · by_cases q1 : 1 ≤ A
    · by_cases q2 : 1 ≤ C
      · have Hr2 := Lib.hid (show r = decide (1 ≤ wrap64 (wrap64 (A * C) - wrap64 (B * B))) by rw [Hr.out, decide_eq_true q1, decide_eq_true q2]; rfl)
        clear Hr
        go_enter Tryd.func49, Tryd.ntmps49
        go_wp2_with fail
        refine (CW.out _ _ _ (by simp)).mono ?_
        rintro e w' ⟨rfl, rfl⟩
        go_wp2_with fail
        go_ret
        exact ⟨by rw [Hr2.out]; simp, by repeat (first | exact Below.refl _ _ | refine Below.alloc ?_ (by simp <;> omega) _)⟩
      · have hd : decide (1 ≤ C) = false := decide_eq_false q2
        obtain rfl : r = false := by rw [Hr.out, hd]; simp
        clear Hr q2
        go_enter Tryd.func49, Tryd.ntmps49
        go_wp2_with fail
        refine (CW.out _ _ _ (by simp)).mono ?_
        rintro e w' ⟨rfl, rfl⟩
        go_wp2_with fail
        go_ret
        exact ⟨by simp, by repeat (first | exact Below.refl _ _ | refine Below.alloc ?_ (by simp <;> omega) _)⟩
    · have hd : decide (1 ≤ A) = false := decide_eq_false q1
      obtain rfl : r = false := by rw [Hr.out, hd]; simp
      clear Hr q1
      go_enter Tryd.func49, Tryd.ntmps49
      go_wp2_with fail
      refine (CW.out _ _ _ (by simp)).mono ?_
      rintro e w' ⟨rfl, rfl⟩
      go_wp2_with fail
      go_ret
      exact ⟨by simp, by repeat (first | exact Below.refl _ _ | refine Below.alloc ?_ (by simp <;> omega) _)⟩
end Go.Proofs.YtehpgmhilcoalaaDoor
