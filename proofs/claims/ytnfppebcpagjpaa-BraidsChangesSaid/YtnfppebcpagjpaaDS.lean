/- The law's changed walked where a letter and its opposite are put in. -/
import Derived.Test.YtnfppebcpagjpaaDR
namespace Go.Proofs.Ytnfppebcpagjpaa
open Go.RowKit Go.Lib
theorem is_drop {w : World} {b off sc p : Nat} {ws : List Int} (h : IS w (.slice (some ⟨b, off, none⟩) ws.length sc) ws) (hp : p ≤ ws.length) : IS w (.slice (some ⟨b, off + p, none⟩) (ws.length - p) (sc - p)) (ws.drop p) := by
  obtain ⟨a, c, e, h1, h2, _, h3⟩ := h
  cases e
  refine ⟨_, _, by rw [List.length_drop], by rw [List.length_drop]; omega, by omega, (fun e => by cases e), fun k z hz => ?_⟩
  rw [List.getElem?_drop] at hz
  obtain ⟨b', off', e, hb, hc⟩ := h3 _ z hz
  cases e
  exact ⟨b, off + p, rfl, hb, by rw [Nat.add_assoc]; exact hc⟩
theorem is_take {w : World} {b off sc p : Nat} {ws : List Int} (h : IS w (.slice (some ⟨b, off, none⟩) ws.length sc) ws) (hp : p ≤ ws.length) : IS w (.slice (some ⟨b, off, none⟩) p sc) (ws.take p) := by
  obtain ⟨a, c, e, h1, h2, _, h3⟩ := h
  cases e
  have hl : (ws.take p).length = p := by rw [List.length_take]; omega
  refine ⟨_, _, by rw [hl], by omega, h2, (fun e => by cases e), fun k z hz => ?_⟩
  have hk := (List.getElem?_eq_some_iff.1 hz).1
  rw [List.getElem?_take] at hz
  rw [if_pos (by omega)] at hz
  exact h3 k z hz
theorem is_any {w : World} {a : Option Addr} {c : Nat} (h : a = none → c = 0) (hc : c ≤ maxLen) : IS w (.slice a 0 c) [] := ⟨a, c, rfl, Nat.zero_le _, hc, h, fun k z h => by cases h⟩
theorem is_lit2 {w : World} {B : Nat} {x y : Int} (h : w.heap[B]? = some (.cells #[.int .i64 x, .int .i64 y] 3 (0, 0))) : IS w (.slice (some ⟨B, 0, none⟩) 2 2) [x, y] := by
  refine ⟨_, _, rfl, Nat.le_refl _, by unfold maxLen; omega, (fun e => by cases e), fun k z hz => ⟨B, 0, rfl, (Array.getElem?_eq_some_iff.1 h).1, ?_⟩⟩
  have hk := (List.getElem?_eq_some_iff.1 hz).1
  rw [Nat.zero_add]
  rcases k with _ | _ | k
  · simp at hz; subst hz; exact cell_of_row w _ 0 _ _ _ h
  · simp at hz; subst hz; exact cell_of_row w _ 1 _ _ _ h
  · exact absurd hk (by simp only [List.length_cons, List.length_nil]; omega)
theorem Eqv.put {n : Nat} {ws : List Int} (p : Nat) {x : Int} (h : Letter n x) : Eqv n ws (ws.take p ++ [x, -x] ++ ws.drop p) := by
  have := Eqv.canc (ws.take p) (ws.drop p) h
  rw [List.take_append_drop] at this
  simpa using this.symm
set_option maxHeartbeats 4000000 in
set_option maxRecDepth 100000 in
theorem changed_lo0 (n : Nat) (hn : n ≤ 12) (h2 : ¬ n < 2) (ws : List Int) (hw : Word n ws) (hl : ws.length ≤ 200) (kd at_ ii : Nat) (q0 : kd % 4 = 0) (b1 : kd < 256) (b2 : at_ < 256) (b3 : ii < 256) (v : Value) (w : World) (hv : IS w v ws) :
    Calls Try.prog 45 #[.int .i64 (n : Int), v, .agg #[.int .u8 kd, .int .u8 at_, .int .u8 ii]] w fun e w' => ∃ v' ys, e = .returned v' ∧ IS w' v' ys ∧ Eqv n ws ys ∧ ys.length ≤ ws.length + 2 ∧ Below w.heap.size w w' := by
    have Hv := Lib.hid hv
    obtain ⟨sa, sc, rfl, k1, k2, k3, hI⟩ := hv
    unfold maxLen at k2
    have HI := Lib.hid hI
    have Hw := Lib.hid hw
    clear hI hw
    have h2' : ¬ (n : Int) < 2 := by omega
    obtain ⟨W0, hW0⟩ : ∃ W0, W0 = w.alloc (.cells #[.int .u8 kd, .int .u8 at_, .int .u8 ii] 53) := ⟨_, rfl⟩
    have hz0 : W0.heap.size = w.heap.size + 1 := by rw [hW0]; simp
    have hr0 : W0.heap[w.heap.size]? = some (.cells #[.int .u8 kd, .int .u8 at_, .int .u8 ii] 53 (0, 0)) := by rw [hW0]; exact heap_alloc_new _ _
    have c0 : W0.cell? ⟨w.heap.size, 0, none⟩ = some (.int .u8 kd) := cell_of_row W0 _ 0 _ _ _ hr0
    have c1 : W0.cell? ⟨w.heap.size, 1, none⟩ = some (.int .u8 at_) := cell_of_row W0 _ 1 _ _ _ hr0
    have c2 : W0.cell? ⟨w.heap.size, 2, none⟩ = some (.int .u8 ii) := cell_of_row W0 _ 2 _ _ _ hr0
    have HBW := Lib.hid (show Below w.heap.size w W0 by rw [hW0]; exact below_alloc _ _)
    have BA2 := below_alloc W0 (.cells #[] 3)
    have HA := Lib.hid ((Hv.out.below HBW.out).below BA2)
    rw [hz0] at BA2
    have HB := Lib.hid BA2
    have HO := Lib.hid (show (W0.alloc (.cells #[] 3)).ownsRow (w.heap.size + 1) 3 1 (.slice (some ⟨w.heap.size + 1, 0, none⟩) 0 0) 0 (([] : List Int).map (Value.int .i64)) from by
      have h := World.ownsRow_made (base := w.heap.size + 1) (e := 3) (size := 1) W0 #[] 0 (by omega) (Nat.zero_le _) rfl
      rw [hz0] at h
      exact h)
    have hz1 : (W0.alloc (.cells #[] 3)).heap.size = w.heap.size + 1 + 1 := by simp [hz0]
    have Hz1 := Lib.hid hz1
    have hWr := hW0.symm
    clear BA2 hr0 hz1 hW0
    obtain ⟨p, hp⟩ : ∃ p : Nat, (at_ : Int) % ((ws.length : Int) + 1) = (p : Int) := ⟨((at_ : Int) % ((ws.length : Int) + 1)).toNat, (Int.toNat_of_nonneg (Int.emod_nonneg _ (by omega))).symm⟩
    obtain ⟨j, hj⟩ : ∃ j : Nat, (ii : Int) % ((n : Int) - 1) = (j : Int) := ⟨((ii : Int) % ((n : Int) - 1)).toNat, (Int.toNat_of_nonneg (Int.emod_nonneg _ (by omega))).symm⟩
    have hpl : p ≤ ws.length := by have := Int.emod_lt_of_pos (at_ : Int) (show (0 : Int) < (ws.length : Int) + 1 by omega); omega
    have hjl : j + 1 < n := by have := Int.emod_lt_of_pos (ii : Int) (show (0 : Int) < (n : Int) - 1 by omega); omega
    have q0' : (kd : Int) % 4 = 0 := by omega
    go_enter Try.func45, Try.ntmps45
    go_wp2_with (at_builtin; go_loud (refine app_all (w0 := W0) (w.heap.size + 1) _ [] ws rfl _ _ rfl rfl HO.out _ rfl HA.out (by simp <;> omega) HB.out (by rw [Hz1.out]; omega) ?_); intro v1 w1 O1 B1; rw [List.nil_append] at O1; have HO1 := Lib.hid O1; clear O1; have d0 := (B1.cell (p := ⟨w.heap.size, 0, none⟩) (Nat.lt_succ_self _)).trans c0)
    have HBw := Lib.hid (HBW.out.trans (B1.mono (Nat.le_succ _)))
    have Hc0 := Lib.hid c0
    clear c1 c2 d0 B1 HA HB HO
    have p0 : (0 : Int) ≤ (p : Int) := by omega
    have p1 : (p : Int) ≤ (ws.length : Int) := by omega
    have p3 : (p : Int) ≤ (sc : Int) := by omega
    have k1' : (ws.length : Int) ≤ (sc : Int) := by omega
    obtain ⟨x, hx⟩ : ∃ x : Int, x = 1 + (j : Int) := ⟨_, rfl⟩
    have hlx : Letter n x := ⟨by omega, by omega, by omega⟩
    have z2 : IntKind.i64.wrap (-x) = -x := IntWalk.i64_in _ (by have := hlx.2; omega)
    have Hlx := Lib.hid hlx
    rw [← hx]
    clear hlx hx
    by_cases hne : 0 < ws.length
    · obtain ⟨b, off, rfl, hb, _⟩ := HI.out 0 _ (List.getElem?_eq_getElem hne)
      by_cases hsp : sc = p
      · obtain rfl : p = ws.length := by omega
        obtain rfl : sc = ws.length := by omega
        have Hd0 := Lib.hid (List.drop_length : ws.drop ws.length = [])
        obtain ⟨S, hS⟩ : ∃ S, S = w1.heap.size := ⟨_, rfl⟩
        have FA := Lib.hid (show ((w1.alloc (.cells #[] 3)).drew).ownsRow S 3 1 (.slice (some ⟨w1.heap.size, 0, none⟩) 0 0) 0 [] by
          rw [hS]; exact (World.ownsRow_made w1 #[] 0 (Nat.le_refl _) (Nat.zero_le _) rfl).drew)
        have FB := Lib.hid (show (((w1.alloc (.cells #[] 3)).alloc (.cells #[.int .i64 x, .int .i64 (-x)] 3)).drew).ownsRow S 3 1 (.slice (some ⟨w1.heap.size, 0, none⟩) 0 0) 0 [] by
          rw [hS]; exact ((World.ownsRow_made w1 #[] 0 (Nat.le_refl _) (Nat.zero_le _) rfl).alloc _).drew)
        have FC := Lib.hid (show (((w1.alloc (.cells #[.int .i64 x, .int .i64 (-x)] 3)).alloc (.cells #[] 3)).drew).ownsRow S 3 1 (.slice (some ⟨w1.heap.size + 1, 0, none⟩) 0 0) 0 [] by
          rw [hS]
          have := World.ownsRow_made (base := w1.heap.size) (e := 3) (size := 1) (w1.alloc (.cells #[.int .i64 x, .int .i64 (-x)] 3)) #[] 0 (by simp) (Nat.zero_le _) rfl
          rw [show (w1.alloc (.cells #[.int .i64 x, .int .i64 (-x)] 3)).heap.size = w1.heap.size + 1 by simp] at this
          exact this.drew)
        have GA := Lib.hid (show Below S w1 ((w1.alloc (.cells #[] 3)).drew) by rw [hS]; exact (below_alloc _ _).drew)
        have GB := Lib.hid (show Below S w1 (((w1.alloc (.cells #[] 3)).alloc (.cells #[.int .i64 x, .int .i64 (-x)] 3)).drew) by rw [hS]; exact ((below_alloc _ _).alloc (by simp) _).drew)
        have GC := Lib.hid (show Below S w1 (((w1.alloc (.cells #[.int .i64 x, .int .i64 (-x)] 3)).alloc (.cells #[] 3)).drew) by rw [hS]; exact ((below_alloc _ _).alloc (by simp) _).drew)
        have LB := Lib.hid (show (((w1.alloc (.cells #[] 3)).alloc (.cells #[.int .i64 x, .int .i64 (-x)] 3)).drew).heap[w1.heap.size + 1]? = some (.cells #[.int .i64 x, .int .i64 (-x)] 3 (0, 0)) by
          have := heap_alloc_new (w1.alloc (.cells #[] 3)) (.cells #[.int .i64 x, .int .i64 (-x)] 3)
          rwa [show (w1.alloc (.cells #[] 3)).heap.size = w1.heap.size + 1 by simp] at this)
        have LC := Lib.hid (show (((w1.alloc (.cells #[.int .i64 x, .int .i64 (-x)] 3)).alloc (.cells #[] 3)).drew).heap[w1.heap.size]? = some (.cells #[.int .i64 x, .int .i64 (-x)] 3 (0, 0)) from
          (Below.heap_alloc (w1.alloc (.cells #[.int .i64 x, .int .i64 (-x)] 3)) (.cells #[] 3) w1.heap.size (by simp)).trans (heap_alloc_new w1 _))
        have HSS := Lib.hid hS
        have S1 := Lib.hid (show ∀ W, Below S w1 W → IS W (.slice (some ⟨b, off, none⟩) ws.length ws.length) (ws.take ws.length) by rw [hS]; exact fun W hW => is_take (Hv.out.below (bon HBw.out hW)) (by omega))
        have S2 := Lib.hid (show ∀ W, Below S w1 W → IS W (.slice (some ⟨b, off, none⟩) 0 0) (ws.drop ws.length) by rw [hS]; exact fun W hW => by rw [Hd0.out]; exact is_any (fun e => by cases e) (Nat.zero_le _))
        clear hS
        go_region_law (first
          | (refine step_all2 (o := ⟨some 138, _, _, _, _, _⟩) (w0 := w1) S v3 (ws.take ws.length ++ [x, -x]) (ws.drop ws.length) rfl (.tmp 134) (.tmp 137) rfl (by rfl) O3.out (.slice (some ⟨b, off, none⟩) 0 0) (by go_simp) (S2.out _ B3.out) (by simp <;> omega) B3.out Z3.out ?_; intro v4 w4 O4 B4 G4 Z4)
          | (refine step_all2 (o := ⟨some 134, _, _, _, _, _⟩) (w0 := w1) S v2 (ws.take ws.length) [x, -x] rfl (.tmp 129) (.tmp 133) rfl (by rfl) (by first | exact O2.out | exact O2.out.alloc _) (.slice (some ⟨w2.heap.size, 0, none⟩) 2 2) (by rfl) (by exact is_lit2 (heap_alloc_new _ _)) (by simp <;> omega) (by exact B2.out.alloc Z2.out _) (by exact Nat.le_trans Z2.out (by simp)) ?_; intro v3 w3 O3 B3 G3 Z3)
          | (refine step_all2 (o := ⟨some 134, _, _, _, _, _⟩) (w0 := w1) S v2 (ws.take ws.length) [x, -x] rfl (.tmp 129) (.tmp 133) rfl (by rfl) (by first | exact O2.out | exact O2.out.alloc _) (.slice (some ⟨w1.heap.size + 1, 0, none⟩) 2 2) (by rfl) (by exact is_lit2 ((G2.out (w1.heap.size + 1) (by simp) (by simp [Value.ownBlock])).trans LB.out)) (by simp <;> omega) (by exact B2.out) (by exact Z2.out) ?_; intro v3 w3 O3 B3 G3 Z3)
          | (refine step_all2 (o := ⟨some 134, _, _, _, _, _⟩) (w0 := w1) S v2 (ws.take ws.length) [x, -x] rfl (.tmp 129) (.tmp 133) rfl (by rfl) (by first | exact O2.out | exact O2.out.alloc _) (.slice (some ⟨w1.heap.size, 0, none⟩) 2 2) (by rfl) (by exact is_lit2 ((G2.out w1.heap.size (by simp <;> omega) (by simp [Value.ownBlock])).trans LC.out)) (by simp <;> omega) (by exact B2.out) (by exact Z2.out) ?_; intro v3 w3 O3 B3 G3 Z3)
          | (refine step_all2 (o := ⟨some 129, _, _, _, _, _⟩) (w0 := w1) S (.slice (some ⟨w1.heap.size, 0, none⟩) 0 0) [] (ws.take ws.length) rfl (.tmp 125) (.tmp 128) rfl (by rfl) (by first | exact FA.out | exact FB.out) (.slice (some ⟨b, off, none⟩) ws.length ws.length) (by rfl) (S1.out _ (by first | exact GA.out | exact GB.out)) (by simp <;> omega) (by first | exact GA.out | exact GB.out) (by rw [HSS.out]; simp <;> omega) ?_; intro v2 w2 O2 B2 G2 Z2)
          | (refine step_all2 (o := ⟨some 129, _, _, _, _, _⟩) (w0 := w1) S (.slice (some ⟨w1.heap.size + 1, 0, none⟩) 0 0) [] (ws.take ws.length) rfl (.tmp 125) (.tmp 128) rfl (by rfl) (by exact FC.out) (.slice (some ⟨b, off, none⟩) ws.length ws.length) (by rfl) (S1.out _ (by exact GC.out)) (by simp <;> omega) (by exact GC.out) (by rw [HSS.out]; simp <;> omega) ?_; intro v2 w2 O2 B2 G2 Z2))
        all_goals
          have HO4 := Lib.hid O4.out
          have HB4 := Lib.hid B4.out
          rw [HSS.out] at HB4
          clear O2 O3 O4 B2 B3 B4 G2 G3 G4 Z2 Z3 Z4 FA FB FC GA GB GC LB LC S1 S2 HSS
          go_wp2_with fail
          go_ret
          first | exact ⟨_, _, rfl, is_own HO4.out rfl, Eqv.put ws.length Hlx.out, by simp <;> omega, bon HBw.out HB4.out⟩ | exact ⟨_, rfl, _, is_own HO4.out rfl, Eqv.put ws.length Hlx.out, by simp <;> omega, bon HBw.out HB4.out⟩
      · have hpl2 : p < sc := by omega
        obtain ⟨S, hS⟩ : ∃ S, S = w1.heap.size := ⟨_, rfl⟩
        have FA := Lib.hid (show ((w1.alloc (.cells #[] 3)).drew).ownsRow S 3 1 (.slice (some ⟨w1.heap.size, 0, none⟩) 0 0) 0 [] by
          rw [hS]; exact (World.ownsRow_made w1 #[] 0 (Nat.le_refl _) (Nat.zero_le _) rfl).drew)
        have FB := Lib.hid (show (((w1.alloc (.cells #[] 3)).alloc (.cells #[.int .i64 x, .int .i64 (-x)] 3)).drew).ownsRow S 3 1 (.slice (some ⟨w1.heap.size, 0, none⟩) 0 0) 0 [] by
          rw [hS]; exact ((World.ownsRow_made w1 #[] 0 (Nat.le_refl _) (Nat.zero_le _) rfl).alloc _).drew)
        have FC := Lib.hid (show (((w1.alloc (.cells #[.int .i64 x, .int .i64 (-x)] 3)).alloc (.cells #[] 3)).drew).ownsRow S 3 1 (.slice (some ⟨w1.heap.size + 1, 0, none⟩) 0 0) 0 [] by
          rw [hS]
          have := World.ownsRow_made (base := w1.heap.size) (e := 3) (size := 1) (w1.alloc (.cells #[.int .i64 x, .int .i64 (-x)] 3)) #[] 0 (by simp) (Nat.zero_le _) rfl
          rw [show (w1.alloc (.cells #[.int .i64 x, .int .i64 (-x)] 3)).heap.size = w1.heap.size + 1 by simp] at this
          exact this.drew)
        have GA := Lib.hid (show Below S w1 ((w1.alloc (.cells #[] 3)).drew) by rw [hS]; exact (below_alloc _ _).drew)
        have GB := Lib.hid (show Below S w1 (((w1.alloc (.cells #[] 3)).alloc (.cells #[.int .i64 x, .int .i64 (-x)] 3)).drew) by rw [hS]; exact ((below_alloc _ _).alloc (by simp) _).drew)
        have GC := Lib.hid (show Below S w1 (((w1.alloc (.cells #[.int .i64 x, .int .i64 (-x)] 3)).alloc (.cells #[] 3)).drew) by rw [hS]; exact ((below_alloc _ _).alloc (by simp) _).drew)
        have LB := Lib.hid (show (((w1.alloc (.cells #[] 3)).alloc (.cells #[.int .i64 x, .int .i64 (-x)] 3)).drew).heap[w1.heap.size + 1]? = some (.cells #[.int .i64 x, .int .i64 (-x)] 3 (0, 0)) by
          have := heap_alloc_new (w1.alloc (.cells #[] 3)) (.cells #[.int .i64 x, .int .i64 (-x)] 3)
          rwa [show (w1.alloc (.cells #[] 3)).heap.size = w1.heap.size + 1 by simp] at this)
        have LC := Lib.hid (show (((w1.alloc (.cells #[.int .i64 x, .int .i64 (-x)] 3)).alloc (.cells #[] 3)).drew).heap[w1.heap.size]? = some (.cells #[.int .i64 x, .int .i64 (-x)] 3 (0, 0)) from
          (Below.heap_alloc (w1.alloc (.cells #[.int .i64 x, .int .i64 (-x)] 3)) (.cells #[] 3) w1.heap.size (by simp)).trans (heap_alloc_new w1 _))
        have HSS := Lib.hid hS
        have S1 := Lib.hid (show ∀ W, Below S w1 W → IS W (.slice (some ⟨b, off, none⟩) p sc) (ws.take p) by rw [hS]; exact fun W hW => is_take (Hv.out.below (bon HBw.out hW)) (by omega))
        have S2 := Lib.hid (show ∀ W, Below S w1 W → IS W (.slice (some ⟨b, off + p, none⟩) (ws.length - p) (sc - p)) (ws.drop p) by rw [hS]; exact fun W hW => is_drop (Hv.out.below (bon HBw.out hW)) (by omega))
        clear hS
        go_region_law (first
          | (refine step_all2 (o := ⟨some 138, _, _, _, _, _⟩) (w0 := w1) S v3 (ws.take p ++ [x, -x]) (ws.drop p) rfl (.tmp 134) (.tmp 137) rfl (by rfl) O3.out (.slice (some ⟨b, off + p, none⟩) (ws.length - p) (sc - p)) (by go_simp) (S2.out _ B3.out) (by simp <;> omega) B3.out Z3.out ?_; intro v4 w4 O4 B4 G4 Z4)
          | (refine step_all2 (o := ⟨some 134, _, _, _, _, _⟩) (w0 := w1) S v2 (ws.take p) [x, -x] rfl (.tmp 129) (.tmp 133) rfl (by rfl) (by first | exact O2.out | exact O2.out.alloc _) (.slice (some ⟨w2.heap.size, 0, none⟩) 2 2) (by rfl) (by exact is_lit2 (heap_alloc_new _ _)) (by simp <;> omega) (by exact B2.out.alloc Z2.out _) (by exact Nat.le_trans Z2.out (by simp)) ?_; intro v3 w3 O3 B3 G3 Z3)
          | (refine step_all2 (o := ⟨some 134, _, _, _, _, _⟩) (w0 := w1) S v2 (ws.take p) [x, -x] rfl (.tmp 129) (.tmp 133) rfl (by rfl) (by first | exact O2.out | exact O2.out.alloc _) (.slice (some ⟨w1.heap.size + 1, 0, none⟩) 2 2) (by rfl) (by exact is_lit2 ((G2.out (w1.heap.size + 1) (by simp) (by simp [Value.ownBlock])).trans LB.out)) (by simp <;> omega) (by exact B2.out) (by exact Z2.out) ?_; intro v3 w3 O3 B3 G3 Z3)
          | (refine step_all2 (o := ⟨some 134, _, _, _, _, _⟩) (w0 := w1) S v2 (ws.take p) [x, -x] rfl (.tmp 129) (.tmp 133) rfl (by rfl) (by first | exact O2.out | exact O2.out.alloc _) (.slice (some ⟨w1.heap.size, 0, none⟩) 2 2) (by rfl) (by exact is_lit2 ((G2.out w1.heap.size (by simp <;> omega) (by simp [Value.ownBlock])).trans LC.out)) (by simp <;> omega) (by exact B2.out) (by exact Z2.out) ?_; intro v3 w3 O3 B3 G3 Z3)
          | (refine step_all2 (o := ⟨some 129, _, _, _, _, _⟩) (w0 := w1) S (.slice (some ⟨w1.heap.size, 0, none⟩) 0 0) [] (ws.take p) rfl (.tmp 125) (.tmp 128) rfl (by rfl) (by first | exact FA.out | exact FB.out) (.slice (some ⟨b, off, none⟩) p sc) (by rfl) (S1.out _ (by first | exact GA.out | exact GB.out)) (by simp <;> omega) (by first | exact GA.out | exact GB.out) (by rw [HSS.out]; simp <;> omega) ?_; intro v2 w2 O2 B2 G2 Z2)
          | (refine step_all2 (o := ⟨some 129, _, _, _, _, _⟩) (w0 := w1) S (.slice (some ⟨w1.heap.size + 1, 0, none⟩) 0 0) [] (ws.take p) rfl (.tmp 125) (.tmp 128) rfl (by rfl) (by exact FC.out) (.slice (some ⟨b, off, none⟩) p sc) (by rfl) (S1.out _ (by exact GC.out)) (by simp <;> omega) (by exact GC.out) (by rw [HSS.out]; simp <;> omega) ?_; intro v2 w2 O2 B2 G2 Z2))
        all_goals
          have HO4 := Lib.hid O4.out
          have HB4 := Lib.hid B4.out
          rw [HSS.out] at HB4
          clear O2 O3 O4 B2 B3 B4 G2 G3 G4 Z2 Z3 Z4 FA FB FC GA GB GC LB LC S1 S2 HSS
          go_wp2_with fail
          go_ret
          first | exact ⟨_, _, rfl, is_own HO4.out rfl, Eqv.put p Hlx.out, by simp <;> omega, bon HBw.out HB4.out⟩ | exact ⟨_, rfl, _, is_own HO4.out rfl, Eqv.put p Hlx.out, by simp <;> omega, bon HBw.out HB4.out⟩
    · obtain rfl : ws = [] := List.eq_nil_of_length_eq_zero (by omega)
      obtain rfl : p = 0 := by simp at hpl; exact hpl
      have hk2 : sc ≤ maxLen := by unfold maxLen; omega
      obtain ⟨S, hS⟩ : ∃ S, S = w1.heap.size := ⟨_, rfl⟩
      have FA := Lib.hid (show ((w1.alloc (.cells #[] 3)).drew).ownsRow S 3 1 (.slice (some ⟨w1.heap.size, 0, none⟩) 0 0) 0 [] by
        rw [hS]; exact (World.ownsRow_made w1 #[] 0 (Nat.le_refl _) (Nat.zero_le _) rfl).drew)
      have FB := Lib.hid (show (((w1.alloc (.cells #[] 3)).alloc (.cells #[.int .i64 x, .int .i64 (-x)] 3)).drew).ownsRow S 3 1 (.slice (some ⟨w1.heap.size, 0, none⟩) 0 0) 0 [] by
        rw [hS]; exact ((World.ownsRow_made w1 #[] 0 (Nat.le_refl _) (Nat.zero_le _) rfl).alloc _).drew)
      have FC := Lib.hid (show (((w1.alloc (.cells #[.int .i64 x, .int .i64 (-x)] 3)).alloc (.cells #[] 3)).drew).ownsRow S 3 1 (.slice (some ⟨w1.heap.size + 1, 0, none⟩) 0 0) 0 [] by
        rw [hS]
        have := World.ownsRow_made (base := w1.heap.size) (e := 3) (size := 1) (w1.alloc (.cells #[.int .i64 x, .int .i64 (-x)] 3)) #[] 0 (by simp) (Nat.zero_le _) rfl
        rw [show (w1.alloc (.cells #[.int .i64 x, .int .i64 (-x)] 3)).heap.size = w1.heap.size + 1 by simp] at this
        exact this.drew)
      have GA := Lib.hid (show Below S w1 ((w1.alloc (.cells #[] 3)).drew) by rw [hS]; exact (below_alloc _ _).drew)
      have GB := Lib.hid (show Below S w1 (((w1.alloc (.cells #[] 3)).alloc (.cells #[.int .i64 x, .int .i64 (-x)] 3)).drew) by rw [hS]; exact ((below_alloc _ _).alloc (by simp) _).drew)
      have GC := Lib.hid (show Below S w1 (((w1.alloc (.cells #[.int .i64 x, .int .i64 (-x)] 3)).alloc (.cells #[] 3)).drew) by rw [hS]; exact ((below_alloc _ _).alloc (by simp) _).drew)
      have LB := Lib.hid (show (((w1.alloc (.cells #[] 3)).alloc (.cells #[.int .i64 x, .int .i64 (-x)] 3)).drew).heap[w1.heap.size + 1]? = some (.cells #[.int .i64 x, .int .i64 (-x)] 3 (0, 0)) by
        have := heap_alloc_new (w1.alloc (.cells #[] 3)) (.cells #[.int .i64 x, .int .i64 (-x)] 3)
        rwa [show (w1.alloc (.cells #[] 3)).heap.size = w1.heap.size + 1 by simp] at this)
      have LC := Lib.hid (show (((w1.alloc (.cells #[.int .i64 x, .int .i64 (-x)] 3)).alloc (.cells #[] 3)).drew).heap[w1.heap.size]? = some (.cells #[.int .i64 x, .int .i64 (-x)] 3 (0, 0)) from
        (Below.heap_alloc (w1.alloc (.cells #[.int .i64 x, .int .i64 (-x)] 3)) (.cells #[] 3) w1.heap.size (by simp)).trans (heap_alloc_new w1 _))
      have HSS := Lib.hid hS
      have S1 := Lib.hid (show ∀ W, Below S w1 W → IS W (.slice sa 0 sc) (([] : List Int).take 0) by rw [hS]; exact fun W hW => is_any k3 hk2)
      have S2 := Lib.hid (show ∀ W, Below S w1 W → IS W (.slice sa 0 sc) (([] : List Int).drop 0) by rw [hS]; exact fun W hW => is_any k3 hk2)
      clear hS
      go_region_law (first
        | (refine step_all2 (o := ⟨some 138, _, _, _, _, _⟩) (w0 := w1) S v3 (([] : List Int).take 0 ++ [x, -x]) (([] : List Int).drop 0) rfl (.tmp 134) (.tmp 137) rfl (by rfl) O3.out (.slice sa 0 sc) (by go_simp) (S2.out _ B3.out) (by simp <;> omega) B3.out Z3.out ?_; intro v4 w4 O4 B4 G4 Z4)
        | (refine step_all2 (o := ⟨some 134, _, _, _, _, _⟩) (w0 := w1) S v2 (([] : List Int).take 0) [x, -x] rfl (.tmp 129) (.tmp 133) rfl (by rfl) (by first | exact O2.out | exact O2.out.alloc _) (.slice (some ⟨w2.heap.size, 0, none⟩) 2 2) (by rfl) (by exact is_lit2 (heap_alloc_new _ _)) (by simp <;> omega) (by exact B2.out.alloc Z2.out _) (by exact Nat.le_trans Z2.out (by simp)) ?_; intro v3 w3 O3 B3 G3 Z3)
        | (refine step_all2 (o := ⟨some 134, _, _, _, _, _⟩) (w0 := w1) S v2 (([] : List Int).take 0) [x, -x] rfl (.tmp 129) (.tmp 133) rfl (by rfl) (by first | exact O2.out | exact O2.out.alloc _) (.slice (some ⟨w1.heap.size + 1, 0, none⟩) 2 2) (by rfl) (by exact is_lit2 ((G2.out (w1.heap.size + 1) (by simp) (by simp [Value.ownBlock])).trans LB.out)) (by simp <;> omega) (by exact B2.out) (by exact Z2.out) ?_; intro v3 w3 O3 B3 G3 Z3)
        | (refine step_all2 (o := ⟨some 134, _, _, _, _, _⟩) (w0 := w1) S v2 (([] : List Int).take 0) [x, -x] rfl (.tmp 129) (.tmp 133) rfl (by rfl) (by first | exact O2.out | exact O2.out.alloc _) (.slice (some ⟨w1.heap.size, 0, none⟩) 2 2) (by rfl) (by exact is_lit2 ((G2.out w1.heap.size (by simp <;> omega) (by simp [Value.ownBlock])).trans LC.out)) (by simp <;> omega) (by exact B2.out) (by exact Z2.out) ?_; intro v3 w3 O3 B3 G3 Z3)
        | (refine step_all2 (o := ⟨some 129, _, _, _, _, _⟩) (w0 := w1) S (.slice (some ⟨w1.heap.size, 0, none⟩) 0 0) [] (([] : List Int).take 0) rfl (.tmp 125) (.tmp 128) rfl (by rfl) (by first | exact FA.out | exact FB.out) (.slice sa 0 sc) (by rfl) (S1.out _ (by first | exact GA.out | exact GB.out)) (by simp <;> omega) (by first | exact GA.out | exact GB.out) (by rw [HSS.out]; simp <;> omega) ?_; intro v2 w2 O2 B2 G2 Z2)
        | (refine step_all2 (o := ⟨some 129, _, _, _, _, _⟩) (w0 := w1) S (.slice (some ⟨w1.heap.size + 1, 0, none⟩) 0 0) [] (([] : List Int).take 0) rfl (.tmp 125) (.tmp 128) rfl (by rfl) (by exact FC.out) (.slice sa 0 sc) (by rfl) (S1.out _ (by exact GC.out)) (by simp <;> omega) (by exact GC.out) (by rw [HSS.out]; simp <;> omega) ?_; intro v2 w2 O2 B2 G2 Z2))
      all_goals
        have HO4 := Lib.hid O4.out
        have HB4 := Lib.hid B4.out
        rw [HSS.out] at HB4
        clear O2 O3 O4 B2 B3 B4 G2 G3 G4 Z2 Z3 Z4 FA FB FC GA GB GC LB LC S1 S2 HSS
        go_wp2_with fail
        go_ret
        first | exact ⟨_, _, rfl, is_own HO4.out rfl, Eqv.put 0 Hlx.out, by simp <;> omega, bon HBw.out HB4.out⟩ | exact ⟨_, rfl, _, is_own HO4.out rfl, Eqv.put 0 Hlx.out, by simp <;> omega, bon HBw.out HB4.out⟩
end Go.Proofs.Ytnfppebcpagjpaa
