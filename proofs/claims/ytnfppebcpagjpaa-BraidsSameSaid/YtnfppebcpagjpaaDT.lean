/- The reference's after, finishes and turned walked: simple braids as slices of ints. -/
import Derived.Test.YtnfppebcpagjpaaCS
namespace Go.Proofs.Ytnfppebcpagjpaa
open Go.RowKit Go.Lib
/-- The numbers f, of which the first k are turned by h. -/
def mix (n k : Nat) (f h : Nat → Nat) : List Int := (List.range n).map fun i => ((if i < k then h i else f i : Nat) : Int)
theorem mix_len (n k : Nat) (f h : Nat → Nat) : (mix n k f h).length = n := by simp [mix]
theorem mix_zero (n : Nat) (x : Pm) (h : Nat → Nat) : mix n 0 x.f h = ints n x := by
  unfold mix ints
  exact List.map_congr_left fun i _ => by rw [if_neg (by omega)]
theorem mix_all (n : Nat) (f : Nat → Nat) (y : Pm) : mix n n f y.f = ints n y := by
  unfold mix ints
  exact List.map_congr_left fun i hi => by rw [if_pos (List.mem_range.1 hi)]
theorem mix_get {n k i : Nat} (f h : Nat → Nat) (hi : i < n) : ((mix n k f h).map (Value.int .i64))[i]? = some (.int .i64 ((if i < k then h i else f i : Nat) : Int)) := by simp [mix, hi]
theorem mix_set {n k : Nat} (f h : Nat → Nat) (hk : k < n) : ((mix n k f h).map (Value.int .i64)).set k (.int .i64 (h k : Int)) = (mix n (k + 1) f h).map (Value.int .i64) := by
  apply List.ext_getElem?
  intro j
  rw [List.getElem?_set, List.length_map, mix_len]
  rcases Nat.lt_or_ge j n with hj | hj
  · rw [mix_get f h hj, mix_get f h hj]
    by_cases e : k = j
    · subst e
      rw [if_pos rfl, if_pos hk, if_pos (by omega)]
    · rw [if_neg e]
      by_cases h' : j < k
      · rw [if_pos h', if_pos (by omega)]
      · rw [if_neg h', if_neg (by omega)]
  · rw [if_neg (by omega), List.getElem?_eq_none (by simp [mix]; omega), List.getElem?_eq_none (by simp [mix]; omega)]
theorem mix_skip {n k : Nat} (f h : Nat → Nat) (e : h k = f k) : mix n (k + 1) f h = mix n k f h := by
  unfold mix
  refine List.map_congr_left fun i _ => ?_
  by_cases hi : i < k
  · rw [if_pos (by omega), if_pos hi]
  · rw [if_neg hi]
    by_cases hk : i = k
    · subst hk; rw [if_pos (by omega), e]
    · rw [if_neg (by omega)]
set_option maxHeartbeats 2000000 in
set_option maxRecDepth 100000 in
theorem refafter_any (n : Nat) (h1 : 1 ≤ n) (hn : n ≤ 12) (x : Pm) (q : Nat) (hq : q + 1 < n) (v : Value) (w : World) (hv : IS w v (ints n x)) :
    Calls Try.prog 84 #[v, .int .i64 ((q : Int) + 1)] w fun e w' => ∃ v', e = .returned v' ∧ w'.ownsRow w.heap.size 3 1 v' n ((ints n (x.post q)).map (Value.int .i64)) ∧ Below w.heap.size w w' := by
  have Hv := Lib.hid hv
  obtain ⟨sa, sc, rfl, k1, k2, _, hI⟩ := hv
  unfold maxLen at k2
  rw [ints_len] at k1
  have HI := Lib.hid hI
  have hil := Lib.hid (ints_len n x)
  clear hI
  have B0 : Below w.heap.size w (w.alloc (.cells #[] 3)) := below_alloc w _
  have HA := Lib.hid (Hv.out.below B0)
  rw [ints_len] at HA Hv ⊢
  have n0 : IntKind.i64.wrap ((q : Int) + 1 - 1) = (q : Int) := num_in (by omega) (by omega)
  go_enter Try.func84, Try.ntmps84
  go_wp2_with (at_builtin; refine app_all (w0 := w) w.heap.size _ [] (ints n x) rfl _ _ rfl rfl (World.ownsRow_made _ #[] 0 (Nat.le_refl _) (Nat.zero_le _) rfl) _ rfl HA.out (by rw [hil.out]; simp; omega) B0 B0.size ?_; intro v1 w1 O1 B1)
  rw [List.nil_append, ints_len] at O1
  obtain ⟨g, cap, rfl⟩ := own_pos O1 (by omega)
  have HO1 := Lib.hid O1
  clear O1 HA B0
  go_wp2_with fail
  go_loopw [6] (fun i wr => ∃ k : Nat, k ≤ n ∧ i = .int .i64 k ∧ wr.ownsRow w.heap.size 3 1 (.slice (some ⟨g, 0, none⟩) n cap) n ((mix n k x.f (x.post q).f).map (Value.int .i64)) ∧ Below w.heap.size w wr) (fun i _ => n - (intOf i).toNat)
  case atStart => exact ⟨0, Nat.zero_le _, rfl, by rw [mix_zero]; exact HO1.out, B1⟩
  case round =>
    obtain ⟨k, hk, rfl, hown, hbw⟩ := hrel
    by_cases hkn : k < n
    · have k0 : (0 : Int) ≤ (k : Int) := by omega
      have k1 : (k : Int) < (n : Int) := by omega
      obtain ⟨b, off, rfl, hb, hc⟩ := HI.out k _ (ints_get x hkn)
      have ec := (hbw.cell (p := ⟨b, off + k, none⟩) hb).trans hc
      have ck := hown.cellAt k (by omega)
      rw [mix_get _ _ hkn] at ck
      have fk := hown.frozenAt k
      have hg := hown.lt g rfl
      have hp : (x.post q).f k = sw q (x.f k) := rfl
      by_cases e1 : x.f k = q + 1
      · have hst := (hown.stored k (.int .i64 ((x.post q).f k : Int))).1
        rw [mix_set _ _ hkn, hp, e1, sw_r] at hst
        have Hst := Lib.hid hst
        have Hb := Lib.hid (hbw.setCell (p := ⟨g, k, none⟩) hg.1 (.int .i64 (q : Int)))
        have ec2 := (Hb.out.cell (p := ⟨b, off + k, none⟩) hb).trans hc
        rw [e1, Int.natCast_add, show ((1 : Nat) : Int) = 1 from rfl] at ec ec2
        have t2 : ((q : Int) + 1 == (q : Int)) = false := by simp; omega
        clear hown hst hbw hp hc hg
        go_wp2_with fail
        go_roundw
        case rel => exact ⟨k + 1, hkn, by go_num, Hst.out, Hb.out⟩
        case measure => (simp [intOf] <;> omega)
      · by_cases e2 : x.f k = q
        · have hst := (hown.stored k (.int .i64 ((x.post q).f k : Int))).1
          rw [mix_set _ _ hkn, hp, e2, sw_l, Int.natCast_add, show ((1 : Nat) : Int) = 1 from rfl] at hst
          have Hst := Lib.hid hst
          have Hb := Lib.hid (hbw.setCell (p := ⟨g, k, none⟩) hg.1 (.int .i64 ((q : Int) + 1)))
          rw [e2] at ec
          have t2 : ((q : Int) == (q : Int) + 1) = false := by simp; omega
          clear hown hst hbw hp hc hg e1
          go_wp2_with fail
          go_roundw
          case rel => exact ⟨k + 1, hkn, by go_num, Hst.out, Hb.out⟩
          case measure => (simp [intOf] <;> omega)
        · have hsk := mix_skip (n := n) x.f (x.post q).f (k := k) (by rw [hp]; exact sw_o e2 e1)
          have Hown := Lib.hid (show wr.ownsRow w.heap.size 3 1 (.slice (some ⟨g, 0, none⟩) n cap) n ((mix n (k + 1) x.f (x.post q).f).map (Value.int .i64)) by rw [hsk]; exact hown)
          have t1 : ((x.f k : Int) == (q : Int) + 1) = false := by simp; omega
          have t2 : ((x.f k : Int) == (q : Int)) = false := by simp; omega
          clear hown hp hc hg e1 e2 hsk
          go_wp2_with fail
          go_roundw
          case rel => exact ⟨k + 1, hkn, by go_num, Hown.out, hbw⟩
          case measure => (simp [intOf] <;> omega)
    · have he : k = n := by omega
      have k1 : ¬ (k : Int) < (n : Int) := by omega
      rw [he, mix_all] at hown
      have Hown := Lib.hid hown
      clear hown he
      go_wp2_with fail
      go_ret
      exact ⟨_, rfl, Hown.out, hbw⟩
set_option maxHeartbeats 1000000 in
set_option maxRecDepth 100000 in
theorem reffin_any (n : Nat) (h1 : 1 ≤ n) (hn : n ≤ 12) (x : Pm) (hx : x.In n) (q : Nat) (hq : q + 1 < n) (r : Bool) (hr : r = true ↔ x.fin q) (v : Value) (w : World) (hv : IS w v (ints n x)) :
    Calls Try.prog 93 #[v, .int .i64 ((q : Int) + 1)] w fun e w' => e = .returned (.bool r) ∧ Below w.heap.size w w' := by
  have CE := Lib.hid (refends_any n hn x hx v w hv)
  have n0 : IntKind.i64.wrap ((q : Int) + 1 - 1) = (q : Int) := num_in (by omega) (by omega)
  have Hr := Lib.hid (show r = decide (x.g (q + 1) < x.g q) by rw [Bool.eq_iff_iff, hr]; unfold Pm.fin; simp)
  clear hr
  go_enter Try.func93, Try.ntmps93
  go_wp2_with fail
  refine CE.out.mono ?_
  rintro e w1 ⟨v1, rfl, O1, B1⟩
  obtain ⟨g, cap, rfl⟩ := own_pos O1 (by omega)
  have c0 : w1.cell? ⟨g, q, none⟩ = some (.int .i64 (x.g q : Int)) := by rw [O1.cellAt q (by omega), List.getElem?_map, ints_get x.inv (show q < n by omega)]; rfl
  have c1 : w1.cell? ⟨g, q + 1, none⟩ = some (.int .i64 (x.g (q + 1) : Int)) := by rw [O1.cellAt (q + 1) (by omega), List.getElem?_map, ints_get x.inv hq]; rfl
  have q0 : (0 : Int) ≤ (q : Int) := by omega
  have q1 : (q : Int) < (n : Int) := by omega
  have q2 : (q : Int) + 1 < (n : Int) := by omega
  have q3 : (0 : Int) ≤ (q : Int) + 1 := by omega
  have q4 : ((q : Int) + 1).toNat = q + 1 := by omega
  have B1' := Lib.hid B1
  clear O1 CE B1
  go_wp2_with fail
  go_quiet (fail)
  go_wp2_with fail
  go_ret
  exact ⟨by rw [Hr.out]; rfl, below_drewN B1'.out _⟩
theorem turn_all {n : Nat} {x : Pm} (hx : x.In n) {R : List Value} (hl : R.length = n) (h : ∀ i, i < n → R[n - 1 - i]? = some (.int .i64 ((n - 1 - x.f i : Nat) : Int))) : R = (ints n (tu n x)).map (Value.int .i64) := by
  apply List.ext_getElem?
  intro j
  rcases Nat.lt_or_ge j n with hj | hj
  · have h1 := h (n - 1 - j) (by omega)
    rw [show n - 1 - (n - 1 - j) = j by omega] at h1
    rw [h1, List.getElem?_map, ints_get _ hj]
    show _ = some (Value.int .i64 ((rev n (x.f (rev n j)) : Nat) : Int))
    have h2 : x.f (n - 1 - j) < n := hx.lt (by omega)
    rw [rev_lt hj, rev_lt h2]
  · rw [List.getElem?_eq_none (by omega), List.getElem?_eq_none (by rw [List.length_map, ints_len]; exact hj)]
set_option maxHeartbeats 1000000 in
set_option maxRecDepth 100000 in
theorem refturned_any (n : Nat) (h1 : 1 ≤ n) (hn : n ≤ 12) (x : Pm) (hx : x.In n) (v : Value) (w : World) (hv : IS w v (ints n x)) :
    Calls Try.prog 85 #[v] w fun e w' => ∃ v', e = .returned v' ∧ w'.ownsRow w.heap.size 3 1 v' n ((ints n (tu n x)).map (Value.int .i64)) ∧ Below w.heap.size w w' := by
  obtain ⟨sa, sc, rfl, k1, k2, _, hI⟩ := hv
  unfold maxLen at k2
  rw [ints_len] at k1 ⊢
  have HI := Lib.hid hI
  have Hx := Lib.hid hx
  have hmk := fun W => mk_full n (by omega) W
  have HO := Lib.hid (own_full n w.heap.size (by omega) w (Nat.le_refl _))
  have HB := Lib.hid (below_alloc w (.cells (madeCells #[.int .i64 0] n) 3))
  have Hl0 := Lib.hid (show (madeCells #[Value.int .i64 0] n).toList.length = n by rw [Array.length_toList, size_madeCells])
  clear hI hx
  go_enter Try.func85, Try.ntmps85
  go_wp2_with fail
  clear hmk
  go_loopw [5] (fun i wr => ∃ (k : Nat) (R : List Value), k ≤ n ∧ i = .int .i64 k ∧ wr.ownsRow w.heap.size 3 1 (.slice (some ⟨w.heap.size, 0, none⟩) n n) n R ∧ R.length = n ∧ (∀ i, i < k → R[n - 1 - i]? = some (.int .i64 ((n - 1 - x.f i : Nat) : Int))) ∧ Below w.heap.size w wr) (fun i _ => n - (intOf i).toNat)
  case atStart => exact ⟨0, _, Nat.zero_le _, rfl, HO.out, Hl0.out, fun i hi => by omega, HB.out⟩
  case round =>
    obtain ⟨k, R, hk, rfl, hown, hRl, hR, hbw⟩ := hrel
    have HR := Lib.hid hR
    have HRl := Lib.hid hRl
    clear hR hRl
    by_cases hkn : k < n
    · have k0 : (0 : Int) ≤ (k : Int) := by omega
      have k1 : (k : Int) < (n : Int) := by omega
      obtain ⟨b, off, rfl, hb, hc⟩ := HI.out k _ (ints_get x hkn)
      have ec := (hbw.cell (p := ⟨b, off + k, none⟩) hb).trans hc
      have hxk : x.f k < n := Hx.out.lt hkn
      have n1 : IntKind.i64.wrap ((n : Int) - 1) = ((n - 1 : Nat) : Int) := num_in (by omega) (by omega)
      have n2 : IntKind.i64.wrap (((n - 1 : Nat) : Int) - (k : Int)) = ((n - 1 - k : Nat) : Int) := num_in (by omega) (by omega)
      have n3 : IntKind.i64.wrap (((n - 1 : Nat) : Int) - (x.f k : Int)) = ((n - 1 - x.f k : Nat) : Int) := num_in (by omega) (by omega)
      have m0 : (0 : Int) ≤ ((n - 1 - k : Nat) : Int) := by omega
      have m1 : ((n - 1 - k : Nat) : Int) < (n : Int) := by omega
      have ck := hown.cellAt (n - 1 - k) (by omega)
      have fk := hown.frozenAt (n - 1 - k)
      obtain ⟨u, hu⟩ : ∃ u, R[n - 1 - k]? = some u := ⟨_, List.getElem?_eq_getElem (by rw [HRl.out]; omega)⟩
      rw [hu] at ck
      have hst := (hown.stored (n - 1 - k) (.int .i64 ((n - 1 - x.f k : Nat) : Int))).1
      have Hst := Lib.hid hst
      have Hb := Lib.hid (hbw.setCell (p := ⟨w.heap.size, n - 1 - k, none⟩) (Nat.le_refl _) (.int .i64 ((n - 1 - x.f k : Nat) : Int)))
      clear hown hst hbw hc
      go_wp2_with fail
      go_roundw
      case rel =>
        refine ⟨k + 1, _, hkn, by go_num, Hst.out, by rw [List.length_set]; exact HRl.out, fun i hi => ?_, Hb.out⟩
        rw [List.getElem?_set]
        by_cases e : i = k
        · subst e; rw [if_pos rfl, if_pos (by rw [HRl.out]; omega)]
        · rw [if_neg (by omega)]; exact HR.out i (by omega)
      case measure => (simp [intOf] <;> omega)
    · have he : k = n := by omega
      have k1 : ¬ (k : Int) < (n : Int) := by omega
      rw [he] at HR
      have e := turn_all Hx.out HRl.out HR.out
      rw [e] at hown
      have Hown := Lib.hid hown
      clear hown e he
      go_wp2_with fail
      go_ret
      exact ⟨_, rfl, Hown.out, hbw⟩
end Go.Proofs.Ytnfppebcpagjpaa
