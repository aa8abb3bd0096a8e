/- The reference's line, begins and least walked: permutations as slices of ints. -/
import Derived.Test.YtnfppebcpagjpaaCF
import Derived.Test.YtnfppebcpagjpaaCD
import Derived.Test.YtnfppebcpagjpaaCG
namespace Go.Proofs.Ytnfppebcpagjpaa
open Go.RowKit Go.Lib
theorem own_blk {w w' : World} {B C n g cap k : Nat} {e : TypeId} {xs : List Value} (h : w.ownsRow B e k (.slice (some ⟨g, 0, none⟩) n cap) n xs) (hg : g < C) (hb : Below C w w') : w'.ownsRow B e k (.slice (some ⟨g, 0, none⟩) n cap) n xs := by
  refine ⟨h.1, ?_⟩
  rcases h.2 with h0 | ⟨g', cap', cur, h0, h1, h2, h3⟩
  · exact .inl h0
  · cases h0
    exact .inr ⟨g, cap, cur, rfl, h1, (hb.block g hg).trans h2, h3⟩
theorem ints_get {n : Nat} (x : Pm) {k : Nat} (h : k < n) : (ints n x)[k]? = some (x.f k : Int) := by simp [ints, h]
theorem ints_take {n : Nat} (x : Pm) (k : Nat) : (ints n x).take k = ints (min k n) x := by
  unfold ints
  rw [← List.map_take, List.take_range]
theorem ints_more (n : Nat) (x : Pm) : ints (n + 1) x = ints n x ++ [(x.f n : Int)] := by simp [ints, List.range_succ]
set_option maxHeartbeats 400000 in
set_option maxRecDepth 100000 in
theorem refline_any (n : Nat) (hn : n ≤ 12) (w : World) :
    Calls Try.prog 56 #[.int .i64 (n : Int)] w fun e w' => ∃ v', e = .returned v' ∧ w'.ownsRow w.heap.size 3 1 v' n ((ints n idP).map (Value.int .i64)) ∧ Below w.heap.size w w' := by
  go_enter Try.func56, Try.ntmps56
  go_wp2_with fail
  go_loopw [3, 4] (fun vo i wr => ∃ (k : Nat) (D : List Int), k ≤ n ∧ D.length = k ∧ i = .int .i64 k ∧ D = ints k idP ∧ wr.ownsRow w.heap.size 3 1 vo D.length (D.map (Value.int .i64)) ∧ Below w.heap.size w wr) (fun _ i _ => n - (intOf i).toNat)
  case atStart => exact ⟨0, [], Nat.zero_le _, rfl, rfl, rfl, World.ownsRow_nil _ _ _ _, Below.refl _ w⟩
  case round =>
    obtain ⟨k, D, hk, hdk, rfl, hD, hown, hbw⟩ := hrel
    have Hown := Lib.hid hown
    have HD := Lib.hid hD
    have Hdk := Lib.hid hdk
    clear hown hD hdk
    have hbs := hbw.size
    by_cases hkl : k < n
    · have hkl' : (k : Int) < (n : Int) := by omega
      go_wp2_with (at_builtin; refine app_one (w0 := w) w.heap.size _ D (k : Int) rfl _ _ rfl rfl Hown.out rfl (by have := Hdk.out; omega) hbw hbs ?_; intro g cap w1 hown1 hb1)
      have HO1 := Lib.hid hown1
      clear hown1
      go_wp2_with fail
      go_roundw
      case rel => exact ⟨k + 1, D ++ [(k : Int)], hkl, by rw [List.length_append, Hdk.out]; rfl, by go_num, by rw [ints_more, HD.out]; rfl, by rw [List.length_append]; exact HO1.out, hb1⟩
      case measure => (simp [intOf] <;> omega)
    · have hkl' : ¬ (k : Int) < (n : Int) := by omega
      have e : k = n := by omega
      have Hf := Hown.out
      rw [Hdk.out, HD.out, e] at Hf
      have HF := Lib.hid Hf
      clear Hf Hown e
      go_wp2_with fail
      go_ret
      exact ⟨_, rfl, HF.out, hbw⟩
set_option maxHeartbeats 400000 in
set_option maxRecDepth 100000 in
theorem refbegins_any (n : Nat) (hn : n ≤ 12) (y : Pm) (j : Nat) (hj : j + 1 < n) (r : Bool) (hr : r = decide (y.beg j)) (v : Value) (w : World) (hv : IS w v (ints n y)) :
    Calls Try.prog 82 #[v, .int .i64 ((j : Int) + 1)] w fun e w' => e = .returned (.bool r) ∧ Below w.heap.size w w' := by
  obtain ⟨sa, sc, rfl, h1, h2, _, hI⟩ := hv
  rw [ints_len] at h1 ⊢
  obtain ⟨b, off, rfl, hb, c0⟩ := hI j _ (ints_get y (by omega))
  obtain ⟨b', off', e, _, c1⟩ := hI (j + 1) _ (ints_get y hj)
  cases e
  have n0 : IntKind.i64.wrap ((j : Int) + 1 - 1) = (j : Int) := num_in (by omega) (by omega)
  have n0' : IntKind.i64.wrap (j : Int) = (j : Int) := num_in (by omega) (by omega)
  have n1 : (0 : Int) ≤ (j : Int) := by omega
  have n2 : (j : Int) < (n : Int) := by omega
  have n3 : (0 : Int) ≤ (j : Int) + 1 := by omega
  have n4 : (j : Int) + 1 < (n : Int) := by omega
  have n5 : ((j : Int) + 1).toNat = j + 1 := by omega
  have hr' : r = decide (y.f (j + 1) < y.f j) := by rw [hr]; exact decide_eq_decide.2 Iff.rfl
  have Hr := Lib.hid hr'
  clear hr hr' hI
  go_enter Try.func82, Try.ntmps82
  go_wp2_with fail
  go_quiet (fail)
  go_wp2_with fail
  go_ret
  exact ⟨by rw [Hr.out]; rfl, below_drewN (Below.refl _ w) _⟩
theorem firstB_at {n j : Nat} {y : Pm} (hj : j + 1 < n) (hb : y.beg j) (hno : ∀ k, k < j → ¬ y.beg k) : firstB n y = some j := by
  unfold firstB
  rw [List.find?_eq_some_iff_getElem]
  refine ⟨by simpa using hb, j, by simp; omega, by simp, fun k hk => ?_⟩
  simpa using hno k hk
theorem firstB_no {n : Nat} {y : Pm} (hno : ∀ k, k + 1 < n → ¬ y.beg k) : firstB n y = none := by
  unfold firstB
  rw [List.find?_eq_none]
  intro k hk
  have := List.mem_range.1 hk
  simpa using hno k (by omega)
theorem leastF_len {n : Nat} : ∀ (m : Nat) (a : Pm), (leastF n m a).length ≤ m
  | 0, _ => by simp [leastF]
  | m + 1, a => by
    unfold leastF
    split
    · simp
    · have := leastF_len (n := n) m
      simp
      exact this _
theorem least_len {n : Nat} {a : Pm} (ha : a.In n) (hn : n ≤ 12) : (least n a).length ≤ 2000 := by
  have h1 : (least n a).length ≤ cost n a := leastF_len _ _
  have h2 := cost_lt ha
  have h3 : topC n ≤ 1729 := by
    unfold topC
    have : n * (n * n) ≤ 12 * (12 * 12) := Nat.mul_le_mul hn (Nat.mul_le_mul hn hn)
    omega
  omega
theorem ints_swap {n : Nat} (y : Pm) {j : Nat} (hj : j + 1 < n) : (((ints n y).map (Value.int .i64)).set j (.int .i64 (y.f (j + 1) : Int))).set (j + 1) (.int .i64 (y.f j : Int)) = (ints n (y.pre j)).map (Value.int .i64) := by
  apply List.ext_getElem?
  intro k
  rw [List.getElem?_set, List.getElem?_set, List.length_set, List.length_map, ints_len]
  rcases Nat.lt_or_ge k n with hk | hk
  · rw [List.getElem?_map, List.getElem?_map, ints_get _ hk, ints_get _ hk]
    show _ = some (Value.int .i64 (y.f (sw j k) : Int))
    by_cases h1 : j + 1 = k
    · subst h1; rw [if_pos rfl, if_pos hj, sw_r]
    · rw [if_neg h1]
      by_cases h2 : j = k
      · subst h2; rw [if_pos rfl, if_pos (by omega), sw_l]
      · rw [if_neg h2, sw_o (fun e => h2 e.symm) (fun e => h1 e.symm)]
        rfl
  · rw [if_neg (by omega), if_neg (by omega), List.getElem?_eq_none (by simp [ints_len]; omega), List.getElem?_eq_none (by simp [ints_len]; omega)]
theorem own_pos {w : World} {B n k : Nat} {e : TypeId} {v : Value} {xs : List Value} (h : w.ownsRow B e k v n xs) (hn : 0 < n) : ∃ g cap, v = .slice (some ⟨g, 0, none⟩) n cap := by
  rcases h.2 with ⟨_, h0⟩ | ⟨g, cap, _, rfl, _⟩
  · omega
  · exact ⟨g, cap, rfl⟩
theorem bon {a b c : World} (h : Below a.heap.size a b) (k : Below b.heap.size b c) : Below a.heap.size a c := h.trans (k.mono h.size)
set_option maxHeartbeats 1000000 in
set_option maxRecDepth 100000 in
theorem refleast_any (n : Nat) (h1 : 1 ≤ n) (hn : n ≤ 12) (x : Pm) (hx : x.In n) (v : Value) (w : World) (hv : IS w v (ints n x)) :
    Calls Try.prog 68 #[v] w fun e w' => ∃ v', e = .returned v' ∧ w'.ownsRow w.heap.size 3 1 v' (least n x).length ((least n x).map (Value.int .i64)) ∧ Below w.heap.size w w' := by
  obtain ⟨u, hu⟩ : ∃ u, u = v := ⟨_, rfl⟩
  have Hv := Lib.hid hv
  obtain ⟨sa, sc, rfl, _, _, _, _⟩ := hv
  have hl := least_len hx hn
  have Hx := Lib.hid hx
  have Hl := Lib.hid hl
  clear hx hl
  have hil := Lib.hid (ints_len n x)
  have B0 : Below w.heap.size w (w.alloc (.cells #[] 3)) := below_alloc w _
  have HA := Lib.hid (Hv.out.below B0)
  go_enter Try.func68, Try.ntmps68
  go_wp2_with (at_builtin; refine app_all (w0 := w) w.heap.size _ [] (ints n x) rfl _ _ rfl rfl (World.ownsRow_made _ #[] 0 (Nat.le_refl _) (Nat.zero_le _) rfl) _ rfl HA.out (by rw [hil.out]; simp; omega) B0 B0.size ?_; intro v1 w1 O1 B1)
  rw [List.nil_append, ints_len] at O1
  obtain ⟨g, cap, rfl⟩ := own_pos O1 (by omega)
  have hg := O1.lt g rfl
  have hgs : g + 1 ≤ w1.heap.size := hg.2
  have hgw : w.heap.size ≤ g := hg.1
  have HO1 := Lib.hid O1
  clear O1 hg HA B0
  go_wp2_with fail
  go_loopg [3, 4] (cost n x * (n + 1) + n) (fun G vo s4 wr => ∃ (j : Nat) (y : Pm) (D : List Int), G = cost n y * (n + 1) + (n - j) ∧ y.In n ∧ D ++ least n y = least n x ∧ s4 = .int .i64 ((j : Int) + 1) ∧ j + 1 ≤ n ∧ (∀ k, k < j → ¬ y.beg k) ∧
    wr.ownsRow w.heap.size 3 1 (.slice (some ⟨g, 0, none⟩) n cap) n ((ints n y).map (Value.int .i64)) ∧ wr.ownsRow (g + 1) 3 1 vo D.length (D.map (Value.int .i64)) ∧ Below w.heap.size w wr ∧ g + 1 ≤ wr.heap.size)
  case atStart => exact ⟨0, x, [], by omega, Hx.out, rfl, rfl, h1, fun k hk => by omega, HO1.out, World.ownsRow_nil _ _ _ _, B1, hgs⟩
  case round =>
    obtain ⟨j, y, D, hG, hy, hD, rfl, hjn, hno, hp, ho, hbw, hgs⟩ := hrel
    have HG := Lib.hid hG
    have HD := Lib.hid hD
    have Hno := Lib.hid hno
    have Hp := Lib.hid hp
    have Ho := Lib.hid ho
    have hDl : D.length ≤ 2000 := by
      have := congrArg List.length hD
      rw [List.length_append] at this
      have := Hl.out
      omega
    have j0 : (0 : Int) ≤ (j : Int) := by omega
    by_cases hjl : j + 1 < n
    · have hji : (j : Int) + 1 < (n : Int) := by omega
      have hpI := Lib.hid (is_own hp (ints_len n y))
      by_cases hb : y.beg j
      · have hstep := least_step hy (firstB_at hjl hb hno)
        have hcp := cost_pre hy hjl hb
        have hnext : D ++ [(j : Int) + 1] ++ least n (y.pre j) = least n x := by rw [← hD, hstep]; simp
        have Hnext := Lib.hid hnext
        have hyp := hy.pre hjl
        clear hG hD hno hp ho hstep hnext hy
        go_wp2_with fail
        refine (refbegins_any n hn y j hjl true (by simp [hb]) _ wr hpI.out).mono ?_
        rintro e w2 ⟨rfl, B2⟩
        have hp2 := own_blk Hp.out (Nat.lt_of_succ_le hgs) B2
        have ho2 := own_below Ho.out B2
        have hbw2 := bon hbw B2
        have hgs2 := Nat.le_trans hgs B2.size
        have e0 : w2.cell? ⟨g, j, none⟩ = some (.int .i64 (y.f j : Int)) := by rw [hp2.cellAt j (by omega), List.getElem?_map, ints_get y (by omega)]; rfl
        have e1 : w2.cell? ⟨g, j + 1, none⟩ = some (.int .i64 (y.f (j + 1) : Int)) := by rw [hp2.cellAt (j + 1) (by omega), List.getElem?_map, ints_get y hjl]; rfl
        have f0 := hp2.frozenAt j
        have f1 := hp2.frozenAt (j + 1)
        have hs1 := (hp2.stored j (.int .i64 (y.f (j + 1) : Int))).1
        have hs2 := (hs1.stored (j + 1) (.int .i64 (y.f j : Int))).1
        rw [ints_swap y hjl] at hs2
        have Hs2 := Lib.hid hs2
        have Ho2 := Lib.hid (ownsRow_setCell_below (ownsRow_setCell_below ho2 (a := ⟨g, j, none⟩) (Nat.lt_succ_self g) (.int .i64 (y.f (j + 1) : Int))) (a := ⟨g, j + 1, none⟩) (Nat.lt_succ_self g) (.int .i64 (y.f j : Int)))
        have Hbw2 := Lib.hid ((hbw2.setCell (p := ⟨g, j, none⟩) hgw (.int .i64 (y.f (j + 1) : Int))).setCell (p := ⟨g, j + 1, none⟩) hgw (.int .i64 (y.f j : Int)))
        have n0 : IntKind.i64.wrap (j : Int) = (j : Int) := num_in (by omega) (by omega)
        have n5 : ((j : Int) + 1).toNat = j + 1 := by omega
        have n3 : (0 : Int) ≤ (j : Int) + 1 := by omega
        have n6 : (j : Int) < (n : Int) := by omega
        clear hp2 ho2 hbw2 hs1 hs2 hpI Hp Ho hbw B2
        go_wp2_with fail
        go_region
        have Hs3 := Lib.hid Hs2.out.drew
        have Ho3 := Lib.hid Ho2.out.drew
        have Hb3 := Lib.hid Hbw2.out.drew
        clear Hs2 Ho2 Hbw2 e0 e1 f0 f1
        obtain ⟨W3, hW3⟩ : ∃ W3, W3 = ((w2.setCell ⟨g, j, none⟩ (.int .i64 (y.f (j + 1) : Int))).setCell ⟨g, j + 1, none⟩ (.int .i64 (y.f j : Int))).drew := ⟨_, rfl⟩
        rw [← hW3] at Hs3 Ho3 Hb3 ⊢
        clear hW3
        have hgs3 : g + 1 ≤ W3.heap.size := (Hs3.out.lt g rfl).2
        obtain ⟨ao, co, rfl⟩ := own_form Ho3.out
        go_wp2_with (at_builtin; refine app_one (w0 := W3) (g + 1) _ D ((j : Int) + 1) rfl _ _ rfl rfl Ho3.out rfl (by omega) (Below.refl _ _) hgs3 ?_; intro g4 cap4 w4 hown4 hb4)
        have HO4 := Lib.hid hown4
        have Hp4 := Lib.hid (own_blk Hs3.out (Nat.lt_succ_self g) hb4)
        have Hb4 := Lib.hid (Hb3.out.trans (hb4.mono (by omega)))
        have hgs4 := Nat.le_trans hgs3 hb4.size
        clear hown4 Hs3 Ho3 Hb3
        go_wp2_with fail
        go_roundg (cost n (y.pre j) * (n + 1) + n)
        case measure =>
          rw [HG.out]
          have : (cost n (y.pre j) + 1) * (n + 1) ≤ cost n y * (n + 1) := Nat.mul_le_mul hcp (Nat.le_refl _)
          rw [Nat.add_mul] at this
          omega
        case rel => exact ⟨0, y.pre j, D ++ [(j : Int) + 1], by omega, hyp, Hnext.out, by go_num, h1, fun k hk => by omega, Hp4.out, by rw [List.length_append]; exact HO4.out, Hb4.out, hgs4⟩
      · clear hG hD hno hp ho
        go_wp2_with fail
        refine (refbegins_any n hn y j hjl false (by simp [hb]) _ wr hpI.out).mono ?_
        rintro e w2 ⟨rfl, B2⟩
        have Hp2 := Lib.hid (own_blk Hp.out (Nat.lt_of_succ_le hgs) B2)
        have Ho2 := Lib.hid (own_below Ho.out B2)
        have Hb2 := Lib.hid (bon hbw B2)
        have hgs2 := Nat.le_trans hgs B2.size
        clear Hp Ho hbw B2
        go_wp2_with fail
        go_roundg (cost n y * (n + 1) + (n - (j + 1)))
        case measure =>
          rw [HG.out]
          omega
        case rel => exact ⟨j + 1, y, D, rfl, hy, HD.out, by go_num, hjl, fun k hk => by
            by_cases e : k = j
            · subst e; exact hb
            · exact Hno.out k (by omega), Hp2.out, Ho2.out, Hb2.out, hgs2⟩
    · have hji : ¬ (j : Int) + 1 < (n : Int) := by omega
      have hl0 := least_none hy (firstB_no (fun k hk => hno k (by omega)))
      rw [hl0, List.append_nil] at hD
      have Hf := ho
      rw [hD] at Hf
      have HF := Lib.hid (own_mono Hf (by omega : w.heap.size ≤ g + 1))
      clear hG hno hp ho hl0 Hf HD hD
      go_wp2_with fail
      go_ret
      exact ⟨_, rfl, HF.out, hbw⟩
end Go.Proofs.Ytnfppebcpagjpaa
