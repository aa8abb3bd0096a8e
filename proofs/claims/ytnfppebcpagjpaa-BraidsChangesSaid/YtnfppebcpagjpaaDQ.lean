/- The law's changed walked: a changed word is the same braid. -/
import Derived.Test.YtnfppebcpagjpaaDP
namespace Go.Proofs.Ytnfppebcpagjpaa
open Go.RowKit Go.Lib
theorem swap_set {α : Type} (X Y : List α) (a c : α) : ((X ++ a :: c :: Y).set X.length c).set (X.length + 1) a = X ++ c :: a :: Y := by
  simp
theorem swap_set3 {α : Type} (X Y : List α) (a c : α) : (((X ++ a :: c :: a :: Y).set X.length c).set (X.length + 1) a).set (X.length + 2) c = X ++ c :: a :: c :: Y := by
  simp
set_option maxHeartbeats 4000000 in
set_option maxRecDepth 100000 in
theorem changed_hi (n : Nat) (h1 : 1 ≤ n) (hn : n ≤ 12) (ws : List Int) (hw : Word n ws) (hl : ws.length ≤ 200) (kd at_ ii : Nat) (hk : n < 2 ∨ 2 ≤ kd % 4) (b1 : kd < 256) (b2 : at_ < 256) (b3 : ii < 256) (v : Value) (w : World) (hv : IS w v ws) :
    Calls Try.prog 45 #[.int .i64 (n : Int), v, .agg #[.int .u8 kd, .int .u8 at_, .int .u8 ii]] w fun e w' => ∃ v' ys, e = .returned v' ∧ IS w' v' ys ∧ Eqv n ws ys ∧ ys.length ≤ ws.length + 2 ∧ Below w.heap.size w w' := by
  have Hv := Lib.hid hv
  obtain ⟨sa, sc, rfl, k1, k2, k3, hI⟩ := hv
  unfold maxLen at k2
  have HI := Lib.hid hI
  have Hw := Lib.hid hw
  clear hI hw
  by_cases h2 : n < 2
  · have h2' : (n : Int) < 2 := by omega
    go_enter Try.func45, Try.ntmps45
    go_wp2_with fail
    go_ret
    exact ⟨_, ws, rfl, Hv.out.below (below_alloc _ _), .refl _, by omega, below_alloc _ _⟩
  · have h2' : ¬ (n : Int) < 2 := by omega
    obtain ⟨W0, hW0⟩ : ∃ W0, W0 = w.alloc (.cells #[.int .u8 kd, .int .u8 at_, .int .u8 ii] 53) := ⟨_, rfl⟩
    have hz0 : W0.heap.size = w.heap.size + 1 := by rw [hW0]; simp
    have hr0 : W0.heap[w.heap.size]? = some (.cells #[.int .u8 kd, .int .u8 at_, .int .u8 ii] 53 (0, 0)) := by rw [hW0]; exact heap_alloc_new _ _
    have c0 : W0.cell? ⟨w.heap.size, 0, none⟩ = some (.int .u8 kd) := cell_of_row W0 _ 0 _ _ _ hr0
    have c1 : W0.cell? ⟨w.heap.size, 1, none⟩ = some (.int .u8 at_) := cell_of_row W0 _ 1 _ _ _ hr0
    have c2 : W0.cell? ⟨w.heap.size, 2, none⟩ = some (.int .u8 ii) := cell_of_row W0 _ 2 _ _ _ hr0
    have HBW := Lib.hid (show Below w.heap.size w W0 by rw [hW0]; exact below_alloc _ _)
    have BA2 := below_alloc W0 (.cells #[] 3)
    have HA := Lib.hid ((Hv.out.below HBW.out).below BA2)
    rw [hz0] at BA2
    have HB := Lib.hid BA2
    have HO := Lib.hid (show (W0.alloc (.cells #[] 3)).ownsRow (w.heap.size + 1) 3 1 (.slice (some ⟨w.heap.size + 1, 0, none⟩) 0 0) 0 (([] : List Int).map (Value.int .i64)) from by
      have h := World.ownsRow_made (base := w.heap.size + 1) (e := 3) (size := 1) W0 #[] 0 (by omega) (Nat.zero_le _) rfl
      rw [hz0] at h
      exact h)
    have hz1 : (W0.alloc (.cells #[] 3)).heap.size = w.heap.size + 1 + 1 := by simp [hz0]
    have Hz1 := Lib.hid hz1
    have hWr := hW0.symm
    clear BA2 hr0 hz1 hW0
    obtain ⟨p, hp⟩ : ∃ p : Nat, (at_ : Int) % ((ws.length : Int) + 1) = (p : Int) := ⟨((at_ : Int) % ((ws.length : Int) + 1)).toNat, (Int.toNat_of_nonneg (Int.emod_nonneg _ (by omega))).symm⟩
    obtain ⟨j, hj⟩ : ∃ j : Nat, (ii : Int) % ((n : Int) - 1) = (j : Int) := ⟨((ii : Int) % ((n : Int) - 1)).toNat, (Int.toNat_of_nonneg (Int.emod_nonneg _ (by omega))).symm⟩
    have hpl : p ≤ ws.length := by have := Int.emod_lt_of_pos (at_ : Int) (show (0 : Int) < (ws.length : Int) + 1 by omega); omega
    have hjl : j + 1 < n := by have := Int.emod_lt_of_pos (ii : Int) (show (0 : Int) < (n : Int) - 1 by omega); omega
    by_cases q2 : kd % 4 = 2
    · have q2' : (kd : Int) % 4 = 2 := by omega
      go_enter Try.func45, Try.ntmps45
      go_wp2_with (at_builtin; go_loud (refine app_all (w0 := W0) (w.heap.size + 1) _ [] ws rfl _ _ rfl rfl HO.out _ rfl HA.out (by simp; omega) HB.out (by rw [Hz1.out]; omega) ?_); intro v1 w1 O1 B1; rw [List.nil_append] at O1; have HO1 := Lib.hid O1; clear O1; have d0 := (B1.cell (p := ⟨w.heap.size, 0, none⟩) (Nat.lt_succ_self _)).trans c0)
      have HBw := Lib.hid (HBW.out.trans (B1.mono (Nat.le_succ _)))
      have Hc0 := Lib.hid c0
      clear c0 c1 c2 d0 B1 HA HB HO
      by_cases hp1 : p + 1 < ws.length
      · have hp1' : (p : Int) + 1 < (ws.length : Int) := by omega
        obtain ⟨a, ha⟩ : ∃ a, ws[p]? = some a := ⟨_, List.getElem?_eq_getElem (by omega)⟩
        obtain ⟨c, hc⟩ : ∃ c, ws[p + 1]? = some c := ⟨_, List.getElem?_eq_getElem hp1⟩
        obtain ⟨b, off, rfl, hb, hca⟩ := HI.out p a ha
        obtain ⟨b', off', hbb, hb', hcc⟩ := HI.out (p + 1) c hc
        cases hbb
        have ea := (HBw.out.cell (p := ⟨b, off + p, none⟩) hb).trans hca
        have ec := (HBw.out.cell (p := ⟨b, off + (p + 1), none⟩) hb).trans hcc
        have la := Hw.out a (List.mem_of_getElem? ha)
        have lc := Hw.out c (List.mem_of_getElem? hc)
        have hsplit : ws = ws.take p ++ a :: c :: ws.drop (p + 2) := by
          conv => lhs; rw [← List.take_append_drop p ws]
          rw [List.drop_eq_getElem_cons (by omega), List.drop_eq_getElem_cons (by omega)]
          rw [Option.some.inj ((List.getElem?_eq_getElem (show p < ws.length by omega)).symm.trans ha), Option.some.inj ((List.getElem?_eq_getElem (show p + 1 < ws.length by omega)).symm.trans hc)]
        have Hsp := Lib.hid hsplit
        have p0 : (0 : Int) ≤ (p : Int) := by omega
        have p1 : (p : Int) < (ws.length : Int) := by omega
        have Hca := Lib.hid hca
        have Hcc := Lib.hid hcc
        have Ha := Lib.hid ha
        have Hc := Lib.hid hc
        clear hca hcc ha hc hsplit
        obtain ⟨g, cap, rfl⟩ := own_pos HO1.out (by omega)
        by_cases hf : Far a c
        · have CA := Lib.hid (fun w => apart_any a c la.1 lc.1 ⟨by have := la.2; omega, by have := la.2; omega⟩ ⟨by have := lc.2; omega, by have := lc.2; omega⟩ true ⟨fun _ => hf, fun _ => rfl⟩ w)
          have Hf := Lib.hid hf
          clear la lc hf
          go_quiet ((go_at_call 74; refine Calls.quiet_of_same (CA.out _)))
          rename_i nq
          have BD : Below w1.heap.size w1 (w1.drewN nq) := below_drewN (Below.refl _ _) _
          obtain ⟨W2, hW2⟩ : ∃ W2, W2 = w1.drewN nq := ⟨_, rfl⟩
          rw [← hW2] at BD ⊢
          have hB2 := bon HBw.out BD
          have HO2 := own_below HO1.out BD
          have ea2 := (hB2.cell (p := ⟨b, off + p, none⟩) hb).trans Hca.out
          have ec2 := (hB2.cell (p := ⟨b, off + (p + 1), none⟩) hb).trans Hcc.out
          have g0 : W2.cell? ⟨g, p, none⟩ = some (.int .i64 a) := by rw [HO2.cellAt p (by omega), List.getElem?_map, Ha.out]; rfl
          have g1 : W2.cell? ⟨g, p + 1, none⟩ = some (.int .i64 c) := by rw [HO2.cellAt (p + 1) (by omega), List.getElem?_map, Hc.out]; rfl
          have f0 := HO2.frozenAt p
          have f1 := HO2.frozenAt (p + 1)
          have hg := (HO2.lt g rfl).1
          have hs1 := (HO2.stored p (.int .i64 c)).1
          have hs2 := (hs1.stored (p + 1) (.int .i64 a)).1
          have hset : (((ws.map (Value.int .i64)).set p (.int .i64 c)).set (p + 1) (.int .i64 a)) = ((ws.take p ++ c :: a :: ws.drop (p + 2)).map (Value.int .i64)) := by
            conv => lhs; rw [Hsp.out]
            have hX : p = ((ws.take p).map (Value.int .i64)).length := by rw [List.length_map, List.length_take]; omega
            rw [List.map_append, List.map_cons, List.map_cons]
            have := swap_set ((ws.take p).map (Value.int .i64)) ((ws.drop (p + 2)).map (Value.int .i64)) (.int .i64 a) (.int .i64 c)
            rw [← hX] at this
            rw [this, List.map_append, List.map_cons, List.map_cons]
          rw [hset] at hs2
          have Hs2 := Lib.hid hs2
          have HB2 := Lib.hid ((hB2.setCell (p := ⟨g, p, none⟩) (by show w.heap.size ≤ g; omega) (.int .i64 c)).setCell (p := ⟨g, p + 1, none⟩) (by show w.heap.size ≤ g; omega) (.int .i64 a))
          clear hs1 hs2 hset HO2 hB2 BD hW2 ea ec
          go_wp2_with fail
          go_region
          have Hs3 := Lib.hid Hs2.out.drew
          have HB3 := Lib.hid HB2.out.drew
          clear Hs2 HB2 g0 g1 f0 f1
          go_wp2_with fail
          go_ret
          have hlen : (ws.take p ++ c :: a :: ws.drop (p + 2)).length = ws.length := by
            conv => rhs; rw [Hsp.out]
            simp
          have hE := Eqv.far (n := n) (ws.take p) (ws.drop (p + 2)) Hf.out
          rw [← Hsp.out] at hE
          exact ⟨_, _, rfl, is_own Hs3.out hlen, hE, by omega, HB3.out⟩
        · have CA := Lib.hid (fun w => apart_any a c la.1 lc.1 ⟨by have := la.2; omega, by have := la.2; omega⟩ ⟨by have := lc.2; omega, by have := lc.2; omega⟩ false ⟨fun h => (by cases h), fun h => absurd h hf⟩ w)
          clear la lc hf
          go_quiet ((go_at_call 74; refine Calls.quiet_of_same (CA.out _)))
          rename_i nq
          have BD : Below w1.heap.size w1 (w1.drewN nq) := below_drewN (Below.refl _ _) _
          go_wp2_with fail
          go_ret
          exact ⟨_, ws, rfl, (is_own HO1.out rfl).below BD, .refl _, by omega, bon HBw.out BD⟩
      · have hp1' : decide ((p : Int) + 1 < (ws.length : Int)) = false := decide_eq_false (by omega)
        go_quiet (fail)
        rename_i nq
        have BD : Below w1.heap.size w1 (w1.drewN nq) := below_drewN (Below.refl _ _) _
        go_wp2_with fail
        go_ret
        exact ⟨_, ws, rfl, (is_own HO1.out rfl).below BD, .refl _, by omega, bon HBw.out BD⟩
    · by_cases q3 : kd % 4 = 3
      · have q3' : (kd : Int) % 4 = 3 := by omega
        go_enter Try.func45, Try.ntmps45
        go_wp2_with (at_builtin; go_loud (refine app_all (w0 := W0) (w.heap.size + 1) _ [] ws rfl _ _ rfl rfl HO.out _ rfl HA.out (by simp; omega) HB.out (by rw [Hz1.out]; omega) ?_); intro v1 w1 O1 B1; rw [List.nil_append] at O1; have HO1 := Lib.hid O1; clear O1; have d0 := (B1.cell (p := ⟨w.heap.size, 0, none⟩) (Nat.lt_succ_self _)).trans c0)
        have HBw := Lib.hid (HBW.out.trans (B1.mono (Nat.le_succ _)))
        have Hc0 := Lib.hid c0
        clear c0 c1 c2 d0 B1 HA HB HO
        by_cases hp2 : p + 2 < ws.length
        · have hp2' : (p : Int) + 2 < (ws.length : Int) := by omega
          obtain ⟨a, ha⟩ : ∃ a, ws[p]? = some a := ⟨_, List.getElem?_eq_getElem (by omega)⟩
          obtain ⟨c, hc⟩ : ∃ c, ws[p + 1]? = some c := ⟨_, List.getElem?_eq_getElem (by omega)⟩
          obtain ⟨d, hd⟩ : ∃ d, ws[p + 2]? = some d := ⟨_, List.getElem?_eq_getElem hp2⟩
          obtain ⟨b, off, rfl, hb, hca⟩ := HI.out p a ha
          obtain ⟨b', off', hbb, hb', hcc⟩ := HI.out (p + 1) c hc
          cases hbb
          obtain ⟨b', off', hbb, hb', hcd⟩ := HI.out (p + 2) d hd
          cases hbb
          have ea := (HBw.out.cell (p := ⟨b, off + p, none⟩) hb).trans hca
          have ec := (HBw.out.cell (p := ⟨b, off + (p + 1), none⟩) hb).trans hcc
          have ed := (HBw.out.cell (p := ⟨b, off + (p + 2), none⟩) hb).trans hcd
          have la := Hw.out a (List.mem_of_getElem? ha)
          have lc := Hw.out c (List.mem_of_getElem? hc)
          have hsplit : ws = ws.take p ++ a :: c :: d :: ws.drop (p + 3) := by
            conv => lhs; rw [← List.take_append_drop p ws]
            rw [List.drop_eq_getElem_cons (by omega), List.drop_eq_getElem_cons (by omega), List.drop_eq_getElem_cons (by omega)]
            rw [Option.some.inj ((List.getElem?_eq_getElem (show p < ws.length by omega)).symm.trans ha), Option.some.inj ((List.getElem?_eq_getElem (show p + 1 < ws.length by omega)).symm.trans hc), Option.some.inj ((List.getElem?_eq_getElem (show p + 1 + 1 < ws.length by omega)).symm.trans hd)]
          have Hsp := Lib.hid hsplit
          have p0 : (0 : Int) ≤ (p : Int) := by omega
          have p1 : (p : Int) < (ws.length : Int) := by omega
          have p2 : (p : Int) + 1 < (ws.length : Int) := by omega
          have Hca := Lib.hid hca
          have Hcc := Lib.hid hcc
          have Ha := Lib.hid ha
          have Hc := Lib.hid hc
          have Hd := Lib.hid hd
          have la1 : -12 < a ∧ a < 12 := ⟨by have := la.2; omega, by have := la.2; omega⟩
          have lc1 : -12 < c ∧ c < 12 := ⟨by have := lc.2; omega, by have := lc.2; omega⟩
          have lan : a < n := la.2.2
          have lcn : c < n := lc.2.2
          clear hca hcc hcd ha hc hd hsplit la lc
          obtain ⟨g, cap, rfl⟩ := own_pos HO1.out (by omega)
          by_cases e1 : a = d
          · subst e1
            by_cases e2 : c = a + 1
            · have e2' : (c == a + 1) = true := by simpa using e2
              have He2 := Lib.hid e2
              clear e2
              by_cases a0 : 0 < a
              · have a0' : (0 : Int) < a := a0
                by_cases c0 : 0 < c
                · have c0' : (0 : Int) < c := c0
                  go_quiet (fail)
                  rename_i nq
                  have BD : Below w1.heap.size w1 (w1.drewN nq) := below_drewN (Below.refl _ _) _
                  obtain ⟨W2, hW2⟩ : ∃ W2, W2 = w1.drewN nq := ⟨_, rfl⟩
                  rw [← hW2] at BD ⊢
                  have hB2 := bon HBw.out BD
                  have HO2 := own_below HO1.out BD
                  have ea2 := (hB2.cell (p := ⟨b, off + p, none⟩) hb).trans Hca.out
                  have ec2 := (hB2.cell (p := ⟨b, off + (p + 1), none⟩) hb).trans Hcc.out
                  have g0 : W2.cell? ⟨g, p, none⟩ = some (.int .i64 a) := by rw [HO2.cellAt p (by omega), List.getElem?_map, Ha.out]; rfl
                  have g1 : W2.cell? ⟨g, p + 1, none⟩ = some (.int .i64 c) := by rw [HO2.cellAt (p + 1) (by omega), List.getElem?_map, Hc.out]; rfl
                  have g2 : W2.cell? ⟨g, p + 2, none⟩ = some (.int .i64 a) := by rw [HO2.cellAt (p + 2) (by omega), List.getElem?_map, Hd.out]; rfl
                  have f0 := HO2.frozenAt p
                  have f1 := HO2.frozenAt (p + 1)
                  have f2 := HO2.frozenAt (p + 2)
                  have hg := (HO2.lt g rfl).1
                  have hs1 := (HO2.stored p (.int .i64 c)).1
                  have hs2 := (hs1.stored (p + 1) (.int .i64 a)).1
                  have hs3 := (hs2.stored (p + 2) (.int .i64 c)).1
                  have hset : ((((ws.map (Value.int .i64)).set p (.int .i64 c)).set (p + 1) (.int .i64 a)).set (p + 2) (.int .i64 c)) = ((ws.take p ++ c :: a :: c :: ws.drop (p + 3)).map (Value.int .i64)) := by
                    conv => lhs; rw [Hsp.out]
                    have hX : p = ((ws.take p).map (Value.int .i64)).length := by rw [List.length_map, List.length_take]; omega
                    rw [List.map_append, List.map_cons, List.map_cons, List.map_cons]
                    have := swap_set3 ((ws.take p).map (Value.int .i64)) ((ws.drop (p + 3)).map (Value.int .i64)) (.int .i64 a) (.int .i64 c)
                    rw [← hX] at this
                    rw [this, List.map_append, List.map_cons, List.map_cons, List.map_cons]
                  rw [hset] at hs3
                  have Hs2 := Lib.hid hs3
                  have HB2 := Lib.hid (((hB2.setCell (p := ⟨g, p, none⟩) (by show w.heap.size ≤ g; omega) (.int .i64 c)).setCell (p := ⟨g, p + 1, none⟩) (by show w.heap.size ≤ g; omega) (.int .i64 a)).setCell (p := ⟨g, p + 2, none⟩) (by show w.heap.size ≤ g; omega) (.int .i64 c))
                  clear hs1 hs2 hs3 hset HO2 hB2 BD hW2 ea ec ed
                  go_wp2_with fail
                  go_region
                  have Hs3 := Lib.hid Hs2.out.drew
                  have HB3 := Lib.hid HB2.out.drew
                  clear Hs2 HB2 g0 g1 g2 f0 f1 f2
                  go_wp2_with fail
                  go_ret
                  have hlen : (ws.take p ++ c :: a :: c :: ws.drop (p + 3)).length = ws.length := by
                    conv => rhs; rw [Hsp.out]
                    simp
                  have hE := Eqv.braid (n := n) (ws.take p) (ws.drop (p + 3)) a0 (by have := He2.out; omega)
                  rw [← He2.out] at hE
                  rw [← Hsp.out] at hE
                  exact ⟨_, _, rfl, is_own Hs3.out hlen, hE, by omega, HB3.out⟩
                · have c0' : decide ((0 : Int) < c) = false := decide_eq_false c0
                  go_quiet (fail)
                  rename_i nq
                  have BD : Below w1.heap.size w1 (w1.drewN nq) := below_drewN (Below.refl _ _) _
                  go_wp2_with fail
                  go_ret
                  exact ⟨_, rfl, ws, (is_own HO1.out rfl).below BD, .refl _, by omega, bon HBw.out BD⟩
              · have a0' : decide ((0 : Int) < a) = false := decide_eq_false a0
                go_quiet (fail)
                rename_i nq
                have BD : Below w1.heap.size w1 (w1.drewN nq) := below_drewN (Below.refl _ _) _
                go_wp2_with fail
                go_ret
                exact ⟨_, rfl, ws, (is_own HO1.out rfl).below BD, .refl _, by omega, bon HBw.out BD⟩
            · have e2' : (c == a + 1) = false := by simpa using e2
              by_cases e3 : c = a - 1
              · have e3' : (c == a - 1) = true := by simpa using e3
                have He3 := Lib.hid e3
                clear e3 e2
                by_cases a0 : 0 < a
                · have a0' : (0 : Int) < a := a0
                  by_cases c0 : 0 < c
                  · have c0' : (0 : Int) < c := c0
                    go_quiet (fail)
                    rename_i nq
                    have BD : Below w1.heap.size w1 (w1.drewN nq) := below_drewN (Below.refl _ _) _
                    obtain ⟨W2, hW2⟩ : ∃ W2, W2 = w1.drewN nq := ⟨_, rfl⟩
                    rw [← hW2] at BD ⊢
                    have hB2 := bon HBw.out BD
                    have HO2 := own_below HO1.out BD
                    have ea2 := (hB2.cell (p := ⟨b, off + p, none⟩) hb).trans Hca.out
                    have ec2 := (hB2.cell (p := ⟨b, off + (p + 1), none⟩) hb).trans Hcc.out
                    have g0 : W2.cell? ⟨g, p, none⟩ = some (.int .i64 a) := by rw [HO2.cellAt p (by omega), List.getElem?_map, Ha.out]; rfl
                    have g1 : W2.cell? ⟨g, p + 1, none⟩ = some (.int .i64 c) := by rw [HO2.cellAt (p + 1) (by omega), List.getElem?_map, Hc.out]; rfl
                    have g2 : W2.cell? ⟨g, p + 2, none⟩ = some (.int .i64 a) := by rw [HO2.cellAt (p + 2) (by omega), List.getElem?_map, Hd.out]; rfl
                    have f0 := HO2.frozenAt p
                    have f1 := HO2.frozenAt (p + 1)
                    have f2 := HO2.frozenAt (p + 2)
                    have hg := (HO2.lt g rfl).1
                    have hs1 := (HO2.stored p (.int .i64 c)).1
                    have hs2 := (hs1.stored (p + 1) (.int .i64 a)).1
                    have hs3 := (hs2.stored (p + 2) (.int .i64 c)).1
                    have hset : ((((ws.map (Value.int .i64)).set p (.int .i64 c)).set (p + 1) (.int .i64 a)).set (p + 2) (.int .i64 c)) = ((ws.take p ++ c :: a :: c :: ws.drop (p + 3)).map (Value.int .i64)) := by
                      conv => lhs; rw [Hsp.out]
                      have hX : p = ((ws.take p).map (Value.int .i64)).length := by rw [List.length_map, List.length_take]; omega
                      rw [List.map_append, List.map_cons, List.map_cons, List.map_cons]
                      have := swap_set3 ((ws.take p).map (Value.int .i64)) ((ws.drop (p + 3)).map (Value.int .i64)) (.int .i64 a) (.int .i64 c)
                      rw [← hX] at this
                      rw [this, List.map_append, List.map_cons, List.map_cons, List.map_cons]
                    rw [hset] at hs3
                    have Hs2 := Lib.hid hs3
                    have HB2 := Lib.hid (((hB2.setCell (p := ⟨g, p, none⟩) (by show w.heap.size ≤ g; omega) (.int .i64 c)).setCell (p := ⟨g, p + 1, none⟩) (by show w.heap.size ≤ g; omega) (.int .i64 a)).setCell (p := ⟨g, p + 2, none⟩) (by show w.heap.size ≤ g; omega) (.int .i64 c))
                    clear hs1 hs2 hs3 hset HO2 hB2 BD hW2 ea ec ed
                    go_wp2_with fail
                    go_region
                    have Hs3 := Lib.hid Hs2.out.drew
                    have HB3 := Lib.hid HB2.out.drew
                    clear Hs2 HB2 g0 g1 g2 f0 f1 f2
                    go_wp2_with fail
                    go_ret
                    have hlen : (ws.take p ++ c :: a :: c :: ws.drop (p + 3)).length = ws.length := by
                      conv => rhs; rw [Hsp.out]
                      simp
                    have hE := (Eqv.braid (n := n) (ws.take p) (ws.drop (p + 3)) c0 (by have := He3.out; omega)).symm
                    rw [show c + 1 = a by have := He3.out; omega] at hE
                    rw [← Hsp.out] at hE
                    exact ⟨_, _, rfl, is_own Hs3.out hlen, hE, by omega, HB3.out⟩
                  · have c0' : decide ((0 : Int) < c) = false := decide_eq_false c0
                    go_quiet (fail)
                    rename_i nq
                    have BD : Below w1.heap.size w1 (w1.drewN nq) := below_drewN (Below.refl _ _) _
                    go_wp2_with fail
                    go_ret
                    exact ⟨_, rfl, ws, (is_own HO1.out rfl).below BD, .refl _, by omega, bon HBw.out BD⟩
                · have a0' : decide ((0 : Int) < a) = false := decide_eq_false a0
                  go_quiet (fail)
                  rename_i nq
                  have BD : Below w1.heap.size w1 (w1.drewN nq) := below_drewN (Below.refl _ _) _
                  go_wp2_with fail
                  go_ret
                  exact ⟨_, rfl, ws, (is_own HO1.out rfl).below BD, .refl _, by omega, bon HBw.out BD⟩
              · have e3' : (c == a - 1) = false := by simpa using e3
                clear e2 e3
                go_quiet (fail)
                rename_i nq
                have BD : Below w1.heap.size w1 (w1.drewN nq) := below_drewN (Below.refl _ _) _
                go_wp2_with fail
                go_ret
                exact ⟨_, ws, rfl, (is_own HO1.out rfl).below BD, .refl _, by omega, bon HBw.out BD⟩
          · have e1' : (a == d) = false := by simpa using e1
            clear e1
            go_quiet (fail)
            rename_i nq
            have BD : Below w1.heap.size w1 (w1.drewN nq) := below_drewN (Below.refl _ _) _
            go_wp2_with fail
            go_ret
            exact ⟨_, ws, rfl, (is_own HO1.out rfl).below BD, .refl _, by omega, bon HBw.out BD⟩
        · have hp2' : decide ((p : Int) + 2 < (ws.length : Int)) = false := decide_eq_false (by omega)
          go_quiet (fail)
          rename_i nq
          have BD : Below w1.heap.size w1 (w1.drewN nq) := below_drewN (Below.refl _ _) _
          go_wp2_with fail
          go_ret
          exact ⟨_, ws, rfl, (is_own HO1.out rfl).below BD, .refl _, by omega, bon HBw.out BD⟩
      · exact absurd hk (by omega)
end Go.Proofs.Ytnfppebcpagjpaa
