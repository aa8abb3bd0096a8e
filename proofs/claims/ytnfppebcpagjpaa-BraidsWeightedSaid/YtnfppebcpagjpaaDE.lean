/- The program's least word of a simple braid walked. -/
import Derived.Test.YtnfppebcpagjpaaCR
import Derived.Test.YtnfppebcpagjpaaCI
import Derived.Test.YtnfppebcpagjpaaBO
namespace Go.Proofs.Ytnfppebcpagjpaa
open Go.RowKit Go.Lib
theorem own_cells {B b : Nat} {e : TypeId} {k n : Nat} {v : Value} {xs : List Value} (hb : b < B) : ∀ (vs : List Value) (o : Nat) {w : World}, w.ownsRow B e k v n xs → (w.setCells b o vs).ownsRow B e k v n xs
  | [], _, _, h => h
  | u :: vs, o, _, h => own_cells hb vs (o + 1) (ownsRow_setCell_below h (a := ⟨b, o, none⟩) hb u)
set_option maxHeartbeats 2000000 in
set_option maxRecDepth 100000 in
theorem Least_any (n : Nat) (hn : n ≤ 12) (x : Pm) (hx : x.In n) (w : World) :
    Calls Try.prog 66 #[.agg (pl x).toArray, .int .i64 (n : Int)] w fun e w' => ∃ v', e = .returned v' ∧ w'.ownsRow w.heap.size 3 1 v' (least n x).length ((least n x).map (Value.int .i64)) ∧ Below w.heap.size w w' := by
  have Hl := Lib.hid (least_len hx hn)
  have Hx := Lib.hid hx
  clear hx
  go_enter Try.func66, Try.ntmps66
  go_wp2_with fail
  go_loopg [5, 6] (cost n x) (fun G vo s6 wr => ∃ (y : Pm) (D : List Int), G = cost n y ∧ y.In n ∧ D ++ least n y = least n x ∧ 
    wr.rangeAt w.heap.size 0 (pl y) ∧ wr.there w.heap.size 0 12 ∧ wr.ownsRow (w.heap.size + 1) 3 1 vo D.length (D.map (Value.int .i64)) ∧ Below w.heap.size w wr ∧ w.heap.size + 1 ≤ wr.heap.size)
  case atStart => exact ⟨x, [], rfl, Hx.out, rfl, pl_row (heap_alloc_new _ _), there_row (pc_size x) (heap_alloc_new _ _), World.ownsRow_nil _ _ _ _, below_alloc w _, by simp⟩
  case round =>
    obtain ⟨y, D, hG, hy, hD, hr, ht, ho, hbw, hgs⟩ := hrel
    have HG := Lib.hid hG
    have HD := Lib.hid hD
    have Ho := Lib.hid ho
    have Hy := Lib.hid hy
    have hDl : D.length ≤ 2000 := by
      have := congrArg List.length hD
      rw [List.length_append] at this
      have := Hl.out
      omega
    clear hG hD ho
    go_wp2_with fail
    by_cases he : y = idP
    · subst he
      have heq := fun w => eql_pl idP idP ((idP_in n).more hn) ((idP_in n).more hn) w (d := true) ⟨fun _ => rfl, fun _ => rfl⟩
      refine wp_region_quiet (C := fun w' => Below wr.heap.size wr w') (by kernel_rfl) (by kernel_rfl) (Below.refl _ _).drew ?_
      dsimp only
      refine quiet_load_mid rfl 71 (.tmp 2) rfl w.heap.size 0 rfl (pl idP) _ (fun _ h => range_below hr h hgs) Try.underlying71 hd59 (hi59L _) ?_
      simp only [Act.put, List.setIfInBounds_toArray, List.set_cons_zero, List.set_cons_succ]
      refine quiet_call rfl 79 [] _ rfl entFlat (.agg (pl idP).toArray) (fun wc h => (flat_pl wc).mono fun e w' ⟨he, hb⟩ => ⟨he, h.trans (hb.mono h.size)⟩) ?_
      simp only [Act.put, List.setIfInBounds_toArray, List.set_cons_zero, List.set_cons_succ]
      refine quiet_still rfl (.bool false) (fun w _ => by go_simp) ?_
      simp only [Act.put, List.setIfInBounds_toArray, List.set_cons_zero, List.set_cons_succ]
      refine wpQuiet_nil fun U hU => ?_
      have ho2 := own_below Ho.out hU
      have Ho2 := Lib.hid ho2
      have hbw2 := Lib.hid (bon hbw hU)
      clear ho2 hU
      go_wp2_with fail
      go_ret
      have hD2 := HD.out
      rw [least_id, List.append_nil] at hD2
      rw [← hD2]
      exact ⟨_, rfl, own_mono Ho2.out (Nat.le_succ _), hbw2⟩
    · have heq := fun w => eql_pl y idP (hy.more hn) ((idP_in n).more hn) w (d := false) ⟨fun h => (by cases h), fun h => absurd h he⟩
      obtain ⟨f, hfn, hfb⟩ := some_beg hy he
      have HE := Lib.hid he
      clear he
      refine wp_region_quiet (C := fun w' => Below wr.heap.size wr w') (by kernel_rfl) (by kernel_rfl) (Below.refl _ _).drew ?_
      dsimp only
      refine quiet_load_mid rfl 71 (.tmp 2) rfl w.heap.size 0 rfl (pl y) _ (fun _ h => range_below hr h hgs) Try.underlying71 hd59 (hi59L _) ?_
      simp only [Act.put, List.setIfInBounds_toArray, List.set_cons_zero, List.set_cons_succ]
      refine quiet_call rfl 79 [] _ rfl entFlat (.agg (pl idP).toArray) (fun wc h => (flat_pl wc).mono fun e w' ⟨he, hb⟩ => ⟨he, h.trans (hb.mono h.size)⟩) ?_
      simp only [Act.put, List.setIfInBounds_toArray, List.set_cons_zero, List.set_cons_succ]
      refine quiet_still rfl (.bool true) (fun w _ => by go_simp) ?_
      simp only [Act.put, List.setIfInBounds_toArray, List.set_cons_zero, List.set_cons_succ]
      refine wpQuiet_nil fun U hU => ?_
      have Ho2 := Lib.hid (own_below Ho.out hU)
      have Hbw2 := Lib.hid (bon hbw hU)
      have Hr2 := Lib.hid (range_below hr hU hgs)
      have Ht2 := Lib.hid (there_below ht hU hgs)
      have hgs2 := Nat.le_trans hgs hU.size
      clear hU hr ht hbw hgs heq Ho
      go_wp2_with fail
      go_loopg [6] n (fun g2 s6 wy => ∃ j : Nat, j + g2 = n ∧ j ≤ f ∧ s6 = .int .i64 ((j : Int) + 1) ∧ (∀ k, k < j → ¬ y.beg k) ∧ Below U.heap.size U wy)
      case atStart => exact ⟨0, by omega, Nat.zero_le _, rfl, fun k hk => by omega, Below.refl _ _⟩
      case round =>
        obtain ⟨j, hj, hjf, rfl, hno, hby⟩ := hrel
        rename World => wy
        have hr3 := range_below Hr2.out hby hgs2
        have ht3 := there_below Ht2.out hby hgs2
        have Hno := Lib.hid hno
        clear hno
        by_cases hbj : y.beg j
        · have hji : j + 1 < n := by omega
          have hstep := least_step hy (firstB_at hji hbj Hno.out)
          have hcp := cost_pre hy hji hbj
          have Hnext := Lib.hid (show D ++ [(j : Int) + 1] ++ least n (y.pre j) = least n x by rw [← HD.out, hstep]; simp)
          have Cb := Lib.hid (fun w => begins_pl y j (by omega) w (decide_eq_true hbj))
          have Cs := Lib.hid (fun w => swapped_pl y j (by omega) w)
          clear hstep hj hjf hfb hfn hbj
          obtain ⟨ao, co, rfl⟩ := own_form Ho2.out
          have Hby := Lib.hid hby
          clear hby
          go_wp2_with (first
            | (go_at_call_of 81 (pl y); refine (Cs.out _).mono ?_; rintro e w5 ⟨rfl, hb5⟩; have t5 := there_below t4 hb5 (Nat.lt_of_lt_of_le (Nat.lt_succ_self _) hz4))
            | (at_builtin; refine app_one (w0 := U) (w.heap.size + 1) _ D ((j : Int) + 1) rfl _ _ rfl rfl HO3.out rfl (by omega) HB3.out hz3 ?_; intro g4 cap4 w4 hown4 hb4; have HO4 := Lib.hid hown4; have HB4 := Lib.hid hb4; clear hown4; have hz4 := Nat.le_trans hgs2 hb4.size; have q4 := range_below Hr2.out HB4.out (Nat.lt_succ_self _); have t4 := there_below Ht2.out HB4.out (Nat.lt_succ_self _); clear hb4 q3)
            | (go_at_call_of 80 (pl y); refine (Cb.out _).mono ?_; rintro e w3 ⟨rfl, hb3⟩; have HB3' := Lib.hid (Hby.out.trans (hb3.mono Hby.out.size)); have HB3 := Lib.hid (HB3'.out.mono hgs2); have HO3 := Lib.hid (own_below Ho2.out HB3'.out); have hz3 := Nat.le_trans hgs2 HB3'.out.size; have q3 := range_below Hr2.out HB3'.out hgs2; clear hb3)
            | (refine wpList_load_mid rfl 71 (.tmp 2) rfl w.heap.size 0 rfl (pl y) _ (by assumption) Try.underlying71 hd59 (hi59L _) ?_)
            | (refine wpList_store_mid rfl 71 (.tmp 2) (.tmp 22) rfl w.heap.size 0 (pl (y.pre j)).toArray rfl rfl (by rw [sizeP]; exact t5) (hi59A _) (all_oneCell_toArray (pl_one _)) ?_))
          go_roundg (cost n (y.pre j))
          case measure => rw [HG.out]; exact hcp
          case rel => exact ⟨y.pre j, D ++ [(j : Int) + 1], rfl, hy.pre hji, Hnext.out, World.rangeAt_setCells_same _ _ _ _ (by rw [pl_len]; exact t5), World.there_setCells t5 _ _ _, by rw [List.length_append]; exact own_cells (Nat.lt_succ_self _) _ _ (own_below HO4.out hb5), below_setCells (Hbw2.out.trans ((HB4.out.trans (hb5.mono hz4)).mono (Nat.le_succ _))) (Nat.le_refl _) 0 _, by rw [size_setCells']; exact Nat.le_trans hz4 hb5.size⟩
        · have Cb := Lib.hid (fun w => begins_pl y j (by omega) w (decide_eq_false hbj))
          have hjf2 : j < f := by
            rcases Nat.lt_or_ge j f with h | h
            · exact h
            · exact absurd (show y.beg j by rw [show j = f by omega]; exact hfb) hbj
          have Hby := Lib.hid hby
          clear hby
          go_wp2_with (first
            | (go_at_call_of 80 (pl y); refine (Cb.out _).mono ?_; rintro e w3 ⟨rfl, hb3⟩; have HB3 := Lib.hid (Hby.out.trans (hb3.mono Hby.out.size)))
            | (refine wpList_load_mid rfl 71 (.tmp 2) rfl w.heap.size 0 rfl (pl y) _ (by assumption) Try.underlying71 hd59 (hi59L _) ?_))
          go_roundg (gk - 1)
          case measure => omega
          case rel => exact ⟨j + 1, by omega, hjf2, by go_num, fun k hk => by
              by_cases e : k = j
              · subst e; exact hbj
              · exact Hno.out k (by omega), HB3.out⟩
end Go.Proofs.Ytnfppebcpagjpaa
