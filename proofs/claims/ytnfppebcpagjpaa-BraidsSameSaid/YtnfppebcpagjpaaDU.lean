/- The reference's slid walked: two neighbouring factors. -/
import Derived.Test.YtnfppebcpagjpaaDT
namespace Go.Proofs.Ytnfppebcpagjpaa
open Go.RowKit Go.Lib
/-- A simple braid in an own row. -/
def OP (w : World) (B n : Nat) (v : Value) (x : Pm) : Prop := w.ownsRow B 3 1 v n ((ints n x).map (Value.int .i64))
theorem OP.is {w : World} {B n : Nat} {v : Value} {x : Pm} (h : OP w B n v x) : IS w v (ints n x) := is_own h (ints_len n x)
theorem own_blk3 {w : World} {B n g cap k : Nat} {e : TypeId} {xs : List Value} (h : w.ownsRow B e k (.slice (some ⟨g, 0, none⟩) n cap) n xs) {g' : Nat} (hg : g' ≠ g) (j : Nat) (u : Value) : (w.setCell ⟨g', j, none⟩ u).ownsRow B e k (.slice (some ⟨g, 0, none⟩) n cap) n xs := by
  refine ⟨h.1, ?_⟩
  rcases h.2 with h0 | ⟨g0, cap0, cur, h0, h1, h2, h3⟩
  · exact .inl h0
  · cases h0
    exact .inr ⟨g, cap, cur, rfl, h1, (heap_setCell_other w ⟨g', j, none⟩ u (k := g) (fun e => hg e.symm)).trans h2, h3⟩
set_option maxHeartbeats 4000000 in
set_option maxRecDepth 100000 in
theorem refslid_any (n : Nat) (h1 : 1 ≤ n) (hn : n ≤ 12) (a b : Pm) (ha : a.In n) (hb : b.In n) (B : Nat) (va vb : Value) (w : World) (hB : B ≤ w.heap.size) (oa : OP w B n va a) (ob : OP w B n vb b) :
    Calls Try.prog 87 #[va, vb] w fun e w' => ∃ v1 v2 c, e = .returned (.tuple #[v1, v2, .bool c]) ∧ OP w' B n v1 (take n a b).1 ∧ OP w' B n v2 (take n a b).2 ∧ (c = true ↔ firstS n a b ≠ none) ∧ Below w.heap.size w w' := by
  obtain ⟨ga, ca, rfl⟩ := own_pos oa (by omega)
  obtain ⟨gb, cb, rfl⟩ := own_pos ob (by omega)
  have Oa := Lib.hid oa
  have Ob := Lib.hid ob
  have Ha := Lib.hid ha
  have Hb := Lib.hid hb
  clear oa ob ha hb
  go_enter Try.func87, Try.ntmps87
  go_wp2_with fail
  go_loopg [0, 1, 7, 8] (cost n b * (n + 1) + n) (fun G xa xb s7 s8 wr => ∃ (j : Nat) (x y : Pm) (c : Bool) (g1 c1 g2 c2 : Nat), G = cost n y * (n + 1) + (n - j) ∧ x.In n ∧ y.In n ∧ take n x y = take n a b ∧ s8 = .int .i64 ((j : Int) + 1) ∧ j + 1 ≤ n ∧ (∀ k, k < j → ¬ (y.beg k ∧ ¬ x.fin k)) ∧ s7 = .bool c ∧ (c = false → x = a ∧ y = b) ∧ (c = true → firstS n a b ≠ none) ∧
    xa = .slice (some ⟨g1, 0, none⟩) n c1 ∧ xb = .slice (some ⟨g2, 0, none⟩) n c2 ∧ OP wr B n (.slice (some ⟨g1, 0, none⟩) n c1) x ∧ OP wr B n (.slice (some ⟨g2, 0, none⟩) n c2) y ∧ Below w.heap.size w wr)
  case atStart => exact ⟨0, a, b, false, ga, ca, gb, cb, by omega, Ha.out, Hb.out, rfl, rfl, h1, fun k hk => by omega, rfl, fun _ => ⟨rfl, rfl⟩, (fun h => by cases h), rfl, rfl, Oa.out, Ob.out, Below.refl _ _⟩
  case round =>
    obtain ⟨j, x, y, c, g1, c1, g2, c2, hG, hx, hy, hT, rfl, hjn, hno, rfl, hc0, hc1, rfl, rfl, o1, o2, hbw⟩ := hrel
    have HG := Lib.hid hG
    have HT := Lib.hid hT
    have Hno := Lib.hid hno
    have Hc0 := Lib.hid hc0
    have Hc1 := Lib.hid hc1
    have O1 := Lib.hid o1
    have O2 := Lib.hid o2
    have hbs := hbw.size
    have j0 : (0 : Int) ≤ (j : Int) := by omega
    clear hG hT hno hc0 hc1 o1 o2
    by_cases hjl : j + 1 < n
    · have hji : (j : Int) + 1 < (n : Int) := by omega
      by_cases hbj : y.beg j
      · have CB := Lib.hid (fun w' v (h : IS w' v (ints n y)) => refbegins_any n hn y j hjl true (decide_eq_true hbj).symm v w' h)
        by_cases hfj : x.fin j
        · have CF := Lib.hid (fun w' v (h : IS w' v (ints n x)) => reffin_any n h1 hn x hx j hjl true ⟨fun _ => hfj, fun _ => rfl⟩ v w' h)
          go_wp2_with fail
          refine (CB.out _ _ O2.out.is).mono ?_
          rintro e w2 ⟨rfl, B2⟩
          have P1 := Lib.hid (own_below O1.out B2)
          have P2 := Lib.hid (own_below O2.out B2)
          have HB2 := Lib.hid (bon hbw B2)
          clear B2 hbw O1 O2
          go_wp2_with fail
          refine (CF.out _ _ (OP.is P1.out)).mono ?_
          rintro e w3 ⟨rfl, B3⟩
          have Q1 := Lib.hid (own_below P1.out B3)
          have Q2 := Lib.hid (own_below P2.out B3)
          have HB3 := Lib.hid (bon HB2.out B3)
          clear B3 HB2 P1 P2
          go_wp2_with fail
          go_roundg (cost n y * (n + 1) + (n - (j + 1)))
          case measure => rw [HG.out]; omega
          case rel => exact ⟨j + 1, x, y, c, g1, c1, g2, c2, rfl, hx, hy, HT.out, by go_num, hjl, fun k hk => by
            by_cases e : k = j
            · subst e; exact fun h => h.2 hfj
            · exact Hno.out k (by omega), rfl, Hc0.out, Hc1.out, rfl, rfl, Q1.out, Q2.out, HB3.out⟩
        · have CF := Lib.hid (fun w' v (h : IS w' v (ints n x)) => reffin_any n h1 hn x hx j hjl false ⟨fun h => (by cases h), fun h => absurd h hfj⟩ v w' h)
          have CA := Lib.hid (fun w' v (h : IS w' v (ints n x)) => refafter_any n h1 hn x j hjl v w' h)
          have hfs := firstS_eq hjl hbj hfj Hno.out
          have HT2 := Lib.hid ((take_step hy hfs).symm.trans HT.out)
          have hcp := cost_pre hy hjl hbj
          have Hns := Lib.hid (show firstS n a b ≠ none from by
            rcases c with _ | _
            · obtain ⟨rfl, rfl⟩ := Hc0.out rfl
              rw [hfs]; intro h; cases h
            · exact Hc1.out rfl)
          have hyp := hy.pre hjl
          have hxp := hx.post hjl
          have n0 : IntKind.i64.wrap ((j : Int) + 1 - 1) = (j : Int) := num_in (by omega) (by omega)
          have n3 : (0 : Int) ≤ (j : Int) + 1 := by omega
          have n5 : ((j : Int) + 1).toNat = j + 1 := by omega
          have n6 : (j : Int) < (n : Int) := by omega
          clear hfs
          go_wp2_with fail
          refine (CB.out _ _ O2.out.is).mono ?_
          rintro e w2 ⟨rfl, B2⟩
          have P1 := Lib.hid (own_below O1.out B2)
          have P2 := Lib.hid (own_below O2.out B2)
          have HB2 := Lib.hid (bon hbw B2)
          clear B2 hbw O1 O2
          go_wp2_with fail
          refine (CF.out _ _ (OP.is P1.out)).mono ?_
          rintro e w3 ⟨rfl, B3⟩
          have Q1 := Lib.hid (own_below P1.out B3)
          have Q2 := Lib.hid (own_below P2.out B3)
          have HB3 := Lib.hid (bon HB2.out B3)
          clear B3 HB2 P1 P2
          go_wp2_with fail
          refine (CA.out _ _ (OP.is Q1.out)).mono ?_
          rintro e w4 ⟨v4, rfl, O4, B4⟩
          obtain ⟨g4, c4, rfl⟩ := own_pos O4 (by omega)
          have R1 := Lib.hid (own_mono O4 (Nat.le_trans hB HB3.out.size))
          have hg4 := (O4.lt g4 rfl).2
          have R2 := Lib.hid (own_below Q2.out B4)
          have HB4 := Lib.hid (bon HB3.out B4)
          have hz4 := HB4.out.size
          clear O4 B4 HB3 Q1 Q2
          have B5 : Below w4.heap.size w4 (w4.alloc (.cells #[] 3)) := below_alloc w4 _
          have HA := Lib.hid ((OP.is R2.out).below B5)
          have hil := Lib.hid (ints_len n y)
          go_wp2_with (at_builtin; refine app_all (w0 := w4) w4.heap.size _ [] (ints n y) rfl _ _ rfl rfl (World.ownsRow_made _ #[] 0 (Nat.le_refl _) (Nat.zero_le _) rfl) _ rfl HA.out (by rw [hil.out]; simp; omega) B5 B5.size ?_; intro v6 w6 O6 B6)
          rw [List.nil_append, ints_len] at O6
          obtain ⟨g6, c6, rfl⟩ := own_pos O6 (by omega)
          have hg6 := O6.lt g6 rfl
          have hz6 := hg6.1
          have R1' := Lib.hid (own_below R1.out B6)
          have HB6 := Lib.hid (bon HB4.out B6)
          have e0 : w6.cell? ⟨g6, j, none⟩ = some (.int .i64 (y.f j : Int)) := by rw [O6.cellAt j (by omega), List.getElem?_map, ints_get y (by omega)]; rfl
          have e1 : w6.cell? ⟨g6, j + 1, none⟩ = some (.int .i64 (y.f (j + 1) : Int)) := by rw [O6.cellAt (j + 1) (by omega), List.getElem?_map, ints_get y hjl]; rfl
          have f0 := O6.frozenAt j
          have f1 := O6.frozenAt (j + 1)
          have hs1 := (O6.stored j (.int .i64 (y.f (j + 1) : Int))).1
          have hs2 := (hs1.stored (j + 1) (.int .i64 (y.f j : Int))).1
          rw [ints_swap y hjl] at hs2
          have Hs2 := Lib.hid (own_mono hs2 (show B ≤ w4.heap.size by omega))
          have Hr1 := Lib.hid (own_blk3 (own_blk3 R1'.out (g' := g6) (by omega) j (.int .i64 (y.f (j + 1) : Int))) (g' := g6) (by omega) (j + 1) (.int .i64 (y.f j : Int)))
          have Hbw6 := Lib.hid ((HB6.out.setCell (p := ⟨g6, j, none⟩) (show w.heap.size ≤ g6 by omega) (.int .i64 (y.f (j + 1) : Int))).setCell (p := ⟨g6, j + 1, none⟩) (show w.heap.size ≤ g6 by omega) (.int .i64 (y.f j : Int)))
          clear O6 hs1 hs2 B6 R1 R1' R2 HA B5
          go_wp2_with fail
          go_region
          have Hs3 := Lib.hid Hs2.out.drew
          have Hr3 := Lib.hid Hr1.out.drew
          have Hb3 := Lib.hid Hbw6.out.drew
          clear Hs2 Hr1 Hbw6 e0 e1 f0 f1
          go_wp2_with fail
          go_roundg (cost n (y.pre j) * (n + 1) + n)
          case measure =>
            rw [HG.out]
            have : (cost n (y.pre j) + 1) * (n + 1) ≤ cost n y * (n + 1) := Nat.mul_le_mul hcp (Nat.le_refl _)
            rw [Nat.add_mul] at this
            omega
          case rel => exact ⟨0, x.post j, y.pre j, true, g4, c4, g6, c6, by omega, hxp, hyp, HT2.out, by go_num, h1, fun k hk => by omega, rfl, (fun h => by cases h), fun _ => Hns.out, rfl, rfl, Hr3.out, Hs3.out, Hb3.out⟩
      · have CB := Lib.hid (fun w' v (h : IS w' v (ints n y)) => refbegins_any n hn y j hjl false (decide_eq_false hbj).symm v w' h)
        go_wp2_with fail
        refine (CB.out _ _ O2.out.is).mono ?_
        rintro e w2 ⟨rfl, B2⟩
        have P1 := Lib.hid (own_below O1.out B2)
        have P2 := Lib.hid (own_below O2.out B2)
        have HB2 := Lib.hid (bon hbw B2)
        clear B2 hbw O1 O2
        go_wp2_with fail
        go_roundg (cost n y * (n + 1) + (n - (j + 1)))
        case measure => rw [HG.out]; omega
        case rel => exact ⟨j + 1, x, y, c, g1, c1, g2, c2, rfl, hx, hy, HT.out, by go_num, hjl, fun k hk => by
            by_cases e : k = j
            · subst e; exact fun h => hbj h.1
            · exact Hno.out k (by omega), rfl, Hc0.out, Hc1.out, rfl, rfl, P1.out, P2.out, HB2.out⟩
    · have hji : ¬ (j : Int) + 1 < (n : Int) := by omega
      have hfs := firstS_no (n := n) (fun k hk => Hno.out k (by omega))
      have Hfs := Lib.hid hfs
      have Hbw := Lib.hid hbw
      clear hfs hbw
      have HR := Lib.hid (show take n a b = (x, y) from by rw [← HT.out]; exact take_none Hfs.out)
      have Hcc := Lib.hid (show c = true ↔ firstS n a b ≠ none from ⟨Hc1.out, fun h => by
        rcases c with _ | _
        · obtain ⟨rfl, rfl⟩ := Hc0.out rfl
          exact absurd Hfs.out h
        · rfl⟩)
      go_wp2_with fail
      go_ret3
      rw [HR.out]
      rcases c with _ | _
      · exact ⟨_, _, .inl ⟨rfl, O1.out, O2.out, (Classical.byContradiction fun h => nomatch Hcc.out.2 h), Hbw.out⟩⟩
      · exact ⟨_, _, .inr ⟨rfl, O1.out, O2.out, Hcc.out.1 rfl, Hbw.out⟩⟩
end Go.Proofs.Ytnfppebcpagjpaa
