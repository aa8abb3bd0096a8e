/- The program's Inverse and Times walked. -/
import Derived.Test.YteffdkoebigcnaaCI
import Derived.Lib.AppendZeros
namespace Go.Proofs.Yteffdkoebigcnaa
open Go.RowKit Go.Lib
set_option maxHeartbeats 400000 in
set_option maxRecDepth 100000 in
theorem Inverse_any (n : Int) (ws : List Int) (v : Value) (w : World) (hv : IS w v ws) :
    Calls Try.prog 15 #[.int .i64 n, v] w fun e w' => ∃ v', e = .returned (.tuple #[v', .int .i64 (checkV n ws)]) ∧ IS w' v' (invV n ws) ∧ Below w.heap.size w w' := by
  have Hv := Lib.hid hv
  obtain ⟨sa, sc, rfl, h1, h2, _, hI⟩ := hv
  have CK := Lib.hid (Check_any n ws sa sc w h1 h2 hI)
  have hok := fun h => checkV_ok (n := n) (ws := ws) h
  have HS := Lib.hid (show checkV n ws ≠ 0 → invV n ws = [] from fun h => if_neg h)
  have HT := Lib.hid (show checkV n ws = 0 → invV n ws = inv ws from fun h => if_pos h)
  obtain ⟨c, hc⟩ : ∃ c, c = checkV n ws := ⟨_, rfl⟩
  rw [← hc] at CK hok HS HT ⊢
  have HO := Lib.hid hok
  clear hok hI hc
  go_enter Try.func15, Try.ntmps15
  go_wp2_with fail
  refine CK.out.mono ?_
  rintro e w1 ⟨rfl, B1⟩
  by_cases h : c = 0
  · have hn := Lib.hid (HT.out h)
    obtain ⟨m, _, _, hm, hl, hw⟩ := HO.out h
    subst h
    have RI := Lib.hid (inverse_any ws _ w1 (Hv.out.below B1) (fun z hz => by have := hw z hz; omega) (by omega))
    clear hw HO
    go_wp2_with fail
    refine RI.out.mono ?_
    rintro e w2 ⟨v', rfl, O2, B2⟩
    have HO2 := Lib.hid O2
    clear O2
    go_wp2_with fail
    go_ret2
    exact ⟨v', rfl, by rw [hn.out]; exact is_own HO2.out rfl, B1.trans (B2.mono B1.size)⟩
  · have hn := Lib.hid (HS.out h)
    go_wp2_with fail
    go_ret2
    exact ⟨.slice none 0 0, rfl, by rw [hn.out]; exact is_nil _, B1⟩
set_option maxHeartbeats 400000 in
set_option maxRecDepth 100000 in
theorem Grow_zero (w : World) :
    Calls Try.prog 76 #[.slice none 0 0, .int .i64 0] w fun e w' => e = .returned (.slice none 0 0) ∧ w' = w := by
  go_enter Try.func76, Try.ntmps76
  go_wp2_with fail
  go_ret
  exact ⟨rfl, rfl⟩
set_option maxHeartbeats 400000 in
set_option maxRecDepth 100000 in
theorem Grow_any (n : Nat) (hn : n < 100000) (h0 : 0 < n) (w : World) :
    Calls Try.prog 76 #[.slice none 0 0, .int .i64 (n : Int)] w fun e w' => ∃ v', e = .returned v' ∧ w'.ownsRow w.heap.size 3 1 v' 0 [] ∧ Below w.heap.size w w' := by
  have k0 : (0 : Int) < (n : Int) := by omega
  obtain ⟨i0, hi, hz0, hz1, hz2⟩ := info_parts infoInt
  have hrun := fun ty => run_append_nil_zeros (P := Try.prog) w 22 3 ty 3 i0 (.int .i64 0) .i64 .i64 Try.underlying22 Try.underlying3 hi hz0 n h0 (by omega) (by omega) (by rw [hz2]; omega)
  have hge := grownCap_ge w n 0 3
  have hcm := grownCap_le_maxLen w n 0 3 (by unfold maxLen; omega)
  obtain ⟨gc, hgc⟩ : ∃ gc, gc = grownCap w n 0 3 := ⟨_, rfl⟩
  rw [← hgc] at hrun hge hcm
  obtain ⟨C, hC⟩ : ∃ C, C = Builtin.zeroCells (Value.int .i64 0).cells n ++ Builtin.zeroCells (Value.int .i64 0).cells (gc - n) := ⟨_, rfl⟩
  have hCs : C.size = gc * 1 := by
    rw [hC, Array.size_append, size_zeroCells, size_zeroCells]
    have : (Value.int .i64 0).cells.size = 1 := rfl
    rw [this]
    omega
  rw [← hC] at hrun
  have hown : (w.drew.alloc (.cells C 3)).ownsRow w.heap.size 3 1 (.slice (some ⟨w.heap.size, 0, none⟩) 0 gc) 0 [] := World.ownsRow_made w.drew C gc (Nat.le_refl _) hcm hCs
  have hB : Below w.heap.size w (w.drew.alloc (.cells C 3)) := (Below.refl _ w).drew.alloc (Nat.le_refl _) _
  have Hr := Lib.hid hrun
  have Ho := Lib.hid hown
  have HB := Lib.hid hB
  clear hrun hown hB hCs hC hi hgc hge hcm
  go_enter Try.func76, Try.ntmps76
  go_wp2_with (at_builtin; refine wpList_append_run _ rfl _ _ 22 3 rfl _ _ rfl rfl _ _ (Hr.out _) ?_)
  go_ret
  exact ⟨_, rfl, Ho.out, HB.out⟩
theorem Grow_all (z : Int) (n : Nat) (hz : z = (n : Int)) (hn : n < 100000) (w : World) :
    Calls Try.prog 76 #[.slice none 0 0, .int .i64 z] w fun e w' => ∃ v', e = .returned v' ∧ w'.ownsRow w.heap.size 3 1 v' 0 [] ∧ Below w.heap.size w w' := by
  subst hz
  rcases Nat.eq_zero_or_pos n with h | h
  · subst h
    refine (Grow_zero w).mono ?_
    rintro e w' ⟨rfl, rfl⟩
    exact ⟨_, rfl, World.ownsRow_nil _ _ _ _, Below.refl _ _⟩
  · exact Grow_any n hn h w
set_option maxHeartbeats 1000000 in
set_option maxRecDepth 100000 in
theorem Concat_any (g : Nat) (fr : Nat × Nat) (u v : Value) (xs ys : List Int) (w : World) (hg : w.heap[g]? = some (.cells #[u, v] 22 fr)) (hu : IS w u xs) (hv : IS w v ys) (hl : xs.length + ys.length < 50000) :
    Calls Try.prog 52 #[.slice (some ⟨g, 0, none⟩) 2 2] w fun e w' => ∃ v', e = .returned v' ∧ w'.ownsRow w.heap.size 3 1 v' (xs ++ ys).length ((xs ++ ys).map (Value.int .i64)) ∧ Below w.heap.size w w' := by
  have hgs := (Array.getElem?_eq_some_iff.1 hg).1
  have c0 : w.cell? ⟨g, 0, none⟩ = some u := cell_of_row w g 0 _ _ _ hg
  have c1 : w.cell? ⟨g, 1, none⟩ = some v := cell_of_row w g 1 _ _ _ hg
  have Hu := Lib.hid hu
  have Hv := Lib.hid hv
  obtain ⟨sa, sc, rfl, _, _, _, _⟩ := hu
  obtain ⟨sb, sd, rfl, _, _, _, _⟩ := hv
  have hG := Lib.hid (fun w => Grow_all ((xs.length : Int) + (ys.length : Int)) (xs.length + ys.length) (by omega) (by omega) w)
  have a0 : ¬ (xs.length : Int) < 0 := by omega
  have a1 : ¬ (xs.length : Int) + (ys.length : Int) < 0 := by omega
  have Hg := Lib.hid hgs
  clear hg
  go_enter Try.func52, Try.ntmps52
  go_wp2_with fail
  go_loop [3, 11] (fun s i => (i = .int .i64 0 ∧ s = .int .i64 0) ∨ (i = .int .i64 1 ∧ s = .int .i64 (xs.length : Int)) ∨ (i = .int .i64 2 ∧ s = .int .i64 ((xs.length : Int) + (ys.length : Int)))) (fun _ i => 2 - (intOf i).toNat)
  case atStart => exact .inl ⟨rfl, rfl⟩
  case round =>
    rcases hrel with ⟨rfl, rfl⟩ | ⟨rfl, rfl⟩ | ⟨rfl, rfl⟩
    · go_wp2_with fail
      go_roundw
      case rel => exact .inr (.inl ⟨rfl, rfl⟩)
      case measure => simp [intOf]
    · go_wp2_with fail
      go_roundw
      case rel => exact .inr (.inr ⟨rfl, rfl⟩)
      case measure => simp [intOf]
    · go_wp2_with fail
      refine (hG.out w).mono ?_
      rintro e w1 ⟨v1, rfl, O1, B1⟩
      have HO1 := Lib.hid O1
      clear O1 hG
      go_wp2_with fail
      go_loopw [6, 27] (fun s i wr => ∃ D, ((i = .int .i64 0 ∧ D = []) ∨ (i = .int .i64 1 ∧ D = xs) ∨ (i = .int .i64 2 ∧ D = xs ++ ys)) ∧ wr.ownsRow w.heap.size 3 1 s D.length (D.map (Value.int .i64)) ∧ Below w.heap.size w wr) (fun _ i _ => 2 - (intOf i).toNat)
      case atStart => exact ⟨[], .inl ⟨rfl, rfl⟩, HO1.out, B1⟩
      case round =>
        obtain ⟨D, h, hown, hbw⟩ := hrel
        have hbs := hbw.size
        have Hown := Lib.hid hown
        have d0 := (hbw.cell (p := ⟨g, 0, none⟩) Hg.out).trans c0
        have d1 := (hbw.cell (p := ⟨g, 1, none⟩) Hg.out).trans c1
        clear hown
        rcases h with ⟨rfl, rfl⟩ | ⟨rfl, rfl⟩ | ⟨rfl, rfl⟩
        · go_wp2_with (at_builtin; refine app_all (w0 := w) w.heap.size _ [] xs rfl _ _ rfl rfl Hown.out _ rfl (Hu.out.below hbw) (by simp; omega) hbw hbs ?_; intro v2 w2 O2 B2)
          have HO2 := Lib.hid O2
          clear O2
          go_wp2_with fail
          go_roundw
          case rel => exact ⟨xs, .inr (.inl ⟨rfl, rfl⟩), HO2.out, B2⟩
          case measure => simp [intOf]
        · go_wp2_with (at_builtin; refine app_all (w0 := w) w.heap.size _ D ys rfl _ _ rfl rfl Hown.out _ rfl (Hv.out.below hbw) (by omega) hbw hbs ?_; intro v2 w2 O2 B2)
          have HO2 := Lib.hid O2
          clear O2
          go_wp2_with fail
          go_roundw
          case rel => exact ⟨D ++ ys, .inr (.inr ⟨rfl, rfl⟩), HO2.out, B2⟩
          case measure => simp [intOf]
        · go_wp2_with fail
          go_ret
          exact ⟨_, rfl, Hown.out, hbw⟩
set_option maxHeartbeats 600000 in
set_option maxRecDepth 100000 in
theorem Times_any (n : Int) (xs ys : List Int) (u v : Value) (w : World) (hu : IS w u xs) (hv : IS w v ys) :
    Calls Try.prog 20 #[.int .i64 n, u, v] w fun e w' => ∃ v', e = .returned (.tuple #[v', .int .i64 (timesV n xs ys).2]) ∧ IS w' v' (timesV n xs ys).1 ∧ Below w.heap.size w w' := by
  have Hu := Lib.hid hu
  have Hv := Lib.hid hv
  obtain ⟨sa, sc, rfl, h1, h2, _, hI⟩ := hu
  obtain ⟨sb, sd, rfl, k1, k2, _, kI⟩ := hv
  have CK := Lib.hid (checkBoth_any n xs ys sa sb sc sd w h1 h2 k1 k2 hI kI)
  unfold maxLen at h2 k2
  unfold timesV
  obtain ⟨c, hc⟩ : ∃ c, c = bothV n xs ys := ⟨_, rfl⟩
  rw [← hc] at CK ⊢
  have HC := Lib.hid hc
  clear hI kI hc
  by_cases h : c = 0
  · subst h
    obtain ⟨hx, hy⟩ := bothV_ok HC.out.symm
    have hlx : xs.length ≤ 400 := (checkV_ok hx).elim fun _ h => h.2.2.2.1
    have hly : ys.length ≤ 400 := (checkV_ok hy).elim fun _ h => h.2.2.2.1
    rw [if_pos rfl]
    by_cases h4 : 400 < xs.length + ys.length
    · rw [if_pos h4]
      have h4' : (400 : Int) < (xs.length : Int) + (ys.length : Int) := by omega
      clear hx hy
      go_enter Try.func20, Try.ntmps20
      go_wp2_with fail
      refine CK.out.mono ?_
      rintro e w1 ⟨rfl, B1⟩
      go_wp2_with fail
      go_ret2
      exact ⟨.slice none 0 0, rfl, is_nil _, B1⟩
    · rw [if_neg h4]
      have h4' : ¬ (400 : Int) < (xs.length : Int) + (ys.length : Int) := by omega
      clear hx hy
      go_enter Try.func20, Try.ntmps20
      go_wp2_with fail
      refine CK.out.mono ?_
      rintro e w1 ⟨rfl, B1⟩
      have hs1 := B1.size
      have B2 : Below w.heap.size w (w1.alloc (.cells #[.slice sa xs.length sc, .slice sb ys.length sd] 22)) := B1.alloc hs1 _
      have hC := Lib.hid (Concat_any w1.heap.size (0, 0) (.slice sa xs.length sc) (.slice sb ys.length sd) xs ys _ (heap_alloc_new w1 _) (Hu.out.below B2) (Hv.out.below B2) (by omega))
      go_wp2_with fail
      refine hC.out.mono ?_
      rintro e w2 ⟨v2, rfl, O2, B3⟩
      have HO2 := Lib.hid O2
      clear O2
      go_wp2_with fail
      go_ret2
      exact ⟨v2, rfl, is_own HO2.out rfl, B2.trans (B3.mono B2.size)⟩
  · rw [if_neg h]
    go_enter Try.func20, Try.ntmps20
    go_wp2_with fail
    refine CK.out.mono ?_
    rintro e w1 ⟨rfl, B1⟩
    go_wp2_with fail
    go_ret2
    exact ⟨.slice none 0 0, rfl, is_nil _, B1⟩
end Go.Proofs.Yteffdkoebigcnaa
