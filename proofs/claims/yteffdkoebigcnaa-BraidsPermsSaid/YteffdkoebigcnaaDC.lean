/- The reference's Links walked. -/
import Derived.Test.YteffdkoebigcnaaDB
namespace Go.Proofs.Yteffdkoebigcnaa
open Go.RowKit Go.Lib
def ptrs (gr : Nat → Nat) (m k : Nat) : List Value := (List.range k).map fun i => .slice (some ⟨gr i, 0, none⟩) m m
theorem ptrs_len (gr : Nat → Nat) (m k : Nat) : (ptrs gr m k).length = k := by simp [ptrs]
theorem ptrs_get {gr : Nat → Nat} {m k i : Nat} (h : i < k) : (ptrs gr m k)[i]? = some (.slice (some ⟨gr i, 0, none⟩) m m) := by simp [ptrs, h]
theorem ptrs_more (gr : Nat → Nat) (m k : Nat) : ptrs gr m (k + 1) = ptrs gr m k ++ [.slice (some ⟨gr k, 0, none⟩) m m] := by simp [ptrs, List.range_succ]
theorem ptrs_eq {gr gr' : Nat → Nat} {m k : Nat} (h : ∀ i, i < k → gr i = gr' i) : ptrs gr m k = ptrs gr' m k := by
  unfold ptrs
  exact List.map_congr_left fun i hi => by rw [h i (List.mem_range.1 hi)]
theorem own_blk2 {w : World} {B n g cap k : Nat} {e : TypeId} {xs : List Value} (h : w.ownsRow B e k (.slice (some ⟨g, 0, none⟩) n cap) n xs) {g' : Nat} (hg : g ≠ g') (j : Nat) (u : Value) : (w.setCell ⟨g', j, none⟩ u).ownsRow B e k (.slice (some ⟨g, 0, none⟩) n cap) n xs := by
  refine ⟨h.1, ?_⟩
  rcases h.2 with h0 | ⟨g1, cap', cur, h0, h1, h2, h3⟩
  · exact .inl h0
  · cases h0
    exact .inr ⟨g, cap, cur, rfl, h1, (heap_setCell_other w ⟨g', j, none⟩ g u hg).trans h2, h3⟩
theorem hX7c {w : World} {B m g cap j : Nat} {s : Pm} (h : w.ownsRow B 3 1 (.slice (some ⟨g, 0, none⟩) m cap) m ((ints m s).map (Value.int .i64))) (hj : j < m) : w.cell? ⟨g, j, none⟩ = some (.int .i64 (s.f j : Int)) := by
  rw [h.cellAt j (by omega), List.getElem?_map, ints_get s hj]
  rfl
set_option maxHeartbeats 2000000 in
set_option maxRecDepth 100000 in
theorem refLinks_any (n : Int) (ws : List Int) (v : Value) (w : World) (hv : IS w v ws) :
    Calls Try.prog 27 #[.int .i64 n, v] w fun e w' => ∃ v', e = .returned (.tuple #[v', .int .i64 (checkV n ws)]) ∧ FS w' v' (linksV n ws) ∧ Below w.heap.size w w' := by
  obtain ⟨i1, hi, hz0, hz1, hz2⟩ := info_parts infoInts
  obtain ⟨sa, sc, rfl, h1, h2, _, hI⟩ := hv
  have CK := Lib.hid (refCheck_any n ws sa sc w hI h1 h2)
  have HI := Lib.hid hI
  have hok := fun h => checkV_ok (n := n) (ws := ws) h
  have HS := Lib.hid (show checkV n ws ≠ 0 → linksV n ws = [] from fun h => if_neg h)
  have HT := Lib.hid (show checkV n ws = 0 → linksV n ws = linksL n.toNat ws from fun h => if_pos h)
  obtain ⟨c, hc⟩ : ∃ c, c = checkV n ws := ⟨_, rfl⟩
  rw [← hc] at CK hok HS HT ⊢
  have HO := Lib.hid hok
  have Hi := Lib.hid hi
  clear hok hI hc hi
  by_cases h : c = 0
  · have hn := HT.out h
    obtain ⟨m, rfl, m1, m2, hl, hw⟩ := HO.out h
    rw [Int.toNat_natCast] at hn
    have Hn := Lib.hid hn
    have Hw := Lib.hid hw
    subst h
    have hmk := fun W => mk_full m (by omega) W
    clear HO HS HT hn hw
    go_enter Try.func27, Try.ntmps27
    go_wp2_with fail
    refine CK.out.mono ?_
    rintro e w1 ⟨rfl, B1⟩
    have HB1 := Lib.hid B1
    have hz1' := B1.size
    clear B1
    go_wp2_with fail
    go_loopw [7, 8] (fun vo i wr => ∃ (k : Nat) (gr : Nat → Nat), k ≤ m ∧ i = .int .i64 k ∧ wr.ownsRow w1.heap.size 22 1 vo k (ptrs gr m k) ∧ (∀ i, i < k → wr.heap[gr i]? = some (.cells (mrow m (fun _ => 0)) 3 (0, 0))) ∧ (∀ i, i < k → w1.heap.size ≤ gr i ∧ gr i < wr.heap.size) ∧ (∀ i j, i < k → j < k → gr i = gr j → i = j) ∧ Below w1.heap.size w1 wr) (fun _ i _ => m - (intOf i).toNat)
    case atStart => exact ⟨0, fun _ => 0, Nat.zero_le _, rfl, World.ownsRow_nil _ _ _ _, fun i h => by omega, fun i h => by omega, fun i j h => by omega, Below.refl _ _⟩
    case round =>
      obtain ⟨k, gr, hk, rfl, hown, hrows, hlo, hinj, hbw⟩ := hrel
      obtain ⟨ao, co, rfl⟩ := own_form hown
      have Hrows := Lib.hid hrows
      have Hlo := Lib.hid hlo
      have Hinj := Lib.hid hinj
      have Hown := Lib.hid hown
      have hbs := hbw.size
      clear hrows hlo hinj
      by_cases hkm : k < m
      · have k1 : (k : Int) < (m : Int) := by omega
        obtain ⟨W, hW⟩ : ∃ W, W = wr.alloc (.cells (madeCells #[.int .i64 0] m) 3) := ⟨_, rfl⟩
        have hmW : (Instr.makeSlice 22 (.int .i64 (m : Int)) (.int .i64 (m : Int))).run Try.prog wr = .ok (.slice (some ⟨wr.heap.size, 0, none⟩) m m) W := by rw [hW]; exact hmk wr
        have hWs : W.heap.size = wr.heap.size + 1 := by rw [hW]; simp
        have hWo : ∀ b, b < wr.heap.size → W.heap[b]? = wr.heap[b]? := fun b hb => by rw [hW]; exact Below.heap_alloc _ _ _ hb
        have hWn : W.heap[wr.heap.size]? = some (.cells (mrow m (fun _ => 0)) 3 (0, 0)) := by rw [hW, mrow_zero]; exact heap_alloc_new wr _
        have hOW : W.ownsRow w1.heap.size 22 1 (.slice ao k co) k (ptrs gr m k) := by rw [hW]; exact hown.alloc _
        have hBW : Below w1.heap.size w1 W := by rw [hW]; exact hbw.alloc hbs _
        have hnb : ∀ b, W.heap[b]? = some (.cells (mrow m (fun _ => 0)) 3 (0, 0)) → some b ≠ (Value.slice ao k co).ownBlock := fun b hb e => by
          rcases hOW.2 with ⟨h0, _⟩ | ⟨g, cap, cur, h0, _, hg, _⟩
          · cases h0; cases e
          · cases h0
            simp only [Value.ownBlock, Option.some.injEq] at e
            subst e
            rw [hg] at hb
            simp at hb
        have HW := Lib.hid hWs
        have HWo := Lib.hid hWo
        have HWn := Lib.hid hWn
        have HOW := Lib.hid hOW
        have HBW := Lib.hid hBW
        have Hnb := Lib.hid hnb
        have hwz : w1.heap.size ≤ W.heap.size := by omega
        clear hown Hown hW hWs hWo hWn hOW hBW hnb hmk hbw
        go_wp2_with (at_builtin; refine wpList_append_own _ rfl _ _ 31 rfl w1.heap.size 22 i1 (.slice none 0 0) 1 24 Try.underlying31 Hi.out hz0 hz1 hz2 rfl (by decide) _ k _ rfl (HOW.out.alloc _) ⟨W.heap.size, 0, none⟩ 1 1 [Value.slice (some ⟨wr.heap.size, 0, none⟩) m m] rfl rfl (cell_one_new _ _ _) (by simp [Value.oneCell']) (by unfold maxLen; omega) (by omega) (by simp; omega) ?_; intro v3 w3 hown3 hgrow _)
        rw [← show ptrs (fun i => if i = k then wr.heap.size else gr i) m (k + 1) = ptrs gr m k ++ [Value.slice (some ⟨wr.heap.size, 0, none⟩) m m] by
          rw [ptrs_more]
          simp only [if_true]
          congr 1
          exact ptrs_eq fun i hi => if_neg (by omega)] at hown3
        have HO3 := Lib.hid hown3
        have hb3 := Below.grown (HBW.out.alloc hwz (.cells #[Value.slice (some ⟨wr.heap.size, 0, none⟩) m m] 22)) hgrow (by simp; omega) (fun b e => (HOW.out.lt b e).1)
        have hkeep : ∀ b, b < W.heap.size → W.heap[b]? = some (.cells (mrow m (fun _ => 0)) 3 (0, 0)) → w3.heap[b]? = some (.cells (mrow m (fun _ => 0)) 3 (0, 0)) := fun b hb h =>
          (hgrow.block b (by simp; omega) (Hnb.out b h)).trans ((Below.heap_alloc W _ b hb).trans h)
        have hsz3 : wr.heap.size < w3.heap.size := by have := hgrow.size; simp at this; have := HW.out; omega
        have Hkeep := Lib.hid hkeep
        have Hb3 := Lib.hid hb3
        have Hsz := Lib.hid hsz3
        clear hown3 hgrow hkeep hb3 hsz3
        go_wp2_with fail
        go_roundw
        case rel =>
          refine ⟨k + 1, _, hkm, by go_num, HO3.out, fun i hi => ?_, fun i hi => ?_, fun i j hi hj e => ?_, Hb3.out⟩
          · have hs := HW.out
            by_cases e : i = k
            · subst e
              simp only [if_true]
              exact Hkeep.out _ (by omega) HWn.out
            · simp only [if_neg e]
              have hq := Hlo.out i (by omega)
              exact Hkeep.out _ (by omega) ((HWo.out _ hq.2).trans (Hrows.out i (by omega)))
          · have hs := Hsz.out
            by_cases e : i = k
            · subst e; simp only [if_true]; omega
            · simp only [if_neg e]
              have hq := Hlo.out i (by omega)
              omega
          · by_cases e1 : i = k
            · by_cases e2 : j = k
              · omega
              · simp only [if_pos e1, if_neg e2] at e
                have hq := Hlo.out j (by omega)
                omega
            · by_cases e2 : j = k
              · simp only [if_neg e1, if_pos e2] at e
                have hq := Hlo.out i (by omega)
                omega
              · simp only [if_neg e1, if_neg e2] at e
                exact Hinj.out i j (by omega) (by omega) e
        case measure => (simp [intOf] <;> omega)
      · have e : m = k := by omega
        subst e
        obtain ⟨gl, cap, e0⟩ := own_pos hown m1
        obtain ⟨rfl, rfl⟩ : ao = some ⟨gl, 0, none⟩ ∧ co = cap := by cases e0; exact ⟨rfl, rfl⟩
        clear e0
        have hgl := hown.lt gl rfl
        obtain ⟨hcap, hcapm⟩ := own_cap hown
        have hX : MX w1.heap.size wr.heap.size gl gr m (fun _ _ => 0) wr :=
          ⟨fun i hi => (hown.cellAt i (by omega)).trans (ptrs_get hi), Hrows.out, fun i hi => (Hlo.out i hi).1, fun i hi => (Hlo.out i hi).2, Hinj.out, fun i hi e => by
            rcases hown.2 with ⟨h0, _⟩ | ⟨g, cap', cur, h0, _, hg, _⟩
            · cases h0
            · cases h0
              have := Hrows.out i hi
              rw [e, hg] at this
              simp at this, hgl.2, Nat.le_refl _⟩
        have HX := Lib.hid hX
        have HBr := Lib.hid (HB1.out.trans (hbw.mono hz1'))
        have k1 : ¬ (m : Int) < (m : Int) := by omega
        have hglw : w1.heap.size ≤ gl := hgl.1
        clear hX hown Hown Hrows Hlo Hinj hbw hmk hgl
        go_wp2_with fail
        refine (refline_any m m2 wr).mono ?_
        rintro e w2 ⟨v2, rfl, O2, B2⟩
        obtain ⟨g2, c2, rfl⟩ := own_pos O2 m1
        have HX2 := Lib.hid (HX.out.below B2)
        have HB2 := Lib.hid (bon HBr.out B2)
        have HO2 := Lib.hid O2
        have hg2 := (O2.lt g2 rfl).1
        have hzr : w.heap.size ≤ wr.heap.size := HBr.out.size
        clear B2 HX HBr O2
        go_wp2_with fail
        go_loopw [10] (fun i wz => ∃ k : Nat, k ≤ ws.length ∧ i = .int .i64 k ∧ wz.ownsRow wr.heap.size 3 1 (.slice (some ⟨g2, 0, none⟩) m c2) m ((ints m (lineP (ws.take k))).map (Value.int .i64)) ∧ MX w1.heap.size wr.heap.size gl gr m (lk (ws.take k)).2 wz ∧ Below w.heap.size w wz) (fun i _ => ws.length - (intOf i).toNat)
        case atStart => exact ⟨0, Nat.zero_le _, rfl, HO2.out, HX2.out, HB2.out⟩
        case round =>
          obtain ⟨k, hk, rfl, hown, hX, hbw⟩ := hrel
          rename World => wz
          by_cases hkl : k < ws.length
          · obtain ⟨x, hx⟩ : ∃ x, ws[k]? = some x := ⟨_, List.getElem?_eq_getElem hkl⟩
            have hlet : Letter m x := Hw.out x (List.mem_of_getElem? hx)
            obtain ⟨b0, off, rfl, hb0, hc⟩ := HI.out k x hx
            have hcx := (hbw.cell (p := ⟨b0, off + k, none⟩) hb0).trans hc
            have k0 : (0 : Int) ≤ (k : Int) := by omega
            have k1 : (k : Int) < (ws.length : Int) := by omega
            have hln := lineP_next hx
            have hlk := lk_next hx
            have hsi := lineP_in (n := m) (ws.take k) (fun z hz => Hw.out z (List.mem_of_mem_take hz))
            have hle := lk_le (ws.take k)
            have htl : (ws.take k).length ≤ 400 := by rw [List.length_take]; omega
            have hl1 := lk_line (ws.take k)
            have hj := num_lt hlet
            have hta := num_abs hlet.1
            have htd : x = sgn x * ((num x : Int) + 1) := by rw [hta]; unfold sgn; split <;> omega
            have hsg : sgn x = 1 ∨ sgn x = -1 := by unfold sgn; split <;> simp
            have CN := Lib.hid (fun w => refsize_any x hlet.1 (by have := hlet.2; omega) w)
            obtain ⟨s, hs⟩ : ∃ s, s = lineP (ws.take k) := ⟨_, rfl⟩
            obtain ⟨j, hjn⟩ : ∃ j, j = num x := ⟨_, rfl⟩
            obtain ⟨M, hM⟩ : ∃ M, M = (lk (ws.take k)).2 := ⟨_, rfl⟩
            have hlk2 : (lk (ws.take (k + 1))).2 = addM (addM M (s.f j) (s.f (j + 1)) (sgn x)) (s.f (j + 1)) (s.f j) (sgn x) := by
              rw [hlk, hM, hs, hjn, ← hl1]
              rfl
            rw [← hs] at hown hln hsi
            rw [← hjn] at hln CN hj htd
            rw [← hM] at hX hle
            have htq : x.tdiv ((j : Int) + 1) = sgn x := by conv => lhs; rw [htd]
                                                            exact Int.mul_tdiv_cancel _ (by omega)
            have htw : IntKind.i64.wrap (sgn x) = sgn x := IntWalk.i64_in _ (by omega)
            have hj0 : ¬ (j : Int) + 1 = 0 := by omega
            have Hln := Lib.hid hln
            have Hlk := Lib.hid hlk2
            have ha := hsi.lt (show j < m by omega)
            have hb := hsi.lt hj
            have hab : s.f j ≠ s.f (j + 1) := fun e => by have := s.inj e; omega
            have cj0 : wz.cell? ⟨g2, j, none⟩ = some (.int .i64 (s.f j : Int)) := by rw [hown.cellAt j (by omega), List.getElem?_map, ints_get s (by omega)]; rfl
            have cj1 : wz.cell? ⟨g2, j + 1, none⟩ = some (.int .i64 (s.f (j + 1) : Int)) := by rw [hown.cellAt (j + 1) (by omega), List.getElem?_map, ints_get s hj]; rfl
            have hsw := ints_swap s hj
            generalize s.f j = a at *
            generalize s.f (j + 1) = b at *
            have hM1 := hle a b
            have hM2 := hle b a
            have e2 : addM M a b (sgn x) b a = M b a := by unfold addM; rw [if_neg (fun h => hab h.1.symm)]
            have hw1 : IntKind.i64.wrap (M a b + sgn x) = M a b + sgn x := IntWalk.i64_in _ (by omega)
            have hw2 : IntKind.i64.wrap (M b a + sgn x) = M b a + sgn x := IntWalk.i64_in _ (by omega)
            generalize sgn x = t at *
            have j0 : (0 : Int) ≤ (j : Int) := by omega
            have j1 : (j : Int) < (m : Int) := by omega
            have j2 : (0 : Int) ≤ (j : Int) + 1 := by omega
            have j3 : (j : Int) + 1 < (m : Int) := by omega
            have j4 : ((j : Int) + 1).toNat = j + 1 := by omega
            have j5 : IntKind.i64.wrap (j : Int) = (j : Int) := num_in (by omega) (by omega)
            have a0 : (0 : Int) ≤ (a : Int) := by omega
            have a1 : (a : Int) < (m : Int) := by omega
            have b1 : (0 : Int) ≤ (b : Int) := by omega
            have b2 : (b : Int) < (m : Int) := by omega
            have HX := Lib.hid hX
            have Hown := Lib.hid hown
            have HB := Lib.hid hbw
            have Hsw := Lib.hid hsw
            clear hc hx hlet hln hlk hsi hle htl hl1 hsg hs hM hlk2 hM1 hM2 hjn htd hta hX hown hbw hsw
            go_wp2_with fail
            refine (CN.out _).mono ?_
            rintro e w3 ⟨rfl, rfl⟩
            go_wp2_with fail
            go_quiet (fail)
            clear cj0 cj1
            obtain ⟨W0, hW0⟩ : ∃ W0, W0 = w3.drewN nq := ⟨_, rfl⟩
            have HX1 := Lib.hid (show MX w1.heap.size wr.heap.size gl gr m M W0 by rw [hW0]; exact HX.out.below (below_drewN (Below.refl _ _) _))
            have Ho1 := Lib.hid (show W0.ownsRow wr.heap.size 3 1 (.slice (some ⟨g2, 0, none⟩) m c2) m ((ints m s).map (Value.int .i64)) by rw [hW0]; exact own_below Hown.out (below_drewN (Below.refl _ _) _))
            have Hb1 := Lib.hid (show Below w.heap.size w W0 by rw [hW0]; exact below_drewN HB.out _)
            have hcx1 : W0.cell? ⟨b0, off + k, none⟩ = some (.int .i64 x) := by rw [hW0]; exact hcx
            rw [← hW0]
            clear hW0 HX Hown HB hcx
            go_wp2_with fail
            refine wp_region_class (fun w' => MX w1.heap.size wr.heap.size gl gr m M w' ∧ w'.ownsRow wr.heap.size 3 1 (.slice (some ⟨g2, 0, none⟩) m c2) m ((ints m s).map (Value.int .i64)) ∧ Below w.heap.size w w') 15 (by kernel_rfl) (by kernel_rfl) ⟨HX1.out.drew, Ho1.out.drew, Hb1.out.drew⟩ ?_
            simp only [List.take_succ_cons, List.take_zero, List.drop_succ_cons, List.drop_zero]
            refine quiet_move rfl _ rfl ?_
            simp only [Act.put, List.setIfInBounds_toArray, List.set_cons_zero, List.set_cons_succ]
            refine quiet_move rfl _ rfl ?_
            simp only [Act.put, List.setIfInBounds_toArray, List.set_cons_zero, List.set_cons_succ]
            refine quiet_still rfl (.pointer (some ⟨gl, a, none⟩)) (fun w _ => by go_simp) ?_
            simp only [Act.put, List.setIfInBounds_toArray, List.set_cons_zero, List.set_cons_succ]
            refine quiet_load1 rfl _ _ rfl ⟨gl, a, none⟩ rfl (.slice (some ⟨gr a, 0, none⟩) m m) (load_ints _ _) (fun _ h => h.1.ptr a ha) ?_
            simp only [Act.put, List.setIfInBounds_toArray, List.set_cons_zero, List.set_cons_succ]
            refine quiet_move rfl _ rfl ?_
            simp only [Act.put, List.setIfInBounds_toArray, List.set_cons_zero, List.set_cons_succ]
            refine quiet_move rfl _ rfl ?_
            simp only [Act.put, List.setIfInBounds_toArray, List.set_cons_zero, List.set_cons_succ]
            refine quiet_move rfl _ rfl ?_
            simp only [Act.put, List.setIfInBounds_toArray, List.set_cons_zero, List.set_cons_succ]
            refine quiet_still rfl (.pointer (some ⟨gl, a, none⟩)) (fun w _ => by go_simp) ?_
            simp only [Act.put, List.setIfInBounds_toArray, List.set_cons_zero, List.set_cons_succ]
            refine quiet_load1 rfl _ _ rfl ⟨gl, a, none⟩ rfl (.slice (some ⟨gr a, 0, none⟩) m m) (load_ints _ _) (fun _ h => h.1.ptr a ha) ?_
            simp only [Act.put, List.setIfInBounds_toArray, List.set_cons_zero, List.set_cons_succ]
            refine quiet_move rfl _ rfl ?_
            simp only [Act.put, List.setIfInBounds_toArray, List.set_cons_zero, List.set_cons_succ]
            refine quiet_still rfl (.pointer (some ⟨gr a, b, none⟩)) (fun w _ => by go_simp) ?_
            simp only [Act.put, List.setIfInBounds_toArray, List.set_cons_zero, List.set_cons_succ]
            refine quiet_load1 rfl _ _ rfl ⟨gr a, b, none⟩ rfl (.int .i64 (M a b)) (load_int _ _) (fun _ h => h.1.at ha hb) ?_
            simp only [Act.put, List.setIfInBounds_toArray, List.set_cons_zero, List.set_cons_succ]
            refine quiet_move rfl _ rfl ?_
            simp only [Act.put, List.setIfInBounds_toArray, List.set_cons_zero, List.set_cons_succ]
            refine quiet_still rfl (.int .i64 (M a b + t)) (fun w _ => by go_simp) ?_
            simp only [Act.put, List.setIfInBounds_toArray, List.set_cons_zero, List.set_cons_succ]
            refine quiet_still rfl (.pointer (some ⟨gr a, b, none⟩)) (fun w _ => by go_simp) ?_
            simp only [Act.put, List.setIfInBounds_toArray, List.set_cons_zero, List.set_cons_succ]
            refine wpQuiet_nil fun w4 h4 => ?_
            obtain ⟨hX4, ho4, hb4⟩ := h4
            have c4 := hX4.at ha hb
            have f4 := hX4.fz b ha
            have X5 := hX4.set ha hb t
            have hra := hX4.lo a ha
            have hra2 := hX4.hi a ha
            have o5 := own_blk2 ho4 (show g2 ≠ gr a by omega) b (.int .i64 (M a b + t))
            have b5 := hb4.setCell (p := ⟨gr a, b, none⟩) (by show w.heap.size ≤ gr a; omega) (.int .i64 (M a b + t))
            have HX5 := Lib.hid X5
            have Ho5 := Lib.hid o5
            have Hb5 := Lib.hid b5
            clear hX4 ho4 hb4 X5 o5 b5 hra hra2
            go_wp2_with fail
            obtain ⟨W5, hW5⟩ : ∃ W5, W5 = w4.setCell ⟨gr a, b, none⟩ (.int .i64 (M a b + t)) := ⟨_, rfl⟩
            rw [← hW5] at HX5 Ho5 Hb5 ⊢
            clear hW5 c4 f4
            clear HX1 Ho1 Hb1
            refine wp_region_class (fun w' => MX w1.heap.size wr.heap.size gl gr m (addM M a b t) w' ∧ w'.ownsRow wr.heap.size 3 1 (.slice (some ⟨g2, 0, none⟩) m c2) m ((ints m s).map (Value.int .i64)) ∧ Below w.heap.size w w') 15 (by kernel_rfl) (by kernel_rfl) ⟨HX5.out.drew, Ho5.out.drew, Hb5.out.drew⟩ ?_
            simp only [List.take_succ_cons, List.take_zero, List.drop_succ_cons, List.drop_zero]
            refine quiet_move rfl _ rfl ?_
            simp only [Act.put, List.setIfInBounds_toArray, List.set_cons_zero, List.set_cons_succ]
            refine quiet_move rfl _ rfl ?_
            simp only [Act.put, List.setIfInBounds_toArray, List.set_cons_zero, List.set_cons_succ]
            refine quiet_still rfl (.pointer (some ⟨gl, b, none⟩)) (fun w _ => by go_simp) ?_
            simp only [Act.put, List.setIfInBounds_toArray, List.set_cons_zero, List.set_cons_succ]
            refine quiet_load1 rfl _ _ rfl ⟨gl, b, none⟩ rfl (.slice (some ⟨gr b, 0, none⟩) m m) (load_ints _ _) (fun _ h => h.1.ptr b hb) ?_
            simp only [Act.put, List.setIfInBounds_toArray, List.set_cons_zero, List.set_cons_succ]
            refine quiet_move rfl _ rfl ?_
            simp only [Act.put, List.setIfInBounds_toArray, List.set_cons_zero, List.set_cons_succ]
            refine quiet_move rfl _ rfl ?_
            simp only [Act.put, List.setIfInBounds_toArray, List.set_cons_zero, List.set_cons_succ]
            refine quiet_move rfl _ rfl ?_
            simp only [Act.put, List.setIfInBounds_toArray, List.set_cons_zero, List.set_cons_succ]
            refine quiet_still rfl (.pointer (some ⟨gl, b, none⟩)) (fun w _ => by go_simp) ?_
            simp only [Act.put, List.setIfInBounds_toArray, List.set_cons_zero, List.set_cons_succ]
            refine quiet_load1 rfl _ _ rfl ⟨gl, b, none⟩ rfl (.slice (some ⟨gr b, 0, none⟩) m m) (load_ints _ _) (fun _ h => h.1.ptr b hb) ?_
            simp only [Act.put, List.setIfInBounds_toArray, List.set_cons_zero, List.set_cons_succ]
            refine quiet_move rfl _ rfl ?_
            simp only [Act.put, List.setIfInBounds_toArray, List.set_cons_zero, List.set_cons_succ]
            refine quiet_still rfl (.pointer (some ⟨gr b, a, none⟩)) (fun w _ => by go_simp) ?_
            simp only [Act.put, List.setIfInBounds_toArray, List.set_cons_zero, List.set_cons_succ]
            refine quiet_load1 rfl _ _ rfl ⟨gr b, a, none⟩ rfl (.int .i64 (M b a)) (load_int _ _) (fun _ h => (h.1.at hb ha).trans (by rw [e2])) ?_
            simp only [Act.put, List.setIfInBounds_toArray, List.set_cons_zero, List.set_cons_succ]
            refine quiet_move rfl _ rfl ?_
            simp only [Act.put, List.setIfInBounds_toArray, List.set_cons_zero, List.set_cons_succ]
            refine quiet_still rfl (.int .i64 (M b a + t)) (fun w _ => by go_simp) ?_
            simp only [Act.put, List.setIfInBounds_toArray, List.set_cons_zero, List.set_cons_succ]
            refine quiet_still rfl (.pointer (some ⟨gr b, a, none⟩)) (fun w _ => by go_simp) ?_
            simp only [Act.put, List.setIfInBounds_toArray, List.set_cons_zero, List.set_cons_succ]
            refine wpQuiet_nil fun w6 h4 => ?_
            obtain ⟨hX4, ho4, hb4⟩ := h4
            have c4 := (hX4.at hb ha).trans (by rw [e2])
            have f4 := hX4.fz a hb
            have X5 := hX4.set hb ha t
            rw [e2] at X5
            have hra := hX4.lo b hb
            have hra2 := hX4.hi b hb
            have o5 := own_blk2 ho4 (show g2 ≠ gr b by omega) a (.int .i64 (M b a + t))
            have b5 := hb4.setCell (p := ⟨gr b, a, none⟩) (by show w.heap.size ≤ gr b; omega) (.int .i64 (M b a + t))
            have HX7 := Lib.hid X5
            have Ho7 := Lib.hid o5
            have Hb7 := Lib.hid b5
            clear hX4 ho4 hb4 X5 o5 b5 hra hra2
            obtain ⟨W7, hW7⟩ : ∃ W7, w6.setCell ⟨gr b, a, none⟩ (.int .i64 (M b a + t)) = W7 := ⟨_, rfl⟩
            rw [hW7] at HX7 Ho7 Hb7
            clear HX5 Ho5 Hb5
            have ho7 := Ho7.out
            have e0 := hX7c ho7 (show j < m by omega)
            have e1 := hX7c ho7 (show j + 1 < m by omega)
            have f0 := ho7.frozenAt j
            have f1 := ho7.frozenAt (j + 1)
            have hg2l := ho7.lt g2 rfl
            have hs1 := (ho7.stored j (.int .i64 (b : Int))).1
            have hs2 := (hs1.stored (j + 1) (.int .i64 (a : Int))).1
            rw [Hsw.out] at hs2
            have Hs2 := Lib.hid hs2
            have HX8 := Lib.hid ((HX7.out.below ((Below.refl wr.heap.size W7).setCell (p := ⟨g2, j, none⟩) hg2l.1 (.int .i64 (b : Int)))).below ((Below.refl wr.heap.size _).setCell (p := ⟨g2, j + 1, none⟩) hg2l.1 (.int .i64 (a : Int))))
            have Hb8 := Lib.hid ((Hb7.out.setCell (p := ⟨g2, j, none⟩) (by show w.heap.size ≤ g2; omega) (.int .i64 (b : Int))).setCell (p := ⟨g2, j + 1, none⟩) (by show w.heap.size ≤ g2; omega) (.int .i64 (a : Int)))
            clear hs1 hs2 ho7 HX7 Ho7 Hb7 hg2l
            go_wp2_with fail
            go_roundw
            case rel => exact ⟨k + 1, hkl, by go_num, by rw [Hln.out]; exact Hs2.out, by rw [Hlk.out]; exact HX8.out, Hb8.out⟩
            case measure => (simp [intOf] <;> omega)
          · have k1 : ¬ (k : Int) < (ws.length : Int) := by omega
            have e : k = ws.length := by omega
            rw [e, List.take_length] at hX
            have HF := Lib.hid (hX.form m2)
            clear hown hX e
            go_wp2_with fail
            go_ret2
            exact ⟨_, rfl, ⟨some ⟨gl, 0, none⟩, co, by rw [Hn.out, linksL_len]; rfl, by rw [Hn.out, linksL_len]; exact hcap, hcapm, by rw [Hn.out]; exact HF.out⟩, hbw⟩
  · have hn := Lib.hid (HS.out h)
    go_enter Try.func27, Try.ntmps27
    go_wp2_with fail
    refine CK.out.mono ?_
    rintro e w1 ⟨rfl, B1⟩
    go_wp2_with fail
    go_ret2
    exact ⟨.slice none 0 0, rfl, by rw [hn.out]; exact fs_nil _, B1⟩
end Go.Proofs.Yteffdkoebigcnaa
