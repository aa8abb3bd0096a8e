/- The program's Links walked. -/
import Derived.Test.YtnfppebcpagjpaaDA
namespace Go.Proofs.Ytnfppebcpagjpaa
open Go.RowKit Go.Lib
theorem mk_rows (n : Nat) (hn : n < 100000) (W : World) : (Instr.makeSlice 31 (.int .i64 (n : Int)) (.int .i64 (n : Int))).run Try.prog W = .ok (.slice (some ⟨W.heap.size, 0, none⟩) n n) (W.alloc (.cells (madeCells #[.slice none 0 0] n) 22)) := by
  obtain ⟨i0, hi, hz0, hz1, hz2⟩ := info_parts infoInts
  have h := run_make (P := Try.prog) W 31 22 i0 (.slice none 0 0) Try.underlying31 hi hz0 .i64 .i64 (n : Int) (n : Int) (by omega) (by omega) (by rw [hz2]; omega) (by omega)
  rw [hz1] at h
  simp at h
  exact h
/-- What Links hands out. -/
def linksV (n : Int) (ws : List Int) : List (List Int) := if checkV n ws = 0 then linksL n.toNat ws else []
/-- A slice value that reads as these rows. -/
def FS (w : World) (v : Value) (F : List (List Int)) : Prop := ∃ a c, v = .slice a F.length c ∧ F.length ≤ c ∧ c ≤ maxLen ∧ FormAt w a F
theorem FS.below {w w' : World} {v : Value} {F : List (List Int)} (h : FS w v F) (hb : Below w.heap.size w w') : FS w' v F := by
  obtain ⟨a, c, e, h1, h2, h3⟩ := h
  exact ⟨a, c, e, h1, h2, h3.below hb⟩
theorem fs_nil (w : World) : FS w (.slice none 0 0) [] := ⟨none, 0, rfl, Nat.le_refl _, Nat.zero_le _, fun k l h => by cases h⟩
theorem sameForm_fs {u v : Value} {xs ys : List (List Int)} {w : World} (hu : FS w u xs) (hv : FS w v ys) (r : Bool) (hr : r = true ↔ xs = ys) :
    Calls Try.prog 28 #[u, v] w fun e w' => e = .returned (.bool r) ∧ Below w.heap.size w w' := by
  obtain ⟨a, c, rfl, h1, h2, h3⟩ := hu
  obtain ⟨b, d, rfl, _, _, k3⟩ := hv
  exact sameForm_any xs ys r hr a b c d w h1 h2 h3 k3
theorem entSign (args : Array Value) (w : World) : (callFunc 60 args).run Try.prog w = .ok (.enter 60 args) w := enter_of Try.func60 (by decide +kernel) (by intro h; cases h) args w
set_option maxHeartbeats 2000000 in
set_option maxRecDepth 100000 in
theorem Links_any (n : Int) (ws : List Int) (v : Value) (w : World) (hv : IS w v ws) :
    Calls Try.prog 26 #[.int .i64 n, v] w fun e w' => ∃ v', e = .returned (.tuple #[v', .int .i64 (checkV n ws)]) ∧ FS w' v' (linksV n ws) ∧ Below w.heap.size w w' := by
  obtain ⟨sa, sc, rfl, h1, h2, _, hI⟩ := hv
  have CK := Lib.hid (Check_any n ws sa sc w h1 h2 hI)
  have HI := Lib.hid hI
  have hok := fun h => checkV_ok (n := n) (ws := ws) h
  have HS := Lib.hid (show checkV n ws ≠ 0 → linksV n ws = [] from fun h => if_neg h)
  have HT := Lib.hid (show checkV n ws = 0 → linksV n ws = linksL n.toNat ws from fun h => if_pos h)
  obtain ⟨c, hc⟩ : ∃ c, c = checkV n ws := ⟨_, rfl⟩
  rw [← hc] at CK hok HS HT ⊢
  have HO := Lib.hid hok
  clear hok hI hc
  by_cases h : c = 0
  · have hn := HT.out h
    obtain ⟨m, rfl, m1, m2, hl, hw⟩ := HO.out h
    rw [Int.toNat_natCast] at hn
    have Hn := Lib.hid hn
    have Hw := Lib.hid hw
    subst h
    have hmr := fun W => mk_rows m (by omega) W
    have hmk := fun W => mk_full m (by omega) W
    clear HO HS HT hn hw
    go_enter Try.func26, Try.ntmps26
    go_wp2_with fail
    refine CK.out.mono ?_
    rintro e w1 ⟨rfl, B1⟩
    have HB1 := Lib.hid B1
    have hz1 := B1.size
    clear B1
    go_wp2_with fail
    clear hmr
    go_loopw [25] (fun i wr => ∃ (k : Nat) (cur : Array Value) (gr : Nat → Nat), k ≤ m ∧ i = .int .i64 k ∧ wr.heap[w1.heap.size]? = some (.cells cur 22 (0, 0)) ∧ cur.size = m ∧ (∀ i, i < k → cur[i]? = some (.slice (some ⟨gr i, 0, none⟩) m m)) ∧ (∀ i, i < k → wr.heap[gr i]? = some (.cells (mrow m (fun _ => 0)) 3 (0, 0))) ∧ (∀ i, i < k → w1.heap.size < gr i ∧ gr i < wr.heap.size) ∧ (∀ i j, i < k → j < k → gr i = gr j → i = j) ∧ Below w1.heap.size w1 wr) (fun i _ => m - (intOf i).toNat)
    case atStart => exact ⟨0, _, fun _ => 0, Nat.zero_le _, rfl, heap_alloc_new w1 _, size_madeCells _ _, fun i h => by omega, fun i h => by omega, fun i h => by omega, fun i j h => by omega, below_alloc w1 _⟩
    case round =>
      obtain ⟨k, cur, gr, hk, rfl, hrow, hcs, hcur, hrows, hlo, hinj, hbw⟩ := hrel
      have Hcs := Lib.hid hcs
      have Hcur := Lib.hid hcur
      have Hrows := Lib.hid hrows
      have Hlo := Lib.hid hlo
      have Hinj := Lib.hid hinj
      have hrl := (Array.getElem?_eq_some_iff.1 hrow).1
      clear hcs hcur hrows hlo hinj
      by_cases hkm : k < m
      · obtain ⟨y0, hy0⟩ : ∃ y, cur[k]? = some y := ⟨_, Array.getElem?_eq_getElem (by rw [Hcs.out]; exact hkm)⟩
        obtain ⟨W, hW⟩ : ∃ W, W = wr.alloc (.cells (madeCells #[.int .i64 0] m) 3) := ⟨_, rfl⟩
        have hWs : W.heap.size = wr.heap.size + 1 := by rw [hW]; simp
        have hWo : ∀ b, b < wr.heap.size → W.heap[b]? = wr.heap[b]? := fun b hb => by rw [hW]; exact Below.heap_alloc _ _ _ hb
        have hWn : W.heap[wr.heap.size]? = some (.cells (mrow m (fun _ => 0)) 3 (0, 0)) := by rw [hW, mrow_zero]; exact heap_alloc_new wr _
        have hrW := (hWo _ hrl).trans hrow
        have cW := (cell_of_row W w1.heap.size k _ _ _ hrW).trans hy0
        have fW := frozen_of_row W w1.heap.size k _ _ hrW
        have hset := heap_setCell_same W w1.heap.size k _ _ (.slice (some ⟨wr.heap.size, 0, none⟩) m m) hrW
        have HWo := Lib.hid hWo
        have HWn := Lib.hid hWn
        have Hset := Lib.hid hset
        have HWs := Lib.hid hWs
        have HoS := Lib.hid (fun b (hb : b ≠ w1.heap.size) => heap_setCell_other W ⟨w1.heap.size, k, none⟩ b (.slice (some ⟨wr.heap.size, 0, none⟩) m m) hb)
        have HBW := Lib.hid ((show Below w1.heap.size w1 W by rw [hW]; exact hbw.alloc hbw.size _).setCell (p := ⟨w1.heap.size, k, none⟩) (Nat.le_refl _) (.slice (some ⟨wr.heap.size, 0, none⟩) m m))
        have k0 : (0 : Int) ≤ (k : Int) := by omega
        have k1 : (k : Int) < (m : Int) := by omega
        have hmW : (Instr.makeSlice 22 (.int .i64 (m : Int)) (.int .i64 (m : Int))).run Try.prog wr = .ok (.slice (some ⟨wr.heap.size, 0, none⟩) m m) W := by rw [hW]; exact hmk wr
        clear hWo hWn hset hrow hrW hy0 hW hmk hWs
        go_wp2_with fail
        go_roundw
        case rel =>
          refine ⟨k + 1, _, fun i => if i = k then wr.heap.size else gr i, hkm, by go_num, Hset.out, by rw [Array.size_setIfInBounds]; exact Hcs.out, fun i hi => ?_, fun i hi => ?_, fun i hi => ?_, fun i j hi hj e => ?_, HBW.out⟩
          · rw [Array.getElem?_setIfInBounds]
            by_cases e : k = i
            · subst e
              rw [if_pos rfl, if_pos (by rw [Hcs.out]; exact hkm)]
              simp
            · rw [if_neg e, Hcur.out i (by omega)]
              simp only [if_neg (fun h : i = k => e h.symm)]
          · by_cases e : i = k
            · subst e
              simp only [if_true]
              rw [HoS.out _ (by omega)]
              exact HWn.out
            · simp only [if_neg e]
              have hq := Hlo.out i (by omega)
              rw [HoS.out _ (by omega), HWo.out _ hq.2]
              exact Hrows.out i (by omega)
          · have hsz : (W.setCell ⟨w1.heap.size, k, none⟩ (.slice (some ⟨wr.heap.size, 0, none⟩) m m)).heap.size = wr.heap.size + 1 := by simp [World.setCell, HWs.out]
            rw [hsz]
            by_cases e : i = k
            · subst e; simp only [if_true]; omega
            · simp only [if_neg e]
              have hq := Hlo.out i (by omega)
              omega
          · by_cases e1 : i = k
            · by_cases e2 : j = k
              · omega
              · simp only [if_pos e1, if_neg e2] at e
                have hq := Hlo.out j (by omega)
                omega
            · by_cases e2 : j = k
              · simp only [if_neg e1, if_pos e2] at e
                have hq := Hlo.out i (by omega)
                omega
              · simp only [if_neg e1, if_neg e2] at e
                exact Hinj.out i j (by omega) (by omega) e
        case measure => (simp [intOf] <;> omega)
      · have e : m = k := by omega
        subst e
        have hX : MX w1.heap.size wr.heap.size w1.heap.size gr m (fun _ _ => 0) wr :=
          ⟨fun i hi => (cell_of_row wr w1.heap.size i _ _ _ hrow).trans (Hcur.out i hi), Hrows.out, fun i hi => Nat.le_of_lt (Hlo.out i hi).1, fun i hi => (Hlo.out i hi).2, Hinj.out, fun i hi => by have := (Hlo.out i hi).1; omega, hrl, Nat.le_refl _⟩
        have HX := Lib.hid hX
        have HBr := Lib.hid (HB1.out.trans (hbw.mono hz1))
        have k1 : ¬ (m : Int) < (m : Int) := by omega
        clear hX hrow Hcur Hrows Hlo Hinj Hcs hbw hmk
        go_wp2_with fail
        refine (newLine_any wr).mono ?_
        rintro e w2 ⟨rfl, B2⟩
        have HX2 := Lib.hid (HX.out.below B2)
        have HB2 := Lib.hid (bon HBr.out B2)
        have hz2 : wr.heap.size ≤ w2.heap.size := B2.size
        clear B2 HX HBr
        go_wp2_with (refine wpList_store_row rfl 61 (.tmp 9) (.tmp 34) rfl w2.heap.size (pc idP) rfl rfl 61 _ (heap_alloc_new _ _) (hiLn _) rfl (pc_one _) ?_)
        rename World => w2
        go_loopw [37] (fun i wz => ∃ k : Nat, k ≤ ws.length ∧ i = .int .i64 k ∧ wz.heap[w2.heap.size]? = some (.cells (pc (lineP (ws.take k))) 61 (0, 0)) ∧ MX w1.heap.size wr.heap.size w1.heap.size gr m (lk (ws.take k)).2 wz ∧ Below w.heap.size w wz) (fun i _ => ws.length - (intOf i).toNat)
        case atStart => exact ⟨0, Nat.zero_le _, rfl, setRow_heap _ _ _ _ _ _ (heap_alloc_new _ _), HX2.out.below (below_setRow ((below_alloc w2 _).mono hz2) hz2 _), below_setRow (HB2.out.alloc HB2.out.size _) HB2.out.size _⟩
        case round =>
          obtain ⟨k, hk, rfl, hrow, hX, hbw⟩ := hrel
          rename World => wz
          have HX := Lib.hid hX
          have HB := Lib.hid hbw
          clear hX hbw
          by_cases hkl : k < ws.length
          · obtain ⟨x, hx⟩ : ∃ x, ws[k]? = some x := ⟨_, List.getElem?_eq_getElem hkl⟩
            have hlet : Letter m x := Hw.out x (List.mem_of_getElem? hx)
            obtain ⟨b0, off, rfl, hb0, hc⟩ := HI.out k x hx
            have hcx := (HB.out.cell (p := ⟨b0, off + k, none⟩) hb0).trans hc
            have k0 : (0 : Int) ≤ (k : Int) := by omega
            have k1 : (k : Int) < (ws.length : Int) := by omega
            have hln := lineP_next hx
            have hlk := lk_next hx
            have hsi := lineP_in (n := m) (ws.take k) (fun z hz => Hw.out z (List.mem_of_mem_take hz))
            have hle := lk_le (ws.take k)
            have htl : (ws.take k).length ≤ 400 := by rw [List.length_take]; omega
            have hl1 := lk_line (ws.take k)
            have hj := num_lt hlet
            have hsg : sgn x = 1 ∨ sgn x = -1 := by unfold sgn; split <;> simp
            have CN := Lib.hid (fun w => number_any x hlet.1 (by have := hlet.2; omega) w)
            obtain ⟨s, hs⟩ : ∃ s, s = lineP (ws.take k) := ⟨_, rfl⟩
            obtain ⟨j, hjn⟩ : ∃ j, j = num x := ⟨_, rfl⟩
            obtain ⟨M, hM⟩ : ∃ M, M = (lk (ws.take k)).2 := ⟨_, rfl⟩
            have hlk2 : (lk (ws.take (k + 1))).2 = addM (addM M (s.f j) (s.f (j + 1)) (sgn x)) (s.f (j + 1)) (s.f j) (sgn x) := by
              rw [hlk, hM, hs, hjn, ← hl1]
              rfl
            rw [← hs] at hrow hln hsi
            rw [← hjn] at hln CN hj
            rw [← hM] at HX hle
            have CC := fun wc hr => cross_any w2.heap.size s j x hjn (by omega) hlet.1 (by have := hlet.2; omega) wc hr
            have HCC := Lib.hid CC
            have Hln := Lib.hid hln
            have Hlk := Lib.hid hlk2
            have ha := hsi.lt (show j < m by omega)
            have hb := hsi.lt hj
            have hab : s.f j ≠ s.f (j + 1) := fun e => by have := s.inj e; omega
            have cj0 := (cell_of_row wz w2.heap.size j _ _ _ hrow).trans (pc_get s (by omega))
            have cj1 := (cell_of_row wz w2.heap.size (j + 1) _ _ _ hrow).trans (pc_get s (by omega))
            have Hrow := Lib.hid hrow
            generalize s.f j = a at *
            generalize s.f (j + 1) = b at *
            have hM1 := hle a b
            have hM2 := hle b a
            have e2 : addM M a b (sgn x) b a = M b a := by unfold addM; rw [if_neg (fun h => hab h.1.symm)]
            have hw1 : IntKind.i64.wrap (M a b + sgn x) = M a b + sgn x := IntWalk.i64_in _ (by omega)
            have hw2 : IntKind.i64.wrap (M b a + sgn x) = M b a + sgn x := IntWalk.i64_in _ (by omega)
            have j0 : (0 : Int) ≤ (j : Int) := by omega
            have j1 : (j : Int) < 12 := by omega
            have j2 : (0 : Int) ≤ (j : Int) + 1 := by omega
            have j3 : (j : Int) + 1 < 12 := by omega
            have j4 : ((j : Int) + 1).toNat = j + 1 := by omega
            have j5 : IntKind.i64.wrap (j : Int) = (j : Int) := num_in (by omega) (by omega)
            have a0 : (0 : Int) ≤ (a : Int) := by omega
            have a1 : (a : Int) < (m : Int) := by omega
            have b1 : (0 : Int) ≤ (b : Int) := by omega
            have b2 : (b : Int) < (m : Int) := by omega
            clear hc hx hlet hln hlk hsi hle htl hl1 hsg hs hM hlk2 CC hrow hM1 hM2 hjn
            go_wp2_with fail
            refine (CN.out _).mono ?_
            rintro e w3 ⟨rfl, rfl⟩
            go_wp2_with fail
            go_quiet (fail)
            clear cj0 cj1
            go_wp2_with fail
            obtain ⟨W0, hW0⟩ : ∃ W0, W0 = w3.drewN nq := ⟨_, rfl⟩
            have HX1 := Lib.hid (show MX w1.heap.size wr.heap.size w1.heap.size gr m M W0 by rw [hW0]; exact HX.out.below (below_drewN (Below.refl _ _) _))
            have Hr1 := Lib.hid (show W0.heap[w2.heap.size]? = some (.cells (pc s) 61 (0, 0)) by rw [hW0]; exact Hrow.out)
            have Hb1 := Lib.hid (show Below w.heap.size w W0 by rw [hW0]; exact below_drewN HB.out _)
            rw [← hW0]
            clear hW0 HX Hrow HB
            refine wp_region_class (fun w' => MX w1.heap.size wr.heap.size w1.heap.size gr m M w' ∧ w'.heap[w2.heap.size]? = some (.cells (pc s) 61 (0, 0)) ∧ Below w.heap.size w w') 11 (by kernel_rfl) (by kernel_rfl) ⟨HX1.out.drew, Hr1.out, Hb1.out.drew⟩ ?_
            simp only [List.take_succ_cons, List.take_zero, List.drop_succ_cons, List.drop_zero]
            refine quiet_move rfl _ rfl ?_
            simp only [Act.put, List.setIfInBounds_toArray, List.set_cons_zero, List.set_cons_succ]
            refine quiet_move rfl _ rfl ?_
            simp only [Act.put, List.setIfInBounds_toArray, List.set_cons_zero, List.set_cons_succ]
            refine quiet_still rfl (.pointer (some ⟨w1.heap.size, a, none⟩)) (fun w _ => by go_simp) ?_
            simp only [Act.put, List.setIfInBounds_toArray, List.set_cons_zero, List.set_cons_succ]
            refine quiet_load1 rfl _ _ rfl ⟨w1.heap.size, a, none⟩ rfl (.slice (some ⟨gr a, 0, none⟩) m m) (load_ints _ _) (fun _ h => h.1.ptr a ha) ?_
            simp only [Act.put, List.setIfInBounds_toArray, List.set_cons_zero, List.set_cons_succ]
            refine quiet_move rfl _ rfl ?_
            simp only [Act.put, List.setIfInBounds_toArray, List.set_cons_zero, List.set_cons_succ]
            refine quiet_still rfl (.pointer (some ⟨gr a, b, none⟩)) (fun w _ => by go_simp) ?_
            simp only [Act.put, List.setIfInBounds_toArray, List.set_cons_zero, List.set_cons_succ]
            refine quiet_load1 rfl _ _ rfl ⟨gr a, b, none⟩ rfl (.int .i64 (M a b)) (load_int _ _) (fun _ h => h.1.at ha hb) ?_
            simp only [Act.put, List.setIfInBounds_toArray, List.set_cons_zero, List.set_cons_succ]
            refine quiet_move rfl _ rfl ?_
            simp only [Act.put, List.setIfInBounds_toArray, List.set_cons_zero, List.set_cons_succ]
            refine quiet_call rfl 60 _ _ rfl entSign (.int .i64 (sgn x)) (fun wc h => (sign_any x wc).mono fun e w' ⟨he, hb⟩ => ⟨he, hb ▸ h⟩) ?_
            simp only [Act.put, List.setIfInBounds_toArray, List.set_cons_zero, List.set_cons_succ]
            refine quiet_still rfl (.int .i64 (M a b + sgn x)) (fun w _ => by go_simp) ?_
            simp only [Act.put, List.setIfInBounds_toArray, List.set_cons_zero, List.set_cons_succ]
            refine quiet_still rfl (.pointer (some ⟨gr a, b, none⟩)) (fun w _ => by go_simp) ?_
            simp only [Act.put, List.setIfInBounds_toArray, List.set_cons_zero, List.set_cons_succ]
            refine wpQuiet_nil fun w4 h4 => ?_
            obtain ⟨hX4, hr4, hb4⟩ := h4
            have c4 := hX4.at ha hb
            have f4 := hX4.fz b ha
            have X5 := hX4.set ha hb (sgn x)
            have hra := hX4.lo a ha
            have hra2 := hX4.hi a ha
            have r5 : (w4.setCell ⟨gr a, b, none⟩ (.int .i64 (M a b + sgn x))).heap[w2.heap.size]? = some (.cells (pc s) 61 (0, 0)) := (heap_setCell_other w4 ⟨gr a, b, none⟩ w2.heap.size _ (by show w2.heap.size ≠ gr a; omega)).trans hr4
            have b5 := hb4.setCell (p := ⟨gr a, b, none⟩) (by show w.heap.size ≤ gr a; omega) (.int .i64 (M a b + sgn x))
            have HX5 := Lib.hid X5
            have Hr5 := Lib.hid r5
            have Hb5 := Lib.hid b5
            clear hX4 hr4 hb4 X5 r5 b5 HX1 Hr1 Hb1 hra hra2
            go_wp2_with fail
            obtain ⟨W5, hW5⟩ : ∃ W5, W5 = w4.setCell ⟨gr a, b, none⟩ (.int .i64 (M a b + sgn x)) := ⟨_, rfl⟩
            rw [← hW5] at HX5 Hr5 Hb5 ⊢
            clear hW5 c4 f4
            refine wp_region_class (fun w' => MX w1.heap.size wr.heap.size w1.heap.size gr m (addM M a b (sgn x)) w' ∧ w'.heap[w2.heap.size]? = some (.cells (pc s) 61 (0, 0)) ∧ Below w.heap.size w w') 11 (by kernel_rfl) (by kernel_rfl) ⟨HX5.out.drew, Hr5.out, Hb5.out.drew⟩ ?_
            simp only [List.take_succ_cons, List.take_zero, List.drop_succ_cons, List.drop_zero]
            refine quiet_move rfl _ rfl ?_
            simp only [Act.put, List.setIfInBounds_toArray, List.set_cons_zero, List.set_cons_succ]
            refine quiet_move rfl _ rfl ?_
            simp only [Act.put, List.setIfInBounds_toArray, List.set_cons_zero, List.set_cons_succ]
            refine quiet_still rfl (.pointer (some ⟨w1.heap.size, b, none⟩)) (fun w _ => by go_simp) ?_
            simp only [Act.put, List.setIfInBounds_toArray, List.set_cons_zero, List.set_cons_succ]
            refine quiet_load1 rfl _ _ rfl ⟨w1.heap.size, b, none⟩ rfl (.slice (some ⟨gr b, 0, none⟩) m m) (load_ints _ _) (fun _ h => h.1.ptr b hb) ?_
            simp only [Act.put, List.setIfInBounds_toArray, List.set_cons_zero, List.set_cons_succ]
            refine quiet_move rfl _ rfl ?_
            simp only [Act.put, List.setIfInBounds_toArray, List.set_cons_zero, List.set_cons_succ]
            refine quiet_still rfl (.pointer (some ⟨gr b, a, none⟩)) (fun w _ => by go_simp) ?_
            simp only [Act.put, List.setIfInBounds_toArray, List.set_cons_zero, List.set_cons_succ]
            refine quiet_load1 rfl _ _ rfl ⟨gr b, a, none⟩ rfl (.int .i64 (M b a)) (load_int _ _) (fun _ h => (h.1.at hb ha).trans (by rw [e2])) ?_
            simp only [Act.put, List.setIfInBounds_toArray, List.set_cons_zero, List.set_cons_succ]
            refine quiet_move rfl _ rfl ?_
            simp only [Act.put, List.setIfInBounds_toArray, List.set_cons_zero, List.set_cons_succ]
            refine quiet_call rfl 60 _ _ rfl entSign (.int .i64 (sgn x)) (fun wc h => (sign_any x wc).mono fun e w' ⟨he, hb⟩ => ⟨he, hb ▸ h⟩) ?_
            simp only [Act.put, List.setIfInBounds_toArray, List.set_cons_zero, List.set_cons_succ]
            refine quiet_still rfl (.int .i64 (M b a + sgn x)) (fun w _ => by go_simp) ?_
            simp only [Act.put, List.setIfInBounds_toArray, List.set_cons_zero, List.set_cons_succ]
            refine quiet_still rfl (.pointer (some ⟨gr b, a, none⟩)) (fun w _ => by go_simp) ?_
            simp only [Act.put, List.setIfInBounds_toArray, List.set_cons_zero, List.set_cons_succ]
            refine wpQuiet_nil fun w6 h6 => ?_
            obtain ⟨hX6, hr6, hb6⟩ := h6
            have c6 := (hX6.at hb ha).trans (by rw [e2])
            have f6 := hX6.fz a hb
            have X7 := hX6.set hb ha (sgn x)
            rw [e2] at X7
            have hra := hX6.lo b hb
            have hra2 := hX6.hi b hb
            have r7 : (w6.setCell ⟨gr b, a, none⟩ (.int .i64 (M b a + sgn x))).heap[w2.heap.size]? = some (.cells (pc s) 61 (0, 0)) := (heap_setCell_other w6 ⟨gr b, a, none⟩ w2.heap.size _ (by show w2.heap.size ≠ gr b; omega)).trans hr6
            have b7 := hb6.setCell (p := ⟨gr b, a, none⟩) (by show w.heap.size ≤ gr b; omega) (.int .i64 (M b a + sgn x))
            have HX7 := Lib.hid X7
            have Hr7 := Lib.hid r7
            have Hb7 := Lib.hid b7
            clear hX6 hr6 hb6 X7 r7 b7 HX5 Hr5 Hb5 hra hra2
            go_wp2_with fail
            obtain ⟨W7, hW7⟩ : ∃ W7, W7 = w6.setCell ⟨gr b, a, none⟩ (.int .i64 (M b a + sgn x)) := ⟨_, rfl⟩
            rw [← hW7] at HX7 Hr7 Hb7 ⊢
            clear hW7 c6 f6
            refine (HCC.out W7 Hr7.out).mono ?_
            rintro e w8 ⟨rfl, r8, b8⟩
            have HX8 := Lib.hid (HX7.out.below (b8.mono hz2))
            have Hr8 := Lib.hid r8
            have Hb8 := Lib.hid (Hb7.out.trans (b8.mono HB2.out.size))
            clear r8 b8 HX7 Hr7 Hb7 HCC
            go_wp2_with fail
            go_roundw
            case rel => exact ⟨k + 1, hkl, by go_num, by rw [Hln.out]; exact Hr8.out, by rw [Hlk.out]; exact HX8.out, Hb8.out⟩
            case measure => (simp [intOf] <;> omega)
          · have k1 : ¬ (k : Int) < (ws.length : Int) := by omega
            have e : k = ws.length := by omega
            rw [e, List.take_length] at HX
            have HF := Lib.hid (HX.out.form m2)
            clear hrow HX e
            go_wp2_with fail
            go_ret2
            exact ⟨_, rfl, ⟨some ⟨w1.heap.size, 0, none⟩, m, by rw [Hn.out, linksL_len]; rfl, by rw [Hn.out, linksL_len]; exact Nat.le_refl _, by unfold maxLen; omega, by rw [Hn.out]; exact HF.out⟩, HB.out⟩
  · have hn := Lib.hid (HS.out h)
    go_enter Try.func26, Try.ntmps26
    go_wp2_with fail
    refine CK.out.mono ?_
    rintro e w1 ⟨rfl, B1⟩
    go_wp2_with fail
    go_ret2
    exact ⟨.slice none 0 0, rfl, by rw [hn.out]; exact fs_nil _, B1⟩
end Go.Proofs.Ytnfppebcpagjpaa
