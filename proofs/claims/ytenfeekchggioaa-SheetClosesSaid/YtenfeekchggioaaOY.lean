/- The reference's Closed. -/
import Derived.Test.YtenfeekchggioaaPB
import Derived.Test.YtenfeekchggioaaON
import Derived.Deep.QuietTactic
namespace Go.Proofs.Ytenfeekchggioaa
open Go.RowKit Go.Shelf
set_option linter.unusedSimpArgs false
attribute [local irreducible] wpQuiet
theorem below_drewNs {B : Nat} {w w' : World} (h : Below B w w') : ∀ n, Below B w (w'.drewN n)
  | 0 => h
  | n + 1 => (below_drewNs h n).drew
set_option maxRecDepth 100000 in
set_option maxHeartbeats 4000000 in
theorem refClosed_any (s : Sh) (v : Value) (ds : List Int) (dv : Value) (w : World) (hv : SV w v s) (hd : IS w dv ds) (hdl : ds.length ≤ 100000) :
    Calls Try.prog 31 #[v, dv] w fun e w' => e = .returned (.int .i64 (clE s ds)) ∧ Below w.heap.size w w' := by
  have HV := Lib.hid hv
  obtain ⟨u, rfl, hu⟩ := hv
  obtain ⟨sa, sc, rfl, q1, q2, _, hI⟩ := hd
  obtain ⟨ua, uc, rfl, k1, k2, hU⟩ := id hu
  have HI := Lib.hid hI
  have CK := Lib.hid (fun W h => refCheck4_any s (.agg #[.int .i64 s.pr, .slice ua s.ws.length uc]) W h)
  have CR := Lib.hid (fun W h hc => refRows_any s (.agg #[.int .i64 s.pr, .slice ua s.ws.length uc]) W h hc)
  have HE1 := Lib.hid (@clE_err s ds)
  have HE2 := Lib.hid (@clE_bad s ds)
  have HE3 := Lib.hid (@clE_four s ds)
  have HE4 := Lib.hid (@clE_ok s ds)
  have HSM0 := Lib.hid (@chk_small s)
  generalize clE s ds = ce at *
  generalize chkS s = z at *
  clear hI hU hu
  go_enter Try.func31, Try.ntmps31
  go_wp2_with fail
  have h0 := heap_alloc_new w (.cells #[.int .i64 s.pr, .slice ua s.ws.length uc] 24)
  have b0 := below_alloc w (.cells #[.int .i64 s.pr, .slice ua s.ws.length uc] 24)
  have z0 : (w.alloc (.cells #[.int .i64 s.pr, .slice ua s.ws.length uc] 24)).heap.size = w.heap.size + 1 := by simp
  generalize w.alloc (.cells #[.int .i64 s.pr, .slice ua s.ws.length uc] 24) = w0 at *
  refine (CK.out w0 (HV.out.below b0)).mono ?_
  rintro e w1 ⟨rfl, b1⟩
  have H1 := Lib.hid ((b1.block _ (by omega)).trans h0)
  have HB1 := Lib.hid (bon b0 b1)
  have hz1 : w.heap.size < w1.heap.size := by have := b1.size; omega
  clear h0 b0 z0 b1 CK
  by_cases q : z = 0
  · subst q
    have HSM := Lib.hid (HSM0.out rfl).2.2
    have hn4 : s.ws.length ≤ 400 := HSM.out.1
    have g1 : w1.cell? ⟨w.heap.size, 1, none⟩ = some (.slice ua s.ws.length uc) := cell_of_row w1 _ 1 _ _ _ H1.out
    have hmk := fun W => mk_boolsN s.ws.length (by omega) W
    have hbo := bo_made s.ws.length w1.heap.size (by omega) w1 (Nat.le_refl _)
    have hba := below_alloc w1 (.cells (madeCells #[.bool false] s.ws.length) 4)
    go_upto_region 5 with fail
    obtain ⟨g, hg⟩ : ∃ g, g = w1.heap.size := ⟨_, rfl⟩
    rw [← hg] at hbo hba hz1 ⊢
    have HG1 := Lib.hid (show g ≤ w1.heap.size by omega)
    generalize w1.alloc (.cells (madeCells #[.bool false] s.ws.length) 4) = w2 at *
    have HBO := Lib.hid hbo
    have HBA := Lib.hid hba
    have HF0 := Lib.hid (show doneS (ds.take 0) = fun _ => false by rw [List.take_zero, doneS_nil])
    clear hmk hbo hba hg g1
    go_wp2_with fail
    go_loopw [7] (fun i wr => ∃ k : Nat, k ≤ ds.length ∧ i = .int .i64 (k : Int) ∧ OkTo s.ws.length ds k ∧ BO g wr g s.ws.length (doneS (ds.take k)) ∧ Below g w1 wr) (fun i _ => ds.length - (intOf i).toNat)
    case atStart => exact ⟨0, Nat.zero_le _, rfl, (fun j hj => by omega), by rw [HF0.out]; exact HBO.out, HBA.out⟩
    case round =>
      clear HBO HBA HF0
      obtain ⟨k, hk, rfl, hok, hbo, hbw⟩ := hrel
      rename World => wr
      have HOK := Lib.hid hok
      have HBO := Lib.hid hbo
      have HB1W := Lib.hid hbw
      have HBW := Lib.hid (HB1.out.trans (hbw.mono (Nat.le_of_lt hz1)))
      clear hok hbo hbw
      by_cases hkl : k < ds.length
      · have k0 : (0 : Int) ≤ (k : Int) := by omega
        have kk1 : (k : Int) < (ds.length : Int) := by omega
        obtain ⟨y, hy⟩ : ∃ y, ds[k]? = some y := ⟨_, List.getElem?_eq_getElem hkl⟩
        obtain ⟨b, off, rfl, hbl, hcz⟩ := HI.out k y hy
        have cz : wr.cell? ⟨b, off + k, none⟩ = some (.int .i64 y) := (HBW.out.cell (p := ⟨b, off + k, none⟩) hbl).trans hcz
        have HY := Lib.hid hy
        have hbx : b < wr.heap.size := by have := HBW.out.size; omega
        clear hy
        by_cases y0 : y < 0
        · have e : ce = 2 := HE2.out (by first | rfl | trivial) (fun h => by have := (h k y HY.out).1; omega)
          subst e
          go_wp2_with fail
          go_quiet (fail)
          go_wp2_with fail
          go_ret
          exact ⟨rfl, below_drewNs HBW.out _⟩
        by_cases y1 : (s.ws.length : Int) ≤ y
        · have e : ce = 2 := HE2.out (by first | rfl | trivial) (fun h => by have := (h k y HY.out).1; omega)
          subst e
          go_wp2_with fail
          go_quiet (fail)
          go_wp2_with fail
          go_ret
          exact ⟨rfl, below_drewNs HBW.out _⟩
        obtain ⟨i, rfl⟩ : ∃ i : Nat, y = (i : Int) := ⟨y.toNat, by omega⟩
        have hin : i < s.ws.length := by omega
        have i0 : (0 : Int) ≤ (i : Int) := by omega
        have i1 : (i : Int) < (s.ws.length : Int) := by omega
        have ci := HBO.out.cell hin
        have fi := HBO.out.frozen i
        have y2 : ¬ (i : Int) < 0 := by omega
        by_cases hk0 : k = 0
        · have kz : ¬ (0 : Int) < (k : Int) := by omega
          have HN2 := Lib.hid (okTo_next HOK.out HY.out ⟨i0, i1⟩ (fun y h => by omega))
          clear hk0
          go_wp2_with fail
          refine wp_region_class (fun w' => Below wr.heap.size wr w') 29 (by kernel_rfl) (by kernel_rfl) (Below.refl _ wr).drew ?_
          simp only [List.take_succ_cons, List.take_zero, List.drop_succ_cons, List.drop_zero]
          refine quiet_moveV rfl _ rfl (.slice (some ⟨b, off, none⟩) ds.length sc) rfl ?_
          simp only [Act.put, List.setIfInBounds_toArray, List.set_cons_zero, List.set_cons_succ]
          refine quiet_moveV rfl _ rfl (.int .i64 (k : Int)) rfl ?_
          simp only [Act.put, List.setIfInBounds_toArray, List.set_cons_zero, List.set_cons_succ]
          refine quiet_still rfl (.pointer (some ⟨b, off + k, none⟩)) (fun w _ => by go_simp) ?_
          simp only [Act.put, List.setIfInBounds_toArray, List.set_cons_zero, List.set_cons_succ]
          refine quiet_load1 rfl _ _ rfl ⟨b, off + k, none⟩ rfl (.int .i64 (i : Int)) (load_int _ _) (fun _ h => (h.cell (p := ⟨b, off + k, none⟩) hbx).trans cz) ?_
          simp only [Act.put, List.setIfInBounds_toArray, List.set_cons_zero, List.set_cons_succ]
          refine quiet_still rfl (.bool false) (fun w _ => by go_simp) ?_
          simp only [Act.put, List.setIfInBounds_toArray, List.set_cons_zero, List.set_cons_succ]
          refine quiet_moveV rfl _ rfl (.bool false) rfl ?_
          simp only [Act.put, List.setIfInBounds_toArray, List.set_cons_zero, List.set_cons_succ]
          refine quietW_moveV (by kernel_rfl) _ rfl (.slice (some ⟨b, off, none⟩) ds.length sc) rfl ?_
          simp only [Act.put, List.setIfInBounds_toArray, List.set_cons_zero, List.set_cons_succ]
          refine quietW_moveV (by kernel_rfl) _ rfl (.int .i64 (k : Int)) rfl ?_
          simp only [Act.put, List.setIfInBounds_toArray, List.set_cons_zero, List.set_cons_succ]
          refine quietW_still (by kernel_rfl) (.pointer (some ⟨b, off + k, none⟩)) (fun w _ => by go_simp) ?_
          simp only [Act.put, List.setIfInBounds_toArray, List.set_cons_zero, List.set_cons_succ]
          refine quietW_load1 (by kernel_rfl) _ _ rfl ⟨b, off + k, none⟩ rfl (.int .i64 (i : Int)) (load_int _ _) (fun _ h => (h.cell (p := ⟨b, off + k, none⟩) hbx).trans cz) ?_
          simp only [Act.put, List.setIfInBounds_toArray, List.set_cons_zero, List.set_cons_succ]
          refine quietW_moveV (by kernel_rfl) _ rfl (.slice (some ⟨g, 0, none⟩) s.ws.length s.ws.length) rfl ?_
          simp only [Act.put, List.setIfInBounds_toArray, List.set_cons_zero, List.set_cons_succ]
          refine quietW_still (by kernel_rfl) (.int .i64 (s.ws.length : Int)) (fun w _ => by go_simp) ?_
          simp only [Act.put, List.setIfInBounds_toArray, List.set_cons_zero, List.set_cons_succ]
          refine quietW_still (by kernel_rfl) (.bool false) (fun w _ => by go_simp) ?_
          simp only [Act.put, List.setIfInBounds_toArray, List.set_cons_zero, List.set_cons_succ]
          refine quiet_still rfl (.bool false) (fun w _ => by go_simp) ?_
          simp only [Act.put, List.setIfInBounds_toArray, List.set_cons_zero, List.set_cons_succ]
          refine quiet_moveV rfl _ rfl (.bool false) rfl ?_
          simp only [Act.put, List.setIfInBounds_toArray, List.set_cons_zero, List.set_cons_succ]
          refine quietW_moveV (by kernel_rfl) _ rfl (.int .i64 (k : Int)) rfl ?_
          simp only [Act.put, List.setIfInBounds_toArray, List.set_cons_zero, List.set_cons_succ]
          refine quietW_still (by kernel_rfl) (.bool false) (fun w _ => by go_simp; omega) ?_
          simp only [Act.put, List.setIfInBounds_toArray, List.set_cons_zero, List.set_cons_succ]
          refine quietW_moveV (by kernel_rfl) _ rfl (.bool false) rfl ?_
          simp only [Act.put, List.setIfInBounds_toArray, List.set_cons_zero, List.set_cons_succ]
          refine quiet_skip (by kernel_rfl) ?_
          simp only [Act.put, List.setIfInBounds_toArray, List.set_cons_zero, List.set_cons_succ]
          refine quiet_skip (by kernel_rfl) ?_
          simp only [Act.put, List.setIfInBounds_toArray, List.set_cons_zero, List.set_cons_succ]
          refine quiet_skip (by kernel_rfl) ?_
          simp only [Act.put, List.setIfInBounds_toArray, List.set_cons_zero, List.set_cons_succ]
          refine quiet_skip (by kernel_rfl) ?_
          simp only [Act.put, List.setIfInBounds_toArray, List.set_cons_zero, List.set_cons_succ]
          refine quiet_skip (by kernel_rfl) ?_
          simp only [Act.put, List.setIfInBounds_toArray, List.set_cons_zero, List.set_cons_succ]
          refine quiet_skip (by kernel_rfl) ?_
          simp only [Act.put, List.setIfInBounds_toArray, List.set_cons_zero, List.set_cons_succ]
          refine quiet_skip (by kernel_rfl) ?_
          simp only [Act.put, List.setIfInBounds_toArray, List.set_cons_zero, List.set_cons_succ]
          refine quiet_skip (by kernel_rfl) ?_
          simp only [Act.put, List.setIfInBounds_toArray, List.set_cons_zero, List.set_cons_succ]
          refine quiet_skip (by kernel_rfl) ?_
          simp only [Act.put, List.setIfInBounds_toArray, List.set_cons_zero, List.set_cons_succ]
          refine quiet_skip (by kernel_rfl) ?_
          simp only [Act.put, List.setIfInBounds_toArray, List.set_cons_zero, List.set_cons_succ]
          refine quietW_still (by kernel_rfl) (.bool false) (fun w _ => by go_simp) ?_
          simp only [Act.put, List.setIfInBounds_toArray, List.set_cons_zero, List.set_cons_succ]
          unfold wpQuiet
          intro wq hb
          have HBOQ := BO.below HBO.out hb
          have HS := Lib.hid (show BO g (wq.setCell ⟨g, i, none⟩ (.bool true)) g s.ws.length (doneS (ds.take (k + 1))) by rw [← doneS_snoc ds k i HY.out]; exact HBOQ.set i)
          have HW := Lib.hid (show Below g w1 (wq.setCell ⟨g, i, none⟩ (.bool true)) from (HB1W.out.trans (hb.mono (Nat.le_trans HG1.out HB1W.out.size))).setCell (p := ⟨g, i, none⟩) (Nat.le_refl _) (.bool true))
          have ci := HBOQ.cell hin
          have fi := HBOQ.frozen i
          have cz := (HBW.out.trans (hb.mono HBW.out.size)).cell (p := ⟨b, off + k, none⟩) hbl |>.trans hcz
          clear hb HBOQ
          go_wp2_with fail
          go_roundw
          case rel => exact ⟨k + 1, hkl, by go_num, HN2.out, HS.out, HW.out⟩
          case measure => (simp [intOf] <;> omega)
        · have kz : (0 : Int) < (k : Int) := by omega
          obtain ⟨m, hm⟩ : ∃ m, k = m + 1 := ⟨k - 1, by omega⟩
          have qk : (k : Int) - 1 = (m : Int) := by omega
          have HM := Lib.hid hm
          obtain ⟨x, hx⟩ : ∃ x, ds[m]? = some x := ⟨_, List.getElem?_eq_getElem (by omega)⟩
          obtain ⟨b', off', e', _, hcx⟩ := HI.out m x hx
          cases e'
          have cx : wr.cell? ⟨b, off + m, none⟩ = some (.int .i64 x) := (HBW.out.cell (p := ⟨b, off + m, none⟩) hbl).trans hcx
          have m0 : (0 : Int) ≤ (m : Int) := by omega
          have m1 : (m : Int) < (ds.length : Int) := by omega
          have HXM := Lib.hid hx
          have hwm : IntKind.i64.wrap (m : Int) = (m : Int) := IntWalk.i64_in _ (by have := (List.getElem?_eq_some_iff.1 hx).1; omega)
          clear hcx hx hk0 hm
          by_cases hxi : (i : Int) ≤ x
          · have e : ce = 2 := HE2.out (by first | rfl | trivial) (fun h => by have := (h k _ HY.out).2 x (by omega) (by rw [HM.out, Nat.add_sub_cancel]; exact HXM.out); omega)
            subst e
            go_wp2_with fail
            refine wp_region_class (fun w' => Below wr.heap.size wr w') 29 (by kernel_rfl) (by kernel_rfl) (Below.refl _ wr).drew ?_
            simp only [List.take_succ_cons, List.take_zero, List.drop_succ_cons, List.drop_zero]
            refine quiet_moveV rfl _ rfl (.slice (some ⟨b, off, none⟩) ds.length sc) rfl ?_
            simp only [Act.put, List.setIfInBounds_toArray, List.set_cons_zero, List.set_cons_succ]
            refine quiet_moveV rfl _ rfl (.int .i64 (k : Int)) rfl ?_
            simp only [Act.put, List.setIfInBounds_toArray, List.set_cons_zero, List.set_cons_succ]
            refine quiet_still rfl (.pointer (some ⟨b, off + k, none⟩)) (fun w _ => by go_simp) ?_
            simp only [Act.put, List.setIfInBounds_toArray, List.set_cons_zero, List.set_cons_succ]
            refine quiet_load1 rfl _ _ rfl ⟨b, off + k, none⟩ rfl (.int .i64 (i : Int)) (load_int _ _) (fun _ h => (h.cell (p := ⟨b, off + k, none⟩) hbx).trans cz) ?_
            simp only [Act.put, List.setIfInBounds_toArray, List.set_cons_zero, List.set_cons_succ]
            refine quiet_still rfl (.bool false) (fun w _ => by go_simp) ?_
            simp only [Act.put, List.setIfInBounds_toArray, List.set_cons_zero, List.set_cons_succ]
            refine quiet_moveV rfl _ rfl (.bool false) rfl ?_
            simp only [Act.put, List.setIfInBounds_toArray, List.set_cons_zero, List.set_cons_succ]
            refine quietW_moveV (by kernel_rfl) _ rfl (.slice (some ⟨b, off, none⟩) ds.length sc) rfl ?_
            simp only [Act.put, List.setIfInBounds_toArray, List.set_cons_zero, List.set_cons_succ]
            refine quietW_moveV (by kernel_rfl) _ rfl (.int .i64 (k : Int)) rfl ?_
            simp only [Act.put, List.setIfInBounds_toArray, List.set_cons_zero, List.set_cons_succ]
            refine quietW_still (by kernel_rfl) (.pointer (some ⟨b, off + k, none⟩)) (fun w _ => by go_simp) ?_
            simp only [Act.put, List.setIfInBounds_toArray, List.set_cons_zero, List.set_cons_succ]
            refine quietW_load1 (by kernel_rfl) _ _ rfl ⟨b, off + k, none⟩ rfl (.int .i64 (i : Int)) (load_int _ _) (fun _ h => (h.cell (p := ⟨b, off + k, none⟩) hbx).trans cz) ?_
            simp only [Act.put, List.setIfInBounds_toArray, List.set_cons_zero, List.set_cons_succ]
            refine quietW_moveV (by kernel_rfl) _ rfl (.slice (some ⟨g, 0, none⟩) s.ws.length s.ws.length) rfl ?_
            simp only [Act.put, List.setIfInBounds_toArray, List.set_cons_zero, List.set_cons_succ]
            refine quietW_still (by kernel_rfl) (.int .i64 (s.ws.length : Int)) (fun w _ => by go_simp) ?_
            simp only [Act.put, List.setIfInBounds_toArray, List.set_cons_zero, List.set_cons_succ]
            refine quietW_still (by kernel_rfl) (.bool false) (fun w _ => by go_simp) ?_
            simp only [Act.put, List.setIfInBounds_toArray, List.set_cons_zero, List.set_cons_succ]
            refine quiet_still rfl (.bool false) (fun w _ => by go_simp) ?_
            simp only [Act.put, List.setIfInBounds_toArray, List.set_cons_zero, List.set_cons_succ]
            refine quiet_moveV rfl _ rfl (.bool false) rfl ?_
            simp only [Act.put, List.setIfInBounds_toArray, List.set_cons_zero, List.set_cons_succ]
            refine quietW_moveV (by kernel_rfl) _ rfl (.int .i64 (k : Int)) rfl ?_
            simp only [Act.put, List.setIfInBounds_toArray, List.set_cons_zero, List.set_cons_succ]
            refine quietW_still (by kernel_rfl) (.bool true) (fun w _ => by go_simp; omega) ?_
            simp only [Act.put, List.setIfInBounds_toArray, List.set_cons_zero, List.set_cons_succ]
            refine quietW_moveV (by kernel_rfl) _ rfl (.bool true) rfl ?_
            simp only [Act.put, List.setIfInBounds_toArray, List.set_cons_zero, List.set_cons_succ]
            refine quietW_moveV (by kernel_rfl) _ rfl (.slice (some ⟨b, off, none⟩) ds.length sc) rfl ?_
            simp only [Act.put, List.setIfInBounds_toArray, List.set_cons_zero, List.set_cons_succ]
            refine quietW_moveV (by kernel_rfl) _ rfl (.int .i64 (k : Int)) rfl ?_
            simp only [Act.put, List.setIfInBounds_toArray, List.set_cons_zero, List.set_cons_succ]
            refine quietW_still (by kernel_rfl) (.int .i64 (m : Int)) (fun w _ => by go_simp) ?_
            simp only [Act.put, List.setIfInBounds_toArray, List.set_cons_zero, List.set_cons_succ]
            refine quietW_still (by kernel_rfl) (.pointer (some ⟨b, off + m, none⟩)) (fun w _ => by go_simp) ?_
            simp only [Act.put, List.setIfInBounds_toArray, List.set_cons_zero, List.set_cons_succ]
            refine quietW_load1 (by kernel_rfl) _ _ rfl ⟨b, off + m, none⟩ rfl (.int .i64 x) (load_int _ _) (fun _ h => (h.cell (p := ⟨b, off + m, none⟩) hbx).trans cx) ?_
            simp only [Act.put, List.setIfInBounds_toArray, List.set_cons_zero, List.set_cons_succ]
            refine quietW_moveV (by kernel_rfl) _ rfl (.slice (some ⟨b, off, none⟩) ds.length sc) rfl ?_
            simp only [Act.put, List.setIfInBounds_toArray, List.set_cons_zero, List.set_cons_succ]
            refine quietW_moveV (by kernel_rfl) _ rfl (.int .i64 (k : Int)) rfl ?_
            simp only [Act.put, List.setIfInBounds_toArray, List.set_cons_zero, List.set_cons_succ]
            refine quietW_still (by kernel_rfl) (.pointer (some ⟨b, off + k, none⟩)) (fun w _ => by go_simp) ?_
            simp only [Act.put, List.setIfInBounds_toArray, List.set_cons_zero, List.set_cons_succ]
            refine quietW_load1 (by kernel_rfl) _ _ rfl ⟨b, off + k, none⟩ rfl (.int .i64 (i : Int)) (load_int _ _) (fun _ h => (h.cell (p := ⟨b, off + k, none⟩) hbx).trans cz) ?_
            simp only [Act.put, List.setIfInBounds_toArray, List.set_cons_zero, List.set_cons_succ]
            refine quietW_still (by kernel_rfl) (.bool true) (fun w _ => by go_simp) ?_
            simp only [Act.put, List.setIfInBounds_toArray, List.set_cons_zero, List.set_cons_succ]
            refine quietW_still (by kernel_rfl) (.bool true) (fun w _ => by go_simp) ?_
            simp only [Act.put, List.setIfInBounds_toArray, List.set_cons_zero, List.set_cons_succ]
            unfold wpQuiet
            intro wq hb
            have HBQ := Lib.hid (HBW.out.trans (hb.mono HBW.out.size))
            clear hb
            go_wp2_with fail
            go_ret
            exact ⟨rfl, HBQ.out⟩
          · have HN2 := Lib.hid (okTo_next HOK.out HY.out ⟨i0, i1⟩ (fun y _ h => by rw [HM.out, Nat.add_sub_cancel, HXM.out] at h; cases h; omega))
            go_wp2_with fail
            refine wp_region_class (fun w' => Below wr.heap.size wr w') 29 (by kernel_rfl) (by kernel_rfl) (Below.refl _ wr).drew ?_
            simp only [List.take_succ_cons, List.take_zero, List.drop_succ_cons, List.drop_zero]
            refine quiet_moveV rfl _ rfl (.slice (some ⟨b, off, none⟩) ds.length sc) rfl ?_
            simp only [Act.put, List.setIfInBounds_toArray, List.set_cons_zero, List.set_cons_succ]
            refine quiet_moveV rfl _ rfl (.int .i64 (k : Int)) rfl ?_
            simp only [Act.put, List.setIfInBounds_toArray, List.set_cons_zero, List.set_cons_succ]
            refine quiet_still rfl (.pointer (some ⟨b, off + k, none⟩)) (fun w _ => by go_simp) ?_
            simp only [Act.put, List.setIfInBounds_toArray, List.set_cons_zero, List.set_cons_succ]
            refine quiet_load1 rfl _ _ rfl ⟨b, off + k, none⟩ rfl (.int .i64 (i : Int)) (load_int _ _) (fun _ h => (h.cell (p := ⟨b, off + k, none⟩) hbx).trans cz) ?_
            simp only [Act.put, List.setIfInBounds_toArray, List.set_cons_zero, List.set_cons_succ]
            refine quiet_still rfl (.bool false) (fun w _ => by go_simp) ?_
            simp only [Act.put, List.setIfInBounds_toArray, List.set_cons_zero, List.set_cons_succ]
            refine quiet_moveV rfl _ rfl (.bool false) rfl ?_
            simp only [Act.put, List.setIfInBounds_toArray, List.set_cons_zero, List.set_cons_succ]
            refine quietW_moveV (by kernel_rfl) _ rfl (.slice (some ⟨b, off, none⟩) ds.length sc) rfl ?_
            simp only [Act.put, List.setIfInBounds_toArray, List.set_cons_zero, List.set_cons_succ]
            refine quietW_moveV (by kernel_rfl) _ rfl (.int .i64 (k : Int)) rfl ?_
            simp only [Act.put, List.setIfInBounds_toArray, List.set_cons_zero, List.set_cons_succ]
            refine quietW_still (by kernel_rfl) (.pointer (some ⟨b, off + k, none⟩)) (fun w _ => by go_simp) ?_
            simp only [Act.put, List.setIfInBounds_toArray, List.set_cons_zero, List.set_cons_succ]
            refine quietW_load1 (by kernel_rfl) _ _ rfl ⟨b, off + k, none⟩ rfl (.int .i64 (i : Int)) (load_int _ _) (fun _ h => (h.cell (p := ⟨b, off + k, none⟩) hbx).trans cz) ?_
            simp only [Act.put, List.setIfInBounds_toArray, List.set_cons_zero, List.set_cons_succ]
            refine quietW_moveV (by kernel_rfl) _ rfl (.slice (some ⟨g, 0, none⟩) s.ws.length s.ws.length) rfl ?_
            simp only [Act.put, List.setIfInBounds_toArray, List.set_cons_zero, List.set_cons_succ]
            refine quietW_still (by kernel_rfl) (.int .i64 (s.ws.length : Int)) (fun w _ => by go_simp) ?_
            simp only [Act.put, List.setIfInBounds_toArray, List.set_cons_zero, List.set_cons_succ]
            refine quietW_still (by kernel_rfl) (.bool false) (fun w _ => by go_simp) ?_
            simp only [Act.put, List.setIfInBounds_toArray, List.set_cons_zero, List.set_cons_succ]
            refine quiet_still rfl (.bool false) (fun w _ => by go_simp) ?_
            simp only [Act.put, List.setIfInBounds_toArray, List.set_cons_zero, List.set_cons_succ]
            refine quiet_moveV rfl _ rfl (.bool false) rfl ?_
            simp only [Act.put, List.setIfInBounds_toArray, List.set_cons_zero, List.set_cons_succ]
            refine quietW_moveV (by kernel_rfl) _ rfl (.int .i64 (k : Int)) rfl ?_
            simp only [Act.put, List.setIfInBounds_toArray, List.set_cons_zero, List.set_cons_succ]
            refine quietW_still (by kernel_rfl) (.bool true) (fun w _ => by go_simp; omega) ?_
            simp only [Act.put, List.setIfInBounds_toArray, List.set_cons_zero, List.set_cons_succ]
            refine quietW_moveV (by kernel_rfl) _ rfl (.bool true) rfl ?_
            simp only [Act.put, List.setIfInBounds_toArray, List.set_cons_zero, List.set_cons_succ]
            refine quietW_moveV (by kernel_rfl) _ rfl (.slice (some ⟨b, off, none⟩) ds.length sc) rfl ?_
            simp only [Act.put, List.setIfInBounds_toArray, List.set_cons_zero, List.set_cons_succ]
            refine quietW_moveV (by kernel_rfl) _ rfl (.int .i64 (k : Int)) rfl ?_
            simp only [Act.put, List.setIfInBounds_toArray, List.set_cons_zero, List.set_cons_succ]
            refine quietW_still (by kernel_rfl) (.int .i64 (m : Int)) (fun w _ => by go_simp) ?_
            simp only [Act.put, List.setIfInBounds_toArray, List.set_cons_zero, List.set_cons_succ]
            refine quietW_still (by kernel_rfl) (.pointer (some ⟨b, off + m, none⟩)) (fun w _ => by go_simp) ?_
            simp only [Act.put, List.setIfInBounds_toArray, List.set_cons_zero, List.set_cons_succ]
            refine quietW_load1 (by kernel_rfl) _ _ rfl ⟨b, off + m, none⟩ rfl (.int .i64 x) (load_int _ _) (fun _ h => (h.cell (p := ⟨b, off + m, none⟩) hbx).trans cx) ?_
            simp only [Act.put, List.setIfInBounds_toArray, List.set_cons_zero, List.set_cons_succ]
            refine quietW_moveV (by kernel_rfl) _ rfl (.slice (some ⟨b, off, none⟩) ds.length sc) rfl ?_
            simp only [Act.put, List.setIfInBounds_toArray, List.set_cons_zero, List.set_cons_succ]
            refine quietW_moveV (by kernel_rfl) _ rfl (.int .i64 (k : Int)) rfl ?_
            simp only [Act.put, List.setIfInBounds_toArray, List.set_cons_zero, List.set_cons_succ]
            refine quietW_still (by kernel_rfl) (.pointer (some ⟨b, off + k, none⟩)) (fun w _ => by go_simp) ?_
            simp only [Act.put, List.setIfInBounds_toArray, List.set_cons_zero, List.set_cons_succ]
            refine quietW_load1 (by kernel_rfl) _ _ rfl ⟨b, off + k, none⟩ rfl (.int .i64 (i : Int)) (load_int _ _) (fun _ h => (h.cell (p := ⟨b, off + k, none⟩) hbx).trans cz) ?_
            simp only [Act.put, List.setIfInBounds_toArray, List.set_cons_zero, List.set_cons_succ]
            refine quietW_still (by kernel_rfl) (.bool false) (fun w _ => by go_simp) ?_
            simp only [Act.put, List.setIfInBounds_toArray, List.set_cons_zero, List.set_cons_succ]
            refine quietW_still (by kernel_rfl) (.bool false) (fun w _ => by go_simp) ?_
            simp only [Act.put, List.setIfInBounds_toArray, List.set_cons_zero, List.set_cons_succ]
            unfold wpQuiet
            intro wq hb
            have HBOQ := BO.below HBO.out hb
            have HS := Lib.hid (show BO g (wq.setCell ⟨g, i, none⟩ (.bool true)) g s.ws.length (doneS (ds.take (k + 1))) by rw [← doneS_snoc ds k i HY.out]; exact HBOQ.set i)
            have HW := Lib.hid (show Below g w1 (wq.setCell ⟨g, i, none⟩ (.bool true)) from (HB1W.out.trans (hb.mono (Nat.le_trans HG1.out HB1W.out.size))).setCell (p := ⟨g, i, none⟩) (Nat.le_refl _) (.bool true))
            have ci := HBOQ.cell hin
            have fi := HBOQ.frozen i
            have cz := (HBW.out.trans (hb.mono HBW.out.size)).cell (p := ⟨b, off + k, none⟩) hbl |>.trans hcz
            clear hb HBOQ
            go_wp2_with fail
            go_roundw
            case rel => exact ⟨k + 1, hkl, by go_num, HN2.out, HS.out, HW.out⟩
            case measure => (simp [intOf] <;> omega)
      · have kk1 : ¬ (k : Int) < (ds.length : Int) := by omega
        have e : k = ds.length := by omega
        subst e
        have HD := Lib.hid (show OkDone s.ws.length ds from fun j z hz => HOK.out j (List.getElem?_eq_some_iff.1 hz).1 z hz)
        rw [List.take_length] at HBO
        have hxw := (HB1W.out.block _ hz1).trans H1.out
        have g0 : wr.cell? ⟨w.heap.size, 0, none⟩ = some (.int .i64 s.pr) := cell_of_row wr _ 0 _ _ _ hxw
        have g1 : wr.cell? ⟨w.heap.size, 1, none⟩ = some (.slice ua s.ws.length uc) := cell_of_row wr _ 1 _ _ _ hxw
        clear hxw hkl hk
        go_wp2_with fail
        refine (CR.out wr (HV.out.below HBW.out) (by first | rfl | trivial)).mono ?_
        rintro e w5 ⟨vo, fs, B2, rfl, hown, hrows, hb5⟩
        obtain ⟨av, cv, hv9⟩ := own_form hown
        subst hv9
        have HO := Lib.hid hown
        have HR := Lib.hid hrows
        have HB5 := Lib.hid (HBO.out.below hb5)
        have HBZ := Lib.hid (bon HBW.out hb5)
        clear hown hrows hb5 g0 g1
        go_wp2_with fail
        go_loopw [9] (fun i wx => ∃ b : Nat, b ≤ s.ws.length ∧ i = .int .i64 (b : Int) ∧ wx = w5 ∧ ∀ b' a', b' < b → a' < b' → badN s.ws ds b' a' = false) (fun i _ => s.ws.length - (intOf i).toNat)
        case atStart => exact ⟨0, Nat.zero_le _, rfl, rfl, fun b' a' h => by omega⟩
        case round =>
          obtain ⟨b, hb, rfl, hwx, hno⟩ := hrel
          rename World => wx
          subst hwx
          have HNO := Lib.hid hno
          clear hno
          by_cases hbn : b < s.ws.length
          · have b1 : (b : Int) < (s.ws.length : Int) := by omega
            have b0 : (0 : Int) ≤ (b : Int) := by omega
            obtain ⟨go, hgo⟩ : ∃ go, av = some ⟨go, 0, none⟩ := by
              rcases HO.out.2 with ⟨e, h0⟩ | ⟨go, cap, cur, e, _⟩
              · omega
              · cases e
                exact ⟨go, rfl⟩
            subst hgo
            obtain ⟨R, hR⟩ : ∃ R, (rowsL s.ws s.ws.length)[b]? = some R := ⟨_, List.getElem?_eq_getElem (by rw [rowsL_len]; exact hbn)⟩
            obtain ⟨gb, hgb, hbo⟩ := HR.out b R hR
            have co : wx.cell? ⟨go, b, none⟩ = some (.slice (some ⟨gb, 0, none⟩) s.ws.length s.ws.length) := (World.ownsRow.cellAt HO.out b (by omega)).trans hgb
            have HRB := Lib.hid hbo
            have HBF := Lib.hid (fun a => bef_get hR a)
            clear hR hgb hbo
            go_wp2_with fail
            go_loopw [10] (fun i wy => ∃ a : Nat, a ≤ b ∧ i = .int .i64 (a : Int) ∧ wy = wx ∧ ∀ a', a' < a → badN s.ws ds b a' = false) (fun i _ => b - (intOf i).toNat)
            case atStart => exact ⟨0, Nat.zero_le _, rfl, rfl, fun a' h => by omega⟩
            case round =>
              obtain ⟨a, ha, rfl, hwy, hna⟩ := hrel
              rename World => wy
              subst hwy
              have HNA := Lib.hid hna
              clear hna
              by_cases hab : a < b
              · have a1 : (a : Int) < (b : Int) := by omega
                have a2 : (a : Int) < (s.ws.length : Int) := by omega
                have a0 : (0 : Int) ≤ (a : Int) := by omega
                have db := HB5.out.cell hbn
                have da := HB5.out.cell (show a < s.ws.length by omega)
                have cr := HRB.out.cell (show a < s.ws.length by omega)
                have HBD := Lib.hid (show badN s.ws ds b a = ((doneS ds b && R a) && !doneS ds a) by unfold badN; rw [HBF.out a])
                have HSTP := Lib.hid (fun (h : badN s.ws ds b a = false) a' (h' : a' < a + 1) => show badN s.ws ds b a' = false by
                  by_cases e : a' = a
                  · rw [e]; exact h
                  · exact HNA.out a' (by omega))
                cases hDb : doneS ds b
                · rw [hDb] at db
                  have HN2 := Lib.hid (HSTP.out (by rw [HBD.out, hDb]; rfl))
                  clear hDb
                  go_wp2_with fail
                  go_roundw
                  case rel => exact ⟨a + 1, hab, by go_num, by first | trivial | rfl, HN2.out⟩
                  case measure => (simp [intOf] <;> omega)
                · rw [hDb] at db
                  cases hRa : R a
                  · rw [hRa] at cr
                    have HN2 := Lib.hid (HSTP.out (by rw [HBD.out, hDb, hRa]; rfl))
                    clear hDb hRa
                    go_wp2_with fail
                    go_roundw
                    case rel => exact ⟨a + 1, hab, by go_num, by first | trivial | rfl, HN2.out⟩
                    case measure => (simp [intOf] <;> omega)
                  · rw [hRa] at cr
                    cases hDa : doneS ds a
                    · rw [hDa] at da
                      have e : ce = 4 := HE3.out (by first | rfl | trivial) HD.out hbn hab (by rw [HBD.out, hDb, hRa, hDa]; rfl)
                      subst e
                      clear hDb hRa hDa
                      go_wp2_with fail
                      go_ret
                      exact ⟨rfl, HBZ.out⟩
                    · rw [hDa] at da
                      have HN2 := Lib.hid (HSTP.out (by rw [HBD.out, hDb, hRa, hDa]; rfl))
                      clear hDb hRa hDa
                      go_wp2_with fail
                      go_roundw
                      case rel => exact ⟨a + 1, hab, by go_num, by first | trivial | rfl, HN2.out⟩
                      case measure => (simp [intOf] <;> omega)
              · have a1 : ¬ (a : Int) < (b : Int) := by omega
                have e : a = b := by omega
                subst e
                have HN2 := Lib.hid (show ∀ b' a', b' < a + 1 → a' < b' → badN s.ws ds b' a' = false from fun b' a' h1 h2 => by
                  by_cases e : b' = a
                  · subst e; exact HNA.out a' h2
                  · exact HNO.out b' a' (by omega) h2)
                go_wp2_with fail
                go_roundw
                case rel => exact ⟨a + 1, hbn, by go_num, by first | trivial | rfl, HN2.out⟩
                case measure => (simp [intOf] <;> omega)
          · have b1 : ¬ (b : Int) < (s.ws.length : Int) := by omega
            have e : ce = 0 := HE4.out (by first | rfl | trivial) HD.out (fun b' a' h1 h2 => HNO.out b' a' (by omega) h2)
            subst e
            go_wp2_with fail
            go_ret
            exact ⟨rfl, HBZ.out⟩
  · have e : ce = z := HE1.out q
    subst e
    have hq : (ce != 0) = true := by rw [bne_iff_ne]; exact q
    go_wp2_with fail
    go_ret
    exact ⟨rfl, HB1.out⟩
end Go.Proofs.Ytenfeekchggioaa
