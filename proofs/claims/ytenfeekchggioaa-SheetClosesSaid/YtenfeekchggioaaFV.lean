/- Line. -/
import Derived.Test.YtenfeekchggioaaFP
import Derived.Deep.RegionLaw
import Derived.Deep.QuietTactic
import Derived.BigQuiet
namespace Go.Proofs.Ytenfeekchggioaa
open Go.RowKit Go.Shelf Go.Lib
set_option linter.unusedSimpArgs false
attribute [local irreducible] wpQuiet
theorem progE_zero {s : Sh} {ds : List Int} (h : progE s ds = 0) : chkS s = 0 ∧ OkDone s.ws.length ds ∧ ((List.range 448).any fun j => doneS ds j && waitS ds (stepsL s.pr.toNat s.ws) j) = false := by
  unfold progE at h
  split at h
  · rename_i c; exact absurd h c
  · split at h
    · cases h
    · rename_i c1 c2
      split at h
      · cases h
      · rename_i c3
        exact ⟨by simpa using c1, by simpa using c2, by simpa using c3⟩
theorem rangeH {W : World} {b : Nat} {vs : List Value} {T : TypeId} (h : W.heap[b]? = some (.cells vs.toArray T (0, 0))) : W.rangeAt b 0 vs := fun j v hv => by
  rw [Nat.zero_add, cell_of_row _ _ j _ _ _ h, List.getElem?_toArray, hv]
theorem chk_fits {s : Sh} (h : chkS s = 0) : ∀ x ∈ s.ws, (0 ≤ x.pl ∧ x.pl ≤ s.pr - 2) ∧ (x.kd = 1 ∨ x.kd = 2) := by
  unfold chkS at h
  split at h
  · cases h
  split at h
  · cases h
  split at h
  · cases h
  split at h
  · cases h
  split at h
  · cases h
  · rename_i _ _ _ _ c
    intro x hx
    have := List.all_eq_true.1 (by simpa using c : s.ws.all (fun x => x.fits s.pr) = true) x hx
    unfold Wk.fits at this
    simp only [Bool.and_eq_true, Bool.or_eq_true, decide_eq_true_eq] at this
    exact ⟨this.1, this.2.imp id (·.1)⟩
theorem load_ws (ad : Addr) (v : Value) (w : World) (h : w.cell? ad = some v) : (Instr.loadAt 22 (.pointer (some ad))).run Try.prog w = .ok v w := by
  simp [Instr.loadAt, Instr.sureAddr, loadVar, go_sem, Try.isAgg22, h]
/-- Where a work is. -/
def atW (W : List Wk) (i : Nat) : Nat := ((W[i]?.map fun (x : Wk) => x.pl).getD 0).toNat
def sideL (pr : Nat) (W : List Wk) (l : List Int) (i j : Nat) : List Int :=
  if j = 0 then l else if j = 1 then l.set (atW W i) ((pr : Int) + 2 * i) else (l.set (atW W i) ((pr : Int) + 2 * i)).set (atW W i + 1) ((pr : Int) + 2 * i + 1)
def lineStep (pr : Nat) (W : List Wk) (l : List Int) (z : Int) : List Int := sideL pr W l z.toNat 2
def line0 (pr : Nat) : List Int := (List.range pr).map fun (p : Nat) => (p : Int)
/-- The line after some works. -/
def lineL (pr : Nat) (W : List Wk) (ds : List Int) : List Int := ds.foldl (lineStep pr W) (line0 pr)
theorem sideL_len (pr : Nat) (W : List Wk) (l : List Int) (i j : Nat) : (sideL pr W l i j).length = l.length := by unfold sideL; split <;> (try split) <;> simp
theorem sideL_next (pr : Nat) (W : List Wk) (l : List Int) (i j : Nat) (hj : j < 2) : sideL pr W l i (j + 1) = (sideL pr W l i j).set (atW W i + j) ((pr : Int) + 2 * i + j) := by
  unfold sideL
  rcases j with _ | _ | j
  · simp
  · simp
  · omega
theorem line0_len (pr : Nat) : (line0 pr).length = pr := by simp [line0]
theorem lineL_next (pr : Nat) (W : List Wk) (ds : List Int) (k : Nat) (z : Int) (h : ds[k]? = some z) : lineL pr W (ds.take (k + 1)) = lineStep pr W (lineL pr W (ds.take k)) z := by
  unfold lineL
  rw [List.take_add_one, h, List.foldl_append]
  rfl
theorem lineL_len (pr : Nat) (W : List Wk) (ds : List Int) : (lineL pr W ds).length = pr := by
  unfold lineL
  have : ∀ (L : List Int) (l : List Int), (L.foldl (lineStep pr W) l).length = l.length := fun L => by
    induction L with
    | nil => intro l; rfl
    | cons a L ih => intro l; rw [List.foldl_cons, ih, lineStep, sideL_len]
  rw [this, line0_len]
/-- The first places of a line, the others at 0. -/
def fillL (pr k : Nat) : List Int := (List.range pr).map fun (p : Nat) => if p < k then (p : Int) else 0
theorem fillL_set (pr k : Nat) (_ : k < pr) : ((fillL pr k).map (Value.int .i64)).set k (.int .i64 (k : Int)) = (fillL pr (k + 1)).map (Value.int .i64) := by
  apply List.ext_getElem?
  intro j
  rw [List.getElem?_set]
  unfold fillL
  simp only [List.getElem?_map, List.length_map, List.length_range]
  by_cases c : k = j
  · subst c
    by_cases h2 : k < pr
    · simp [h2]
    · omega
  · rw [if_neg c]
    by_cases h2 : j < pr
    · rw [List.getElem?_range h2]
      simp only [Option.map_some]
      congr 2
      by_cases h3 : j < k
      · rw [if_pos h3, if_pos (by omega)]
      · rw [if_neg h3, if_neg (by omega)]
    · simp [h2]
theorem fillL_zero (pr : Nat) : (madeCells #[.int .i64 0] pr).toList = (fillL pr 0).map (Value.int .i64) := by
  apply List.ext_getElem?
  intro j
  by_cases h : j < pr
  · rw [Array.getElem?_toList, made_one _ _ _ h]
    unfold fillL
    simp [h]
  · rw [List.getElem?_eq_none (by simp [madeCells]; omega), List.getElem?_eq_none (by simp [fillL]; omega)]
theorem fillL_all (pr : Nat) : fillL pr pr = line0 pr := by
  unfold fillL line0
  apply List.map_congr_left
  intro p hp
  rw [if_pos (List.mem_range.1 hp)]
theorem own_store {w : World} {B g n cap : Nat} {L : List Int} (h : w.ownsRow B 3 1 (.slice (some ⟨g, 0, none⟩) n cap) n (L.map (Value.int .i64))) (j : Nat) (z : Int) :
    (w.setCell ⟨g, j, none⟩ (.int .i64 z)).ownsRow B 3 1 (.slice (some ⟨g, 0, none⟩) n cap) n ((L.set j z).map (Value.int .i64)) := by
  have := (h.stored j (.int .i64 z)).1
  rwa [← List.map_set] at this
set_option maxRecDepth 100000 in
set_option maxHeartbeats 8000000 in
theorem Line_any (s : Sh) (v : Value) (ds : List Int) (dv : Value) (w : World) (hv : SV w v s) (hd : IS w dv ds) (hdl : ds.length ≤ 100000) :
    Calls Try.prog 17 #[v, dv] w fun e w' => ∃ u, e = .returned (.tuple #[u, .int .i64 (progE s ds)]) ∧ IS w' u (if progE s ds = 0 then lineL s.pr.toNat s.ws ds else []) ∧ Below w.heap.size w w' := by
  have HV := Lib.hid hv
  have HD := Lib.hid hd
  obtain ⟨u, rfl, hu⟩ := hv
  obtain ⟨sa, sc, rfl, q1, q2, _, hI⟩ := hd
  obtain ⟨ua, uc, rfl, k1, k2, hU⟩ := id hu
  have HZ := Lib.hid (@progE_zero s ds)
  have CP := Lib.hid (fun W h1 h2 => progressOf_any s (.agg #[.int .i64 s.pr, .slice ua s.ws.length uc]) ds (.slice sa ds.length sc) W h1 h2 hdl)
  generalize progE s ds = pe at *
  have HU := Lib.hid hU
  have HI := Lib.hid hI
  have HDL := Lib.hid hdl
  clear hU hI hu
  go_enter Try.func17, Try.ntmps17
  go_wp2_with fail
  have h0 := heap_alloc_new w (.cells #[.int .i64 s.pr, .slice ua s.ws.length uc] 24)
  have B0 := below_alloc w (.cells #[.int .i64 s.pr, .slice ua s.ws.length uc] 24)
  have z0 : (w.alloc (.cells #[.int .i64 s.pr, .slice ua s.ws.length uc] 24)).heap.size = w.heap.size + 1 := by simp
  generalize w.alloc (.cells #[.int .i64 s.pr, .slice ua s.ws.length uc] 24) = W0 at *
  refine (CP.out W0 (HV.out.below B0) (HD.out.below B0)).mono ?_
  rintro e w1 ⟨vs, rfl, hl, _, hone, b1⟩
  have H0 := Lib.hid ((b1.block _ (by omega)).trans h0)
  have HB1 := Lib.hid (bon B0 b1)
  have Hone := Lib.hid hone
  have HI14 := Lib.hid (show (Try.prog.info? 70).map (·.size) = some vs.toArray.size by rw [List.size_toArray, hl]; exact infoProg)
  have HL14 := Lib.hid (show 14 = vs.toArray.size by rw [List.size_toArray, hl])
  have HZ1 := Lib.hid (show w.heap.size + 1 ≤ w1.heap.size by have := b1.size; omega)
  clear h0 B0 z0 b1 hl hone CP
  have hp := heap_alloc_new w1 (.cells #[.int .u64 0, .int .u64 0, .int .u64 0, .int .u64 0, .int .u64 0, .int .u64 0, .int .u64 0, .int .u64 0, .int .u64 0, .int .u64 0, .int .u64 0, .int .u64 0, .int .u64 0, .int .u64 0] 70)
  have hpb := HB1.out.alloc (show w.heap.size ≤ w1.heap.size by have := HZ1.out; omega) (.cells #[.int .u64 0, .int .u64 0, .int .u64 0, .int .u64 0, .int .u64 0, .int .u64 0, .int .u64 0, .int .u64 0, .int .u64 0, .int .u64 0, .int .u64 0, .int .u64 0, .int .u64 0, .int .u64 0] 70)
  have hp0 := (Below.heap_alloc w1 (.cells #[.int .u64 0, .int .u64 0, .int .u64 0, .int .u64 0, .int .u64 0, .int .u64 0, .int .u64 0, .int .u64 0, .int .u64 0, .int .u64 0, .int .u64 0, .int .u64 0, .int .u64 0, .int .u64 0] 70) _ (show w.heap.size < w1.heap.size by have := HZ1.out; omega)).trans H0.out
  have hpz : (w1.alloc (.cells #[.int .u64 0, .int .u64 0, .int .u64 0, .int .u64 0, .int .u64 0, .int .u64 0, .int .u64 0, .int .u64 0, .int .u64 0, .int .u64 0, .int .u64 0, .int .u64 0, .int .u64 0, .int .u64 0] 70)).heap.size = w1.heap.size + 1 := by simp
  go_upto_region 2 with (refine store_rowP rfl 70 (.tmp 6) (.tmp 17) rfl w1.heap.size vs.toArray rfl rfl 70 _ (heap_alloc_new w1 _) HI14.out HL14.out Hone.out ?_; intro wf hf hk2 hzf hBf)
  have H1 := Lib.hid ((hk2 _ (by have := HZ1.out; omega)).trans hp0)
  have HB2 := Lib.hid (hBf _ _ hpb (by have := HZ1.out; omega))
  have HZ2 := Lib.hid (show w.heap.size + 1 ≤ wf.heap.size by have := HZ1.out; omega)
  clear hp hpb hp0 hpz hf hk2 hzf hBf H0
  by_cases q : pe = 0
  · subst q
    obtain ⟨hc, hok, _⟩ := HZ.out rfl
    obtain ⟨s1, s2, hsm⟩ := chk_small hc
    have HSM := Lib.hid hsm
    have HFT := Lib.hid (chk_fits hc)
    have HOK := Lib.hid hok
    obtain ⟨pr, ws⟩ := s
    obtain ⟨n, rfl⟩ : ∃ n : Nat, pr = (n : Int) := ⟨pr.toNat, by simp only at s1; omega⟩
    simp only [Int.toNat_natCast] at *
    have hn1 : 2 ≤ n := by omega
    have hn2 : n ≤ 24 := by omega
    have g0 : wf.cell? ⟨w.heap.size, 0, none⟩ = some (.int .i64 (n : Int)) := cell_of_row wf _ 0 _ _ _ H1.out
    have hmk := fun W => mk_full n (by omega) W
    clear hsm hok hc HZ
    have HO := Lib.hid (own_full n w.heap.size (by omega) wf (by have := HZ2.out; omega))
    have HB3 := Lib.hid (HB2.out.alloc (by have := HZ2.out; omega) (.cells (madeCells #[.int .i64 0] n) 3))
    have H2 := Lib.hid ((Below.heap_alloc wf (.cells (madeCells #[.int .i64 0] n) 3) _ (show w.heap.size < wf.heap.size by have := HZ2.out; omega)).trans H1.out)
    have HN0 := Lib.hid (show w.heap.size < wf.heap.size by have := HZ2.out; omega)
    rw [fillL_zero] at HO
    go_wp2_with fail
    clear hmk
    generalize wf.heap.size = g at *
    go_loopw [27] (fun i wr => ∃ k : Nat, k ≤ n ∧ i = .int .i64 (k : Int) ∧ wr.ownsRow w.heap.size 3 1 (.slice (some ⟨g, 0, none⟩) n n) n ((fillL n k).map (Value.int .i64)) ∧ Below w.heap.size w wr ∧ wr.heap[w.heap.size]? = some (.cells #[.int .i64 (n : Int), .slice ua ws.length uc] 24 (0, 0))) (fun i _ => n - (intOf i).toNat)
    case atStart => exact ⟨0, Nat.zero_le _, rfl, HO.out, HB3.out, H2.out⟩
    case round =>
      obtain ⟨k, hk, rfl, hown, hb, h0⟩ := hrel
      have HOW := Lib.hid hown
      have HBW := Lib.hid hb
      have HH := Lib.hid h0
      clear hown hb h0 g0
      by_cases hkn : k < n
      · have k0 : (0 : Int) ≤ (k : Int) := by omega
        have k1 : (k : Int) < (n : Int) := by omega
        have f0 := HOW.out.frozenAt k
        have e0 : wr.cell? ⟨g, k, none⟩ = _ := HOW.out.cellAt k (by omega)
        obtain ⟨e1, he1⟩ : ∃ e1, ((fillL n k).map (Value.int .i64))[k]? = some e1 := ⟨_, List.getElem?_eq_getElem (by simp [fillL]; omega)⟩
        rw [he1] at e0
        have HS := (HOW.out.stored k (.int .i64 (k : Int))).1
        rw [fillL_set n k hkn] at HS
        have HS2 := Lib.hid HS
        have HB4 := Lib.hid (HBW.out.setCell (p := ⟨g, k, none⟩) (Nat.le_of_lt HN0.out) (.int .i64 (k : Int)))
        have HH2 := Lib.hid ((show (wr.setCell ⟨g, k, none⟩ (.int .i64 (k : Int))).heap[w.heap.size]? = wr.heap[w.heap.size]? from heap_setCell_other _ _ _ _ (by have := HN0.out; simp only []; omega)).trans HH.out)
        clear HS he1
        go_wp2_with fail
        go_roundw
        case rel => exact ⟨k + 1, hkn, by go_num, HS2.out, HB4.out, HH2.out⟩
        case measure => (simp [intOf] <;> omega)
      · have k1 : ¬ (k : Int) < (n : Int) := by omega
        have e : n = k := by omega
        subst e
        rw [fillL_all] at HOW
        clear hkn hk
        go_wp2_with fail
        go_loopw [37] (fun i wr => ∃ k : Nat, k ≤ ds.length ∧ i = .int .i64 (k : Int) ∧ wr.ownsRow w.heap.size 3 1 (.slice (some ⟨g, 0, none⟩) n n) n ((lineL n ws (ds.take k)).map (Value.int .i64)) ∧ Below w.heap.size w wr ∧ wr.heap[w.heap.size]? = some (.cells #[.int .i64 (n : Int), .slice ua ws.length uc] 24 (0, 0))) (fun i _ => ds.length - (intOf i).toNat)
        case atStart => exact ⟨0, Nat.zero_le _, rfl, HOW.out, HBW.out, HH.out⟩
        case round =>
          obtain ⟨k, hk, rfl, hown, hb, h0⟩ := hrel
          rename World => wk
          have HOW := Lib.hid hown
          have HBW := Lib.hid hb
          have HH := Lib.hid h0
          clear hown hb h0
          by_cases hkl : k < ds.length
          · obtain ⟨z, hz⟩ : ∃ z, ds[k]? = some z := ⟨_, List.getElem?_eq_getElem hkl⟩
            have hzr := (HOK.out k z hz).1
            obtain ⟨i, rfl⟩ : ∃ i : Nat, z = (i : Int) := ⟨z.toNat, by omega⟩
            obtain ⟨b, off, rfl, hbl, hcz⟩ := HI.out k _ hz
            have cz : wk.cell? ⟨b, off + k, none⟩ = some (.int .i64 (i : Int)) := (HBW.out.cell (p := ⟨b, off + k, none⟩) hbl).trans hcz
            have HNX := Lib.hid (lineL_next n ws ds k _ hz)
            have j0 : (0 : Int) ≤ (k : Int) := by omega
            have j1 : (k : Int) < (ds.length : Int) := by omega
            have hil : i < ws.length := by omega
            obtain ⟨x, hx⟩ : ∃ x, ws[i]? = some x := ⟨_, List.getElem?_eq_getElem hil⟩
            have hpl := (HFT.out x (List.mem_of_getElem? hx)).1
            try simp only at hpl
            have hw4 : ws.length ≤ 400 := HSM.out.1
            obtain ⟨b2, off2, rfl, hb2, hr2, _⟩ := HU.out i x hx
            have HX := Lib.hid hx
            clear hcz hz hx
            go_wp2_with fail
            clear cz
            have HLE := Lib.hid (lineL_len n ws (ds.take k))
            generalize lineL n ws (ds.take k) = l at *
            go_loopw [41] (fun i2 wr => ∃ j : Nat, j ≤ 2 ∧ i2 = .int .i64 (j : Int) ∧ wr.ownsRow w.heap.size 3 1 (.slice (some ⟨g, 0, none⟩) n n) n ((sideL n ws l i j).map (Value.int .i64)) ∧ Below w.heap.size w wr ∧ wr.heap[w.heap.size]? = some (.cells #[.int .i64 (n : Int), .slice (some ⟨b2, off2, none⟩) ws.length uc] 24 (0, 0))) (fun i2 _ => 2 - (intOf i2).toNat)
            case atStart => exact ⟨0, Nat.zero_le _, rfl, HOW.out, HBW.out, HH.out⟩
            case round =>
              obtain ⟨j, hj, rfl, hown, hb, h0⟩ := hrel
              rename World => wj
              have HOJ := Lib.hid hown
              have HBJ := Lib.hid hb
              have HHJ := Lib.hid h0
              clear hown hb h0
              by_cases hj2 : j < 2
              · have j2 : (j : Int) < 2 := by omega
                have j3 : (0 : Int) ≤ (j : Int) := by omega
                have i0 : (0 : Int) ≤ (i : Int) := by omega
                have i1 : (i : Int) < (ws.length : Int) := by omega
                go_wp2_with fail
                have g1 : wj.cell? ⟨w.heap.size, 1, none⟩ = some (.slice (some ⟨b2, off2, none⟩) ws.length uc) := cell_of_row wj _ 1 _ _ _ HHJ.out
                obtain ⟨p, hp⟩ : ∃ p : Nat, x.pl = (p : Int) := ⟨x.pl.toNat, by omega⟩
                have gp : wj.cell? ⟨b2, off2 + i * 3 + 1, none⟩ = some (.int .i64 (p : Int)) := by rw [← hp]; exact (HBJ.out.cell (p := ⟨b2, off2 + i * 3 + 1, none⟩) hb2).trans (hr2 1 _ rfl)
                have qp : (p : Int) ≤ (n : Int) - 2 := by omega
                have qi : (0 : Int) ≤ (p : Int) + (j : Int) := by omega
                have qj : (p : Int) + (j : Int) < (n : Int) := by omega
                have qt : ((p : Int) + (j : Int)).toNat = p + j := by omega
                have qa : IntKind.i64.wrap ((p : Int) + (j : Int)) = ((p + j : Nat) : Int) := (IntWalk.i64_in _ (by omega)).trans (by omega)
                have CE := Lib.hid (fun W => edgeOf_any (n : Int) (i : Int) (j : Int) (.slice (some ⟨b2, off2, none⟩) ws.length uc) W (by omega) (by omega) (by omega))
                have hzj := (Array.getElem?_eq_some_iff.1 HHJ.out).1
                have hzg := HN0.out
                have HPX := Lib.hid (show atW ws i = p by unfold atW; rw [HX.out]; simp [hp])
                refine wp_region_class (fun w' => Below wj.heap.size wj w') 14 (by kernel_rfl) (by kernel_rfl) (Below.refl _ wj).drew ?_
                simp only [List.take_succ_cons, List.take_zero, List.drop_succ_cons, List.drop_zero]
                refine quiet_moveV rfl _ rfl _ rfl ?_
                simp only [Act.put, List.setIfInBounds_toArray, List.set_cons_zero, List.set_cons_succ]
                refine quiet_still rfl (.pointer (some ⟨w.heap.size, 1, none⟩)) (fun w _ => by go_simp) ?_
                simp only [Act.put, List.setIfInBounds_toArray, List.set_cons_zero, List.set_cons_succ]
                refine quiet_load1 rfl _ _ rfl ⟨w.heap.size, 1, none⟩ rfl (.slice (some ⟨b2, off2, none⟩) ws.length uc) (load_ws _ _) (fun _ h => (h.cell (p := ⟨w.heap.size, 1, none⟩) (show w.heap.size < wj.heap.size by omega)).trans g1) ?_
                simp only [Act.put, List.setIfInBounds_toArray, List.set_cons_zero, List.set_cons_succ]
                refine quiet_moveV rfl _ rfl (.int .i64 (i : Int)) rfl ?_
                simp only [Act.put, List.setIfInBounds_toArray, List.set_cons_zero, List.set_cons_succ]
                refine quiet_still rfl (.pointer (some ⟨b2, off2 + i * 3, none⟩)) (fun w _ => by go_simp) ?_
                simp only [Act.put, List.setIfInBounds_toArray, List.set_cons_zero, List.set_cons_succ]
                refine quiet_still rfl (.pointer (some ⟨b2, off2 + i * 3 + 1, none⟩)) (fun w _ => by go_simp) ?_
                simp only [Act.put, List.setIfInBounds_toArray, List.set_cons_zero, List.set_cons_succ]
                refine quiet_load1 rfl _ _ rfl ⟨b2, off2 + i * 3 + 1, none⟩ rfl (.int .i64 (p : Int)) (load_int _ _) (fun _ h => (h.cell (p := ⟨b2, off2 + i * 3 + 1, none⟩) (show b2 < wj.heap.size by omega)).trans gp) ?_
                simp only [Act.put, List.setIfInBounds_toArray, List.set_cons_zero, List.set_cons_succ]
                refine quiet_moveV rfl _ rfl (.int .i64 (j : Int)) rfl ?_
                simp only [Act.put, List.setIfInBounds_toArray, List.set_cons_zero, List.set_cons_succ]
                refine quiet_still rfl (.int .i64 ((p + j : Nat) : Int)) (fun w _ => by go_simp) ?_
                simp only [Act.put, List.setIfInBounds_toArray, List.set_cons_zero, List.set_cons_succ]
                refine quiet_load_mid rfl _ _ rfl w.heap.size 0 rfl [.int .i64 (n : Int), .slice (some ⟨b2, off2, none⟩) ws.length uc] _ (fun W h => rangeH (h.block _ (show w.heap.size < wj.heap.size by omega) |>.trans HHJ.out)) Try.underlying24 rfl (by kernel_rfl) ?_
                simp only [Act.put, List.setIfInBounds_toArray, List.set_cons_zero, List.set_cons_succ]
                refine quiet_moveV rfl _ rfl (.int .i64 (i : Int)) rfl ?_
                simp only [Act.put, List.setIfInBounds_toArray, List.set_cons_zero, List.set_cons_succ]
                refine quiet_moveV rfl _ rfl (.int .i64 (j : Int)) rfl ?_
                simp only [Act.put, List.setIfInBounds_toArray, List.set_cons_zero, List.set_cons_succ]
                refine quiet_call rfl 44 _ _ rfl (enter_of Try.func44 (by decide) (by intro h; cases h)) _ (fun W h => (CE.out W).mono fun e w' ⟨he, hw⟩ => ⟨he, h.trans (hw.mono h.size)⟩) ?_
                simp only [Act.put, List.setIfInBounds_toArray, List.set_cons_zero, List.set_cons_succ]
                refine quiet_still rfl (.pointer (some ⟨g, p + j, none⟩)) (fun w _ => by go_simp) ?_
                simp only [Act.put, List.setIfInBounds_toArray, List.set_cons_zero, List.set_cons_succ]
                unfold wpQuiet
                intro wq hb
                have HOQ := own_below HOJ.out hb
                have f0 := HOQ.frozenAt (p + j)
                have hlen : ((sideL n ws l i j).map (Value.int .i64)).length = n := by rw [List.length_map, sideL_len, HLE.out]
                obtain ⟨e1, he1⟩ : ∃ e1, ((sideL n ws l i j).map (Value.int .i64))[p + j]? = some e1 := ⟨_, List.getElem?_eq_getElem (by rw [hlen]; omega)⟩
                have e0 : wq.cell? ⟨g, p + j, none⟩ = _ := HOQ.cellAt (p + j) (by omega)
                rw [he1] at e0
                have HS := own_store HOQ (p + j) ((n : Int) + 2 * (i : Int) + (j : Int))
                rw [← HPX.out, ← sideL_next n ws l i j hj2, HPX.out] at HS
                have HS2 := Lib.hid HS
                have HBQ := HBJ.out.trans (hb.mono (by omega))
                have HB4 := Lib.hid (HBQ.setCell (p := ⟨g, p + j, none⟩) (Nat.le_of_lt HN0.out) (.int .i64 ((n : Int) + 2 * (i : Int) + (j : Int))))
                have HHQ := (hb.block _ (show w.heap.size < wj.heap.size by omega)).trans HHJ.out
                have HH2 := Lib.hid ((show (wq.setCell ⟨g, p + j, none⟩ (.int .i64 ((n : Int) + 2 * (i : Int) + (j : Int)))).heap[w.heap.size]? = wq.heap[w.heap.size]? from heap_setCell_other _ _ _ _ (by have := HN0.out; simp only []; omega)).trans HHQ)
                clear HS he1 hlen HOQ HHQ HBQ hb
                go_wp2_with fail
                go_roundw
                case rel => exact ⟨j + 1, hj2, by go_num, HS2.out, HB4.out, HH2.out⟩
                case measure => (simp [intOf] <;> omega)
              · have j2 : ¬ (j : Int) < 2 := by omega
                have e : j = 2 := by omega
                subst e
                have HO2 := Lib.hid (show wj.ownsRow w.heap.size 3 1 (.slice (some ⟨g, 0, none⟩) n n) n ((lineL n ws (ds.take (k + 1))).map (Value.int .i64)) by rw [HNX.out]; exact HOJ.out)
                go_wp2_with fail
                go_roundw
                case rel => exact ⟨k + 1, hkl, by go_num, HO2.out, HBJ.out, HHJ.out⟩
                case measure => (simp [intOf] <;> omega)
          · have k1 : ¬ (k : Int) < (ds.length : Int) := by omega
            have e : k = ds.length := by omega
            subst e
            rw [List.take_length] at HOW
            have HIS := Lib.hid (is_own HOW.out (by rw [lineL_len]))
            go_wp2_with fail
            go_ret2
            exact ⟨_, rfl, HIS.out, HBW.out⟩
  · go_wp2_with fail
    go_ret2
    exact ⟨_, rfl, is_nil _, HB2.out⟩
end Go.Proofs.Ytenfeekchggioaa
