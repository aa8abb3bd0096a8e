/- Ready. -/
import Derived.Test.YtenfeekchggioaaFV
namespace Go.Proofs.Ytenfeekchggioaa
open Go.RowKit Go.Shelf Go.Lib
set_option linter.unusedSimpArgs false
attribute [local irreducible] wpQuiet
theorem setAt_0 {w : World} {P : Nat} {vs : List Value} {T : TypeId} {A : Nat → Bool} (h : w.heap[P]? = some (.cells vs.toArray T (0, 0))) (h1 : SetVs (vs.take 7) A) : SetAt w P 0 A := fun k hk => by
  obtain ⟨m, a, b, c⟩ := h1.2 k hk
  refine ⟨m, a, ?_, by simp [World.frozen?, h], c⟩
  rw [cell_of_row _ _ _ _ _ _ h, List.getElem?_toArray, Nat.zero_add]
  rwa [List.getElem?_take_of_lt hk] at b
theorem setAt_7 {w : World} {P : Nat} {vs : List Value} {T : TypeId} {A : Nat → Bool} (h : w.heap[P]? = some (.cells vs.toArray T (0, 0))) (h1 : SetVs (vs.drop 7) A) : SetAt w P 7 A := fun k hk => by
  obtain ⟨m, a, b, c⟩ := h1.2 k hk
  refine ⟨m, a, ?_, by simp [World.frozen?, h], c⟩
  rw [cell_of_row _ _ _ _ _ _ h, List.getElem?_toArray]
  rwa [List.getElem?_drop] at b
def readyP (pr : Nat) (W : List Wk) (ds : List Int) (i : Nat) : Bool := !doneS ds i && !waitS ds (stepsL pr W) i
def readyTo (pr : Nat) (W : List Wk) (ds : List Int) (k : Nat) : List Int := ((List.range k).filter (readyP pr W ds)).map fun (i : Nat) => (i : Int)
/-- The works that are ready. -/
def readyL (pr : Nat) (W : List Wk) (ds : List Int) : List Int := readyTo pr W ds W.length
theorem readyTo_next (pr : Nat) (W : List Wk) (ds : List Int) (k : Nat) : readyTo pr W ds (k + 1) = readyTo pr W ds k ++ if readyP pr W ds k then [(k : Int)] else [] := by
  unfold readyTo
  rw [List.range_succ, List.filter_append, List.map_append]
  congr 1
  by_cases h : readyP pr W ds k = true
  · simp [h]
  · simp [h]
theorem readyTo_len (pr : Nat) (W : List Wk) (ds : List Int) (k : Nat) : (readyTo pr W ds k).length ≤ k := by
  unfold readyTo
  rw [List.length_map]
  exact Nat.le_trans (List.length_filter_le _ _) (by simp)
set_option maxRecDepth 100000 in
set_option maxHeartbeats 8000000 in
theorem Ready_any (s : Sh) (v : Value) (ds : List Int) (dv : Value) (w : World) (hv : SV w v s) (hd : IS w dv ds) (hdl : ds.length ≤ 100000) :
    Calls Try.prog 19 #[v, dv] w fun e w' => ∃ u, e = .returned (.tuple #[u, .int .i64 (progE s ds)]) ∧ IS w' u (if progE s ds = 0 then readyL s.pr.toNat s.ws ds else []) ∧ Below w.heap.size w w' := by
  have HV := Lib.hid hv
  have HD := Lib.hid hd
  obtain ⟨u, rfl, hu⟩ := hv
  obtain ⟨sa, sc, rfl, q1, q2, _, hI⟩ := hd
  obtain ⟨ua, uc, rfl, k1, k2, hU⟩ := id hu
  have HZ := Lib.hid (@progE_zero s ds)
  have CP := Lib.hid (fun W h1 h2 => progressOf_any s (.agg #[.int .i64 s.pr, .slice ua s.ws.length uc]) ds (.slice sa ds.length sc) W h1 h2 hdl)
  generalize progE s ds = pe at *
  have HU := Lib.hid hU
  have HI := Lib.hid hI
  have HDL := Lib.hid hdl
  clear hU hI hu
  go_enter Try.func19, Try.ntmps19
  go_wp2_with fail
  have h0 := heap_alloc_new w (.cells #[.int .i64 s.pr, .slice ua s.ws.length uc] 24)
  have B0 := below_alloc w (.cells #[.int .i64 s.pr, .slice ua s.ws.length uc] 24)
  have z0 : (w.alloc (.cells #[.int .i64 s.pr, .slice ua s.ws.length uc] 24)).heap.size = w.heap.size + 1 := by simp
  generalize w.alloc (.cells #[.int .i64 s.pr, .slice ua s.ws.length uc] 24) = W0 at *
  refine (CP.out W0 (HV.out.below B0) (HD.out.below B0)).mono ?_
  rintro e w1 ⟨vs, rfl, hl, hset, hone, b1⟩
  have HSET := Lib.hid hset
  have HLL := Lib.hid hl
  clear hset
  have H0 := Lib.hid ((b1.block _ (by omega)).trans h0)
  have HB1 := Lib.hid (bon B0 b1)
  have Hone := Lib.hid hone
  have HI14 := Lib.hid (show (Try.prog.info? 70).map (·.size) = some vs.toArray.size by rw [List.size_toArray, hl]; exact infoProg)
  have HL14 := Lib.hid (show 14 = vs.toArray.size by rw [List.size_toArray, hl])
  have HZ1 := Lib.hid (show w.heap.size + 1 ≤ w1.heap.size by have := b1.size; omega)
  clear h0 B0 z0 b1 hl hone CP
  have hp := heap_alloc_new w1 (.cells #[.int .u64 0, .int .u64 0, .int .u64 0, .int .u64 0, .int .u64 0, .int .u64 0, .int .u64 0, .int .u64 0, .int .u64 0, .int .u64 0, .int .u64 0, .int .u64 0, .int .u64 0, .int .u64 0] 70)
  have hpb := HB1.out.alloc (show w.heap.size ≤ w1.heap.size by have := HZ1.out; omega) (.cells #[.int .u64 0, .int .u64 0, .int .u64 0, .int .u64 0, .int .u64 0, .int .u64 0, .int .u64 0, .int .u64 0, .int .u64 0, .int .u64 0, .int .u64 0, .int .u64 0, .int .u64 0, .int .u64 0] 70)
  have hp0 := (Below.heap_alloc w1 (.cells #[.int .u64 0, .int .u64 0, .int .u64 0, .int .u64 0, .int .u64 0, .int .u64 0, .int .u64 0, .int .u64 0, .int .u64 0, .int .u64 0, .int .u64 0, .int .u64 0, .int .u64 0, .int .u64 0] 70) _ (show w.heap.size < w1.heap.size by have := HZ1.out; omega)).trans H0.out
  have hpz : (w1.alloc (.cells #[.int .u64 0, .int .u64 0, .int .u64 0, .int .u64 0, .int .u64 0, .int .u64 0, .int .u64 0, .int .u64 0, .int .u64 0, .int .u64 0, .int .u64 0, .int .u64 0, .int .u64 0, .int .u64 0] 70)).heap.size = w1.heap.size + 1 := by simp
  go_upto_region 2 with (refine store_rowP rfl 70 (.tmp 6) (.tmp 14) rfl w1.heap.size vs.toArray rfl rfl 70 _ (heap_alloc_new w1 _) HI14.out HL14.out Hone.out ?_; intro wf hf hk2 hzf hBf)
  have H1 := Lib.hid ((hk2 _ (by have := HZ1.out; omega)).trans hp0)
  have HB2 := Lib.hid (hBf _ _ hpb (by have := HZ1.out; omega))
  have HZ2 := Lib.hid (show w.heap.size + 1 ≤ wf.heap.size by have := HZ1.out; omega)
  have HRW := Lib.hid hf
  clear hp hpb hp0 hpz hf hk2 hzf hBf H0
  by_cases q : pe = 0
  · subst q
    obtain ⟨hc, hok, _⟩ := HZ.out rfl
    obtain ⟨t1, t2⟩ := HSET.out rfl
    have HT1 := Lib.hid (setAt_0 HRW.out t1)
    have HT2 := Lib.hid (setAt_7 HRW.out t2)
    obtain ⟨s1, s2, hsm⟩ := chk_small hc
    have HSM := Lib.hid hsm
    obtain ⟨pr, ws⟩ := s
    obtain ⟨n, rfl⟩ : ∃ n : Nat, pr = (n : Int) := ⟨pr.toNat, by simp only at s1; omega⟩
    simp only [Int.toNat_natCast] at *
    have hw4 : ws.length ≤ 400 := HSM.out.1
    have g1 : wf.cell? ⟨w.heap.size, 1, none⟩ = some (.slice ua ws.length uc) := cell_of_row wf _ 1 _ _ _ H1.out
    have HP1 := Lib.hid (Array.getElem?_eq_some_iff.1 HRW.out).1
    clear hsm hok hc HZ t1 t2 HSET HRW H1
    go_wp2_with fail
    clear g1
    go_loopw [8, 22] (fun vo i wr => ∃ k : Nat, k ≤ ws.length ∧ i = .int .i64 (k : Int) ∧ wr.ownsRow wf.heap.size 3 1 vo (readyTo n ws ds k).length ((readyTo n ws ds k).map (Value.int .i64)) ∧ Below wf.heap.size wf wr) (fun _ i _ => ws.length - (intOf i).toNat)
    case atStart => exact ⟨0, Nat.zero_le _, rfl, World.ownsRow_nil _ _ _ _, Below.refl _ _⟩
    case round =>
      obtain ⟨k, hk, rfl, hown, hb⟩ := hrel
      have HOW := Lib.hid hown
      have HBW := Lib.hid hb
      have S1 := Lib.hid (HT1.out.below HP1.out hb)
      have S2 := Lib.hid (HT2.out.below HP1.out hb)
      have HNX := Lib.hid (readyTo_next n ws ds k)
      have HLN := Lib.hid (readyTo_len n ws ds k)
      have HBA := Lib.hid (HB2.out.trans (hb.mono (by have := HZ2.out; omega)))
      have HZW := Lib.hid hb.size
      clear hown hb
      by_cases hkn : k < ws.length
      · have k0 : (0 : Int) ≤ (k : Int) := by omega
        have k1 : (k : Int) < (ws.length : Int) := by omega
        have hk4 : k < 448 := by omega
        have C1 := Lib.hid (has_any w1.heap.size 0 (doneS ds) k hk4 wr S1.out)
        have C2 := Lib.hid (has_any w1.heap.size 7 (waitS ds (stepsL n ws)) k hk4 wr S2.out)
        generalize readyTo n ws ds k = D at *
        by_cases hd1 : doneS ds k = true
        · rw [hd1] at C1
          have HNE := Lib.hid (show readyTo n ws ds (k + 1) = D by rw [HNX.out, show readyP n ws ds k = false by unfold readyP; rw [hd1]; rfl]; simp)
          clear hd1
          go_wp2_with fail
          refine C1.out.mono ?_
          rintro e w3 ⟨rfl, hw⟩
          obtain rfl := hw.symm
          clear hw
          go_wp2_with fail
          go_roundw
          case rel => exact ⟨k + 1, hkn, by go_num, by rw [HNE.out]; exact HOW.out, HBW.out⟩
          case measure => (simp [intOf] <;> omega)
        · have hd1' : doneS ds k = false := by simpa using hd1
          rw [hd1'] at C1
          clear hd1
          by_cases hd2 : waitS ds (stepsL n ws) k = true
          · rw [hd2] at C2
            have HNE := Lib.hid (show readyTo n ws ds (k + 1) = D by rw [HNX.out, show readyP n ws ds k = false by unfold readyP; rw [hd1', hd2]; rfl]; simp)
            clear hd1' hd2
            go_wp2_with fail
            refine C1.out.mono ?_
            rintro e w3 ⟨rfl, hw⟩
            obtain rfl := hw.symm
            clear hw
            go_wp2_with fail
            refine C2.out.mono ?_
            rintro e w3 ⟨rfl, hw⟩
            obtain rfl := hw.symm
            clear hw
            go_wp2_with fail
            go_roundw
            case rel => exact ⟨k + 1, hkn, by go_num, by rw [HNE.out]; exact HOW.out, HBW.out⟩
            case measure => (simp [intOf] <;> omega)
          · have hd2' : waitS ds (stepsL n ws) k = false := by simpa using hd2
            rw [hd2'] at C2
            have HNE := Lib.hid (show readyTo n ws ds (k + 1) = D ++ [(k : Int)] by rw [HNX.out, show readyP n ws ds k = true by unfold readyP; rw [hd1', hd2']; rfl]; simp)
            clear hd1' hd2 hd2'
            go_wp2_with fail
            refine C1.out.mono ?_
            rintro e w3 ⟨rfl, hw⟩
            obtain rfl := hw.symm
            clear hw
            go_wp2_with fail
            refine C2.out.mono ?_
            rintro e w3 ⟨rfl, hw⟩
            obtain rfl := hw.symm
            clear hw
            go_wp2_with (at_builtin; refine app_one (w0 := wr) wf.heap.size _ D (k : Int) rfl _ _ rfl rfl HOW.out rfl (by have := HLN.out; omega) (Below.refl _ _) HZW.out ?_; intro g1 cap1 w4 hown1 hb1)
            have HO1 := Lib.hid hown1
            have HBB := Lib.hid hb1
            clear hown1
            go_wp2_with fail
            go_roundw
            case rel => exact ⟨k + 1, hkn, by go_num, by rw [HNE.out, List.length_append]; exact HO1.out, HBW.out.trans HBB.out⟩
            case measure => (simp [intOf] <;> omega)
      · have k1 : ¬ (k : Int) < (ws.length : Int) := by omega
        have e : k = ws.length := by omega
        subst e
        have HIS := Lib.hid (is_own HOW.out rfl)
        go_wp2_with fail
        go_ret2
        exact ⟨_, rfl, HIS.out, HBA.out⟩
  · go_wp2_with fail
    go_ret2
    exact ⟨_, rfl, is_nil _, HB2.out⟩
end Go.Proofs.Ytenfeekchggioaa
