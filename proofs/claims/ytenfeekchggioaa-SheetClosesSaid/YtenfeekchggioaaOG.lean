/- isOrder walked. -/
import Derived.Test.YtenfeekchggioaaOF
namespace Go.Proofs.Ytenfeekchggioaa
open Go.RowKit Go.Shelf Go.Lib
attribute [local go_sem] Oper.semAt_some
set_option linter.unusedSimpArgs false
def nodefB (o : Oper) : Bool := match o.op with | .defer _ => false | _ => true
theorem nodef {ol : List Oper} (h : ol.all nodefB = true) (i : Nat) (o : Oper) (ho : ol.toArray[i]? = some o) (c : _) : o.op ≠ .defer c := by
  rw [List.getElem?_toArray] at ho
  have := List.all_eq_true.1 h o (List.mem_of_getElem? ho)
  intro e
  unfold nodefB at this
  rw [e] at this
  cases this
theorem heap4 (w : World) (a b c d : Obj) : ((((w.alloc a).alloc b).alloc c).alloc d).heap[w.heap.size]? = some a ∧ ((((w.alloc a).alloc b).alloc c).alloc d).heap[w.heap.size + 1]? = some b ∧ ((((w.alloc a).alloc b).alloc c).alloc d).heap[w.heap.size + 1 + 1]? = some c ∧ ((((w.alloc a).alloc b).alloc c).alloc d).heap[w.heap.size + 3]? = some d ∧ Below w.heap.size w ((((w.alloc a).alloc b).alloc c).alloc d) ∧ ((((w.alloc a).alloc b).alloc c).alloc d).heap.size = w.heap.size + 4 := by
  refine ⟨?_, ?_, ?_, ?_, (below3 w a b c).alloc (by simp <;> omega) _, by simp⟩
  · exact (Below.heap_alloc _ _ _ (by simp <;> omega)).trans (heap3_0 w a b c)
  · exact (Below.heap_alloc _ _ _ (by simp <;> omega)).trans (heap3_1 w a b c)
  · exact (Below.heap_alloc _ _ _ (by simp <;> omega)).trans (heap3_2 w a b c)
  · have := heap_alloc_new (((w.alloc a).alloc b).alloc c) d
    rwa [show (((w.alloc a).alloc b).alloc c).heap.size = w.heap.size + 3 by simp] at this
set_option maxRecDepth 100000 in
set_option maxHeartbeats 16000000 in
theorem isOrder_any (s : Sh) (v : Value) (os : List Int) (dv : Value) (w : World) (hv : SV w v s) (hd : IS w dv os) (hc : chkS s = 0) (hol : os.length ≤ 100000) :
    Calls Try.prog 49 #[v, dv] w fun e w' => e = .returned (.bool (ordB s.pr.toNat s.ws os)) ∧ Below w.heap.size w w' := by
  obtain ⟨u, rfl, hu⟩ := hv
  obtain ⟨sa, sc, rfl, q1, q2, _, hI⟩ := hd
  obtain ⟨ua, uc, rfl, k1, k2, hU⟩ := id hu
  have HI := Lib.hid hI
  have HU := Lib.hid hU
  obtain ⟨s1, s2, hsm⟩ := chk_small hc
  have HSM := Lib.hid hsm
  have HOB := Lib.hid (show ordB s.pr.toNat s.ws os = (permB s.ws.length os && (stepsL s.pr.toNat s.ws).all (inOrd os)) from rfl)
  generalize ordB s.pr.toNat s.ws os = ob at *
  clear hI hU hu hc hsm
  refine (callsIn_wide (n := 9)).1 ?_
  refine callsIn_of_wp_marks Try.func49 rfl trivial ?_ rfl
  refine wpIn_wide.2 ?_
  simp only [Try.ntmps49, List.size_toArray, List.length_cons, List.length_nil, Nat.reduceAdd, Nat.reduceSub, Array.replicate_succ, Array.replicate_zero, List.push_toArray, List.append_toArray, List.nil_append, List.cons_append]
  by_cases hl : os.length = s.ws.length
  · have hln : ((os.length : Int) != (s.ws.length : Int)) = false := by rw [bne_eq_false_iff_eq]; omega
    have HL := Lib.hid hl
    have hw4 : s.ws.length ≤ 400 := HSM.out.1
    clear hl
    go_upto_block 0 with (refine alloc_big rfl 88 rfl (bkC fun _ => 0).toArray run_alloc400 ?_)
    have h4 := heap4 w (.cells #[.int .i64 s.pr, .slice ua s.ws.length uc] 24) (.cells #[.bool false] 4) (.cells #[.int .u64 0, .int .u64 0, .int .u64 0, .int .u64 0, .int .u64 0, .int .u64 0, .int .u64 0] 68) (.cells (bkC fun _ => 0).toArray 88)
    generalize (((w.alloc (.cells #[.int .i64 s.pr, .slice ua s.ws.length uc] 24)).alloc (.cells #[.bool false] 4)).alloc (.cells #[.int .u64 0, .int .u64 0, .int .u64 0, .int .u64 0, .int .u64 0, .int .u64 0, .int .u64 0] 68)).alloc (.cells (bkC fun _ => 0).toArray 88) = w0 at *
    obtain ⟨e0, e1, e2, e3, e4, e5⟩ := h4
    have hz0 : doneS (os.take 0) = fun _ => false := by rw [List.take_zero, doneS_nil]
    have hp0 : posN os 0 = fun _ => 0 := by funext j; simp [posN]
    have HOS := Lib.hid (show OS w w0 os 0 #[.int .i64 s.pr, .slice ua s.ws.length uc] from ⟨by rw [hz0]; exact setAt_zero _ _ _ e2, by rw [hp0]; exact e3, e0, e1, e4, by omega⟩)
    clear e0 e1 e2 e3 e4 e5 hz0 hp0
    go_wp2_with fail
    go_loopw [18] (fun i wr => ∃ k : Nat, k ≤ os.length ∧ i = .int .i64 (k : Int) ∧ PreOk s.ws.length os k ∧ OS w wr os k #[.int .i64 s.pr, .slice ua s.ws.length uc]) (fun i _ => os.length - (intOf i).toNat)
    case atStart => exact ⟨0, Nat.zero_le _, rfl, ⟨fun z hz => by simp at hz, by simp⟩, HOS.out⟩
    case round =>
      obtain ⟨k, hk, rfl, hok, hos⟩ := hrel
      have HOK := Lib.hid hok
      have HO := Lib.hid hos
      clear HOS hok
      have g0 : wr.cell? ⟨w.heap.size, 0, none⟩ = some (.int .i64 s.pr) := cell_of_row wr _ 0 _ _ _ hos.box
      have g1 : wr.cell? ⟨w.heap.size, 1, none⟩ = some (.slice ua s.ws.length uc) := cell_of_row wr _ 1 _ _ _ hos.box
      by_cases hkl : k < os.length
      · obtain ⟨z, hz'⟩ : ∃ z, os[k]? = some z := ⟨_, List.getElem?_eq_getElem hkl⟩
        obtain ⟨b, off, rfl, hbl, hcz⟩ := HI.out k z hz'
        have cz : wr.cell? ⟨b, off + k, none⟩ = some (.int .i64 z) := (hos.low.cell (p := ⟨b, off + k, none⟩) hbl).trans hcz
        have HKZ := Lib.hid hz'
        have j0 : (0 : Int) ≤ (k : Int) := by omega
        have j1 : (k : Int) < (os.length : Int) := by omega
        clear hcz hz' hos
        have CW := Lib.hid (fun W => isWork_any s.pr z ua s.ws.length uc W)
        by_cases hin : 0 ≤ z ∧ z < (s.ws.length : Int)
        · rw [decide_eq_true hin] at CW
          obtain ⟨m, rfl⟩ : ∃ m : Nat, z = (m : Int) := ⟨z.toNat, by omega⟩
          have hm4 : m < 448 := by omega
          go_wp2_with fail
          refine (CW.out _).mono ?_
          rintro e w2 ⟨rfl, hb2⟩
          have HO2 := Lib.hid (HO.out.below hb2)
          clear hb2 g0 g1 cz
          have CH := Lib.hid (has_any (w.heap.size + 1 + 1) 0 (doneS (os.take k)) m hm4 w2 HO2.out.met)
          by_cases hd : doneS (os.take k) m = true
          · rw [hd] at CH
            have e : ob = false := by rw [HOB.out, permB_bad HKZ.out (.inr (by simpa [doneS] using hd))]; rfl
            subst e
            clear hd
            have c1 : w2.cell? ⟨w.heap.size + 1, 0, none⟩ = some (.bool false) := cell_of_row w2 _ 0 _ _ _ HO2.out.res
            have f1 : w2.frozen? ⟨w.heap.size + 1, 0, none⟩ = false := by have := HO2.out.res; simp [World.frozen?, this]
            go_wp2_with fail
            refine CH.out.mono ?_
            rintro e w3 ⟨rfl, hw⟩
            obtain rfl := hw.symm
            clear hw
            go_wp2_with fail
            refine leaves_ret (results_c rfl _ _ (w.heap.size + 1) (.bool false) rfl (load_bool _ _ _ (by first | exact World.cell?_setCell_same' _ _ _ (by rw [c1]; rfl) | exact c1))) rfl ⟨rfl, by first | exact HO2.out.low.setCell (p := ⟨w.heap.size + 1, 0, none⟩) (Nat.le_succ _) _ | exact HO2.out.low⟩
          · have hd' : doneS (os.take k) m = false := by simpa using hd
            rw [hd'] at CH
            have HDF := Lib.hid hd'
            clear hd hd'
            go_wp2_with fail
            refine CH.out.mono ?_
            rintro e w3 ⟨rfl, hw⟩
            obtain rfl := hw.symm
            clear hw
            go_wp2_with fail
            refine (add_any (w.heap.size + 1 + 1) 0 (doneS (os.take k)) m hm4 _ HO2.out.met).mono ?_
            rintro e w6 ⟨⟨u3, rfl⟩, hS, v3, hw6⟩
            rw [doneS_snoc os k m HKZ.out] at hS
            have hoth : ∀ j : Nat, ¬ j = w.heap.size + 1 + 1 → w6.heap[j]? = w2.heap[j]? := fun j hj => by rw [hw6]; exact heap_setCell_other _ _ _ _ hj
            have hlow : Below w.heap.size w w6 := by rw [hw6]; exact (HO2.out.low.setCell (p := ⟨w.heap.size + 1 + 1, _, none⟩) (show w.heap.size ≤ w.heap.size + 1 + 1 by omega) _).drew
            have hz6 : w6.heap.size = w2.heap.size := by rw [hw6]; simp
            have hrow := (hoth (w.heap.size + 3) (by omega)).trans HO2.out.row
            have c6 : w6.cell? ⟨w.heap.size + 3, m, none⟩ = some (.int .i64 (posN os k m : Int)) := by rw [cell_of_row w6 _ m _ _ _ hrow, List.getElem?_toArray, bkC_get _ (by omega)]
            have f6 : w6.frozen? ⟨w.heap.size + 3, m, none⟩ = false := by simp [World.frozen?, hrow]
            have x400 : (m : Int) < 400 := by omega
            have x0 : (0 : Int) ≤ (m : Int) := by omega
            have hrow7 : (w6.setCell ⟨w.heap.size + 3, m, none⟩ (.int .i64 (k : Int))).heap[w.heap.size + 3]? = some (.cells (bkC (posN os (k + 1))).toArray 88 (0, 0)) := by rw [← posN_next os k m HKZ.out HDF.out, ← bkC_set]; exact setCell_cells w6 _ m _ _ _ hrow
            have hot7 : ∀ j : Nat, ¬ j = w.heap.size + 3 → (w6.setCell ⟨w.heap.size + 3, m, none⟩ (.int .i64 (k : Int))).heap[j]? = w6.heap[j]? := fun j hj => heap_setCell_other _ _ _ _ hj
            have HO7 := Lib.hid (show OS w (w6.setCell ⟨w.heap.size + 3, m, none⟩ (.int .i64 (k : Int))) os (k + 1) #[.int .i64 s.pr, .slice ua s.ws.length uc] from
              ⟨hS.same (fun k _ => cell_of_heap (hot7 _ (by omega)) _), hrow7, (hot7 _ (by omega)).trans ((hoth _ (by omega)).trans HO2.out.box), (hot7 _ (by omega)).trans ((hoth _ (by omega)).trans HO2.out.res), hlow.setCell (p := ⟨w.heap.size + 3, m, none⟩) (Nat.le_add_right _ _) _, by have := HO2.out.big; simp; omega⟩)
            have HPN := Lib.hid (preOk_next HOK.out HKZ.out hin (by have := HDF.out; simpa [doneS] using this))
            clear hS hoth hlow hz6 hrow hrow7 hot7 hw6
            go_wp2_with fail
            go_roundw
            case rel => exact ⟨k + 1, hkl, by go_num, HPN.out, HO7.out⟩
            case measure => (simp [intOf] <;> omega)
        · rw [decide_eq_false hin] at CW
          have e : ob = false := by rw [HOB.out, permB_bad HKZ.out (.inl hin)]; rfl
          subst e
          go_wp2_with fail
          refine (CW.out _).mono ?_
          rintro e w2 ⟨rfl, hb2⟩
          have HO2 := Lib.hid (HO.out.below hb2)
          clear hb2 g0 g1 cz
          have c1 : w2.cell? ⟨w.heap.size + 1, 0, none⟩ = some (.bool false) := cell_of_row w2 _ 0 _ _ _ HO2.out.res
          have f1 : w2.frozen? ⟨w.heap.size + 1, 0, none⟩ = false := by have := HO2.out.res; simp [World.frozen?, this]
          go_wp2_with fail
          refine leaves_ret (results_c rfl _ _ (w.heap.size + 1) (.bool false) rfl (load_bool _ _ _ (by first | exact World.cell?_setCell_same' _ _ _ (by rw [c1]; rfl) | exact c1))) rfl ⟨rfl, by first | exact HO2.out.low.setCell (p := ⟨w.heap.size + 1, 0, none⟩) (Nat.le_succ _) _ | exact HO2.out.low⟩
      · have j1 : ¬ (k : Int) < (os.length : Int) := by omega
        have e : k = os.length := by omega
        subst e
        have HPB := Lib.hid (permB_ok HL.out HOK.out)
        clear hos
        go_wp2_with fail
        refine (steps_any _ _ _).mono ?_
        rintro e w2 ⟨rfl, hw2⟩
        have hb2 := below_alloc wr (.cells #[.int .i64 s.pr, .slice ua s.ws.length uc] 24)
        have hx := heap_alloc_new wr (.cells #[.int .i64 s.pr, .slice ua s.ws.length uc] 24)
        rw [← hw2] at hb2 hx
        have HO2 := Lib.hid (HO.out.below hb2)
        have HZ2 := Lib.hid (show w2.heap.size = wr.heap.size + 1 by rw [hw2]; simp)
        have HX := Lib.hid hx
        have HZW := Lib.hid HO.out.big
        clear hb2 hx hw2 g0 g1
        go_upto_block 2 with fail
        refine (wpIn_wide (n := 9)).1 ?_
        have hpn : s.pr = ((s.pr.toNat : Nat) : Int) := by omega
        have g0 : w2.cell? ⟨wr.heap.size, 0, none⟩ = some (.int .i64 ((s.pr.toNat : Nat) : Int)) := by rw [← hpn]; exact cell_of_row w2 _ 0 _ _ _ HX.out
        have g1 : w2.cell? ⟨wr.heap.size, 1, none⟩ = some (.slice ua s.ws.length uc) := cell_of_row w2 _ 1 _ _ _ HX.out
        have hz2 := HZ2.out
        have hzw := HZW.out
        have hseq := steps1_own (9 - 1) (by omega) wr.heap.size w2.heap.size s.pr.toNat s.ws ua uc HSM.out (by omega) k1 k2 (w.heap.size + 1) (by omega) w2 (Nat.le_refl _) (by omega) g0 g1
          (fun k x hx => by
            obtain ⟨b, off, e, hb, hr, hsz⟩ := HU.out k x hx
            exact ⟨b, off, e, by omega, by omega, fun j v hv => (HO2.out.low.cell (p := ⟨b, off + k * 3 + j, none⟩) hb).trans (hr j v hv), hsz⟩)
        have HPR := Lib.hid hpn
        clear hpn g0 g1
        gi_wp2_with fail
        have HOM := Lib.hid (OwnFrom.and (Own.from (block_own (w.heap.size + 3) (fun (_ : List (StA s.pr.toNat s.ws)) => .cells (bkC (posN os os.length)).toArray 88 (0, 0)) (fun _ => rfl)) w2.heap.size) (OwnFrom.and (Own.from (block_own (w.heap.size + 1) (fun (_ : List (StA s.pr.toNat s.ws)) => .cells #[.bool false] 4 (0, 0)) (fun _ => rfl)) w2.heap.size) (OwnFrom.and (ownFrom_below (w₀ := w) (n₀ := w.heap.size) (B := w2.heap.size) (Nat.le_refl _) (by omega)) (show OwnFrom w2.heap.size (fun (pre : List (StA s.pr.toNat s.ws)) _ => ∀ x ∈ pre, inOrd os x.1 = true) from fun _ _ _ _ hs _ _ => hs))))
        refine range_own 9 (gf := 67) (lb := #[.pointer (some ⟨wr.heap.size, 0, none⟩)]) rfl (enters_of Try.func67 (by kernel_rfl) rfl)
          hseq (fun h k => BelowX.trans h k) (fun W l o o' h1 h2 h3 h4 => belowX_b (w := w2) (Nat.le_refl _) W l o o' h1 h2 h3 h4) (Below.refl _ _) (fun _ => rfl)
          (fun pre W => W.heap[w.heap.size + 3]? = some (.cells (bkC (posN os os.length)).toArray 88 (0, 0)) ∧ W.heap[w.heap.size + 1]? = some (.cells #[.bool false] 4 (0, 0)) ∧ Below w.heap.size w W ∧ ∀ x ∈ pre, inOrd os x.1 = true)
          (fun _ W => W.heap[w.heap.size + 1]? = some (.cells #[.bool false] 4 (0, 0)) ∧ Below w.heap.size w W ∧ ob = false)
          HOM.out
          (OwnFrom.and (Own.from (block_own (w.heap.size + 1) (fun (_ : List (StA s.pr.toNat s.ws)) => .cells #[.bool false] 4 (0, 0)) (fun _ => rfl)) w2.heap.size) (OwnFrom.and (ownFrom_below (w₀ := w) (n₀ := w.heap.size) (B := w2.heap.size) (Nat.le_refl _) (by omega)) (fun _ _ _ _ hs _ _ => hs)))
          ⟨HO2.out.row, HO2.out.res, HO2.out.low, fun x hx => by cases hx⟩
          (fun x a' W => ∃ Bx, W.heap[Bx]? = some (.cells x.1.cs.toArray 46 (0, 0)) ∧ a' = { tmps := #[.agg #[.int .i64 s.pr, .slice ua s.ws.length uc], .slice sa os.length sc, .pointer (some ⟨w.heap.size, 0, none⟩), undef, .pointer (some ⟨w.heap.size + 1, 0, none⟩), .pointer (some ⟨w.heap.size + 1 + 1, 0, none⟩), .pointer (some ⟨w.heap.size + 1 + 1 + 1, 0, none⟩), u7, u8, .pointer (some ⟨Bx, 0, none⟩), .slice sa os.length sc, .int .i64 (os.length : Int), .pointer (some ⟨w.heap.size, 1, none⟩), .slice ua s.ws.length uc, .int .i64 (s.ws.length : Int), .bool false, .slice sa os.length sc, .int .i64 (os.length : Int), .int .i64 (os.length : Int), .bool false, u20, u21, u22, u23, u24, u25, u26, u27, u28, u29, u30, u31, u32, u33, u34, u35, u36, .agg #[.int .i64 s.pr, .slice ua s.ws.length uc], .func (.func 67) #[] #[.pointer (some ⟨wr.heap.size, 0, none⟩)], x.1.val, undef, undef, undef, undef, undef, undef, undef, undef, undef], defers := [] })
          (fun x a' _ X Y row hs hg hr => by obtain ⟨Bx, h2, h3⟩ := hs; exact ⟨Bx, block_own Bx (fun (_ : Unit) => .cells x.1.cs.toArray 46 (0, 0)) (fun _ => rfl) () X Y row h2 hg (fun r e => (hr r e).2), h3⟩)
          ?assign ?body ?done ?stop
        case assign =>
          rintro l pre x W ⟨h3, h1, hB, hA⟩
          have HA := Lib.hid hA
          clear hA
          unfold Ed.val
          gi_wp2
          exact ⟨(KeepsOthers.alloc _ _).from _, BelowX.of (below_alloc _ _), ⟨(Below.heap_alloc W _ _ (Array.getElem?_eq_some_iff.1 h3).1).trans h3, (Below.heap_alloc W _ _ (Array.getElem?_eq_some_iff.1 h1).1).trans h1, hB.alloc hB.size _, HA.out⟩, W.heap.size, heap_alloc_new _ _, rfl⟩
        case body =>
          rintro l pre x a' W ⟨h3, h1, hB, hA⟩ ⟨Bx, hX, rfl⟩ hlt
          have H13 := Lib.hid h1
          have H33 := Lib.hid h3
          have HB3 := Lib.hid hB
          have HA := Lib.hid hA
          obtain ⟨⟨f0, f1⟩, t0, t1⟩ := x.2.1
          obtain ⟨f, hf⟩ : ∃ f : Nat, x.1.fr = (f : Int) := ⟨x.1.fr.toNat, by omega⟩
          obtain ⟨t, ht⟩ : ∃ t : Nat, x.1.to = (t : Int) := ⟨x.1.to.toNat, by omega⟩
          have f400 : (f : Int) < 400 := by omega
          have t400 : (t : Int) < 400 := by omega
          have f00 : (0 : Int) ≤ (f : Int) := by omega
          have t00 : (0 : Int) ≤ (t : Int) := by omega
          have x0 : W.cell? ⟨Bx, 0, none⟩ = some (.int .i64 (f : Int)) := by rw [← hf]; exact cell_of_row W Bx 0 _ _ _ hX
          have x2 : W.cell? ⟨Bx, 2, none⟩ = some (.int .i64 (t : Int)) := by rw [← ht]; exact cell_of_row W Bx 2 _ _ _ hX
          have cf : W.cell? ⟨w.heap.size + 1 + 1 + 1, f, none⟩ = some (.int .i64 (posN os os.length f : Int)) := by rw [cell_of_row W _ f _ _ _ h3, List.getElem?_toArray, bkC_get _ (by omega)]
          have ct : W.cell? ⟨w.heap.size + 1 + 1 + 1, t, none⟩ = some (.int .i64 (posN os os.length t : Int)) := by rw [cell_of_row W _ t _ _ _ h3, List.getElem?_toArray, bkC_get _ (by omega)]
          have c1 : W.cell? ⟨w.heap.size + 1, 0, none⟩ = some (.bool false) := cell_of_row W _ 0 _ _ _ h1
          have fr1 : W.frozen? ⟨w.heap.size + 1, 0, none⟩ = false := by simp [World.frozen?, h1]
          have HIN := Lib.hid (show inOrd os x.1 = decide (posN os os.length f ≤ posN os os.length t) by unfold inOrd; rw [hf, ht]; rfl)
          have HMEM := Lib.hid x.2.2
          have HBD := Lib.hid (fun n => below_drewN (Below.refl W.heap.size W) n)
          clear h3 h1 hB hA hX hf ht f0 f1 t0 t1
          unfold Ed.val
          by_cases hgt : posN os os.length f ≤ posN os os.length t
          · have hg : ¬ (posN os os.length t : Int) < (posN os os.length f : Int) := by omega
            rw [decide_eq_true hgt] at HIN
            clear hgt
            gi_wp2_with fail
            refine round_quiet (by kernel_rfl) (by kernel_rfl) (by intro i o h c; exact nodef (by kernel_rfl) i o h c) ?_
            repeat (gi_big_quiet_step (fail))
            refine wpQuietIn_nil ?_
            intro _ hw'
            obtain ⟨nq, hw''⟩ := hw'
            subst hw''
            gi_wp2_with fail
            refine ⟨⟨(HBD.out nq).size, fun k o hk h _ => ((HBD.out nq).block k (Array.getElem?_eq_some_iff.1 h).1).trans h⟩, BelowX.of (HBD.out nq), H33.out, H13.out, HB3.out.trans ((HBD.out nq).mono HB3.out.size), fun a b h => ?_⟩
            rcases h with h | h
            · exact HA.out ⟨a, b⟩ h
            · rw [show a = x.1 from congrArg Subtype.val h]
              exact HIN.out
          · have hg : (posN os os.length t : Int) < (posN os os.length f : Int) := by omega
            rw [decide_eq_false hgt] at HIN
            clear hgt
            gi_wp2_with fail
            refine round_quiet (by kernel_rfl) (by kernel_rfl) (by intro i o h c; exact nodef (by kernel_rfl) i o h c) ?_
            repeat (gi_big_quiet_step (fail))
            refine wpQuietIn_nil ?_
            intro _ hw'
            obtain ⟨nq, hw''⟩ := hw'
            subst hw''
            gi_wp2_with fail
            have hot : ∀ k : Nat, ¬ k = w.heap.size + 1 → ((W.drewN nq).setCell ⟨w.heap.size + 1, 0, none⟩ (.bool false)).heap[k]? = (W.drewN nq).heap[k]? := fun k hk => heap_setCell_other _ _ _ _ hk
            have hsz : ((W.drewN nq).setCell ⟨w.heap.size + 1, 0, none⟩ (.bool false)).heap.size = (W.drewN nq).heap.size := by simp
            refine ⟨⟨by rw [hsz]; exact (HBD.out nq).size, fun k o hk h _ => (hot k (by omega)).trans (((HBD.out nq).block k (Array.getElem?_eq_some_iff.1 h).1).trans h)⟩, ?_, ?_, ?_⟩
            · exact setCell_cells (W.drewN nq) _ 0 [.bool false] _ _ (((HBD.out nq).block _ (Array.getElem?_eq_some_iff.1 H13.out).1).trans H13.out)
            · exact (HB3.out.trans ((HBD.out nq).mono HB3.out.size)).setCell (p := ⟨w.heap.size + 1, 0, none⟩) (Nat.le_succ _) _
            · rw [HOB.out, List.all_eq_false.2 ⟨x.1, HMEM.out, by rw [HIN.out]; simp⟩, Bool.and_false]
        case done =>
          rintro D xs W hD hS ⟨h3, h1, hB, hA⟩ hK
          have H13 := Lib.hid h1
          have HB3 := Lib.hid hB
          have HKK := Lib.hid hK
          have HDD := Lib.hid hD
          have e : ob = true := by
            rw [HOB.out, HPB.out, Bool.true_and, List.all_eq_true]
            intro y hy
            rw [← hS] at hy
            obtain ⟨x, hx, rfl⟩ := List.mem_map.1 hy
            exact hA x hx
          subst e
          have c1 : W.cell? ⟨w.heap.size + 1, 0, none⟩ = some (.bool false) := cell_of_row W _ 0 _ _ _ h1
          have fr1 : W.frozen? ⟨w.heap.size + 1, 0, none⟩ = false := by simp [World.frozen?, h1]
          clear h3 h1 hB hA hK hD hS
          have HC1 := Lib.hid c1
          go_wp2_with fail
          have hKf : (W.setCell ⟨w.heap.size + 1, 0, none⟩ (.bool true)).heap[D]? = some (.deferred (some [])) := (show (W.setCell ⟨w.heap.size + 1, 0, none⟩ (.bool true)).heap[D]? = W.heap[D]? from heap_setCell_other _ _ _ _ (by have := HDD.out; simp only []; omega)).trans HKK.out
          refine ⟨by simp, .inl ⟨_, _, rfl, run_takeDeferred hKf, ?_⟩⟩
          refine ⟨_, results_c rfl _ _ (w.heap.size + 1) (.bool true) rfl (load_bool _ _ _ ((World.cell?_of_block (a := ⟨w.heap.size + 1, 0, none⟩) (World.putObj_heap_other (by have := HDD.out; simp only []; omega))).trans (World.cell?_setCell_same' _ _ _ (by rw [HC1.out]; rfl)))), rfl, ?_⟩
          exact (HB3.out.setCell (p := ⟨w.heap.size + 1, 0, none⟩) (Nat.le_succ _) _).trans (belowK_b (w := w) (Nat.le_refl _) _ D _ _ (by have := HDD.out; omega) hKf rfl rfl)
        case stop =>
          rintro D pre W hD ⟨h1, hB, he⟩ hK
          subst he
          have c1 : W.cell? ⟨w.heap.size + 1, 0, none⟩ = some (.bool false) := cell_of_row W _ 0 _ _ _ h1
          gi_wp2_with fail
          refine ⟨by simp, .inl ⟨_, _, rfl, run_takeDeferred hK, ?_⟩⟩
          refine ⟨_, results_c rfl _ _ (w.heap.size + 1) (.bool false) rfl (load_bool _ _ _ ((World.cell?_of_block (a := ⟨w.heap.size + 1, 0, none⟩) (World.putObj_heap_other (by simp only []; omega))).trans c1)), rfl, ?_⟩
          exact hB.trans (belowK_b (w := w) (Nat.le_refl _) _ D _ _ (by omega) hK rfl rfl)
  · have hln : ((os.length : Int) != (s.ws.length : Int)) = true := by rw [bne_iff_ne]; omega
    have e : ob = false := by rw [HOB.out, show permB s.ws.length os = false by unfold permB; rw [decide_eq_false hl]; rfl]; rfl
    subst e
    clear hl
    go_wp2_with fail
    exact leaves_ret (results_c rfl _ _ (w.heap.size + 1) (.bool false) rfl (load_bool _ _ _ (cell_of_row _ _ 0 _ _ _ (heap_alloc2_new _ _ _)))) rfl ⟨rfl, (below_alloc _ _).alloc (by simp) _⟩
end Go.Proofs.Ytenfeekchggioaa
