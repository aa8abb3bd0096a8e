/- Chains: the search walked. -/
import Derived.Test.YtenfeekchggioaaOB
import Derived.WalkMore
namespace Go.Proofs.Ytenfeekchggioaa
open Go.RowKit Go.Shelf Go.Lib
set_option linter.unusedSimpArgs false
attribute [local irreducible] wpQuiet
theorem setAt_zero (w : World) (P : Nat) (T : TypeId) (h : w.heap[P]? = some (.cells #[.int .u64 0, .int .u64 0, .int .u64 0, .int .u64 0, .int .u64 0, .int .u64 0, .int .u64 0] T (0, 0))) : SetAt w P 0 (fun _ => false) := fun k hk => by
  refine ⟨0, by decide, ?_, by simp [World.frozen?, h], fun j _ => Nat.zero_testBit j⟩
  rw [cell_of_row _ _ _ _ _ _ h]
  have : k = 0 ∨ k = 1 ∨ k = 2 ∨ k = 3 ∨ k = 4 ∨ k = 5 ∨ k = 6 := by omega
  rcases this with rfl | rfl | rfl | rfl | rfl | rfl | rfl <;> rfl
def chainE (s : Sh) (a b : Int) : Int := if chkS s ≠ 0 then chkS s else if (0 ≤ a ∧ a < (s.ws.length : Int)) ∧ (0 ≤ b ∧ b < (s.ws.length : Int)) then 0 else 2
def chainV (s : Sh) (a b : Int) : List Int := if chainE s a b = 0 then chainL s.ws a.toNat b.toNat else []
theorem own_keep {w w' : World} {B k n : Nat} {e : TypeId} {v : Value} {xs : List Value} (h : w.ownsRow B e k v n xs) (hk : ∀ j : Nat, B ≤ j → w'.heap[j]? = w.heap[j]?) : w'.ownsRow B e k v n xs := by
  obtain ⟨hl, hh⟩ := h
  refine ⟨hl, ?_⟩
  rcases hh with h0 | ⟨g2, cap, cur, e, hB, hg2, h1⟩
  · exact .inl h0
  · exact .inr ⟨g2, cap, cur, e, hB, (hk _ hB).trans hg2, h1⟩
def metS (m : Nat) (ps : List (List Nat)) (j : Nat) : Bool := (heads ps).contains j && !decide (j = m)
structure CH (w3 wr : World) (m : Nat) (vo : Value) (bk : Nat → Nat) (ps : List (List Nat)) : Prop where
  met : SetAt wr w3.heap.size 0 (metS m ps)
  row : wr.heap[w3.heap.size + 1]? = some (.cells (bkC bk).toArray 88 (0, 0))
  own : wr.ownsRow (w3.heap.size + 2) 3 1 vo ps.length (((heads ps).map fun (i : Nat) => (i : Int)).map (Value.int .i64))
  low : Below w3.heap.size w3 wr
  big : w3.heap.size + 2 ≤ wr.heap.size
theorem CH.below {w3 wr w' : World} {m : Nat} {vo : Value} {bk : Nat → Nat} {ps : List (List Nat)} (h : CH w3 wr m vo bk ps) (hb : Below wr.heap.size wr w') : CH w3 w' m vo bk ps :=
  ⟨h.met.below (by have := h.big; omega) hb, (hb.block _ (by have := h.big; omega)).trans h.row, own_below h.own hb, h.low.trans (hb.mono (by have := h.big; omega)), by have := hb.size; have := h.big; omega⟩
theorem metS_push (m x : Nat) (ps : List (List Nat)) (r : List Nat) (h : x ≠ m) : (fun j => decide (j = x) || metS m ps j) = metS m (ps ++ [x :: r]) := by
  funext j
  unfold metS heads
  rw [List.map_append, List.contains_eq_mem, List.contains_eq_mem]
  by_cases e : j = x
  · subst e
    simp [hdN, h]
  · have : decide (j ∈ ps.map hdN ++ [x :: r].map hdN) = decide (j ∈ ps.map hdN) := decide_eq_decide.2 (by simp [hdN, e])
    simp [e, this, hdN]
set_option maxRecDepth 100000 in
set_option maxHeartbeats 16000000 in
theorem chain_any (s : Sh) (v : Value) (a b : Int) (w : World) (hv : SV w v s) :
    Calls Try.prog 47 #[v, .int .i64 a, .int .i64 b] w fun e w' => ∃ u, e = .returned (.tuple #[u, .int .i64 (chainE s a b)]) ∧ IS w' u (chainV s a b) ∧ Below w.heap.size w w' := by
  have HV := Lib.hid hv
  obtain ⟨u, rfl, hu⟩ := hv
  obtain ⟨ua, uc, rfl, k1, k2, hU⟩ := id hu
  have HU := Lib.hid hU
  have CK := Lib.hid (fun W h => check_any s (.agg #[.int .i64 s.pr, .slice ua s.ws.length uc]) W h)
  have HDE := Lib.hid (show chainE s a b = if chkS s ≠ 0 then chkS s else if (0 ≤ a ∧ a < (s.ws.length : Int)) ∧ (0 ≤ b ∧ b < (s.ws.length : Int)) then 0 else 2 from rfl)
  have HDV := Lib.hid (show chainV s a b = if chainE s a b = 0 then chainL s.ws a.toNat b.toNat else [] from rfl)
  have HSM0 := Lib.hid (@chk_small s)
  have HFT0 := Lib.hid (@chk_fits s)
  generalize chainV s a b = cv at *
  generalize chainE s a b = ce at *
  generalize chkS s = z at *
  clear hU hu
  go_enter Try.func47, Try.ntmps47
  go_wp2_with fail
  have h0 := heap_alloc_new w (.cells #[.int .i64 s.pr, .slice ua s.ws.length uc] 24)
  have B0 := below_alloc w (.cells #[.int .i64 s.pr, .slice ua s.ws.length uc] 24)
  have z0 : (w.alloc (.cells #[.int .i64 s.pr, .slice ua s.ws.length uc] 24)).heap.size = w.heap.size + 1 := by simp
  generalize w.alloc (.cells #[.int .i64 s.pr, .slice ua s.ws.length uc] 24) = W0 at *
  have g0 : W0.cell? ⟨w.heap.size, 0, none⟩ = some (.int .i64 s.pr) := cell_of_row W0 _ 0 _ _ _ h0
  have g1 : W0.cell? ⟨w.heap.size, 1, none⟩ = some (.slice ua s.ws.length uc) := cell_of_row W0 _ 1 _ _ _ h0
  go_step3
  go_wp2_with fail
  clear g0 g1
  refine (CK.out W0 (HV.out.below B0)).mono ?_
  rintro e w1 ⟨rfl, b1⟩
  have H0 := Lib.hid ((b1.block _ (by omega)).trans h0)
  have HB1 := Lib.hid (bon B0 b1)
  have HZ1 := Lib.hid (show w.heap.size + 1 ≤ w1.heap.size by have := b1.size; omega)
  clear h0 B0 z0 b1 CK
  have g0 : w1.cell? ⟨w.heap.size, 0, none⟩ = some (.int .i64 s.pr) := cell_of_row w1 _ 0 _ _ _ H0.out
  have g1 : w1.cell? ⟨w.heap.size, 1, none⟩ = some (.slice ua s.ws.length uc) := cell_of_row w1 _ 1 _ _ _ H0.out
  have CA := Lib.hid (fun W => isWork_any s.pr a ua s.ws.length uc W)
  have CB := Lib.hid (fun W => isWork_any s.pr b ua s.ws.length uc W)
  by_cases q : z = 0
  · subst q
    obtain ⟨s1, s2, hsm⟩ := HSM0.out rfl
    have HSM := Lib.hid hsm
    have HFT := Lib.hid (HFT0.out rfl)
    clear hsm HSM0 HFT0
    by_cases ha : 0 ≤ a ∧ a < (s.ws.length : Int)
    · rw [decide_eq_true ha] at CA
      by_cases hb : 0 ≤ b ∧ b < (s.ws.length : Int)
      · rw [decide_eq_true hb] at CB
        have he : ce = 0 := by rw [HDE.out, if_neg (by simp), if_pos ⟨ha, hb⟩]
        subst he
        obtain ⟨m, rfl⟩ : ∃ m : Nat, a = (m : Int) := ⟨a.toNat, by omega⟩
        obtain ⟨n, rfl⟩ : ∃ n : Nat, b = (n : Int) := ⟨b.toNat, by omega⟩
        have hcv : cv = chainL s.ws m n := by rw [HDV.out, if_pos rfl]; rfl
        subst hcv
        obtain ⟨pr, ws⟩ := s
        simp only at *
        have hm4 : m < ws.length := by omega
        have hn4 : n < ws.length := by omega
        have hw4 : ws.length ≤ 400 := HSM.out.1
        clear HDE HDV ha hb
        go_wp2_with fail
        refine (CA.out _).mono ?_
        rintro e w2 ⟨rfl, b2⟩
        have HB2 := Lib.hid (bon HB1.out b2)
        have H2 := Lib.hid ((b2.block _ (by have := HZ1.out; omega)).trans H0.out)
        have HZ2 := Lib.hid (show w.heap.size + 1 ≤ w2.heap.size by have := b2.size; have := HZ1.out; omega)
        clear b2 g0 g1
        have g0 : w2.cell? ⟨w.heap.size, 0, none⟩ = some (.int .i64 pr) := cell_of_row w2 _ 0 _ _ _ H2.out
        have g1 : w2.cell? ⟨w.heap.size, 1, none⟩ = some (.slice ua ws.length uc) := cell_of_row w2 _ 1 _ _ _ H2.out
        go_wp2_with fail
        refine (CB.out _).mono ?_
        rintro e w3 ⟨rfl, b3⟩
        have HB3 := Lib.hid (bon HB2.out b3)
        have H3 := Lib.hid ((b3.block _ (by have := HZ2.out; omega)).trans H2.out)
        have HZ3 := Lib.hid (show w.heap.size + 1 ≤ w3.heap.size by have := b3.size; have := HZ2.out; omega)
        clear b3 g0 g1 HB1 HB2 H0 H2 HZ1 HZ2 CA CB
        go_upto_block 0 with (refine alloc_big rfl 88 rfl (bkC fun _ => 0).toArray run_alloc400 ?_)
        have e1 := heap3_0 w3 (.cells #[.int .u64 0, .int .u64 0, .int .u64 0, .int .u64 0, .int .u64 0, .int .u64 0, .int .u64 0] 68) (.cells (bkC fun _ => 0).toArray 88) (.cells #[.int .i64 (m : Int)] 3)
        have e2 := heap3_1 w3 (.cells #[.int .u64 0, .int .u64 0, .int .u64 0, .int .u64 0, .int .u64 0, .int .u64 0, .int .u64 0] 68) (.cells (bkC fun _ => 0).toArray 88) (.cells #[.int .i64 (m : Int)] 3)
        have e3 := World.ownsRow_lit (base := w3.heap.size + 2) ((w3.alloc (.cells #[.int .u64 0, .int .u64 0, .int .u64 0, .int .u64 0, .int .u64 0, .int .u64 0, .int .u64 0] 68)).alloc (.cells (bkC fun _ => 0).toArray 88)) #[.int .i64 (m : Int)] 1 (e := 3) (size := 1) (by simp) (by unfold maxLen; omega) rfl
        have e4 := below3 w3 (.cells #[.int .u64 0, .int .u64 0, .int .u64 0, .int .u64 0, .int .u64 0, .int .u64 0, .int .u64 0] 68) (.cells (bkC fun _ => 0).toArray 88) (.cells #[.int .i64 (m : Int)] 3)
        have e5 : (((w3.alloc (.cells #[.int .u64 0, .int .u64 0, .int .u64 0, .int .u64 0, .int .u64 0, .int .u64 0, .int .u64 0] 68)).alloc (.cells (bkC fun _ => 0).toArray 88)).alloc (.cells #[.int .i64 (m : Int)] 3)).heap.size = w3.heap.size + 3 := by simp
        have e6 : ((w3.alloc (.cells #[.int .u64 0, .int .u64 0, .int .u64 0, .int .u64 0, .int .u64 0, .int .u64 0, .int .u64 0] 68)).alloc (.cells (bkC fun _ => 0).toArray 88)).heap.size = w3.heap.size + 2 := by simp
        rw [e6] at e3
        generalize (((w3.alloc (.cells #[.int .u64 0, .int .u64 0, .int .u64 0, .int .u64 0, .int .u64 0, .int .u64 0, .int .u64 0] 68)).alloc (.cells (bkC fun _ => 0).toArray 88)).alloc (.cells #[.int .i64 (m : Int)] 3)) = w4 at *
        have hS0 : metS m [[m]] = fun _ => false := by funext j; unfold metS heads; simp [hdN]
        have hch : CH w3 w4 m (.slice (some ⟨w3.heap.size + 1 + 1, 0, none⟩) 1 1) (fun _ => 0) [[m]] := ⟨by rw [hS0]; exact setAt_zero _ _ _ e1, e2, e3, e4, by omega⟩
        have HCH := Lib.hid hch
        have H4 := Lib.hid (fun (W : World) (h : Below w3.heap.size w3 W) => (h.block _ (show w.heap.size < w3.heap.size by have := HZ3.out; omega)).trans H3.out)
        have HR0 := Lib.hid (show chainL ws m n = ((bfs ws n (ws.length + 1 - 0) 0 [[m]]).getD []).reverse.map fun (i : Nat) => (i : Int) from rfl)
        obtain ⟨R, hRR⟩ : ∃ R, R = bfs ws n (ws.length + 1 - 0) 0 [[m]] := ⟨_, rfl⟩
        rw [← hRR] at HR0
        have HRR := Lib.hid hRR.symm
        clear hRR
        clear e1 e2 e3 e4 e5 e6 hS0 hch
        go_step3
        go_wp2_with fail

        go_loopw [11, 12] (fun vo i wr => ∃ (k : Nat) (bk : Nat → Nat) (ps : List (List Nat)), i = .int .i64 (k : Int) ∧ k ≤ ps.length ∧ Inv m n bk ps ∧ CH w3 wr m vo bk ps ∧ bfs ws n (ws.length + 1 - k) k ps = R) (fun _ i _ => 500 - (intOf i).toNat)
        case atStart => exact ⟨0, fun _ => 0, [[m]], rfl, Nat.zero_le _, Inv.start m n _ (by omega), HCH.out, HRR.out⟩
        case round =>
          obtain ⟨k, bk, ps, rfl, hk, hI, hC, hR⟩ := hrel
          have HI := Lib.hid hI
          have HC := Lib.hid hC
          have HR := Lib.hid hR
          clear HCH HRR hR
          have hpl := hI.len (n := ws.length) hm4 hn4
          by_cases hkl : k < ps.length
          · obtain ⟨r, hr⟩ : ∃ r, ps[k]? = some r := ⟨_, List.getElem?_eq_getElem hkl⟩
            have hrm := List.mem_of_getElem? hr
            obtain ⟨g, cap, hv⟩ := own_pos hC.own (by omega)
            subst hv
            have hl4 : hdN r < ws.length := by rcases (hI.tr r hrm).2 with e | e <;> omega
            have hml : m ≤ hdN r := by obtain ⟨t, ht⟩ := Tr.cons (hI.tr r hrm).1; have h1 := (hI.tr r hrm).1; rw [ht] at h1; exact (Tr.ge h1).1
            have HRB := Lib.hid (bfs_step ws n (ws.length - k) k ps r hr)
            have HRK := Lib.hid (show contB ws n (ws.length - k) k (scan ws n r (n - hdN r) (hdN r + 1) ps) = R by rw [← HRB.out, show ws.length - k + 1 = ws.length + 1 - k by omega]; exact HR.out)
            have ck : wr.cell? ⟨g, k, none⟩ = some (.int .i64 (hdN r : Int)) := by
              rw [hC.own.cellAt k (by omega), List.getElem?_map, List.getElem?_map, heads, List.getElem?_map, hr]
              rfl
            have HPR := Lib.hid hr
            obtain ⟨l, hl⟩ : ∃ l, l = hdN r := ⟨_, rfl⟩
            rw [← hl] at ck hl4 hml
            have HHL := Lib.hid hl.symm
            have k0 : (0 : Int) ≤ (k : Int) := by omega
            have k1 : (k : Int) < (ps.length : Int) := by omega
            have qw : IntKind.i64.wrap ((l : Int) + 1) = ((l + 1 : Nat) : Int) := (IntWalk.i64_in _ (by omega)).trans (by omega)
            have HKL := Lib.hid hkl
            clear hI hC hr hrm HRB hl hkl
            go_wp2_with fail
            go_loopw [11, 14] (fun vo i wr => ∃ (x : Nat) (bk : Nat → Nat) (ps : List (List Nat)), i = .int .i64 (x : Int) ∧ l < x ∧ x ≤ 500 ∧ ps[k]? = some r ∧ Inv m n bk ps ∧ CH w3 wr m vo bk ps ∧ contB ws n (ws.length - k) k (scan ws n r (n + 1 - x) x ps) = R) (fun _ i _ => 600 - (intOf i).toNat)
            case atStart => exact ⟨l + 1, bk, ps, rfl, Nat.lt_succ_self _, by omega, HPR.out, HI.out, HC.out, by rw [← HHL.out, show n + 1 - (hdN r + 1) = n - hdN r by omega]; exact HRK.out⟩
            case round =>
              clear HI HC HR HRK HPR ck hpl
              obtain ⟨x, bk, ps, rfl, hlx, hx5, hpr, hI, hC, hR⟩ := hrel
              rename World => wj
              obtain ⟨a9, c9, hv9⟩ := own_form hC.own
              subst hv9
              have HI := Lib.hid hI
              have HC := Lib.hid hC
              have HR := Lib.hid hR
              have HPR := Lib.hid hpr
              have hpl := hI.len (n := ws.length) hm4 hn4
              have hkp := (List.getElem?_eq_some_iff.1 hpr).1
              by_cases hx : x ≤ n
              · have hxi : (x : Int) ≤ (n : Int) := by omega
                have hsc := hR
                rw [show n + 1 - x = (n - x) + 1 by omega, scan, HHL.out] at hsc
                have hxm : ¬ x = m := by omega
                have HHAS := Lib.hid (has_any w3.heap.size 0 (metS m ps) x (by omega))
                have hhx := (H4.out wj hC.low)
                have g1 : wj.cell? ⟨w.heap.size, 1, none⟩ = some (.slice ua ws.length uc) := cell_of_row wj _ 1 _ _ _ hhx
                have hz1 := HZ3.out
                have hz2 := hC.big
                obtain ⟨y1, hy1⟩ : ∃ y1, ws[l]? = some y1 := ⟨_, List.getElem?_eq_getElem hl4⟩
                obtain ⟨y2, hy2⟩ : ∃ y2, ws[x]? = some y2 := ⟨_, List.getElem?_eq_getElem (by omega)⟩
                have hp1 := HSM.out.2 y1 (List.mem_of_getElem? hy1)
                have hp2 := HSM.out.2 y2 (List.mem_of_getElem? hy2)
                have htc : tchN ws l x = touchP y1 y2 := by unfold tchN wkN; rw [hy1, hy2]; rfl
                obtain ⟨b1, off1, rfl, hb1, hr1, _⟩ := HU.out l y1 hy1
                obtain ⟨b1', off1', e', _, hr2, _⟩ := HU.out x y2 hy2
                cases e'
                have HBW := Lib.hid (HB3.out.trans (hC.low.mono (by omega)))
                have RGy1 := Lib.hid (show wj.rangeAt b1 (off1 + l * 3) [.int .i64 y1.kd, .int .i64 y1.pl, .string y1.wd] from fun j v hj => (HBW.out.cell (p := ⟨b1, off1 + l * 3 + j, none⟩) hb1).trans (hr1 j v hj))
                have RGy2 := Lib.hid (show wj.rangeAt b1 (off1 + x * 3) [.int .i64 y2.kd, .int .i64 y2.pl, .string y2.wd] from fun j v hj => (HBW.out.cell (p := ⟨b1, off1 + x * 3 + j, none⟩) hb1).trans (hr2 j v hj))
                have CT := Lib.hid (fun W => touch_any y1 y2 W hp1 hp2)
                have i0 : (0 : Int) ≤ (l : Int) := by omega
                have i1 : (l : Int) < (ws.length : Int) := by omega
                have i2 : (0 : Int) ≤ (x : Int) := by omega
                have i3 : (x : Int) < (ws.length : Int) := by omega
                have HXM := Lib.hid hxm
                clear hI hR hpr hhx hy1 hy2 hp1 hp2 hr1 hr2 hxm
                by_cases hc : (heads ps).contains x = true
                · have CHAS := Lib.hid (show ∀ W, Below wj.heap.size wj W → _ from fun W hW => HHAS.out W ((hC.below hW).met))
                  rw [show metS m ps x = true by unfold metS; rw [hc]; simpa using HXM.out] at CHAS
                  rw [hc, Bool.true_or, if_pos rfl] at hsc
                  have HSC := Lib.hid hsc
                  clear hsc hc hC htc
                  go_wp2_with fail
                  refine wp_region_class (fun w' => Below wj.heap.size wj w') 15 (by kernel_rfl) (by kernel_rfl) (Below.refl _ wj).drew ?_
                  simp only [List.take_succ_cons, List.take_zero, List.drop_succ_cons, List.drop_zero]
                  refine quiet_moveV rfl _ rfl (.int .i64 (x : Int)) rfl ?_
                  simp only [Act.put, List.setIfInBounds_toArray, List.set_cons_zero, List.set_cons_succ]
                  refine quiet_call rfl 45 _ _ rfl (enter_of Try.func45 (by decide) (by intro h; cases h)) _ (fun W h => (CHAS.out W h).mono fun e w' ⟨he, hw⟩ => ⟨he, hw ▸ h⟩) ?_
                  simp only [Act.put, List.setIfInBounds_toArray, List.set_cons_zero, List.set_cons_succ]
                  refine quiet_moveV rfl _ rfl (.bool true) rfl ?_
                  simp only [Act.put, List.setIfInBounds_toArray, List.set_cons_zero, List.set_cons_succ]
                  refine quiet_skip (by kernel_rfl) ?_
                  simp only [Act.put, List.setIfInBounds_toArray, List.set_cons_zero, List.set_cons_succ]
                  refine quiet_skip (by kernel_rfl) ?_
                  simp only [Act.put, List.setIfInBounds_toArray, List.set_cons_zero, List.set_cons_succ]
                  refine quiet_skip (by kernel_rfl) ?_
                  simp only [Act.put, List.setIfInBounds_toArray, List.set_cons_zero, List.set_cons_succ]
                  refine quiet_skip (by kernel_rfl) ?_
                  simp only [Act.put, List.setIfInBounds_toArray, List.set_cons_zero, List.set_cons_succ]
                  refine quiet_skip (by kernel_rfl) ?_
                  simp only [Act.put, List.setIfInBounds_toArray, List.set_cons_zero, List.set_cons_succ]
                  refine quiet_skip (by kernel_rfl) ?_
                  simp only [Act.put, List.setIfInBounds_toArray, List.set_cons_zero, List.set_cons_succ]
                  refine quiet_skip (by kernel_rfl) ?_
                  simp only [Act.put, List.setIfInBounds_toArray, List.set_cons_zero, List.set_cons_succ]
                  refine quiet_skip (by kernel_rfl) ?_
                  simp only [Act.put, List.setIfInBounds_toArray, List.set_cons_zero, List.set_cons_succ]
                  refine quiet_skip (by kernel_rfl) ?_
                  simp only [Act.put, List.setIfInBounds_toArray, List.set_cons_zero, List.set_cons_succ]
                  refine quiet_skip (by kernel_rfl) ?_
                  simp only [Act.put, List.setIfInBounds_toArray, List.set_cons_zero, List.set_cons_succ]
                  refine quiet_skip (by kernel_rfl) ?_
                  simp only [Act.put, List.setIfInBounds_toArray, List.set_cons_zero, List.set_cons_succ]
                  refine quiet_skip (by kernel_rfl) ?_
                  simp only [Act.put, List.setIfInBounds_toArray, List.set_cons_zero, List.set_cons_succ]
                  unfold wpQuiet
                  intro wq hb
                  have HCQ := Lib.hid (HC.out.below hb)
                  clear hb
                  go_wp2_with fail
                  go_roundw
                  case rel => exact ⟨x + 1, bk, ps, by go_num, by omega, by omega, HPR.out, HI.out, HCQ.out, by rw [show n + 1 - (x + 1) = n - x by omega]; exact HSC.out⟩
                  case measure => (simp [intOf] <;> omega)
                · have hc' : (heads ps).contains x = false := by simpa using hc
                  have CHAS := Lib.hid (show ∀ W, Below wj.heap.size wj W → _ from fun W hW => HHAS.out W ((hC.below hW).met))
                  rw [show metS m ps x = false by unfold metS; rw [hc']; rfl] at CHAS
                  have HNC := Lib.hid (show x ∉ heads ps from fun h => hc (by simpa using h))
                  rw [hc', Bool.false_or, htc] at hsc
                  by_cases ht : touchP y1 y2 = true
                  · rw [ht] at CT hsc
                    rw [Bool.not_true, if_neg (by decide)] at hsc
                    have HSC := Lib.hid hsc
                    clear hsc hc hc' hC htc ht
                    go_wp2_with fail
                    refine wp_region_class (fun w' => Below wj.heap.size wj w') 15 (by kernel_rfl) (by kernel_rfl) (Below.refl _ wj).drew ?_
                    simp only [List.take_succ_cons, List.take_zero, List.drop_succ_cons, List.drop_zero]
                    refine quiet_moveV rfl _ rfl (.int .i64 (x : Int)) rfl ?_
                    simp only [Act.put, List.setIfInBounds_toArray, List.set_cons_zero, List.set_cons_succ]
                    refine quiet_call rfl 45 _ _ rfl (enter_of Try.func45 (by decide) (by intro h; cases h)) _ (fun W h => (CHAS.out W h).mono fun e w' ⟨he, hw⟩ => ⟨he, hw ▸ h⟩) ?_
                    simp only [Act.put, List.setIfInBounds_toArray, List.set_cons_zero, List.set_cons_succ]
                    refine quiet_moveV rfl _ rfl (.bool false) rfl ?_
                    simp only [Act.put, List.setIfInBounds_toArray, List.set_cons_zero, List.set_cons_succ]
                    refine quietW_still (by kernel_rfl) (.pointer (some ⟨w.heap.size, 1, none⟩)) (fun w _ => by go_simp) ?_
                    simp only [Act.put, List.setIfInBounds_toArray, List.set_cons_zero, List.set_cons_succ]
                    refine quietW_load1 (by kernel_rfl) _ _ rfl ⟨w.heap.size, 1, none⟩ rfl (.slice (some ⟨b1, off1, none⟩) ws.length uc) (load_ws _ _) (fun _ h => (h.cell (p := ⟨w.heap.size, 1, none⟩) (show w.heap.size < wj.heap.size by omega)).trans g1) ?_
                    simp only [Act.put, List.setIfInBounds_toArray, List.set_cons_zero, List.set_cons_succ]
                    refine quietW_moveV (by kernel_rfl) _ rfl (.int .i64 (l : Int)) rfl ?_
                    simp only [Act.put, List.setIfInBounds_toArray, List.set_cons_zero, List.set_cons_succ]
                    refine quietW_still (by kernel_rfl) (.pointer (some ⟨b1, off1 + l * 3, none⟩)) (fun w _ => by go_simp) ?_
                    simp only [Act.put, List.setIfInBounds_toArray, List.set_cons_zero, List.set_cons_succ]
                    refine quietW_load_mid (by kernel_rfl) _ _ rfl b1 (off1 + l * 3) rfl [.int .i64 y1.kd, .int .i64 y1.pl, .string y1.wd] _ (fun W h => range_below3 RGy1.out (show b1 < wj.heap.size by omega) h) Try.underlying48 rfl (by kernel_rfl) ?_
                    simp only [Act.put, List.setIfInBounds_toArray, List.set_cons_zero, List.set_cons_succ]
                    refine quietW_still (by kernel_rfl) (.pointer (some ⟨w.heap.size, 1, none⟩)) (fun w _ => by go_simp) ?_
                    simp only [Act.put, List.setIfInBounds_toArray, List.set_cons_zero, List.set_cons_succ]
                    refine quietW_load1 (by kernel_rfl) _ _ rfl ⟨w.heap.size, 1, none⟩ rfl (.slice (some ⟨b1, off1, none⟩) ws.length uc) (load_ws _ _) (fun _ h => (h.cell (p := ⟨w.heap.size, 1, none⟩) (show w.heap.size < wj.heap.size by omega)).trans g1) ?_
                    simp only [Act.put, List.setIfInBounds_toArray, List.set_cons_zero, List.set_cons_succ]
                    refine quietW_moveV (by kernel_rfl) _ rfl (.int .i64 (x : Int)) rfl ?_
                    simp only [Act.put, List.setIfInBounds_toArray, List.set_cons_zero, List.set_cons_succ]
                    refine quietW_still (by kernel_rfl) (.pointer (some ⟨b1, off1 + x * 3, none⟩)) (fun w _ => by go_simp) ?_
                    simp only [Act.put, List.setIfInBounds_toArray, List.set_cons_zero, List.set_cons_succ]
                    refine quietW_load_mid (by kernel_rfl) _ _ rfl b1 (off1 + x * 3) rfl [.int .i64 y2.kd, .int .i64 y2.pl, .string y2.wd] _ (fun W h => range_below3 RGy2.out (show b1 < wj.heap.size by omega) h) Try.underlying48 rfl (by kernel_rfl) ?_
                    simp only [Act.put, List.setIfInBounds_toArray, List.set_cons_zero, List.set_cons_succ]
                    refine quietW_call (by kernel_rfl) 62 _ _ rfl (enter_of Try.func62 (by decide) (by intro h; cases h)) _ (fun W h => (CT.out W).mono fun e w' ⟨he, hw⟩ => ⟨he, h.trans (hw.mono h.size)⟩) ?_
                    simp only [Act.put, List.setIfInBounds_toArray, List.set_cons_zero, List.set_cons_succ]
                    refine quietW_still (by kernel_rfl) (.bool false) (fun w _ => by go_simp) ?_
                    simp only [Act.put, List.setIfInBounds_toArray, List.set_cons_zero, List.set_cons_succ]
                    unfold wpQuiet
                    intro wq hb
                    have HCQ := Lib.hid (HC.out.below hb)
                    clear hb
                    go_wp2_with fail
                    refine (add_any w3.heap.size 0 (metS m ps) x (by omega) _ HCQ.out.met).mono ?_
                    rintro e w6 ⟨⟨u3, rfl⟩, hS, v3, hw6⟩
                    rw [metS_push m x ps r HXM.out] at hS
                    have hoth : ∀ j : Nat, ¬ j = w3.heap.size → w6.heap[j]? = wq.heap[j]? := fun j hj => by rw [hw6]; exact heap_setCell_other _ _ _ _ hj
                    have hlow : Below w3.heap.size w3 w6 := by rw [hw6]; exact (HCQ.out.low.setCell (p := ⟨w3.heap.size, _, none⟩) (Nat.le_refl _) _).drew
                    have hz6 : w6.heap.size = wq.heap.size := by rw [hw6]; simp
                    have hrow := (hoth (w3.heap.size + 1) (by omega)).trans HCQ.out.row
                    have hown := own_keep HCQ.out.own (fun j hj => hoth j (by omega))
                    have HS6 := Lib.hid hS
                    have HL6 := Lib.hid hlow
                    have HW6 := Lib.hid hown
                    have HB6 := Lib.hid (show w3.heap.size + 2 ≤ w6.heap.size by rw [hz6]; exact HCQ.out.big)
                    have c6 : w6.cell? ⟨w3.heap.size + 1, x, none⟩ = some (.int .i64 (bk x : Int)) := by rw [cell_of_row w6 _ x _ _ _ hrow, List.getElem?_toArray, bkC_get _ (by omega)]
                    have f6 : w6.frozen? ⟨w3.heap.size + 1, x, none⟩ = false := by simp [World.frozen?, hrow]
                    have x400 : (x : Int) < 400 := by omega
                    have hrow7 : (w6.setCell ⟨w3.heap.size + 1, x, none⟩ (.int .i64 (l : Int))).heap[w3.heap.size + 1]? = some (.cells (bkC (upB bk x l)).toArray 88 (0, 0)) := by rw [← bkC_set]; exact setCell_cells w6 _ x _ _ _ hrow
                    have hot7 : ∀ j : Nat, ¬ j = w3.heap.size + 1 → (w6.setCell ⟨w3.heap.size + 1, x, none⟩ (.int .i64 (l : Int))).heap[j]? = w6.heap[j]? := fun j hj => heap_setCell_other _ _ _ _ hj
                    have HR7 := Lib.hid hrow7
                    have HS7 := Lib.hid (hS.same (fun k _ => cell_of_heap (hot7 _ (by omega)) _))
                    have HO7 := Lib.hid (own_keep hown (fun j hj => hot7 j (by omega)))
                    have HL7 := Lib.hid (hlow.setCell (p := ⟨w3.heap.size + 1, x, none⟩) (Nat.le_succ _) (.int .i64 (l : Int)))
                    have HB7 := Lib.hid (show w3.heap.size + 2 ≤ (w6.setCell ⟨w3.heap.size + 1, x, none⟩ (.int .i64 (l : Int))).heap.size by simpa using HB6.out)
                    clear hS hoth hlow hz6 hrow hown hrow7 hot7 hw6 g1
                    by_cases hxn : x = n
                    · have hxe : ((x : Int) == (n : Int)) = true := by rw [beq_iff_eq]; omega
                      have HXN := Lib.hid hxn
                      clear hxn
                      rw [if_pos HXN.out] at HSC
                      have HRS := Lib.hid (show R = some (n :: r) from HSC.out.symm)
                      have HMN := Lib.hid (show metS m (ps ++ [x :: r]) n = true by rw [← metS_push m x ps r HXM.out]; simp [HXN.out])
                      have HTR := Lib.hid (show Tr (upB bk x l) m (n :: r) by
                        have h := tr_new (x := x) HI.out (List.mem_of_getElem? HPR.out) HNC.out (by rw [HHL.out]; exact hlx) (by omega)
                        rw [HHL.out, HXN.out] at h
                        rw [HXN.out]
                        exact h)
                      go_wp2_with fail
                      generalize w6.setCell ⟨w3.heap.size + 1, x, none⟩ (.int .i64 (l : Int)) = w7 at *
                      have CN := Lib.hid (has_any w3.heap.size 0 (metS m (ps ++ [x :: r])) n (by omega) w7 HS7.out)
                      rw [HMN.out] at CN
                      refine CN.out.mono ?_
                      rintro e w8 ⟨rfl, hw⟩
                      obtain rfl := hw.symm
                      clear hw
                      go_wp2_with (refine wpList_load_row rfl 88 (.tmp 10) rfl (w3.heap.size + 1) rfl 88 (bkC (upB bk x l)).toArray (0, 0) _ HR7.out Try.underlying88 rfl (info400 _) ?_)
                      refine (path_any (upB bk x l) m n r HTR.out _).mono ?_
                      rintro e w9 ⟨v9, rfl, hv9, hb9⟩
                      have HV9 := Lib.hid hv9
                      have HB9 := Lib.hid hb9
                      clear hv9 hb9
                      go_wp2_with fail
                      first | (rw [Exit.noGoto_ret]; go_ret2) | go_ret2
                      refine ⟨_, rfl, ?_, ?_⟩
                      · show IS _ _ (chainL ws m n)
                        rw [HR0.out, HRS.out]
                        exact HV9.out
                      · exact HB3.out.trans ((HL7.out.trans (HB9.out.mono (by have := HB7.out; omega))).mono (by have := HZ3.out; omega))
                    · have hxe : ((x : Int) == (n : Int)) = false := by rw [beq_eq_false_iff_ne]; omega
                      have HXN := Lib.hid hxn
                      clear hxn
                      rw [if_neg HXN.out] at HSC
                      go_upto_region 20 with fail
                      generalize w6.setCell ⟨w3.heap.size + 1, x, none⟩ (.int .i64 (l : Int)) = w7 at *
                      have HOY := Lib.hid (show w7.ownsRow (w3.heap.size + 2) 3 1 _ ((heads ps).map fun (i : Nat) => (i : Int)).length (((heads ps).map fun (i : Nat) => (i : Int)).map (Value.int .i64)) by rw [List.length_map, heads, List.length_map]; exact HO7.out)
                      have HLH := Lib.hid (show ((heads ps).map fun (i : Nat) => (i : Int)).length = ps.length by rw [List.length_map, heads, List.length_map])
                      go_wp2_with (first | (at_builtin; refine app_one (w0 := w7) (w3.heap.size + 2) _ ((heads ps).map fun (i : Nat) => (i : Int)) (x : Int) rfl _ _ rfl rfl HOY.out rfl (by rw [HLH.out]; omega) (Below.refl _ _) HB7.out ?_; intro g1 cap1 w8 hown1 hb1))
                      have HCN := Lib.hid (show CH w3 w8 m (.slice (some ⟨g1, 0, none⟩) (((heads ps).map fun (i : Nat) => (i : Int)).length + 1) cap1) (upB bk x l) (ps ++ [x :: r]) from ⟨HS7.out.same (fun k _ => cell_of_heap (hb1.block _ (by omega)) _), (hb1.block _ (by omega)).trans HR7.out, by
                          have h := hown1
                          rw [HLH.out] at h
                          rw [HLH.out, List.length_append, List.length_singleton, heads, List.map_append, List.map_append]
                          exact h, HL7.out.trans (hb1.mono (by omega)), Nat.le_trans HB7.out hb1.size⟩)
                      have HIN := Lib.hid (Inv.push (x := x) HI.out (List.mem_of_getElem? HPR.out) HNC.out (by rw [HHL.out]; exact hlx) (by omega) (by have := HXN.out; omega))
                      have HPN := Lib.hid (show (ps ++ [x :: r])[k]? = some r by rw [List.getElem?_append_left hkp]; exact HPR.out)
                      clear hown1 hb1
                      go_wp2_with fail
                      go_roundw
                      case rel => exact ⟨x + 1, upB bk x l, ps ++ [x :: r], by go_num, by omega, by omega, HPN.out, by have := HIN.out; rw [HHL.out] at this; exact this, by have h := HCN.out; rw [List.length_map] at h; exact h, by rw [show n + 1 - (x + 1) = n - x by omega]; exact HSC.out⟩
                      case measure => (simp [intOf] <;> omega)
                  · have ht' : touchP y1 y2 = false := by simpa using ht
                    rw [ht'] at CT hsc
                    rw [Bool.not_false, if_pos rfl] at hsc
                    have HSC := Lib.hid hsc
                    clear hsc hc hc' hC htc ht ht'
                    go_wp2_with fail
                    refine wp_region_class (fun w' => Below wj.heap.size wj w') 15 (by kernel_rfl) (by kernel_rfl) (Below.refl _ wj).drew ?_
                    simp only [List.take_succ_cons, List.take_zero, List.drop_succ_cons, List.drop_zero]
                    refine quiet_moveV rfl _ rfl (.int .i64 (x : Int)) rfl ?_
                    simp only [Act.put, List.setIfInBounds_toArray, List.set_cons_zero, List.set_cons_succ]
                    refine quiet_call rfl 45 _ _ rfl (enter_of Try.func45 (by decide) (by intro h; cases h)) _ (fun W h => (CHAS.out W h).mono fun e w' ⟨he, hw⟩ => ⟨he, hw ▸ h⟩) ?_
                    simp only [Act.put, List.setIfInBounds_toArray, List.set_cons_zero, List.set_cons_succ]
                    refine quiet_moveV rfl _ rfl (.bool false) rfl ?_
                    simp only [Act.put, List.setIfInBounds_toArray, List.set_cons_zero, List.set_cons_succ]
                    refine quietW_still (by kernel_rfl) (.pointer (some ⟨w.heap.size, 1, none⟩)) (fun w _ => by go_simp) ?_
                    simp only [Act.put, List.setIfInBounds_toArray, List.set_cons_zero, List.set_cons_succ]
                    refine quietW_load1 (by kernel_rfl) _ _ rfl ⟨w.heap.size, 1, none⟩ rfl (.slice (some ⟨b1, off1, none⟩) ws.length uc) (load_ws _ _) (fun _ h => (h.cell (p := ⟨w.heap.size, 1, none⟩) (show w.heap.size < wj.heap.size by omega)).trans g1) ?_
                    simp only [Act.put, List.setIfInBounds_toArray, List.set_cons_zero, List.set_cons_succ]
                    refine quietW_moveV (by kernel_rfl) _ rfl (.int .i64 (l : Int)) rfl ?_
                    simp only [Act.put, List.setIfInBounds_toArray, List.set_cons_zero, List.set_cons_succ]
                    refine quietW_still (by kernel_rfl) (.pointer (some ⟨b1, off1 + l * 3, none⟩)) (fun w _ => by go_simp) ?_
                    simp only [Act.put, List.setIfInBounds_toArray, List.set_cons_zero, List.set_cons_succ]
                    refine quietW_load_mid (by kernel_rfl) _ _ rfl b1 (off1 + l * 3) rfl [.int .i64 y1.kd, .int .i64 y1.pl, .string y1.wd] _ (fun W h => range_below3 RGy1.out (show b1 < wj.heap.size by omega) h) Try.underlying48 rfl (by kernel_rfl) ?_
                    simp only [Act.put, List.setIfInBounds_toArray, List.set_cons_zero, List.set_cons_succ]
                    refine quietW_still (by kernel_rfl) (.pointer (some ⟨w.heap.size, 1, none⟩)) (fun w _ => by go_simp) ?_
                    simp only [Act.put, List.setIfInBounds_toArray, List.set_cons_zero, List.set_cons_succ]
                    refine quietW_load1 (by kernel_rfl) _ _ rfl ⟨w.heap.size, 1, none⟩ rfl (.slice (some ⟨b1, off1, none⟩) ws.length uc) (load_ws _ _) (fun _ h => (h.cell (p := ⟨w.heap.size, 1, none⟩) (show w.heap.size < wj.heap.size by omega)).trans g1) ?_
                    simp only [Act.put, List.setIfInBounds_toArray, List.set_cons_zero, List.set_cons_succ]
                    refine quietW_moveV (by kernel_rfl) _ rfl (.int .i64 (x : Int)) rfl ?_
                    simp only [Act.put, List.setIfInBounds_toArray, List.set_cons_zero, List.set_cons_succ]
                    refine quietW_still (by kernel_rfl) (.pointer (some ⟨b1, off1 + x * 3, none⟩)) (fun w _ => by go_simp) ?_
                    simp only [Act.put, List.setIfInBounds_toArray, List.set_cons_zero, List.set_cons_succ]
                    refine quietW_load_mid (by kernel_rfl) _ _ rfl b1 (off1 + x * 3) rfl [.int .i64 y2.kd, .int .i64 y2.pl, .string y2.wd] _ (fun W h => range_below3 RGy2.out (show b1 < wj.heap.size by omega) h) Try.underlying48 rfl (by kernel_rfl) ?_
                    simp only [Act.put, List.setIfInBounds_toArray, List.set_cons_zero, List.set_cons_succ]
                    refine quietW_call (by kernel_rfl) 62 _ _ rfl (enter_of Try.func62 (by decide) (by intro h; cases h)) _ (fun W h => (CT.out W).mono fun e w' ⟨he, hw⟩ => ⟨he, h.trans (hw.mono h.size)⟩) ?_
                    simp only [Act.put, List.setIfInBounds_toArray, List.set_cons_zero, List.set_cons_succ]
                    refine quietW_still (by kernel_rfl) (.bool true) (fun w _ => by go_simp) ?_
                    simp only [Act.put, List.setIfInBounds_toArray, List.set_cons_zero, List.set_cons_succ]
                    unfold wpQuiet
                    intro wq hb
                    have HCQ := Lib.hid (HC.out.below hb)
                    clear hb
                    go_wp2_with fail
                    go_roundw
                    case rel => exact ⟨x + 1, bk, ps, by go_num, by omega, by omega, HPR.out, HI.out, HCQ.out, by rw [show n + 1 - (x + 1) = n - x by omega]; exact HSC.out⟩
                    case measure => (simp [intOf] <;> omega)
              · have hxi : ¬ (x : Int) ≤ (n : Int) := by omega
                have hsc := hR
                rw [show n + 1 - x = 0 by omega, scan] at hsc
                have HSC := Lib.hid (show bfs ws n (ws.length + 1 - (k + 1)) (k + 1) ps = R by rw [show ws.length + 1 - (k + 1) = ws.length - k by omega]; exact hsc)
                clear hsc hI hC hR hpr
                go_wp2_with fail
                go_roundw
                case rel => exact ⟨k + 1, bk, ps, by go_num, hkp, HI.out, HC.out, HSC.out⟩
                case measure => (simp [intOf] <;> omega)
          · have k1 : ¬ (k : Int) < (ps.length : Int) := by omega
            obtain ⟨a9, c9, hv9⟩ := own_form hC.own
            subst hv9
            have HMN := Lib.hid (show metS m ps n = false by
              unfold metS
              by_cases hmn : n = m
              · simp [hmn]
              · have : (heads ps).contains n = false := by
                  rw [List.contains_eq_mem]
                  refine decide_eq_false fun h => ?_
                  obtain ⟨p, hp, e⟩ := List.mem_map.1 h
                  have := (hI.tr p hp).2
                  omega
                rw [this, Bool.false_and])
            have HRN := Lib.hid (show R = none by rw [← HR.out]; exact bfs_end _ _ _ _ _ (by omega))
            have CN := Lib.hid (has_any w3.heap.size 0 (metS m ps) n (by omega) wr hC.met)
            rw [HMN.out] at CN
            clear hI hC hpl
            go_wp2_with fail
            refine CN.out.mono ?_
            rintro e w8 ⟨rfl, hw⟩
            obtain rfl := hw.symm
            clear hw
            go_wp2_with fail
            first | (rw [Exit.noGoto_ret]; go_ret2) | go_ret2
            refine ⟨_, rfl, ?_, ?_⟩
            · show IS _ _ (chainL ws m n)
              rw [HR0.out, HRN.out]
              exact is_nil _
            · exact HB3.out.trans (HC.out.low.mono (by have := HZ3.out; omega))
      · rw [decide_eq_false hb] at CB
        have he : ce = 2 := by rw [HDE.out, if_neg (by simp), if_neg (fun h => hb h.2)]
        subst he
        have hcv : cv = [] := by rw [HDV.out]; rfl
        subst hcv
        go_wp2_with fail
        refine (CA.out _).mono ?_
        rintro e w2 ⟨rfl, b2⟩
        have HB2 := Lib.hid (bon HB1.out b2)
        have H2 := Lib.hid ((b2.block _ (by have := HZ1.out; omega)).trans H0.out)
        clear b2 g0 g1
        have g0 : w2.cell? ⟨w.heap.size, 0, none⟩ = some (.int .i64 s.pr) := cell_of_row w2 _ 0 _ _ _ H2.out
        have g1 : w2.cell? ⟨w.heap.size, 1, none⟩ = some (.slice ua s.ws.length uc) := cell_of_row w2 _ 1 _ _ _ H2.out
        go_wp2_with fail
        refine (CB.out _).mono ?_
        rintro e w3 ⟨rfl, b3⟩
        have HB3 := Lib.hid (bon HB2.out b3)
        clear b3
        go_wp2_with fail
        first | (rw [Exit.noGoto_ret]; go_ret2) | go_ret2
        exact ⟨_, rfl, is_nil _, HB3.out⟩
    · rw [decide_eq_false ha] at CA
      have he : ce = 2 := by rw [HDE.out, if_neg (by simp), if_neg (fun h => ha h.1)]
      subst he
      have hcv : cv = [] := by rw [HDV.out]; rfl
      subst hcv
      go_wp2_with fail
      refine (CA.out _).mono ?_
      rintro e w2 ⟨rfl, b2⟩
      have HB2 := Lib.hid (bon HB1.out b2)
      clear b2
      go_wp2_with fail
      first | (rw [Exit.noGoto_ret]; go_ret2) | go_ret2
      exact ⟨_, rfl, is_nil _, HB2.out⟩
  · have he : ce = z := by rw [HDE.out, if_pos q]
    have hcv : cv = [] := by rw [HDV.out, he, if_neg q]
    subst he
    subst hcv
    go_wp2_with fail
    first | (rw [Exit.noGoto_ret]; go_ret2) | go_ret2
    exact ⟨_, rfl, is_nil _, HB1.out⟩
end Go.Proofs.Ytenfeekchggioaa
