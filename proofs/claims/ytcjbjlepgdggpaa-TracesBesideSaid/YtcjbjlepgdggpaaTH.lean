/- The works that are ready, yielded. -/
import Derived.Test.YtcjbjlepgdggpaaTG
namespace Go.Proofs.Ytcjbjlepgdggpaa
open Go.RowKit Go.Shelf Go.Lib
set_option maxRecDepth 100000
set_option linter.unusedSimpArgs false
attribute [local irreducible] wpQuiet
attribute [local go_sem] Oper.semAt_some
/-- The cells of the counts. -/
def cnC (n : Nat) (F : Nat → Nat) (mb : Nat) : List Value := .int .i64 (n : Int) :: ((List.range 16).map fun (i : Nat) => Value.int .u16 (F i : Int)) ++ [.map (some mb)]
def CB (w : World) (c n mb : Nat) (F : Nat → Nat) : Prop := w.heap[c]? = some (.cells (cnC n F mb).toArray 82 (0, 0))
theorem cnC_0 (n : Nat) (F : Nat → Nat) (mb : Nat) : (cnC n F mb)[0]? = some (.int .i64 (n : Int)) := rfl
theorem cnC_i (n : Nat) (F : Nat → Nat) (mb i : Nat) (h : i < 16) : (cnC n F mb)[1 + i]? = some (.int .u16 (F i : Int)) := by
  unfold cnC
  rw [show 1 + i = i + 1 by omega, List.cons_append, List.getElem?_cons_succ, List.getElem?_append_left (by simpa using h), List.getElem?_map, List.getElem?_range h]
  rfl
theorem cnC_m (n : Nat) (F : Nat → Nat) (mb : Nat) : (cnC n F mb)[17]? = some (.map (some mb)) := rfl
theorem CB.lt {w : World} {c n mb : Nat} {F : Nat → Nat} (h : CB w c n mb F) : c < w.heap.size := (Array.getElem?_eq_some_iff.1 h).1
theorem CB.cell {w : World} {c n mb : Nat} {F : Nat → Nat} (h : CB w c n mb F) {j : Nat} {v : Value} (hj : (cnC n F mb)[j]? = some v) : w.cell? ⟨c, j, none⟩ = some v := by
  rw [cell_of_row w c j _ _ _ h, List.getElem?_toArray, hj]
theorem CB.below {w w' : World} {c n mb B : Nat} {F : Nat → Nat} (h : CB w c n mb F) (hb : Below B w w') (hB : c < B) : CB w' c n mb F := (hb.block _ hB).trans h
theorem ready_any (c x : Nat) (w : World) :
    Calls Try.prog 71 #[.pointer (some ⟨c, 0, none⟩), .int .u16 (x : Int)] w fun e w' => e = .returned (.func (.func 82) #[] #[.pointer (some ⟨w.heap.size, 0, none⟩), .pointer (some ⟨w.heap.size + 1, 0, none⟩)]) ∧
      w' = (w.alloc (.cells #[.pointer (some ⟨c, 0, none⟩)] 106)).alloc (.cells #[.int .u16 (x : Int)] 78) := by
  go_enter Try.func71, Try.ntmps71
  go_wp2_with fail
  go_ret
  exact ⟨by simp, rfl⟩
theorem load_set (ad : Addr) (v : Value) (w : World) (h : w.cell? ad = some v) : (Instr.loadAt 78 (.pointer (some ad))).run Try.prog w = .ok v w := by
  simp [Instr.loadAt, Instr.sureAddr, loadVar, go_sem, Try.isAgg78, h]
theorem load_cptr (ad : Addr) (v : Value) (w : World) (h : w.cell? ad = some v) : (Instr.loadAt  106 (.pointer (some ad))).run Try.prog w = .ok v w := by
  simp [Instr.loadAt, Instr.sureAddr, loadVar, go_sem, Try.isAgg106, h]
abbrev Rd (n : Nat) (F : Nat → Nat) (x : Nat) := { i : Nat // rdyM n F x i = true }
/-- What a round must keep. -/
structure Kc (c p1 p2 : Nat) (A B : World) : Prop where
  size : A.heap.size ≤ B.heap.size
  k0 : B.heap[c]? = A.heap[c]?
  k1 : B.heap[p1]? = A.heap[p1]?
  k2 : B.heap[p2]? = A.heap[p2]?
theorem Kc.trans {c p1 p2 : Nat} {A B C : World} (h : Kc c p1 p2 A B) (k : Kc c p1 p2 B C) : Kc c p1 p2 A C := ⟨Nat.le_trans h.size k.size, k.k0.trans h.k0, k.k1.trans h.k1, k.k2.trans h.k2⟩
theorem Kc.below {c p1 p2 : Nat} {A B : World} (h : Below A.heap.size A B) (hc : c < A.heap.size) (h1 : p1 < A.heap.size) (h2 : p2 < A.heap.size) : Kc c p1 p2 A B := ⟨h.size, h.block _ hc, h.block _ h1, h.block _ h2⟩
set_option maxHeartbeats 4000000 in
set_option maxRecDepth 100000 in
theorem ready1_own (m : Nat) (hm : 1 ≤ m) (c n mb x p1 p2 : Nat) (F : Nat → Nat) (hn : n ≤ 16) (hx : x < 2 ^ 16) (hF : ∀ i, F i < 2 ^ 16) (w : World) (hc : CB w c n mb F) (h1 : w.heap[p1]? = some (.cells #[.pointer (some ⟨c, 0, none⟩)]  106 (0, 0))) (h2 : w.heap[p2]? = some (.cells #[.int .u16 (x : Int)] 78 (0, 0))) :
    SeqOwn m 82 #[.pointer (some ⟨p1, 0, none⟩), .pointer (some ⟨p2, 0, none⟩)] (fun i : Rd n F x => #[.int .i64 (i.1 : Int)]) (Kc c p1 p2) (fun ys => ys.map (·.1) = (List.range n).filter (rdyM n F x)) 16 w := fun l J Jx W hWb hJ _ hY h0 => by
  have HY := Lib.hid hY
  have HJ := Lib.hid (fun pre A B (hA : J pre A) (hb : Below A.heap.size A B) => hJ pre A B none hA ⟨hb.os, hb.tape, hb.output, hb.size, fun k hk _ => hb.block k hk⟩ (fun r e => by cases e))
  have zc := hc.lt
  have z1 := (Array.getElem?_eq_some_iff.1 h1).1
  have z2 := (Array.getElem?_eq_some_iff.1 h2).1
  have HK0 := Lib.hid (Kc.below hWb zc z1 z2)
  have HC := Lib.hid hc
  have H1 := Lib.hid h1
  have H2 := Lib.hid h2
  have HFF := Lib.hid hF
  have HZ := Lib.hid (show c < w.heap.size ∧ p1 < w.heap.size ∧ p2 < w.heap.size from ⟨zc, z1, z2⟩)
  have e1 : W.cell? ⟨p1, 0, none⟩ = some (.pointer (some ⟨c, 0, none⟩)) := cell_of_row W p1 0 _ _ _ (HK0.out.k1.trans h1)
  have e0 : W.cell? ⟨c, 0, none⟩ = some (.int .i64 (n : Int)) := CB.cell (show CB W c n mb F from HK0.out.k0.trans hc) (cnC_0 n F mb)
  clear hY hJ h1 h2 hc zc z1 z2 hF
  refine callsIn_of_wp Try.func82 rfl trivial ?_ rfl
  simp only [Try.ntmps82, List.size_toArray, List.length_cons, List.length_nil, Nat.reduceAdd, Nat.reduceSub, Array.replicate_succ, Array.replicate_zero, List.push_toArray, List.append_toArray, List.nil_append, List.cons_append]
  gi_wp2_with fail
  clear e0 e1
  gi_loopw [9] (fun iv wr => ∃ (k : Nat) (pre : List (Rd n F x)), iv = .int .i64 (k : Int) ∧ k ≤ n ∧ pre.length ≤ k ∧ pre.map (·.1) = (List.range k).filter (rdyM n F x) ∧ J pre wr ∧ Kc c p1 p2 w wr) (fun iv _ => n - (intOf iv).toNat)
  case atStart => exact ⟨0, [], rfl, Nat.zero_le _, Nat.le_refl _, rfl, h0, HK0.out⟩
  case round =>
    clear h0
    obtain ⟨k, pre, rfl, hk, hpl, hpre, hJr, hkr⟩ := hrel
    rename World => wr
    have HKR := Lib.hid hkr
    have HPR := Lib.hid hpre
    have HJR := Lib.hid hJr
    clear hkr hpre hJr
    by_cases hkl : k < n
    · have hkl' : (k : Int) < (n : Int) := by omega
      have hk16 : k < 16 := by omega
      have hk16' : (k : Int) < 16 := by omega
      have hk0 : (0 : Int) ≤ (k : Int) := by omega
      have zr := HKR.out.size
      have hzz := HZ.out
      have c1 : wr.cell? ⟨p1, 0, none⟩ = some (.pointer (some ⟨c, 0, none⟩)) := cell_of_row wr p1 0 _ _ _ (HKR.out.k1.trans H1.out)
      have c2 : wr.cell? ⟨p2, 0, none⟩ = some (.int .u16 (x : Int)) := cell_of_row wr p2 0 _ _ _ (HKR.out.k2.trans H2.out)
      have c3 : wr.cell? ⟨c, 1 + k, none⟩ = some (.int .u16 (F k : Int)) := CB.cell (show CB wr c n mb F from HKR.out.k0.trans HC.out) (cnC_i n F mb k hk16)
      have C1 := Lib.hid c1
      have C2 := Lib.hid c2
      have C3 := Lib.hid c3
      have CH := Lib.hid (fun V => has16_any x k hx hk16 V)
      have HRD := Lib.hid (show rdyM n F x k = (!x.testBit k && (bits .andNot .u16 (F k : Int) (x : Int) == 0)) by
        unfold rdyM
        rw [bits_not16, decide_eq_true hkl, Bool.true_and])
      have HNX := Lib.hid (show (List.range (k + 1)).filter (rdyM n F x) = (List.range k).filter (rdyM n F x) ++ if rdyM n F x k = true then [k] else [] by
        rw [List.range_succ, List.filter_append]
        cases hr : rdyM n F x k <;> simp [hr])
      clear c1 c2 c3
      by_cases hd : x.testBit k = true
      · rw [hd] at CH HRD
        have HNO := Lib.hid (show rdyM n F x k = false by rw [HRD.out]; rfl)
        gi_wp2_with fail
        refine wpIn_region_class (fun w' => Below wr.heap.size wr w') 18 (by kernel_rfl) (by kernel_rfl) (Below.refl _ wr).drew ?_
        simp only [List.take_succ_cons, List.take_zero, List.drop_succ_cons, List.drop_zero]
        refine quiet_load1 rfl _ _ rfl ⟨p2, 0, none⟩ rfl (.int .u16 (x : Int)) (load_set _ _) (fun _ h => (h.cell (p := ⟨p2, 0, none⟩) (show p2 < wr.heap.size by omega)).trans C2.out) ?_
        simp only [Act.put, List.setIfInBounds_toArray, List.set_cons_zero, List.set_cons_succ]
        refine quiet_moveV rfl _ rfl (.int .i64 (k : Int)) rfl ?_
        simp only [Act.put, List.setIfInBounds_toArray, List.set_cons_zero, List.set_cons_succ]
        refine quiet_call rfl 83 _ _ rfl (enter_of Try.func83 (by decide) (by intro h; cases h)) _ (fun W h => (CH.out W).mono fun e w' ⟨he, hw⟩ => ⟨he, hw ▸ h⟩) ?_
        simp only [Act.put, List.setIfInBounds_toArray, List.set_cons_zero, List.set_cons_succ]
        refine quiet_still rfl (.bool false) (fun w _ => by go_simp) ?_
        simp only [Act.put, List.setIfInBounds_toArray, List.set_cons_zero, List.set_cons_succ]
        refine quiet_moveV rfl _ rfl (.bool false) rfl ?_
        simp only [Act.put, List.setIfInBounds_toArray, List.set_cons_zero, List.set_cons_succ]
        refine quiet_skip (by kernel_rfl) ?_
        simp only [Act.put, List.setIfInBounds_toArray, List.set_cons_zero, List.set_cons_succ]
        refine quiet_skip (by kernel_rfl) ?_
        simp only [Act.put, List.setIfInBounds_toArray, List.set_cons_zero, List.set_cons_succ]
        refine quiet_skip (by kernel_rfl) ?_
        simp only [Act.put, List.setIfInBounds_toArray, List.set_cons_zero, List.set_cons_succ]
        refine quiet_skip (by kernel_rfl) ?_
        simp only [Act.put, List.setIfInBounds_toArray, List.set_cons_zero, List.set_cons_succ]
        refine quiet_skip (by kernel_rfl) ?_
        simp only [Act.put, List.setIfInBounds_toArray, List.set_cons_zero, List.set_cons_succ]
        refine quiet_skip (by kernel_rfl) ?_
        simp only [Act.put, List.setIfInBounds_toArray, List.set_cons_zero, List.set_cons_succ]
        refine quiet_skip (by kernel_rfl) ?_
        simp only [Act.put, List.setIfInBounds_toArray, List.set_cons_zero, List.set_cons_succ]
        refine quiet_skip (by kernel_rfl) ?_
        simp only [Act.put, List.setIfInBounds_toArray, List.set_cons_zero, List.set_cons_succ]
        refine quiet_skip (by kernel_rfl) ?_
        simp only [Act.put, List.setIfInBounds_toArray, List.set_cons_zero, List.set_cons_succ]
        refine quiet_still rfl (.bool false) (fun w _ => by go_simp) ?_
        simp only [Act.put, List.setIfInBounds_toArray, List.set_cons_zero, List.set_cons_succ]
        refine quiet_moveV rfl _ rfl (.bool false) rfl ?_
        simp only [Act.put, List.setIfInBounds_toArray, List.set_cons_zero, List.set_cons_succ]
        refine quiet_skip (by kernel_rfl) ?_
        simp only [Act.put, List.setIfInBounds_toArray, List.set_cons_zero, List.set_cons_succ]
        refine quiet_skip (by kernel_rfl) ?_
        simp only [Act.put, List.setIfInBounds_toArray, List.set_cons_zero, List.set_cons_succ]
        unfold wpQuiet
        intro w2 hb
        have HJ2 := Lib.hid (HJ.out _ _ _ HJR.out hb)
        have HK2 := Lib.hid (HKR.out.trans (Kc.below hb (by omega) (by omega) (by omega)))
        clear hb
        gi_wp2_with fail
        refine ⟨(fun f h => by cases h), ?_⟩
        gi_wp2_with fail
        go_roundw
        case rel => exact ⟨k + 1, pre, by go_num, hkl, by omega, by rw [HNX.out, HNO.out, HPR.out]; simp, HJ2.out, HK2.out⟩
        case measure => (simp [intOf] <;> omega)
      · have hd' : x.testBit k = false := by simpa using hd
        rw [hd'] at CH HRD
        clear hd hd'
        cases hq : (bits .andNot .u16 (F k : Int) (x : Int) == 0)
        · have HNO := Lib.hid (show rdyM n F x k = false by rw [HRD.out, hq]; rfl)
          gi_wp2_with fail
          refine wpIn_region_class (fun w' => Below wr.heap.size wr w') 18 (by kernel_rfl) (by kernel_rfl) (Below.refl _ wr).drew ?_
          simp only [List.take_succ_cons, List.take_zero, List.drop_succ_cons, List.drop_zero]
          refine quiet_load1 rfl _ _ rfl ⟨p2, 0, none⟩ rfl (.int .u16 (x : Int)) (load_set _ _) (fun _ h => (h.cell (p := ⟨p2, 0, none⟩) (show p2 < wr.heap.size by omega)).trans C2.out) ?_
          simp only [Act.put, List.setIfInBounds_toArray, List.set_cons_zero, List.set_cons_succ]
          refine quiet_moveV rfl _ rfl (.int .i64 (k : Int)) rfl ?_
          simp only [Act.put, List.setIfInBounds_toArray, List.set_cons_zero, List.set_cons_succ]
          refine quiet_call rfl 83 _ _ rfl (enter_of Try.func83 (by decide) (by intro h; cases h)) _ (fun W h => (CH.out W).mono fun e w' ⟨he, hw⟩ => ⟨he, hw ▸ h⟩) ?_
          simp only [Act.put, List.setIfInBounds_toArray, List.set_cons_zero, List.set_cons_succ]
          refine quiet_still rfl (.bool true) (fun w _ => by go_simp) ?_
          simp only [Act.put, List.setIfInBounds_toArray, List.set_cons_zero, List.set_cons_succ]
          refine quiet_moveV rfl _ rfl (.bool true) rfl ?_
          simp only [Act.put, List.setIfInBounds_toArray, List.set_cons_zero, List.set_cons_succ]
          refine quietW_load1 (by kernel_rfl) _ _ rfl ⟨p1, 0, none⟩ rfl (.pointer (some ⟨c, 0, none⟩)) (load_cptr _ _) (fun _ h => (h.cell (p := ⟨p1, 0, none⟩) (show p1 < wr.heap.size by omega)).trans C1.out) ?_
          simp only [Act.put, List.setIfInBounds_toArray, List.set_cons_zero, List.set_cons_succ]
          refine quietW_moveV (by kernel_rfl) _ rfl (.int .i64 (k : Int)) rfl ?_
          simp only [Act.put, List.setIfInBounds_toArray, List.set_cons_zero, List.set_cons_succ]
          refine quietW_still (by kernel_rfl) (.pointer (some ⟨c, 0, none⟩)) (fun w _ => by go_simp) ?_
          simp only [Act.put, List.setIfInBounds_toArray, List.set_cons_zero, List.set_cons_succ]
          refine quietW_still (by kernel_rfl) (.pointer (some ⟨c, 1, none⟩)) (fun w _ => by go_simp) ?_
          simp only [Act.put, List.setIfInBounds_toArray, List.set_cons_zero, List.set_cons_succ]
          refine quietW_still (by kernel_rfl) (.pointer (some ⟨c, 1 + k, none⟩)) (fun w _ => by go_simp) ?_
          simp only [Act.put, List.setIfInBounds_toArray, List.set_cons_zero, List.set_cons_succ]
          refine quietW_load1 (by kernel_rfl) _ _ rfl ⟨c, 1 + k, none⟩ rfl (.int .u16 (F k : Int)) (load_set _ _) (fun _ h => (h.cell (p := ⟨c, 1 + k, none⟩) (show c < wr.heap.size by omega)).trans C3.out) ?_
          simp only [Act.put, List.setIfInBounds_toArray, List.set_cons_zero, List.set_cons_succ]
          refine quietW_load1 (by kernel_rfl) _ _ rfl ⟨p2, 0, none⟩ rfl (.int .u16 (x : Int)) (load_set _ _) (fun _ h => (h.cell (p := ⟨p2, 0, none⟩) (show p2 < wr.heap.size by omega)).trans C2.out) ?_
          simp only [Act.put, List.setIfInBounds_toArray, List.set_cons_zero, List.set_cons_succ]
          refine quietW_still (by kernel_rfl) (.int .u16 (bits .andNot .u16 (F k : Int) (x : Int))) (fun w _ => by go_simp) ?_
          simp only [Act.put, List.setIfInBounds_toArray, List.set_cons_zero, List.set_cons_succ]
          refine quietW_still (by kernel_rfl) (.bool (bits .andNot .u16 (F k : Int) (x : Int) == 0)) (fun w _ => by go_simp) ?_
          simp only [Act.put, List.setIfInBounds_toArray, List.set_cons_zero, List.set_cons_succ]
          rw [hq]
          refine quiet_still rfl (.bool false) (fun w _ => by go_simp) ?_
          simp only [Act.put, List.setIfInBounds_toArray, List.set_cons_zero, List.set_cons_succ]
          refine quiet_moveV rfl _ rfl (.bool false) rfl ?_
          simp only [Act.put, List.setIfInBounds_toArray, List.set_cons_zero, List.set_cons_succ]
          refine quiet_skip (by kernel_rfl) ?_
          simp only [Act.put, List.setIfInBounds_toArray, List.set_cons_zero, List.set_cons_succ]
          refine quiet_skip (by kernel_rfl) ?_
          simp only [Act.put, List.setIfInBounds_toArray, List.set_cons_zero, List.set_cons_succ]
          unfold wpQuiet
          intro w2 hb
          have HJ2 := Lib.hid (HJ.out _ _ _ HJR.out hb)
          have HK2 := Lib.hid (HKR.out.trans (Kc.below hb (by omega) (by omega) (by omega)))
          clear hb
          gi_wp2_with fail
          refine ⟨(fun f h => by cases h), ?_⟩
          gi_wp2_with fail
          go_roundw
          case rel => exact ⟨k + 1, pre, by go_num, hkl, by omega, by rw [HNX.out, HNO.out, HPR.out]; simp, HJ2.out, HK2.out⟩
          case measure => (simp [intOf] <;> omega)
        · have HYES := Lib.hid (show rdyM n F x k = true by rw [HRD.out, hq]; rfl)
          gi_wp2_with fail
          refine wpIn_region_class (fun w' => Below wr.heap.size wr w') 18 (by kernel_rfl) (by kernel_rfl) (Below.refl _ wr).drew ?_
          simp only [List.take_succ_cons, List.take_zero, List.drop_succ_cons, List.drop_zero]
          refine quiet_load1 rfl _ _ rfl ⟨p2, 0, none⟩ rfl (.int .u16 (x : Int)) (load_set _ _) (fun _ h => (h.cell (p := ⟨p2, 0, none⟩) (show p2 < wr.heap.size by omega)).trans C2.out) ?_
          simp only [Act.put, List.setIfInBounds_toArray, List.set_cons_zero, List.set_cons_succ]
          refine quiet_moveV rfl _ rfl (.int .i64 (k : Int)) rfl ?_
          simp only [Act.put, List.setIfInBounds_toArray, List.set_cons_zero, List.set_cons_succ]
          refine quiet_call rfl 83 _ _ rfl (enter_of Try.func83 (by decide) (by intro h; cases h)) _ (fun W h => (CH.out W).mono fun e w' ⟨he, hw⟩ => ⟨he, hw ▸ h⟩) ?_
          simp only [Act.put, List.setIfInBounds_toArray, List.set_cons_zero, List.set_cons_succ]
          refine quiet_still rfl (.bool true) (fun w _ => by go_simp) ?_
          simp only [Act.put, List.setIfInBounds_toArray, List.set_cons_zero, List.set_cons_succ]
          refine quiet_moveV rfl _ rfl (.bool true) rfl ?_
          simp only [Act.put, List.setIfInBounds_toArray, List.set_cons_zero, List.set_cons_succ]
          refine quietW_load1 (by kernel_rfl) _ _ rfl ⟨p1, 0, none⟩ rfl (.pointer (some ⟨c, 0, none⟩)) (load_cptr _ _) (fun _ h => (h.cell (p := ⟨p1, 0, none⟩) (show p1 < wr.heap.size by omega)).trans C1.out) ?_
          simp only [Act.put, List.setIfInBounds_toArray, List.set_cons_zero, List.set_cons_succ]
          refine quietW_moveV (by kernel_rfl) _ rfl (.int .i64 (k : Int)) rfl ?_
          simp only [Act.put, List.setIfInBounds_toArray, List.set_cons_zero, List.set_cons_succ]
          refine quietW_still (by kernel_rfl) (.pointer (some ⟨c, 0, none⟩)) (fun w _ => by go_simp) ?_
          simp only [Act.put, List.setIfInBounds_toArray, List.set_cons_zero, List.set_cons_succ]
          refine quietW_still (by kernel_rfl) (.pointer (some ⟨c, 1, none⟩)) (fun w _ => by go_simp) ?_
          simp only [Act.put, List.setIfInBounds_toArray, List.set_cons_zero, List.set_cons_succ]
          refine quietW_still (by kernel_rfl) (.pointer (some ⟨c, 1 + k, none⟩)) (fun w _ => by go_simp) ?_
          simp only [Act.put, List.setIfInBounds_toArray, List.set_cons_zero, List.set_cons_succ]
          refine quietW_load1 (by kernel_rfl) _ _ rfl ⟨c, 1 + k, none⟩ rfl (.int .u16 (F k : Int)) (load_set _ _) (fun _ h => (h.cell (p := ⟨c, 1 + k, none⟩) (show c < wr.heap.size by omega)).trans C3.out) ?_
          simp only [Act.put, List.setIfInBounds_toArray, List.set_cons_zero, List.set_cons_succ]
          refine quietW_load1 (by kernel_rfl) _ _ rfl ⟨p2, 0, none⟩ rfl (.int .u16 (x : Int)) (load_set _ _) (fun _ h => (h.cell (p := ⟨p2, 0, none⟩) (show p2 < wr.heap.size by omega)).trans C2.out) ?_
          simp only [Act.put, List.setIfInBounds_toArray, List.set_cons_zero, List.set_cons_succ]
          refine quietW_still (by kernel_rfl) (.int .u16 (bits .andNot .u16 (F k : Int) (x : Int))) (fun w _ => by go_simp) ?_
          simp only [Act.put, List.setIfInBounds_toArray, List.set_cons_zero, List.set_cons_succ]
          refine quietW_still (by kernel_rfl) (.bool (bits .andNot .u16 (F k : Int) (x : Int) == 0)) (fun w _ => by go_simp) ?_
          simp only [Act.put, List.setIfInBounds_toArray, List.set_cons_zero, List.set_cons_succ]
          rw [hq]
          refine quiet_still rfl (.bool true) (fun w _ => by go_simp) ?_
          simp only [Act.put, List.setIfInBounds_toArray, List.set_cons_zero, List.set_cons_succ]
          refine quiet_moveV rfl _ rfl (.bool true) rfl ?_
          simp only [Act.put, List.setIfInBounds_toArray, List.set_cons_zero, List.set_cons_succ]
          refine quietW_moveV (by kernel_rfl) _ rfl (.func (.yield l) #[] #[]) rfl ?_
          simp only [Act.put, List.setIfInBounds_toArray, List.set_cons_zero, List.set_cons_succ]
          refine quietW_moveV (by kernel_rfl) _ rfl (.int .i64 (k : Int)) rfl ?_
          simp only [Act.put, List.setIfInBounds_toArray, List.set_cons_zero, List.set_cons_succ]
          unfold wpQuiet
          intro w2 hb
          have HJ2 := Lib.hid (HJ.out _ _ _ HJR.out hb)
          have HK2 := Lib.hid (HKR.out.trans (Kc.below hb (by omega) (by omega) (by omega)))
          clear hb
          obtain ⟨fn, tmps, assign, body, hy, hR⟩ := HY.out pre ⟨k, HYES.out⟩ w2 HJ2.out (by omega)
          gi_wp2_with fail
          refine hR.mono ?_
          clear hy hR
          rintro e W3 (⟨rfl, hJ3, hk3, _⟩ | ⟨rfl, hJx3, _⟩)
          · have HJ3 := Lib.hid hJ3
            have HK3 := Lib.hid hk3
            clear hJ3 hk3
            gi_wp2_with fail
            go_roundw
            case rel => exact ⟨k + 1, _, by go_num, hkl, by simp; omega, by rw [HNX.out, if_pos HYES.out, List.map_append, HPR.out]; rfl, HJ3.out, HK2.out.trans HK3.out⟩
            case measure => (simp [intOf] <;> omega)
          · have HX3 := Lib.hid hJx3
            clear hJx3
            gi_wp2_with fail
            refine bodyPost_ret (results_none rfl _ _ _) rfl ?_
            exact ⟨⟨_, rfl⟩, .inr ⟨_, HX3.out⟩⟩
    · have hkl' : ¬ (k : Int) < (n : Int) := by omega
      have e : k = n := by omega
      subst e
      gi_wp2_with fail
      refine bodyPost_end (results_none rfl _ _ _) rfl ?_
      exact ⟨⟨_, rfl⟩, .inl ⟨pre, HPR.out, HJR.out⟩⟩
end Go.Proofs.Ytcjbjlepgdggpaa
