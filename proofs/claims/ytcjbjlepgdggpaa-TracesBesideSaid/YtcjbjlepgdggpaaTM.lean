/- The front of a sheet. -/
import Derived.Test.YtcjbjlepgdggpaaTL
namespace Go.Proofs.Ytcjbjlepgdggpaa
open Go.RowKit Go.Shelf Go.Lib
set_option maxRecDepth 100000
set_option linter.unusedSimpArgs false
attribute [local irreducible] wpQuiet
section
variable {P : Program} {md : Region.Mode} {ops : Array Oper} {Q : Exit → Act → World → Prop} {S : World → Prop} {fuel : Nat} {d : Array Bool} {a : Act} {w : World}
theorem held_takeX {i : Nat} {o : Oper} (hi : ops[i]? = some o) (hs : Region.noSelect ops = true) (hf : Region.free md ops d i = true) (hr : (Region.ready md ops d).contains i = true) (v : Value)
    (hQ : ∀ c a w, Q (.panic c) (a.put o.dst v) w → Q (.panic c) a w) (hS : S w) (hg : o.guard = none) (hy : ∀ w, S w → (execOp a.eval o).run P w = .ok (.value v) w)
    (h : wpAnyH P md ops Q S fuel (d.setIfInBounds i true) (a.put o.dst v) w) : wpAnyH P md ops Q S (fuel + 1) d a w :=
  wpAnyH_take hi hs hf hr hQ (.inl ⟨by simp [Region.wanted, hg], hy⟩) hS h
theorem held_loadX {i : Nat} {o : Oper} (hi : ops[i]? = some o) (hs : Region.noSelect ops = true) (hf : Region.free md ops d i = true) (hr : (Region.ready md ops d).contains i = true) (v : Value)
    (hQ : ∀ c a w, Q (.panic c) (a.put o.dst v) w → Q (.panic c) a w) (hS : S w) (hg : o.guard = none) (ty : TypeId) (x : Operand) (ho : o.op = .load ty x) (ad : Addr) (hx : a.eval x = .pointer (some ad))
    (hl : ∀ w, w.cell? ad = some v → (Instr.loadAt ty (.pointer (some ad))).run P w = .ok v w) (hR : ∀ w, S w → w.cell? ad = some v)
    (h : wpAnyH P md ops Q S fuel (d.setIfInBounds i true) (a.put o.dst v) w) : wpAnyH P md ops Q S (fuel + 1) d a w :=
  held_takeX hi hs hf hr _ hQ hS hg (fun w' hw' => by
    unfold execOp
    simp only [ho, hx, Sem.run_bind, hl w' (hR w' hw'), Result.andThen_ok, Sem.run_pure]) h
theorem held_storeX {i : Nat} {o : Oper} (hr : Region.ready md ops d = [i]) (hi : ops[i]? = some o) (hg : o.guard = none) (ty : TypeId) (x y : Operand) (ho : o.op = .store ty x y) (ad : Addr) (u : Value) (hx : a.eval x = .pointer (some ad)) (hy : a.eval y = u)
    (hs : (storeVar ty ad u).run P w = .ok () (w.setCell ad u)) (hS : S (w.setCell ad u))
    (h : wpAnyH P md ops Q S fuel (d.setIfInBounds i true) (a.put o.dst undef) (w.setCell ad u)) : wpAnyH P md ops Q S (fuel + 1) d a w := by
  refine wpAnyH_all hr (by simp) fun j hj => ?_
  obtain rfl : j = i := by simpa using hj
  have hw : Region.wanted o (yielded ops a.tmps) = true := by simp [Region.wanted, hg]
  unfold wpOp
  simp only [hi]
  rw [if_pos hw]
  refine .inl ?_
  unfold Oper.wp execOp
  simp only [ho, hx, hy, Instr.storeAt, Instr.sureAddr, Sem.run_bind, Sem.run_pure, Result.andThen_ok, hs]
  exact ⟨hS, h⟩
end
theorem store_i9 (ad : Addr) (u : Value) (z : Int) (w : World) (h : w.cell? ad = some u) (hf : w.frozen? ad = false) : (storeVar 3 ad (.int .i64 z)).run Try.prog w = .ok () (w.setCell ad (.int .i64 z)) := by
  simp [storeVar, go_sem, Try.isAgg3, h, hf]

def frC (pr : Int) (u ev : Value) (X : List Int) : List Value := .int .i64 pr :: u :: ev :: X.map (Value.int .i64)
/-- The front lies here. -/
def FRT (w : World) (b : Nat) (pr : Int) (u ev : Value) (X : List Int) : Prop := w.heap[b]? = some (.cells (frC pr u ev X).toArray 65 (0, 0)) ∧ X.length = 24
theorem frC_get (pr : Int) (u ev : Value) (X : List Int) {p : Nat} {x : Int} (h : X[p]? = some x) : (frC pr u ev X)[3 + p]? = some (.int .i64 x) := by
  unfold frC
  rw [show 3 + p = p + 1 + 1 + 1 by omega, List.getElem?_cons_succ, List.getElem?_cons_succ, List.getElem?_cons_succ, List.getElem?_map, h]
  rfl
theorem frC_set (pr : Int) (u ev : Value) (X : List Int) (p : Nat) (x : Int) : (frC pr u ev X).set (3 + p) (.int .i64 x) = frC pr u ev (X.set p x) := by
  unfold frC
  rw [show 3 + p = p + 1 + 1 + 1 by omega, List.set_cons_succ, List.set_cons_succ, List.set_cons_succ, List.map_set]
theorem FRT.cell {w : World} {b : Nat} {pr : Int} {u ev : Value} {X : List Int} (h : FRT w b pr u ev X) {p : Nat} {x : Int} (hp : X[p]? = some x) : w.cell? ⟨b, 3 + p, none⟩ = some (.int .i64 x) := by
  rw [cell_of_row w b _ _ _ _ h.1, List.getElem?_toArray, frC_get _ _ _ _ hp]
theorem FRT.lt {w : World} {b : Nat} {pr : Int} {u ev : Value} {X : List Int} (h : FRT w b pr u ev X) : b < w.heap.size := (Array.getElem?_eq_some_iff.1 h.1).1
theorem FRT.below {w w' : World} {b : Nat} {pr : Int} {u ev : Value} {X : List Int} {B : Nat} (h : FRT w b pr u ev X) (hb : Below B w w') (hB : b < B) : FRT w' b pr u ev X := ⟨(hb.block _ hB).trans h.1, h.2⟩
theorem FRT.set {w : World} {b : Nat} {pr : Int} {u ev : Value} {X : List Int} (h : FRT w b pr u ev X) (p : Nat) (x : Int) : FRT (w.setCell ⟨b, 3 + p, none⟩ (.int .i64 x)) b pr u ev (X.set p x) := by
  refine ⟨?_, by rw [List.length_set]; exact h.2⟩
  have := Go.heap_setCell_same w b (3 + p) _ _ (.int .i64 x) h.1
  rw [List.setIfInBounds_toArray, frC_set] at this
  exact this
theorem load_es (ad : Addr) (v : Value) (w : World) (h : w.cell? ad = some v) : (Instr.loadAt 62 (.pointer (some ad))).run Try.prog w = .ok v w := by
  simp [Instr.loadAt, Instr.sureAddr, loadVar, go_sem, Try.isAgg62, h]
theorem load_ws (ad : Addr) (v : Value) (w : World) (h : w.cell? ad = some v) : (Instr.loadAt 22 (.pointer (some ad))).run Try.prog w = .ok v w := by
  simp [Instr.loadAt, Instr.sureAddr, loadVar, go_sem, Try.isAgg22, h]
def rdV (x y : Int) : Bool := x != -1 && x == y
set_option maxHeartbeats 4000000 in
set_option maxRecDepth 100000 in
theorem rdF_any (b p : Nat) (pr : Int) (u ev : Value) (X : List Int) (x y : Int) (w : World) (hf : FRT w b pr u ev X) (hx : X[p]? = some x) (hy : X[p + 1]? = some y) :
    Calls Try.prog 47 #[.pointer (some ⟨b, 0, none⟩), .int .i64 (p : Int)] w fun e w' => e = .returned (.tuple #[.int .i64 x, .bool (rdV x y)]) ∧ Below w.heap.size w w' := by
  have hl : p + 1 < 24 := by have := (List.getElem?_eq_some_iff.1 hy).1; have := hf.2; omega
  have HF := Lib.hid hf
  have c1 := hf.cell hx
  have c2 := hf.cell hy
  have C1 := Lib.hid c1
  have C2 := Lib.hid c2
  have hb := hf.lt
  have j0 : (0 : Int) ≤ (p : Int) := by omega
  have j1 : (p : Int) < 24 := by omega
  have j2 : (p : Int) + 1 < 24 := by omega
  clear hf c2
  go_enter Try.func47, Try.ntmps47
  go_wp2_with fail
  have hp1 : IntKind.i64.wrap ((p : Int) + 1) = ((p + 1 : Nat) : Int) := (IntWalk.i64_in _ (by omega)).trans (by omega)
  have HP1 := Lib.hid hp1
  clear hp1 c1
  cases hx1 : (x != -1)
  · have HRV := Lib.hid (show rdV x y = false by unfold rdV; rw [hx1]; rfl)
    refine wp_region_class (fun w' => Below w.heap.size w w') 15 (by kernel_rfl) (by kernel_rfl) (Below.refl _ w).drew ?_
    simp only [List.take_succ_cons, List.take_zero, List.drop_succ_cons, List.drop_zero]
    refine quiet_moveV rfl _ rfl (.int .i64 x) rfl ?_
    simp only [Act.put, List.setIfInBounds_toArray, List.set_cons_zero, List.set_cons_succ]
    refine quiet_moveV rfl _ rfl (.int .i64 x) rfl ?_
    simp only [Act.put, List.setIfInBounds_toArray, List.set_cons_zero, List.set_cons_succ]
    refine quiet_still rfl (.bool (x != -1)) (fun w _ => by go_simp) ?_
    simp only [Act.put, List.setIfInBounds_toArray, List.set_cons_zero, List.set_cons_succ]
    rw [hx1]
    refine quiet_moveV rfl _ rfl (.bool false) rfl ?_
    simp only [Act.put, List.setIfInBounds_toArray, List.set_cons_zero, List.set_cons_succ]
    refine quiet_skip (by kernel_rfl) ?_
    simp only [Act.put, List.setIfInBounds_toArray, List.set_cons_zero, List.set_cons_succ]
    refine quiet_skip (by kernel_rfl) ?_
    simp only [Act.put, List.setIfInBounds_toArray, List.set_cons_zero, List.set_cons_succ]
    refine quiet_skip (by kernel_rfl) ?_
    simp only [Act.put, List.setIfInBounds_toArray, List.set_cons_zero, List.set_cons_succ]
    refine quiet_skip (by kernel_rfl) ?_
    simp only [Act.put, List.setIfInBounds_toArray, List.set_cons_zero, List.set_cons_succ]
    refine quiet_skip (by kernel_rfl) ?_
    simp only [Act.put, List.setIfInBounds_toArray, List.set_cons_zero, List.set_cons_succ]
    refine quiet_skip (by kernel_rfl) ?_
    simp only [Act.put, List.setIfInBounds_toArray, List.set_cons_zero, List.set_cons_succ]
    refine quiet_skip (by kernel_rfl) ?_
    simp only [Act.put, List.setIfInBounds_toArray, List.set_cons_zero, List.set_cons_succ]
    refine quiet_skip (by kernel_rfl) ?_
    simp only [Act.put, List.setIfInBounds_toArray, List.set_cons_zero, List.set_cons_succ]
    refine quiet_skip (by kernel_rfl) ?_
    simp only [Act.put, List.setIfInBounds_toArray, List.set_cons_zero, List.set_cons_succ]
    refine quiet_still rfl (.bool false) (fun w _ => by go_simp) ?_
    simp only [Act.put, List.setIfInBounds_toArray, List.set_cons_zero, List.set_cons_succ]
    refine quiet_still rfl (.int .i64 x) (fun w _ => by go_simp) ?_
    simp only [Act.put, List.setIfInBounds_toArray, List.set_cons_zero, List.set_cons_succ]
    unfold wpQuiet
    intro w2 hb
    go_wp2_with fail
    go_ret2
    exact ⟨by rw [HRV.out]; rfl, hb⟩
  · have HRV := Lib.hid (show rdV x y = (x == y) by unfold rdV; rw [hx1]; rfl)
    refine wp_region_class (fun w' => Below w.heap.size w w') 15 (by kernel_rfl) (by kernel_rfl) (Below.refl _ w).drew ?_
    simp only [List.take_succ_cons, List.take_zero, List.drop_succ_cons, List.drop_zero]
    refine quiet_moveV rfl _ rfl (.int .i64 x) rfl ?_
    simp only [Act.put, List.setIfInBounds_toArray, List.set_cons_zero, List.set_cons_succ]
    refine quiet_moveV rfl _ rfl (.int .i64 x) rfl ?_
    simp only [Act.put, List.setIfInBounds_toArray, List.set_cons_zero, List.set_cons_succ]
    refine quiet_still rfl (.bool (x != -1)) (fun w _ => by go_simp) ?_
    simp only [Act.put, List.setIfInBounds_toArray, List.set_cons_zero, List.set_cons_succ]
    rw [hx1]
    refine quiet_moveV rfl _ rfl (.bool true) rfl ?_
    simp only [Act.put, List.setIfInBounds_toArray, List.set_cons_zero, List.set_cons_succ]
    refine quietW_moveV (by kernel_rfl) _ rfl (.int .i64 x) rfl ?_
    simp only [Act.put, List.setIfInBounds_toArray, List.set_cons_zero, List.set_cons_succ]
    refine quietW_moveV (by kernel_rfl) _ rfl (.pointer (some ⟨b, 0, none⟩)) rfl ?_
    simp only [Act.put, List.setIfInBounds_toArray, List.set_cons_zero, List.set_cons_succ]
    refine quietW_moveV (by kernel_rfl) _ rfl (.int .i64 (p : Int)) rfl ?_
    simp only [Act.put, List.setIfInBounds_toArray, List.set_cons_zero, List.set_cons_succ]
    refine quietW_still (by kernel_rfl) (.int .i64 ((p + 1 : Nat) : Int)) (fun w _ => by have := HP1.out; go_simp) ?_
    simp only [Act.put, List.setIfInBounds_toArray, List.set_cons_zero, List.set_cons_succ]
    refine quietW_still (by kernel_rfl) (.pointer (some ⟨b, 0, none⟩)) (fun w _ => by go_simp) ?_
    simp only [Act.put, List.setIfInBounds_toArray, List.set_cons_zero, List.set_cons_succ]
    refine quietW_still (by kernel_rfl) (.pointer (some ⟨b, 3, none⟩)) (fun w _ => by go_simp) ?_
    simp only [Act.put, List.setIfInBounds_toArray, List.set_cons_zero, List.set_cons_succ]
    refine quietW_still (by kernel_rfl) (.pointer (some ⟨b, 3 + (p + 1), none⟩)) (fun w _ => by go_simp; first | done | omega) ?_
    simp only [Act.put, List.setIfInBounds_toArray, List.set_cons_zero, List.set_cons_succ]
    refine quietW_load1 (by kernel_rfl) _ _ rfl ⟨b, 3 + (p + 1), none⟩ rfl (.int .i64 y) (load_int _ _) (fun _ h => (h.cell (p := ⟨b, 3 + (p + 1), none⟩) hb).trans C2.out) ?_
    simp only [Act.put, List.setIfInBounds_toArray, List.set_cons_zero, List.set_cons_succ]
    refine quietW_still (by kernel_rfl) (.bool (x == y)) (fun w _ => by go_simp) ?_
    simp only [Act.put, List.setIfInBounds_toArray, List.set_cons_zero, List.set_cons_succ]
    refine quiet_still rfl (.bool (x == y)) (fun w _ => by go_simp) ?_
    simp only [Act.put, List.setIfInBounds_toArray, List.set_cons_zero, List.set_cons_succ]
    refine quiet_still rfl (.int .i64 x) (fun w _ => by go_simp) ?_
    simp only [Act.put, List.setIfInBounds_toArray, List.set_cons_zero, List.set_cons_succ]
    unfold wpQuiet
    intro w2 hb
    go_wp2_with fail
    go_ret2
    exact ⟨by rw [HRV.out]; rfl, hb⟩
set_option maxHeartbeats 4000000 in
set_option maxRecDepth 100000 in
theorem doF_any (b i p prn : Nat) (W : List Wk) (E : List Ed) (ua ea : Option Addr) (uc ec : Nat) (X : List Int) (x : Wk) (e0 e1 : Ed) (w : World) (hf : FRT w b (prn : Int) (.slice ua W.length uc) (.slice ea E.length ec) X)
    (hu : WS w (.slice ua W.length uc) W) (he : ES w (.slice ea E.length ec) E) (hx : W[i]? = some x) (hp : x.pl = (p : Int)) (hpn : p + 1 < 24) (h0 : E[prn + 2 * i]? = some e0) (h1 : E[prn + 2 * i + 1]? = some e1)
    (hne : ∀ b' off, ea = some ⟨b', off, none⟩ → b' ≠ b) (hW : W.length ≤ 1000) (hprn : prn ≤ 1000) :
    Calls Try.prog 48 #[.pointer (some ⟨b, 0, none⟩), .int .i64 (i : Int)] w fun e w' => (∃ v, e = .returned v) ∧ FRT w' b (prn : Int) (.slice ua W.length uc) (.slice ea E.length ec) ((X.set p e0.to).set (p + 1) e1.to) ∧ w.grownBy w' (some b) := by
  have HF := Lib.hid hf
  have hiW := (List.getElem?_eq_some_iff.1 hx).1
  have hiE := (List.getElem?_eq_some_iff.1 h1).1
  obtain ⟨wb, wo, rfl, hwb, hwr⟩ := ws_get hu hx
  obtain ⟨eb, eo, rfl, heb, er0, _⟩ := es_get he h0
  obtain ⟨_, _, e, _, er1, _⟩ := es_get he h1
  cases e
  have hn := hne eb eo rfl
  have hb := hf.lt
  have a0 := cell_of_row w b 0 _ _ _ hf.1
  have a1 := cell_of_row w b 1 _ _ _ hf.1
  have a2 := cell_of_row w b 2 _ _ _ hf.1
  simp only [List.getElem?_toArray, frC, List.getElem?_cons_succ, List.getElem?_cons_zero] at a0 a1 a2
  have a3 : w.cell? ⟨wb, wo + i * 3 + 1, none⟩ = some (.int .i64 (p : Int)) := by rw [← hp]; exact hwr 1 _ rfl
  have a4 : w.cell? ⟨eb, eo + (prn + 2 * i) * 4 + 2, none⟩ = some (.int .i64 e0.to) := er0 2 _ rfl
  have a5 : w.cell? ⟨eb, eo + (prn + 2 * i + 1) * 4 + 2, none⟩ = some (.int .i64 e1.to) := er1 2 _ rfl
  have A0 := Lib.hid a0
  have A1 := Lib.hid a1
  have A2 := Lib.hid a2
  have A3 := Lib.hid a3
  have m1 : IntKind.i64.wrap (2 * (i : Int)) = 2 * (i : Int) := IntWalk.i64_in _ (by omega)
  have m2 : IntKind.i64.wrap ((prn : Int) + 2 * (i : Int)) = (prn : Int) + 2 * (i : Int) := IntWalk.i64_in _ (by omega)
  obtain ⟨k, hk⟩ : ∃ k, prn + 2 * i = k := ⟨_, rfl⟩
  have m5 : (prn : Int) + 2 * (i : Int) = (k : Int) := by omega
  have m3 : IntKind.i64.wrap ((k : Int) + 1) = ((k + 1 : Nat) : Int) := (IntWalk.i64_in _ (by omega)).trans (by omega)
  have m4 : IntKind.i64.wrap ((p : Int) + 1) = ((p + 1 : Nat) : Int) := (IntWalk.i64_in _ (by omega)).trans (by omega)
  rw [hk] at a4 a5 h0 h1 hiE
  have A4 := Lib.hid a4
  have A5 := Lib.hid a5
  have HK := Lib.hid hk
  have M5 := Lib.hid m5
  have k0 : (0 : Int) ≤ (k : Int) := by omega
  have k1 : (k : Int) < (E.length : Int) := by omega
  have k2 : (k : Int) + 1 < (E.length : Int) := by omega
  have j0 : (0 : Int) ≤ (i : Int) := by omega
  have j1 : (i : Int) < (W.length : Int) := by omega
  have M1 := Lib.hid m1
  have M2 := Lib.hid m2
  have M3 := Lib.hid m3
  have M4 := Lib.hid m4
  clear hf hu he er0 er1 hwr a0 a1 a2 a3 a4 a5 m1 m2 m3 m4 m5 hk
  go_enter Try.func48, Try.ntmps48
  go_wp2_with fail
  refine wp_region_class (fun w' => Below w.heap.size w w') 18 (by kernel_rfl) (by kernel_rfl) (Below.refl _ w).drew ?_
  simp only [List.take_succ_cons, List.take_zero, List.drop_succ_cons, List.drop_zero]
  refine quiet_moveV rfl _ rfl (.pointer (some ⟨b, 0, none⟩)) rfl ?_
  simp only [Act.put, List.setIfInBounds_toArray, List.set_cons_zero, List.set_cons_succ]
  refine quiet_still rfl (.pointer (some ⟨b, 0, none⟩)) (fun w _ => by go_simp) ?_
  simp only [Act.put, List.setIfInBounds_toArray, List.set_cons_zero, List.set_cons_succ]
  refine quiet_still rfl (.pointer (some ⟨b, 0, none⟩)) (fun w _ => by go_simp) ?_
  simp only [Act.put, List.setIfInBounds_toArray, List.set_cons_zero, List.set_cons_succ]
  refine quiet_still rfl (.pointer (some ⟨b, 1, none⟩)) (fun w _ => by go_simp) ?_
  simp only [Act.put, List.setIfInBounds_toArray, List.set_cons_zero, List.set_cons_succ]
  refine quiet_load1 rfl _ _ rfl ⟨b, 1, none⟩ rfl (.slice (some ⟨wb, wo, none⟩) W.length uc) (load_ws _ _) (fun _ h => (h.cell (p := ⟨b, 1, none⟩) hb).trans A1.out) ?_
  simp only [Act.put, List.setIfInBounds_toArray, List.set_cons_zero, List.set_cons_succ]
  refine quiet_moveV rfl _ rfl (.int .i64 (i : Int)) rfl ?_
  simp only [Act.put, List.setIfInBounds_toArray, List.set_cons_zero, List.set_cons_succ]
  refine quiet_still rfl (.pointer (some ⟨wb, wo + i * 3, none⟩)) (fun w _ => by go_simp) ?_
  simp only [Act.put, List.setIfInBounds_toArray, List.set_cons_zero, List.set_cons_succ]
  refine quiet_still rfl (.pointer (some ⟨wb, wo + i * 3 + 1, none⟩)) (fun w _ => by go_simp) ?_
  simp only [Act.put, List.setIfInBounds_toArray, List.set_cons_zero, List.set_cons_succ]
  refine quiet_load1 rfl _ _ rfl ⟨wb, wo + i * 3 + 1, none⟩ rfl (.int .i64 (p : Int)) (load_int _ _) (fun _ h => (h.cell (p := ⟨wb, wo + i * 3 + 1, none⟩) hwb).trans A3.out) ?_
  simp only [Act.put, List.setIfInBounds_toArray, List.set_cons_zero, List.set_cons_succ]
  refine quiet_moveV rfl _ rfl (.pointer (some ⟨b, 0, none⟩)) rfl ?_
  simp only [Act.put, List.setIfInBounds_toArray, List.set_cons_zero, List.set_cons_succ]
  refine quiet_still rfl (.pointer (some ⟨b, 0, none⟩)) (fun w _ => by go_simp) ?_
  simp only [Act.put, List.setIfInBounds_toArray, List.set_cons_zero, List.set_cons_succ]
  refine quiet_still rfl (.pointer (some ⟨b, 0, none⟩)) (fun w _ => by go_simp) ?_
  simp only [Act.put, List.setIfInBounds_toArray, List.set_cons_zero, List.set_cons_succ]
  refine quiet_still rfl (.pointer (some ⟨b, 0, none⟩)) (fun w _ => by go_simp) ?_
  simp only [Act.put, List.setIfInBounds_toArray, List.set_cons_zero, List.set_cons_succ]
  refine quiet_load1 rfl _ _ rfl ⟨b, 0, none⟩ rfl (.int .i64 (prn : Int)) (load_int _ _) (fun _ h => (h.cell (p := ⟨b, 0, none⟩) hb).trans A0.out) ?_
  simp only [Act.put, List.setIfInBounds_toArray, List.set_cons_zero, List.set_cons_succ]
  refine quiet_moveV rfl _ rfl (.int .i64 (i : Int)) rfl ?_
  simp only [Act.put, List.setIfInBounds_toArray, List.set_cons_zero, List.set_cons_succ]
  refine quiet_still rfl (.int .i64 (2 * (i : Int))) (fun w _ => by have := M1.out; go_simp) ?_
  simp only [Act.put, List.setIfInBounds_toArray, List.set_cons_zero, List.set_cons_succ]
  refine quiet_still rfl (.int .i64 ((prn : Int) + 2 * (i : Int))) (fun w _ => by have := M2.out; go_simp) ?_
  simp only [Act.put, List.setIfInBounds_toArray, List.set_cons_zero, List.set_cons_succ]
  rw [M5.out]
  refine quiet_still rfl (.int .i64 (p : Int)) (fun w _ => by go_simp) ?_
  simp only [Act.put, List.setIfInBounds_toArray, List.set_cons_zero, List.set_cons_succ]
  unfold wpQuiet
  intro w2 hb
  have HB := Lib.hid hb
  have hF2 := HF.out.below hb HF.out.lt
  have hbz := hb.size
  have l24 := hF2.2
  obtain ⟨x0, hx0⟩ : ∃ z, X[p]? = some z := ⟨_, List.getElem?_eq_getElem (by omega)⟩
  obtain ⟨x1, hx1⟩ : ∃ z, X[p + 1]? = some z := ⟨_, List.getElem?_eq_getElem (by omega)⟩
  have HF2 := Lib.hid hF2
  have s1 := hF2.cell hx0
  have s2 : w2.drew.frozen? ⟨b, 3 + p, none⟩ = false := frozen_of_heap (W := w2) hF2.1 _
  have hG := hF2.set p e0.to
  have s4 : (w2.drew.setCell ⟨b, 3 + p, none⟩ (.int .i64 e0.to)).cell? ⟨b, 3 + (p + 1), none⟩ = some (.int .i64 x1) := FRT.cell (w := w2.drew.setCell ⟨b, 3 + p, none⟩ (.int .i64 e0.to)) hG (by rw [List.getElem?_set, if_neg (by omega)]; exact hx1)
  have s5 : (w2.drew.setCell ⟨b, 3 + p, none⟩ (.int .i64 e0.to)).frozen? ⟨b, 3 + (p + 1), none⟩ = false := frozen_of_heap (W := w2.drew.setCell ⟨b, 3 + p, none⟩ (.int .i64 e0.to)) hG.1 _
  have hG2 := hG.set (p + 1) e1.to
  have HG2 := Lib.hid (show FRT ((w2.drew.setCell ⟨b, 3 + p, none⟩ (.int .i64 e0.to)).setCell ⟨b, 3 + (p + 1), none⟩ (.int .i64 e1.to)) b (prn : Int) (.slice (some ⟨wb, wo, none⟩) W.length uc) (.slice (some ⟨eb, eo, none⟩) E.length ec) ((X.set p e0.to).set (p + 1) e1.to) from hG2)
  have HGR := Lib.hid (show w.grownBy ((w2.drew.setCell ⟨b, 3 + p, none⟩ (.int .i64 e0.to)).setCell ⟨b, 3 + (p + 1), none⟩ (.int .i64 e1.to)) (some b) from ⟨hb.os, hb.tape, hb.output, by simpa using hb.size, fun k hk hne => ((heap_setCell_other _ _ _ _ (by simp only []; exact fun e => hne (by rw [e]))).trans (heap_setCell_other _ _ _ _ (by simp only []; exact fun e => hne (by rw [e])))).trans (hb.block k hk)⟩)
  have S1 : w2.drew.cell? ⟨b, 2, none⟩ = some (.slice (some ⟨eb, eo, none⟩) E.length ec) ∧ w2.drew.cell? ⟨eb, eo + k * 4 + 2, none⟩ = some (.int .i64 e0.to) ∧ w2.drew.cell? ⟨eb, eo + (k + 1) * 4 + 2, none⟩ = some (.int .i64 e1.to) :=
    ⟨(hb.cell (p := ⟨b, 2, none⟩) (by simp only []; exact HF.out.lt)).trans A2.out, (hb.cell (p := ⟨eb, eo + k * 4 + 2, none⟩) heb).trans A4.out, (hb.cell (p := ⟨eb, eo + (k + 1) * 4 + 2, none⟩) heb).trans A5.out⟩
  have keep : ∀ (V : World) (o : Nat) (z : Value), 3 ≤ o → (V.cell? ⟨b, 2, none⟩ = some (.slice (some ⟨eb, eo, none⟩) E.length ec) ∧ V.cell? ⟨eb, eo + k * 4 + 2, none⟩ = some (.int .i64 e0.to) ∧ V.cell? ⟨eb, eo + (k + 1) * 4 + 2, none⟩ = some (.int .i64 e1.to)) →
      ((V.setCell ⟨b, o, none⟩ z).cell? ⟨b, 2, none⟩ = some (.slice (some ⟨eb, eo, none⟩) E.length ec) ∧ (V.setCell ⟨b, o, none⟩ z).cell? ⟨eb, eo + k * 4 + 2, none⟩ = some (.int .i64 e0.to) ∧ (V.setCell ⟨b, o, none⟩ z).cell? ⟨eb, eo + (k + 1) * 4 + 2, none⟩ = some (.int .i64 e1.to)) := fun V o z ho h =>
    ⟨(World.cell?_setCell_other _ _ _ _ (by intro e; injection e with _ e2; omega)).trans h.1, (World.cell?_setCell_other _ _ _ _ (by intro e; injection e with e1'; exact hn e1'.symm)).trans h.2.1, (World.cell?_setCell_other _ _ _ _ (by intro e; injection e with e1'; exact hn e1'.symm)).trans h.2.2⟩
  have S2 := keep _ (3 + p) (.int .i64 e0.to) (by omega) S1
  have S3 := keep _ (3 + (p + 1)) (.int .i64 e1.to) (by omega) S2
  have i0 : (0 : Int) ≤ (p : Int) := by omega
  have i1 : (p : Int) < 24 := by omega
  have i2 : (p : Int) + 1 < 24 := by omega
  clear hb hF2 hG hG2 keep
  go_wp2_with fail
  refine wp_region_held (S := fun w' => w'.cell? ⟨b, 2, none⟩ = some (.slice (some ⟨eb, eo, none⟩) E.length ec) ∧ w'.cell? ⟨eb, eo + k * 4 + 2, none⟩ = some (.int .i64 e0.to) ∧ w'.cell? ⟨eb, eo + (k + 1) * 4 + 2, none⟩ = some (.int .i64 e1.to)) (by kernel_rfl) ?_
  refine held_takeX (i := 0) rfl (by kernel_rfl) (by kernel_rfl) (by kernel_rfl) (.pointer (some ⟨b, 0, none⟩)) (fun _ _ _ h => h) S1 rfl (fun w _ => by go_simp) ?_
  simp only [Act.put, List.getElem_toArray, List.getElem_cons_succ, List.getElem_cons_zero, List.setIfInBounds_toArray, List.set_cons_zero, List.set_cons_succ]
  refine held_takeX (i := 1) rfl (by kernel_rfl) (by kernel_rfl) (by kernel_rfl) (.int .i64 (p : Int)) (fun _ _ _ h => h) S1 rfl (fun w _ => by go_simp) ?_
  simp only [Act.put, List.getElem_toArray, List.getElem_cons_succ, List.getElem_cons_zero, List.setIfInBounds_toArray, List.set_cons_zero, List.set_cons_succ]
  refine held_takeX (i := 2) rfl (by kernel_rfl) (by kernel_rfl) (by kernel_rfl) (.pointer (some ⟨b, 0, none⟩)) (fun _ _ _ h => h) S1 rfl (fun w _ => by go_simp) ?_
  simp only [Act.put, List.getElem_toArray, List.getElem_cons_succ, List.getElem_cons_zero, List.setIfInBounds_toArray, List.set_cons_zero, List.set_cons_succ]
  refine held_takeX (i := 3) rfl (by kernel_rfl) (by kernel_rfl) (by kernel_rfl) (.int .i64 (p : Int)) (fun _ _ _ h => h) S1 rfl (fun w _ => by go_simp) ?_
  simp only [Act.put, List.getElem_toArray, List.getElem_cons_succ, List.getElem_cons_zero, List.setIfInBounds_toArray, List.set_cons_zero, List.set_cons_succ]
  refine held_takeX (i := 4) rfl (by kernel_rfl) (by kernel_rfl) (by kernel_rfl) (.int .i64 ((p + 1 : Nat) : Int)) (fun _ _ _ h => h) S1 rfl (fun w _ => by have := M4.out; go_simp) ?_
  simp only [Act.put, List.getElem_toArray, List.getElem_cons_succ, List.getElem_cons_zero, List.setIfInBounds_toArray, List.set_cons_zero, List.set_cons_succ]
  refine held_takeX (i := 5) rfl (by kernel_rfl) (by kernel_rfl) (by kernel_rfl) (.pointer (some ⟨b, 0, none⟩)) (fun _ _ _ h => h) S1 rfl (fun w _ => by go_simp) ?_
  simp only [Act.put, List.getElem_toArray, List.getElem_cons_succ, List.getElem_cons_zero, List.setIfInBounds_toArray, List.set_cons_zero, List.set_cons_succ]
  refine held_takeX (i := 6) rfl (by kernel_rfl) (by kernel_rfl) (by kernel_rfl) (.pointer (some ⟨b, 0, none⟩)) (fun _ _ _ h => h) S1 rfl (fun w _ => by go_simp) ?_
  simp only [Act.put, List.getElem_toArray, List.getElem_cons_succ, List.getElem_cons_zero, List.setIfInBounds_toArray, List.set_cons_zero, List.set_cons_succ]
  refine held_takeX (i := 7) rfl (by kernel_rfl) (by kernel_rfl) (by kernel_rfl) (.pointer (some ⟨b, 2, none⟩)) (fun _ _ _ h => h) S1 rfl (fun w _ => by go_simp) ?_
  simp only [Act.put, List.getElem_toArray, List.getElem_cons_succ, List.getElem_cons_zero, List.setIfInBounds_toArray, List.set_cons_zero, List.set_cons_succ]
  refine held_loadX (i := 8) rfl (by kernel_rfl) (by kernel_rfl) (by kernel_rfl) (.slice (some ⟨eb, eo, none⟩) E.length ec) (fun _ _ _ h => h) S1 rfl _ _ rfl ⟨b, 2, none⟩ rfl (load_es _ _) (fun _ h => h.1) ?_
  simp only [Act.put, List.getElem_toArray, List.getElem_cons_succ, List.getElem_cons_zero, List.setIfInBounds_toArray, List.set_cons_zero, List.set_cons_succ]
  refine held_takeX (i := 9) rfl (by kernel_rfl) (by kernel_rfl) (by kernel_rfl) (.int .i64 (k : Int)) (fun _ _ _ h => h) S1 rfl (fun w _ => by go_simp) ?_
  simp only [Act.put, List.getElem_toArray, List.getElem_cons_succ, List.getElem_cons_zero, List.setIfInBounds_toArray, List.set_cons_zero, List.set_cons_succ]
  refine held_takeX (i := 10) rfl (by kernel_rfl) (by kernel_rfl) (by kernel_rfl) (.pointer (some ⟨eb, eo + k * 4, none⟩)) (fun _ _ _ h => h) S1 rfl (fun w _ => by go_simp) ?_
  simp only [Act.put, List.getElem_toArray, List.getElem_cons_succ, List.getElem_cons_zero, List.setIfInBounds_toArray, List.set_cons_zero, List.set_cons_succ]
  refine held_takeX (i := 11) rfl (by kernel_rfl) (by kernel_rfl) (by kernel_rfl) (.pointer (some ⟨eb, eo + k * 4 + 2, none⟩)) (fun _ _ _ h => h) S1 rfl (fun w _ => by go_simp) ?_
  simp only [Act.put, List.getElem_toArray, List.getElem_cons_succ, List.getElem_cons_zero, List.setIfInBounds_toArray, List.set_cons_zero, List.set_cons_succ]
  refine held_loadX (i := 12) rfl (by kernel_rfl) (by kernel_rfl) (by kernel_rfl) (.int .i64 e0.to) (fun _ _ _ h => h) S1 rfl _ _ rfl ⟨eb, eo + k * 4 + 2, none⟩ rfl (load_int _ _) (fun _ h => h.2.1) ?_
  simp only [Act.put, List.getElem_toArray, List.getElem_cons_succ, List.getElem_cons_zero, List.setIfInBounds_toArray, List.set_cons_zero, List.set_cons_succ]
  refine held_takeX (i := 13) rfl (by kernel_rfl) (by kernel_rfl) (by kernel_rfl) (.pointer (some ⟨b, 0, none⟩)) (fun _ _ _ h => h) S1 rfl (fun w _ => by go_simp) ?_
  simp only [Act.put, List.getElem_toArray, List.getElem_cons_succ, List.getElem_cons_zero, List.setIfInBounds_toArray, List.set_cons_zero, List.set_cons_succ]
  refine held_takeX (i := 14) rfl (by kernel_rfl) (by kernel_rfl) (by kernel_rfl) (.pointer (some ⟨b, 0, none⟩)) (fun _ _ _ h => h) S1 rfl (fun w _ => by go_simp) ?_
  simp only [Act.put, List.getElem_toArray, List.getElem_cons_succ, List.getElem_cons_zero, List.setIfInBounds_toArray, List.set_cons_zero, List.set_cons_succ]
  refine held_takeX (i := 15) rfl (by kernel_rfl) (by kernel_rfl) (by kernel_rfl) (.pointer (some ⟨b, 2, none⟩)) (fun _ _ _ h => h) S1 rfl (fun w _ => by go_simp) ?_
  simp only [Act.put, List.getElem_toArray, List.getElem_cons_succ, List.getElem_cons_zero, List.setIfInBounds_toArray, List.set_cons_zero, List.set_cons_succ]
  refine held_loadX (i := 16) rfl (by kernel_rfl) (by kernel_rfl) (by kernel_rfl) (.slice (some ⟨eb, eo, none⟩) E.length ec) (fun _ _ _ h => h) S1 rfl _ _ rfl ⟨b, 2, none⟩ rfl (load_es _ _) (fun _ h => h.1) ?_
  simp only [Act.put, List.getElem_toArray, List.getElem_cons_succ, List.getElem_cons_zero, List.setIfInBounds_toArray, List.set_cons_zero, List.set_cons_succ]
  refine held_takeX (i := 17) rfl (by kernel_rfl) (by kernel_rfl) (by kernel_rfl) (.int .i64 (k : Int)) (fun _ _ _ h => h) S1 rfl (fun w _ => by go_simp) ?_
  simp only [Act.put, List.getElem_toArray, List.getElem_cons_succ, List.getElem_cons_zero, List.setIfInBounds_toArray, List.set_cons_zero, List.set_cons_succ]
  refine held_takeX (i := 18) rfl (by kernel_rfl) (by kernel_rfl) (by kernel_rfl) (.int .i64 ((k + 1 : Nat) : Int)) (fun _ _ _ h => h) S1 rfl (fun w _ => by have := M3.out; go_simp) ?_
  simp only [Act.put, List.getElem_toArray, List.getElem_cons_succ, List.getElem_cons_zero, List.setIfInBounds_toArray, List.set_cons_zero, List.set_cons_succ]
  refine held_takeX (i := 19) rfl (by kernel_rfl) (by kernel_rfl) (by kernel_rfl) (.pointer (some ⟨eb, eo + (k + 1) * 4, none⟩)) (fun _ _ _ h => h) S1 rfl (fun w _ => by go_simp; first | done | exact fun h => absurd h (by omega)) ?_
  simp only [Act.put, List.getElem_toArray, List.getElem_cons_succ, List.getElem_cons_zero, List.setIfInBounds_toArray, List.set_cons_zero, List.set_cons_succ]
  refine held_takeX (i := 20) rfl (by kernel_rfl) (by kernel_rfl) (by kernel_rfl) (.pointer (some ⟨eb, eo + (k + 1) * 4 + 2, none⟩)) (fun _ _ _ h => h) S1 rfl (fun w _ => by go_simp) ?_
  simp only [Act.put, List.getElem_toArray, List.getElem_cons_succ, List.getElem_cons_zero, List.setIfInBounds_toArray, List.set_cons_zero, List.set_cons_succ]
  refine held_loadX (i := 21) rfl (by kernel_rfl) (by kernel_rfl) (by kernel_rfl) (.int .i64 e1.to) (fun _ _ _ h => h) S1 rfl _ _ rfl ⟨eb, eo + (k + 1) * 4 + 2, none⟩ rfl (load_int _ _) (fun _ h => h.2.2) ?_
  simp only [Act.put, List.getElem_toArray, List.getElem_cons_succ, List.getElem_cons_zero, List.setIfInBounds_toArray, List.set_cons_zero, List.set_cons_succ]
  refine held_takeX (i := 22) rfl (by kernel_rfl) (by kernel_rfl) (by kernel_rfl) (.pointer (some ⟨b, 0, none⟩)) (fun _ _ _ h => h) S1 rfl (fun w _ => by go_simp) ?_
  simp only [Act.put, List.getElem_toArray, List.getElem_cons_succ, List.getElem_cons_zero, List.setIfInBounds_toArray, List.set_cons_zero, List.set_cons_succ]
  refine held_takeX (i := 23) rfl (by kernel_rfl) (by kernel_rfl) (by kernel_rfl) (.pointer (some ⟨b, 3, none⟩)) (fun _ _ _ h => h) S1 rfl (fun w _ => by go_simp) ?_
  simp only [Act.put, List.getElem_toArray, List.getElem_cons_succ, List.getElem_cons_zero, List.setIfInBounds_toArray, List.set_cons_zero, List.set_cons_succ]
  refine held_takeX (i := 24) rfl (by kernel_rfl) (by kernel_rfl) (by kernel_rfl) (.pointer (some ⟨b, 3 + p, none⟩)) (fun _ _ _ h => h) S1 rfl (fun w _ => by go_simp) ?_
  simp only [Act.put, List.getElem_toArray, List.getElem_cons_succ, List.getElem_cons_zero, List.setIfInBounds_toArray, List.set_cons_zero, List.set_cons_succ]
  refine held_takeX (i := 26) rfl (by kernel_rfl) (by kernel_rfl) (by kernel_rfl) (.pointer (some ⟨b, 0, none⟩)) (fun _ _ _ h => h) S1 rfl (fun w _ => by go_simp) ?_
  simp only [Act.put, List.getElem_toArray, List.getElem_cons_succ, List.getElem_cons_zero, List.setIfInBounds_toArray, List.set_cons_zero, List.set_cons_succ]
  refine held_takeX (i := 27) rfl (by kernel_rfl) (by kernel_rfl) (by kernel_rfl) (.pointer (some ⟨b, 3, none⟩)) (fun _ _ _ h => h) S1 rfl (fun w _ => by go_simp) ?_
  simp only [Act.put, List.getElem_toArray, List.getElem_cons_succ, List.getElem_cons_zero, List.setIfInBounds_toArray, List.set_cons_zero, List.set_cons_succ]
  refine held_storeX (i := 25) (by kernel_rfl) rfl rfl _ _ _ rfl ⟨b, 3 + p, none⟩ (.int .i64 e0.to) rfl rfl (store_i9 _ _ _ _ s1 s2) S2 ?_
  simp only [Act.put, List.getElem_toArray, List.getElem_cons_succ, List.getElem_cons_zero, List.setIfInBounds_toArray, List.set_cons_zero, List.set_cons_succ]
  refine held_takeX (i := 28) rfl (by kernel_rfl) (by kernel_rfl) (by kernel_rfl) (.pointer (some ⟨b, 3 + (p + 1), none⟩)) (fun _ _ _ h => h) S2 rfl (fun w _ => by go_simp; first | done | omega | exact fun h => absurd h (by omega)) ?_
  simp only [Act.put, List.getElem_toArray, List.getElem_cons_succ, List.getElem_cons_zero, List.setIfInBounds_toArray, List.set_cons_zero, List.set_cons_succ]
  refine held_storeX (i := 29) (by kernel_rfl) rfl rfl _ _ _ rfl ⟨b, 3 + (p + 1), none⟩ (.int .i64 e1.to) rfl rfl (store_i9 _ _ _ _ s4 s5) S3 ?_
  simp only [Act.put, List.getElem_toArray, List.getElem_cons_succ, List.getElem_cons_zero, List.setIfInBounds_toArray, List.set_cons_zero, List.set_cons_succ]
  refine wpAnyH_done (by kernel_rfl) ?_ _
  clear s1 s2 s4 s5 S1 S2 S3
  have e8 : ({ heap := w2.heap, tape := w2.tape, drawn := w2.drawn + 1, os := w2.os, output := w2.output } : World) = w2.drew := rfl
  try rw [e8]
  clear e8
  go_wp2_with fail
  refine bodyPost_end (results_none rfl _ _ _) rfl ?_
  exact ⟨⟨_, rfl⟩, HG2.out, HGR.out⟩
end Go.Proofs.Ytcjbjlepgdggpaa
