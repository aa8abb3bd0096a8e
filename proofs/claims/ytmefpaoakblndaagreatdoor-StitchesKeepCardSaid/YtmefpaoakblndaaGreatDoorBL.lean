/- A normal form in memory: the three cells of the struct, and the row of its factors, from wherever it begins in its block. -/
import Derived.Test.YtmefpaoakblndaaGreatDoorBH
import Derived.Deep.QuietTactic
import Derived.BigQuiet
namespace Go.Proofs.YtmefpaoakblndaaGreatDoor
open Go.RowKit

structure FR (B : Nat) (w : World) (ao : Option Addr) (cap : Nat) (L : List Pm) : Prop where
  le : L.length ≤ cap
  mx : cap ≤ maxLen
  row : 0 < cap → ∃ b off, ao = some ⟨b, off, none⟩ ∧ B ≤ b ∧ b < w.heap.size ∧ (∀ k a, L[k]? = some a → w.rangeAt b (off + k * 12) (pl a)) ∧ w.there b off (cap * 12)
theorem FR.below {B : Nat} {w w' : World} {ao : Option Addr} {cap : Nat} {L : List Pm} (h : FR B w ao cap L) (hb : Below w.heap.size w w') : FR B w' ao cap L :=
  ⟨h.le, h.mx, fun hc => by
    obtain ⟨b, off, e, hB, hs, hr, ht⟩ := h.row hc
    exact ⟨b, off, e, hB, by have := hb.size; omega, fun k a hk => range_below (hr k a hk) hb hs, there_below ht hb hs⟩⟩
/-- At an element. -/
theorem FR.at {B : Nat} {w : World} {ao : Option Addr} {cap k : Nat} {L : List Pm} {a : Pm} (h : FR B w ao cap L) (hk : L[k]? = some a) :
    ∃ b off, ao = some ⟨b, off, none⟩ ∧ B ≤ b ∧ b < w.heap.size ∧ w.rangeAt b (off + k * 12) (pl a) ∧ w.there b (off + k * 12) 12 := by
  have hlt := (List.getElem?_eq_some_iff.1 hk).1
  have hle := h.le
  obtain ⟨b, off, e, hB, hs, hr, ht⟩ := h.row (by omega)
  refine ⟨b, off, e, hB, hs, hr k a hk, fun j hj => ?_⟩
  have := ht (k * 12 + j) (by omega)
  rwa [← Nat.add_assoc] at this
theorem FR.set {B b off : Nat} {w : World} {cap k : Nat} {L : List Pm} (h : FR B w (some ⟨b, off, none⟩) cap L) (hk : k < L.length) (x : Pm) :
    FR B (w.setCells b (off + k * 12) (pl x)) (some ⟨b, off, none⟩) cap (L.set k x) := by
  have hle := h.le
  refine ⟨by rw [List.length_set]; exact hle, h.mx, fun hc => ?_⟩
  obtain ⟨b', off', e, hB, hs, hr, ht⟩ := h.row hc
  cases e
  refine ⟨b, off, rfl, hB, by rw [size_setCells']; exact hs, fun j a hj => ?_, World.there_setCells ht _ _ _⟩
  rw [List.getElem?_set] at hj
  by_cases e : k = j
  · subst e
    rw [if_pos rfl, if_pos hk] at hj
    obtain rfl := Option.some.inj hj
    refine World.rangeAt_setCells_same w b _ _ (fun i hi => ?_)
    rw [pl_len] at hi
    have := ht (k * 12 + i) (by omega)
    rwa [← Nat.add_assoc] at this
  · rw [if_neg e] at hj
    refine World.rangeAt_setCells_apart (hr j a hj) _ _ _ (.inr ?_)
    rw [pl_len, pl_len]
    omega

/-- The struct in block fb, its factors in a row behind it. -/
structure NS (fb n : Nat) (p : Int) (ao : Option Addr) (cap : Nat) (L : List Pm) (w : World) : Prop where
  c0 : w.cell? ⟨fb, 0, none⟩ = some (.int .i64 (n : Int))
  c1 : w.cell? ⟨fb, 1, none⟩ = some (.int .i64 p)
  c2 : w.cell? ⟨fb, 2, none⟩ = some (.slice ao L.length cap)
  f1 : w.frozen? ⟨fb, 1, none⟩ = false
  f2 : w.frozen? ⟨fb, 2, none⟩ = false
  sz : fb < w.heap.size
  fr : FR (fb + 1) w ao cap L
theorem NS.below {fb n : Nat} {p : Int} {ao : Option Addr} {cap : Nat} {L : List Pm} {w w' : World} (h : NS fb n p ao cap L w) (hb : Below w.heap.size w w') : NS fb n p ao cap L w' :=
  ⟨(hb.cell (p := ⟨fb, 0, none⟩) h.sz).trans h.c0, (hb.cell (p := ⟨fb, 1, none⟩) h.sz).trans h.c1, (hb.cell (p := ⟨fb, 2, none⟩) h.sz).trans h.c2, (hb.frozen (p := ⟨fb, 1, none⟩) h.sz).trans h.f1, (hb.frozen (p := ⟨fb, 2, none⟩) h.sz).trans h.f2,
    by have := hb.size; have := h.sz; omega, h.fr.below hb⟩
theorem NS.drew {fb n : Nat} {p : Int} {ao : Option Addr} {cap : Nat} {L : List Pm} {w : World} (h : NS fb n p ao cap L w) : NS fb n p ao cap L w.drew := h.below (Below.refl _ w).drew
theorem cell_setCells_block {w : World} {b o b' : Nat} {vs : List Value} {j : Nat} (h : b' ≠ b) : (w.setCells b o vs).cell? ⟨b', j, none⟩ = w.cell? ⟨b', j, none⟩ :=
  World.cell?_setCells_out b _ _ _ _ (fun e => absurd e h)
theorem NS.set {fb n : Nat} {p : Int} {b off cap k : Nat} {L : List Pm} {w : World} (h : NS fb n p (some ⟨b, off, none⟩) cap L w) (hb : fb < b) (hk : k < L.length) (x : Pm) :
    NS fb n p (some ⟨b, off, none⟩) cap (L.set k x) (w.setCells b (off + k * 12) (pl x)) :=
  ⟨(cell_setCells_block (by omega)).trans h.c0, (cell_setCells_block (by omega)).trans h.c1, by rw [cell_setCells_block (by omega), List.length_set]; exact h.c2,
    (World.frozen?_setCells b _ _ _ _).trans h.f1, (World.frozen?_setCells b _ _ _ _).trans h.f2, by rw [size_setCells']; exact h.sz, h.fr.set hk x⟩
theorem cell_set_ne {w : World} {b o o' : Nat} {v : Value} (h : o' ≠ o) : (w.setCell ⟨b, o, none⟩ v).cell? ⟨b, o', none⟩ = w.cell? ⟨b, o', none⟩ := World.cell?_setCell_other _ _ _ _ (by intro e; cases e; exact h rfl)
theorem FR.store {B b o : Nat} {w : World} {ao : Option Addr} {cap : Nat} {L : List Pm} {v : Value} (h : FR B w ao cap L) (hb : b < B) : FR B (w.setCell ⟨b, o, none⟩ v) ao cap L :=
  ⟨h.le, h.mx, fun hc => by
    obtain ⟨b', off, e, hB, hs, hr, ht⟩ := h.row hc
    have hh := heap_setCell_other w ⟨b, o, none⟩ b' v (by show b' ≠ b; omega)
    exact ⟨b', off, e, hB, by simpa [World.setCell] using hs, fun k a hk j u hj => (World.cell?_of_block (a := ⟨b', off + k * 12 + j, none⟩) hh).trans (hr k a hk j u hj), fun j hj => by
      rw [World.cell?_of_block (a := ⟨b', off + j, none⟩) hh, World.frozen?_of_block (a := ⟨b', off + j, none⟩) hh]
      exact ht j hj⟩⟩
/-- The power is stored. -/
theorem NS.power {fb n : Nat} {p : Int} {ao : Option Addr} {cap : Nat} {L : List Pm} {w : World} (h : NS fb n p ao cap L w) (q : Int) : NS fb n q ao cap L (w.setCell ⟨fb, 1, none⟩ (.int .i64 q)) := by
  exact ⟨(cell_set_ne (by omega)).trans h.c0, World.cell?_setCell_same _ _ _ h.c1, (cell_set_ne (by omega)).trans h.c2, by simpa using h.f1, by simpa using h.f2, by simpa [World.setCell] using h.sz, h.fr.store (by omega)⟩

theorem quiet_load1 {P : Program} {ops : Array Oper} {C : World → Prop} {Q : Act → Prop} {a : Act} {o : Oper} {rest : List Oper} (hg : o.guard = none) (ty : TypeId) (x : Operand) (ho : o.op = .load ty x) (ad : Addr) (hx : a.eval x = .pointer (some ad)) (v : Value)
    (hl : ∀ w, w.cell? ad = some v → (Instr.loadAt ty (.pointer (some ad))).run P w = .ok v w) (hS : ∀ w, C w → w.cell? ad = some v) (h : wpQuiet P ops C Q rest (a.put o.dst v)) : wpQuiet P ops C Q (o :: rest) a :=
  quiet_still hg v (fun w hw => by
    unfold execOp
    simp only [ho, hx, Sem.run_bind, hl w (hS w hw), Result.andThen_ok, Sem.run_pure]) h
theorem load_int (ad : Addr) (v : Value) (w : World) (h : w.cell? ad = some v) : (Instr.loadAt 3 (.pointer (some ad))).run Tryz.prog w = .ok v w := by
  simp [Instr.loadAt, Instr.sureAddr, loadVar, go_sem, Tryz.isAgg3, h]
theorem load_fac (ad : Addr) (v : Value) (w : World) (h : w.cell? ad = some v) : (Instr.loadAt 103 (.pointer (some ad))).run Tryz.prog w = .ok v w := by
  simp [Instr.loadAt, Instr.sureAddr, loadVar, go_sem, Tryz.isAgg103, h]
theorem entTurn (args : Array Value) (w : World) : (callFunc 147 args).run Tryz.prog w = .ok (.enter 147 args) w := enter_of Tryz.func147 (by decide +kernel) (by intro h; cases h) args w
theorem turned_pl (s : Pm) (n : Nat) (hn : n ≤ 12) (hs : s.In n) (w : World) :
    Calls Tryz.prog 147 #[.agg (pl s).toArray, .int .i64 (n : Int)] w fun e w' => e = .returned (.agg (pl (tu n s)).toArray) ∧ Below w.heap.size w w' := turned_any s n hn hs w

set_option maxHeartbeats 600000 in
set_option maxRecDepth 100000 in
theorem undoDelta_any (fb n : Nat) (p : Int) (ao : Option Addr) (cap : Nat) (L : List Pm) (w : World) (hn : n ≤ 12) (hi : AllIn n L) (hp : -100000 < p ∧ p < 100000) (hs : NS fb n p ao cap L w) :
    Calls Tryz.prog 134 #[.pointer (some ⟨fb, 0, none⟩)] w fun e w' => e = .returned (.tuple #[]) ∧ NS fb n (p - 1) ao cap (L.map (tu n)) w' ∧ Below fb w w' := by
  have hc1 := hs.c1
  have hf1 := hs.f1
  have hwp : IntKind.i64.wrap (p - 1) = p - 1 := IntWalk.i64_in _ (by omega)
  have hs1 := hs.power (p - 1)
  have hc2 := hs1.c2
  have hlen := hs.fr.le
  have hmx := hs.fr.mx
  unfold maxLen at hmx
  have Hs1 := Lib.hid hs1
  clear hs hs1
  go_enter Tryz.func134, Tryz.ntmps134
  go_wp2_with fail
  have hML : ∀ k, k ≤ L.length → ((L.take k).map (tu n) ++ L.drop k).length = L.length := fun k hk => by simp; omega
  go_loopw [16] (fun i wr => ∃ k : Nat, k ≤ L.length ∧ i = .int .i64 k ∧ NS fb n (p - 1) ao cap ((L.take k).map (tu n) ++ L.drop k) wr ∧ Below fb w wr) (fun i _ => L.length - (intOf i).toNat)
  case atStart => exact ⟨0, Nat.zero_le _, rfl, by simpa using Hs1.out, (Below.refl fb w).setCell (p := ⟨fb, 1, none⟩) (Nat.le_refl _) _⟩
  case round =>
    obtain ⟨k, hk, rfl, hns, hbw⟩ := hrel
    by_cases hkl : k < L.length
    · obtain ⟨x, hx⟩ : ∃ x, L[k]? = some x := ⟨_, List.getElem?_eq_getElem hkl⟩
      have hM : ((L.take k).map (tu n) ++ L.drop k)[k]? = some x := by
        rw [List.getElem?_append_right (by simp; omega)]
        simp [Nat.min_eq_left hk, hx]
      have hxi := hi x (List.mem_of_getElem? hx)
      obtain ⟨b, off, rfl, hB, hs, hr, ht⟩ := hns.fr.at hM
      have Hns := Lib.hid hns
      have k0 : (0 : Int) ≤ (k : Int) := by omega
      have k1 : (k : Int) < (L.length : Int) := by omega
      clear hns Hs1 hc1 hf1 hc2
      go_wp2_with (first
        | (refine wpList_load_mid rfl 108 (.tmp 19) rfl b (off + k * 12) rfl (pl x) _ (by assumption) Tryz.underlying108 hd59 (hi59L _) ?_)
        | (refine wpList_store_row rfl 108 (.tmp 3) (.tmp 20) rfl wr.heap.size (pl x).toArray rfl rfl 108 _ (heap_alloc_new _ _) (hi59A _) rfl (all_oneCell_toArray (pl_one _)) ?_))
      have hb1 := below_setRow (below_alloc wr (.cells (pcF fun _ => 0) 108)) (Nat.le_refl _) (pl x).toArray
      have hr3 := World.rangeAt_drew _ _ _ _ |>.2 (pl_row (setRow_heap (wr.alloc _) wr.heap.size _ (pl x).toArray 108 _ (heap_alloc_new wr (.cells (pcF fun _ => 0) 108))))
      have hz3 := (Array.getElem?_eq_some_iff.1 (setRow_heap (wr.alloc _) wr.heap.size _ (pl x).toArray 108 _ (heap_alloc_new wr (.cells (pcF fun _ => 0) 108)))).1
      have hfz := Hns.out.sz
      refine wp_region_class (fun w' => NS fb n (p - 1) (some ⟨b, off, none⟩) cap ((L.take k).map (tu n) ++ L.drop k) w' ∧ w'.rangeAt wr.heap.size 0 (pl x) ∧ wr.heap.size < w'.heap.size ∧ Below fb w w') 12 (by kernel_rfl) (by kernel_rfl)
        ⟨(Hns.out.below hb1).drew, hr3, hz3, (hbw.trans (hb1.mono (by omega))).drew⟩ ?_
      simp only [List.take_succ_cons, List.take_zero, List.drop_succ_cons, List.drop_zero, Act.put]
      refine quiet_move rfl _ rfl ?_
      simp only [Act.put, List.setIfInBounds_toArray, List.set_cons_zero, List.set_cons_succ]
      refine quiet_still rfl (.pointer (some ⟨fb, 0, none⟩)) (fun w _ => by go_simp) ?_
      simp only [Act.put, List.setIfInBounds_toArray, List.set_cons_zero, List.set_cons_succ]
      refine quiet_still rfl (.pointer (some ⟨fb, 2, none⟩)) (fun w _ => by go_simp) ?_
      simp only [Act.put, List.setIfInBounds_toArray, List.set_cons_zero, List.set_cons_succ]
      refine quiet_load1 rfl _ _ rfl ⟨fb, 2, none⟩ rfl _ (load_fac _ _) (fun _ h => h.1.c2) ?_
      simp only [Act.put, List.setIfInBounds_toArray, List.set_cons_zero, List.set_cons_succ]
      refine quiet_move rfl _ rfl ?_
      simp only [Act.put, List.setIfInBounds_toArray, List.set_cons_zero, List.set_cons_succ]
      refine quiet_load_mid rfl 108 (.tmp 3) rfl wr.heap.size 0 rfl (pl x) _ (fun _ h => h.2.1) Tryz.underlying108 hd59 (hi59L _) ?_
      simp only [Act.put, List.setIfInBounds_toArray, List.set_cons_zero, List.set_cons_succ]
      refine quiet_move rfl _ rfl ?_
      simp only [Act.put, List.setIfInBounds_toArray, List.set_cons_zero, List.set_cons_succ]
      refine quiet_still rfl (.pointer (some ⟨fb, 0, none⟩)) (fun w _ => by go_simp) ?_
      simp only [Act.put, List.setIfInBounds_toArray, List.set_cons_zero, List.set_cons_succ]
      refine quiet_still rfl (.pointer (some ⟨fb, 0, none⟩)) (fun w _ => by go_simp) ?_
      simp only [Act.put, List.setIfInBounds_toArray, List.set_cons_zero, List.set_cons_succ]
      refine quiet_load1 rfl _ _ rfl ⟨fb, 0, none⟩ rfl _ (load_int _ _) (fun _ h => h.1.c0) ?_
      simp only [Act.put, List.setIfInBounds_toArray, List.set_cons_zero, List.set_cons_succ]
      refine quiet_call rfl 147 _ _ rfl entTurn (.agg (pl (tu n x)).toArray) (fun wc h => (turned_pl x n hn hxi wc).mono fun e w' ⟨he, hb⟩ => ⟨he, h.1.below hb, range_below h.2.1 hb h.2.2.1, Nat.lt_of_lt_of_le h.2.2.1 hb.size, h.2.2.2.trans (hb.mono (Nat.le_of_lt h.1.sz))⟩) ?_
      simp only [Act.put, List.setIfInBounds_toArray, List.set_cons_zero, List.set_cons_succ]
      rw [hML k hk]
      refine quiet_still rfl (.pointer (some ⟨b, off + k * 12, none⟩)) (fun w _ => by go_simp) ?_
      simp only [Act.put, List.setIfInBounds_toArray, List.set_cons_zero, List.set_cons_succ]
      refine wpQuiet_nil fun w4 h4 => ?_
      obtain ⟨h1, -, -, h5⟩ := h4
      obtain ⟨b', off', e, hB', hs', hr', ht'⟩ := h1.fr.at hM
      cases e
      refine wpList_store_mid rfl 108 (.tmp 32) (.tmp 31) rfl b (off + k * 12) (pl (tu n x)).toArray rfl rfl (by rw [sizeP]; exact ht') (hi59A _) (all_oneCell_toArray (pl_one _)) ?_
      have hM1 : ((L.take k).map (tu n) ++ L.drop k).set k (tu n x) = (L.take (k + 1)).map (tu n) ++ L.drop (k + 1) := by
        rw [List.set_append_right _ _ (by simp; omega)]
        have e1 : k - ((L.take k).map (tu n)).length = 0 := by simp; omega
        have e2 : L.drop k = x :: L.drop (k + 1) := by rw [List.drop_eq_getElem_cons hkl]; congr 1; exact Option.some.inj ((List.getElem?_eq_getElem hkl).symm.trans hx)
        rw [e1, e2, List.set_cons_zero, List.take_add_one, hx]
        simp
      have hN := h1.set (by omega) (by rw [hML k hk]; exact hkl) (tu n x)
      rw [hM1] at hN
      have HN := Lib.hid hN
      have HB := Lib.hid (below_setCells h5 (by omega : fb ≤ b) (off + k * 12) (pl (tu n x)))
      clear h1 h5 hr' ht' hN
      simp only [Act.put]
      go_wp2_with fail
      go_roundw
      case rel => exact ⟨k + 1, hkl, by go_num, HN.out, HB.out⟩
      case measure => (simp [intOf] <;> omega)
    · obtain rfl : k = L.length := by omega
      rw [List.take_length, List.drop_length, List.append_nil] at hns
      go_wp2_with fail
      exact ⟨rfl, .tuple #[], results_none rfl _ _ _, rfl, hns, hbw⟩
end Go.Proofs.YtmefpaoakblndaaGreatDoor
