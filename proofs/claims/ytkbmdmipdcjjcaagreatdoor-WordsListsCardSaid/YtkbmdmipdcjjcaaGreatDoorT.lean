/- bestText of package words. -/
import Derived.Test.YtkbmdmipdcjjcaaGreatDoorS
namespace Go.Proofs.YtkbmdmipdcjjcaaGreatDoor
open Go.RowKit Go.Shelf
attribute [local go_sem] Oper.semAt_some

set_option maxHeartbeats 400000 in
theorem itemsAt_any (sv : Value) (a : Option Addr) (n c : Nat) (hsv : sv = .slice a n c) (i : Int) (w : World) :
    Calls Tryz.prog 41 #[sv, .int .i64 i] w fun e w' => e = .returned (.func (.func 59) #[] #[.pointer (some ⟨w.heap.size, 0, none⟩), .pointer (some ⟨w.heap.size + 1, 0, none⟩)]) ∧ w' = (w.alloc (.cells #[sv] 22)).alloc (.cells #[.int .i64 i] 3) := by
  subst hsv
  go_enter Tryz.func41, Tryz.ntmps41
  go_wp2_with fail
  go_ret
  exact ⟨rfl, rfl⟩

theorem items_stops (n : Nat) (hn : 1 ≤ n) (Bl Bi n₀ b off cap i : Nat) (zs : List Int) (hlen : zs.length ≤ 500) (hz : ∀ z ∈ zs, 0 ≤ z ∧ z ≤ 9999) (hi : i < zs.length) (hb : b < n₀) (hBl : Bl < n₀) (hBi : Bi < n₀) (hn9 : 9 ≤ n₀) (X : Nat) (hX9 : 9 ≤ X) (hXl : Bl ≠ X) (hXi : Bi ≠ X) (hXb : b ≠ X)
    (w : World) (g : Glob w) (hn₀ : n₀ ≤ w.heap.size) (hcl : w.cell? ⟨Bl, 0, none⟩ = some (.slice (some ⟨b, off, none⟩) zs.length cap)) (hci : w.cell? ⟨Bi, 0, none⟩ = some (.int .i64 i)) (hcs : ∀ j, j < zs.length → w.cell? ⟨b, off + j, none⟩ = some (.int .i64 (zs.getD j 0))) :
    SeqStopsK Fence.wide n Tryz.prog 59 #[.pointer (some ⟨Bl, 0, none⟩), .pointer (some ⟨Bi, 0, none⟩)] (fun x : ItA zs.length => #[Value.string x.1.1, .int .i64 (x.1.2 : Int)]) (BelowX X n₀) (fun ys => ys.map (·.1) = itL zs i) (fun _ => True) (2 * zs.length + 1) w := fun l J Jx W hW hJ _ hY h0 => by
  have hWn : Below n₀ w W := hW.mono hn₀
  refine (items1_in n hn l Bl Bi n₀ b off cap i zs hlen hz hi hb hBl hBi hn9 X hX9 hXl hXi hXb J Jx hY W (g.next hW) (Nat.le_trans hn₀ hW.size) ((hWn.cell (p := ⟨Bl, 0, none⟩) hBl).trans hcl) ((hWn.cell (p := ⟨Bi, 0, none⟩) hBi).trans hci) (fun j hj => (hWn.cell (p := ⟨b, off + j, none⟩) hb).trans (hcs j hj)) ?_ h0).mono ?_
  · intro pre A B hA hAB
    exact hJ pre A B none hA ⟨hAB.os, hAB.tape, hAB.output, hAB.size, fun k hk _ => hAB.block k hk⟩ (fun r e => by cases e)
  · rintro e W' ⟨he, ⟨ys, h1, h2⟩ | ⟨pre, h2⟩⟩
    · exact ⟨he, .inl ⟨ys, h1, h2⟩⟩
    · exact ⟨he, .inr ⟨pre, trivial, h2⟩⟩

theorem cell_new_l (W : World) (v : Value) (t : TypeId) : (W.alloc (.cells #[v] t)).cell? ⟨W.heap.size, 0, none⟩ = some v ∧ (W.alloc (.cells #[v] t)).frozen? ⟨W.heap.size, 0, none⟩ = false := ⟨cell_new0 W v t, frozen_new0 W v t⟩
theorem cell_alloc_l {W : World} {a : Addr} {v : Value} (o : Obj) (h : W.cell? a = some v) : (W.alloc o).cell? a = some v := cell_kept h (World.grownBy_alloc W o none) (fun r e => by cases e)
theorem frozen_alloc_l {W : World} {a : Addr} {v : Value} (o : Obj) (h : W.cell? a = some v) (hf : W.frozen? a = false) : (W.alloc o).frozen? a = false := (frozen_kept h (World.grownBy_alloc W o none) (fun r e => by cases e)).trans hf
/-- One more text: it is taken if there is none yet, or if it comes first. -/
def stepB (T : Nat → ByteArray) (best : ByteArray) (x : ByteArray × Nat) : ByteArray :=
  if best.size = 0 then x.1 ++ T x.2 else if ltB (x.1 ++ T x.2).data.toList best.data.toList then x.1 ++ T x.2 else best
def bestOf (T : Nat → ByteArray) (l : List (ByteArray × Nat)) : ByteArray := l.foldl (stepB T) ⟨#[]⟩
theorem bestOf_snoc (T : Nat → ByteArray) (l : List (ByteArray × Nat)) (x : ByteArray × Nat) : bestOf T (l ++ [x]) = stepB T (bestOf T l) x := by simp [bestOf]

theorem bestOf_size (T : Nat → ByteArray) (hT : ∀ j, (T j).size ≤ 100000) (l : List (ByteArray × Nat)) (h : ∀ x ∈ l, x.1.size ≤ 64) : (bestOf T l).size ≤ 100064 := by
  unfold bestOf
  have : ∀ (l : List (ByteArray × Nat)) (b : ByteArray), b.size ≤ 100064 → (∀ x ∈ l, x.1.size ≤ 64) → (l.foldl (stepB T) b).size ≤ 100064 := by
    intro l
    induction l with
    | nil => intro b hb _; exact hb
    | cons x l ih =>
      intro b hb hx
      refine ih _ ?_ (fun y hy => hx y (List.mem_cons_of_mem _ hy))
      have h1 := hx x (List.mem_cons_self ..)
      have h2 := hT x.2
      unfold stepB
      split
      · rw [ByteArray.size_append]; omega
      · split
        · rw [ByteArray.size_append]; omega
        · exact hb
  exact this l _ (Nat.zero_le _) h

theorem BelowX.setX {X B : Nat} {W : World} (v : Value) : BelowX X B W (W.setCell ⟨X, 0, none⟩ v) :=
  ⟨rfl, rfl, rfl, by simp, fun k _ hx => heap_setCell_other _ _ _ _ hx⟩

set_option maxRecDepth 100000 in
set_option maxHeartbeats 1000000 in
theorem bestText_any (b off cap i tb : Nat) (zs : List Int) (T : Nat → ByteArray) (tcap : Nat) (w : World) (g : Glob w) (hlen : zs.length ≤ 500) (hz : ∀ z ∈ zs, 0 ≤ z ∧ z ≤ 9999) (hi : i < zs.length)
    (hb : b < w.heap.size) (htb : tb < w.heap.size) (hcs : ∀ j, j < zs.length → w.cell? ⟨b, off + j, none⟩ = some (.int .i64 (zs.getD j 0)))
    (hts : ∀ j, j ≤ zs.length → w.cell? ⟨tb, j, none⟩ = some (.string (T j))) (hT : ∀ j, (T j).size ≤ 100000) :
    Calls Tryz.prog 19 #[.slice (some ⟨b, off, none⟩) zs.length cap, .int .i64 i, .slice (some ⟨tb, 0, none⟩) (zs.length + 1) tcap] w fun e w' => e = .returned (.string (bestOf T (itL zs i))) ∧ Below w.heap.size w w' := by
  refine (callsIn_wide (n := 9)).1 ?_
  refine callsIn_of_wp_marks Tryz.func19 rfl trivial ?_ rfl
  simp only [Tryz.ntmps19, List.size_toArray, List.length_cons, List.length_nil, Nat.reduceAdd, Nat.reduceSub, Array.replicate_succ, Array.replicate_zero, List.push_toArray, List.append_toArray, List.nil_append, List.cons_append]
  gi_wp2_with fail
  refine ⟨trivial, ?_⟩
  refine (callsIn_wide.2 (itemsAt_any _ _ _ _ rfl _ _)).mono ?_
  rintro e w' ⟨rfl, rfl⟩
  gi_wp2_with fail
  have hs0 : w.heap.size + 1 + 1 + 1 = w.heap.size + 3 := rfl
  have hs1 : w.heap.size + 1 + 1 = w.heap.size + 2 := rfl
  rw [hs0, hs1]
  clear hs0 hs1
  have hB0 : Below w.heap.size w ((((w.alloc (.cells #[.slice (some ⟨tb, 0, none⟩) (zs.length + 1) tcap] 47)).alloc (.cells #[.string ⟨#[]⟩] 9)).alloc (.cells #[.slice (some ⟨b, off, none⟩) zs.length cap] 22)).alloc (.cells #[.int .i64 (i : Int)] 3)) :=
    ((((Below.refl _ w).alloc (Nat.le_refl _) _).alloc (by simp) _).alloc (by simp; omega) _).alloc (by simp; omega) _
  have c0 := (cell_new_l w (.slice (some ⟨tb, 0, none⟩) (zs.length + 1) tcap) 47).1
  have c1 := cell_new_l (w.alloc (.cells #[.slice (some ⟨tb, 0, none⟩) (zs.length + 1) tcap] 47)) (.string ⟨#[]⟩) 9
  have c2 := (cell_new_l ((w.alloc (.cells #[.slice (some ⟨tb, 0, none⟩) (zs.length + 1) tcap] 47)).alloc (.cells #[.string ⟨#[]⟩] 9)) (.slice (some ⟨b, off, none⟩) zs.length cap) 22).1
  have c3 := (cell_new_l (((w.alloc (.cells #[.slice (some ⟨tb, 0, none⟩) (zs.length + 1) tcap] 47)).alloc (.cells #[.string ⟨#[]⟩] 9)).alloc (.cells #[.slice (some ⟨b, off, none⟩) zs.length cap] 22)) (.int .i64 (i : Int)) 3).1
  simp only [World.size_alloc] at c1 c2 c3
  have k0 := cell_alloc_l (.cells #[.int .i64 (i : Int)] 3) (cell_alloc_l (.cells #[.slice (some ⟨b, off, none⟩) zs.length cap] 22) (cell_alloc_l (.cells #[.string ⟨#[]⟩] 9) c0))
  have k1 := cell_alloc_l (.cells #[.int .i64 (i : Int)] 3) (cell_alloc_l (.cells #[.slice (some ⟨b, off, none⟩) zs.length cap] 22) c1.1)
  have f1 := frozen_alloc_l (.cells #[.int .i64 (i : Int)] 3) (cell_alloc_l (.cells #[.slice (some ⟨b, off, none⟩) zs.length cap] 22) c1.1) (frozen_alloc_l (.cells #[.slice (some ⟨b, off, none⟩) zs.length cap] 22) c1.1 c1.2)
  have k2 := cell_alloc_l (.cells #[.int .i64 (i : Int)] 3) c2
  have hsz : ((((w.alloc (.cells #[.slice (some ⟨tb, 0, none⟩) (zs.length + 1) tcap] 47)).alloc (.cells #[.string ⟨#[]⟩] 9)).alloc (.cells #[.slice (some ⟨b, off, none⟩) zs.length cap] 22)).alloc (.cells #[.int .i64 (i : Int)] 3)).heap.size = w.heap.size + 4 := by simp
  clear c0 c1 c2
  generalize ((((w.alloc (.cells #[.slice (some ⟨tb, 0, none⟩) (zs.length + 1) tcap] 47)).alloc (.cells #[.string ⟨#[]⟩] 9)).alloc (.cells #[.slice (some ⟨b, off, none⟩) zs.length cap] 22)).alloc (.cells #[.int .i64 (i : Int)] 3)) = W0 at *
  have hw9 := g.sz
  have hstop := items_stops (9 - 1) (by omega) (w.heap.size + 2) (w.heap.size + 3) (w.heap.size + 4) b off cap i zs hlen hz hi (by omega) (by omega) (by omega) (by omega) (w.heap.size + 1) (by omega) (by omega) (by omega) (by omega)
    W0 (g.next hB0) (by omega) k2 c3 (fun j hj => (hB0.cell (p := ⟨b, off + j, none⟩) hb).trans (hcs j hj))
  refine wpIn_rangeFunc_ownF rfl (by omega) (gf := 59) (lb := #[.pointer (some ⟨w.heap.size + 2, 0, none⟩), .pointer (some ⟨w.heap.size + 3, 0, none⟩)]) rfl trivial (enters_of Tryz.func59 (by kernel_rfl) rfl)
    hstop (fun h k => BelowX.trans h k) (fun W l o o' h1 h2 h3 h4 => BelowX.of (belowK_b (w := W0) (by omega) W l o o' h1 h2 h3 h4)) (Below.refl _ _) (fun _ => rfl)
    (fun pre W => (W.cell? ⟨w.heap.size + 1, 0, none⟩ = some (.string (bestOf T (pre.map (·.1)))) ∧ W.frozen? ⟨w.heap.size + 1, 0, none⟩ = false ∧ W.cell? ⟨w.heap.size, 0, none⟩ = some (.slice (some ⟨tb, 0, none⟩) (zs.length + 1) tcap)) ∧ Below w.heap.size w W)
    (fun _ _ _ => False)
    (OwnFrom.and (Own.from (fun s A B row hs hg hr => ⟨cell_kept hs.1 hg hr, (frozen_kept hs.1 hg hr).trans hs.2.1, cell_kept hs.2.2 hg hr⟩) _) (ownFrom_below (Nat.le_refl _) (by omega)))
    (fun _ _ _ _ _ hs _ _ => hs)
    ⟨⟨k1, f1, k0⟩, hB0⟩
    (fun x => { tmps := #[.slice (some ⟨b, off, none⟩) zs.length cap, .int .i64 (i : Int), .slice (some ⟨tb, 0, none⟩) (zs.length + 1) tcap, undef, undef, .pointer (some ⟨w.heap.size, 0, none⟩), .string ⟨#[]⟩, .pointer (some ⟨w.heap.size + 1, 0, none⟩), .string x.1.1, .int .i64 (x.1.2 : Int), undef, .slice (some ⟨b, off, none⟩) zs.length cap, .int .i64 (i : Int), .func (.func 59) #[] #[.pointer (some ⟨w.heap.size + 2, 0, none⟩), .pointer (some ⟨w.heap.size + 3, 0, none⟩)], .string x.1.1, .int .i64 (x.1.2 : Int), undef, undef, undef, undef, undef, undef, undef, undef, undef, undef, undef, undef, undef, undef, undef], defers := [] }) ?assign ?body ?done ?stop
  case assign =>
    intro l x W K hK
    gi_wp2_with fail
    exact hK
  case body =>
    rintro l pre ⟨⟨S, E⟩, hE1, hE2, hS⟩ W ⟨⟨hc, hf, ht⟩, hB⟩ hpl
    have hbo : bestOf T ((pre ++ [(⟨(S, E), hE1, hE2, hS⟩ : ItA zs.length)]).map (·.1)) = stepB T (bestOf T (pre.map (·.1))) (S, E) := by rw [List.map_append]; exact bestOf_snoc _ _ _
    have hbs := bestOf_size T hT (pre.map (·.1)) (fun x hx => by
      obtain ⟨y, _, rfl⟩ := List.mem_map.1 hx
      exact y.2.2.2)
    have hte := (hB.cell (p := ⟨tb, E, none⟩) htb).trans (hts E hE2)
    have hTE := hT E
    simp only at hE1 hE2 hS
    generalize bestOf T (pre.map (·.1)) = best at *
    clear hstop k0 k1 k2 c3 f1 hcs hts hT
    by_cases h0 : best.size = 0
    · have hst : bestOf T ((pre ++ [(⟨(S, E), hE1, hE2, hS⟩ : ItA zs.length)]).map (·.1)) = S ++ T E := by rw [hbo]; unfold stepB; rw [if_pos h0]
      have Hst := Lib.hid hst
      have ht0 := toList_nil h0
      clear h0 hbo hst
      gi_wp2_with fail
      refine ⟨trivial, ?_⟩
      gi_wp2_with fail
      exact ⟨KeepsOthers.setCell _ _ _, BelowX.setX _, ⟨⟨by rw [Hst.out]; exact World.cell?_setCell_same' _ _ _ (by rw [hc]; rfl), by rw [World.frozen?_setCell]; exact hf, (((Below.refl (w.heap.size + 1) W).setCell (p := ⟨w.heap.size + 1, 0, none⟩) (Nat.le_refl _) (.string (S ++ T E))).cell (p := ⟨w.heap.size, 0, none⟩) (Nat.lt_succ_self _)).trans ht⟩, hB.setCell (p := ⟨w.heap.size + 1, 0, none⟩) (Nat.le_succ _) _⟩⟩
    · obtain ⟨ht1, ht2⟩ := toList_cons h0
      have hL := fun w => comesFirst_any (S ++ T E) best w
      cases hl : ltB (S ++ T E).data.toList best.data.toList with
      | true =>
        have hst : bestOf T ((pre ++ [(⟨(S, E), hE1, hE2, hS⟩ : ItA zs.length)]).map (·.1)) = S ++ T E := by rw [hbo]; unfold stepB; rw [if_neg h0, if_pos hl]
        have Hst := Lib.hid hst
        rw [hl] at hL
        clear hl hbo hst
        gi_wp2_with fail
        refine ⟨trivial, ?_⟩
        refine (CallsIn.inRound l (callsIn_wide.2 (hL _))).mono ?_
        rintro e w' ⟨rfl, rfl⟩
        gi_wp2_with fail
        exact ⟨KeepsOthers.setCell _ _ _, BelowX.setX _, ⟨⟨by rw [Hst.out]; exact World.cell?_setCell_same' _ _ _ (by rw [hc]; rfl), by rw [World.frozen?_setCell]; exact hf, (((Below.refl (w.heap.size + 1) W).setCell (p := ⟨w.heap.size + 1, 0, none⟩) (Nat.le_refl _) (.string (S ++ T E))).cell (p := ⟨w.heap.size, 0, none⟩) (Nat.lt_succ_self _)).trans ht⟩, hB.setCell (p := ⟨w.heap.size + 1, 0, none⟩) (Nat.le_succ _) _⟩⟩
      | false =>
        have hst : bestOf T ((pre ++ [(⟨(S, E), hE1, hE2, hS⟩ : ItA zs.length)]).map (·.1)) = best := by rw [hbo]; unfold stepB; rw [if_neg h0, if_neg (by simpa using hl)]
        have Hst := Lib.hid hst
        rw [hl] at hL
        clear hl hbo hst
        gi_wp2_with fail
        refine ⟨trivial, ?_⟩
        refine (CallsIn.inRound l (callsIn_wide.2 (hL _))).mono ?_
        rintro e w' ⟨rfl, rfl⟩
        gi_wp2_with fail
        exact ⟨KeepsOthers.refl _, BelowX.of (Below.refl _ _), ⟨⟨by rw [Hst.out]; exact hc, hf, ht⟩, hB⟩⟩
  case done =>
    rintro D ys W hD hys ⟨⟨hc, hf, ht⟩, hB⟩ hK
    gi_wp2_with fail
    refine ⟨by simp, .inl ⟨_, _, rfl, run_takeDeferred hK, ?_⟩⟩
    exact ⟨_, results_tmp rfl _ _ _, rfl, hB.trans (belowK_b (w := w) (Nat.le_refl _) W D _ _ (by omega) hK rfl rfl)⟩
  case stop =>
    rintro D c pre W _ _ h _
    exact h.elim
end Go.Proofs.YtkbmdmipdcjjcaaGreatDoor
