/- Words of stitches: Places of the reference; slices.Reverse of bytes; Inverse, Flip, Mirror on both sides. -/
import Derived.Test.YtmefpaoakblndaaGreatDoorVD
namespace Go.Proofs.YtmefpaoakblndaaGreatDoor
open Go.RowKit Go.Lib
theorem place_swap (y : Pm) {j : Nat} (hj : j + 1 < 4) : ((((ints 4 y).map (· + 1)).map (Value.int .i64)).set j (.int .i64 ((y.f (j + 1) : Int) + 1))).set (j + 1) (.int .i64 ((y.f j : Int) + 1)) = ((ints 4 (y.pre j)).map (· + 1)).map (Value.int .i64) := by
  have h := congrArg (List.map (fun v => match v with | Value.int q z => Value.int q (z + 1) | v => v)) (ints_swap (n := 4) y hj)
  rw [List.map_set, List.map_set, List.map_map, List.map_map] at h
  rw [List.map_map, List.map_map]
  exact h
theorem ints_set {w : World} {sa : Option Addr} {X : List Int} (h : IntsAt w sa X) (p : Addr) (v : Value) (hne : ∀ b off, sa = some ⟨b, off, none⟩ → p.block ≠ b) : IntsAt (w.setCell p v) sa X := fun k z hz => by
  obtain ⟨b, off, e, h1, h2⟩ := h k z hz
  exact ⟨b, off, e, by simpa using h1, by rw [World.cell?_setCell_far _ _ _ _ (hne b off e)]; exact h2⟩
set_option maxHeartbeats 2000000 in
set_option maxRecDepth 100000 in
theorem refPlaces_any (s : ByteArray) (w : World) :
    Calls Tryz.prog 13 #[.string s] w fun e w' => ∃ v, e = .returned (.tuple #[v, .int .i64 (stV s)]) ∧ IS w' v (placeV s) ∧ Below w.heap.size w w' := by
  have CK := Lib.hid (fun W => refCheck3_any s W)
  obtain ⟨z, hz⟩ : ∃ z, z = stV s := ⟨_, rfl⟩
  have hv : placeV s = if z = 0 then placeL (crW s.data.toList) else [] := by rw [hz]; rfl
  rw [hv]
  rw [← hz] at CK ⊢
  by_cases h0 : z = 0
  · subst h0
    have h16 := (st_ok hz.symm).1
    have hw4 := crW_word s.data.toList
    have hl4 := crW_len s.data.toList
    have CR := Lib.hid (fun W => refcrossings_any s (by omega) W)
    unfold placeL
    rw [if_pos rfl]
    have hsz : s.data.toList.length = s.size := by simp
    rw [hsz] at hl4
    generalize crW s.data.toList = X at *
    have Hw := Lib.hid hw4
    clear hz hv hw4 hsz
    have HO := Lib.hid (World.ownsRow_lit w #[.int .i64 1, .int .i64 2, .int .i64 3, .int .i64 4] 4 (base := w.heap.size) (e := 3) (size := 1) (Nat.le_refl _) (by unfold maxLen; omega) rfl)
    go_enter Tryz.func13, Tryz.ntmps13
    go_wp2_with fail
    refine (CK.out _).mono ?_
    rintro e w1 ⟨rfl, hw1⟩
    obtain rfl := hw1.symm
    clear hw1
    go_wp2_with fail
    refine (CR.out _).mono ?_
    rintro e w2 ⟨v, rfl, hown, hb⟩
    have HI := Lib.hid (is_own hown rfl)
    have hfar := fun g e => (hown.lt g e).1
    have HB := Lib.hid ((below_alloc w _).trans (hb.mono (by simp)))
    have HO2 := Lib.hid (own_below HO.out hb)
    have hsz2 := hb.size
    simp only [World.size_alloc] at hsz2
    clear hown hb HO
    obtain ⟨sa, sc, rfl, _, _, _, hI⟩ := HI.out
    have HF := Lib.hid (show ∀ b off, sa = some ⟨b, off, none⟩ → w.heap.size ≠ b from fun b off e => by
      have := hfar b (by rw [e]; rfl)
      simp only [World.size_alloc] at this
      omega)
    have HI := Lib.hid hI
    clear hI hfar
    go_wp2_with fail
    go_loopw [7] (fun i wr => ∃ k : Nat, k ≤ X.length ∧ i = .int .i64 k ∧ wr.ownsRow w.heap.size 3 1 (.slice (some ⟨w.heap.size, 0, none⟩) 4 4) 4 (((ints 4 (lineP (X.take k))).map (· + 1)).map (Value.int .i64)) ∧ IntsAt wr sa X ∧ Below w.heap.size w wr) (fun i _ => X.length - (intOf i).toNat)
    case atStart => exact ⟨0, Nat.zero_le _, rfl, HO2.out, HI.out, HB.out⟩
    case round =>
      obtain ⟨k, hk, rfl, hown, hint, hbw⟩ := hrel
      by_cases hkl : k < X.length
      · obtain ⟨x, hx⟩ : ∃ x, X[k]? = some x := ⟨_, List.getElem?_eq_getElem hkl⟩
        have hlet : Letter 4 x := Hw.out x (List.mem_of_getElem? hx)
        obtain ⟨b, off, rfl, hb, hcx⟩ := hint k x hx
        have hfb : w.heap.size ≠ b := HF.out b off rfl
        have k0 : (0 : Int) ≤ (k : Int) := by omega
        have k1 : (k : Int) < (X.length : Int) := by omega
        have Hnext := Lib.hid (lineP_next hx)
        have hj : num x + 1 < 4 := num_lt hlet
        have hab := num_abs hlet.1
        obtain ⟨j, hjn⟩ : ∃ j, j = num x := ⟨_, rfl⟩
        rw [← hjn] at hj Hnext hab
        obtain ⟨y, hy⟩ : ∃ y, y = lineP (X.take k) := ⟨_, rfl⟩
        rw [← hy] at hown Hnext
        have HOW := Lib.hid hown
        have HIN := Lib.hid hint
        have n5 : ((j : Int) + 1).toNat = j + 1 := by omega
        have n3 : (0 : Int) ≤ (j : Int) + 1 := by omega
        have n6 : (j : Int) < 4 := by omega
        have n7 : (j : Int) + 1 < 4 := by omega
        have n8 : (0 : Int) ≤ (j : Int) := by omega
        have hwn : IntKind.i64.wrap (-x) = -x := IntWalk.i64_in _ (by obtain ⟨h1, h2, h3⟩ := hlet; omega)
        have hsm : IntKind.i64.wrap (j : Int) = (j : Int) := IntWalk.i64_in _ (by omega)
        clear hown hint hjn hy hx
        by_cases hx0 : x < 0
        · rw [if_pos hx0] at hab
          have g1 : x < -x := by omega
          have g2 : ¬ -x < x := by omega
          have g3 : IntKind.i64.wrap (-x - 1) = (j : Int) := by rw [show -x - 1 = (j : Int) by omega]; exact hsm
          go_wp2_with fail
          refine wp_region_quiet (C := fun w' => Below wr.heap.size wr w') (by kernel_rfl) (by kernel_rfl) (Below.refl _ wr).drew ?_
          dsimp only
          refine quiet_move rfl _ rfl ?_
          simp only [Act.put, List.setIfInBounds_toArray, List.set_cons_zero, List.set_cons_succ]
          refine quiet_move rfl _ rfl ?_
          simp only [Act.put, List.setIfInBounds_toArray, List.set_cons_zero, List.set_cons_succ]
          refine quiet_still rfl (.pointer (some ⟨b, off + k, none⟩)) (fun w _ => by go_simp) ?_
          simp only [Act.put, List.setIfInBounds_toArray, List.set_cons_zero, List.set_cons_succ]
          refine quiet_load1 rfl _ _ rfl ⟨b, off + k, none⟩ rfl (.int .i64 x) (load_int _ _) (fun _ h => (h.cell (p := ⟨b, off + k, none⟩) hb).trans hcx) ?_
          simp only [Act.put, List.setIfInBounds_toArray, List.set_cons_zero, List.set_cons_succ]
          refine quiet_move rfl _ rfl ?_
          simp only [Act.put, List.setIfInBounds_toArray, List.set_cons_zero, List.set_cons_succ]
          refine quiet_move rfl _ rfl ?_
          simp only [Act.put, List.setIfInBounds_toArray, List.set_cons_zero, List.set_cons_succ]
          refine quiet_still rfl (.pointer (some ⟨b, off + k, none⟩)) (fun w _ => by go_simp) ?_
          simp only [Act.put, List.setIfInBounds_toArray, List.set_cons_zero, List.set_cons_succ]
          refine quiet_load1 rfl _ _ rfl ⟨b, off + k, none⟩ rfl (.int .i64 x) (load_int _ _) (fun _ h => (h.cell (p := ⟨b, off + k, none⟩) hb).trans hcx) ?_
          simp only [Act.put, List.setIfInBounds_toArray, List.set_cons_zero, List.set_cons_succ]
          refine quiet_still rfl (.int .i64 (-x)) (fun w _ => by first | (go_simp; done) | (go_simp; exact hwn)) ?_
          simp only [Act.put, List.setIfInBounds_toArray, List.set_cons_zero, List.set_cons_succ]
          refine quiet_still rfl (.int .i64 (-x)) (fun w _ => by first | (go_simp; done) | (go_simp; simp [*]; done) | (go_simp; omega)) ?_
          simp only [Act.put, List.setIfInBounds_toArray, List.set_cons_zero, List.set_cons_succ]
          refine quiet_still rfl (.int .i64 (j : Int)) (fun w _ => by first | (go_simp; done) | (go_simp; exact g3) | (go_simp; omega)) ?_
          simp only [Act.put, List.setIfInBounds_toArray, List.set_cons_zero, List.set_cons_succ]
          refine quiet_still rfl (.int .i64 (j : Int)) (fun w _ => by go_simp) ?_
          simp only [Act.put, List.setIfInBounds_toArray, List.set_cons_zero, List.set_cons_succ]
          refine wpQuiet_nil fun U bu => ?_
          have hown := own_below HOW.out bu
          have hint := HIN.out.below bu
          have hbw2 := hbw.trans (bu.mono hbw.size)
          have e0 : U.cell? ⟨w.heap.size, j, none⟩ = some (.int .i64 ((y.f j : Int) + 1)) := by rw [hown.cellAt j (by omega), List.getElem?_map, List.getElem?_map, ints_get y (by omega)]; rfl
          have e1 : U.cell? ⟨w.heap.size, j + 1, none⟩ = some (.int .i64 ((y.f (j + 1) : Int) + 1)) := by rw [hown.cellAt (j + 1) (by omega), List.getElem?_map, List.getElem?_map, ints_get y hj]; rfl
          have f0 := hown.frozenAt j
          have f1 := hown.frozenAt (j + 1)
          have hs1 := (hown.stored j (.int .i64 ((y.f (j + 1) : Int) + 1))).1
          have hs2 := (hs1.stored (j + 1) (.int .i64 ((y.f j : Int) + 1))).1
          rw [place_swap y hj] at hs2
          have Hs2 := Lib.hid hs2.drew
          have Hin2 := Lib.hid (show IntsAt (((U.setCell ⟨w.heap.size, j, none⟩ (.int .i64 ((y.f (j + 1) : Int) + 1))).setCell ⟨w.heap.size, j + 1, none⟩ (.int .i64 ((y.f j : Int) + 1))).drew) (some ⟨b, off, none⟩) X from (ints_set (ints_set hint _ _ (fun b' _ e => by cases e; exact hfb)) _ _ (fun b' _ e => by cases e; exact hfb)))
          have Hbw2 := Lib.hid (((hbw2.setCell (p := ⟨w.heap.size, j, none⟩) (Nat.le_refl _) (.int .i64 ((y.f (j + 1) : Int) + 1))).setCell (p := ⟨w.heap.size, j + 1, none⟩) (Nat.le_refl _) (.int .i64 ((y.f j : Int) + 1))).drew)
          clear hs1 hs2 hown hint hbw2 bu hab g3
          go_wp2_with fail
          go_region
          go_wp2_with fail
          go_roundw
          case rel => exact ⟨k + 1, hkl, by go_num, by rw [Hnext.out]; exact Hs2.out, Hin2.out, Hbw2.out⟩
          case measure => (simp [intOf] <;> omega)
        · rw [if_neg hx0] at hab
          have g1 : ¬ x < -x := by omega
          have g3 : IntKind.i64.wrap (x - 1) = (j : Int) := by rw [show x - 1 = (j : Int) by omega]; exact hsm
          go_wp2_with fail
          refine wp_region_quiet (C := fun w' => Below wr.heap.size wr w') (by kernel_rfl) (by kernel_rfl) (Below.refl _ wr).drew ?_
          dsimp only
          refine quiet_move rfl _ rfl ?_
          simp only [Act.put, List.setIfInBounds_toArray, List.set_cons_zero, List.set_cons_succ]
          refine quiet_move rfl _ rfl ?_
          simp only [Act.put, List.setIfInBounds_toArray, List.set_cons_zero, List.set_cons_succ]
          refine quiet_still rfl (.pointer (some ⟨b, off + k, none⟩)) (fun w _ => by go_simp) ?_
          simp only [Act.put, List.setIfInBounds_toArray, List.set_cons_zero, List.set_cons_succ]
          refine quiet_load1 rfl _ _ rfl ⟨b, off + k, none⟩ rfl (.int .i64 x) (load_int _ _) (fun _ h => (h.cell (p := ⟨b, off + k, none⟩) hb).trans hcx) ?_
          simp only [Act.put, List.setIfInBounds_toArray, List.set_cons_zero, List.set_cons_succ]
          refine quiet_move rfl _ rfl ?_
          simp only [Act.put, List.setIfInBounds_toArray, List.set_cons_zero, List.set_cons_succ]
          refine quiet_move rfl _ rfl ?_
          simp only [Act.put, List.setIfInBounds_toArray, List.set_cons_zero, List.set_cons_succ]
          refine quiet_still rfl (.pointer (some ⟨b, off + k, none⟩)) (fun w _ => by go_simp) ?_
          simp only [Act.put, List.setIfInBounds_toArray, List.set_cons_zero, List.set_cons_succ]
          refine quiet_load1 rfl _ _ rfl ⟨b, off + k, none⟩ rfl (.int .i64 x) (load_int _ _) (fun _ h => (h.cell (p := ⟨b, off + k, none⟩) hb).trans hcx) ?_
          simp only [Act.put, List.setIfInBounds_toArray, List.set_cons_zero, List.set_cons_succ]
          refine quiet_still rfl (.int .i64 (-x)) (fun w _ => by first | (go_simp; done) | (go_simp; exact hwn)) ?_
          simp only [Act.put, List.setIfInBounds_toArray, List.set_cons_zero, List.set_cons_succ]
          refine quiet_still rfl (.int .i64 (x)) (fun w _ => by first | (go_simp; done) | (go_simp; simp [*]; done) | (go_simp; omega)) ?_
          simp only [Act.put, List.setIfInBounds_toArray, List.set_cons_zero, List.set_cons_succ]
          refine quiet_still rfl (.int .i64 (j : Int)) (fun w _ => by first | (go_simp; done) | (go_simp; exact g3) | (go_simp; omega)) ?_
          simp only [Act.put, List.setIfInBounds_toArray, List.set_cons_zero, List.set_cons_succ]
          refine quiet_still rfl (.int .i64 (j : Int)) (fun w _ => by go_simp) ?_
          simp only [Act.put, List.setIfInBounds_toArray, List.set_cons_zero, List.set_cons_succ]
          refine wpQuiet_nil fun U bu => ?_
          have hown := own_below HOW.out bu
          have hint := HIN.out.below bu
          have hbw2 := hbw.trans (bu.mono hbw.size)
          have e0 : U.cell? ⟨w.heap.size, j, none⟩ = some (.int .i64 ((y.f j : Int) + 1)) := by rw [hown.cellAt j (by omega), List.getElem?_map, List.getElem?_map, ints_get y (by omega)]; rfl
          have e1 : U.cell? ⟨w.heap.size, j + 1, none⟩ = some (.int .i64 ((y.f (j + 1) : Int) + 1)) := by rw [hown.cellAt (j + 1) (by omega), List.getElem?_map, List.getElem?_map, ints_get y hj]; rfl
          have f0 := hown.frozenAt j
          have f1 := hown.frozenAt (j + 1)
          have hs1 := (hown.stored j (.int .i64 ((y.f (j + 1) : Int) + 1))).1
          have hs2 := (hs1.stored (j + 1) (.int .i64 ((y.f j : Int) + 1))).1
          rw [place_swap y hj] at hs2
          have Hs2 := Lib.hid hs2.drew
          have Hin2 := Lib.hid (show IntsAt (((U.setCell ⟨w.heap.size, j, none⟩ (.int .i64 ((y.f (j + 1) : Int) + 1))).setCell ⟨w.heap.size, j + 1, none⟩ (.int .i64 ((y.f j : Int) + 1))).drew) (some ⟨b, off, none⟩) X from (ints_set (ints_set hint _ _ (fun b' _ e => by cases e; exact hfb)) _ _ (fun b' _ e => by cases e; exact hfb)))
          have Hbw2 := Lib.hid (((hbw2.setCell (p := ⟨w.heap.size, j, none⟩) (Nat.le_refl _) (.int .i64 ((y.f (j + 1) : Int) + 1))).setCell (p := ⟨w.heap.size, j + 1, none⟩) (Nat.le_refl _) (.int .i64 ((y.f j : Int) + 1))).drew)
          clear hs1 hs2 hown hint hbw2 bu hab g3
          go_wp2_with fail
          go_region
          go_wp2_with fail
          go_roundw
          case rel => exact ⟨k + 1, hkl, by go_num, by rw [Hnext.out]; exact Hs2.out, Hin2.out, Hbw2.out⟩
          case measure => (simp [intOf] <;> omega)
      · have k1 : ¬ (k : Int) < (X.length : Int) := by omega
        have e : k = X.length := by omega
        rw [e, List.take_length] at hown
        have HO := Lib.hid (is_own hown (by simp [ints_len]))
        clear hown e
        go_wp2_with fail
        go_ret2
        exact ⟨_, rfl, HO.out, hbw⟩
  · have hq : (z != 0) = true := by simpa using h0
    rw [if_neg h0]
    clear hz hv
    go_enter Tryz.func13, Tryz.ntmps13
    go_wp2_with fail
    refine (CK.out _).mono ?_
    rintro e w1 ⟨rfl, rfl⟩
    go_wp2_with fail
    go_ret2
    exact ⟨_, rfl, is_nil _, Below.refl _ _⟩
end Go.Proofs.YtmefpaoakblndaaGreatDoor
