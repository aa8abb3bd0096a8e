/- Points in a slice; Check, validMove on both sides. -/
import Derived.Test.YtehpgmhilcoalaaDoorGF
namespace Go.Proofs.YtehpgmhilcoalaaDoor
open Go.RowKit Go.Lib
set_option linter.unusedSimpArgs false
def PtsAt (w : World) (sa : Option Addr) (ps : List Pt) : Prop := ∀ (k : Nat) (p : Pt), ps[k]? = some p → ∃ b off, sa = some ⟨b, off, none⟩ ∧ b < w.heap.size ∧ w.rangeAt b (off + k * 2) [.int .i64 p.x, .int .i64 p.y]
theorem take_snoc {α : Type} {l : List α} {k : Nat} {z : α} (h : l[k]? = some z) : l.take (k + 1) = l.take k ++ [z] := by
  rw [List.take_add_one, h]; rfl
set_option maxHeartbeats 1000000 in
theorem validPoints_any (ps : List Pt) (a : Option Addr) (c : Nat) (w : World) (h1 : ps.length ≤ c) (h2 : c ≤ maxLen) (hI : PtsAt w a ps) :
    Calls Tryd.prog 50 #[.slice a ps.length c] w fun e w' => e = .returned (.bool (ps.all okP)) ∧ Below w.heap.size w w' := by
  have HI := Lib.hid hI
  unfold maxLen at h2
  obtain ⟨r, hr⟩ : ∃ r, r = ps.all okP := ⟨_, rfl⟩
  rw [← hr]
  have Hr := Lib.hid hr
  have CW := Lib.hid (fun a b W T B hB => within2 1000000 (by omega) a b W T B hB)
  clear hI hr
  go_enter Tryd.func50, Tryd.ntmps50
  go_wp2_with fail
  go_loopw [7] (fun i wr => ∃ k : Nat, k ≤ ps.length ∧ i = .int .i64 k ∧ (∀ y ∈ ps.take k, okP y = true) ∧ Below w.heap.size w wr) (fun i _ => ps.length - (intOf i).toNat)
  case atStart => exact ⟨0, Nat.zero_le _, rfl, (fun y hy => by simp at hy), Below.refl _ _⟩
  case round =>
    obtain ⟨k, hk, rfl, hall, hb⟩ := hrel
    have Hall := Lib.hid hall
    have Hb := Lib.hid hb
    clear hall hb
    by_cases hkl : k < ps.length
    · obtain ⟨x, hx⟩ : ∃ x, ps[k]? = some x := ⟨_, List.getElem?_eq_getElem hkl⟩
      obtain ⟨bb, off, rfl, hB, hcx⟩ := HI.out k x hx
      have c0 : wr.cell? ⟨bb, off + k * 2, none⟩ = some (.int .i64 x.x) := (Hb.out.cell (p := ⟨bb, off + k * 2, none⟩) hB).trans (hcx 0 _ rfl)
      have c1 : wr.cell? ⟨bb, off + k * 2 + 1, none⟩ = some (.int .i64 x.y) := (Hb.out.cell (p := ⟨bb, off + k * 2 + 1, none⟩) hB).trans (hcx 1 _ rfl)
      have k0 : (0 : Int) ≤ (k : Int) := by omega
      have k1 : (k : Int) < (ps.length : Int) := by omega
      have hsz : w.heap.size ≤ wr.heap.size := Hb.out.size
      have Hx := Lib.hid hx
      clear hx hcx
      have hbad : okP x = false → r = false := fun hxl => by
        rw [Hr.out, List.all_eq_false]
        exact ⟨x, List.mem_of_getElem? Hx.out, by rw [hxl]; decide⟩
      have Hbad := Lib.hid hbad
      clear hbad
      have hq : okP x = [x.x, x.y].all (inB (-1000000) 1000000) := by simp [okP]
      rcases hv : okP x with _ | _
      · obtain rfl : r = false := Hbad.out hv
        have CW2 := CW.out x.x x.y
        rw [← hq, hv] at CW2
        have CX := Lib.hid CW2
        clear CW2 hq hv
        go_wp2_with fail
        refine (CX.out _ _ _ (by simp)).mono ?_
        rintro e w' ⟨rfl, rfl⟩
        go_wp2_with fail
        go_ret
        exact ⟨rfl, by repeat (first | exact Hb.out | refine Below.alloc ?_ (by first | omega | (simp; omega) | simp) _)⟩
      · have CW2 := CW.out x.x x.y
        rw [← hq, hv] at CW2
        have CX := Lib.hid CW2
        have Hv := Lib.hid hv
        clear CW2 hq hv
        go_wp2_with fail
        refine (CX.out _ _ _ (by simp)).mono ?_
        rintro e w' ⟨rfl, rfl⟩
        go_wp2_with fail
        go_roundw
        case rel => exact ⟨k + 1, by omega, by go_num, (fun y hy => by
            rw [take_snoc Hx.out, List.mem_append] at hy
            rcases hy with hy | hy
            · exact Hall.out y hy
            · obtain rfl : y = x := by simpa using hy
              exact Hv.out), by repeat (first | exact Hb.out | refine Below.alloc ?_ (by first | omega | (simp; omega) | simp) _)⟩
        case measure => simp [intOf]; omega
    · have e : k = ps.length := by omega
      subst e
      have hrt : r = true := by
        rw [Hr.out, List.all_eq_true]
        intro y hy
        exact Hall.out y (by rw [List.take_length]; exact hy)
      subst hrt
      go_wp2_with fail
      go_ret
      exact ⟨rfl, Hb.out⟩
set_option maxHeartbeats 1000000 in
theorem rPoints_any (ps : List Pt) (a : Option Addr) (c : Nat) (w : World) (h1 : ps.length ≤ c) (h2 : c ≤ maxLen) (hI : PtsAt w a ps) :
    Calls Tryd.prog 46 #[.slice a ps.length c] w fun e w' => e = .returned (.bool (ps.all okP)) ∧ Below w.heap.size w w' := by
  have HI := Lib.hid hI
  unfold maxLen at h2
  obtain ⟨r, hr⟩ : ∃ r, r = ps.all okP := ⟨_, rfl⟩
  rw [← hr]
  have Hr := Lib.hid hr
  have CW := Lib.hid (fun p w => rPoint_any p w)
  clear hI hr
  go_enter Tryd.func46, Tryd.ntmps46
  go_wp2_with fail
  go_loopw [3] (fun i wr => ∃ k : Nat, k ≤ ps.length ∧ i = .int .i64 k ∧ (∀ y ∈ ps.take k, okP y = true) ∧ Below w.heap.size w wr) (fun i _ => ps.length - (intOf i).toNat)
  case atStart => exact ⟨0, Nat.zero_le _, rfl, (fun y hy => by simp at hy), Below.refl _ _⟩
  case round =>
    obtain ⟨k, hk, rfl, hall, hb⟩ := hrel
    have Hall := Lib.hid hall
    have Hb := Lib.hid hb
    clear hall hb
    by_cases hkl : k < ps.length
    · obtain ⟨x, hx⟩ : ∃ x, ps[k]? = some x := ⟨_, List.getElem?_eq_getElem hkl⟩
      obtain ⟨bb, off, rfl, hB, hcx⟩ := HI.out k x hx
      have c0 : wr.cell? ⟨bb, off + k * 2, none⟩ = some (.int .i64 x.x) := (Hb.out.cell (p := ⟨bb, off + k * 2, none⟩) hB).trans (hcx 0 _ rfl)
      have c1 : wr.cell? ⟨bb, off + k * 2 + 1, none⟩ = some (.int .i64 x.y) := (Hb.out.cell (p := ⟨bb, off + k * 2 + 1, none⟩) hB).trans (hcx 1 _ rfl)
      have k0 : (0 : Int) ≤ (k : Int) := by omega
      have k1 : (k : Int) < (ps.length : Int) := by omega
      have hsz : w.heap.size ≤ wr.heap.size := Hb.out.size
      have Hx := Lib.hid hx
      clear hx hcx
      have hbad : okP x = false → r = false := fun hxl => by
        rw [Hr.out, List.all_eq_false]
        exact ⟨x, List.mem_of_getElem? Hx.out, by rw [hxl]; decide⟩
      have Hbad := Lib.hid hbad
      clear hbad
      rcases hv : okP x with _ | _
      · obtain rfl : r = false := Hbad.out hv
        have CW2 := CW.out x
        rw [hv] at CW2
        have CX := Lib.hid CW2
        clear CW2 hv
        go_wp2_with fail
        refine (CX.out _).mono ?_
        rintro e w' ⟨rfl, hb'⟩
        have Hb' := Lib.hid (Hb.out.trans (hb'.mono hsz))
        clear hb'
        go_wp2_with fail
        go_ret
        exact ⟨rfl, Hb'.out⟩
      · have CW2 := CW.out x
        rw [hv] at CW2
        have CX := Lib.hid CW2
        have Hv := Lib.hid hv
        clear CW2 hv
        go_wp2_with fail
        refine (CX.out _).mono ?_
        rintro e w' ⟨rfl, hb'⟩
        have Hb' := Lib.hid (Hb.out.trans (hb'.mono hsz))
        clear hb'
        go_wp2_with fail
        go_roundw
        case rel => exact ⟨k + 1, by omega, by go_num, (fun y hy => by
            rw [take_snoc Hx.out, List.mem_append] at hy
            rcases hy with hy | hy
            · exact Hall.out y hy
            · obtain rfl : y = x := by simpa using hy
              exact Hv.out), Hb'.out⟩
        case measure => simp [intOf]; omega
    · have e : k = ps.length := by omega
      subst e
      have hrt : r = true := by
        rw [Hr.out, List.all_eq_true]
        intro y hy
        exact Hall.out y (by rw [List.take_length]; exact hy)
      subst hrt
      go_wp2_with fail
      go_ret
      exact ⟨rfl, Hb.out⟩
/-! Points that stand in a new row. -/
theorem ptsAt_lit (W : World) (ps : List Pt) (T : TypeId) (B : Nat) (hB : W.heap.size = B) : PtsAt (W.alloc (.cells (ps.flatMap fun p => [Value.int .i64 p.x, .int .i64 p.y]).toArray T)) (some ⟨B, 0, none⟩) ps := by
  subst hB
  intro k p hk
  refine ⟨W.heap.size, 0, rfl, by simp, fun j v hv => ?_⟩
  have hflat : ∀ (qs : List Pt) (k : Nat) (p : Pt), qs[k]? = some p → ∀ j (v : Value), [Value.int .i64 p.x, .int .i64 p.y][j]? = some v → (qs.flatMap fun p => [Value.int .i64 p.x, .int .i64 p.y])[k * 2 + j]? = some v := by
    intro qs
    induction qs with
    | nil => intro k p h; cases h
    | cons q qs ih =>
      intro k p h j v hv
      cases k with
      | zero =>
        obtain rfl : q = p := by simpa using h
        have hj : j < 2 := (List.getElem?_eq_some_iff.1 hv).1
        rw [List.flatMap_cons, List.getElem?_append_left (by simp; omega), Nat.zero_mul, Nat.zero_add]
        exact hv
      | succ k =>
        rw [List.flatMap_cons, List.getElem?_append_right (by simp; omega)]
        have := ih k p (by simpa using h) j v hv
        rw [← this]
        congr 1
        simp; omega
  rw [Nat.zero_add, cell_of_row _ _ _ _ _ _ (heap_alloc_new W _), List.getElem?_toArray]
  exact hflat ps k p hk j v hv
theorem vpts1 (p0 : Pt) (W : World) (T : TypeId) (B : Nat) (hB : W.heap.size = B) :
    Calls Tryd.prog 50 #[.slice (some ⟨B, 0, none⟩) 1 1] (W.alloc (.cells #[.int .i64 p0.x, .int .i64 p0.y] T)) fun e w' => e = .returned (.bool (okP p0)) ∧ Below B W w' :=
  (validPoints_any [p0] (some ⟨B, 0, none⟩) 1 _ (by simp) (by unfold maxLen; omega) (ptsAt_lit W [p0] T B hB)).mono fun e w' ⟨he, hb⟩ => ⟨by rw [he]; simp [Bool.and_assoc], by subst hB; exact (below_alloc _ _).trans (hb.mono (by simp))⟩
theorem rpts1 (p0 : Pt) (W : World) (T : TypeId) (B : Nat) (hB : W.heap.size = B) :
    Calls Tryd.prog 46 #[.slice (some ⟨B, 0, none⟩) 1 1] (W.alloc (.cells #[.int .i64 p0.x, .int .i64 p0.y] T)) fun e w' => e = .returned (.bool (okP p0)) ∧ Below B W w' :=
  (rPoints_any [p0] (some ⟨B, 0, none⟩) 1 _ (by simp) (by unfold maxLen; omega) (ptsAt_lit W [p0] T B hB)).mono fun e w' ⟨he, hb⟩ => ⟨by rw [he]; simp [Bool.and_assoc], by subst hB; exact (below_alloc _ _).trans (hb.mono (by simp))⟩
theorem vpts2 (p0 p1 : Pt) (W : World) (T : TypeId) (B : Nat) (hB : W.heap.size = B) :
    Calls Tryd.prog 50 #[.slice (some ⟨B, 0, none⟩) 2 2] (W.alloc (.cells #[.int .i64 p0.x, .int .i64 p0.y, .int .i64 p1.x, .int .i64 p1.y] T)) fun e w' => e = .returned (.bool (okP p0 && okP p1)) ∧ Below B W w' :=
  (validPoints_any [p0, p1] (some ⟨B, 0, none⟩) 2 _ (by simp) (by unfold maxLen; omega) (ptsAt_lit W [p0, p1] T B hB)).mono fun e w' ⟨he, hb⟩ => ⟨by rw [he]; simp [Bool.and_assoc], by subst hB; exact (below_alloc _ _).trans (hb.mono (by simp))⟩
theorem rpts2 (p0 p1 : Pt) (W : World) (T : TypeId) (B : Nat) (hB : W.heap.size = B) :
    Calls Tryd.prog 46 #[.slice (some ⟨B, 0, none⟩) 2 2] (W.alloc (.cells #[.int .i64 p0.x, .int .i64 p0.y, .int .i64 p1.x, .int .i64 p1.y] T)) fun e w' => e = .returned (.bool (okP p0 && okP p1)) ∧ Below B W w' :=
  (rPoints_any [p0, p1] (some ⟨B, 0, none⟩) 2 _ (by simp) (by unfold maxLen; omega) (ptsAt_lit W [p0, p1] T B hB)).mono fun e w' ⟨he, hb⟩ => ⟨by rw [he]; simp [Bool.and_assoc], by subst hB; exact (below_alloc _ _).trans (hb.mono (by simp))⟩
theorem vpts3 (p0 p1 p2 : Pt) (W : World) (T : TypeId) (B : Nat) (hB : W.heap.size = B) :
    Calls Tryd.prog 50 #[.slice (some ⟨B, 0, none⟩) 3 3] (W.alloc (.cells #[.int .i64 p0.x, .int .i64 p0.y, .int .i64 p1.x, .int .i64 p1.y, .int .i64 p2.x, .int .i64 p2.y] T)) fun e w' => e = .returned (.bool (okP p0 && okP p1 && okP p2)) ∧ Below B W w' :=
  (validPoints_any [p0, p1, p2] (some ⟨B, 0, none⟩) 3 _ (by simp) (by unfold maxLen; omega) (ptsAt_lit W [p0, p1, p2] T B hB)).mono fun e w' ⟨he, hb⟩ => ⟨by rw [he]; simp [Bool.and_assoc], by subst hB; exact (below_alloc _ _).trans (hb.mono (by simp))⟩
theorem rpts3 (p0 p1 p2 : Pt) (W : World) (T : TypeId) (B : Nat) (hB : W.heap.size = B) :
    Calls Tryd.prog 46 #[.slice (some ⟨B, 0, none⟩) 3 3] (W.alloc (.cells #[.int .i64 p0.x, .int .i64 p0.y, .int .i64 p1.x, .int .i64 p1.y, .int .i64 p2.x, .int .i64 p2.y] T)) fun e w' => e = .returned (.bool (okP p0 && okP p1 && okP p2)) ∧ Below B W w' :=
  (rPoints_any [p0, p1, p2] (some ⟨B, 0, none⟩) 3 _ (by simp) (by unfold maxLen; omega) (ptsAt_lit W [p0, p1, p2] T B hB)).mono fun e w' ⟨he, hb⟩ => ⟨by rw [he]; simp [Bool.and_assoc], by subst hB; exact (below_alloc _ _).trans (hb.mono (by simp))⟩
theorem vpts4 (p0 p1 p2 p3 : Pt) (W : World) (T : TypeId) (B : Nat) (hB : W.heap.size = B) :
    Calls Tryd.prog 50 #[.slice (some ⟨B, 0, none⟩) 4 4] (W.alloc (.cells #[.int .i64 p0.x, .int .i64 p0.y, .int .i64 p1.x, .int .i64 p1.y, .int .i64 p2.x, .int .i64 p2.y, .int .i64 p3.x, .int .i64 p3.y] T)) fun e w' => e = .returned (.bool (okP p0 && okP p1 && okP p2 && okP p3)) ∧ Below B W w' :=
  (validPoints_any [p0, p1, p2, p3] (some ⟨B, 0, none⟩) 4 _ (by simp) (by unfold maxLen; omega) (ptsAt_lit W [p0, p1, p2, p3] T B hB)).mono fun e w' ⟨he, hb⟩ => ⟨by rw [he]; simp [Bool.and_assoc], by subst hB; exact (below_alloc _ _).trans (hb.mono (by simp))⟩
theorem rpts4 (p0 p1 p2 p3 : Pt) (W : World) (T : TypeId) (B : Nat) (hB : W.heap.size = B) :
    Calls Tryd.prog 46 #[.slice (some ⟨B, 0, none⟩) 4 4] (W.alloc (.cells #[.int .i64 p0.x, .int .i64 p0.y, .int .i64 p1.x, .int .i64 p1.y, .int .i64 p2.x, .int .i64 p2.y, .int .i64 p3.x, .int .i64 p3.y] T)) fun e w' => e = .returned (.bool (okP p0 && okP p1 && okP p2 && okP p3)) ∧ Below B W w' :=
  (rPoints_any [p0, p1, p2, p3] (some ⟨B, 0, none⟩) 4 _ (by simp) (by unfold maxLen; omega) (ptsAt_lit W [p0, p1, p2, p3] T B hB)).mono fun e w' ⟨he, hb⟩ => ⟨by rw [he]; simp [Bool.and_assoc], by subst hB; exact (below_alloc _ _).trans (hb.mono (by simp))⟩
theorem bcell {W w1 : World} (hb : Below W.heap.size W w1) : (∀ b o, b < W.heap.size → w1.cell? ⟨b, o, none⟩ = W.cell? ⟨b, o, none⟩) ∧ (∀ b o, b < W.heap.size → w1.frozen? ⟨b, o, none⟩ = W.frozen? ⟨b, o, none⟩) :=
  ⟨fun b o h => hb.cell (p := ⟨b, o, none⟩) h, fun b o h => hb.frozen (p := ⟨b, o, none⟩) h⟩
end Go.Proofs.YtehpgmhilcoalaaDoor
