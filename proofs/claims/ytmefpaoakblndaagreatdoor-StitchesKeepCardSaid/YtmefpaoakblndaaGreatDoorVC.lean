/- Words of stitches: crossings and places walked on both sides. -/
import Derived.Test.YtmefpaoakblndaaGreatDoorVB
import Derived.Test.YtmefpaoakblndaaGreatDoorVP
import Derived.Test.YtmefpaoakblndaaGreatDoorVK
namespace Go.Proofs.YtmefpaoakblndaaGreatDoor
open Go.RowKit Go.Lib
theorem st_ok {s : ByteArray} (h : stV s = 0) : s.size ≤ 16 ∧ s.data.toList.all isLt = true := by
  unfold stV at h
  by_cases h1 : 16 < s.size
  · rw [if_pos h1] at h; omega
  · rw [if_neg h1] at h
    by_cases h2 : s.data.toList.all isLt = true
    · exact ⟨by omega, h2⟩
    · rw [if_neg h2] at h; omega
/-- What Crossings hands out, at an error as well. -/
def crossV (s : ByteArray) : List Int := if stV s = 0 then crW s.data.toList else []
/-- What Places hands out. -/
def placeL (ws : List Int) : List Int := (ints 4 (lineP ws)).map (· + 1)
def placeV (s : ByteArray) : List Int := if stV s = 0 then placeL (crW s.data.toList) else []
theorem crW_word (l : List UInt8) : Word 4 (crW l) := by
  intro z hz
  obtain ⟨c, _, hc⟩ := List.mem_flatMap.1 hz
  have := byte_all (p := fun c => (crL c).all fun z => decide (z ≠ 0 ∧ z.natAbs < 4)) (by decide +kernel) c
  have h2 := List.all_eq_true.1 this z hc
  rw [decide_eq_true_iff] at h2
  omega
theorem crW_check {l : List UInt8} (hl : l.length ≤ 16) : checkV 4 (crW l) = 0 := by
  have h := crW_len l
  have hw := crW_word l
  unfold checkV
  rw [if_neg (by omega), if_neg (by omega), if_pos]
  rw [List.all_eq_true]
  intro z hz
  have := hw z hz
  simp only [isL, decide_eq_true_eq]
  omega
set_option maxHeartbeats 1000000 in
set_option maxRecDepth 100000 in
theorem Crossings_any (s : ByteArray) (hs : s.size ≤ maxLen) (w : World) :
    Calls Tryz.prog 10 #[.string s] w fun e w' => ∃ v, e = .returned (.tuple #[v, .int .i64 (stV s)]) ∧ IS w' v (crossV s) ∧ Below w.heap.size w w' := by
  have CK := Lib.hid (fun W => stCheck_any s W hs)
  obtain ⟨z, hz⟩ : ∃ z, z = stV s := ⟨_, rfl⟩
  have hv : crossV s = if z = 0 then crW s.data.toList else [] := by rw [hz]; rfl
  rw [hv]
  rw [← hz] at CK ⊢
  by_cases h0 : z = 0
  · subst h0
    have CR := Lib.hid (fun W => crossings_any s (by have := (st_ok hz.symm).1; omega) W)
    clear hz hv
    go_enter Tryz.func10, Tryz.ntmps10
    go_wp2_with fail
    refine (CK.out _).mono ?_
    rintro e w1 ⟨rfl, rfl⟩
    go_wp2_with fail
    refine (CR.out _).mono ?_
    rintro e w2 ⟨v, rfl, hown, hb⟩
    have HO := Lib.hid hown
    have HB := Lib.hid hb
    clear hown hb
    go_wp2_with fail
    go_ret2
    exact ⟨v, rfl, is_own HO.out rfl, HB.out⟩
  · have hq : (z != 0) = true := by simpa using h0
    rw [if_neg h0]
    clear hz hv
    go_enter Tryz.func10, Tryz.ntmps10
    go_wp2_with fail
    refine (CK.out _).mono ?_
    rintro e w1 ⟨rfl, rfl⟩
    go_wp2_with fail
    go_ret2
    exact ⟨_, rfl, is_nil _, Below.refl _ _⟩
set_option maxHeartbeats 1000000 in
set_option maxRecDepth 100000 in
theorem refCrossings_any (s : ByteArray) (_ : s.size ≤ maxLen) (w : World) :
    Calls Tryz.prog 11 #[.string s] w fun e w' => ∃ v, e = .returned (.tuple #[v, .int .i64 (stV s)]) ∧ IS w' v (crossV s) ∧ Below w.heap.size w w' := by
  have CK := Lib.hid (fun W => refCheck3_any s W)
  obtain ⟨z, hz⟩ : ∃ z, z = stV s := ⟨_, rfl⟩
  have hv : crossV s = if z = 0 then crW s.data.toList else [] := by rw [hz]; rfl
  rw [hv]
  rw [← hz] at CK ⊢
  by_cases h0 : z = 0
  · subst h0
    have CR := Lib.hid (fun W => refcrossings_any s (by have := (st_ok hz.symm).1; omega) W)
    clear hz hv
    go_enter Tryz.func11, Tryz.ntmps11
    go_wp2_with fail
    refine (CK.out _).mono ?_
    rintro e w1 ⟨rfl, rfl⟩
    go_wp2_with fail
    refine (CR.out _).mono ?_
    rintro e w2 ⟨v, rfl, hown, hb⟩
    have HO := Lib.hid hown
    have HB := Lib.hid hb
    clear hown hb
    go_wp2_with fail
    go_ret2
    exact ⟨v, rfl, is_own HO.out rfl, HB.out⟩
  · have hq : (z != 0) = true := by simpa using h0
    rw [if_neg h0]
    clear hz hv
    go_enter Tryz.func11, Tryz.ntmps11
    go_wp2_with fail
    refine (CK.out _).mono ?_
    rintro e w1 ⟨rfl, rfl⟩
    go_wp2_with fail
    go_ret2
    exact ⟨_, rfl, is_nil _, Below.refl _ _⟩
theorem place_all {s : Pm} (hs : s.In 4) {R : List Value} (hl : R.length = 4) (h : ∀ j, j < 4 → R[s.g j]? = some (Value.int .i64 ((j : Int) + 1))) : R = ((ints 4 s).map (· + 1)).map (Value.int .i64) := by
  apply List.ext_getElem?
  intro i
  rcases Nat.lt_or_ge i 4 with hi | hi
  · have := h (s.f i) (hs.lt hi)
    rw [s.gf] at this
    rw [this, List.getElem?_map, List.getElem?_map, ints_get _ hi]
    rfl
  · rw [List.getElem?_eq_none (by omega), List.getElem?_eq_none (by simp [ints_len]; omega)]
theorem place_next {k : Nat} {s : Pm} (hs : s.In 4) {R : List Value} (hk : k < 4) (hl : R.length = 4) (h : ∀ j, j < k → R[s.g j]? = some (Value.int .i64 ((j : Int) + 1))) :
    ∀ j, j < k + 1 → (R.set (s.g k) (.int .i64 ((k : Int) + 1)))[s.g j]? = some (Value.int .i64 ((j : Int) + 1)) := fun j hj => by
  rw [List.getElem?_set]
  by_cases e : j = k
  · subst e
    rw [if_pos rfl, if_pos (by rw [hl]; exact hs.glt hk)]
  · rw [if_neg (fun h => e (by have := congrArg s.f h; rw [s.fg, s.fg] at this; exact this.symm)), h j (by omega)]
set_option maxHeartbeats 2000000 in
set_option maxRecDepth 100000 in
theorem Places_any (s : ByteArray) (hs : s.size ≤ maxLen) (w : World) :
    Calls Tryz.prog 12 #[.string s] w fun e w' => ∃ v, e = .returned (.tuple #[v, .int .i64 (stV s)]) ∧ IS w' v (placeV s) ∧ Below w.heap.size w w' := by
  have CK := Lib.hid (fun W => stCheck_any s W hs)
  obtain ⟨z, hz⟩ : ∃ z, z = stV s := ⟨_, rfl⟩
  have hv : placeV s = if z = 0 then placeL (crW s.data.toList) else [] := by rw [hz]; rfl
  rw [hv]
  rw [← hz] at CK ⊢
  by_cases h0 : z = 0
  · subst h0
    have h16 := (st_ok hz.symm).1
    have CR := Lib.hid (fun W => crossings_any s (by omega) W)
    have CP := Lib.hid (fun v W h => Perm_any 4 (crW s.data.toList) v W h)
    have hck : checkV 4 (crW s.data.toList) = 0 := crW_check (by simpa using h16)
    have hpv : permV 4 (crW s.data.toList) = ints 4 (lineP (crW s.data.toList)).inv := by unfold permV; rw [if_pos hck]; rfl
    rw [hck, hpv] at CP
    have hin := lineP_in (crW s.data.toList) (crW_word s.data.toList)
    unfold placeL
    rw [if_pos rfl]
    generalize crW s.data.toList = X at *
    generalize lineP X = q at *
    have Hin := Lib.hid hin
    have hmk : ∀ W, (Instr.makeSlice 23 (.int .i64 4) (.int .i64 4)).run Tryz.prog W = .ok (.slice (some ⟨W.heap.size, 0, none⟩) 4 4) (W.alloc (.cells (madeCells #[.int .i64 0] 4) 3)) := fun W => mk_full 4 (by omega) W
    clear hz hv hck hpv hin
    go_enter Tryz.func12, Tryz.ntmps12
    go_wp2_with fail
    refine (CK.out _).mono ?_
    rintro e w1 ⟨rfl, rfl⟩
    go_wp2_with fail
    refine (CR.out _).mono ?_
    rintro e w2 ⟨v, rfl, hown, hb⟩
    have HI := Lib.hid (is_own hown rfl)
    have HB := Lib.hid hb
    clear hown hb
    go_wp2_with fail
    refine (CP.out _ _ HI.out).mono ?_
    rintro e w3 ⟨u, rfl, hu, hb3⟩
    have HB3 := Lib.hid (HB.out.trans (hb3.mono HB.out.size))
    have hz3 := HB3.out.size
    obtain ⟨sa, sc, rfl, _, _, _, hI⟩ := hu
    have HI := Lib.hid hI
    have HO := Lib.hid (own_full 4 w3.heap.size (by omega) w3 (Nat.le_refl _))
    have HBO := Lib.hid (below_alloc w3 (.cells (madeCells #[.int .i64 0] 4) 3))
    rw [ints_len]
    clear hb3 hI
    go_wp2_with fail
    clear hmk
    go_loopw [24] (fun i wr => ∃ (k : Nat) (R : List Value), k ≤ 4 ∧ i = .int .i64 k ∧ R.length = 4 ∧ (∀ j, j < k → R[q.g j]? = some (.int .i64 ((j : Int) + 1))) ∧ wr.ownsRow w3.heap.size 3 1 (.slice (some ⟨w3.heap.size, 0, none⟩) 4 4) 4 R ∧ Below w3.heap.size w3 wr) (fun i _ => 4 - (intOf i).toNat)
    case atStart => exact ⟨0, _, Nat.zero_le _, rfl, by simp [size_madeCells], fun j h => by omega, HO.out, HBO.out⟩
    case round =>
      obtain ⟨k, R, hk, rfl, hRl, hR, hown, hbw⟩ := hrel
      have HR := Lib.hid hR
      have HRl := Lib.hid hRl
      clear hR hRl
      by_cases hkl : k < 4
      · obtain ⟨b, off, rfl, hb, hc⟩ := HI.out k _ (ints_get q.inv hkl)
        have hfl : q.g k < 4 := Hin.out.glt hkl
        have hcx : wr.cell? ⟨b, off + k, none⟩ = some (.int .i64 (q.g k : Int)) := (hbw.cell (p := ⟨b, off + k, none⟩) hb).trans hc
        have Hnext := Lib.hid (place_next Hin.out hkl HRl.out HR.out)
        obtain ⟨R0, hR0⟩ : ∃ y, R[q.g k]? = some y := ⟨_, List.getElem?_eq_getElem (by rw [HRl.out]; exact hfl)⟩
        have cp := (hown.cellAt (q.g k) (by omega)).trans hR0
        have fp := hown.frozenAt (q.g k)
        have hst := Lib.hid (hown.stored (q.g k) (.int .i64 ((k : Int) + 1))).1
        have hB2 := Lib.hid (hbw.setCell (p := ⟨w3.heap.size, q.g k, none⟩) (Nat.le_refl _) (.int .i64 ((k : Int) + 1)))
        have p0 : (0 : Int) ≤ (q.g k : Int) := by omega
        have p1 : (q.g k : Int) < 4 := by omega
        have k0 : (0 : Int) ≤ (k : Int) := by omega
        have k1 : (k : Int) < 4 := by omega
        clear hown hbw hc hR0
        go_wp2_with fail
        go_roundw
        case rel => exact ⟨k + 1, _, hkl, by go_num, by rw [List.length_set]; exact HRl.out, Hnext.out, hst.out, hB2.out⟩
        case measure => (simp [intOf] <;> omega)
      · have k1 : ¬ (k : Int) < 4 := by omega
        have e := place_all Hin.out HRl.out (fun j h => HR.out j (by omega))
        rw [e] at hown
        have Hown := Lib.hid (is_own hown (by simp [ints_len]))
        have HBW := Lib.hid (HB3.out.trans (hbw.mono hz3))
        clear hown e
        go_wp2_with fail
        go_ret2
        exact ⟨_, rfl, Hown.out, HBW.out⟩
  · have hq : (z != 0) = true := by simpa using h0
    rw [if_neg h0]
    clear hz hv
    go_enter Tryz.func12, Tryz.ntmps12
    go_wp2_with fail
    refine (CK.out _).mono ?_
    rintro e w1 ⟨rfl, rfl⟩
    go_wp2_with fail
    go_ret2
    exact ⟨_, rfl, is_nil _, Below.refl _ _⟩
end Go.Proofs.YtmefpaoakblndaaGreatDoor
