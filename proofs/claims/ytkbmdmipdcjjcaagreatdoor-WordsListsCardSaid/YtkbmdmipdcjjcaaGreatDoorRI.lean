/- The law of lists. -/
import Derived.Test.YtkbmdmipdcjjcaaGreatDoorRH
import Derived.Test.YtkbmdmipdcjjcaaGreatDoorLX
namespace Go.Proofs.YtkbmdmipdcjjcaaGreatDoor
open Go.RowKit

set_option maxHeartbeats 400000 in
theorem refList_long (zs : List Int) (a : Option Addr) (cap : Nat) (w : World) (h : 500 < zs.length) (hl : zs.length ≤ maxLen) :
    Calls Tryz.prog 8 #[.slice a zs.length cap] w (ListPost w zs) := by
  have hP : ListPost w zs (.returned (.tuple #[.string ⟨#[]⟩, .int .i64 3])) w := by unfold ListPost listP; rw [if_pos h]; exact ⟨rfl, Below.refl _ _⟩
  unfold maxLen at hl
  go_enter Tryz.func8, Tryz.ntmps8
  go_wp2_with fail
  go_ret2
  exact hP

set_option maxRecDepth 100000 in
set_option maxHeartbeats 2000000 in
theorem refList_empty (a : Option Addr) (cap : Nat) (w : World) :
    Calls Tryz.prog 8 #[.slice a 0 cap] w (ListPost w []) := by
  obtain ⟨i0, hi, hz0, hz1, hz2⟩ := info_parts infoStr
  have hmk : ∀ W : World, (Instr.makeSlice 47 (.int .i64 1) (.int .i64 1)).run Tryz.prog W = .ok (.slice (some ⟨W.heap.size, 0, none⟩) 1 1) (W.alloc (.cells #[.string ⟨#[]⟩] 9)) := fun W => by
    have h := run_make (P := Tryz.prog) W 47 9 i0 (.string ⟨#[]⟩) Tryz.underlying47 hi hz0 .i64 .i64 1 1 (by omega) (by omega) (by rw [hz2]; omega) (by omega)
    rw [hz1] at h
    have e : madeCells #[Value.string ⟨#[]⟩] 1 = #[.string ⟨#[]⟩] := by apply Array.toList_inj.1; rw [toList_madeCells_one]; rfl
    rw [← e]
    exact h
  have hP : ∀ w', Below w.heap.size w w' → ListPost w [] (.returned (.tuple #[.string ⟨#[]⟩, .int .i64 0])) w' := fun w' hb => ⟨rfl, hb⟩
  have HP := Lib.hid hP
  clear hP hi
  go_enter Tryz.func8, Tryz.ntmps8
  go_wp2_with fail
  go_loop [4] (fun i => i = .int .i64 0) (fun _ => 0)
  case atStart => rfl
  case round =>
    obtain rfl := hrel
    go_wp2_with fail
    go_loopw [6] (fun i wx => i = .int .i64 (-1) ∧ Below w.heap.size w wx ∧ wx.cell? ⟨w.heap.size, 0, none⟩ = some (.string ⟨#[]⟩)) (fun _ _ => 0)
    case atStart => exact ⟨rfl, (Below.refl _ w).alloc (Nat.le_refl _) _, cell_new0 _ _ _⟩
    case round =>
      obtain ⟨rfl, hbx, hcx⟩ := hrel
      go_wp2_with fail
      go_ret2
      exact HP.out _ hbx

theorem list_any (xs : List Int) (a : Option Addr) (c : Nat) (w : World) (g : Glob w) (hs : SInt w (.slice a xs.length c) xs) (hl : xs.length ≤ maxLen) :
    Calls Tryz.prog 7 #[.slice a xs.length c] w (ListPost w xs) := by
  obtain ⟨a', c', hv, hx⟩ := hs
  cases hv
  by_cases h5 : 500 < xs.length
  · exact List_long xs a c w h5 hl
  · by_cases h0 : 0 < xs.length
    · obtain ⟨b, off, rfl, hb2, hc⟩ := hx h0
      exact List_rest xs b off c w g (by omega) h0 hb2 hc
    · have : xs = [] := List.eq_nil_of_length_eq_zero (by omega)
      subst this
      exact List_empty a c w
theorem refList_any (xs : List Int) (a : Option Addr) (c : Nat) (w : World) (hs : SInt w (.slice a xs.length c) xs) (hcap : xs.length ≤ c) (hl : xs.length ≤ maxLen) :
    Calls Tryz.prog 8 #[.slice a xs.length c] w (ListPost w xs) := by
  obtain ⟨a', c', hv, hx⟩ := hs
  cases hv
  by_cases h5 : 500 < xs.length
  · exact refList_long xs a c w h5 hl
  · by_cases h0 : 0 < xs.length
    · obtain ⟨b, off, rfl, hb2, hc⟩ := hx h0
      exact refList_rest xs b off c w hcap (by omega) h0 hb2 hc
    · have : xs = [] := List.eq_nil_of_length_eq_zero (by omega)
      subst this
      exact refList_empty a c w
theorem refpar_sv (s : ByteArray) (w : World) (hs : s.size ≤ maxLen) {zs : List Int} {c : Int} (h : parP s.data.toList = (zs, c)) :
    Calls Tryz.prog 10 #[.string s] w fun e w' => ∃ (a : Option Addr) (cap : Nat), e = .returned (.tuple #[.slice a zs.length cap, .int .i64 c]) ∧ SInt w' (.slice a zs.length cap) zs ∧ Below w.heap.size w w' := by
  refine (refPar_any s w hs).mono ?_
  rintro e w' ⟨v, he, hown, hb⟩
  rw [h] at he hown
  obtain ⟨a, cap, hv, hx⟩ := sint_own hown
  subst hv
  exact ⟨a, cap, he, ⟨a, cap, rfl, hx⟩, hb⟩
theorem listP_ok {xs : List Int} (h : (listP xs).2 = 0) : xs.length ≤ 500 ∧ (∀ z ∈ xs, 0 ≤ z ∧ z ≤ 9999) ∧ (listP xs).1 = listS xs := by
  unfold listP at *
  by_cases h5 : 500 < xs.length
  · rw [if_pos h5] at h; cases h
  · rw [if_neg h5] at h ⊢
    by_cases hr : rangeB xs = true
    · rw [if_pos hr]
      refine ⟨by omega, fun z hz => ?_, rfl⟩
      unfold rangeB at hr
      have := List.all_eq_true.1 hr z hz
      simp at this
      omega
    · rw [if_neg hr] at h; cases h
theorem par_len {l : List UInt8} {zs : List Int} {c : Int} (h : parP l = (zs, c)) : zs.length ≤ 500 := by
  by_cases hc : c = 0
  · subst hc; exact (par_range h).1
  · have := par_none (l := l) (by rw [h]; exact hc)
    rw [h] at this
    simp only at this
    rw [this]
    exact Nat.zero_le _

set_option maxHeartbeats 1000000 in
set_option maxRecDepth 100000 in
theorem lists_any (xs : List Int) (a0 : Option Addr) (cap0 : Nat) (s : ByteArray) (w : World) (g : Glob w) (hv : SInt w (.slice a0 xs.length cap0) xs) (hcap : xs.length ≤ cap0) (hl : xs.length ≤ maxLen) (hs : s.size ≤ maxLen) :
    Calls Tryz.prog 3 #[.slice a0 xs.length cap0, .string s] w fun e w' => e = .returned (.bool true) ∧ Below w.heap.size w w' := by
  have hm := hs
  have hlm := hl
  unfold maxLen at hs hl
  by_cases h1 : 520 < xs.length
  · go_enter Tryz.func3, Tryz.ntmps3
    go_wp2_with (go_at_call 6; refine (shown_any _ g).mono ?_; rintro e w1 ⟨rfl, hb1⟩)
    go_ret
    exact ⟨rfl, hb1⟩
  · by_cases h2 : 3000 < s.size
    · go_enter Tryz.func3, Tryz.ntmps3
      go_wp2_with (go_at_call 6; refine (shown_any _ g).mono ?_; rintro e w1 ⟨rfl, hb1⟩)
      go_ret
      exact ⟨rfl, hb1⟩
    · have c1 := fun w g hv => list_any xs a0 cap0 w g hv hlm
      have c2 := fun w hv => refList_any xs a0 cap0 w hv hcap hlm
      unfold ListPost at c1 c2
      have hok := fun h => listP_ok (xs := xs) h
      rcases hL : listP xs with ⟨T, k⟩
      rw [hL] at c1 c2 hok
      simp only at c1 c2 hok
      obtain ⟨B, hB⟩ : ∃ B, (⟨T.toArray⟩ : ByteArray) = B := ⟨_, rfl⟩
      rw [hB] at c1 c2
      rcases hp : parP s.data.toList with ⟨zs, c⟩
      have c3 := fun w g => par_sv s w g hm hp
      have c4 := fun w => refpar_sv s w hm hp
      have hzl := par_len hp
      have c5 := fun v v' w hv hv' => ints_any zs zs v v' w hv hv' (by unfold maxLen; omega)
      have c7 := fun v v' w hv hv' => ints_any xs xs v v' w hv hv' hlm
      simp only [decide_true] at c5 c7
      have C1 := Lib.hid c1
      have C2 := Lib.hid c2
      have C3 := Lib.hid c3
      have C4 := Lib.hid c4
      have C5 := Lib.hid c5
      have C7 := Lib.hid c7
      clear c1 c2 c3 c4 c5 c7 hp hL
      by_cases hk : k = 0
      · obtain ⟨h5, hz, hTl⟩ := hok hk
        obtain ⟨hL1, hL2, _⟩ := list_main hz h5
        have hBl : listS xs = B.data.toList := by rw [← hB, ← hTl]
        rw [hBl] at hL1 hL2
        have hB0 : B.size ≤ 2500 := by rw [← size_len]; exact hL2
        have c6 := fun w g => par_sv B w g (by unfold maxLen; omega) hL1
        have C6 := Lib.hid c6
        subst hk
        clear c6 hL1 hL2 hBl hz hTl hok hB
        go_enter Tryz.func3, Tryz.ntmps3
        go_wp2_with fail
        refine (C1.out _ g hv).mono ?_; rintro e w1 ⟨rfl, hb1⟩; have g1 := g.next hb1
        go_wp2_with fail
        refine (C2.out _ (hv.below hb1)).mono ?_; rintro e w2 ⟨rfl, hb2⟩; have g2 := g1.next hb2
        go_wp2_with fail
        refine (C3.out _ g2).mono ?_; rintro e w3 ⟨a3, cap3, rfl, hs3, hb3⟩; have g3 := g2.next hb3
        go_wp2_with fail
        refine (C4.out _).mono ?_; rintro e w4 ⟨a4, cap4, rfl, hs4, hb4⟩; have g4 := g3.next hb4
        go_wp2_with fail
        refine (C5.out _ _ _ (hs3.below hb4) hs4).mono ?_; rintro e w5 ⟨rfl, hb5⟩; have g5 := g4.next hb5
        go_wp2_with fail
        refine (C6.out _ g5).mono ?_; rintro e w6 ⟨a6, cap6, rfl, hs6, hb6⟩; have g6 := g5.next hb6
        go_wp2_with fail
        refine (C7.out _ _ _ hs6 (hv.below (below_on hb1 (below_on hb2 (below_on hb3 (below_on hb4 (below_on hb5 hb6))))))).mono ?_; rintro e w7 ⟨rfl, hb7⟩; have g7 := g6.next hb7
        go_wp2_with fail
        refine (shown_any _ g7).mono ?_; rintro e w8 ⟨rfl, hb8⟩
        go_wp2_with fail
        go_ret
        exact ⟨rfl, below_on hb1 (below_on hb2 (below_on hb3 (below_on hb4 (below_on hb5 (below_on hb6 (below_on hb7 hb8))))))⟩
      · have hkB : (k == 0) = false := by simpa using hk
        clear hok
        go_enter Tryz.func3, Tryz.ntmps3
        go_wp2_with fail
        refine (C1.out _ g hv).mono ?_; rintro e w1 ⟨rfl, hb1⟩; have g1 := g.next hb1
        go_wp2_with fail
        refine (C2.out _ (hv.below hb1)).mono ?_; rintro e w2 ⟨rfl, hb2⟩; have g2 := g1.next hb2
        go_wp2_with fail
        refine (C3.out _ g2).mono ?_; rintro e w3 ⟨a3, cap3, rfl, hs3, hb3⟩; have g3 := g2.next hb3
        go_wp2_with fail
        refine (C4.out _).mono ?_; rintro e w4 ⟨a4, cap4, rfl, hs4, hb4⟩; have g4 := g3.next hb4
        go_wp2_with fail
        refine (C5.out _ _ _ (hs3.below hb4) hs4).mono ?_; rintro e w5 ⟨rfl, hb5⟩; have g5 := g4.next hb5
        go_wp2_with fail
        refine (shown_any _ g5).mono ?_; rintro e w8 ⟨rfl, hb8⟩
        go_wp2_with fail
        go_ret
        exact ⟨rfl, below_on hb1 (below_on hb2 (below_on hb3 (below_on hb4 (below_on hb5 hb8))))⟩
theorem lists_row (xs : List Int) (a0 : Option Addr) (cap0 : Nat) (s : ByteArray) (w : World) (g : Glob w) (hv : SInt w (.slice a0 xs.length cap0) xs) (hcap : xs.length ≤ cap0) (hl : xs.length ≤ maxLen)
    (_ : ∀ z ∈ xs, -9223372036854775808 ≤ z ∧ z ≤ 9223372036854775807) (hs : s.size ≤ maxLen) :
    Calls Tryz.prog 3 #[.slice a0 xs.length cap0, .string s] w fun e w' => e = .returned (.bool true) ∧ Below w.heap.size w w' :=
  lists_any xs a0 cap0 s w g hv hcap hl hs
end Go.Proofs.YtkbmdmipdcjjcaaGreatDoor
