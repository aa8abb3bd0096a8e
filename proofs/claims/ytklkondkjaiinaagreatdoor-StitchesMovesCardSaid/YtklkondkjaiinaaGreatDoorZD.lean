/- The law of moves. -/
import Derived.Test.YtklkondkjaiinaaGreatDoorZB
namespace Go.Proofs.YtklkondkjaiinaaGreatDoor
open Go.RowKit
set_option linter.unusedSimpArgs false
theorem max_of {s : ByteArray} (h : ¬ 1000 < s.size) : s.size ≤ maxLen := by unfold maxLen; omega
set_option maxHeartbeats 8000000 in
set_option maxRecDepth 100000 in
theorem moves_law (s : ByteArray) (w : World) (g : Glob w) (_ : s.size ≤ maxLen) : Calls Tryz.prog 3 #[.string s] w fun e w' => e = .returned (.bool true) ∧ Below w.heap.size w w' := by
  have HG := Lib.hid g
  clear g
  by_cases hbig : 1000 < s.size
  · have h1 : (1000 : Int) < (s.size : Int) := by omega
    go_enter Tryz.func3, Tryz.ntmps3
    go_wp2_with fail
    refine (shown_any _ HG.out).mono ?_
    rintro e w1 ⟨rfl, hb⟩
    have HB := Lib.hid hb
    clear hb
    go_wp2_with fail
    go_ret
    exact ⟨rfl, HB.out⟩
  · have h1 : ¬ (1000 : Int) < (s.size : Int) := by omega
    have hm := max_of hbig
    have C1 := Lib.hid (fun W => Crossings_any s hm W)
    have C2 := Lib.hid (fun W => refCrossings_any s hm W)
    have C3 := Lib.hid (fun W => Places_any s hm W)
    have C4 := Lib.hid (fun W => refPlaces_any s W)
    have C5 := Lib.hid (fun W => stCheck_any s W hm)
    have C6 := Lib.hid (fun W => refCheck3_any s W)
    have C7 := Lib.hid (fun W => Moves_any s hm W)
    have C8 := Lib.hid (fun W => refMoves_any s W)
    have C9 := Lib.hid (fun W => Inverse_any s hm W)
    have C10 := Lib.hid (fun W => refInverse_any s W)
    have C11 := Lib.hid (fun W => Flip_any s hm W)
    have C12 := Lib.hid (fun W => refFlip_any s W)
    have C13 := Lib.hid (fun W => Mirror_any s hm W)
    have C14 := Lib.hid (fun W => refMirror_any s W)
    have hmv : ∃ a b c : Int, movC s = #[.int .i64 a, .int .i64 b, .int .i64 c] := by
      unfold movC
      split
      · exact ⟨_, _, _, rfl⟩
      · exact ⟨_, _, _, rfl⟩
    obtain ⟨ma, mb, mc, hmv⟩ := hmv
    rw [hmv] at C7 C8
    clear hmv
    generalize stV s = z at *
    generalize crossV s = X at *
    generalize placeV s = Y at *
    generalize undS s = u1 at *
    generalize chgS flp s = u2 at *
    generalize chgS mir s = u3 at *
    clear hm hbig
    go_enter Tryz.func3, Tryz.ntmps3
    go_wp2_with fail
    refine (C1.out _).mono ?_
    rintro e w1 ⟨v1, rfl, i1, hb⟩
    have I1 := Lib.hid i1
    have B1 := Lib.hid hb
    clear i1 hb
    go_wp2_with fail
    refine (C2.out _).mono ?_
    rintro e w2 ⟨v2, rfl, i2, hb⟩
    replace I1 := Lib.hid (I1.out.below hb)
    have I2 := Lib.hid i2
    have B2 := Lib.hid (B1.out.trans (hb.mono B1.out.size))
    clear i2 hb
    go_wp2_with fail
    refine (C3.out _).mono ?_
    rintro e w3 ⟨v3, rfl, i3, hb⟩
    replace I1 := Lib.hid (I1.out.below hb)
    replace I2 := Lib.hid (I2.out.below hb)
    have I3 := Lib.hid i3
    have B3 := Lib.hid (B2.out.trans (hb.mono B2.out.size))
    clear i3 hb
    go_wp2_with fail
    refine (C4.out _).mono ?_
    rintro e w4 ⟨v4, rfl, i4, hb⟩
    replace I1 := Lib.hid (I1.out.below hb)
    replace I2 := Lib.hid (I2.out.below hb)
    replace I3 := Lib.hid (I3.out.below hb)
    have I4 := Lib.hid i4
    have B4 := Lib.hid (B3.out.trans (hb.mono B3.out.size))
    clear i4 hb
    go_wp2_with fail
    refine (C5.out _).mono ?_
    rintro e w5 ⟨rfl, hw⟩
    obtain rfl := hw.symm
    clear hw
    go_wp2_with fail
    refine (C6.out _).mono ?_
    rintro e w5 ⟨rfl, hw⟩
    obtain rfl := hw.symm
    clear hw
    go_wp2_with fail
    refine (lawsame_any X X v1 v2 _ I1.out I2.out true ⟨fun _ => rfl, fun _ => rfl⟩).mono ?_
    rintro e w5 ⟨rfl, hb⟩
    replace I3 := Lib.hid (I3.out.below hb)
    replace I4 := Lib.hid (I4.out.below hb)
    have B5 := Lib.hid (B4.out.trans (hb.mono B4.out.size))
    clear hb
    go_wp2_with fail
    refine (lawsame_any Y Y v3 v4 _ I3.out I4.out true ⟨fun _ => rfl, fun _ => rfl⟩).mono ?_
    rintro e w6 ⟨rfl, hb⟩
    have B6 := Lib.hid (B5.out.trans (hb.mono B5.out.size))
    clear hb
    go_wp2_with fail
    refine (C7.out _).mono ?_
    rintro e w7 ⟨rfl, hb⟩
    have B7 := Lib.hid (B6.out.trans (hb.mono B6.out.size))
    clear hb
    go_wp2_with fail
    obtain ⟨w8, hw8⟩ : ∃ W, W = w7.alloc (.cells #[.int .i64 ma, .int .i64 mb, .int .i64 mc] 30) := ⟨_, rfl⟩
    rw [← hw8]
    have X8 := Lib.hid (show w8.heap[w7.heap.size]? = some (.cells #[.int .i64 ma, .int .i64 mb, .int .i64 mc] 30 (0, 0)) by rw [hw8]; exact heap_alloc_new _ _)
    have B8 := Lib.hid (show Below w.heap.size w w8 by rw [hw8]; exact B7.out.alloc B7.out.size _)
    have z8 : w7.heap.size < w8.heap.size := by rw [hw8]; simp
    clear hw8
    refine (C8.out _).mono ?_
    rintro e w9 ⟨rfl, hb⟩
    have x9 := (hb.block _ z8).trans X8.out
    have B9 := Lib.hid (B8.out.trans (hb.mono B8.out.size))
    have z9 := hb.size
    have c0 : w9.cell? ⟨w7.heap.size, 0, none⟩ = some (.int .i64 ma) := cell_of_row _ _ 0 _ _ _ x9
    have c1 : w9.cell? ⟨w7.heap.size, 1, none⟩ = some (.int .i64 mb) := cell_of_row _ _ 1 _ _ _ x9
    have c2 : w9.cell? ⟨w7.heap.size, 2, none⟩ = some (.int .i64 mc) := cell_of_row _ _ 2 _ _ _ x9
    have zl : w7.heap.size < w9.heap.size := by omega
    clear hb x9
    go_wp2_with fail
    refine (C9.out _).mono ?_
    rintro e w10 ⟨rfl, hb⟩
    have B10 := Lib.hid (B9.out.trans (((Below.refl _ w9).alloc B9.out.size _).trans (hb.mono (by have := B9.out.size; simp; omega))))
    clear hb
    go_wp2_with fail
    refine (C10.out _).mono ?_
    rintro e w11 ⟨rfl, hb⟩
    have B11 := Lib.hid (B10.out.trans (hb.mono B10.out.size))
    clear hb
    go_wp2_with fail
    refine (C11.out _).mono ?_
    rintro e w12 ⟨rfl, hb⟩
    have B12 := Lib.hid (B11.out.trans (hb.mono B11.out.size))
    clear hb
    go_wp2_with fail
    refine (C12.out _).mono ?_
    rintro e w13 ⟨rfl, hb⟩
    have B13 := Lib.hid (B12.out.trans (hb.mono B12.out.size))
    clear hb
    go_wp2_with fail
    refine (C13.out _).mono ?_
    rintro e w14 ⟨rfl, hb⟩
    have B14 := Lib.hid (B13.out.trans (hb.mono B13.out.size))
    clear hb
    go_wp2_with fail
    refine (C14.out _).mono ?_
    rintro e w15 ⟨rfl, hb⟩
    have B15 := Lib.hid (B14.out.trans (hb.mono B14.out.size))
    clear hb
    go_wp2_with fail
    refine (shown_any _ (HG.out.next B15.out)).mono ?_
    rintro e w16 ⟨rfl, hb⟩
    have B16 := Lib.hid (B15.out.trans (hb.mono B15.out.size))
    clear hb
    go_wp2_with fail
    go_ret
    exact ⟨by first | rfl | (simp; done), B16.out⟩
end Go.Proofs.YtklkondkjaiinaaGreatDoor
