/- The examples of the document. -/
import Derived.Test.YtenfeekchggioaaOK
namespace Go.Proofs.Ytenfeekchggioaa
open Go.RowKit Go.Shelf
set_option linter.unusedSimpArgs false
attribute [local irreducible] wpQuiet
def wantL : List Ed := [⟨-1, 0, 0, 0⟩, ⟨-1, 1, 0, 1⟩, ⟨-1, 2, 1, 1⟩, ⟨0, 0, 2, 0⟩, ⟨0, 1, 1, 0⟩, ⟨1, 0, 2, 1⟩, ⟨1, 1, -1, 2⟩, ⟨2, 0, -1, 0⟩, ⟨2, 1, -1, 1⟩]
theorem ex_chk : chkS exS = 0 := by decide +kernel
theorem ex_edges : edgesV exS = wantL := by kernel_rfl
theorem ex_prog : progE exS [0] = 0 := progE_ok ex_chk (fun k i h => by
  rcases k with _ | k
  · cases h
    exact ⟨by decide, fun y hy => by omega⟩
  · simp at h) (by decide +kernel)
theorem ex_line : lineL 3 exS.ws [0] = [3, 4, 2] := by decide +kernel
theorem ex_ready : readyL 3 exS.ws [0] = [1] := by decide +kernel
theorem ex_chainE : chainE exS 0 2 = 0 := by decide +kernel
theorem ex_chainV : chainV exS 0 2 = [0, 2] := by decide +kernel
theorem ex_chain2 : chainE2 exS 0 2 = 0 := by decide +kernel
theorem ex_reo : reoE exS [1, 0, 2] = 4 := by decide +kernel
theorem ex_reoS : reoS exS [1, 0, 2] = ⟨0, []⟩ := by unfold reoS; rw [ex_reo]; rfl
theorem c_edges (u : Value) (w : World) (h : SV w u exS) : Calls Try.prog 12 #[u] w fun e w' => ∃ v, e = .returned (.tuple #[v, .int .i64 0]) ∧ ES w' v wantL ∧ Below w.heap.size w w' := by
  refine (Edges_any exS u w h).mono ?_
  rintro e w' ⟨v, rfl, ho, _, hb⟩
  rw [ex_edges] at ho
  exact ⟨v, by rw [ex_chk], es_own ho, hb⟩
theorem c_line (u dv : Value) (w : World) (h : SV w u exS) (hd : IS w dv [0]) : Calls Try.prog 17 #[u, dv] w fun e w' => ∃ v, e = .returned (.tuple #[v, .int .i64 0]) ∧ IS w' v [3, 4, 2] ∧ Below w.heap.size w w' := by
  refine (Line_any exS u [0] dv w h hd (by decide)).mono ?_
  rintro e w' ⟨v, rfl, ho, hb⟩
  rw [if_pos ex_prog, show exS.pr.toNat = 3 from rfl, ex_line] at ho
  exact ⟨v, by rw [ex_prog], ho, hb⟩
theorem c_ready (u dv : Value) (w : World) (h : SV w u exS) (hd : IS w dv [0]) : Calls Try.prog 19 #[u, dv] w fun e w' => ∃ v, e = .returned (.tuple #[v, .int .i64 0]) ∧ IS w' v [1] ∧ Below w.heap.size w w' := by
  refine (Ready_any exS u [0] dv w h hd (by decide)).mono ?_
  rintro e w' ⟨v, rfl, ho, hb⟩
  rw [if_pos ex_prog, show exS.pr.toNat = 3 from rfl, ex_ready] at ho
  exact ⟨v, by rw [ex_prog], ho, hb⟩
theorem c_before (u : Value) (w : World) (h : SV w u exS) : Calls Try.prog 22 #[u, .int .i64 0, .int .i64 2] w fun e w' => e = .returned (.tuple #[.bool true, .int .i64 0]) ∧ Below w.heap.size w w' := by
  refine (Before_any exS u 0 2 w h).mono ?_
  rintro e w' ⟨rfl, hb⟩
  exact ⟨by rw [ex_chainV, ex_chainE]; rfl, hb⟩
theorem c_chain (u : Value) (w : World) (h : SV w u exS) : Calls Try.prog 24 #[u, .int .i64 0, .int .i64 2] w fun e w' => ∃ v, e = .returned (.tuple #[v, .int .i64 0]) ∧ IS w' v [0, 2] ∧ Below w.heap.size w w' := by
  refine (Chain_any exS u 0 2 w h).mono ?_
  rintro e w' ⟨v, rfl, ho, hb⟩
  rw [ex_chainV] at ho
  exact ⟨v, by rw [ex_chain2], ho, hb⟩
theorem c_reorder (u dv : Value) (w : World) (h : SV w u exS) (hd : IS w dv [1, 0, 2]) : Calls Try.prog 26 #[u, dv] w fun e w' => ∃ a n c, e = .returned (.tuple #[.agg #[.int .i64 0, .slice a n c], .int .i64 4]) ∧ Below w.heap.size w w' := by
  refine (Reorder_any exS u [1, 0, 2] dv w h hd (by decide)).mono ?_
  rintro e w' ⟨v, rfl, ho, hb⟩
  rw [ex_reoS] at ho
  obtain ⟨u2, rfl, a, c, rfl, _⟩ := ho
  exact ⟨a, _, c, by rw [ex_reo], hb⟩
theorem is_lit (zs : List Int) (n : Nat) (hn : zs.length = n) (h9 : n ≤ 1000) (w : World) : IS (w.alloc (.cells (zs.map (Value.int .i64)).toArray 3)) (.slice (some ⟨w.heap.size, 0, none⟩) n n) zs := by
  subst hn
  refine is_own (B := w.heap.size) (World.ownsRow_lit w (zs.map (Value.int .i64)).toArray zs.length (Nat.le_refl _) (by unfold maxLen; omega) (by simp)) rfl
set_option maxRecDepth 100000 in
set_option maxHeartbeats 16000000 in
theorem shown_any (w : World) : Calls Try.prog 11 #[] w fun e w' => e = .returned (.bool true) ∧ Below w.heap.size w w' := by
  have CE := Lib.hid (fun W => example_any W)
  have HB := Lib.hid (Below.refl w.heap.size w)
  go_enter Try.func11, Try.ntmps11
  go_wp2_with fail
  refine (CE.out _).mono ?_
  rintro e w1 ⟨u1, rfl, hs, hb⟩
  replace HB := Lib.hid (HB.out.trans (hb.mono HB.out.size))
  obtain ⟨p1, hp1, hq1⟩ := id hs
  subst hp1
  have HS1 := Lib.hid hs
  clear hs hb hq1
  go_wp2_with fail
  refine (c_edges _ _ HS1.out).mono ?_
  rintro e w2 ⟨v2, rfl, hv, hb⟩
  replace HB := Lib.hid (HB.out.trans (hb.mono HB.out.size))
  have HE := Lib.hid hv
  clear hv hb HS1
  go_wp2_with fail
  refine (CE.out _).mono ?_
  rintro e w3 ⟨u3, rfl, hs, hb⟩
  replace HB := Lib.hid (HB.out.trans (hb.mono HB.out.size))
  replace HE := Lib.hid (HE.out.below hb)
  obtain ⟨p3, hp3, hq3⟩ := id hs
  subst hp3
  have HS3 := Lib.hid hs
  clear hs hb hq3
  go_wp2_with fail
  have hi := is_lit [0] 1 rfl (by decide) w3
  have hb := below_alloc w3 (.cells #[.int .i64 0] 3)
  have hs := HS3.out.below hb
  have hz : (w3.alloc (.cells #[.int .i64 0] 3)).heap.size = w3.heap.size + 1 := by simp
  have hi' : IS (w3.alloc (.cells #[.int .i64 0] 3)) (.slice (some ⟨w3.heap.size, 0, none⟩) 1 1) [0] := hi
  clear hi
  generalize w3.alloc (.cells #[.int .i64 0] 3) = x3 at *
  replace HB := Lib.hid (HB.out.trans (hb.mono HB.out.size))
  replace HE := Lib.hid (HE.out.below hb)
  have HD3 := Lib.hid hi'
  replace HS3 := Lib.hid hs
  clear hb hs hi' hz
  refine (c_line _ _ _ HS3.out HD3.out).mono ?_
  rintro e w4 ⟨v4, rfl, hv, hb⟩
  replace HB := Lib.hid (HB.out.trans (hb.mono HB.out.size))
  replace HE := Lib.hid (HE.out.below hb)
  have HA := Lib.hid hv
  clear hv hb HS3 HD3
  go_wp2_with fail
  refine (CE.out _).mono ?_
  rintro e w5 ⟨u5, rfl, hs, hb⟩
  replace HB := Lib.hid (HB.out.trans (hb.mono HB.out.size))
  replace HE := Lib.hid (HE.out.below hb)
  replace HA := Lib.hid (HA.out.below hb)
  obtain ⟨p5, hp5, hq5⟩ := id hs
  subst hp5
  have HS5 := Lib.hid hs
  clear hs hb hq5
  go_wp2_with fail
  have hi := is_lit [0] 1 rfl (by decide) w5
  have hb := below_alloc w5 (.cells #[.int .i64 0] 3)
  have hs := HS5.out.below hb
  have hz : (w5.alloc (.cells #[.int .i64 0] 3)).heap.size = w5.heap.size + 1 := by simp
  have hi' : IS (w5.alloc (.cells #[.int .i64 0] 3)) (.slice (some ⟨w5.heap.size, 0, none⟩) 1 1) [0] := hi
  clear hi
  generalize w5.alloc (.cells #[.int .i64 0] 3) = x5 at *
  replace HB := Lib.hid (HB.out.trans (hb.mono HB.out.size))
  replace HE := Lib.hid (HE.out.below hb)
  replace HA := Lib.hid (HA.out.below hb)
  have HD5 := Lib.hid hi'
  replace HS5 := Lib.hid hs
  clear hb hs hi' hz
  refine (c_ready _ _ _ HS5.out HD5.out).mono ?_
  rintro e w6 ⟨v6, rfl, hv, hb⟩
  replace HB := Lib.hid (HB.out.trans (hb.mono HB.out.size))
  replace HE := Lib.hid (HE.out.below hb)
  replace HA := Lib.hid (HA.out.below hb)
  have HR := Lib.hid hv
  clear hv hb HS5 HD5
  go_wp2_with fail
  refine (CE.out _).mono ?_
  rintro e w7 ⟨u7, rfl, hs, hb⟩
  replace HB := Lib.hid (HB.out.trans (hb.mono HB.out.size))
  replace HE := Lib.hid (HE.out.below hb)
  replace HA := Lib.hid (HA.out.below hb)
  replace HR := Lib.hid (HR.out.below hb)
  obtain ⟨p7, hp7, hq7⟩ := id hs
  subst hp7
  have HS7 := Lib.hid hs
  clear hs hb hq7
  go_wp2_with fail
  refine (c_before _ _ HS7.out).mono ?_
  rintro e w8 ⟨rfl, hb⟩
  replace HB := Lib.hid (HB.out.trans (hb.mono HB.out.size))
  replace HE := Lib.hid (HE.out.below hb)
  replace HA := Lib.hid (HA.out.below hb)
  replace HR := Lib.hid (HR.out.below hb)
  clear hb HS7
  go_wp2_with fail
  refine (CE.out _).mono ?_
  rintro e w9 ⟨u9, rfl, hs, hb⟩
  replace HB := Lib.hid (HB.out.trans (hb.mono HB.out.size))
  replace HE := Lib.hid (HE.out.below hb)
  replace HA := Lib.hid (HA.out.below hb)
  replace HR := Lib.hid (HR.out.below hb)
  obtain ⟨p9, hp9, hq9⟩ := id hs
  subst hp9
  have HS9 := Lib.hid hs
  clear hs hb hq9
  go_wp2_with fail
  refine (c_chain _ _ HS9.out).mono ?_
  rintro e w10 ⟨v10, rfl, hv, hb⟩
  replace HB := Lib.hid (HB.out.trans (hb.mono HB.out.size))
  replace HE := Lib.hid (HE.out.below hb)
  replace HA := Lib.hid (HA.out.below hb)
  replace HR := Lib.hid (HR.out.below hb)
  have HC := Lib.hid hv
  clear hv hb HS9
  go_wp2_with fail
  refine (CE.out _).mono ?_
  rintro e w11 ⟨u11, rfl, hs, hb⟩
  replace HB := Lib.hid (HB.out.trans (hb.mono HB.out.size))
  replace HE := Lib.hid (HE.out.below hb)
  replace HA := Lib.hid (HA.out.below hb)
  replace HR := Lib.hid (HR.out.below hb)
  replace HC := Lib.hid (HC.out.below hb)
  obtain ⟨p11, hp11, hq11⟩ := id hs
  subst hp11
  have HS11 := Lib.hid hs
  clear hs hb hq11
  go_wp2_with fail
  have hi := is_lit [1, 0, 2] 3 rfl (by decide) w11
  have hb := below_alloc w11 (.cells #[.int .i64 1, .int .i64 0, .int .i64 2] 3)
  have hs := HS11.out.below hb
  have hz : (w11.alloc (.cells #[.int .i64 1, .int .i64 0, .int .i64 2] 3)).heap.size = w11.heap.size + 1 := by simp
  have hi' : IS (w11.alloc (.cells #[.int .i64 1, .int .i64 0, .int .i64 2] 3)) (.slice (some ⟨w11.heap.size, 0, none⟩) 3 3) [1, 0, 2] := hi
  clear hi
  generalize w11.alloc (.cells #[.int .i64 1, .int .i64 0, .int .i64 2] 3) = x11 at *
  replace HB := Lib.hid (HB.out.trans (hb.mono HB.out.size))
  replace HE := Lib.hid (HE.out.below hb)
  replace HA := Lib.hid (HA.out.below hb)
  replace HR := Lib.hid (HR.out.below hb)
  replace HC := Lib.hid (HC.out.below hb)
  have HD11 := Lib.hid hi'
  replace HS11 := Lib.hid hs
  clear hb hs hi' hz
  refine (c_reorder _ _ _ HS11.out HD11.out).mono ?_
  rintro e w12 ⟨ra, rn, rc, rfl, hb⟩
  replace HB := Lib.hid (HB.out.trans (hb.mono HB.out.size))
  replace HE := Lib.hid (HE.out.below hb)
  replace HA := Lib.hid (HA.out.below hb)
  replace HR := Lib.hid (HR.out.below hb)
  replace HC := Lib.hid (HC.out.below hb)
  clear hb HS11 HD11
  have hb := below_alloc w12 (.cells #[.int .i64 0, .slice ra rn rc] 24)
  go_upto_region 7 with fail
  generalize w12.alloc (.cells #[.int .i64 0, .slice ra rn rc] 24) = y0 at *
  replace HB := Lib.hid (HB.out.trans (hb.mono HB.out.size))
  replace HE := Lib.hid (HE.out.below hb)
  replace HA := Lib.hid (HA.out.below hb)
  replace HR := Lib.hid (HR.out.below hb)
  replace HC := Lib.hid (HC.out.below hb)
  clear hb
  obtain ⟨ea, ec, he, _⟩ := id HE.out
  subst he
  go_upto_region 10 with fail
  have hw := World.ownsRow_lit (base := y0.heap.size) y0 #[.int .i64 (-1), .int .i64 0, .int .i64 0, .int .i64 0, .int .i64 (-1), .int .i64 1, .int .i64 0, .int .i64 1, .int .i64 (-1), .int .i64 2, .int .i64 1, .int .i64 1, .int .i64 0, .int .i64 0, .int .i64 2, .int .i64 0, .int .i64 0, .int .i64 1, .int .i64 1, .int .i64 0, .int .i64 1, .int .i64 0, .int .i64 2, .int .i64 1, .int .i64 1, .int .i64 1, .int .i64 (-1), .int .i64 2, .int .i64 2, .int .i64 0, .int .i64 (-1), .int .i64 0, .int .i64 2, .int .i64 1, .int .i64 (-1), .int .i64 1] 9 (e := 46) (size := 4) (Nat.le_refl _) (by unfold maxLen; omega) rfl
  have HW := Lib.hid (es_own (L := wantL) hw)
  have hb := below_alloc y0 (.cells #[.int .i64 (-1), .int .i64 0, .int .i64 0, .int .i64 0, .int .i64 (-1), .int .i64 1, .int .i64 0, .int .i64 1, .int .i64 (-1), .int .i64 2, .int .i64 1, .int .i64 1, .int .i64 0, .int .i64 0, .int .i64 2, .int .i64 0, .int .i64 0, .int .i64 1, .int .i64 1, .int .i64 0, .int .i64 1, .int .i64 0, .int .i64 2, .int .i64 1, .int .i64 1, .int .i64 1, .int .i64 (-1), .int .i64 2, .int .i64 2, .int .i64 0, .int .i64 (-1), .int .i64 0, .int .i64 2, .int .i64 1, .int .i64 (-1), .int .i64 1] 46)
  generalize y0.alloc (.cells #[.int .i64 (-1), .int .i64 0, .int .i64 0, .int .i64 0, .int .i64 (-1), .int .i64 1, .int .i64 0, .int .i64 1, .int .i64 (-1), .int .i64 2, .int .i64 1, .int .i64 1, .int .i64 0, .int .i64 0, .int .i64 2, .int .i64 0, .int .i64 0, .int .i64 1, .int .i64 1, .int .i64 0, .int .i64 1, .int .i64 0, .int .i64 2, .int .i64 1, .int .i64 1, .int .i64 1, .int .i64 (-1), .int .i64 2, .int .i64 2, .int .i64 0, .int .i64 (-1), .int .i64 0, .int .i64 2, .int .i64 1, .int .i64 (-1), .int .i64 1] 46) = y1 at *
  replace HB := Lib.hid (HB.out.trans (hb.mono HB.out.size))
  replace HE := Lib.hid (HE.out.below hb)
  replace HA := Lib.hid (HA.out.below hb)
  replace HR := Lib.hid (HR.out.below hb)
  replace HC := Lib.hid (HC.out.below hb)
  clear hb hw
  go_wp2_with fail
  refine (sameE_yes wantL _ _ _ HE.out HW.out (by decide)).mono ?_
  rintro e y2 ⟨rfl, hb⟩
  replace HB := Lib.hid (HB.out.trans (hb.mono HB.out.size))
  replace HE := Lib.hid (HE.out.below hb)
  replace HA := Lib.hid (HA.out.below hb)
  replace HR := Lib.hid (HR.out.below hb)
  replace HC := Lib.hid (HC.out.below hb)
  clear hb
  go_wp2_with fail
  have hi : IS (y2.alloc (.cells #[.int .i64 3, .int .i64 4, .int .i64 2] 3)) (.slice (some ⟨y2.heap.size, 0, none⟩) 3 3) [3, 4, 2] := is_lit [3, 4, 2] 3 rfl (by decide) y2
  have hb := below_alloc y2 (.cells #[.int .i64 3, .int .i64 4, .int .i64 2] 3)
  generalize y2.alloc (.cells #[.int .i64 3, .int .i64 4, .int .i64 2] 3) = z0 at *
  replace HB := Lib.hid (HB.out.trans (hb.mono HB.out.size))
  replace HE := Lib.hid (HE.out.below hb)
  replace HA := Lib.hid (HA.out.below hb)
  replace HR := Lib.hid (HR.out.below hb)
  replace HC := Lib.hid (HC.out.below hb)
  clear hb
  refine (sameI_yes [3, 4, 2] _ _ _ HA.out hi (by decide)).mono ?_
  rintro e y4 ⟨rfl, hb⟩
  replace HB := Lib.hid (HB.out.trans (hb.mono HB.out.size))
  replace HE := Lib.hid (HE.out.below hb)
  replace HA := Lib.hid (HA.out.below hb)
  replace HR := Lib.hid (HR.out.below hb)
  replace HC := Lib.hid (HC.out.below hb)
  clear hb hi
  go_wp2_with fail
  have hi : IS (y4.alloc (.cells #[.int .i64 1] 3)) (.slice (some ⟨y4.heap.size, 0, none⟩) 1 1) [1] := is_lit [1] 1 rfl (by decide) y4
  have hb := below_alloc y4 (.cells #[.int .i64 1] 3)
  generalize y4.alloc (.cells #[.int .i64 1] 3) = z1 at *
  replace HB := Lib.hid (HB.out.trans (hb.mono HB.out.size))
  replace HE := Lib.hid (HE.out.below hb)
  replace HA := Lib.hid (HA.out.below hb)
  replace HR := Lib.hid (HR.out.below hb)
  replace HC := Lib.hid (HC.out.below hb)
  clear hb
  refine (sameI_yes [1] _ _ _ HR.out hi (by decide)).mono ?_
  rintro e y6 ⟨rfl, hb⟩
  replace HB := Lib.hid (HB.out.trans (hb.mono HB.out.size))
  replace HE := Lib.hid (HE.out.below hb)
  replace HA := Lib.hid (HA.out.below hb)
  replace HR := Lib.hid (HR.out.below hb)
  replace HC := Lib.hid (HC.out.below hb)
  clear hb hi
  go_wp2_with fail
  have hi : IS (y6.alloc (.cells #[.int .i64 0, .int .i64 2] 3)) (.slice (some ⟨y6.heap.size, 0, none⟩) 2 2) [0, 2] := is_lit [0, 2] 2 rfl (by decide) y6
  have hb := below_alloc y6 (.cells #[.int .i64 0, .int .i64 2] 3)
  generalize y6.alloc (.cells #[.int .i64 0, .int .i64 2] 3) = z2 at *
  replace HB := Lib.hid (HB.out.trans (hb.mono HB.out.size))
  replace HE := Lib.hid (HE.out.below hb)
  replace HA := Lib.hid (HA.out.below hb)
  replace HR := Lib.hid (HR.out.below hb)
  replace HC := Lib.hid (HC.out.below hb)
  clear hb
  refine (sameI_yes [0, 2] _ _ _ HC.out hi (by decide)).mono ?_
  rintro e y8 ⟨rfl, hb⟩
  replace HB := Lib.hid (HB.out.trans (hb.mono HB.out.size))
  replace HE := Lib.hid (HE.out.below hb)
  replace HA := Lib.hid (HA.out.below hb)
  replace HR := Lib.hid (HR.out.below hb)
  replace HC := Lib.hid (HC.out.below hb)
  clear hb hi
  go_wp2_with fail
  go_ret
  exact ⟨by first | rfl | (simp; done), HB.out⟩
end Go.Proofs.Ytenfeekchggioaa
