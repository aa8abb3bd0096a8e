/- The law of sides. -/
import Derived.Test.YtklkondkjaiinaaGreatDoorZB
import Derived.Test.YtklkondkjaiinaaGreatDoorZF
namespace Go.Proofs.YtklkondkjaiinaaGreatDoor
open Go.RowKit
set_option linter.unusedSimpArgs false
theorem same_parts : ∀ {l m : List UInt8}, SameL (splitL 80 l) (splitL 80 m) → ∀ a, runP a (crW l) = runP a (crW m) := by
  have key : ∀ (xs ys : List (List UInt8)), SameL xs ys → ∀ a, runP a (xs.flatMap crW) = runP a (ys.flatMap crW) := by
    intro xs
    induction xs with
    | nil =>
      intro ys h a
      have : ys = [] := List.eq_nil_of_length_eq_zero h.1.symm
      rw [this]
    | cons x xs ih =>
      intro ys h a
      cases ys with
      | nil => have := h.1; simp at this
      | cons y ys =>
        rw [List.flatMap_cons, List.flatMap_cons, runP_app, runP_app, same_line (h.2 0 x y rfl rfl) a]
        exact ih ys ⟨by have := h.1; simpa using this, fun k x' y' e1 e2 => h.2 (k + 1) x' y' (by simpa using e1) (by simpa using e2)⟩ _
  have join : ∀ l : List UInt8, (splitL 80 l).flatMap crW = crW l := by
    intro l
    induction l with
    | nil => rfl
    | cons b l ih =>
      unfold splitL
      by_cases hb : b = 80
      · subst hb
        rw [if_pos rfl]
        show crW [] ++ (splitL 80 l).flatMap crW = _
        rw [ih]; rfl
      · rw [if_neg hb]
        rw [splitL_ne 80 l] at ih
        rw [List.flatMap_cons] at ih ⊢
        show crL b ++ crW ((splitL 80 l).headD []) ++ _ = crL b ++ crW l
        rw [List.append_assoc, ih]
  intro l m h a
  rw [← join l, ← join m]
  exact key _ _ h a
theorem same_places {a b : ByteArray} (ha : stV a = 0) (hb : stV b = 0) (h : SameW a b) : placeV a = placeV b := by
  unfold placeV placeL
  rw [if_pos ha, if_pos hb, lineP_run, lineP_run, same_parts h idP]
set_option maxHeartbeats 4000000 in
set_option maxRecDepth 100000 in
theorem sides_bad (a b : ByteArray) (h : ¬ (stV a = 0 ∧ stV b = 0)) (w : World) (g : Glob w) : Calls Tryz.prog 7 #[.string a, .string b] w fun e w' => e = .returned (.bool true) ∧ Below w.heap.size w w' := by
  have HG := Lib.hid g
  have CA := Lib.hid (fun W => refCheck3_any a W)
  have CB := Lib.hid (fun W => refCheck3_any b W)
  clear g
  by_cases ha : stV a = 0
  · have hb : ¬ stV b = 0 := fun e => h ⟨ha, e⟩
    rw [ha] at CA
    generalize stV b = z at *
    have hq : (z != 0) = true := by simpa using hb
    clear h ha hb
    go_enter Tryz.func7, Tryz.ntmps7
    go_wp2_with fail
    refine (CA.out _).mono ?_
    rintro e w1 ⟨rfl, hw⟩
    obtain rfl := hw.symm
    clear hw
    go_wp2_with fail
    refine (CB.out _).mono ?_
    rintro e w1 ⟨rfl, hw⟩
    obtain rfl := hw.symm
    clear hw
    go_wp2_with fail
    refine (shown_any _ HG.out).mono ?_
    rintro e w1 ⟨rfl, hb⟩
    have HB := Lib.hid hb
    clear hb
    go_wp2_with fail
    go_ret
    exact ⟨rfl, HB.out⟩
  · generalize stV a = z at *
    have hq : (z != 0) = true := by simpa using ha
    clear h ha
    go_enter Tryz.func7, Tryz.ntmps7
    go_wp2_with fail
    refine (CA.out _).mono ?_
    rintro e w1 ⟨rfl, hw⟩
    obtain rfl := hw.symm
    clear hw
    go_wp2_with fail
    refine (shown_any _ HG.out).mono ?_
    rintro e w1 ⟨rfl, hb⟩
    have HB := Lib.hid hb
    clear hb
    go_wp2_with fail
    go_ret
    exact ⟨rfl, HB.out⟩
attribute [local irreducible] wpQuiet
set_option maxHeartbeats 8000000 in
set_option maxRecDepth 100000 in
theorem sides_ok (a b : ByteArray) (ha : stV a = 0) (hb : stV b = 0) (w : World) (g : Glob w) : Calls Tryz.prog 7 #[.string a, .string b] w fun e w' => e = .returned (.bool true) ∧ Below w.heap.size w w' := by
  have HG := Lib.hid g
  have ma : a.size ≤ maxLen := by have := (st_ok ha).1; unfold maxLen; omega
  have mb : b.size ≤ maxLen := by have := (st_ok hb).1; unfold maxLen; omega
  have C1 := fun W => refCheck3_any a W
  have C2 := fun W => refCheck3_any b W
  have C3 := fun W => Places_any a ma W
  have C4 := fun W => Flip_any a ma W
  have C5 := fun W => Mirror_any a ma W
  have C6 := fun W => Places_any (chgS flp a) (by have := chgS_size flp a; unfold maxLen; omega) W
  have C7 := fun W => Places_any (chgS mir a) (by have := chgS_size mir a; unfold maxLen; omega) W
  have C9 := fun W => Places_any b mb W
  have hse : sameE a b = 0 := by unfold sameE; rw [if_pos ha]; exact hb
  obtain ⟨r, hr⟩ : ∃ r : Bool, r = true ↔ SameW a b := by
    by_cases h : SameW a b
    · exact ⟨true, fun _ => h, fun _ => rfl⟩
    · exact ⟨false, fun e => (by cases e), fun e => absurd e h⟩
  have C8 := fun W g => stSame_any a b r (fun h => absurd hse h) (fun _ => hr) ma mb W g
  have hpp : r = true → placeV a = placeV b := fun h => same_places ha hb (hr.1 h)
  obtain ⟨p, q, s, hpq, ea, eu, ew⟩ := places_turn ha
  rw [ha] at C1 C3 C4 C5
  rw [hb] at C2 C9
  rw [(chg_ok flp_lt ha).1, eu] at C6
  rw [(chg_ok mir_lt ha).1, ew] at C7
  rw [hse] at C8
  rw [ea] at C3 hpp
  generalize chgS flp a = u at *
  generalize chgS mir a = v at *
  generalize placeV b = Y at *
  have H1 := Lib.hid C1
  have H2 := Lib.hid C2
  have H3 := Lib.hid C3
  have H4 := Lib.hid C4
  have H5 := Lib.hid C5
  have H6 := Lib.hid C6
  have H7 := Lib.hid C7
  have H8 := Lib.hid C8
  have H9 := Lib.hid C9
  have HPP := Lib.hid hpp
  have HPQ := Lib.hid hpq
  clear C1 C2 C3 C4 C5 C6 C7 C8 C9 hpp hpq ea eu ew hr hse g ha hb ma mb
  go_enter Tryz.func7, Tryz.ntmps7
  go_wp2_with fail
  refine (H1.out _).mono ?_
  rintro e w1 ⟨rfl, hw⟩
  obtain rfl := hw.symm
  clear hw
  go_wp2_with fail
  refine (H2.out _).mono ?_
  rintro e w1 ⟨rfl, hw⟩
  obtain rfl := hw.symm
  clear hw
  go_wp2_with fail
  refine (H3.out _).mono ?_
  rintro e w1 ⟨vp, rfl, ip, hb⟩
  have IP := Lib.hid ip
  have B1 := Lib.hid hb
  clear ip hb
  go_wp2_with fail
  refine (H4.out _).mono ?_
  rintro e w2 ⟨rfl, hb⟩
  replace IP := Lib.hid (IP.out.below hb)
  have B2 := Lib.hid (B1.out.trans (hb.mono B1.out.size))
  clear hb
  go_wp2_with fail
  refine (H5.out _).mono ?_
  rintro e w3 ⟨rfl, hb⟩
  replace IP := Lib.hid (IP.out.below hb)
  have B3 := Lib.hid (B2.out.trans (hb.mono B2.out.size))
  clear hb
  go_wp2_with fail
  refine (H6.out _).mono ?_
  rintro e w4 ⟨vq, rfl, iq, hb⟩
  replace IP := Lib.hid (IP.out.below hb)
  have IQ := Lib.hid iq
  have B4 := Lib.hid (B3.out.trans (hb.mono B3.out.size))
  clear iq hb
  go_wp2_with fail
  refine (H7.out _).mono ?_
  rintro e w5 ⟨vr, rfl, ir, hb⟩
  have ip := IP.out.below hb
  have iq := IQ.out.below hb
  have B5 := Lib.hid (B4.out.trans (hb.mono B4.out.size))
  clear hb IP IQ
  obtain ⟨sp, cp, rfl, p1, p2, p3, hp⟩ := ip
  obtain ⟨sq, cq, rfl, q1, q2, q3, hq⟩ := iq
  obtain ⟨sr, cr, rfl, r1, r2, r3, hr⟩ := ir
  have HP := Lib.hid hp
  have HQ := Lib.hid hq
  have HR := Lib.hid hr
  have HPC := Lib.hid (And.intro p1 (And.intro p2 p3))
  clear hp hq hr p3 q3 r3
  simp only [List.length_cons, List.length_nil] at p1 p2 q1 q2 r1 r2 ⊢
  go_wp2_with fail
  go_loopw [15] (fun i wr => ∃ k : Nat, k ≤ 4 ∧ i = .int .i64 k ∧ Below w5.heap.size w5 wr) (fun i _ => 4 - (intOf i).toNat)
  case atStart => exact ⟨0, Nat.zero_le _, rfl, Below.refl _ _⟩
  case round =>
    obtain ⟨k, hk, rfl, hbr⟩ := hrel
    by_cases hkl : k < 4
    · obtain ⟨hpk, hqk, hrk⟩ := HPQ.out k hkl
      obtain ⟨b1, o1, rfl, l1, c1⟩ := HP.out k ((p k : Int) + 1) (by rcases k with _ | _ | _ | _ | k <;> first | rfl | omega)
      obtain ⟨b2, o2, rfl, l2, c2⟩ := HQ.out (3 - k) ((q (3 - k) : Int) + 1) (by rcases k with _ | _ | _ | _ | k <;> first | rfl | omega)
      obtain ⟨b3, o3, rfl, l3, c3⟩ := HR.out (3 - k) ((s (3 - k) : Int) + 1) (by rcases k with _ | _ | _ | _ | k <;> first | rfl | omega)
      obtain ⟨pk, hpke⟩ : ∃ x, x = (p k : Int) + 1 := ⟨_, rfl⟩
      obtain ⟨qk, hqke⟩ : ∃ x, x = (q (3 - k) : Int) + 1 := ⟨_, rfl⟩
      obtain ⟨rk, hrke⟩ : ∃ x, x = (s (3 - k) : Int) + 1 := ⟨_, rfl⟩
      rw [← hpke] at c1
      rw [← hqke] at c2
      rw [← hrke] at c3
      have hw5 : IntKind.i64.wrap (5 - pk) = qk := by rw [show 5 - pk = qk by omega]; exact IntWalk.i64_in _ (by omega)
      have hw6 : IntKind.i64.wrap (5 - pk) = rk := by rw [show 5 - pk = rk by omega]; exact IntWalk.i64_in _ (by omega)
      have hqr : rk = qk := by omega
      obtain ⟨j, hj⟩ : ∃ j, j = 3 - k := ⟨_, rfl⟩
      rw [← hj] at c2 c3
      have hwj : IntKind.i64.wrap (3 - (k : Int)) = (j : Int) := by rw [show 3 - (k : Int) = (j : Int) by omega]; exact IntWalk.i64_in _ (by omega)
      have k0 : (0 : Int) ≤ (k : Int) := by omega
      have k1 : (k : Int) < 4 := by omega
      have j0 : (0 : Int) ≤ (j : Int) := by omega
      have j1 : (j : Int) < 4 := by omega
      have HW5 := Lib.hid hw5
      have HW6 := Lib.hid hw6
      have HWJ := Lib.hid hwj
      have d1 := (hbr.cell (p := ⟨b1, o1 + k, none⟩) l1).trans c1
      have d2 := (hbr.cell (p := ⟨b2, o2 + j, none⟩) l2).trans c2
      have d3 := (hbr.cell (p := ⟨b3, o3 + j, none⟩) l3).trans c3
      have hz := hbr.size
      have L1 := Lib.hid (show b1 < wr.heap.size by omega)
      have L2 := Lib.hid (show b2 < wr.heap.size by omega)
      have L3 := Lib.hid (show b3 < wr.heap.size by omega)
      subst hqr
      clear hpke hqke hrke hj c1 c2 c3 hw5 hw6 hwj
      go_wp2_with fail
      refine wp_region_class (fun w' => Below wr.heap.size wr w') 23 (by kernel_rfl) (by kernel_rfl) (Below.refl _ wr).drew ?_
      simp only [List.take_succ_cons, List.take_zero, List.drop_succ_cons, List.drop_zero]
      refine quiet_moveV rfl _ rfl (.slice (some ⟨b2, o2, none⟩) 4 cq) rfl ?_
      simp only [Act.put, List.setIfInBounds_toArray, List.set_cons_zero, List.set_cons_succ]
      refine quiet_moveV rfl _ rfl (.int .i64 (k : Int)) rfl ?_
      simp only [Act.put, List.setIfInBounds_toArray, List.set_cons_zero, List.set_cons_succ]
      refine quiet_still rfl (.int .i64 (j : Int)) (fun w _ => by first | (go_simp; done) | (go_simp; exact HWJ.out) | (go_simp; omega)) ?_
      simp only [Act.put, List.setIfInBounds_toArray, List.set_cons_zero, List.set_cons_succ]
      refine quiet_still rfl (.pointer (some ⟨b2, o2 + j, none⟩)) (fun w _ => by go_simp) ?_
      simp only [Act.put, List.setIfInBounds_toArray, List.set_cons_zero, List.set_cons_succ]
      refine quiet_load1 rfl _ _ rfl ⟨b2, o2 + j, none⟩ rfl (.int .i64 rk) (load_int _ _) (fun _ h => (h.cell (p := ⟨b2, o2 + j, none⟩) L2.out).trans d2) ?_
      simp only [Act.put, List.setIfInBounds_toArray, List.set_cons_zero, List.set_cons_succ]
      refine quiet_moveV rfl _ rfl (.slice (some ⟨b1, o1, none⟩) 4 cp) rfl ?_
      simp only [Act.put, List.setIfInBounds_toArray, List.set_cons_zero, List.set_cons_succ]
      refine quiet_moveV rfl _ rfl (.int .i64 (k : Int)) rfl ?_
      simp only [Act.put, List.setIfInBounds_toArray, List.set_cons_zero, List.set_cons_succ]
      refine quiet_still rfl (.pointer (some ⟨b1, o1 + k, none⟩)) (fun w _ => by go_simp) ?_
      simp only [Act.put, List.setIfInBounds_toArray, List.set_cons_zero, List.set_cons_succ]
      refine quiet_load1 rfl _ _ rfl ⟨b1, o1 + k, none⟩ rfl (.int .i64 pk) (load_int _ _) (fun _ h => (h.cell (p := ⟨b1, o1 + k, none⟩) L1.out).trans d1) ?_
      simp only [Act.put, List.setIfInBounds_toArray, List.set_cons_zero, List.set_cons_succ]
      refine quiet_still rfl (.int .i64 rk) (fun w _ => by first | (go_simp; done) | (go_simp; exact HW6.out) | (go_simp; omega)) ?_
      simp only [Act.put, List.setIfInBounds_toArray, List.set_cons_zero, List.set_cons_succ]
      refine quiet_still rfl (.bool false) (fun w _ => by first | (go_simp; done) | (go_simp; simp)) ?_
      simp only [Act.put, List.setIfInBounds_toArray, List.set_cons_zero, List.set_cons_succ]
      refine quiet_moveV rfl _ rfl (.bool false) rfl ?_
      simp only [Act.put, List.setIfInBounds_toArray, List.set_cons_zero, List.set_cons_succ]
      refine quietW_moveV (by kernel_rfl) _ rfl (.slice (some ⟨b3, o3, none⟩) 4 cr) rfl ?_
      simp only [Act.put, List.setIfInBounds_toArray, List.set_cons_zero, List.set_cons_succ]
      refine quietW_moveV (by kernel_rfl) _ rfl (.int .i64 (k : Int)) rfl ?_
      simp only [Act.put, List.setIfInBounds_toArray, List.set_cons_zero, List.set_cons_succ]
      refine quietW_still (by kernel_rfl) (.int .i64 (j : Int)) (fun w _ => by first | (go_simp; done) | (go_simp; exact HWJ.out) | (go_simp; omega)) ?_
      simp only [Act.put, List.setIfInBounds_toArray, List.set_cons_zero, List.set_cons_succ]
      refine quietW_still (by kernel_rfl) (.pointer (some ⟨b3, o3 + j, none⟩)) (fun w _ => by go_simp) ?_
      simp only [Act.put, List.setIfInBounds_toArray, List.set_cons_zero, List.set_cons_succ]
      refine quietW_load1 (by kernel_rfl) _ _ rfl ⟨b3, o3 + j, none⟩ rfl (.int .i64 rk) (load_int _ _) (fun _ h => (h.cell (p := ⟨b3, o3 + j, none⟩) L3.out).trans d3) ?_
      simp only [Act.put, List.setIfInBounds_toArray, List.set_cons_zero, List.set_cons_succ]
      refine quietW_moveV (by kernel_rfl) _ rfl (.slice (some ⟨b1, o1, none⟩) 4 cp) rfl ?_
      simp only [Act.put, List.setIfInBounds_toArray, List.set_cons_zero, List.set_cons_succ]
      refine quietW_moveV (by kernel_rfl) _ rfl (.int .i64 (k : Int)) rfl ?_
      simp only [Act.put, List.setIfInBounds_toArray, List.set_cons_zero, List.set_cons_succ]
      refine quietW_still (by kernel_rfl) (.pointer (some ⟨b1, o1 + k, none⟩)) (fun w _ => by go_simp) ?_
      simp only [Act.put, List.setIfInBounds_toArray, List.set_cons_zero, List.set_cons_succ]
      refine quietW_load1 (by kernel_rfl) _ _ rfl ⟨b1, o1 + k, none⟩ rfl (.int .i64 pk) (load_int _ _) (fun _ h => (h.cell (p := ⟨b1, o1 + k, none⟩) L1.out).trans d1) ?_
      simp only [Act.put, List.setIfInBounds_toArray, List.set_cons_zero, List.set_cons_succ]
      refine quietW_still (by kernel_rfl) (.int .i64 rk) (fun w _ => by first | (go_simp; done) | (go_simp; exact HW6.out) | (go_simp; omega)) ?_
      simp only [Act.put, List.setIfInBounds_toArray, List.set_cons_zero, List.set_cons_succ]
      refine quietW_still (by kernel_rfl) (.bool false) (fun w _ => by first | (go_simp; done) | (go_simp; simp)) ?_
      simp only [Act.put, List.setIfInBounds_toArray, List.set_cons_zero, List.set_cons_succ]
      unfold wpQuiet
      intro wy hb
      have HB2 := Lib.hid (hbr.trans (hb.mono hbr.size))
      clear hb d1 d2 d3
      go_wp2_with fail
      go_roundw
      case rel => exact ⟨k + 1, by omega, by go_num, HB2.out⟩
      case measure => (simp [intOf] <;> omega)
    · have k1 : ¬ (k : Int) < 4 := by omega
      have IPr := Lib.hid (show IS wr (.slice sp 4 cp) [(p 0 : Int) + 1, (p 1 : Int) + 1, (p 2 : Int) + 1, (p 3 : Int) + 1] from ⟨sp, cp, rfl, HPC.out.1, HPC.out.2.1, HPC.out.2.2, HP.out.below hbr⟩)
      have B6 := Lib.hid (B5.out.trans (hbr.mono B5.out.size))
      go_wp2_with fail
      refine (H8.out _ (HG.out.next B6.out)).mono ?_
      rintro e w7 ⟨rfl, hb⟩
      replace IPr := Lib.hid (IPr.out.below hb)
      have B7 := Lib.hid (B6.out.trans (hb.mono B6.out.size))
      clear hb
      go_wp2_with fail
      refine (H9.out _).mono ?_
      rintro e w8 ⟨vb, rfl, ib, hb⟩
      replace IPr := Lib.hid (IPr.out.below hb)
      have IB := Lib.hid ib
      have B8 := Lib.hid (B7.out.trans (hb.mono B7.out.size))
      clear ib hb
      cases r with
      | true =>
        have hY := HPP.out rfl
        go_wp2_with fail
        refine (lawsame_any _ _ _ _ _ IPr.out IB.out true ⟨fun _ => hY, fun _ => rfl⟩).mono ?_
        rintro e w9 ⟨rfl, hb⟩
        have B9 := Lib.hid (B8.out.trans (hb.mono B8.out.size))
        clear hb
        go_wp2_with fail
        refine (shown_any _ (HG.out.next B9.out)).mono ?_
        rintro e w10 ⟨rfl, hb⟩
        have B10 := Lib.hid (B9.out.trans (hb.mono B9.out.size))
        clear hb
        go_wp2_with fail
        go_ret
        exact ⟨by first | rfl | (simp; done), B10.out⟩
      | false =>
        go_wp2_with fail
        refine (shown_any _ (HG.out.next B8.out)).mono ?_
        rintro e w10 ⟨rfl, hb⟩
        have B10 := Lib.hid (B8.out.trans (hb.mono B8.out.size))
        clear hb
        go_wp2_with fail
        go_ret
        exact ⟨by first | rfl | (simp; done), B10.out⟩
theorem sides_law (a b : ByteArray) (w : World) (g : Glob w) (_ : a.size ≤ maxLen) (_ : b.size ≤ maxLen) : Calls Tryz.prog 7 #[.string a, .string b] w fun e w' => e = .returned (.bool true) ∧ Below w.heap.size w w' := by
  by_cases h : stV a = 0 ∧ stV b = 0
  · exact sides_ok a b h.1 h.2 w g
  · exact sides_bad a b h w g
end Go.Proofs.YtklkondkjaiinaaGreatDoor
