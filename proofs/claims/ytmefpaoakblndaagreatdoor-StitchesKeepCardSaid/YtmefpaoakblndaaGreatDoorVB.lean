/- Words of stitches: crossings walked on both sides. -/
import Derived.Test.YtmefpaoakblndaaGreatDoorVA
namespace Go.Proofs.YtmefpaoakblndaaGreatDoor
open Go.RowKit Go.Lib
theorem tw_rng (c : UInt8) : (-1 ≤ crX c ∧ crX c ≤ 1) ∧ (-1 ≤ twL c ∧ twL c ≤ 1) ∧ (-1 ≤ twR c ∧ twR c ≤ 1) := by
  have := byte_all (p := fun c => decide ((-1 ≤ crX c ∧ crX c ≤ 1) ∧ (-1 ≤ twL c ∧ twL c ≤ 1) ∧ (-1 ≤ twR c ∧ twR c ≤ 1))) (by decide +kernel) c
  simpa using this
theorem byte_get {s : ByteArray} {k : Nat} (h : k < s.size) : s.data.toList[k]? = some s[k] := by
  have h1 : k < s.data.toList.length := by simpa using h
  rw [List.getElem?_eq_getElem h1]; rfl
theorem filt_next {a b c : Int} {D : List Int} {k : Nat} {x : Int} (h : [a, b, c][k]? = some x) : D ++ ([a, b, c].take (k + 1)).filter (· ≠ 0) = if x = 0 then D ++ ([a, b, c].take k).filter (· ≠ 0) else (D ++ ([a, b, c].take k).filter (· ≠ 0)) ++ [x] := by
  rw [List.take_add_one, h, List.filter_append, ← List.append_assoc]
  split <;> simp_all
set_option maxRecDepth 100000 in
theorem tri_at {a b c x : Int} {k : Nat} (hp : [a, b, c][k]? = some x) (W : World) : (Instr.index 66 (.agg #[.int .i64 a, .int .i64 b, .int .i64 c]) (.int .i64 (k : Int))).run Tryz.prog W = .ok (.int .i64 x) W := by
  have hk : k < 3 := (List.getElem?_eq_some_iff.1 hp).1
  rcases k with _ | _ | _ | k
  all_goals first | (obtain rfl := Option.some.inj hp; go_simp; done) | (obtain rfl := Option.some.inj hp; go_simp; rfl) | (exfalso; omega)
set_option maxHeartbeats 2000000 in
set_option maxRecDepth 100000 in
theorem crossings_any (s : ByteArray) (hs : s.size ≤ 1000) (w : World) :
    Calls Tryz.prog 35 #[.string s] w fun e w' => ∃ v, e = .returned v ∧ w'.ownsRow w.heap.size 3 1 v (crW s.data.toList).length ((crW s.data.toList).map (Value.int .i64)) ∧ Below w.heap.size w w' := by
  go_enter Tryz.func35, Tryz.ntmps35
  go_wp2_with fail
  go_loopw [3, 11] (fun vo i wr => ∃ (k : Nat) (D : List Int), k ≤ s.size ∧ i = .int .i64 k ∧ D = crW (s.data.toList.take k) ∧ wr.ownsRow w.heap.size 3 1 vo D.length (D.map (Value.int .i64)) ∧ Below w.heap.size w wr) (fun _ i _ => s.size - (intOf i).toNat)
  case atStart => exact ⟨0, [], Nat.zero_le _, rfl, by simp [crW], World.ownsRow_nil _ _ _ _, Below.refl _ w⟩
  case round =>
    obtain ⟨k, D, hk, rfl, hD, hown, hbw⟩ := hrel
    have Hown := Lib.hid hown
    have HD := Lib.hid hD
    have hdl : D.length ≤ 2 * s.size := by
      rw [hD]
      have := crW_len (s.data.toList.take k)
      rw [List.length_take] at this
      omega
    clear hown hD
    have hbs := hbw.size
    by_cases hkl : k < s.size
    · have k0 : (0 : Int) ≤ (k : Int) := by omega
      have k1 : (k : Int) < (s.size : Int) := by omega
      have CT := Lib.hid (fun W => twists_any s[k] W)
      have CX := Lib.hid (fun W => crosses_any s[k] W)
      obtain ⟨⟨r1, r2⟩, ⟨r3, r4⟩, r5, r6⟩ := tw_rng s[k]
      have Hn := Lib.hid (show crW (s.data.toList.take (k + 1)) = D ++ (cndC s[k]).filter (· ≠ 0) by rw [crW_take (byte_get hkl), ← HD.out]; rfl)
      unfold cndC at Hn
      generalize crX s[k] = xc at *
      generalize twL s[k] = xl at *
      generalize twR s[k] = xr at *
      obtain ⟨x0, hx0⟩ : ∃ x, x = 2 * xc := ⟨_, rfl⟩
      obtain ⟨x1, hx1⟩ : ∃ x, x = -xl := ⟨_, rfl⟩
      obtain ⟨x2, hx2⟩ : ∃ x, x = -3 * xr := ⟨_, rfl⟩
      have e0 : IntKind.i64.wrap (2 * xc) = x0 := by rw [hx0]; exact IntWalk.i64_in _ (by omega)
      have e1 : IntKind.i64.wrap (-xl) = x1 := by rw [hx1]; exact IntWalk.i64_in _ (by omega)
      have e2 : IntKind.i64.wrap (-3 * xr) = x2 := by rw [hx2]; exact IntWalk.i64_in _ (by omega)
      rw [← hx0, ← hx1, ← hx2] at Hn
      clear hx0 hx1 hx2 r1 r2 r3 r4 r5 r6
      go_wp2_with fail
      refine (CT.out _).mono ?_
      rintro e w1 ⟨rfl, rfl⟩
      go_wp2_with fail
      refine (CX.out _).mono ?_
      rintro e w1 ⟨rfl, rfl⟩
      go_wp2_with fail
      rename World => wq
      go_loopw [3, 31] (fun vo i wr => ∃ (q : Nat) (E : List Int), q ≤ 3 ∧ i = .int .i64 q ∧ E = D ++ ([x0, x1, x2].take q).filter (· ≠ 0) ∧ E.length ≤ 2 * s.size + q ∧ wr.ownsRow w.heap.size 3 1 vo E.length (E.map (Value.int .i64)) ∧ Below w.heap.size w wr) (fun _ i _ => 3 - (intOf i).toNat)
      case atStart => exact ⟨0, D, by omega, rfl, by simp, by omega, Hown.out, hbw⟩
      case round =>
        obtain ⟨q, E, hq, rfl, hE, hel, hown, hbw2⟩ := hrel
        rename World => wx
        have Hown2 := Lib.hid hown
        have HE := Lib.hid hE
        clear hown hE
        have hbs2 := hbw2.size
        by_cases hq3 : q < 3
        · obtain ⟨x, hx⟩ : ∃ x, [x0, x1, x2][q]? = some x := ⟨_, List.getElem?_eq_getElem hq3⟩
          have Hf := Lib.hid (filt_next (D := D) hx)
          have hxx := tri_at hx
          have q0 : (0 : Int) ≤ (q : Int) := by omega
          have q1 : (q : Int) < 3 := by omega
          by_cases h0 : x = 0
          · have HF := Lib.hid (Hf.out.trans (by rw [if_pos h0, ← HE.out]))
            subst h0
            clear hx
            go_wp2_with fail
            go_roundw
            case rel => exact ⟨q + 1, E, by omega, by go_num, HF.out.symm, by omega, Hown2.out, hbw2⟩
            case measure => (simp [intOf] <;> omega)
          · have HF := Lib.hid (Hf.out.trans (by rw [if_neg h0, ← HE.out]))
            have hxq : (x != 0) = true := by simpa using h0
            clear hx h0
            go_wp2_with (at_builtin; refine app_one (w0 := w) w.heap.size _ E x rfl _ _ rfl rfl Hown2.out rfl (by omega) hbw2 hbs2 ?_; intro g cap w1 hown1 hb1)
            have HO1 := Lib.hid hown1
            clear hown1
            go_wp2_with fail
            go_roundw
            case rel => exact ⟨q + 1, E ++ [x], by omega, by go_num, HF.out.symm, by simp; omega, by rw [List.length_append]; exact HO1.out, hb1⟩
            case measure => (simp [intOf] <;> omega)
        · have hq' : q = 3 := by omega
          subst hq'
          have HF := Lib.hid (show E = D ++ [x0, x1, x2].filter (· ≠ 0) from HE.out)
          go_wp2_with fail
          go_roundw
          case rel => exact ⟨k + 1, E, hkl, by go_num, by rw [Hn.out, HF.out], Hown2.out, hbw2⟩
          case measure => (simp [intOf] <;> omega)
    · have e : k = s.size := by omega
      subst e
      have k1 : ¬ (s.size : Int) < (s.size : Int) := by omega
      have Hf := Hown.out
      rw [HD.out, List.take_of_length_le (by simp)] at Hf
      have HF := Lib.hid Hf
      clear Hf Hown
      go_wp2_with fail
      go_ret
      exact ⟨_, rfl, HF.out, hbw⟩
set_option maxHeartbeats 1000000 in
set_option maxRecDepth 100000 in
theorem refcrossings_any (s : ByteArray) (hs : s.size ≤ 1000) (w : World) :
    Calls Tryz.prog 36 #[.string s] w fun e w' => ∃ v, e = .returned v ∧ w'.ownsRow w.heap.size 3 1 v (crW s.data.toList).length ((crW s.data.toList).map (Value.int .i64)) ∧ Below w.heap.size w w' := by
  go_enter Tryz.func36, Tryz.ntmps36
  go_wp2_with fail
  go_loopw [3, 4] (fun vo i wr => ∃ (k : Nat) (D : List Int), k ≤ s.size ∧ i = .int .i64 k ∧ D = crW (s.data.toList.take k) ∧ wr.ownsRow w.heap.size 3 1 vo D.length (D.map (Value.int .i64)) ∧ Below w.heap.size w wr) (fun _ i _ => s.size - (intOf i).toNat)
  case atStart => exact ⟨0, [], Nat.zero_le _, rfl, by simp [crW], World.ownsRow_nil _ _ _ _, Below.refl _ w⟩
  case round =>
    obtain ⟨k, D, hk, rfl, hD, hown, hbw⟩ := hrel
    have Hown := Lib.hid hown
    have HD := Lib.hid hD
    have hdl : D.length ≤ 2 * s.size := by
      rw [hD]
      have := crW_len (s.data.toList.take k)
      rw [List.length_take] at this
      omega
    clear hown hD
    have hbs := hbw.size
    by_cases hkl : k < s.size
    · have k0 : (0 : Int) ≤ (k : Int) := by omega
      have k1 : (k : Int) < (s.size : Int) := by omega
      have CX := Lib.hid (fun W => refcrossing_any s[k] W)
      have hcl := crL_len s[k]
      have Hn := Lib.hid (show crW (s.data.toList.take (k + 1)) = D ++ crL s[k] by rw [crW_take (byte_get hkl), ← HD.out])
      generalize crL s[k] = X at *
      go_wp2_with fail
      refine (CX.out _).mono ?_
      rintro e w1 ⟨u, rfl, hu, hb1⟩
      have HU := Lib.hid hu
      have HB1 := Lib.hid (hbw.trans (hb1.mono hbs))
      have hbs1 := HB1.out.size
      have Hown1 := Lib.hid (own_below Hown.out hb1)
      clear hu hb1 Hown
      go_wp2_with (at_builtin; refine app_all (w0 := w) w.heap.size _ D X rfl _ _ rfl rfl Hown1.out u rfl HU.out (by omega) HB1.out hbs1 ?_; intro v' w2 hown2 hb2)
      have HO1 := Lib.hid hown2
      clear hown2
      go_wp2_with fail
      go_roundw
      case rel => exact ⟨k + 1, D ++ X, hkl, by go_num, Hn.out.symm, HO1.out, hb2⟩
      case measure => (simp [intOf] <;> omega)
    · have e : k = s.size := by omega
      subst e
      have k1 : ¬ (s.size : Int) < (s.size : Int) := by omega
      have Hf := Hown.out
      rw [HD.out, List.take_of_length_le (by simp)] at Hf
      have HF := Lib.hid Hf
      clear Hf Hown
      go_wp2_with fail
      go_ret
      exact ⟨_, rfl, HF.out, hbw⟩
end Go.Proofs.YtmefpaoakblndaaGreatDoor
