/- The reference's Inverse, Times, Reduce walked. -/
import Derived.Test.YtnfppebcpagjpaaCE
namespace Go.Proofs.Ytnfppebcpagjpaa
open Go.RowKit Go.Lib
theorem inv_len (ws : List Int) : (inv ws).length = ws.length := by simp [inv]
theorem inv_get {ws : List Int} {k : Nat} {z : Int} (hk : k < ws.length) (h : ws[ws.length - 1 - k]? = some z) : (inv ws)[k]? = some (-z) := by
  unfold inv
  rw [List.getElem?_reverse (by simpa using hk), List.length_map, List.getElem?_map, h]
  rfl
theorem take_more {l : List Int} {k : Nat} {z : Int} (h : l[k]? = some z) : l.take (k + 1) = l.take k ++ [z] := by
  rw [List.take_add_one, h]
  rfl
set_option maxHeartbeats 600000 in
set_option maxRecDepth 100000 in
theorem refinverse_any (ws : List Int) (v : Value) (w : World) (hv : IS w v ws) (hz : ∀ z ∈ ws, -100000 < z ∧ z < 100000) (hl : ws.length ≤ 5000) :
    Calls Try.prog 49 #[v] w fun e w' => ∃ v', e = .returned v' ∧ w'.ownsRow w.heap.size 3 1 v' (inv ws).length ((inv ws).map (Value.int .i64)) ∧ Below w.heap.size w w' := by
  obtain ⟨sa, sc, rfl, _, _, _, hI⟩ := hv
  have HI := Lib.hid hI
  have Hz := Lib.hid hz
  clear hI hz
  go_enter Try.func49, Try.ntmps49
  go_wp2_with fail
  go_loopw [3, 4] (fun vo i wr => ∃ (k : Nat) (D : List Int), k ≤ ws.length ∧ D.length = k ∧ i = .int .i64 ((ws.length : Int) - 1 - (k : Int)) ∧ D = (inv ws).take k ∧ wr.ownsRow w.heap.size 3 1 vo D.length (D.map (Value.int .i64)) ∧ Below w.heap.size w wr) (fun _ i _ => (intOf i + 1).toNat)
  case atStart => exact ⟨0, [], Nat.zero_le _, rfl, by simp, rfl, World.ownsRow_nil _ _ _ _, Below.refl _ w⟩
  case round =>
    obtain ⟨k, D, hk, hdk, rfl, hD, hown, hbw⟩ := hrel
    have Hown := Lib.hid hown
    have HD := Lib.hid hD
    clear hown hD
    have hbs := hbw.size
    by_cases hkl : k < ws.length
    · obtain ⟨p, hp⟩ : ∃ p, ws.length - 1 - k = p := ⟨_, rfl⟩
      have hpi : (ws.length : Int) - 1 - (k : Int) = (p : Int) := by omega
      have hpl : p < ws.length := by omega
      obtain ⟨x, hx⟩ : ∃ x, ws[p]? = some x := ⟨_, List.getElem?_eq_getElem hpl⟩
      have hxz := Hz.out x (List.mem_of_getElem? hx)
      obtain ⟨bb, off, rfl, hB, hcx⟩ := HI.out p x hx
      have hcr : wr.cell? ⟨bb, off + p, none⟩ = some (.int .i64 x) := (hbw.cell (p := ⟨bb, off + p, none⟩) hB).trans hcx
      have hwn : IntKind.i64.wrap (-x) = -x := IntWalk.i64_in _ (by omega)
      have Hnext := Lib.hid (take_more (inv_get hkl (by rw [hp]; exact hx)))
      rw [hpi]
      have k0 : (0 : Int) ≤ (p : Int) := by omega
      have k1 : (p : Int) < (ws.length : Int) := by omega
      clear hcx hx hxz hpi
      go_wp2_with (at_builtin; refine app_one (w0 := w) w.heap.size _ D (-x) rfl _ _ rfl rfl Hown.out rfl (by omega) hbw hbs ?_; intro g cap w1 hown1 hb1)
      have HO1 := Lib.hid hown1
      clear hown1
      go_wp2_with fail
      go_roundw
      case rel => exact ⟨k + 1, D ++ [-x], hkl, by simp; omega, by first | go_num | (congr 1; omega), by rw [Hnext.out, HD.out], by rw [List.length_append, ← hdk]; exact HO1.out, hb1⟩
      case measure => (simp [intOf] <;> omega)
    · have hkn : k = ws.length := by omega
      have e : (ws.length : Int) - 1 - (k : Int) = -1 := by omega
      rw [e]
      have Hf := Hown.out
      rw [HD.out, List.take_of_length_le (by rw [inv_len]; omega)] at Hf
      have HF := Lib.hid Hf
      clear Hf Hown
      go_wp2_with fail
      go_ret
      exact ⟨_, rfl, HF.out, hbw⟩
/-- What Inverse hands out. -/
def invV (n : Int) (ws : List Int) : List Int := if checkV n ws = 0 then inv ws else []
set_option maxHeartbeats 400000 in
set_option maxRecDepth 100000 in
theorem refInverse_any (n : Int) (ws : List Int) (v : Value) (w : World) (hv : IS w v ws) :
    Calls Try.prog 16 #[.int .i64 n, v] w fun e w' => ∃ v', e = .returned (.tuple #[v', .int .i64 (checkV n ws)]) ∧ IS w' v' (invV n ws) ∧ Below w.heap.size w w' := by
  have Hv := Lib.hid hv
  obtain ⟨sa, sc, rfl, h1, h2, _, hI⟩ := hv
  have CK := Lib.hid (refCheck_any n ws sa sc w hI h1 h2)
  have hok := fun h => checkV_ok (n := n) (ws := ws) h
  have HS := Lib.hid (show checkV n ws ≠ 0 → invV n ws = [] from fun h => if_neg h)
  have HT := Lib.hid (show checkV n ws = 0 → invV n ws = inv ws from fun h => if_pos h)
  obtain ⟨c, hc⟩ : ∃ c, c = checkV n ws := ⟨_, rfl⟩
  rw [← hc] at CK hok HS HT ⊢
  have HO := Lib.hid hok
  clear hok hI hc
  go_enter Try.func16, Try.ntmps16
  go_wp2_with fail
  refine CK.out.mono ?_
  rintro e w1 ⟨rfl, B1⟩
  by_cases h : c = 0
  · have hn := Lib.hid (HT.out h)
    obtain ⟨m, _, _, hm, hl, hw⟩ := HO.out h
    subst h
    have RI := Lib.hid (refinverse_any ws _ w1 (Hv.out.below B1) (fun z hz => by have := hw z hz; omega) (by omega))
    clear hw HO
    go_wp2_with fail
    refine RI.out.mono ?_
    rintro e w2 ⟨v', rfl, O2, B2⟩
    have HO2 := Lib.hid O2
    clear O2
    go_wp2_with fail
    go_ret2
    exact ⟨v', rfl, by rw [hn.out]; exact is_own HO2.out rfl, B1.trans (B2.mono B1.size)⟩
  · have hn := Lib.hid (HS.out h)
    go_wp2_with fail
    go_ret2
    exact ⟨.slice none 0 0, rfl, by rw [hn.out]; exact is_nil _, B1⟩
/-- What Times hands out. -/
def timesV (n : Int) (xs ys : List Int) : List Int × Int := if bothV n xs ys = 0 then (if 400 < xs.length + ys.length then ([], 3) else (xs ++ ys, 0)) else ([], bothV n xs ys)
set_option maxHeartbeats 400000 in
set_option maxRecDepth 100000 in
theorem refTimes_any (n : Int) (xs ys : List Int) (u v : Value) (w : World) (hu : IS w u xs) (hv : IS w v ys) :
    Calls Try.prog 21 #[.int .i64 n, u, v] w fun e w' => ∃ v', e = .returned (.tuple #[v', .int .i64 (timesV n xs ys).2]) ∧ IS w' v' (timesV n xs ys).1 ∧ Below w.heap.size w w' := by
  have Hu := Lib.hid hu
  have Hv := Lib.hid hv
  obtain ⟨sa, sc, rfl, h1, h2, _, hI⟩ := hu
  obtain ⟨sb, sd, rfl, k1, k2, _, kI⟩ := hv
  have CK := Lib.hid (refBoth_any n xs ys sa sb sc sd w h1 h2 k1 k2 hI kI)
  unfold maxLen at h2 k2
  unfold timesV
  obtain ⟨c, hc⟩ : ∃ c, c = bothV n xs ys := ⟨_, rfl⟩
  rw [← hc] at CK ⊢
  have HC := Lib.hid hc
  clear hI kI hc
  by_cases h : c = 0
  · subst h
    obtain ⟨hx, hy⟩ := bothV_ok HC.out.symm
    have hlx : xs.length ≤ 400 := (checkV_ok hx).elim fun _ h => h.2.2.2.1
    have hly : ys.length ≤ 400 := (checkV_ok hy).elim fun _ h => h.2.2.2.1
    rw [if_pos rfl]
    by_cases h4 : 400 < xs.length + ys.length
    · rw [if_pos h4]
      have h4' : (400 : Int) < (xs.length : Int) + (ys.length : Int) := by omega
      clear hx hy
      go_enter Try.func21, Try.ntmps21
      go_wp2_with fail
      refine CK.out.mono ?_
      rintro e w1 ⟨rfl, B1⟩
      go_wp2_with fail
      go_ret2
      exact ⟨.slice none 0 0, rfl, is_nil _, B1⟩
    · rw [if_neg h4]
      have h4' : ¬ (400 : Int) < (xs.length : Int) + (ys.length : Int) := by omega
      clear hx hy
      go_enter Try.func21, Try.ntmps21
      go_wp2_with fail
      refine CK.out.mono ?_
      rintro e w1 ⟨rfl, B1⟩
      have B1' : Below w.heap.size w (w1.alloc (.cells #[] 3)) := B1.alloc B1.size _
      have IX := Lib.hid ((Hu.out.below B1'))
      have hs1 := B1.size
      go_wp2_with (first
        | (at_builtin; refine app_all (w0 := w) w.heap.size _ ([] ++ xs) ys rfl _ _ rfl rfl HO2.out _ rfl IY.out (by simp; omega) HB2.out HB2.out.size ?_; intro v3 w3 O3 B3; have HO3 := Lib.hid O3; clear O3)
        | (at_builtin; refine app_all (w0 := w) w.heap.size _ [] xs rfl _ _ rfl rfl (World.ownsRow_made _ #[] 0 B1.size (Nat.zero_le _) rfl) _ rfl IX.out (by simp; omega) B1' B1'.size ?_; intro v1 w2 O2 B2; have IY := Lib.hid (Hv.out.below B2); have HB2 := Lib.hid B2; have HO2 := Lib.hid O2; clear O2))
      go_ret2
      exact ⟨v3, rfl, is_own HO3.out rfl, B3⟩
  · rw [if_neg h]
    go_enter Try.func21, Try.ntmps21
    go_wp2_with fail
    refine CK.out.mono ?_
    rintro e w1 ⟨rfl, B1⟩
    go_wp2_with fail
    go_ret2
    exact ⟨.slice none 0 0, rfl, is_nil _, B1⟩
end Go.Proofs.Ytnfppebcpagjpaa
