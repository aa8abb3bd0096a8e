/- Reduce: the reference's and the program's walked. -/
import Derived.Test.YtnfppebcpagjpaaCG
namespace Go.Proofs.Ytnfppebcpagjpaa
open Go.RowKit Go.Lib
/-- What Reduce hands out. -/
def redV (n : Int) (ws : List Int) : List Int := if checkV n ws = 0 then red ws else []
set_option maxHeartbeats 400000 in
set_option maxRecDepth 100000 in
theorem refReduce_any (n : Int) (ws : List Int) (v : Value) (w : World) (hv : IS w v ws) :
    Calls Try.prog 23 #[.int .i64 n, v] w fun e w' => ∃ v', e = .returned (.tuple #[v', .int .i64 (checkV n ws)]) ∧ IS w' v' (redV n ws) ∧ Below w.heap.size w w' := by
  have Hv := Lib.hid hv
  obtain ⟨sa, sc, rfl, h1, h2, _, hI⟩ := hv
  have CK := Lib.hid (refCheck_any n ws sa sc w hI h1 h2)
  have hok := fun h => checkV_ok (n := n) (ws := ws) h
  have HS := Lib.hid (show checkV n ws ≠ 0 → redV n ws = [] from fun h => if_neg h)
  have HT := Lib.hid (show checkV n ws = 0 → redV n ws = red ws from fun h => if_pos h)
  obtain ⟨c, hc⟩ : ∃ c, c = checkV n ws := ⟨_, rfl⟩
  rw [← hc] at CK hok HS HT ⊢
  have HO := Lib.hid hok
  clear hok hI hc
  go_enter Try.func23, Try.ntmps23
  go_wp2_with fail
  refine CK.out.mono ?_
  rintro e w1 ⟨rfl, B1⟩
  by_cases h : c = 0
  · have hn := Lib.hid (HT.out h)
    obtain ⟨m, _, _, hm, hl, hw⟩ := HO.out h
    subst h
    have RI := Lib.hid (refreduced_any ws _ w1 (Hv.out.below B1) (fun z hz => by have := hw z hz; omega) (by omega))
    clear hw HO
    go_wp2_with fail
    refine RI.out.mono ?_
    rintro e w2 ⟨v', rfl, O2, B2⟩
    have HO2 := Lib.hid O2
    clear O2
    go_wp2_with fail
    go_ret2
    exact ⟨v', rfl, by rw [hn.out]; exact is_own HO2.out rfl, B1.trans (B2.mono B1.size)⟩
  · have hn := Lib.hid (HS.out h)
    go_wp2_with fail
    go_ret2
    exact ⟨.slice none 0 0, rfl, by rw [hn.out]; exact is_nil _, B1⟩
/-- make([]int, 0, n). -/
theorem mk_ints (n : Nat) (hn : n < 100000) (W : World) : (Instr.makeSlice 22 (.int .i64 0) (.int .i64 (n : Int))).run Try.prog W = .ok (.slice (some ⟨W.heap.size, 0, none⟩) 0 n) (W.alloc (.cells (madeCells #[.int .i64 0] n) 3)) := by
  obtain ⟨i0, hi, hz0, hz1, hz2⟩ := info_parts infoInt
  have h := run_make (P := Try.prog) W 22 3 i0 (.int .i64 0) Try.underlying22 hi hz0 .i64 .i64 0 (n : Int) (by omega) (by omega) (by rw [hz2]; omega) (by omega)
  rw [hz1] at h
  simp at h
  exact h
theorem own_mk (n B : Nat) (hn : n < 100000) (W : World) (hB : B ≤ W.heap.size) : (W.alloc (.cells (madeCells #[.int .i64 0] n) 3)).ownsRow B 3 1 (.slice (some ⟨W.heap.size, 0, none⟩) 0 n) 0 [] :=
  World.ownsRow_made W _ n hB (by unfold maxLen; omega) (by rw [size_madeCells]; simp)
set_option maxHeartbeats 1000000 in
set_option maxRecDepth 100000 in
theorem Reduce_any (n : Int) (ws : List Int) (v : Value) (w : World) (hv : IS w v ws) :
    Calls Try.prog 22 #[.int .i64 n, v] w fun e w' => ∃ v', e = .returned (.tuple #[v', .int .i64 (checkV n ws)]) ∧ IS w' v' (redV n ws) ∧ Below w.heap.size w w' := by
  obtain ⟨sa, sc, rfl, h1, h2, _, hI⟩ := hv
  have CK := Lib.hid (Check_any n ws sa sc w h1 h2 hI)
  have HI := Lib.hid hI
  have hok := fun h => checkV_ok (n := n) (ws := ws) h
  have HS := Lib.hid (show checkV n ws ≠ 0 → redV n ws = [] from fun h => if_neg h)
  have HT := Lib.hid (show checkV n ws = 0 → redV n ws = red ws from fun h => if_pos h)
  obtain ⟨c, hc⟩ : ∃ c, c = checkV n ws := ⟨_, rfl⟩
  rw [← hc] at CK hok HS HT ⊢
  have HO := Lib.hid hok
  clear hok hI hc
  by_cases h : c = 0
  · have hn := Lib.hid (HT.out h)
    have hz : ∀ z ∈ ws, -100000 < z ∧ z < 100000 := by
      obtain ⟨m, _, _, hm, hl, hw⟩ := HO.out h
      exact fun z hz => by have := hw z hz; omega
    have hl : ws.length ≤ 400 := (HO.out h).elim fun _ h => h.2.2.2.1
    have Hz := Lib.hid hz
    subst h
    have hmk := fun W => mk_ints ws.length (by omega) W
    clear hz HO HS HT
    go_enter Try.func22, Try.ntmps22
    go_wp2_with fail
    refine CK.out.mono ?_
    rintro e w1 ⟨rfl, B1⟩
    have hs1 := B1.size
    have HO1 := Lib.hid (own_mk ws.length w.heap.size (by omega) w1 hs1)
    have HB1 := Lib.hid (B1.alloc hs1 (.cells (madeCells #[.int .i64 0] ws.length) 3))
    go_wp2_with fail
    clear hmk
    go_loopw [7, 22] (fun vo i wr => ∃ (k : Nat) (D : List Int), k ≤ ws.length ∧ D.length ≤ k ∧ i = .int .i64 k ∧ D = red (ws.take k) ∧ wr.ownsRow w.heap.size 3 1 vo D.length (D.map (Value.int .i64)) ∧ Below w.heap.size w wr) (fun _ i _ => ws.length - (intOf i).toNat)
    case atStart => exact ⟨0, [], Nat.zero_le _, Nat.le_refl _, rfl, rfl, HO1.out, HB1.out⟩
    case round =>
      obtain ⟨k, D, hk, hdk, rfl, hD, hown, hbw⟩ := hrel
      have hbs := hbw.size
      by_cases hkl : k < ws.length
      · obtain ⟨x, hx⟩ : ∃ x, ws[k]? = some x := ⟨_, List.getElem?_eq_getElem hkl⟩
        have hxz := Hz.out x (List.mem_of_getElem? hx)
        obtain ⟨bb, off, rfl, hB, hcx⟩ := HI.out k x hx
        have hcr : wr.cell? ⟨bb, off + k, none⟩ = some (.int .i64 x) := (hbw.cell (p := ⟨bb, off + k, none⟩) hB).trans hcx
        have Hnext := Lib.hid (red_next hx)
        have k0 : (0 : Int) ≤ (k : Int) := by omega
        have k1 : (k : Int) < (ws.length : Int) := by omega
        rcases last_or D with rfl | ⟨E, y, rfl⟩
        · obtain ⟨ao, co, rfl⟩ := own_form hown
          have Hown := Lib.hid hown
          have H0 := Lib.hid (show [x] = red (ws.take (k + 1)) by rw [Hnext.out, ← hD, redS_nil])
          clear hown hD hcx hx hxz
          go_wp2_with (at_builtin; refine app_one (w0 := w) w.heap.size _ [] x rfl _ _ rfl rfl Hown.out rfl (by simp) hbw hbs ?_; intro g1 cap1 w1 hown1 hb1)
          have HO1 := Lib.hid hown1
          clear hown1
          go_wp2_with fail
          go_roundw
          case rel => exact ⟨k + 1, [x], hkl, by simp, by go_num, H0.out, HO1.out, hb1⟩
          case measure => (simp [intOf] <;> omega)
        · obtain ⟨m, hm⟩ : ∃ m, m = E.length := ⟨_, rfl⟩
          have hEl : (E ++ [y]).length = m + 1 := by simp [hm]
          rw [hEl] at hdk hown
          obtain ⟨g, cap, rfl⟩ := ownsRow_succ hown
          have hcy : wr.cell? ⟨g, m, none⟩ = some (.int .i64 y) := by
            rw [hown.cellAt m (by omega), List.getElem?_map, hm]
            simp
          have w1 : IntKind.i64.wrap (m : Int) = (m : Int) := num_in (by omega) (by omega)
          have Hm := Lib.hid hm
          obtain ⟨hcap, hcapm⟩ := own_cap hown
          have hcap' : (m : Int) ≤ (cap : Int) := by omega
          clear hm hEl
          have m0 : (0 : Int) ≤ (m : Int) := by omega
          have m1 : (m : Int) < (m : Int) + 1 := by omega
          have hwn : IntKind.i64.wrap (-x) = -x := IntWalk.i64_in _ (by omega)
          have Hown := Lib.hid hown
          by_cases hyx : y = -x
          · have H0 := Lib.hid (show E = red (ws.take (k + 1)) by rw [Hnext.out, ← hD, redS_pop E hyx])
            have hyb : (y == -x) = true := by simp [hyx]
            clear hown hD hcx hx hxz
            have HP := Lib.hid (ownsRow_pop (size := 1) (xs := E.map (Value.int .i64)) (last := [.int .i64 y]) (n := m) (by rw [Hm.out]; simp) (by have := Hown.out; rw [List.map_append] at this; exact this))
            go_wp2_with fail
            go_roundw
            case rel => exact ⟨k + 1, E, hkl, by rw [← Hm.out]; omega, by go_num, H0.out, by rw [← Hm.out]; exact HP.out, hbw⟩
            case measure => (simp [intOf] <;> omega)
          · have H0 := show E ++ [y] ++ [x] = red (ws.take (k + 1)) by rw [Hnext.out, ← hD, redS_push E hyx]
            have hyb : (y == -x) = false := by simp [hyx]
            obtain ⟨F, hF⟩ : ∃ F, F = E ++ [y] := ⟨_, rfl⟩
            have hFl : F.length = m + 1 := by rw [hF, Hm.out]; simp
            rw [← hF] at H0 hown
            rw [← hFl] at hown
            have HF := Lib.hid H0
            have HFl := Lib.hid hFl
            have Hown := Lib.hid hown
            have hdF : F.length ≤ k := by omega
            clear hown hD hcx hx hxz H0 hF hFl
            go_wp2_with (at_builtin; refine app_one (w0 := w) w.heap.size _ F x rfl _ _ rfl (by rw [← HFl.out]; rfl) Hown.out rfl (by omega) hbw hbs ?_; intro g1 cap1 w1 hown1 hb1)
            have HO1 := Lib.hid hown1
            clear hown1
            go_wp2_with fail
            go_roundw
            case rel => exact ⟨k + 1, F ++ [x], hkl, by simp; omega, by go_num, HF.out, by rw [List.length_append]; exact HO1.out, hb1⟩
            case measure => (simp [intOf] <;> omega)
      · have hkn : k = ws.length := by omega
        have Hf := hown
        rw [hD, List.take_of_length_le (by omega)] at Hf
        have HF := Lib.hid Hf
        clear Hf hown hD
        go_wp2_with fail
        go_ret2
        exact ⟨_, rfl, by rw [hn.out]; exact is_own HF.out rfl, hbw⟩
  · have hn := Lib.hid (HS.out h)
    go_enter Try.func22, Try.ntmps22
    go_wp2_with fail
    refine CK.out.mono ?_
    rintro e w1 ⟨rfl, B1⟩
    go_wp2_with fail
    go_ret2
    exact ⟨.slice none 0 0, rfl, by rw [hn.out]; exact is_nil _, B1⟩
end Go.Proofs.Ytnfppebcpagjpaa
