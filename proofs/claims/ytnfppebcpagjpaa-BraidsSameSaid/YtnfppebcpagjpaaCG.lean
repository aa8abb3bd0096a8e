/- Words without neighbours that undo each other: the reference's Reduce and the program's walked. -/
import Derived.Test.YtnfppebcpagjpaaCF
import Derived.WalkSmall
import Derived.RangeFuncBox
namespace Go.Proofs.Ytnfppebcpagjpaa
open Go.RowKit Go.Lib
def redS (o : List Int) (z : Int) : List Int := if o.getLast? = some (-z) then o.dropLast else o ++ [z]
def red (ws : List Int) : List Int := ws.foldl redS []
theorem red_next {ws : List Int} {k : Nat} {x : Int} (h : ws[k]? = some x) : red (ws.take (k + 1)) = redS (red (ws.take k)) x := by
  rw [take_more h]
  simp [red]
theorem redS_nil (x : Int) : redS [] x = [x] := by simp [redS]
theorem redS_pop (E : List Int) {y x : Int} (h : y = -x) : redS (E ++ [y]) x = E := by simp [redS, h]
theorem redS_push (E : List Int) {y x : Int} (h : ¬ y = -x) : redS (E ++ [y]) x = E ++ [y] ++ [x] := by simp [redS, h]
theorem red_len : ∀ ws : List Int, (red ws).length ≤ ws.length := by
  have : ∀ (ws o : List Int), (ws.foldl redS o).length ≤ o.length + ws.length := by
    intro ws
    induction ws with
    | nil => intro o; simp
    | cons z ws ih =>
      intro o
      have h := ih (redS o z)
      have h2 : (redS o z).length ≤ o.length + 1 := by
        unfold redS
        split
        · simp; omega
        · simp
      simp only [List.foldl_cons, List.length_cons]
      omega
  intro ws
  have := this ws []
  rw [List.length_nil, Nat.zero_add] at this
  exact this
theorem last_or (D : List Int) : D = [] ∨ ∃ E y, D = E ++ [y] := by
  rcases List.eq_nil_or_concat D with h | ⟨E, y, h⟩
  · exact .inl h
  · exact .inr ⟨E, y, by rw [h, List.concat_eq_append]⟩
theorem own_form {w : World} {B n k : Nat} {e : TypeId} {v : Value} {xs : List Value} (h : w.ownsRow B e k v n xs) : ∃ a c, v = .slice a n c := by
  rcases h.2 with ⟨rfl, rfl⟩ | ⟨g, cap, cur, rfl, _⟩
  · exact ⟨_, _, rfl⟩
  · exact ⟨_, _, rfl⟩
theorem own_cap {w : World} {B n g cap k : Nat} {e : TypeId} {xs : List Value} (h : w.ownsRow B e k (.slice (some ⟨g, 0, none⟩) n cap) n xs) : n ≤ cap ∧ cap ≤ maxLen := by
  rcases h.2 with ⟨h0, _⟩ | ⟨g', cap', cur, h0, _, _, h1, h2, _⟩
  · cases h0
  · cases h0
    exact ⟨h1, h2⟩
set_option maxHeartbeats 1000000 in
set_option maxRecDepth 100000 in
theorem refreduced_any (ws : List Int) (v : Value) (w : World) (hv : IS w v ws) (hz : ∀ z ∈ ws, -100000 < z ∧ z < 100000) (hl : ws.length ≤ 50000) :
    Calls Try.prog 53 #[v] w fun e w' => ∃ v', e = .returned v' ∧ w'.ownsRow w.heap.size 3 1 v' (red ws).length ((red ws).map (Value.int .i64)) ∧ Below w.heap.size w w' := by
  obtain ⟨sa, sc, rfl, _, _, _, hI⟩ := hv
  have HI := Lib.hid hI
  have Hz := Lib.hid hz
  clear hI hz
  go_enter Try.func53, Try.ntmps53
  go_wp2_with fail
  go_loopw [3, 4] (fun vo i wr => ∃ (k : Nat) (D : List Int), k ≤ ws.length ∧ D.length ≤ k ∧ i = .int .i64 k ∧ D = red (ws.take k) ∧ wr.ownsRow w.heap.size 3 1 vo D.length (D.map (Value.int .i64)) ∧ Below w.heap.size w wr) (fun _ i _ => ws.length - (intOf i).toNat)
  case atStart => exact ⟨0, [], Nat.zero_le _, Nat.le_refl _, rfl, rfl, World.ownsRow_nil _ _ _ _, Below.refl _ w⟩
  case round =>
    obtain ⟨k, D, hk, hdk, rfl, hD, hown, hbw⟩ := hrel
    have hbs := hbw.size
    by_cases hkl : k < ws.length
    · obtain ⟨x, hx⟩ : ∃ x, ws[k]? = some x := ⟨_, List.getElem?_eq_getElem hkl⟩
      have hxz := Hz.out x (List.mem_of_getElem? hx)
      obtain ⟨bb, off, rfl, hB, hcx⟩ := HI.out k x hx
      have hcr : wr.cell? ⟨bb, off + k, none⟩ = some (.int .i64 x) := (hbw.cell (p := ⟨bb, off + k, none⟩) hB).trans hcx
      have Hnext := Lib.hid (red_next hx)
      have k0 : (0 : Int) ≤ (k : Int) := by omega
      have k1 : (k : Int) < (ws.length : Int) := by omega
      rcases last_or D with rfl | ⟨E, y, rfl⟩
      · obtain ⟨ao, co, rfl⟩ := own_form hown
        have Hown := Lib.hid hown
        have HD := Lib.hid hD
        have H0 := Lib.hid (show [x] = red (ws.take (k + 1)) by rw [Hnext.out, ← hD, redS_nil])
        clear hown hD hcx hx hxz
        go_wp2_with fail
        go_quiet (fail)
        clear k0 k1
        go_wp2_with (at_builtin; refine app_one (w0 := w) w.heap.size _ [] x rfl _ _ rfl rfl Hown.out rfl (by simp) (below_drewN hbw _) hbs ?_; intro g1 cap1 w1 hown1 hb1)
        have HO1 := Lib.hid hown1
        clear hown1
        go_wp2_with fail
        go_roundw
        case rel => exact ⟨k + 1, [x], hkl, by simp, by go_num, H0.out, HO1.out, hb1⟩
        case measure => (simp [intOf] <;> omega)
      · obtain ⟨m, hm⟩ : ∃ m, m = E.length := ⟨_, rfl⟩
        have hEl : (E ++ [y]).length = m + 1 := by simp [hm]
        rw [hEl] at hdk hown
        obtain ⟨g, cap, rfl⟩ := ownsRow_succ hown
        have hcy : wr.cell? ⟨g, m, none⟩ = some (.int .i64 y) := by
          rw [hown.cellAt m (by omega), List.getElem?_map, hm]
          simp
        have w1 : IntKind.i64.wrap (m : Int) = (m : Int) := num_in (by omega) (by omega)
        have Hm := Lib.hid hm
        obtain ⟨hcap, hcapm⟩ := own_cap hown
        have hcap' : (m : Int) ≤ (cap : Int) := by omega
        clear hm hEl
        have m0 : (0 : Int) ≤ (m : Int) := by omega
        have m1 : (m : Int) < (m : Int) + 1 := by omega
        have hwn : IntKind.i64.wrap (-x) = -x := IntWalk.i64_in _ (by omega)
        have Hown := Lib.hid hown
        have HD := Lib.hid hD
        by_cases hyx : y = -x
        · have H0 := Lib.hid (show E = red (ws.take (k + 1)) by rw [Hnext.out, ← hD, redS_pop E hyx])
          have hyb : (y == -x) = true := by simp [hyx]
          clear hown hD hcx hx hxz
          go_wp2_with fail
          go_quiet (fail)
          have HP := Lib.hid (ownsRow_pop (size := 1) (xs := E.map (Value.int .i64)) (last := [.int .i64 y]) (n := m) (by rw [Hm.out]; simp) (by have := Hown.out; rw [List.map_append] at this; exact this))
          go_wp2_with fail
          go_roundw
          case rel => exact ⟨k + 1, E, hkl, by rw [← Hm.out]; omega, by go_num, H0.out, by rw [← Hm.out]; exact HP.out, below_drewN hbw _⟩
          case measure => (simp [intOf] <;> omega)
        · have H0 := show E ++ [y] ++ [x] = red (ws.take (k + 1)) by rw [Hnext.out, ← hD, redS_push E hyx]
          have hyb : (y == -x) = false := by simp [hyx]
          obtain ⟨F, hF⟩ : ∃ F, F = E ++ [y] := ⟨_, rfl⟩
          have hFl : F.length = m + 1 := by rw [hF, Hm.out]; simp
          rw [← hF] at H0 hown
          rw [← hFl] at hown
          have HF := Lib.hid H0
          have HFl := Lib.hid hFl
          have Hown := Lib.hid hown
          have hdF : F.length ≤ k := by omega
          clear hown hD hcx hx hxz H0 hF hFl
          go_wp2_with fail
          go_quiet (fail)
          go_wp2_with (at_builtin; refine app_one (w0 := w) w.heap.size _ F x rfl _ _ rfl (by rw [← HFl.out]; rfl) Hown.out rfl (by omega) (below_drewN hbw _) hbs ?_; intro g1 cap1 w1 hown1 hb1)
          have HO1 := Lib.hid hown1
          clear hown1
          go_wp2_with fail
          go_roundw
          case rel => exact ⟨k + 1, F ++ [x], hkl, by simp; omega, by go_num, HF.out, by rw [List.length_append]; exact HO1.out, hb1⟩
          case measure => (simp [intOf] <;> omega)
    · have hkn : k = ws.length := by omega
      have Hf := hown
      rw [hD, List.take_of_length_le (by omega)] at Hf
      have HF := Lib.hid Hf
      clear Hf hown hD
      go_wp2_with fail
      go_ret
      exact ⟨_, rfl, HF.out, hbw⟩
end Go.Proofs.Ytnfppebcpagjpaa
