/- Far, the example. -/
import Derived.Test.YtenfeekchggioaaOJ
namespace Go.Proofs.Ytenfeekchggioaa
open Go.RowKit Go.Shelf
set_option linter.unusedSimpArgs false
attribute [local irreducible] wpQuiet
/-- More than is looked at. -/
def farB (s : Sh) : Bool := (decide (100 < s.ws.length) && decide (s.ws.length ≤ 400)) || decide (2000 < s.ws.length) || s.ws.any fun x => decide (1000 < x.wd.size)
set_option maxRecDepth 100000 in
set_option maxHeartbeats 4000000 in
theorem Far_any (s : Sh) (v : Value) (w : World) (hv : SV w v s) : Calls Try.prog 10 #[v] w fun e w' => e = .returned (.bool (farB s)) ∧ Below w.heap.size w w' := by
  obtain ⟨u, rfl, hu⟩ := hv
  obtain ⟨ua, uc, rfl, k1, k2, hU⟩ := id hu
  have HU := Lib.hid hU
  clear hU hu
  have HF := Lib.hid (show farB s = ((decide (100 < s.ws.length) && decide (s.ws.length ≤ 400)) || decide (2000 < s.ws.length) || s.ws.any fun x => decide (1000 < x.wd.size)) from rfl)
  generalize farB s = fb at *
  have h0 := heap_alloc_new w (.cells #[.int .i64 s.pr, .slice ua s.ws.length uc] 24)
  have b0 := below_alloc w (.cells #[.int .i64 s.pr, .slice ua s.ws.length uc] 24)
  have z0 : (w.alloc (.cells #[.int .i64 s.pr, .slice ua s.ws.length uc] 24)).heap.size = w.heap.size + 1 := by simp
  by_cases h1 : 100 < s.ws.length ∧ s.ws.length ≤ 400
  · have q1 : (100 : Int) < (s.ws.length : Int) := by omega
    have q2 : (s.ws.length : Int) ≤ 400 := by omega
    have e : fb = true := by rw [HF.out, decide_eq_true h1.1, decide_eq_true h1.2]; rfl
    subst e
    clear h1
    go_enter Try.func10, Try.ntmps10
    go_wp2_with fail
    go_ret
    exact ⟨rfl, b0⟩
  · by_cases h2 : 2000 < s.ws.length
    · have q1 : (100 : Int) < (s.ws.length : Int) := by omega
      have q2 : ¬ (s.ws.length : Int) ≤ 400 := by omega
      have q3 : (2000 : Int) < (s.ws.length : Int) := by omega
      have e : fb = true := by rw [HF.out, decide_eq_true h2]; simp
      subst e
      clear h1 h2
      go_enter Try.func10, Try.ntmps10
      go_wp2_with fail
      go_ret
      exact ⟨rfl, b0⟩
    · have q3 : ¬ (2000 : Int) < (s.ws.length : Int) := by omega
      have HF2 := Lib.hid (show fb = s.ws.any fun x => decide (1000 < x.wd.size) by
        rw [HF.out, decide_eq_false h2, show (decide (100 < s.ws.length) && decide (s.ws.length ≤ 400)) = false by rw [Bool.and_eq_false_iff, decide_eq_false_iff_not, decide_eq_false_iff_not]; omega]
        rfl)
      rcases Nat.lt_or_ge 100 s.ws.length with hq | hq
      · have q1 : (100 : Int) < (s.ws.length : Int) := by omega
        have q2 : ¬ (s.ws.length : Int) ≤ 400 := by omega
        clear hq
        clear h1 h2 HF
        go_enter Try.func10, Try.ntmps10
        go_upto_region 3 with fail
        generalize w.alloc (.cells #[.int .i64 s.pr, .slice ua s.ws.length uc] 24) = w0 at *
        have H0 := Lib.hid h0
        have HB0 := Lib.hid b0
        have HZ0 := Lib.hid z0
        clear h0 b0 z0
        go_wp2_with fail
        go_loopw [3] (fun i wr => ∃ k : Nat, k ≤ s.ws.length ∧ i = .int .i64 (k : Int) ∧ wr = w0 ∧ ∀ x ∈ s.ws.take k, ¬ 1000 < x.wd.size) (fun i _ => s.ws.length - (intOf i).toNat)
        case atStart => exact ⟨0, Nat.zero_le _, rfl, rfl, fun x hx => by simp at hx⟩
        case round =>
          obtain ⟨k, hk, rfl, rfl, hno⟩ := hrel
          have HNO := Lib.hid hno
          clear hno
          have g1 : wr.cell? ⟨w.heap.size, 1, none⟩ = some (.slice ua s.ws.length uc) := cell_of_row wr _ 1 _ _ _ H0.out
          by_cases hkl : k < s.ws.length
          · have j0 : (0 : Int) ≤ (k : Int) := by omega
            have j1 : (k : Int) < (s.ws.length : Int) := by omega
            obtain ⟨x, hx⟩ : ∃ x, s.ws[k]? = some x := ⟨_, List.getElem?_eq_getElem hkl⟩
            obtain ⟨b, off, rfl, hb, hr, hsz⟩ := HU.out k x hx
            have c2 : wr.cell? ⟨b, off + k * 3 + 2, none⟩ = some (.string x.wd) := (HB0.out.cell (p := ⟨b, off + k * 3 + 2, none⟩) hb).trans (hr 2 _ rfl)
            have HX := Lib.hid hx
            clear hx hr
            by_cases hbig : 1000 < x.wd.size
            · have q5 : (1000 : Int) < (x.wd.size : Int) := by omega
              have e : fb = true := by rw [HF2.out, List.any_eq_true]; exact ⟨x, List.mem_of_getElem? HX.out, by simpa using hbig⟩
              subst e
              clear hbig
              go_wp2_with fail
              go_ret
              exact ⟨rfl, HB0.out⟩
            · have q5 : ¬ (1000 : Int) < (x.wd.size : Int) := by omega
              have HNN := Lib.hid (show ∀ y ∈ s.ws.take (k + 1), ¬ 1000 < y.wd.size from fun y hy => by
                rw [List.take_add_one, HX.out] at hy
                rcases List.mem_append.1 hy with hy | hy
                · exact HNO.out y hy
                · have : y = x := by simpa using hy
                  rw [this]; exact hbig)
              clear hbig
              go_wp2_with fail
              go_roundw
              case rel => exact ⟨k + 1, hkl, by go_num, by trivial, HNN.out⟩
              case measure => (simp [intOf] <;> omega)
          · have j1 : ¬ (k : Int) < (s.ws.length : Int) := by omega
            have e : fb = false := by
              rw [HF2.out, List.any_eq_false]
              intro x hx
              have := HNO.out x (by rw [List.take_of_length_le (by omega)]; exact hx)
              simpa using this
            subst e
            go_wp2_with fail
            go_ret
            exact ⟨rfl, HB0.out⟩
      · have q1 : ¬ (100 : Int) < (s.ws.length : Int) := by omega
        clear hq
        clear h1 h2 HF
        go_enter Try.func10, Try.ntmps10
        go_upto_region 3 with fail
        generalize w.alloc (.cells #[.int .i64 s.pr, .slice ua s.ws.length uc] 24) = w0 at *
        have H0 := Lib.hid h0
        have HB0 := Lib.hid b0
        have HZ0 := Lib.hid z0
        clear h0 b0 z0
        go_wp2_with fail
        go_loopw [3] (fun i wr => ∃ k : Nat, k ≤ s.ws.length ∧ i = .int .i64 (k : Int) ∧ wr = w0 ∧ ∀ x ∈ s.ws.take k, ¬ 1000 < x.wd.size) (fun i _ => s.ws.length - (intOf i).toNat)
        case atStart => exact ⟨0, Nat.zero_le _, rfl, rfl, fun x hx => by simp at hx⟩
        case round =>
          obtain ⟨k, hk, rfl, rfl, hno⟩ := hrel
          have HNO := Lib.hid hno
          clear hno
          have g1 : wr.cell? ⟨w.heap.size, 1, none⟩ = some (.slice ua s.ws.length uc) := cell_of_row wr _ 1 _ _ _ H0.out
          by_cases hkl : k < s.ws.length
          · have j0 : (0 : Int) ≤ (k : Int) := by omega
            have j1 : (k : Int) < (s.ws.length : Int) := by omega
            obtain ⟨x, hx⟩ : ∃ x, s.ws[k]? = some x := ⟨_, List.getElem?_eq_getElem hkl⟩
            obtain ⟨b, off, rfl, hb, hr, hsz⟩ := HU.out k x hx
            have c2 : wr.cell? ⟨b, off + k * 3 + 2, none⟩ = some (.string x.wd) := (HB0.out.cell (p := ⟨b, off + k * 3 + 2, none⟩) hb).trans (hr 2 _ rfl)
            have HX := Lib.hid hx
            clear hx hr
            by_cases hbig : 1000 < x.wd.size
            · have q5 : (1000 : Int) < (x.wd.size : Int) := by omega
              have e : fb = true := by rw [HF2.out, List.any_eq_true]; exact ⟨x, List.mem_of_getElem? HX.out, by simpa using hbig⟩
              subst e
              clear hbig
              go_wp2_with fail
              go_ret
              exact ⟨rfl, HB0.out⟩
            · have q5 : ¬ (1000 : Int) < (x.wd.size : Int) := by omega
              have HNN := Lib.hid (show ∀ y ∈ s.ws.take (k + 1), ¬ 1000 < y.wd.size from fun y hy => by
                rw [List.take_add_one, HX.out] at hy
                rcases List.mem_append.1 hy with hy | hy
                · exact HNO.out y hy
                · have : y = x := by simpa using hy
                  rw [this]; exact hbig)
              clear hbig
              go_wp2_with fail
              go_roundw
              case rel => exact ⟨k + 1, hkl, by go_num, by trivial, HNN.out⟩
              case measure => (simp [intOf] <;> omega)
          · have j1 : ¬ (k : Int) < (s.ws.length : Int) := by omega
            have e : fb = false := by
              rw [HF2.out, List.any_eq_false]
              intro x hx
              have := HNO.out x (by rw [List.take_of_length_le (by omega)]; exact hx)
              simpa using this
            subst e
            go_wp2_with fail
            go_ret
            exact ⟨rfl, HB0.out⟩
def cCTC : ByteArray := ⟨#[67, 84, 67]⟩
def cCT : ByteArray := ⟨#[67, 84]⟩
/-- The sheet of the document. -/
def exS : Sh := ⟨3, [⟨1, 0, cCTC⟩, ⟨1, 1, cCT⟩, ⟨1, 0, cCTC⟩]⟩
set_option maxRecDepth 100000 in
set_option maxHeartbeats 4000000 in
theorem example_any (w : World) : Calls Try.prog 33 #[] w fun e w' => ∃ u, e = .returned u ∧ SV w' u exS ∧ Below w.heap.size w w' := by
  go_enter Try.func33, Try.ntmps33
  go_wp2_with fail
  have hw := World.ownsRow_lit (base := w.heap.size) (w.alloc (.cells #[.int .i64 3, .slice (some ⟨w.heap.size + 1, 0, none⟩) 3 3] 24)) #[.int .i64 1, .int .i64 0, .string cCTC, .int .i64 1, .int .i64 1, .string cCT, .int .i64 1, .int .i64 0, .string cCTC] 3 (e := 48) (size := 3) (by simp) (by unfold maxLen; omega) rfl
  rw [show (w.alloc (.cells #[.int .i64 3, .slice (some ⟨w.heap.size + 1, 0, none⟩) 3 3] 24)).heap.size = w.heap.size + 1 by simp] at hw
  have hws : WS _ (.slice (some ⟨w.heap.size + 1, 0, none⟩) 3 3) exS.ws := ws_own (W := exS.ws) hw (fun x hx => by
    simp only [exS, List.mem_cons, List.not_mem_nil, or_false] at hx
    rcases hx with rfl | rfl | rfl <;> (unfold maxLen; decide))
  exact bodyPost_ret (results_cell_row rfl _ _ w.heap.size 24 #[.int .i64 3, .slice (some ⟨w.heap.size + 1, 0, none⟩) 3 3] (0, 0) _ rfl (heap_alloc2_old w _ _) Try.underlying24 rfl (by kernel_rfl)) rfl ⟨_, rfl, ⟨_, rfl, hws⟩, (below_alloc _ _).alloc (by simp) _⟩
end Go.Proofs.Ytenfeekchggioaa
