/- The law's helpers: Same of the reference. -/
import Derived.Test.YtgbdccoimmkmeaaWV
import Derived.Deep.RegionLaw
import Derived.Deep.QuietTactic
import Derived.BigQuiet
namespace Go.Proofs.Ytgbdccoimmkmeaa
open Go.RowKit
set_option linter.unusedSimpArgs false
attribute [local irreducible] wpQuiet
theorem ws_get {w : World} {a : Option Addr} {n c k : Nat} {W : List Wk} {x : Wk} (h : WS w (.slice a n c) W) (hx : W[k]? = some x) : ∃ b off, a = some ⟨b, off, none⟩ ∧ b < w.heap.size ∧ w.rangeAt b (off + k * 3) (wl x) ∧ n = W.length := by
  obtain ⟨a', c', e, _, _, _, hg⟩ := h
  cases e
  obtain ⟨b, off, e2, hb, hr⟩ := hg k x hx
  exact ⟨b, off, e2, hb, hr, rfl⟩
set_option maxHeartbeats 4000000 in
set_option maxRecDepth 100000 in
theorem Same_yes (p : Int) (X : List Wk) (u v : Value) (w : World) (hu : WS w u X) (hv : WS w v X) (hl : X.length ≤ 1000) : Calls Try.prog 12 #[.agg #[.int .i64 p, u], .agg #[.int .i64 p, v]] w fun e w' => e = .returned (.bool true) ∧ Below w.heap.size w w' := by
  have HU := Lib.hid hu
  have HV := Lib.hid hv
  obtain ⟨a1, c1, rfl, _⟩ := hu
  obtain ⟨a2, c2, rfl, _⟩ := hv
  go_enter Try.func12, Try.ntmps12
  go_wp2_with fail
  have h0 : ((w.alloc (.cells #[.int .i64 p, .slice a1 X.length c1] 24)).alloc (.cells #[.int .i64 p, .slice a2 X.length c2] 24)).heap[w.heap.size]? = some (.cells #[.int .i64 p, .slice a1 X.length c1] 24 (0, 0)) := hb_old (heap_alloc_new _ _) (by simp)
  have h1 : ((w.alloc (.cells #[.int .i64 p, .slice a1 X.length c1] 24)).alloc (.cells #[.int .i64 p, .slice a2 X.length c2] 24)).heap[w.heap.size + 1]? = some (.cells #[.int .i64 p, .slice a2 X.length c2] 24 (0, 0)) := hb_new (by simp)
  have hD : Below w.heap.size w ((w.alloc (.cells #[.int .i64 p, .slice a1 X.length c1] 24)).alloc (.cells #[.int .i64 p, .slice a2 X.length c2] 24)) := (below_alloc _ _).alloc (by simp) _
  have hU2 := HU.out.below hD
  have hV2 := HV.out.below hD
  have hS : ((w.alloc (.cells #[.int .i64 p, .slice a1 X.length c1] 24)).alloc (.cells #[.int .i64 p, .slice a2 X.length c2] 24)).heap.size = w.heap.size + 2 := by simp
  generalize ((w.alloc (.cells #[.int .i64 p, .slice a1 X.length c1] 24)).alloc (.cells #[.int .i64 p, .slice a2 X.length c2] 24)) = wa at *
  have HS := Lib.hid hS
  have H0 := Lib.hid h0
  have H1 := Lib.hid h1
  have DD := Lib.hid hD
  have HU2 := Lib.hid hU2
  have HV2 := Lib.hid hV2
  clear h0 h1 hD hU2 hV2 HU HV
  go_loopw [5] (fun i wr => ∃ k : Nat, k ≤ X.length ∧ i = .int .i64 (k : Int) ∧ Below wa.heap.size wa wr) (fun i _ => X.length - (intOf i).toNat)
  case atStart => exact ⟨0, Nat.zero_le _, rfl, Below.refl _ _⟩
  case round =>
    obtain ⟨k, hk, rfl, hbw⟩ := hrel
    have HB := Lib.hid hbw
    have hzz := hbw.size
    have HZ := Lib.hid hzz
    clear hbw
    rename World => wk
    have hz2 : w.heap.size + 2 ≤ wk.heap.size := by have := HS.out; omega
    have hX0 := hb_below HB.out H0.out (by omega)
    have hX1 := hb_below HB.out H1.out (by omega)
    have c0 := cell_of_heap (j := 1) hX0 rfl
    have c1' := cell_of_heap (j := 1) hX1 rfl
    have HX0 := Lib.hid hX0
    have HX1 := Lib.hid hX1
    clear hX0 hX1
    by_cases hkl : k < X.length
    · have k0 : (0 : Int) ≤ (k : Int) := by omega
      have k1 : (k : Int) < (X.length : Int) := by omega
      obtain ⟨x, hx⟩ : ∃ x, X[k]? = some x := ⟨_, List.getElem?_eq_getElem hkl⟩
      obtain ⟨b1, o1, rfl, hb1, hr1, _⟩ := ws_get (HU2.out.below HB.out) hx
      obtain ⟨b2, o2, rfl, hb2, hr2, _⟩ := ws_get (HV2.out.below HB.out) hx
      have d10 := hr1 0 _ rfl
      have d11 := hr1 1 _ rfl
      have d12 := hr1 2 _ rfl
      have d20 := hr2 0 _ rfl
      have d21 := hr2 1 _ rfl
      have d22 := hr2 2 _ rfl
      have HR1 := Lib.hid hr1
      have HR2 := Lib.hid hr2
      clear hr1 hr2 hx
      go_wp2_with fail
      refine wp_region_class (fun w' => Below wk.heap.size wk w') 10 (by kernel_rfl) (by kernel_rfl) (Below.refl _ wk).drew ?_
      simp only [List.take_succ_cons, List.take_zero, List.drop_succ_cons, List.drop_zero]
      refine quiet_still rfl (.pointer (some ⟨w.heap.size, 1, none⟩)) (fun w _ => by go_simp) ?_
      simp only [Act.put, List.setIfInBounds_toArray, List.set_cons_zero, List.set_cons_succ]
      refine quiet_load1 rfl _ _ rfl ⟨w.heap.size, 1, none⟩ rfl (.slice (some ⟨b1, o1, none⟩) X.length c1) (load_wks _ _) (fun _ h => (h.cell (p := ⟨w.heap.size, 1, none⟩) (show w.heap.size < wk.heap.size by omega)).trans (cell_of_heap (j := 1) HX0.out rfl)) ?_
      simp only [Act.put, List.setIfInBounds_toArray, List.set_cons_zero, List.set_cons_succ]
      refine quiet_moveV rfl _ rfl (.int .i64 (k : Int)) rfl ?_
      simp only [Act.put, List.setIfInBounds_toArray, List.set_cons_zero, List.set_cons_succ]
      refine quiet_still rfl (.pointer (some ⟨b1, o1 + k * 3, none⟩)) (fun w _ => by go_simp) ?_
      simp only [Act.put, List.setIfInBounds_toArray, List.set_cons_zero, List.set_cons_succ]
      refine quiet_load_mid rfl _ _ rfl b1 (o1 + k * 3) rfl [.int .i64 1, .int .i64 x.pl, .string x.wd] _ (fun w' h j v hj => (h.cell (p := ⟨b1, o1 + k * 3 + j, none⟩) hb1).trans (HR1.out j v hj)) Try.underlying51 rfl (by kernel_rfl) ?_
      simp only [Act.put, List.setIfInBounds_toArray, List.set_cons_zero, List.set_cons_succ]
      refine quiet_still rfl (.pointer (some ⟨w.heap.size + 1, 1, none⟩)) (fun w _ => by go_simp) ?_
      simp only [Act.put, List.setIfInBounds_toArray, List.set_cons_zero, List.set_cons_succ]
      refine quiet_load1 rfl _ _ rfl ⟨w.heap.size + 1, 1, none⟩ rfl (.slice (some ⟨b2, o2, none⟩) X.length c2) (load_wks _ _) (fun _ h => (h.cell (p := ⟨w.heap.size + 1, 1, none⟩) (show w.heap.size + 1 < wk.heap.size by omega)).trans (cell_of_heap (j := 1) HX1.out rfl)) ?_
      simp only [Act.put, List.setIfInBounds_toArray, List.set_cons_zero, List.set_cons_succ]
      refine quiet_moveV rfl _ rfl (.int .i64 (k : Int)) rfl ?_
      simp only [Act.put, List.setIfInBounds_toArray, List.set_cons_zero, List.set_cons_succ]
      refine quiet_still rfl (.pointer (some ⟨b2, o2 + k * 3, none⟩)) (fun w _ => by go_simp) ?_
      simp only [Act.put, List.setIfInBounds_toArray, List.set_cons_zero, List.set_cons_succ]
      refine quiet_load_mid rfl _ _ rfl b2 (o2 + k * 3) rfl [.int .i64 1, .int .i64 x.pl, .string x.wd] _ (fun w' h j v hj => (h.cell (p := ⟨b2, o2 + k * 3 + j, none⟩) hb2).trans (HR2.out j v hj)) Try.underlying51 rfl (by kernel_rfl) ?_
      simp only [Act.put, List.setIfInBounds_toArray, List.set_cons_zero, List.set_cons_succ]
      unfold wpQuiet
      intro w2 hb
      go_wp2_with fail
      go_roundw
      case rel => exact ⟨k + 1, hkl, by go_num, HB.out.trans (hb.mono HZ.out)⟩
      case measure => (simp [intOf] <;> omega)
    · have k1 : ¬ (k : Int) < (X.length : Int) := by omega
      go_wp2_with fail
      go_ret
      exact ⟨rfl, DD.out.trans (HB.out.mono DD.out.size)⟩
end Go.Proofs.Ytgbdccoimmkmeaa
