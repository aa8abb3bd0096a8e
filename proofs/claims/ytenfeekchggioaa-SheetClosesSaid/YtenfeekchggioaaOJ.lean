/- same, SameInts, Far, example. -/
import Derived.Test.YtenfeekchggioaaOI2
namespace Go.Proofs.Ytenfeekchggioaa
open Go.RowKit Go.Shelf
set_option linter.unusedSimpArgs false
attribute [local irreducible] wpQuiet
theorem flat_get {α : Type} (f : α → List Value) (n : Nat) (hf : ∀ a, (f a).length = n) (L : List α) : ∀ (k : Nat) (a : α), L[k]? = some a → ∀ j, j < n → (L.flatMap f)[k * n + j]? = (f a)[j]? := by
  induction L with
  | nil => intro k a h; simp at h
  | cons b L ih =>
    intro k a h j hj
    rw [List.flatMap_cons]
    cases k with
    | zero =>
      simp at h; subst h
      rw [List.getElem?_append_left (by rw [hf]; omega)]
      congr 1
      omega
    | succ k =>
      have e : (k + 1) * n + j = n + (k * n + j) := by rw [Nat.succ_mul]; omega
      rw [List.getElem?_append_right (by rw [hf, e]; omega), hf, ← ih k a (by simpa using h) j hj]
      congr 1
      omega
/-- A slice that reads as these edges. -/
def ES (w : World) (v : Value) (L : List Ed) : Prop := ∃ a c, v = .slice a L.length c ∧ ∀ (k : Nat) (x : Ed), L[k]? = some x → ∃ b off, a = some ⟨b, off, none⟩ ∧ b < w.heap.size ∧ w.rangeAt b (off + k * 4) x.cs
theorem ES.below {w w' : World} {v : Value} {L : List Ed} (h : ES w v L) (hb : Below w.heap.size w w') : ES w' v L := by
  obtain ⟨a, c, e, h4⟩ := h
  refine ⟨a, c, e, fun k x hx => ?_⟩
  obtain ⟨b, off, e2, hlt, hr⟩ := h4 k x hx
  exact ⟨b, off, e2, by have := hb.size; omega, range_below3 hr hlt hb⟩
theorem es_own {B : Nat} {w : World} {v : Value} {L : List Ed} (h : w.ownsRow B 46 4 v L.length (L.flatMap Ed.cs)) : ES w v L := by
  obtain ⟨hl, hh⟩ := h
  rcases hh with ⟨rfl, h0⟩ | ⟨g, cap, cur, rfl, _, hg, hle, hmx, hsz, htk⟩
  · have : L = [] := List.eq_nil_of_length_eq_zero h0
    subst this
    exact ⟨none, 0, rfl, fun k x hx => by cases hx⟩
  · refine ⟨some ⟨g, 0, none⟩, cap, rfl, fun k x hx => ?_⟩
    have hgs := (Array.getElem?_eq_some_iff.1 hg).1
    refine ⟨g, 0, rfl, hgs, fun j u hu => ?_⟩
    have hk := (List.getElem?_eq_some_iff.1 hx).1
    have hj := (List.getElem?_eq_some_iff.1 hu).1
    have hj4 : j < 4 := by simpa [Ed.cs] using hj
    rw [cell_of_row _ _ _ _ _ _ hg]
    have e := flat_get Ed.cs 4 (fun _ => rfl) L k x hx j hj4
    rw [← htk, List.getElem?_take_of_lt (by omega), hu] at e
    rw [show 0 + k * 4 + j = k * 4 + j by omega, ← Array.getElem?_toList]
    exact e
set_option maxHeartbeats 4000000 in
set_option maxRecDepth 100000 in
theorem sameE_yes (X : List Ed) (u v : Value) (w : World) (hu : ES w u X) (hv : ES w v X) (hl : X.length ≤ 2000) : Calls Try.prog 16 #[u, v] w fun e w' => e = .returned (.bool true) ∧ Below w.heap.size w w' := by
  have HU := Lib.hid hu
  have HV := Lib.hid hv
  obtain ⟨a1, c1, rfl, h1⟩ := hu
  obtain ⟨a2, c2, rfl, h2⟩ := hv
  have H1 := Lib.hid h1
  have H2 := Lib.hid h2
  clear h1 h2 HU HV
  go_enter Try.func16, Try.ntmps16
  go_wp2_with fail
  go_loopw [5] (fun i wr => ∃ k : Nat, k ≤ X.length ∧ i = .int .i64 (k : Int) ∧ Below w.heap.size w wr) (fun i _ => X.length - (intOf i).toNat)
  case atStart => exact ⟨0, Nat.zero_le _, rfl, Below.refl _ _⟩
  case round =>
    obtain ⟨k, hk, rfl, hbw⟩ := hrel
    have HB := Lib.hid hbw
    have hzz := hbw.size
    clear hbw
    rename World => wk
    by_cases hkl : k < X.length
    · have k0 : (0 : Int) ≤ (k : Int) := by omega
      have k1 : (k : Int) < (X.length : Int) := by omega
      obtain ⟨x, hx⟩ : ∃ x, X[k]? = some x := ⟨_, List.getElem?_eq_getElem hkl⟩
      obtain ⟨b1, o1, rfl, hb1, hr1⟩ := H1.out k x hx
      obtain ⟨b2, o2, rfl, hb2, hr2⟩ := H2.out k x hx
      have HR1 := Lib.hid (range_below3 hr1 hb1 HB.out)
      have HR2 := Lib.hid (range_below3 hr2 hb2 HB.out)
      clear hr1 hr2 hx
      go_wp2_with fail
      refine wp_region_class (fun w' => Below wk.heap.size wk w') 8 (by kernel_rfl) (by kernel_rfl) (Below.refl _ wk).drew ?_
      simp only [List.take_succ_cons, List.take_zero, List.drop_succ_cons, List.drop_zero]
      refine quiet_moveV rfl _ rfl (.slice (some ⟨b1, o1, none⟩) X.length c1) rfl ?_
      simp only [Act.put, List.setIfInBounds_toArray, List.set_cons_zero, List.set_cons_succ]
      refine quiet_moveV rfl _ rfl (.int .i64 (k : Int)) rfl ?_
      simp only [Act.put, List.setIfInBounds_toArray, List.set_cons_zero, List.set_cons_succ]
      refine quiet_still rfl (.pointer (some ⟨b1, o1 + k * 4, none⟩)) (fun w _ => by go_simp) ?_
      simp only [Act.put, List.setIfInBounds_toArray, List.set_cons_zero, List.set_cons_succ]
      refine quiet_load_mid rfl _ _ rfl b1 (o1 + k * 4) rfl [.int .i64 x.fr, .int .i64 x.out, .int .i64 x.to, .int .i64 x.inn] _ (fun W h => range_below3 HR1.out (show b1 < wk.heap.size by omega) h) Try.underlying46 rfl (by kernel_rfl) ?_
      simp only [Act.put, List.setIfInBounds_toArray, List.set_cons_zero, List.set_cons_succ]
      refine quiet_moveV rfl _ rfl (.slice (some ⟨b2, o2, none⟩) X.length c2) rfl ?_
      simp only [Act.put, List.setIfInBounds_toArray, List.set_cons_zero, List.set_cons_succ]
      refine quiet_moveV rfl _ rfl (.int .i64 (k : Int)) rfl ?_
      simp only [Act.put, List.setIfInBounds_toArray, List.set_cons_zero, List.set_cons_succ]
      refine quiet_still rfl (.pointer (some ⟨b2, o2 + k * 4, none⟩)) (fun w _ => by go_simp) ?_
      simp only [Act.put, List.setIfInBounds_toArray, List.set_cons_zero, List.set_cons_succ]
      refine quiet_load_mid rfl _ _ rfl b2 (o2 + k * 4) rfl [.int .i64 x.fr, .int .i64 x.out, .int .i64 x.to, .int .i64 x.inn] _ (fun W h => range_below3 HR2.out (show b2 < wk.heap.size by omega) h) Try.underlying46 rfl (by kernel_rfl) ?_
      simp only [Act.put, List.setIfInBounds_toArray, List.set_cons_zero, List.set_cons_succ]
      unfold wpQuiet
      intro wq hb
      go_wp2_with fail
      go_roundw
      case rel => exact ⟨k + 1, hkl, by go_num, HB.out.trans (hb.mono hzz)⟩
      case measure => (simp [intOf] <;> omega)
    · have k1 : ¬ (k : Int) < (X.length : Int) := by omega
      go_wp2_with fail
      go_ret
      exact ⟨rfl, HB.out⟩
set_option maxHeartbeats 4000000 in
set_option maxRecDepth 100000 in
theorem sameI_yes (X : List Int) (u v : Value) (w : World) (hu : IS w u X) (hv : IS w v X) (hl : X.length ≤ 200000) : Calls Try.prog 21 #[u, v] w fun e w' => e = .returned (.bool true) ∧ Below w.heap.size w w' := by
  obtain ⟨a1, c1, rfl, _, _, _, h1⟩ := hu
  obtain ⟨a2, c2, rfl, _, _, _, h2⟩ := hv
  have H1 := Lib.hid h1
  have H2 := Lib.hid h2
  clear h1 h2
  go_enter Try.func21, Try.ntmps21
  go_wp2_with fail
  go_loopw [5] (fun i wr => ∃ k : Nat, k ≤ X.length ∧ i = .int .i64 (k : Int) ∧ Below w.heap.size w wr) (fun i _ => X.length - (intOf i).toNat)
  case atStart => exact ⟨0, Nat.zero_le _, rfl, Below.refl _ _⟩
  case round =>
    obtain ⟨k, hk, rfl, hbw⟩ := hrel
    have HB := Lib.hid hbw
    have hzz := hbw.size
    rename World => wk
    by_cases hkl : k < X.length
    · have k0 : (0 : Int) ≤ (k : Int) := by omega
      have k1 : (k : Int) < (X.length : Int) := by omega
      obtain ⟨x, hx⟩ : ∃ x, X[k]? = some x := ⟨_, List.getElem?_eq_getElem hkl⟩
      obtain ⟨b1, o1, rfl, hb1, hr1⟩ := H1.out k x hx
      obtain ⟨b2, o2, rfl, hb2, hr2⟩ := H2.out k x hx
      have e1 : wk.cell? ⟨b1, o1 + k, none⟩ = some (.int .i64 x) := (hbw.cell (p := ⟨b1, o1 + k, none⟩) hb1).trans hr1
      have e2 : wk.cell? ⟨b2, o2 + k, none⟩ = some (.int .i64 x) := (hbw.cell (p := ⟨b2, o2 + k, none⟩) hb2).trans hr2
      clear hr1 hr2 hx hbw
      go_wp2_with fail
      go_quiet (fail)
      rename_i nq
      have BD := Lib.hid (below_drewN (Below.refl wk.heap.size wk) nq)
      go_wp2_with fail
      go_roundw
      case rel => exact ⟨k + 1, hkl, by go_num, HB.out.trans (BD.out.mono hzz)⟩
      case measure => (simp [intOf] <;> omega)
    · have k1 : ¬ (k : Int) < (X.length : Int) := by omega
      go_wp2_with fail
      go_ret
      exact ⟨rfl, hbw⟩
end Go.Proofs.Ytenfeekchggioaa
