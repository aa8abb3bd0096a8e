/- Turn of valid points has no words in it; a point as an argument. -/
import Derived.Test.YtehpgmhilcoalaaDoorHE
import Derived.Test.YtehpgmhilcoalaaDoorHF
namespace Go.Proofs.YtehpgmhilcoalaaDoor
open Go.ChangeShapes Go.WideShapes Go.ChangeAt Go.RowKit
def Sm (s : Pt) : Prop := (-2000000 ≤ s.x ∧ s.x ≤ 2000000) ∧ -2000000 ≤ s.y ∧ s.y ≤ 2000000
theorem step_sm {o p : Pt} (ho : okP o = true) (hp : okP p = true) : Sm (stepP o p) := by
  rw [okP_iff] at ho hp
  unfold Sm stepP
  simp only
  omega
theorem sm_w {s : Pt} (h : Sm s) : s.w = s := by
  obtain ⟨h1, h2⟩ := h
  cases s
  simp only [Pt.w, Pt.mk.injEq] at *
  exact ⟨wrap64_id (by omega), wrap64_id (by omega)⟩
theorem cross_id {s t : Pt} (hs : Sm s) (ht : Sm t) : wrap64 (crossP s t) = crossP s t := by
  have e1 := mul_bound hs.1 ht.2
  have e2 := mul_bound hs.2 ht.1
  exact wrap64_id (by unfold crossP; omega)
theorem part_id {f s : Pt} (hf : Sm f) (hs : Sm s) : partV f s = partM f s := by
  have e1 := mul_bound hf.1 hs.1
  have e2 := mul_bound hf.2 hs.2
  unfold partV partM
  rw [cross_id hf hs, wrap64_id (a := f.x * s.x) (by omega), wrap64_id (a := f.y * s.y) (by omega), wrap64_id (a := f.x * s.x + f.y * s.y) (by omega)]
  rfl
theorem okT_iff (o f p q : Pt) : okT o f p q = true ↔ (okP o = true ∧ okP f = true ∧ okP p = true ∧ okP q = true) ∧ f ≠ o ∧ p ≠ o ∧ q ≠ o := by
  unfold okT
  simp only [Bool.and_eq_true, Bool.not_eq_true', decide_eq_false_iff_not]
  exact ⟨fun ⟨⟨⟨⟨⟨⟨a, b⟩, c⟩, d⟩, e⟩, g⟩, h⟩ => ⟨⟨a, b, c, d⟩, e, g, h⟩, fun ⟨⟨a, b, c, d⟩, e, g, h⟩ => ⟨⟨⟨⟨⟨⟨a, b⟩, c⟩, d⟩, e⟩, g⟩, h⟩⟩
theorem turnV_id {o f p q : Pt} (h : okT o f p q = true) : turnV (stepP o f).w (stepP o p).w (stepP o q).w = turnM (stepP o f) (stepP o p) (stepP o q) := by
  obtain ⟨⟨h1, h2, h3, h4⟩, _⟩ := (okT_iff _ _ _ _).1 h
  have s1 := step_sm h1 h2
  have s2 := step_sm h1 h3
  have s3 := step_sm h1 h4
  rw [sm_w s1, sm_w s2, sm_w s3]
  unfold turnV turnM
  rw [part_id s1 s2, part_id s1 s3, cross_id s2 s3]
theorem step_ne {o f : Pt} (h : f ≠ o) : stepP o f ≠ ⟨0, 0⟩ := fun e => h (by
  unfold stepP at e
  simp only [Pt.mk.injEq] at e
  cases f; cases o
  simp only [Pt.mk.injEq] at *
  omega)
set_option maxRecDepth 100000 in
theorem open_pt {H : Type} {enc : TypeId × Value → H} {W : World} {v0 : Value} {d0 : DataW H} {p0 : List MemPlace} {base : Nat} (hok : Value.okWide Tryd.prog W .any base 25 v0) (h : DataW.Trod enc Tryd.prog W 0 (fun _ => true) true 25 v0 d0 p0) : ∃ l : Pt, v0 = .agg #[.int .i64 l.x, .int .i64 l.y] := by
  obtain ⟨cs, rfl, _⟩ := okWide_struct Tryd.underlying25 hok
  obtain ⟨fuel, hf⟩ := h
  have hf' : DataW.trod enc Tryd.prog W 0 (fun _ => true) true fuel 25 cs.toList = some (d0, p0) := by simpa [Value.cells] using hf
  obtain ⟨l, hl⟩ := pt_cells hf'
  exact ⟨l, by rw [← hl]⟩
end Go.Proofs.YtehpgmhilcoalaaDoor
