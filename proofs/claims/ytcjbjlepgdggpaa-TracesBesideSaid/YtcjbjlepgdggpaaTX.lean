/- An argument that is a sheet, or numbers, whatever it is. -/
import Derived.Test.YtcjbjlepgdggpaaFF
import Derived.Test.YtcjbjlepgdggpaaRows
import Derived.ProofKit
import Derived.OpenShut
import Derived.ChangeSlices
import Derived.Carry
import Derived.Laws.Cover1
import Derived.Deep.Slices
namespace Go.Proofs.Ytcjbjlepgdggpaa
open Go.ChangeShapes Go.WideShapes Go.ChangeAt Go.RowKit
set_option maxRecDepth 100000
theorem own : ownKnob Try.prog.godebug = none := by kernel_rfl
theorem laidOut0 : laidOutB Try.prog = true := by kernel_rfl
section
variable {H : Type} {enc : TypeId × Value → H} {W : World}
set_option maxRecDepth 100000 in
theorem open_works {fuel : Nat} {v : Value} {x : DataW H × List MemPlace} (hf' : DataW.trod enc Try.prog W 0 (fun _ => true) true fuel 22 [v] = some x) : ∃ L, WS W v L := by
  have hc3 : Try.prog.cellsOf 51 = 3 := by kernel_rfl
  have hc1 : Try.prog.cellsOf 3 = 1 := by kernel_rfl
  have hcs1 : Try.prog.cellsOf 9 = 1 := by kernel_rfl
  rcases Go.Deep.open_slice Try.underlying22 hf' with ⟨hcs, _⟩ | ⟨a, len, cap, m, n, D, Pl, hcs, _, hle, hcm, hm, _, hx⟩
  · have e := (List.cons.inj hcs).1
    rw [e]
    exact ⟨[], none, 0, rfl, Nat.le_refl _, Nat.zero_le _, fun k l h => by simp at h⟩
  · have e := (List.cons.inj hcs).1
    rw [e]
    simp only [if_true] at hm
    subst hm
    have hz : ∀ i : Nat, ∃ x : Wk, i < m → W.cell? (a.add (i * 3)) = some (.int .i64 x.kd) ∧ W.cell? (a.add (i * 3 + 1)) = some (.int .i64 x.pl) ∧ W.cell? (a.add (i * 3 + 2)) = some (.string x.wd) ∧ x.wd.size ≤ maxLen := fun i => by
      by_cases hi : i < m
      · obtain ⟨cs', h1, h2⟩ := hx i hi
        rw [hc3] at h1
        obtain ⟨_, hlen, hcell⟩ := World.cells?_some h1
        obtain ⟨xs, k, hk, hxy, _, hxl, hff⟩ := DataW.trod_struct Try.underlying51 h2
        match cs', hlen with
        | [u0, u1, u2], _ =>
          match xs, hxl with
          | [y0, y1, y2], _ =>
            have g0 := hff 0 _ rfl
            have g1 := hff 1 _ rfl
            have g2 := hff 2 _ rfl
            simp [hc1, hcs1] at g0 g1 g2
            have c0 := hcell 0 (by omega)
            have c1 := hcell 1 (by omega)
            have c2 := hcell 2 (by omega)
            rw [Go.Deep.add_add] at c0 c1 c2
            obtain ⟨n0, e0, _, w0⟩ := DataW.trod_int Try.underlying3 g0
            obtain ⟨n1, e1, _, w1⟩ := DataW.trod_int Try.underlying3 g1
            obtain ⟨s2, e2, _, w2⟩ := DataW.trod_string Try.underlying9 g2
            obtain rfl := (List.cons.inj e0).1
            obtain rfl := (List.cons.inj e1).1
            obtain rfl := (List.cons.inj e2).1
            exact ⟨⟨n0, n1, s2⟩, fun _ => ⟨by simpa using c0, by simpa using c1, by simpa using c2, w2⟩⟩
      · exact ⟨⟨0, 0, ⟨#[]⟩⟩, fun h => absurd h hi⟩
    obtain ⟨Z, hZ⟩ := Classical.axiomOfChoice hz
    refine ⟨(List.range len).map Z, some a, m, by simp, by simpa using hle, hcm, fun k l hk => ?_⟩
    have hkl := (List.getElem?_eq_some_iff.1 hk).1
    rw [List.length_map, List.length_range] at hkl
    rw [List.getElem?_map, List.getElem?_range hkl] at hk
    obtain rfl : Z k = l := Option.some.inj hk
    obtain ⟨d0, d1, d2, hs⟩ := hZ k (by omega)
    obtain ⟨b, off, spot⟩ := a
    have hspot : spot = none := by simpa [Addr.add] using World.cell?_spot (hZ 0 (by omega)).1
    subst hspot
    have hb := block_lt_of_cell d0
    rw [Go.WideShapes.add_plain] at d0 d1 d2 hb
    refine ⟨b, off, rfl, hb, fun j u hu => ?_, hs⟩
    match j, hu with
    | 0, hu => cases hu; exact d0
    | 1, hu => cases hu; rw [Nat.add_assoc]; exact d1
    | 2, hu => cases hu; rw [Nat.add_assoc]; exact d2
set_option maxRecDepth 100000 in
theorem open_sv {v0 : Value} {d0 : DataW H} {p0 : List MemPlace} {base : Nat} (hok : Value.okWide Try.prog W .any base 24 v0) (h : DataW.Trod enc Try.prog W 0 (fun _ => true) true 24 v0 d0 p0) : ∃ s : Sh, SV W v0 s ∧ (Lit.int .i64 s.pr).wf = true := by
  have hc1 : Try.prog.cellsOf 3 = 1 := by kernel_rfl
  have hcw : Try.prog.cellsOf 22 = 1 := by kernel_rfl
  have hc2 : Try.prog.cellsOf 24 = 2 := by kernel_rfl
  obtain ⟨cs, rfl, _⟩ := okWide_struct Try.underlying24 hok
  obtain ⟨fuel, hf⟩ := h
  have hf' : DataW.trod enc Try.prog W 0 (fun _ => true) true fuel 24 cs.toList = some (d0, p0) := by simpa [Value.cells] using hf
  obtain ⟨xs, k, _, _, hl, hxl, hff⟩ := DataW.trod_struct Try.underlying24 hf'
  rw [hc2] at hl
  obtain ⟨l⟩ := cs
  simp only at hl hff
  match l, hl with
  | [u0, u1], _ =>
    match xs, hxl with
    | [y0, y1], _ =>
      have g0 := hff 0 _ rfl
      have g1 := hff 1 _ rfl
      simp [hc1, hcw] at g0 g1
      obtain ⟨n0, e0, _, w0⟩ := DataW.trod_int Try.underlying3 g0
      obtain ⟨L, hL⟩ := open_works g1
      obtain rfl := (List.cons.inj e0).1
      exact ⟨⟨n0, L⟩, ⟨u1, rfl, hL⟩, w0⟩
end
set_option maxRecDepth 100000 in
theorem open_is {H : Type} {enc : TypeId × Value → H} {W : World} {v0 : Value} {d0 : DataW H} {p0 : List MemPlace} {base : Nat} (hok : Value.okWide Try.prog W .any base 30 v0)
    (h : DataW.Trod enc Try.prog W 0 (fun _ => true) true 30 v0 d0 p0) :
    ∃ zs : List Int, IS W v0 zs ∧ ∀ z ∈ zs, -9223372036854775808 ≤ z ∧ z ≤ 9223372036854775807 := by
  obtain ⟨a0, len0, cap0, rfl⟩ := okWide_slice Try.underlying30 hok
  obtain ⟨fuel, hf⟩ := h
  have hf' : DataW.trod enc Try.prog W 0 (fun _ => true) true fuel 30 [.slice a0 len0 cap0] = some (d0, p0) := by simpa [Value.cells] using hf
  rcases open_ints Try.underlying30 Try.underlying3 (by kernel_rfl) hf' with ⟨hcs, _⟩ | ⟨a, len, cap, zs, hcs, _, hle, hcm, hz, _, hcell, hwf⟩
  · have e := (List.cons.inj hcs).1
    rw [e]
    exact ⟨[], is_nil W, fun z hz => by cases hz⟩
  · have e := (List.cons.inj hcs).1
    rw [e]
    simp only [if_true] at hz
    have hl : (zs.take len).length = len := by rw [List.length_take]; omega
    refine ⟨zs.take len, ⟨some a, cap, by rw [hl], by omega, hcm, (fun e => by cases e), fun k z hk => ?_⟩, fun z hzm => ?_⟩
    · have hkl := (List.getElem?_eq_some_iff.1 hk).1
      rw [hl] at hkl
      have cj := hcell k (by omega)
      have cz := hcell 0 (by omega)
      obtain ⟨b, off, spot⟩ := a
      have hspot : spot = none := by simpa [Addr.add] using World.cell?_spot cz
      subst hspot
      refine ⟨b, off, rfl, ?_, ?_⟩
      · have := block_lt_of_cell cj
        rw [Go.WideShapes.add_plain] at this
        exact this
      · rw [Go.WideShapes.add_plain] at cj
        rw [cj]
        rw [List.getElem?_take_of_lt hkl] at hk
        simp [List.getD, hk]
    · have := hwf z (List.mem_of_mem_take hzm)
      unfold Lit.wf at this
      simp only [Bool.and_eq_true, decide_eq_true_eq] at this
      exact ⟨this.1, this.2⟩
end Go.Proofs.Ytcjbjlepgdggpaa
