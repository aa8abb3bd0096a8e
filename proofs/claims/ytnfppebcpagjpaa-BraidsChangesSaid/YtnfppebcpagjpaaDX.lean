/- An argument of changes, whatever it is: a slice of structs of three small numbers. -/
import Derived.Test.YtnfppebcpagjpaaCL
import Derived.Deep.Slices
namespace Go.Proofs.Ytnfppebcpagjpaa
open Go.ChangeShapes Go.WideShapes Go.ChangeAt Go.RowKit
/-- A slice of structs of three numbers below 256. -/
def CHS (w : World) (v : Value) (C : List (Nat × Nat × Nat)) : Prop := ∃ a c, v = .slice a C.length c ∧ C.length ≤ c ∧ c ≤ maxLen ∧ ∀ (k : Nat) (x : Nat × Nat × Nat), C[k]? = some x → ∃ b off, a = some ⟨b, off, none⟩ ∧ b < w.heap.size ∧
  w.cell? ⟨b, off + k * 3, none⟩ = some (.int .u8 x.1) ∧ w.cell? ⟨b, off + k * 3 + 1, none⟩ = some (.int .u8 x.2.1) ∧ w.cell? ⟨b, off + k * 3 + 2, none⟩ = some (.int .u8 x.2.2) ∧ x.1 < 256 ∧ x.2.1 < 256 ∧ x.2.2 < 256
theorem u8_nat {n : Int} (h : (Lit.int .u8 n).wf = true) : ∃ m : Nat, n = (m : Int) ∧ m < 256 := by
  unfold Lit.wf at h
  simp only [Bool.and_eq_true, decide_eq_true_eq] at h
  have h1 : (0 : Int) ≤ n := h.1
  have h2 : n ≤ (255 : Int) := h.2
  exact ⟨n.toNat, by omega, by omega⟩
set_option maxRecDepth 100000 in
theorem open_ch {H : Type} {enc : TypeId × Value → H} {W : World} {v0 : Value} {d0 : DataW H} {p0 : List MemPlace} {base : Nat} (hok : Value.okWide Try.prog W .any base 50 v0)
    (h : DataW.Trod enc Try.prog W 0 (fun _ => true) true 50 v0 d0 p0) : ∃ C, CHS W v0 C := by
  obtain ⟨a0, len0, cap0, rfl⟩ := okWide_slice Try.underlying50 hok
  obtain ⟨fuel, hf⟩ := h
  have hf' : DataW.trod enc Try.prog W 0 (fun _ => true) true fuel 50 [.slice a0 len0 cap0] = some (d0, p0) := by simpa [Value.cells] using hf
  have hc3 : Try.prog.cellsOf 53 = 3 := by kernel_rfl
  have hc1 : Try.prog.cellsOf 5 = 1 := by kernel_rfl
  rcases Go.Deep.open_slice Try.underlying50 hf' with ⟨hcs, _⟩ | ⟨a, len, cap, m, n, D, Pl, hcs, _, hle, hcm, hm, _, hx⟩
  · have e := (List.cons.inj hcs).1
    rw [e]
    exact ⟨[], none, 0, rfl, Nat.le_refl _, Nat.zero_le _, fun k l h => by simp at h⟩
  · have e := (List.cons.inj hcs).1
    rw [e]
    simp only [if_true] at hm
    subst hm
    have hz : ∀ i : Nat, ∃ x : Nat × Nat × Nat, i < m → W.cell? (a.add (i * 3)) = some (.int .u8 x.1) ∧ W.cell? (a.add (i * 3 + 1)) = some (.int .u8 x.2.1) ∧ W.cell? (a.add (i * 3 + 2)) = some (.int .u8 x.2.2) ∧ x.1 < 256 ∧ x.2.1 < 256 ∧ x.2.2 < 256 := fun i => by
      by_cases hi : i < m
      · obtain ⟨cs', h1, h2⟩ := hx i hi
        rw [hc3] at h1
        obtain ⟨_, hlen, hcell⟩ := World.cells?_some h1
        obtain ⟨xs, k, hk, hxy, _, hxl, hff⟩ := DataW.trod_struct Try.underlying53 h2
        match cs', hlen with
        | [u0, u1, u2], _ =>
          match xs, hxl with
          | [y0, y1, y2], _ =>
            have g0 := hff 0 _ rfl
            have g1 := hff 1 _ rfl
            have g2 := hff 2 _ rfl
            simp [hc1] at g0 g1 g2
            have c0 := hcell 0 (by omega)
            have c1 := hcell 1 (by omega)
            have c2 := hcell 2 (by omega)
            rw [Go.Deep.add_add] at c0 c1 c2
            obtain ⟨n0, e0, _, w0⟩ := DataW.trod_int Try.underlying5 g0
            obtain ⟨n1, e1, _, w1⟩ := DataW.trod_int Try.underlying5 g1
            obtain ⟨n2, e2, _, w2⟩ := DataW.trod_int Try.underlying5 g2
            obtain ⟨m0, rfl, b0⟩ := u8_nat w0
            obtain ⟨m1, rfl, b1⟩ := u8_nat w1
            obtain ⟨m2, rfl, b2⟩ := u8_nat w2
            obtain rfl := (List.cons.inj e0).1
            obtain rfl := (List.cons.inj e1).1
            obtain rfl := (List.cons.inj e2).1
            exact ⟨(m0, m1, m2), fun _ => ⟨by simpa using c0, by simpa using c1, by simpa using c2, b0, b1, b2⟩⟩
      · exact ⟨(0, 0, 0), fun h => absurd h hi⟩
    obtain ⟨Z, hZ⟩ := Classical.axiomOfChoice hz
    refine ⟨(List.range len).map Z, some a, m, by simp, by simpa using hle, hcm, fun k l hk => ?_⟩
    have hkl := (List.getElem?_eq_some_iff.1 hk).1
    rw [List.length_map, List.length_range] at hkl
    rw [List.getElem?_map, List.getElem?_range hkl] at hk
    obtain rfl : Z k = l := Option.some.inj hk
    obtain ⟨d0, d1, d2, b0, b1, b2⟩ := hZ k (by omega)
    obtain ⟨b, off, spot⟩ := a
    have hspot : spot = none := by simpa [Addr.add] using World.cell?_spot (hZ 0 (by omega)).1
    subst hspot
    have hb := block_lt_of_cell d0
    rw [Go.WideShapes.add_plain] at d0 d1 d2 hb
    exact ⟨b, off, rfl, hb, d0, by rw [Nat.add_assoc]; exact d1, by rw [Nat.add_assoc]; exact d2, b0, b1, b2⟩
end Go.Proofs.Ytnfppebcpagjpaa
