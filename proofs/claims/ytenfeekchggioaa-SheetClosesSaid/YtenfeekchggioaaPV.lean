/- An argument that is an array of three uint16. -/
import Derived.Test.YtenfeekchggioaaOM
namespace Go.Proofs.Ytenfeekchggioaa
open Go.ChangeShapes Go.WideShapes Go.ChangeAt Go.RowKit
theorem u16_rng {m : Int} (h : (Lit.int .u16 m).wf = true) : ∃ n : Nat, m = (n : Int) ∧ n < 65536 := by
  have h' : (decide ((0 : Int) ≤ m) && decide (m ≤ 65535)) = true := h
  simp at h'
  exact ⟨m.toNat, by omega, by omega⟩
set_option maxRecDepth 100000 in
theorem open_h3 {H : Type} {enc : TypeId × Value → H} {W : World} {v0 : Value} {d0 : DataW H} {p0 : List MemPlace} {base : Nat} (hok : Value.okWide Try.prog W .any base 50 v0) (h : DataW.Trod enc Try.prog W 0 (fun _ => true) true 50 v0 d0 p0) :
    ∃ a b c : Nat, v0 = .agg #[.int .u16 (a : Int), .int .u16 (b : Int), .int .u16 (c : Int)] ∧ a < 65536 ∧ b < 65536 ∧ c < 65536 := by
  have hc1 : Try.prog.cellsOf 49 = 1 := by kernel_rfl
  have hc3 : Try.prog.cellsOf 50 = 3 := by kernel_rfl
  have hv : ∃ xs : Array Value, v0 = .agg xs ∧ xs.size = 3 := by
    simp only [Value.okWide, Try.underlying50] at hok
    obtain ⟨cs, h1, h2, _⟩ := hok
    exact ⟨cs, h1, by rw [h2, hc3]⟩
  obtain ⟨xs, rfl, _⟩ := hv
  obtain ⟨fuel, hf⟩ := h
  have hf' : DataW.trod enc Try.prog W 0 (fun _ => true) true fuel 50 xs.toList = some (d0, p0) := by simpa [Value.cells] using hf
  obtain ⟨ys, k, _, _, hl, hxl, hff⟩ := DataW.trod_array Try.underlying50 hf'
  rw [hc3] at hl
  rw [hc1] at hff
  obtain ⟨l⟩ := xs
  simp only at hl hff
  match l, hl with
  | [u0, u1, u2], _ =>
    match ys, hxl with
    | [y0, y1, y2], _ =>
      have g0 := hff 0 (by omega)
      have g1 := hff 1 (by omega)
      have g2 := hff 2 (by omega)
      simp at g0 g1 g2
      obtain ⟨n0, e0, _, w0⟩ := DataW.trod_int Try.underlying49 g0
      obtain ⟨n1, e1, _, w1⟩ := DataW.trod_int Try.underlying49 g1
      obtain ⟨n2, e2, _, w2⟩ := DataW.trod_int Try.underlying49 g2
      obtain rfl := (List.cons.inj e0).1
      obtain rfl := (List.cons.inj e1).1
      obtain rfl := (List.cons.inj e2).1
      obtain ⟨a, rfl, ha⟩ := u16_rng w0
      obtain ⟨b, rfl, hb⟩ := u16_rng w1
      obtain ⟨c, rfl, hc⟩ := u16_rng w2
      exact ⟨a, b, c, rfl, ha, hb, hc⟩
end Go.Proofs.Ytenfeekchggioaa
