/- Matrices, moves and rows of moves as arguments. -/
import Derived.Test.YtehpgmhilcoalaaDoorHG
namespace Go.Proofs.YtehpgmhilcoalaaDoor
open Go.ChangeShapes Go.WideShapes Go.ChangeAt Go.RowKit
section
variable {H : Type} {enc : TypeId × Value → H} {W : World} {base fuel : Nat} {spare : Bool} {held : Nat → Bool} {cs : List Value} {x : DataW H × List MemPlace}
set_option maxRecDepth 100000 in
theorem mat_cells (h : DataW.trod enc Tryd.prog W base held spare fuel 40 cs = some x) : ∃ m : Mat, cs = [.int .i64 m.a, .int .i64 m.b, .int .i64 m.c, .int .i64 m.d] := by
  have hc1 : Tryd.prog.cellsOf 2 = 1 := by kernel_rfl
  have hc2 : Tryd.prog.cellsOf 40 = 4 := by kernel_rfl
  obtain ⟨xs, k, _, _, hl, hxl, hff⟩ := DataW.trod_struct Tryd.underlying40 h
  rw [hc2] at hl
  match cs, hl with
  | [u0, u1, u2, u3], _ =>
    match xs, hxl with
    | [y0, y1, y2, y3], _ =>
      have g0 := hff 0 _ rfl
      have g1 := hff 1 _ rfl
      have g2 := hff 2 _ rfl
      have g3 := hff 3 _ rfl
      simp [hc1] at g0 g1 g2 g3
      obtain ⟨n0, e0, _, _⟩ := DataW.trod_int Tryd.underlying2 g0
      obtain ⟨n1, e1, _, _⟩ := DataW.trod_int Tryd.underlying2 g1
      obtain ⟨n2, e2, _, _⟩ := DataW.trod_int Tryd.underlying2 g2
      obtain ⟨n3, e3, _, _⟩ := DataW.trod_int Tryd.underlying2 g3
      exact ⟨⟨n0, n1, n2, n3⟩, by rw [(List.cons.inj e0).1, (List.cons.inj e1).1, (List.cons.inj e2).1, (List.cons.inj e3).1]⟩
set_option maxRecDepth 100000 in
theorem mov_cells (h : DataW.trod enc Tryd.prog W base held spare fuel 49 cs = some x) : ∃ m : Mov, cs = [.int .i64 m.m.a, .int .i64 m.m.b, .int .i64 m.m.c, .int .i64 m.m.d, .int .i64 m.t.x, .int .i64 m.t.y] := by
  have hc1 : Tryd.prog.cellsOf 40 = 4 := by kernel_rfl
  have hc2 : Tryd.prog.cellsOf 25 = 2 := by kernel_rfl
  have hc3 : Tryd.prog.cellsOf 49 = 6 := by kernel_rfl
  obtain ⟨xs, k, _, _, hl, hxl, hff⟩ := DataW.trod_struct Tryd.underlying49 h
  rw [hc3] at hl
  match cs, hl with
  | [u0, u1, u2, u3, u4, u5], _ =>
    match xs, hxl with
    | [y0, y1], _ =>
      have g0 := hff 0 _ rfl
      have g1 := hff 1 _ rfl
      simp [hc1, hc2] at g0 g1
      obtain ⟨m, e0⟩ := mat_cells g0
      obtain ⟨p, e1⟩ := pt_cells g1
      simp only [List.cons.injEq, and_true] at e0 e1
      exact ⟨⟨m, p⟩, by rw [e0.1, e0.2.1, e0.2.2.1, e0.2.2.2, e1.1, e1.2]⟩
end
section
variable {H : Type} {enc : TypeId × Value → H} {W : World} {v0 : Value} {d0 : DataW H} {p0 : List MemPlace} {base : Nat}
set_option maxRecDepth 100000 in
theorem open_mat (hok : Value.okWide Tryd.prog W .any base 40 v0) (h : DataW.Trod enc Tryd.prog W 0 (fun _ => true) true 40 v0 d0 p0) : ∃ m : Mat, v0 = .agg #[.int .i64 m.a, .int .i64 m.b, .int .i64 m.c, .int .i64 m.d] := by
  obtain ⟨cs, rfl, _⟩ := okWide_struct Tryd.underlying40 hok
  obtain ⟨fuel, hf⟩ := h
  have hf' : DataW.trod enc Tryd.prog W 0 (fun _ => true) true fuel 40 cs.toList = some (d0, p0) := by simpa [Value.cells] using hf
  obtain ⟨l, hl⟩ := mat_cells hf'
  exact ⟨l, by rw [← hl]⟩
set_option maxRecDepth 100000 in
theorem open_mov (hok : Value.okWide Tryd.prog W .any base 49 v0) (h : DataW.Trod enc Tryd.prog W 0 (fun _ => true) true 49 v0 d0 p0) : ∃ m : Mov, v0 = .agg #[.int .i64 m.m.a, .int .i64 m.m.b, .int .i64 m.m.c, .int .i64 m.m.d, .int .i64 m.t.x, .int .i64 m.t.y] := by
  obtain ⟨cs, rfl, _⟩ := okWide_struct Tryd.underlying49 hok
  obtain ⟨fuel, hf⟩ := h
  have hf' : DataW.trod enc Tryd.prog W 0 (fun _ => true) true fuel 49 cs.toList = some (d0, p0) := by simpa [Value.cells] using hf
  obtain ⟨l, hl⟩ := mov_cells hf'
  exact ⟨l, by rw [← hl]⟩
set_option maxRecDepth 100000 in
theorem open_arr (hok : Value.okWide Tryd.prog W .any base 68 v0) (h : DataW.Trod enc Tryd.prog W 0 (fun _ => true) true 68 v0 d0 p0) : ∃ m n o : Mov, v0 = .agg #[.int .i64 m.m.a, .int .i64 m.m.b, .int .i64 m.m.c, .int .i64 m.m.d, .int .i64 m.t.x, .int .i64 m.t.y, .int .i64 n.m.a, .int .i64 n.m.b, .int .i64 n.m.c, .int .i64 n.m.d, .int .i64 n.t.x, .int .i64 n.t.y, .int .i64 o.m.a, .int .i64 o.m.b, .int .i64 o.m.c, .int .i64 o.m.d, .int .i64 o.t.x, .int .i64 o.t.y] := by
  have hc6 : Tryd.prog.cellsOf 49 = 6 := by kernel_rfl
  have hc18 : Tryd.prog.cellsOf 68 = 18 := by kernel_rfl
  have hv : ∃ xs : Array Value, v0 = .agg xs ∧ xs.size = 18 := by
    simp only [Value.okWide, Tryd.underlying68] at hok
    obtain ⟨cs, h1, h2, _⟩ := hok
    exact ⟨cs, h1, by rw [h2, hc18]⟩
  obtain ⟨xs, rfl, _⟩ := hv
  obtain ⟨fuel, hf⟩ := h
  have hf' : DataW.trod enc Tryd.prog W 0 (fun _ => true) true fuel 68 xs.toList = some (d0, p0) := by simpa [Value.cells] using hf
  obtain ⟨ys, k, _, _, hl, hxl, hff⟩ := DataW.trod_array Tryd.underlying68 hf'
  rw [hc18] at hl
  rw [hc6] at hff
  obtain ⟨l⟩ := xs
  simp only at hl hff
  match l, hl with
  | [u0, u1, u2, u3, u4, u5, u6, u7, u8, u9, ua, ub, uc, ud, ue, uf, ug, uh], _ =>
    match ys, hxl with
    | [y0, y1, y2], _ =>
      have g0 := hff 0 (by omega)
      have g1 := hff 1 (by omega)
      have g2 := hff 2 (by omega)
      simp at g0 g1 g2
      obtain ⟨m, e0⟩ := mov_cells g0
      obtain ⟨n, e1⟩ := mov_cells g1
      obtain ⟨o, e2⟩ := mov_cells g2
      simp only [List.cons.injEq, and_true] at e0 e1 e2
      refine ⟨m, n, o, ?_⟩
      obtain ⟨rfl, rfl, rfl, rfl, rfl, rfl⟩ := e0
      obtain ⟨rfl, rfl, rfl, rfl, rfl, rfl⟩ := e1
      obtain ⟨rfl, rfl, rfl, rfl, rfl, rfl⟩ := e2
      rfl
end
end Go.Proofs.YtehpgmhilcoalaaDoor
