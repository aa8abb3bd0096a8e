/- Make of the program. -/
import Derived.Test.YtabpjiidbailiaaXA
import Derived.MapKept
import Derived.Carry
namespace Go.Proofs.Ytabpjiidbailiaa
open Go.RowKit Go.MapKept
set_option linter.unusedSimpArgs false
section
variable {P : Program} {ops : Array Oper} {rest : List Oper} {o : Oper} {a : Act} {w : World} {Q : Exit → Act → World → Prop}
theorem insert_ex {kt et t : TypeId} {es : Array MapEntry} {clock r : Nat} (key value : Value) (d : TypeDesc) (hm : P.underlying t = some (.map kt et)) (hd : P.underlying kt = some d) (hb : w.heap[r]? = some (.map es clock)) (hk : IsKey d key) (hf : Instr.findNow d key es.toList 0 = some none) :
    ∃ w', (Instr.mapUpdate t (.map (some r)) key value).run P w = .ok () w' ∧ w'.heap[r]? = some (.map (es.push { key, val := value, born := clock }) (clock + 1)) ∧ w'.heap.size = w.heap.size ∧ ∀ B w0, Below B w0 w → B ≤ r → Below B w0 w' := by
  refine ⟨{ w with heap := w.heap.setIfInBounds r (.map (es.push { key, val := value, born := clock }) (clock + 1)) }, ?_, (heap_set hb).1, by simp, fun B w0 hB hr => ?_⟩
  · simp [Instr.mapUpdate, run_underlying hm, MapKept.run_getObj_map hb, run_checkKey hd hk, run_findKey hd hf, run_setObj_map _ hb, Result.andThen]
  · exact ⟨hB.os, hB.tape, hB.output, by simpa using hB.size, fun k hk => ((heap_set hb).2 k (by omega)).trans (hB.block k hk)⟩
end
def motEs : Array MapEntry := #[⟨.string ⟨#[112, 108, 97, 105, 116]⟩, .agg #[.int .i64 1, .func (.func 52) #[] #[]], 0⟩, ⟨.string ⟨#[112, 105, 99, 111, 116]⟩, .agg #[.int .i64 1, .func (.func 53) #[] #[]], 1⟩, ⟨.string ⟨#[115, 112, 105, 100, 101, 114]⟩, .agg #[.int .i64 2, .func (.func 54) #[] #[]], 2⟩, ⟨.string ⟨#[102, 97, 110]⟩, .agg #[.int .i64 1, .func (.func 55) #[] #[]], 3⟩, ⟨.string ⟨#[102, 111, 111, 116, 115, 105, 100, 101]⟩, .agg #[.int .i64 2, .func (.func 56) #[] #[]], 4⟩, ⟨.string ⟨#[119, 105, 110, 100, 109, 105, 108, 108]⟩, .agg #[.int .i64 0, .func (.func 57) #[] #[]], 5⟩]
set_option maxHeartbeats 4000000 in
set_option maxRecDepth 100000 in
theorem motifs_any (w : World) : Calls Try.prog 45 #[] w fun e w' => e = .returned (.map (some w.heap.size)) ∧ w'.heap[w.heap.size]? = some (.map motEs 6) ∧ w'.heap.size = w.heap.size + 1 ∧ Below w.heap.size w w' := by
  go_enter Try.func45, Try.ntmps45
  have h0 : (w.alloc (.map #[] 0)).heap[w.heap.size]? = some (.map #[] 0) := heap_alloc_new _ _
  have b0 := below_alloc w (.map #[] 0)
  have z0 : (w.alloc (.map #[] 0)).heap.size = w.heap.size + 1 := by simp
  have E0 : (Instr.makeMap 65 none).run Try.prog w = .ok (.map (some w.heap.size)) (w.alloc (.map #[] 0)) := rfl
  generalize w.alloc (.map #[] 0) = u0 at *
  have H0 := Lib.hid h0
  have B0 := Lib.hid b0
  have Z0 := Lib.hid z0
  clear h0 b0 z0
  obtain ⟨u1, E1, h, z, b⟩ := insert_ex (P := Try.prog) (.string ⟨#[112, 108, 97, 105, 116]⟩) (.agg #[.int .i64 1, .func (.func 52) #[] #[]]) .string Try.underlying65 Try.underlying9 H0.out trivial (by kernel_rfl)
  have H1 := Lib.hid h
  have B1 := Lib.hid (b _ _ B0.out (Nat.le_refl _))
  have Z1 := Lib.hid (z.trans Z0.out)
  clear h z b H0 B0 Z0
  obtain ⟨u2, E2, h, z, b⟩ := insert_ex (P := Try.prog) (.string ⟨#[112, 105, 99, 111, 116]⟩) (.agg #[.int .i64 1, .func (.func 53) #[] #[]]) .string Try.underlying65 Try.underlying9 H1.out trivial (by kernel_rfl)
  have H2 := Lib.hid h
  have B2 := Lib.hid (b _ _ B1.out (Nat.le_refl _))
  have Z2 := Lib.hid (z.trans Z1.out)
  clear h z b H1 B1 Z1
  obtain ⟨u3, E3, h, z, b⟩ := insert_ex (P := Try.prog) (.string ⟨#[115, 112, 105, 100, 101, 114]⟩) (.agg #[.int .i64 2, .func (.func 54) #[] #[]]) .string Try.underlying65 Try.underlying9 H2.out trivial (by kernel_rfl)
  have H3 := Lib.hid h
  have B3 := Lib.hid (b _ _ B2.out (Nat.le_refl _))
  have Z3 := Lib.hid (z.trans Z2.out)
  clear h z b H2 B2 Z2
  obtain ⟨u4, E4, h, z, b⟩ := insert_ex (P := Try.prog) (.string ⟨#[102, 97, 110]⟩) (.agg #[.int .i64 1, .func (.func 55) #[] #[]]) .string Try.underlying65 Try.underlying9 H3.out trivial (by kernel_rfl)
  have H4 := Lib.hid h
  have B4 := Lib.hid (b _ _ B3.out (Nat.le_refl _))
  have Z4 := Lib.hid (z.trans Z3.out)
  clear h z b H3 B3 Z3
  obtain ⟨u5, E5, h, z, b⟩ := insert_ex (P := Try.prog) (.string ⟨#[102, 111, 111, 116, 115, 105, 100, 101]⟩) (.agg #[.int .i64 2, .func (.func 56) #[] #[]]) .string Try.underlying65 Try.underlying9 H4.out trivial (by kernel_rfl)
  have H5 := Lib.hid h
  have B5 := Lib.hid (b _ _ B4.out (Nat.le_refl _))
  have Z5 := Lib.hid (z.trans Z4.out)
  clear h z b H4 B4 Z4
  obtain ⟨u6, E6, h, z, b⟩ := insert_ex (P := Try.prog) (.string ⟨#[119, 105, 110, 100, 109, 105, 108, 108]⟩) (.agg #[.int .i64 0, .func (.func 57) #[] #[]]) .string Try.underlying65 Try.underlying9 H5.out trivial (by kernel_rfl)
  have H6 := Lib.hid h
  have B6 := Lib.hid (b _ _ B5.out (Nat.le_refl _))
  have Z6 := Lib.hid (z.trans Z5.out)
  clear h z b H5 B5 Z5
  go_wp2_with fail
  go_ret
  exact ⟨rfl, H6.out, Z6.out, B6.out⟩
end Go.Proofs.Ytabpjiidbailiaa
