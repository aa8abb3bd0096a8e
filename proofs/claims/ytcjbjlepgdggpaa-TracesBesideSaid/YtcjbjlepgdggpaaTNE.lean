/- An argument that is a slice of uint16; a sheet whose works, where they are none, have no room. -/
import Derived.Test.YtcjbjlepgdggpaaTX
import Derived.Test.YtcjbjlepgdggpaaTNB
namespace Go.Proofs.Ytcjbjlepgdggpaa
open Go.ChangeShapes Go.WideShapes Go.ChangeAt Go.RowKit
set_option maxRecDepth 100000
theorem u16_rng {m : Int} (h : (Lit.int .u16 m).wf = true) : ∃ n : Nat, m = (n : Int) ∧ n < 65536 := by
  have h' : (decide ((0 : Int) ≤ m) && decide (m ≤ 65535)) = true := h
  simp at h'
  exact ⟨m.toNat, by omega, by omega⟩
theorem u8_rng {m : Int} (h : (Lit.int .u8 m).wf = true) : ∃ n : Nat, m = (n : Int) ∧ n < 256 := by
  have h' : (decide ((0 : Int) ≤ m) && decide (m ≤ 255)) = true := h
  simp at h'
  exact ⟨m.toNat, by omega, by omega⟩
set_option maxRecDepth 100000 in
theorem open_hs {H : Type} {enc : TypeId × Value → H} {W : World} {v0 : Value} {d0 : DataW H} {p0 : List MemPlace} {base : Nat} (hok : Value.okWide Try.prog W .any base 46 v0)
    (h : DataW.Trod enc Try.prog W 0 (fun _ => true) true 46 v0 d0 p0) : ∃ zs : List Nat, HS W v0 zs := by
  have hc1 : Try.prog.cellsOf 77 = 1 := by kernel_rfl
  obtain ⟨a0, len0, cap0, rfl⟩ := okWide_slice Try.underlying46 hok
  obtain ⟨fuel, hf⟩ := h
  have hf' : DataW.trod enc Try.prog W 0 (fun _ => true) true fuel 46 [.slice a0 len0 cap0] = some (d0, p0) := by simpa [Value.cells] using hf
  rcases Go.Deep.open_slice Try.underlying46 hf' with ⟨hcs, _⟩ | ⟨a, len, cap, m, n, D, Pl, hcs, _, hle, hcm, hm, _, hx⟩
  · have e := (List.cons.inj hcs).1
    rw [e]
    exact ⟨[], none, 0, rfl, Nat.le_refl _, Nat.zero_le _, fun k z h => by simp at h⟩
  · have e := (List.cons.inj hcs).1
    rw [e]
    simp only [if_true] at hm
    subst hm
    have hz : ∀ i : Nat, ∃ x : Nat, i < m → W.cell? (a.add i) = some (.int .u16 (x : Int)) ∧ x < 65536 := fun i => by
      by_cases hi : i < m
      · obtain ⟨cs', h1, h2⟩ := hx i hi
        rw [hc1] at h1
        obtain ⟨_, hlen, hcell⟩ := World.cells?_some h1
        match cs', hlen with
        | [u0], _ =>
          obtain ⟨n0, e0, _, w0⟩ := DataW.trod_int Try.underlying77 h2
          obtain rfl := (List.cons.inj e0).1
          obtain ⟨x, rfl, hx'⟩ := u16_rng w0
          have c0 := hcell 0 (by omega)
          rw [Go.Deep.add_add] at c0
          exact ⟨x, fun _ => ⟨by simpa using c0, hx'⟩⟩
      · exact ⟨0, fun h => absurd h hi⟩
    obtain ⟨Z, hZ⟩ := Classical.axiomOfChoice hz
    refine ⟨(List.range len).map Z, some a, m, by simp, by simpa using hle, hcm, fun k z hk => ?_⟩
    have hkl := (List.getElem?_eq_some_iff.1 hk).1
    rw [List.length_map, List.length_range] at hkl
    rw [List.getElem?_map, List.getElem?_range hkl] at hk
    obtain rfl : Z k = z := Option.some.inj hk
    obtain ⟨c0, hs⟩ := hZ k (by omega)
    obtain ⟨b, off, spot⟩ := a
    have hspot : spot = none := by simpa [Addr.add] using World.cell?_spot (hZ 0 (by omega)).1
    subst hspot
    have hb := block_lt_of_cell c0
    rw [Go.WideShapes.add_plain] at c0 hb
    exact ⟨hs, b, off, rfl, hb, c0⟩
/-- A sheet, and where its works are none they have no room. -/
def SV0 (w : World) (v : Value) (s : Sh) : Prop := ∃ ua uc, v = .agg #[.int .i64 s.pr, .slice ua s.ws.length uc] ∧ WS w (.slice ua s.ws.length uc) s.ws ∧ (ua = none → uc = 0)
set_option maxRecDepth 100000 in
theorem open_sv0 {H : Type} {enc : TypeId × Value → H} {W : World} {v0 : Value} {d0 : DataW H} {p0 : List MemPlace} {base : Nat} (hok : Value.okWide Try.prog W .any base 24 v0) (h : DataW.Trod enc Try.prog W 0 (fun _ => true) true 24 v0 d0 p0) : ∃ s : Sh, SV0 W v0 s ∧ (Lit.int .i64 s.pr).wf = true := by
  have hc1 : Try.prog.cellsOf 3 = 1 := by kernel_rfl
  have hcw : Try.prog.cellsOf 22 = 1 := by kernel_rfl
  have hc2 : Try.prog.cellsOf 24 = 2 := by kernel_rfl
  obtain ⟨cs, rfl, _⟩ := okWide_struct Try.underlying24 hok
  obtain ⟨fuel, hf⟩ := h
  have hf' : DataW.trod enc Try.prog W 0 (fun _ => true) true fuel 24 cs.toList = some (d0, p0) := by simpa [Value.cells] using hf
  obtain ⟨xs, k, _, _, hl, hxl, hff⟩ := DataW.trod_struct Try.underlying24 hf'
  rw [hc2] at hl
  obtain ⟨l⟩ := cs
  simp only at hl hff
  match l, hl with
  | [u0, u1], _ =>
    match xs, hxl with
    | [y0, y1], _ =>
      have g0 := hff 0 _ rfl
      have g1 := hff 1 _ rfl
      simp [hc1, hcw] at g0 g1
      obtain ⟨n0, e0, _, w0⟩ := DataW.trod_int Try.underlying3 g0
      obtain ⟨L, hL⟩ := open_works g1
      obtain rfl := (List.cons.inj e0).1
      have hn : ∀ n c, u1 = .slice none n c → c = 0 := fun n c e => by
        rcases Go.Deep.open_slice Try.underlying22 g1 with ⟨hcs, _⟩ | ⟨a, len, cap, m, n', D, Pl, hcs, _⟩
        · have q := (List.cons.inj hcs).1
          rw [e] at q
          injection q with q1 q2 q3
        · have q := (List.cons.inj hcs).1
          rw [e] at q
          injection q with q1 q2 q3
          cases q1
      obtain ⟨ua, uc, rfl, h1, h2, h3⟩ := hL
      exact ⟨⟨n0, L⟩, ⟨ua, uc, rfl, ⟨ua, uc, rfl, h1, h2, h3⟩, fun e => by subst e; exact hn _ _ rfl⟩, w0⟩
end Go.Proofs.Ytcjbjlepgdggpaa
