/- An argument of lists of numbers; the law of forms walked. -/
import Derived.Test.YteffdkoebigcnaaDL
import Derived.Test.YteffdkoebigcnaaCL
import Derived.Deep.Slices
namespace Go.Proofs.Yteffdkoebigcnaa
open Go.ChangeShapes Go.WideShapes Go.ChangeAt Go.RowKit
set_option maxRecDepth 100000 in
theorem open_is2 {H : Type} {enc : TypeId × Value → H} {W : World} {v0 : Value} {x : DataW H × List MemPlace} {fuel : Nat}
    (hf' : DataW.trod enc Try.prog W 0 (fun _ => true) true fuel 22 [v0] = some x) : ∃ zs : List Int, IS W v0 zs := by
  rcases open_ints Try.underlying22 Try.underlying3 (by kernel_rfl) hf' with ⟨hcs, _⟩ | ⟨a, len, cap, zs, hcs, _, hle, hcm, hz, _, hcell, hwf⟩
  · have e := (List.cons.inj hcs).1
    rw [e]
    exact ⟨[], is_nil W⟩
  · have e := (List.cons.inj hcs).1
    rw [e]
    simp only [if_true] at hz
    have hl : (zs.take len).length = len := by rw [List.length_take]; omega
    refine ⟨zs.take len, ⟨some a, cap, by rw [hl], by omega, hcm, (fun e => by cases e), fun k z hk => ?_⟩⟩
    have hkl := (List.getElem?_eq_some_iff.1 hk).1
    rw [hl] at hkl
    have cj := hcell k (by omega)
    have cz := hcell 0 (by omega)
    obtain ⟨b, off, spot⟩ := a
    have hspot : spot = none := by simpa [Addr.add] using World.cell?_spot cz
    subst hspot
    refine ⟨b, off, rfl, ?_, ?_⟩
    · have := block_lt_of_cell cj
      rw [Go.WideShapes.add_plain] at this
      exact this
    · rw [Go.WideShapes.add_plain] at cj
      rw [cj]
      rw [List.getElem?_take_of_lt hkl] at hk
      simp [List.getD, hk]
set_option maxRecDepth 100000 in
theorem open_fi {H : Type} {enc : TypeId × Value → H} {W : World} {v0 : Value} {d0 : DataW H} {p0 : List MemPlace} {base : Nat} (hok : Value.okWide Try.prog W .any base 31 v0)
    (h : DataW.Trod enc Try.prog W 0 (fun _ => true) true 31 v0 d0 p0) : ∃ F : List (List Int), FI W v0 F := by
  obtain ⟨a0, len0, cap0, rfl⟩ := okWide_slice Try.underlying31 hok
  obtain ⟨fuel, hf⟩ := h
  have hf' : DataW.trod enc Try.prog W 0 (fun _ => true) true fuel 31 [.slice a0 len0 cap0] = some (d0, p0) := by simpa [Value.cells] using hf
  rcases Go.Deep.open_slice1 Try.underlying31 (by kernel_rfl) hf' with ⟨hcs, _⟩ | ⟨a, len, cap, m, n, V, D, Pl, hcs, _, hle, hcm, hm, _, hx⟩
  · have e := (List.cons.inj hcs).1
    rw [e]
    exact ⟨[], none, 0, rfl, Nat.le_refl _, Nat.zero_le _, fun k l h => by simp at h⟩
  · have e := (List.cons.inj hcs).1
    rw [e]
    simp only [if_true] at hm
    subst hm
    have hz : ∀ i : Nat, ∃ zs : List Int, i < m → IS W (V i) zs := fun i => by
      by_cases hi : i < m
      · obtain ⟨zs, h⟩ := open_is2 (hx i hi).2
        exact ⟨zs, fun _ => h⟩
      · exact ⟨[], fun h => absurd h hi⟩
    obtain ⟨Z, hZ⟩ := Classical.axiomOfChoice hz
    refine ⟨(List.range len).map Z, some a, m, by simp, by simpa using hle, hcm, fun k l hk => ?_⟩
    have hkl := (List.getElem?_eq_some_iff.1 hk).1
    rw [List.length_map, List.length_range] at hkl
    rw [List.getElem?_map, List.getElem?_range hkl] at hk
    obtain rfl : Z k = l := Option.some.inj hk
    have cj := (hx k (by omega)).1
    obtain ⟨b, off, spot⟩ := a
    have hspot : spot = none := by simpa [Addr.add] using World.cell?_spot (hx 0 (by omega)).1
    subst hspot
    have hb := block_lt_of_cell cj
    rw [Go.WideShapes.add_plain] at cj hb
    exact ⟨b, off, V k, rfl, hb, cj, hZ k (by omega)⟩
open Go.Lib
set_option maxHeartbeats 1000000 in
set_option maxRecDepth 100000 in
theorem forms_any (n p : Int) (F : List (List Int)) (v : Value) (w : World) (hv : FI w v F) :
    Calls Try.prog 5 #[.int .i64 n, .int .i64 p, v] w fun e w' => e = .returned (.bool true) ∧ Below w.heap.size w w' := by
  have Hv := Lib.hid hv
  obtain ⟨P, hP, hW, hR⟩ := words_both n p F
  have HP := Lib.hid hP
  have C1 := Lib.hid (fun w' (B : Below w.heap.size w w') => hW v w' (Hv.out.below B))
  have C2 := Lib.hid (fun w' (B : Below w.heap.size w w') => hR v w' (Hv.out.below B))
  obtain ⟨sa, sc, rfl, k1, k2, hF⟩ := hv
  unfold maxLen at k2
  have HF := Lib.hid hF
  clear hF hP hW hR
  by_cases h100 : 100 < F.length
  · have h' : (100 : Int) < (F.length : Int) := by omega
    go_enter Try.func5, Try.ntmps5
    go_wp2_with fail
    refine (awake_any _).mono ?_
    rintro e w1 ⟨rfl, B1⟩
    go_wp2_with fail
    go_ret
    exact ⟨rfl, B1⟩
  · have h' : ¬ (100 : Int) < (F.length : Int) := by omega
    go_enter Try.func5, Try.ntmps5
    go_wp2_with fail
    go_loopw [7] (fun i wr => ∃ k : Nat, k ≤ F.length ∧ i = .int .i64 k ∧ wr = w) (fun i _ => F.length - (intOf i).toNat)
    case atStart => exact ⟨0, Nat.zero_le _, rfl, rfl⟩
    case round =>
      obtain ⟨k, hk, rfl, rfl⟩ := hrel
      rename World => w
      by_cases hkl : k < F.length
      · obtain ⟨l, hl⟩ : ∃ l, F[k]? = some l := ⟨_, List.getElem?_eq_getElem hkl⟩
        obtain ⟨b, off, u, rfl, hb, hcz, hu⟩ := HF.out k l hl
        obtain ⟨a1, c1, rfl, _, _, _, _⟩ := hu
        have j0 : (0 : Int) ≤ (k : Int) := by omega
        have j1 : (k : Int) < (F.length : Int) := by omega
        clear hl
        by_cases hl1 : 100 < l.length
        · have hl1' : (100 : Int) < (l.length : Int) := by omega
          go_wp2_with fail
          refine (awake_any _).mono ?_
          rintro e w1 ⟨rfl, B1⟩
          go_wp2_with fail
          go_ret
          exact ⟨rfl, B1⟩
        · have hl1' : ¬ (100 : Int) < (l.length : Int) := by omega
          go_wp2_with fail
          go_roundw
          case rel => exact ⟨k + 1, hkl, by go_num, trivial⟩
          case measure => (simp [intOf] <;> omega)
      · have hlt : ¬ (k : Int) < (F.length : Int) := by omega
        go_wp2_with fail
        refine (C1.out _ (Below.refl _ _)).mono ?_
        rintro e w1 ⟨v1, L1, er1, rfl, I1, B1, P1⟩
        have D1 := Lib.hid B1
        have J1 := Lib.hid I1
        have HP1 := Lib.hid P1
        clear B1 I1 P1
        go_wp2_with fail
        refine (C2.out _ D1.out).mono ?_
        rintro e w2 ⟨v2, L2, er2, rfl, I2, B2, P2⟩
        obtain ⟨rfl, rfl⟩ := HP.out _ _ _ _ HP1.out P2
        have D2 := Lib.hid (bon D1.out B2)
        have J2 := Lib.hid I2
        have K1 := Lib.hid (J1.out.below B2)
        clear B2 I2 P2 J1
        go_wp2_with fail
        refine (sameInts_is K1.out J2.out true ⟨fun _ => rfl, fun _ => rfl⟩).mono ?_
        rintro e w3 ⟨rfl, B3⟩
        have D3 := Lib.hid (bon D2.out B3)
        clear B3
        go_wp2_with fail
        refine (awake_any _).mono ?_
        rintro e w4 ⟨rfl, B4⟩
        go_wp2_with fail
        go_ret
        exact ⟨rfl, bon D3.out B4⟩
theorem forms_row (n p : Int) (F : List (List Int)) (v : Value) (w : World) (_ : (Lit.int .i64 n).wf = true) (_ : (Lit.int .i64 p).wf = true) (hv : FI w v F) :
    Calls Try.prog 5 #[.int .i64 n, .int .i64 p, v] w fun e w' => e = .returned (.bool true) ∧ Below w.heap.size w w' := forms_any n p F v w hv
end Go.Proofs.Yteffdkoebigcnaa
