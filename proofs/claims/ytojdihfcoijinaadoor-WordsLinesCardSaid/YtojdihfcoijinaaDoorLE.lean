/- The law of lines. -/
import Derived.Test.YtojdihfcoijinaaDoorLD
namespace Go.Proofs.YtojdihfcoijinaaDoor
open Go.RowKit

/-- A slice value that reads as these strings. -/
def SStr (w : World) (v : Value) (xs : List (List UInt8)) : Prop :=
  ∃ (a : Option Addr) (cap : Nat), v = .slice a xs.length cap ∧ (0 < xs.length → ∃ b off, a = some ⟨b, off, none⟩ ∧ b < w.heap.size ∧ ∀ j (hj : j < xs.length), w.cell? ⟨b, off + j, none⟩ = some (.string ⟨xs[j].toArray⟩))
theorem SStr.below {w w' : World} {v : Value} {xs : List (List UInt8)} (h : SStr w v xs) (hb : Below w.heap.size w w') : SStr w' v xs := by
  obtain ⟨a, cap, hv, hx⟩ := h
  refine ⟨a, cap, hv, fun hp => ?_⟩
  obtain ⟨b, off, ha, hbl, hc⟩ := hx hp
  exact ⟨b, off, ha, Nat.lt_of_lt_of_le hbl hb.size, fun j hj => (hb.cell (p := ⟨b, off + j, none⟩) hbl).trans (hc j hj)⟩
theorem sstr_own {w : World} {B : Nat} {v : Value} {xs : List (List UInt8)} (h : w.ownsRow B 9 1 v xs.length (xs.map encS)) : SStr w v xs := by
  rcases h.2 with ⟨rfl, h0⟩ | ⟨g, cap, cur, rfl, _⟩
  · exact ⟨none, 0, by rw [h0], fun hp => by omega⟩
  · refine ⟨_, cap, rfl, fun _ => ⟨g, 0, rfl, (h.lt g rfl).2, fun j hj => ?_⟩⟩
    rw [Nat.zero_add, h.cellAt j (by omega), List.getElem?_map, List.getElem?_eq_getElem hj]
    rfl
theorem lines_len (l : List UInt8) : (linesP l).1.length ≤ 5000 := by
  unfold linesP
  split
  · simp
  · split
    · simp
    · split
      · simp
      · rw [List.length_dropLast, splitL_length]; omega

set_option maxHeartbeats 1000000 in
theorem lines_any (s : ByteArray) (w : World) (g : Glob w) (hs : s.size ≤ maxLen) :
    Calls Tryd.prog 8 #[.string s] w fun e w' => e = .returned (.bool true) ∧ Below w.heap.size w w' := by
  have hA := Lines_any s w g hs
  have hR := fun w => refLines_any s w hs
  have hn := lines_len s.data.toList
  unfold maxLen at hs
  by_cases h : 1048676 < s.size
  · clear hA hR
    go_enter Tryd.func8, Tryd.ntmps8
    go_wp2_with (go_at_call 10; refine (shown_any _ g).mono ?_; rintro e w1 ⟨rfl, hb1⟩)
    go_ret
    exact ⟨rfl, hb1⟩
  · unfold LinesPost at hA hR
    obtain ⟨P, hP⟩ : ∃ P, linesP s.data.toList = P := ⟨_, rfl⟩
    rw [hP] at hA hR hn
    obtain ⟨xs, c⟩ := P
    simp only at hA hR hn
    have HA := Lib.hid hA
    have HR := Lib.hid hR
    clear hA hR hP
    go_enter Tryd.func8, Tryd.ntmps8
    go_wp2_with (first
      | (go_at_call 27; refine (HR.out w1).mono ?_; rintro e w2 ⟨v2, rfl, o2, hb2⟩; obtain ⟨a2, c2, rfl, hx2⟩ := sstr_own o2; have HX2 := Lib.hid hx2; clear hx2 o2)
      | (go_at_call 26; refine HA.out.mono ?_; rintro e w1 ⟨v1, rfl, o1, hb1⟩; obtain ⟨a1, c1, rfl, hx1⟩ := sstr_own o1; have HX1 := Lib.hid hx1; clear hx1 o1))
    have hb12 := below_on hb1 hb2
    have g2 := g.next hb12
    have hs1 : SStr w2 (.slice a1 xs.length c1) xs := SStr.below ⟨a1, c1, rfl, HX1.out⟩ hb2
    have HS1 := Lib.hid hs1
    clear hs1
    go_loopw [7] (fun i wr => ∃ k : Nat, k ≤ xs.length ∧ i = .int .i64 k ∧ Below w2.heap.size w2 wr) (fun i _ => xs.length - (intOf i).toNat)
    case atStart => exact ⟨0, Nat.zero_le _, rfl, Below.refl _ _⟩
    case round =>
      obtain ⟨k, hk, rfl, hbr⟩ := hrel
      by_cases hkl : k < xs.length
      · obtain ⟨a1', c1', he1, hx1⟩ := HS1.out
        cases he1
        obtain ⟨b1, o1, rfl, hz1, hcx⟩ := hx1 (by omega)
        obtain ⟨b2, o2, rfl, hz2, hcy⟩ := HX2.out (by omega)
        have cx := (hbr.cell (p := ⟨b1, o1 + k, none⟩) hz1).trans (hcx k hkl)
        have cy := (hbr.cell (p := ⟨b2, o2 + k, none⟩) hz2).trans (hcy k hkl)
        generalize xs[k] = x at *
        have n0 : (0 : Int) ≤ (k : Int) := by omega
        have n1 : (k : Int) < (xs.length : Int) := by omega
        clear hcx hcy hx1
        go_wp2_with fail
        go_quiet (fail)
        clear n0 n1 cx cy
        go_wp2_with fail
        go_roundw
        case rel => exact ⟨k + 1, by omega, by go_num, below_drewN hbr _⟩
        case measure => simp [intOf]; omega
      · have gr := g2.next hbr
        go_wp2_with (go_at_call 10; refine (shown_any _ gr).mono ?_; rintro e w5 ⟨rfl, hb5⟩)
        go_ret
        exact ⟨rfl, below_on hb12 (below_on hbr hb5)⟩
end Go.Proofs.YtojdihfcoijinaaDoor
