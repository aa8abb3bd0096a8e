/- Lay at every argument: the program's and the reference's. -/
import Derived.Test.YtnfppebcpagjpaaCW
namespace Go.Proofs.Ytnfppebcpagjpaa
open Go.RowKit Go.Lib
set_option maxHeartbeats 400000 in
set_option maxRecDepth 100000 in
theorem Lay_any (n : Int) (ws : List Int) (s : Int) (above : Bool) (v : Value) (w : World) (hv : IS w v ws) :
    Calls Try.prog 31 #[.int .i64 n, v, .int .i64 s, .bool above] w fun e w' => ∃ v', e = .returned (.tuple #[v', .int .i64 (layV n ws s above).2]) ∧ IS w' v' (layV n ws s above).1 ∧ Below w.heap.size w w' := by
  by_cases h : strandV n ws s = 0
  · obtain ⟨m, k, rfl, rfl, hk, m1, m2, hl, hw, _⟩ := strandV_ok h
    cases above with
    | true => exact Lay_true m k hk m1 m2 ws hl hw h v w hv
    | false => exact Lay_false m k hk m1 m2 ws hl hw h v w hv
  · have CK := Lib.hid (checkStrand_any n ws s v w hv)
    unfold layV
    obtain ⟨c, hc⟩ : ∃ c, c = strandV n ws s := ⟨_, rfl⟩
    rw [← hc] at CK h ⊢
    rw [if_neg h]
    clear hc hv
    go_enter Try.func31, Try.ntmps31
    go_wp2_with fail
    refine CK.out.mono ?_
    rintro e w1 ⟨rfl, B1⟩
    go_wp2_with fail
    go_ret2
    exact ⟨.slice none 0 0, rfl, is_nil _, B1⟩
set_option maxHeartbeats 400000 in
set_option maxRecDepth 100000 in
theorem refLay_any (n : Int) (ws : List Int) (s : Int) (above : Bool) (v : Value) (w : World) (hv : IS w v ws) :
    Calls Try.prog 32 #[.int .i64 n, v, .int .i64 s, .bool above] w fun e w' => ∃ v', e = .returned (.tuple #[v', .int .i64 (layV n ws s above).2]) ∧ IS w' v' (layV n ws s above).1 ∧ Below w.heap.size w w' := by
  by_cases h : strandV n ws s = 0
  · obtain ⟨m, k, rfl, rfl, hk, m1, m2, hl, hw, _⟩ := strandV_ok h
    cases above with
    | true => exact refLay_true m k hk m1 m2 ws hl hw h v w hv
    | false => exact refLay_false m k hk m1 m2 ws hl hw h v w hv
  · obtain ⟨sa, sc, rfl, h1, h2, _, hI⟩ := hv
    have CK := Lib.hid (refCheck_any n ws sa sc w hI h1 h2)
    unfold layV
    rw [if_neg h]
    have hv : strandV n ws s = if checkV n ws = 0 then (if s < 0 ∨ n ≤ s then 7 else 0) else checkV n ws := rfl
    obtain ⟨r, hr⟩ : ∃ r, r = strandV n ws s := ⟨_, rfl⟩
    rw [← hr] at h hv ⊢
    obtain ⟨c, hc⟩ : ∃ c, c = checkV n ws := ⟨_, rfl⟩
    rw [← hc] at CK hv
    clear hI hc hr
    by_cases a : c = 0
    · rw [if_pos a] at hv
      subst a
      by_cases b : s < 0
      · rw [if_pos (.inl b)] at hv
        subst hv
        clear h
        go_enter Try.func32, Try.ntmps32
        go_wp2_with fail
        refine CK.out.mono ?_
        rintro e w1 ⟨rfl, B1⟩
        go_wp2_with fail
        go_ret2
        exact ⟨.slice none 0 0, rfl, is_nil _, B1⟩
      · by_cases d : n ≤ s
        · rw [if_pos (.inr d)] at hv
          subst hv
          clear h
          go_enter Try.func32, Try.ntmps32
          go_wp2_with fail
          refine CK.out.mono ?_
          rintro e w1 ⟨rfl, B1⟩
          go_wp2_with fail
          go_ret2
          exact ⟨.slice none 0 0, rfl, is_nil _, B1⟩
        · rw [if_neg (by omega)] at hv
          exact absurd hv h
    · rw [if_neg a] at hv
      subst hv
      clear h
      go_enter Try.func32, Try.ntmps32
      go_wp2_with fail
      refine CK.out.mono ?_
      rintro e w1 ⟨rfl, B1⟩
      go_wp2_with fail
      go_ret2
      exact ⟨.slice none 0 0, rfl, is_nil _, B1⟩
end Go.Proofs.Ytnfppebcpagjpaa
