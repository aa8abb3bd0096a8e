/- The law of the document's examples, walked. -/
import Derived.Test.YtojdihfcoijinaaDoorKA
namespace Go.Proofs.YtojdihfcoijinaaDoor
open Go.RowKit

theorem par_at (w : World) (g : Glob w) (t : List UInt8) (z : Int) (ht : t.length ≤ 5) (hp : parP t = ([], z)) :
    Calls Tryd.prog 19 #[.string ⟨t.toArray⟩] w fun e w' => ∃ a c, e = .returned (.tuple #[.slice a 0 c, .int .i64 z]) ∧ Below w.heap.size w w' := by
  refine (ParseList_any ⟨t.toArray⟩ w g (by rw [← size_len]; show t.length ≤ _; unfold maxLen; omega)).mono ?_
  rintro e w' ⟨v, he, hown, hb⟩
  rw [data_mk, hp] at he hown
  obtain ⟨a, c, rfl, _⟩ := sint_own (xs := []) hown
  exact ⟨a, c, he, hb⟩
theorem spl_at (w : World) (g : Glob w) (t : List UInt8) (ht : t.length ≤ 5) (hp : splitSpec t = ([], 6)) :
    Calls Tryd.prog 28 #[.string ⟨t.toArray⟩] w fun e w' => ∃ a c, e = .returned (.tuple #[.slice a 0 c, .int .i64 6]) ∧ Below w.heap.size w w' := by
  refine (Split_short ⟨t.toArray⟩ w g (by rw [← size_len]; show t.length ≤ _; omega)).mono ?_
  rintro e w' ⟨v, he, hown, hb⟩
  rw [data_mk, hp] at he hown
  obtain ⟨a, c, rfl, _⟩ := sfld_own (fs := []) hown
  exact ⟨a, c, he, hb⟩
theorem unq_at (w : World) (g : Glob w) : Calls Tryd.prog 24 #[.string ⟨#[34, 97]⟩] w fun e w' => e = .returned (.tuple #[.string ⟨#[]⟩, .int .i64 6]) ∧ Below w.heap.size w w' := by
  refine (Unquote_any ⟨#[34, 97]⟩ w g (by decide)).mono ?_
  rintro e w' ⟨he, hb⟩
  rw [show (⟨#[34, 97]⟩ : ByteArray).data.toList = [34, 97] from rfl, kUnq] at he
  exact ⟨he, hb⟩
theorem int_at (w : World) (g : Glob w) : Calls Tryd.prog 15 #[.string ⟨#[53]⟩, .int .i64 9, .int .i64 0] w fun e w' => e = .returned (.tuple #[.int .i64 0, .int .i64 2]) ∧ Below w.heap.size w w' := by
  refine (Int_any ⟨#[53]⟩ 9 0 w g (by decide)).mono ?_
  rintro e w' ⟨he, hb⟩
  rw [show (⟨#[53]⟩ : ByteArray).data.toList = [53] from rfl, kInt] at he
  exact ⟨he, hb⟩

set_option maxHeartbeats 1000000 in
set_option maxRecDepth 100000 in
theorem known_any (w : World) (g : Glob w) :
    Calls Tryd.prog 9 #[] w fun e w' => e = .returned (.bool true) ∧ Below w.heap.size w w' := by
  go_enter Tryd.func9, Tryd.ntmps9
  go_wp2_with fail
  have gk := g.next (kw_below w)
  go_loopw [3] (fun i wr => ∃ k : Nat, k ≤ 7 ∧ i = .int .i64 k ∧ Below (kw w).heap.size (kw w) wr) (fun i _ => 7 - (intOf i).toNat)
  case atStart => exact ⟨0, by omega, rfl, Below.refl _ (kw w)⟩
  case round =>
    obtain ⟨k, hk, rfl, hbr⟩ := hrel
    have gr := gk.next hbr
    by_cases hk7 : k < 7
    · obtain ⟨a, n, c, t, xs, hc1, hc2, hs, hx, hl⟩ := kw_at w k hk7
      have hkz := (kw_size w).2
      have c1 := (hbr.cell (p := ⟨w.heap.size + 1 + 1 + 1 + 1 + 1 + 1, k, none⟩) (by rw [hkz]; show w.heap.size + 1 + 1 + 1 + 1 + 1 + 1 < _; omega)).trans hc1
      have c2 := fun w2 (hb2 : Below wr.heap.size wr w2) => ((below_on hbr hb2).cell (p := ⟨w.heap.size + 1 + 1 + 1 + 1 + 1 + 1 + 1, k, none⟩) (by rw [hkz]; show w.heap.size + 1 + 1 + 1 + 1 + 1 + 1 + 1 < _; omega)).trans hc2
      have hL := list_at (kw w) wr xs _ gr hs hbr t _ hx hl
      have HL := Lib.hid hL
      have H2 := Lib.hid c2
      clear hc1 hc2 hs hx hl hL c2 hkz
      have n0 : (0 : Int) ≤ (k : Int) := by omega
      have n1 : (k : Int) < 7 := by omega
      by_cases h5 : k < 5
      · have m5 : (k : Int) < 5 := by omega
        rw [if_pos h5] at HL
        go_wp2_with (go_at_call 20; refine HL.out.mono ?_; rintro e w2 ⟨rfl, hb2⟩; have c3 := H2.out w2 hb2)
        go_roundw
        case rel => exact ⟨k + 1, by omega, by go_num, below_on hbr hb2⟩
        case measure => simp [intOf]; omega
      · have m5 : ¬ (k : Int) < 5 := by omega
        rw [if_neg h5] at HL
        go_wp2_with (go_at_call 20; refine HL.out.mono ?_; rintro e w2 ⟨rfl, hb2⟩; have c3 := H2.out w2 hb2)
        go_roundw
        case rel => exact ⟨k + 1, by omega, by go_num, below_on hbr hb2⟩
        case measure => simp [intOf]; omega
    · have hb1 := below_on (kw_below w) hbr
      have Hb1 := Lib.hid hb1
      clear hb1
      go_wp2_with fail
      have gv := gr.next (kv_below wr)
      have HK := Lib.hid (kv_at wr)
      have hkz := kv_size wr
      have HB := Lib.hid (kv_below wr)
      go_loopw [8] (fun i wq => ∃ k : Nat, k ≤ 5 ∧ i = .int .i64 k ∧ Below (kv wr).heap.size (kv wr) wq) (fun i _ => 5 - (intOf i).toNat)
      case atStart => exact ⟨0, by omega, rfl, Below.refl _ (kv wr)⟩
      case round =>
        obtain ⟨j, hj, rfl, hbq⟩ := hrel
        have gq := gv.next hbq
        have n0 : (0 : Int) ≤ (j : Int) := by omega
        by_cases hj5 : j < 5
        · obtain ⟨t, z, hc1, hc2, ht, hp⟩ := HK.out j hj5
          have c1 := (hbq.cell (p := ⟨_, j, none⟩) (by rw [hkz]; exact Nat.lt_succ_of_lt (Nat.lt_succ_self _))).trans hc1
          have c2 := fun w2 (hb2 : Below wr.heap.size wr w2) => ((below_on hbq hb2).cell (p := ⟨_, j, none⟩) (by rw [hkz]; exact Nat.lt_succ_self _)).trans hc2
          have hP := par_at wr gq t z ht hp
          have HP := Lib.hid hP
          have H2 := Lib.hid c2
          clear hc1 hc2 ht hp hP c2 hkz
          have n1 : (j : Int) < 5 := by omega
          go_wp2_with (go_at_call 19; refine HP.out.mono ?_; rintro e w2 ⟨a2, d2, rfl, hb2⟩; have c3 := H2.out w2 hb2)
          go_roundw
          case rel => exact ⟨j + 1, by omega, by go_num, below_on hbq hb2⟩
          case measure => simp [intOf]; omega
        · have hb3 := below_on Hb1.out (below_on HB.out hbq)
          have Hb3 := Lib.hid hb3
          clear hb3 hkz
          have n1 : ¬ (j : Int) < 5 := by omega
          go_wp2_with (first
            | (go_at_call 10; refine (shown_any _ g7).mono ?_; rintro e w8 ⟨rfl, hb8⟩)
            | (go_at_call 15; refine (int_at _ g6).mono ?_; rintro e w7 ⟨rfl, hb7⟩; have g7 := g6.next hb7)
            | (go_at_call 28; refine (spl_at _ g5 [97, 34, 98] (by decide) kSpl2).mono ?_; rintro e w6 ⟨a6, d6, rfl, hb6⟩; have g6 := g5.next hb6)
            | (go_at_call 28; refine (spl_at _ g4 [97, 32, 32, 98] (by decide) kSpl1).mono ?_; rintro e w5 ⟨a5, d5, rfl, hb5⟩; have g5 := g4.next hb5)
            | (go_at_call 24; refine (unq_at _ gq).mono ?_; rintro e w4 ⟨rfl, hb4⟩; have g4 := gq.next hb4))
          go_ret
          exact ⟨rfl, below_on Hb3.out (below_on hb4 (below_on hb5 (below_on hb6 (below_on hb7 hb8))))⟩
end Go.Proofs.YtojdihfcoijinaaDoor
