/- The law of the least text. -/
import Derived.Test.YtjddleipancaoaaDoorLV
import Derived.Test.YtjddleipancaoaaDoorW
import Derived.Laws.Cover1
namespace Go.Proofs.YtjddleipancaoaaDoor
open Go.RowKit

theorem par_none {l : List UInt8} (h : (parP l).2 ≠ 0) : (parP l).1 = [] := by
  unfold parP at *
  by_cases h1 : 2500 < l.length
  · rw [if_pos h1]
  · rw [if_neg h1] at h ⊢
    cases h2 : itemsP l with
    | none => rfl
    | some is =>
      rw [h2] at h
      simp only at h ⊢
      by_cases h3 : (is.any fun i => decide (9999 < i.2.2)) = true
      · rw [if_pos h3]
      · rw [if_neg h3] at h ⊢
        by_cases h4 : 500 < sumN (is.map toN)
        · rw [if_pos h4]
        · rw [if_neg h4] at h
          exact absurd rfl h
theorem par_sv (s : ByteArray) (w : World) (g : Glob w) (hs : s.size ≤ maxLen) {zs : List Int} {c : Int} (h : parP s.data.toList = (zs, c)) :
    Calls Tryd.prog 19 #[.string s] w fun e w' => ∃ (a : Option Addr) (cap : Nat), e = .returned (.tuple #[.slice a zs.length cap, .int .i64 c]) ∧ SInt w' (.slice a zs.length cap) zs ∧ Below w.heap.size w w' := by
  refine (ParseList_any s w g hs).mono ?_
  rintro e w' ⟨v, he, hown, hb⟩
  rw [h] at he hown
  obtain ⟨a, cap, hv, hx⟩ := sint_own hown
  subst hv
  exact ⟨a, cap, he, ⟨a, cap, rfl, hx⟩, hb⟩
theorem range_true {zs : List Int} (hz : ∀ z ∈ zs, 0 ≤ z ∧ z ≤ 9999) : rangeB zs = true := by
  unfold rangeB
  rw [List.all_eq_true]
  intro z h
  have := hz z h
  simp
  omega
theorem list_sv (xs : List Int) (v : Value) (w : World) (g : Glob w) (hs : SInt w v xs) (hm : xs.length ≤ 500) (hz : ∀ z ∈ xs, 0 ≤ z ∧ z ≤ 9999) :
    Calls Tryd.prog 20 #[v] w fun e w' => e = .returned (.tuple #[.string ⟨(listS xs).toArray⟩, .int .i64 0]) ∧ Below w.heap.size w w' := by
  obtain ⟨a, c, rfl, hx⟩ := hs
  have fin : Calls Tryd.prog 20 #[.slice a xs.length c] w (ListPost w xs) := by
    by_cases h0 : 0 < xs.length
    · obtain ⟨b, off, rfl, hb2, hc⟩ := hx h0
      exact List_rest xs b off c w g hm h0 hb2 hc
    · have : xs = [] := List.eq_nil_of_length_eq_zero (by omega)
      subst this
      exact List_empty a c w
  refine fin.mono ?_
  rintro e w' ⟨rfl, hbw⟩
  have : listP xs = (listS xs, 0) := by unfold listP; rw [if_neg (by omega), if_pos (range_true hz)]
  rw [this]
  exact ⟨rfl, hbw⟩
theorem leq_true {a b : ByteArray} (h : leB a.data.toList b.data.toList) (hl : a.size = b.size) : (Op.bytesLess a.toList b.toList || a.toList == b.toList) = true := by
  rw [toList_data, toList_data]
  rcases bl_tri a.data.toList b.data.toList with h1 | h1 | h1
  · simp [h1]
  · simp [h1]
  · have := (ltB_iff b.data.toList a.data.toList).2 (Or.inr ⟨by rw [size_len, size_len, hl], h1⟩)
    unfold leB at h
    rw [h] at this
    cases this

set_option maxHeartbeats 1000000 in
set_option maxRecDepth 100000 in
theorem least_any (s : ByteArray) (w : World) (g : Glob w) (hs : s.size ≤ maxLen) :
    Calls Tryd.prog 5 #[.string s] w fun e w' => e = .returned (.bool true) ∧ Below w.heap.size w w' := by
  have hm := hs
  unfold maxLen at hs
  by_cases h : 3000 < s.size
  · go_enter Tryd.func5, Tryd.ntmps5
    go_wp2_with (go_at_call 10; refine (shown_any _ g).mono ?_; rintro e w1 ⟨rfl, hb1⟩)
    go_ret
    exact ⟨rfl, hb1⟩
  · rcases hp : parP s.data.toList with ⟨zs, c⟩
    by_cases hc : c = 0
    · subst hc
      obtain ⟨hl, hz⟩ := par_range hp
      obtain ⟨hL, hL2, hL3⟩ := list_main hz hl
      have hle := hL3 _ hp
      have c1 := par_sv s w g hm hp
      have c2 := fun v w g hv => list_sv zs v w g hv hl hz
      have c3 := fun v v' w hv hv' => ints_any zs zs v v' w hv hv' (by unfold maxLen; omega)
      obtain ⟨B, hB⟩ : ∃ B, (⟨(listS zs).toArray⟩ : ByteArray) = B := ⟨_, rfl⟩
      have hBl : listS zs = B.data.toList := by rw [← hB]
      have hB0 : B.size ≤ 2500 := by rw [← size_len, ← hBl]; exact hL2
      rw [hBl] at hL hle
      rw [hB] at c2
      have c4 := fun w g => par_sv B w g (by unfold maxLen; omega) hL
      have hsz : B.size ≤ s.size := by rw [← size_len, ← size_len]; exact leB_len hle
      simp only [decide_true] at c3
      have C1 := Lib.hid c1
      have C2 := Lib.hid c2
      have C3 := Lib.hid c3
      have C4 := Lib.hid c4
      have hq := leq_true (a := B) (b := s) hle
      clear c1 c2 c3 c4 hle hL hL2 hL3 hp hBl hB hz
      by_cases hlt : B.size < s.size
      · have hlt' : (B.size : Int) < (s.size : Int) := by omega
        clear hq
        go_enter Tryd.func5, Tryd.ntmps5
        go_wp2_with (first
          | (go_at_call 10; refine (shown_any _ g4).mono ?_; rintro e w5 ⟨rfl, hb5⟩)
          | (go_at_call 21; refine (C3.out _ _ w3 (hs1.below (below_on hb2 hb3)) hs3).mono ?_; rintro e w4 ⟨rfl, hb4⟩; have g4 := g3.next hb4)
          | (go_at_call 19; refine (C4.out w2 g2).mono ?_; rintro e w3 ⟨a3, cap3, rfl, hs3, hb3⟩; have g3 := g2.next hb3)
          | (go_at_call 20; refine (C2.out _ w1 g1 hs1).mono ?_; rintro e w2 ⟨rfl, hb2⟩; have g2 := g1.next hb2)
          | (go_at_call 19; refine C1.out.mono ?_; rintro e w1 ⟨a1, cap1, rfl, hs1, hb1⟩; have g1 := g.next hb1))
        go_ret
        exact ⟨rfl, below_on hb1 (below_on hb2 (below_on hb3 (below_on hb4 hb5)))⟩
      · have he : B.size = s.size := by omega
        have hq' := hq he
        have hge : ¬ (B.size : Int) < (s.size : Int) := by omega
        have heq : ((B.size : Int) == (s.size : Int)) = true := by simp [he]
        clear hq
        go_enter Tryd.func5, Tryd.ntmps5
        go_wp2_with (first
          | (go_at_call 10; refine (shown_any _ g4).mono ?_; rintro e w5 ⟨rfl, hb5⟩)
          | (go_at_call 21; refine (C3.out _ _ w3 (hs1.below (below_on hb2 hb3)) hs3).mono ?_; rintro e w4 ⟨rfl, hb4⟩; have g4 := g3.next hb4)
          | (go_at_call 19; refine (C4.out w2 g2).mono ?_; rintro e w3 ⟨a3, cap3, rfl, hs3, hb3⟩; have g3 := g2.next hb3)
          | (go_at_call 20; refine (C2.out _ w1 g1 hs1).mono ?_; rintro e w2 ⟨rfl, hb2⟩; have g2 := g1.next hb2)
          | (go_at_call 19; refine C1.out.mono ?_; rintro e w1 ⟨a1, cap1, rfl, hs1, hb1⟩; have g1 := g.next hb1))
        go_ret
        exact ⟨rfl, below_on hb1 (below_on hb2 (below_on hb3 (below_on hb4 hb5)))⟩
    · have hz : zs = [] := by have := par_none (l := s.data.toList) (by rw [hp]; exact hc); rw [hp] at this; exact this
      subst hz
      have c1 := par_sv s w g hm hp
      have C1 := Lib.hid c1
      have hcB : (c != 0) = true := by simpa using hc
      clear c1 hp
      go_enter Tryd.func5, Tryd.ntmps5
      go_wp2_with (first
        | (go_at_call 10; refine (shown_any _ g1).mono ?_; rintro e w2 ⟨rfl, hb2⟩)
        | (go_at_call 19; refine C1.out.mono ?_; rintro e w1 ⟨a1, cap1, rfl, hs1, hb1⟩; have g1 := g.next hb1))
      go_ret
      exact ⟨rfl, below_on hb1 hb2⟩
end Go.Proofs.YtjddleipancaoaaDoor
