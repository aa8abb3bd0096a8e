/- The law of the least text. -/
import Derived.Test.YtkbmdmipdcjjcaaGreatDoorLV
import Derived.Test.YtkbmdmipdcjjcaaGreatDoorW
import Derived.Laws.Cover1
namespace Go.Proofs.YtkbmdmipdcjjcaaGreatDoor
open Go.RowKit

theorem par_none {l : List UInt8} (h : (parP l).2 ≠ 0) : (parP l).1 = [] := by
  unfold parP at *
  by_cases h1 : 2500 < l.length
  · rw [if_pos h1]
  · rw [if_neg h1] at h ⊢
    cases h2 : itemsP l with
    | none => rfl
    | some is =>
      rw [h2] at h
      simp only at h ⊢
      by_cases h3 : (is.any fun i => decide (9999 < i.2.2)) = true
      · rw [if_pos h3]
      · rw [if_neg h3] at h ⊢
        by_cases h4 : 500 < sumN (is.map toN)
        · rw [if_pos h4]
        · rw [if_neg h4] at h
          exact absurd rfl h
theorem par_sv (s : ByteArray) (w : World) (g : Glob w) (hs : s.size ≤ maxLen) {zs : List Int} {c : Int} (h : parP s.data.toList = (zs, c)) :
    Calls Tryz.prog 9 #[.string s] w fun e w' => ∃ (a : Option Addr) (cap : Nat), e = .returned (.tuple #[.slice a zs.length cap, .int .i64 c]) ∧ SInt w' (.slice a zs.length cap) zs ∧ Below w.heap.size w w' := by
  refine (ParseList_any s w g hs).mono ?_
  rintro e w' ⟨v, he, hown, hb⟩
  rw [h] at he hown
  obtain ⟨a, cap, hv, hx⟩ := sint_own hown
  subst hv
  exact ⟨a, cap, he, ⟨a, cap, rfl, hx⟩, hb⟩
theorem range_true {zs : List Int} (hz : ∀ z ∈ zs, 0 ≤ z ∧ z ≤ 9999) : rangeB zs = true := by
  unfold rangeB
  rw [List.all_eq_true]
  intro z h
  have := hz z h
  simp
  omega
theorem list_sv (xs : List Int) (v : Value) (w : World) (g : Glob w) (hs : SInt w v xs) (hm : xs.length ≤ 500) (hz : ∀ z ∈ xs, 0 ≤ z ∧ z ≤ 9999) :
    Calls Tryz.prog 7 #[v] w fun e w' => e = .returned (.tuple #[.string ⟨(listS xs).toArray⟩, .int .i64 0]) ∧ Below w.heap.size w w' := by
  obtain ⟨a, c, rfl, hx⟩ := hs
  have fin : Calls Tryz.prog 7 #[.slice a xs.length c] w (ListPost w xs) := by
    by_cases h0 : 0 < xs.length
    · obtain ⟨b, off, rfl, hb2, hc⟩ := hx h0
      exact List_rest xs b off c w g hm h0 hb2 hc
    · have : xs = [] := List.eq_nil_of_length_eq_zero (by omega)
      subst this
      exact List_empty a c w
  refine fin.mono ?_
  rintro e w' ⟨rfl, hbw⟩
  have : listP xs = (listS xs, 0) := by unfold listP; rw [if_neg (by omega), if_pos (range_true hz)]
  rw [this]
  exact ⟨rfl, hbw⟩
theorem leq_true {a b : ByteArray} (h : leB a.data.toList b.data.toList) (hl : a.size = b.size) : (Op.bytesLess a.toList b.toList || a.toList == b.toList) = true := by
  rw [toList_data, toList_data]
  rcases bl_tri a.data.toList b.data.toList with h1 | h1 | h1
  · simp [h1]
  · simp [h1]
  · have := (ltB_iff b.data.toList a.data.toList).2 (Or.inr ⟨by rw [size_len, size_len, hl], h1⟩)
    unfold leB at h
    rw [h] at this
    cases this

end Go.Proofs.YtkbmdmipdcjjcaaGreatDoor
