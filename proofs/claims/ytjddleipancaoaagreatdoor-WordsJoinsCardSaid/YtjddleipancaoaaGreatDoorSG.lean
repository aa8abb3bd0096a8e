/- The law of splits. -/
import Derived.Test.YtjddleipancaoaaGreatDoorSF
import Derived.Test.YtjddleipancaoaaGreatDoorY
namespace Go.Proofs.YtjddleipancaoaaGreatDoor
open Go.RowKit

theorem ba_eq2 (s : ByteArray) : (⟨s.data.toList.toArray⟩ : ByteArray) = s := by
  cases s; simp
theorem splitSpec_ok {l : List UInt8} {fs : List Fld} (h : splitSpec l = (fs, 0)) : joinSpec fs = (l, 0) ∧ fs.length ≤ 64 ∧ (∀ x ∈ fs, okF x = true) ∧ l.length ≤ 4096 := by
  unfold splitSpec at h
  by_cases h1 : 4096 < l.length
  · rw [if_pos h1] at h; simp at h
  · rw [if_neg h1] at h
    cases hs : splitS l with
    | none => rw [hs] at h; simp at h
    | some gs =>
      rw [hs] at h
      simp only at h
      by_cases h2 : 64 < gs.length
      · rw [if_pos h2] at h; simp at h
      · rw [if_neg h2] at h
        obtain rfl := (Prod.mk.inj h).1
        obtain ⟨a1, a2⟩ := splitS_ok hs
        refine ⟨?_, by omega, a1, by omega⟩
        rw [joinSpec_ok h2 a1, a2, if_neg h1]
theorem splitSpec_cases (l : List UInt8) : ((splitSpec l).2 = 0 ∧ (splitSpec l).1.length ≤ 64) ∨ ((splitSpec l).1 = [] ∧ ((splitSpec l).2 = 3 ∨ (splitSpec l).2 = 6)) := by
  unfold splitSpec
  by_cases h1 : 4096 < l.length
  · rw [if_pos h1]; exact Or.inr ⟨rfl, Or.inl rfl⟩
  · rw [if_neg h1]
    cases hs : splitS l with
    | none => exact Or.inr ⟨rfl, Or.inr rfl⟩
    | some gs =>
      simp only
      by_cases h2 : 64 < gs.length
      · rw [if_pos h2]; exact Or.inr ⟨rfl, Or.inl rfl⟩
      · rw [if_neg h2]; exact Or.inl ⟨rfl, by show gs.length ≤ 64; omega⟩
theorem okF_len {f : Fld} (h : okF f = true) : f.2.length ≤ 200 := by
  obtain ⟨q, t⟩ := f
  cases q with
  | false => exact (bare_len (show bareB t = true from h)).2
  | true =>
    have ht : textB t = true := h
    unfold textB at ht; simp at ht; exact ht.1
theorem Split_any (s : ByteArray) (w : World) (g : Glob w) (hs : s.size ≤ maxLen) : Calls Tryz.prog 12 #[.string s] w (SplitPost w s.data.toList) := by
  by_cases h : 4096 < s.size
  · exact Split_long s w h hs
  · exact Split_short s w g (by omega)
theorem refSplit_any (s : ByteArray) (w : World) (hs : s.size ≤ maxLen) : Calls Tryz.prog 13 #[.string s] w (RefSplitPost w s.data.toList) := by
  by_cases h : 4096 < s.size
  · exact refSplit_long s w h hs
  · exact refSplit_short s w (by omega)
theorem Join_any (fs : List Fld) (v : Value) (w : World) (g : Glob w) (hv : SFld w v fs) (hs : ∀ f ∈ fs, f.2.length ≤ 1000000) (hl : fs.length ≤ maxLen) :
    Calls Tryz.prog 16 #[v] w fun e w' => e = .returned (.tuple #[.string ⟨(joinSpec fs).1.toArray⟩, .int .i64 (joinSpec fs).2]) ∧ Below w.heap.size w w' := by
  by_cases h : 64 < fs.length
  · exact Join_many fs v w hv hl h
  · exact Join_few fs v w g hv hs h
/-- The slots of a call that hands a slice and a number back. -/
def TwoOf (v : Value) (n : Int) : Ending := .returned (.tuple #[v, .int .i64 n])

set_option maxHeartbeats 2000000 in
set_option maxRecDepth 100000 in
theorem splits_any (s : ByteArray) (w : World) (g : Glob w) (hs : s.size ≤ maxLen) :
    Calls Tryz.prog 4 #[.string s] w fun e w' => e = .returned (.bool true) ∧ Below w.heap.size w w' := by
  have hm := hs
  unfold maxLen at hs
  by_cases h : 6000 < s.size
  · go_enter Tryz.func4, Tryz.ntmps4
    go_wp2_with (go_at_call 6; refine (shown_any _ g).mono ?_; rintro e w1 ⟨rfl, hb1⟩)
    go_ret
    exact ⟨rfl, hb1⟩
  · have c1 := Split_any s w g hm
    have c2 := fun w => refSplit_any s w hm
    have hcs := splitSpec_cases s.data.toList
    have hok := fun fs (e : splitSpec s.data.toList = (fs, 0)) => splitSpec_ok e
    unfold SplitPost at c1
    unfold RefSplitPost at c2
    obtain ⟨S, hS⟩ : ∃ S, splitSpec s.data.toList = S := ⟨_, rfl⟩
    rw [hS] at c1 hcs
    simp only [hS] at c2 hok
    obtain ⟨fs, n⟩ := S
    simp only at c1 c2 hcs
    have hfl : fs.length ≤ 64 := by
      rcases hcs with ⟨_, h2⟩ | ⟨h2, _⟩
      · exact h2
      · rw [h2]; exact Nat.zero_le _
    have C1 := Lib.hid c1
    have C2 := Lib.hid c2
    have Hcs := Lib.hid hcs
    have Hok := Lib.hid hok
    clear c1 c2 hcs hok hS
    go_enter Tryz.func4, Tryz.ntmps4
    go_wp2_with fail
    refine C1.out.mono ?_
    rintro e w1 ⟨v1, rfl, hown1, hb1⟩
    have hv1 := sfld_own hown1
    have g1 := g.next hb1
    clear hown1
    go_wp2_with fail
    refine (C2.out _).mono ?_
    rintro e w2 ⟨v2, rfl, hown2, hb2⟩
    have hv2 := sfld_own hown2
    have hv12 := hv1.below hb2
    have g2 := g1.next hb2
    clear hown2
    go_wp2_with fail
    refine (fields_any fs v1 w2 hv12 (by omega)).mono ?_
    rintro e w3 ⟨v3, rfl, hown3, hb3⟩
    have hv3 := sfld_own hown3
    have hv23 := hv2.below hb3
    have hv13 := hv12.below hb3
    have g3 := g2.next hb3
    clear hown3
    go_wp2_with fail
    have hA := alike_any fs fs v3 v2 w3 hv3 hv23 (by unfold maxLen; omega)
    rw [decide_eq_true rfl] at hA
    refine hA.mono ?_
    rintro e w4 ⟨rfl, hb4⟩
    have hv14 := hv13.below hb4
    have g4 := g3.next hb4
    have z1 := hb1.size
    have z2 := hb2.size
    have z3 := hb3.size
    have z4 := hb4.size
    have hall : Below w.heap.size w w4 := hb1.trans ((hb2.mono z1).trans ((hb3.mono (Nat.le_trans z1 z2)).trans (hb4.mono (Nat.le_trans z1 (Nat.le_trans z2 z3)))))
    have zall := hall.size
    have Hall := Lib.hid hall
    clear hA hb1 hb2 hb3 hb4 hv1 hv2 hv3 hv12 hv23 hv13 hall
    rcases Hcs.out with ⟨rfl, _⟩ | ⟨hfs, hn⟩
    · obtain ⟨k1, k2, k3, k4⟩ := Hok.out fs rfl
      have hJ := Join_any fs v1 w4 g4 hv14 (fun f hf => by have := okF_len (k3 f hf); omega) (by unfold maxLen; omega)
      rw [k1] at hJ
      simp only [ba_eq2] at hJ
      have HJ := Lib.hid hJ
      clear hJ k1 k2 k3 k4
      go_wp2_with (go_at_call 16; refine HJ.out.mono ?_; rintro e w5 ⟨rfl, hb5⟩; have g5 := g4.next hb5)
      go_wp2_with (go_at_call 6; refine (shown_any _ g5).mono ?_; rintro e w6 ⟨rfl, hb6⟩)
      go_ret
      exact ⟨rfl, Hall.out.trans ((hb5.mono zall).trans (hb6.mono (Nat.le_trans zall hb5.size)))⟩
    · have hn0 : (n == 0) = false := by
        rcases hn with rfl | rfl <;> rfl
      have hn1 : ¬ n = 0 := by
        rcases hn with rfl | rfl <;> decide
      clear hn hfs
      go_wp2_with (go_at_call 6; refine (shown_any _ g4).mono ?_; rintro e w6 ⟨rfl, hb6⟩)
      go_ret
      exact ⟨rfl, Hall.out.trans (hb6.mono zall)⟩
end Go.Proofs.YtjddleipancaoaaGreatDoor
