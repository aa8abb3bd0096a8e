/- bounded, comesFirst, parseItem of package words. -/
import Derived.Test.YtkbmdmipdcjjcaaGreatDoorK
namespace Go.Proofs.YtkbmdmipdcjjcaaGreatDoor
open Go.RowKit

def bndP (l : List UInt8) : Int := if (intP l 0 9999).2 = 0 then (intP l 0 9999).1 else 10000
set_option maxHeartbeats 400000 in
theorem bounded_any (s : ByteArray) (w : World) (g : Glob w) (hs : s.size ≤ 281474976710656) :
    Calls Tryz.prog 65 #[.string s] w fun e w' => e = .returned (.int .i64 (bndP s.data.toList)) ∧ Below w.heap.size w w' := by
  have hI := Int_any s 0 9999 w g hs
  unfold bndP
  rcases hp : intP s.data.toList 0 9999 with ⟨v, c⟩
  rw [hp] at hI
  clear hp
  simp only at hI ⊢
  by_cases hc : c = 0
  · subst hc
    go_enter Tryz.func65, Tryz.ntmps65
    go_wp2_with fail
    refine hI.mono ?_
    rintro e w' ⟨rfl, hb⟩
    go_wp2_with fail
    go_ret
    exact ⟨rfl, hb⟩
  · rw [if_neg hc]
    have hc1 : (c != 0) = true := by simpa using hc
    go_enter Tryz.func65, Tryz.ntmps65
    go_wp2_with fail
    refine hI.mono ?_
    rintro e w' ⟨rfl, hb⟩
    go_wp2_with fail
    go_ret
    exact ⟨rfl, hb⟩

def ltB (a b : List UInt8) : Bool := decide (a.length < b.length) || (decide (a.length = b.length) && Op.bytesLess a b)
set_option maxHeartbeats 400000 in
theorem comesFirst_any (a b : ByteArray) (w : World) :
    Calls Tryz.prog 42 #[.string a, .string b] w fun e w' => e = .returned (.bool (ltB a.data.toList b.data.toList)) ∧ w = w' := by
  have hl : ltB a.data.toList b.data.toList = (decide (a.size < b.size) || (decide (a.size = b.size) && Op.bytesLess a.toList b.toList)) := by
    unfold ltB; rw [size_len, size_len, toList_data, toList_data]
  have Hl := Lib.hid hl
  clear hl
  go_enter Tryz.func42, Tryz.ntmps42
  go_wp2_with fail
  all_goals
    go_ret
    refine ⟨retB ?_, rfl⟩
    rw [Hl.out]
  · have e : a.size = b.size := by omega
    simp [e]
  · have e : ¬ a.size = b.size := by omega
    simp [e]
  · have e : a.size < b.size := by omega
    simp [e]

def itmP (l : List UInt8) : (Int × Int × Int) × Bool :=
  if Lib.contains l [45] then ((1, bndP (cutHead 45 l), bndP (cutTail 45 l)), numB (cutHead 45 l) && numB (cutTail 45 l) && ltB (cutHead 45 l) (cutTail 45 l))
  else if Lib.contains l [120] then ((bndP (cutHead 120 l), bndP (cutTail 120 l), bndP (cutTail 120 l)), numB (cutHead 120 l) && numB (cutTail 120 l) && ltB [49] (cutHead 120 l))
  else ((1, bndP l, bndP l), numB l)

theorem cutHead_len (c : UInt8) : ∀ l : List UInt8, (cutHead c l).length ≤ l.length
  | [] => Nat.le_refl _
  | b :: l => by
    unfold cutHead
    have := cutHead_len c l
    split <;> simp <;> omega
theorem cutTail_len (c : UInt8) : ∀ l : List UInt8, (cutTail c l).length ≤ l.length
  | [] => Nat.le_refl _
  | b :: l => by
    unfold cutTail
    have := cutTail_len c l
    split <;> simp <;> omega
theorem mk_size (l : List UInt8) : (⟨l.toArray⟩ : ByteArray).size = l.length := by rw [Lib.size_eq]
theorem cut_yes {s : ByteArray} {c : UInt8} (h : Lib.contains s.data.toList [c] = true) : Lib.cut s.data.toList (ByteArray.mk #[c]).data.toList = (cutHead c s.data.toList, cutTail c s.data.toList, true) := by
  show Lib.cut s.data.toList [c] = _
  rw [cut_one, if_pos h]
theorem cut_no {s : ByteArray} {c : UInt8} (h : Lib.contains s.data.toList [c] = false) : Lib.cut s.data.toList (ByteArray.mk #[c]).data.toList = (s.data.toList, [], false) := by
  show Lib.cut s.data.toList [c] = _
  rw [cut_one, if_neg (by simp [h])]
theorem bcell' {B : Nat} {W w1 : World} (hb : Below B W w1) : (∀ b o, b < B → w1.cell? ⟨b, o, none⟩ = W.cell? ⟨b, o, none⟩) ∧ (∀ b o, b < B → w1.frozen? ⟨b, o, none⟩ = W.frozen? ⟨b, o, none⟩) :=
  ⟨fun b o h => hb.cell (p := ⟨b, o, none⟩) h, fun b o h => hb.frozen (p := ⟨b, o, none⟩) h⟩
theorem Glob.drewN {w : World} (g : Glob w) (n : Nat) : Glob (w.drewN n) := g.next (below_drewN (Below.refl _ _) n)

set_option maxHeartbeats 2000000 in
theorem parseItem_range (s : ByteArray) (w : World) (g : Glob w) (hs : s.size < 4294967281) (h : Lib.contains s.data.toList [45] = true) :
    Calls Tryz.prog 45 #[.string s] w fun e w' => e = .returned (.tuple #[.agg #[.int .i64 1, .int .i64 (bndP (cutHead 45 s.data.toList)), .int .i64 (bndP (cutTail 45 s.data.toList))], .bool (numB (cutHead 45 s.data.toList) && numB (cutTail 45 s.data.toList) && ltB (cutHead 45 s.data.toList) (cutTail 45 s.data.toList))]) ∧ Below w.heap.size w w' := by
  obtain ⟨m, hmx⟩ := g.mx
  have hC := fun w hm => Tryz.strings_Cut s ⟨#[45]⟩ m w hs hm
  rw [cut_yes h] at hC
  obtain ⟨Hd, hHd⟩ : ∃ Hd : ByteArray, (⟨(cutHead 45 s.data.toList).toArray⟩ : ByteArray) = Hd := ⟨_, rfl⟩
  obtain ⟨Tl, hTl⟩ : ∃ Tl : ByteArray, (⟨(cutTail 45 s.data.toList).toArray⟩ : ByteArray) = Tl := ⟨_, rfl⟩
  have e1 : cutHead 45 s.data.toList = Hd.data.toList := by rw [← hHd]
  have e2 : cutTail 45 s.data.toList = Tl.data.toList := by rw [← hTl]
  have l1 : Hd.size ≤ s.size := by have := cutHead_len 45 s.data.toList; rw [e1, size_len, size_len] at this; exact this
  have l2 : Tl.size ≤ s.size := by have := cutTail_len 45 s.data.toList; rw [e2, size_len, size_len] at this; exact this
  simp only [hHd, hTl] at hC
  rw [e1, e2]
  clear hHd hTl e1 e2 h
  have m1 : Hd.size ≤ maxLen := by unfold maxLen; omega
  have m2 : Tl.size ≤ maxLen := by unfold maxLen; omega
  have hN1 := fun w => isNumeral_any Hd w m1
  have hN2 := fun w => isNumeral_any Tl w m2
  have hL := fun w => comesFirst_any Hd Tl w
  obtain ⟨x, hx⟩ : ∃ x, bndP Hd.data.toList = x := ⟨_, rfl⟩
  obtain ⟨y, hy⟩ : ∃ y, bndP Tl.data.toList = y := ⟨_, rfl⟩
  have hB1 := fun w g => bounded_any Hd w g (by omega)
  have hB2 := fun w g => bounded_any Tl w g (by omega)
  rw [hx] at hB1 ⊢
  rw [hy] at hB2 ⊢
  generalize numB Hd.data.toList = A at *
  generalize numB Tl.data.toList = B at *
  generalize ltB Hd.data.toList Tl.data.toList = C at *
  clear hx hy
  have g0 : Glob (w.alloc (.cells #[.int .i64 0, .int .i64 0, .int .i64 0] 55)) := g.next ((Below.refl _ _).alloc (Nat.le_refl _) _)
  have hC0 := hC _ ((((Below.refl w.heap.size w).alloc (Nat.le_refl _) (.cells #[.int .i64 0, .int .i64 0, .int .i64 0] 55)).cell (p := ⟨1, 0, none⟩) (by have := g.sz; show 1 < _; omega)).trans hmx)
  clear hmx hC
  have fin : ∀ (n : Nat) (w1 w2 : World), Below (w.heap.size + 1) ((w.alloc (.cells #[.int .i64 0, .int .i64 0, .int .i64 0] 55)).drewN n) w1 → Below w1.heap.size w1 w2 → Below (w.heap.size + 1) (w.alloc (.cells #[.int .i64 0, .int .i64 0, .int .i64 0] 55)) w2 := fun n w1 w2 h1 h2 =>
    (below_drewN (Below.refl _ _) n).trans (h1.trans (h2.mono (by have := h1.size; simp at this; omega)))
  cases A with
  | false =>
    go_enter Tryz.func45, Tryz.ntmps45
    go_wp2_with fail
    refine hC0.mono ?_
    rintro e w' ⟨rfl, n, rfl⟩
    go_wp2_with fail
    refine (hN1 _).mono ?_
    rintro e w' ⟨rfl, rfl⟩
    go_wp2_with fail
    refine (hB1 _ (g0.drewN n)).mono ?_
    rintro e w1 ⟨rfl, hb1⟩
    go_wp2_with fail
    refine (hB2 _ ((g0.drewN n).next hb1)).mono ?_
    rintro e w2 ⟨rfl, hb2⟩
    have hbb := fin n w1 w2 (hb1.mono (by simp)) hb2
    obtain ⟨hc, hf⟩ := bcell' hbb
    have hz : w.heap.size < w2.heap.size := by have := hbb.size; simp at this; omega
    go_wp2_with fail
    refine bodyPost_ret (v := .tuple #[.agg #[.int .i64 1, .int .i64 x, .int .i64 y], .bool false]) (by simp [results, Tryz.results45, go_sem, hc]) rfl ⟨rfl, ?_⟩
    exact ((((((Below.refl _ w).alloc (Nat.le_refl _) _).trans (hbb.mono (Nat.le_succ _)))).setCell (by exact Nat.le_refl _) _).setCell (by exact Nat.le_refl _) _).setCell (by exact Nat.le_refl _) _
  | true =>
    cases B with
    | false =>
      go_enter Tryz.func45, Tryz.ntmps45
      go_wp2_with fail
      refine hC0.mono ?_
      rintro e w' ⟨rfl, n, rfl⟩
      go_wp2_with fail
      refine (hN1 _).mono ?_
      rintro e w' ⟨rfl, rfl⟩
      go_wp2_with fail
      refine (hN2 _).mono ?_
      rintro e w' ⟨rfl, rfl⟩
      go_wp2_with fail
      refine (hB1 _ (g0.drewN n)).mono ?_
      rintro e w1 ⟨rfl, hb1⟩
      go_wp2_with fail
      refine (hB2 _ ((g0.drewN n).next hb1)).mono ?_
      rintro e w2 ⟨rfl, hb2⟩
      have hbb := fin n w1 w2 (hb1.mono (by simp)) hb2
      obtain ⟨hc, hf⟩ := bcell' hbb
      have hz : w.heap.size < w2.heap.size := by have := hbb.size; simp at this; omega
      go_wp2_with fail
      refine bodyPost_ret (v := .tuple #[.agg #[.int .i64 1, .int .i64 x, .int .i64 y], .bool false]) (by simp [results, Tryz.results45, go_sem, hc]) rfl ⟨rfl, ?_⟩
      exact ((((((Below.refl _ w).alloc (Nat.le_refl _) _).trans (hbb.mono (Nat.le_succ _)))).setCell (by exact Nat.le_refl _) _).setCell (by exact Nat.le_refl _) _).setCell (by exact Nat.le_refl _) _
    | true =>
      go_enter Tryz.func45, Tryz.ntmps45
      go_wp2_with fail
      refine hC0.mono ?_
      rintro e w' ⟨rfl, n, rfl⟩
      go_wp2_with fail
      refine (hN1 _).mono ?_
      rintro e w' ⟨rfl, rfl⟩
      go_wp2_with fail
      refine (hN2 _).mono ?_
      rintro e w' ⟨rfl, rfl⟩
      go_wp2_with fail
      refine (hL _).mono ?_
      rintro e w' ⟨rfl, rfl⟩
      go_wp2_with fail
      refine (hB1 _ (g0.drewN n)).mono ?_
      rintro e w1 ⟨rfl, hb1⟩
      go_wp2_with fail
      refine (hB2 _ ((g0.drewN n).next hb1)).mono ?_
      rintro e w2 ⟨rfl, hb2⟩
      have hbb := fin n w1 w2 (hb1.mono (by simp)) hb2
      obtain ⟨hc, hf⟩ := bcell' hbb
      have hz : w.heap.size < w2.heap.size := by have := hbb.size; simp at this; omega
      go_wp2_with fail
      refine bodyPost_ret (v := .tuple #[.agg #[.int .i64 1, .int .i64 x, .int .i64 y], .bool C]) (by simp [results, Tryz.results45, go_sem, hc]) rfl ⟨rfl, ?_⟩
      exact ((((((Below.refl _ w).alloc (Nat.le_refl _) _).trans (hbb.mono (Nat.le_succ _)))).setCell (by exact Nat.le_refl _) _).setCell (by exact Nat.le_refl _) _).setCell (by exact Nat.le_refl _) _

theorem Cut_yes (s : ByteArray) (c : UInt8) (w : World) (g : Glob w) (hs : s.size < 4294967281) (h : Lib.contains s.data.toList [c] = true) :
    Calls Tryz.prog 63 #[.string s, .string ⟨#[c]⟩] w fun e w' => e = .returned (.tuple #[.string ⟨(cutHead c s.data.toList).toArray⟩, .string ⟨(cutTail c s.data.toList).toArray⟩, .bool true]) ∧ ∃ n, w' = w.drewN n := by
  obtain ⟨m, hmx⟩ := g.mx
  have hC := Tryz.strings_Cut s ⟨#[c]⟩ m w hs hmx
  rw [cut_yes h] at hC
  exact hC
theorem Cut_no (s : ByteArray) (c : UInt8) (w : World) (g : Glob w) (hs : s.size < 4294967281) (h : Lib.contains s.data.toList [c] = false) :
    Calls Tryz.prog 63 #[.string s, .string ⟨#[c]⟩] w fun e w' => e = .returned (.tuple #[.string s, .string ⟨#[]⟩, .bool false]) ∧ ∃ n, w' = w.drewN n := by
  obtain ⟨m, hmx⟩ := g.mx
  have hC := Tryz.strings_Cut s ⟨#[c]⟩ m w hs hmx
  rw [cut_no h] at hC
  exact hC
abbrev W0 (w : World) : World := w.alloc (.cells #[.int .i64 0, .int .i64 0, .int .i64 0] 55)
theorem W0_glob {w : World} (g : Glob w) : Glob (w.alloc (.cells #[.int .i64 0, .int .i64 0, .int .i64 0] 55)) := g.next ((Below.refl _ _).alloc (Nat.le_refl _) _)

set_option maxHeartbeats 2000000 in
theorem parseItem_times (s : ByteArray) (w : World) (g : Glob w) (hs : s.size < 4294967281) (h0 : Lib.contains s.data.toList [45] = false) (h : Lib.contains s.data.toList [120] = true) :
    Calls Tryz.prog 45 #[.string s] w fun e w' => e = .returned (.tuple #[.agg #[.int .i64 (bndP (cutHead 120 s.data.toList)), .int .i64 (bndP (cutTail 120 s.data.toList)), .int .i64 (bndP (cutTail 120 s.data.toList))], .bool (numB (cutHead 120 s.data.toList) && numB (cutTail 120 s.data.toList) && ltB [49] (cutHead 120 s.data.toList))]) ∧ Below w.heap.size w w' := by
  have hC1 := fun w g => Cut_no s 45 w g hs h0
  have hC2 := fun w g => Cut_yes s 120 w g hs h
  obtain ⟨Hd, hHd⟩ : ∃ Hd : ByteArray, (⟨(cutHead 120 s.data.toList).toArray⟩ : ByteArray) = Hd := ⟨_, rfl⟩
  obtain ⟨Tl, hTl⟩ : ∃ Tl : ByteArray, (⟨(cutTail 120 s.data.toList).toArray⟩ : ByteArray) = Tl := ⟨_, rfl⟩
  have e1 : cutHead 120 s.data.toList = Hd.data.toList := by rw [← hHd]
  have e2 : cutTail 120 s.data.toList = Tl.data.toList := by rw [← hTl]
  have l1 : Hd.size ≤ s.size := by have := cutHead_len 120 s.data.toList; rw [e1, size_len, size_len] at this; exact this
  have l2 : Tl.size ≤ s.size := by have := cutTail_len 120 s.data.toList; rw [e2, size_len, size_len] at this; exact this
  simp only [hHd, hTl] at hC2
  rw [e1, e2]
  clear hHd hTl e1 e2 h h0
  have m1 : Hd.size ≤ maxLen := by unfold maxLen; omega
  have m2 : Tl.size ≤ maxLen := by unfold maxLen; omega
  have hN1 := fun w => isNumeral_any Hd w m1
  have hN2 := fun w => isNumeral_any Tl w m2
  have hL := fun w => comesFirst_any ⟨#[49]⟩ Hd w
  obtain ⟨x, hx⟩ : ∃ x, bndP Hd.data.toList = x := ⟨_, rfl⟩
  obtain ⟨y, hy⟩ : ∃ y, bndP Tl.data.toList = y := ⟨_, rfl⟩
  have hB1 := fun w g => bounded_any Hd w g (by omega)
  have hB2 := fun w g => bounded_any Tl w g (by omega)
  rw [hx] at hB1 ⊢
  rw [hy] at hB2 ⊢
  generalize numB Hd.data.toList = A at *
  generalize numB Tl.data.toList = B at *
  rw [show ltB [49] Hd.data.toList = ltB (ByteArray.mk #[49]).data.toList Hd.data.toList from rfl]
  generalize ltB (ByteArray.mk #[49]).data.toList Hd.data.toList = C at *
  clear hx hy
  have g0 := W0_glob g
  have fin : ∀ (n : Nat) (w1 w2 w3 : World), Below (w.heap.size + 1) ((w.alloc (.cells #[.int .i64 0, .int .i64 0, .int .i64 0] 55)).drewN n) w1 → Below w1.heap.size w1 w2 → Below w2.heap.size w2 w3 → Below (w.heap.size + 1) (w.alloc (.cells #[.int .i64 0, .int .i64 0, .int .i64 0] 55)) w3 := fun n w1 w2 w3 h1 h2 h3 =>
    have hs1 : w.heap.size + 1 ≤ w1.heap.size := by have := h1.size; simp at this; omega
    (below_drewN (Below.refl _ _) n).trans (h1.trans ((h2.mono hs1).trans (h3.mono (Nat.le_trans hs1 h2.size))))
  cases A with
  | false =>
    go_enter Tryz.func45, Tryz.ntmps45
    go_wp2_with fail
    refine (hC1 _ g0).mono ?_
    rintro e w' ⟨rfl, n, rfl⟩
    go_wp2_with fail
    refine (hC2 _ (g0.drewN n)).mono ?_
    rintro e w' ⟨rfl, n', rfl⟩
    go_wp2_with fail
    refine (hN1 _).mono ?_
    rintro e w' ⟨rfl, rfl⟩
    go_wp2_with fail
    refine (hB1 _ (g0.drewN (n + n'))).mono ?_
    rintro e w1 ⟨rfl, hb1⟩
    go_wp2_with fail
    refine (hB2 _ ((g0.drewN (n + n')).next hb1)).mono ?_
    rintro e w2 ⟨rfl, hb2⟩
    go_wp2_with fail
    refine (hB2 _ (((g0.drewN (n + n')).next hb1).next hb2)).mono ?_
    rintro e w3 ⟨rfl, hb3⟩
    have hbb := fin (n + n') w1 w2 w3 (hb1.mono (by simp)) hb2 hb3
    obtain ⟨hc, hf⟩ := bcell' hbb
    have hz : w.heap.size < w3.heap.size := by have := hbb.size; simp at this; omega
    go_wp2_with fail
    refine bodyPost_ret (v := .tuple #[.agg #[.int .i64 x, .int .i64 y, .int .i64 y], .bool false]) (by simp [results, Tryz.results45, go_sem, hc]) rfl ⟨rfl, ?_⟩
    exact ((((((Below.refl _ w).alloc (Nat.le_refl _) _).trans (hbb.mono (Nat.le_succ _)))).setCell (by exact Nat.le_refl _) _).setCell (by exact Nat.le_refl _) _).setCell (by exact Nat.le_refl _) _
  | true =>
    cases B with
    | false =>
      go_enter Tryz.func45, Tryz.ntmps45
      go_wp2_with fail
      refine (hC1 _ g0).mono ?_
      rintro e w' ⟨rfl, n, rfl⟩
      go_wp2_with fail
      refine (hC2 _ (g0.drewN n)).mono ?_
      rintro e w' ⟨rfl, n', rfl⟩
      go_wp2_with fail
      refine (hN1 _).mono ?_
      rintro e w' ⟨rfl, rfl⟩
      go_wp2_with fail
      refine (hN2 _).mono ?_
      rintro e w' ⟨rfl, rfl⟩
      go_wp2_with fail
      refine (hB1 _ (g0.drewN (n + n'))).mono ?_
      rintro e w1 ⟨rfl, hb1⟩
      go_wp2_with fail
      refine (hB2 _ ((g0.drewN (n + n')).next hb1)).mono ?_
      rintro e w2 ⟨rfl, hb2⟩
      go_wp2_with fail
      refine (hB2 _ (((g0.drewN (n + n')).next hb1).next hb2)).mono ?_
      rintro e w3 ⟨rfl, hb3⟩
      have hbb := fin (n + n') w1 w2 w3 (hb1.mono (by simp)) hb2 hb3
      obtain ⟨hc, hf⟩ := bcell' hbb
      have hz : w.heap.size < w3.heap.size := by have := hbb.size; simp at this; omega
      go_wp2_with fail
      refine bodyPost_ret (v := .tuple #[.agg #[.int .i64 x, .int .i64 y, .int .i64 y], .bool false]) (by simp [results, Tryz.results45, go_sem, hc]) rfl ⟨rfl, ?_⟩
      exact ((((((Below.refl _ w).alloc (Nat.le_refl _) _).trans (hbb.mono (Nat.le_succ _)))).setCell (by exact Nat.le_refl _) _).setCell (by exact Nat.le_refl _) _).setCell (by exact Nat.le_refl _) _
    | true =>
      go_enter Tryz.func45, Tryz.ntmps45
      go_wp2_with fail
      refine (hC1 _ g0).mono ?_
      rintro e w' ⟨rfl, n, rfl⟩
      go_wp2_with fail
      refine (hC2 _ (g0.drewN n)).mono ?_
      rintro e w' ⟨rfl, n', rfl⟩
      go_wp2_with fail
      refine (hN1 _).mono ?_
      rintro e w' ⟨rfl, rfl⟩
      go_wp2_with fail
      refine (hN2 _).mono ?_
      rintro e w' ⟨rfl, rfl⟩
      go_wp2_with fail
      refine (hL _).mono ?_
      rintro e w' ⟨rfl, rfl⟩
      go_wp2_with fail
      refine (hB1 _ (g0.drewN (n + n'))).mono ?_
      rintro e w1 ⟨rfl, hb1⟩
      go_wp2_with fail
      refine (hB2 _ ((g0.drewN (n + n')).next hb1)).mono ?_
      rintro e w2 ⟨rfl, hb2⟩
      go_wp2_with fail
      refine (hB2 _ (((g0.drewN (n + n')).next hb1).next hb2)).mono ?_
      rintro e w3 ⟨rfl, hb3⟩
      have hbb := fin (n + n') w1 w2 w3 (hb1.mono (by simp)) hb2 hb3
      obtain ⟨hc, hf⟩ := bcell' hbb
      have hz : w.heap.size < w3.heap.size := by have := hbb.size; simp at this; omega
      go_wp2_with fail
      refine bodyPost_ret (v := .tuple #[.agg #[.int .i64 x, .int .i64 y, .int .i64 y], .bool C]) (by simp [results, Tryz.results45, go_sem, hc]) rfl ⟨rfl, ?_⟩
      exact ((((((Below.refl _ w).alloc (Nat.le_refl _) _).trans (hbb.mono (Nat.le_succ _)))).setCell (by exact Nat.le_refl _) _).setCell (by exact Nat.le_refl _) _).setCell (by exact Nat.le_refl _) _

set_option maxHeartbeats 2000000 in
theorem parseItem_one (s : ByteArray) (w : World) (g : Glob w) (hs : s.size < 4294967281) (h0 : Lib.contains s.data.toList [45] = false) (h : Lib.contains s.data.toList [120] = false) :
    Calls Tryz.prog 45 #[.string s] w fun e w' => e = .returned (.tuple #[.agg #[.int .i64 1, .int .i64 (bndP s.data.toList), .int .i64 (bndP s.data.toList)], .bool (numB s.data.toList)]) ∧ Below w.heap.size w w' := by
  have hC1 := fun w g => Cut_no s 45 w g hs h0
  have hC2 := fun w g => Cut_no s 120 w g hs h
  clear h h0
  have hN1 := fun w => isNumeral_any s w (by unfold maxLen; omega)
  obtain ⟨x, hx⟩ : ∃ x, bndP s.data.toList = x := ⟨_, rfl⟩
  have hB1 := fun w g => bounded_any s w g (by omega)
  rw [hx] at hB1 ⊢
  generalize numB s.data.toList = A at *
  clear hx
  have g0 := W0_glob g
  have fin : ∀ (n : Nat) (w1 w2 : World), Below (w.heap.size + 1) ((w.alloc (.cells #[.int .i64 0, .int .i64 0, .int .i64 0] 55)).drewN n) w1 → Below w1.heap.size w1 w2 → Below (w.heap.size + 1) (w.alloc (.cells #[.int .i64 0, .int .i64 0, .int .i64 0] 55)) w2 := fun n w1 w2 h1 h2 =>
    have hs1 : w.heap.size + 1 ≤ w1.heap.size := by have := h1.size; simp at this; omega
    (below_drewN (Below.refl _ _) n).trans (h1.trans (h2.mono hs1))
  go_enter Tryz.func45, Tryz.ntmps45
  go_wp2_with fail
  refine (hC1 _ g0).mono ?_
  rintro e w' ⟨rfl, n, rfl⟩
  go_wp2_with fail
  refine (hC2 _ (g0.drewN n)).mono ?_
  rintro e w' ⟨rfl, n', rfl⟩
  go_wp2_with fail
  refine (hB1 _ (g0.drewN (n + n'))).mono ?_
  rintro e w1 ⟨rfl, hb1⟩
  go_wp2_with fail
  refine (hB1 _ ((g0.drewN (n + n')).next hb1)).mono ?_
  rintro e w2 ⟨rfl, hb2⟩
  go_wp2_with fail
  refine (hN1 _).mono ?_
  rintro e w3 ⟨rfl, rfl⟩
  have hbb := fin (n + n') w1 w2 (hb1.mono (by simp)) hb2
  obtain ⟨hc, hf⟩ := bcell' hbb
  have hz : w.heap.size < w2.heap.size := by have := hbb.size; simp at this; omega
  go_wp2_with fail
  refine bodyPost_ret (v := .tuple #[.agg #[.int .i64 1, .int .i64 x, .int .i64 x], .bool A]) (by simp [results, Tryz.results45, go_sem, hc]) rfl ⟨rfl, ?_⟩
  exact ((((((Below.refl _ w).alloc (Nat.le_refl _) _).trans (hbb.mono (Nat.le_succ _)))).setCell (by exact Nat.le_refl _) _).setCell (by exact Nat.le_refl _) _).setCell (by exact Nat.le_refl _) _

theorem parseItem_any (s : ByteArray) (w : World) (g : Glob w) (hs : s.size < 4294967281) :
    Calls Tryz.prog 45 #[.string s] w fun e w' => e = .returned (.tuple #[.agg #[.int .i64 (itmP s.data.toList).1.1, .int .i64 (itmP s.data.toList).1.2.1, .int .i64 (itmP s.data.toList).1.2.2], .bool (itmP s.data.toList).2]) ∧ Below w.heap.size w w' := by
  unfold itmP
  cases h1 : Lib.contains s.data.toList [45] with
  | true => exact parseItem_range s w g hs h1
  | false =>
    cases h2 : Lib.contains s.data.toList [120] with
    | true => exact parseItem_times s w g hs h1 h2
    | false => exact parseItem_one s w g hs h1 h2
end Go.Proofs.YtkbmdmipdcjjcaaGreatDoor
