/- Unquote, readField of package words. -/
import Derived.Test.YtkbmdmipdcjjcaaGreatDoorF
namespace Go.Proofs.YtkbmdmipdcjjcaaGreatDoor
open Go.RowKit

def unqT (l : List UInt8) : List UInt8 := Lib.replaceAll ((l.drop 1).take (l.length - 2)) [34, 34] [34]
def unqB (l : List UInt8) : Bool := decide (2 ≤ l.length) && textB (unqT l) && (quoteL (unqT l) == l)

theorem replaceK_len (k : Nat) : ∀ l : List UInt8, (Lib.replaceK [34, 34] [34] k l).length ≤ l.length := by
  induction k with
  | zero => intro l; exact Nat.le_refl _
  | succ k ih =>
    intro l
    rcases Int.lt_or_le (Lib.index l [34, 34]) 0 with hm | hp
    · have hi : Lib.index l [34, 34] = -1 := by have := Lib.index_ge l [34, 34]; omega
      simp [Lib.replaceK, hi]
    · obtain ⟨i, hi⟩ : ∃ i : Nat, Lib.index l [34, 34] = i := ⟨(Lib.index l [34, 34]).toNat, by omega⟩
      have hroom := Lib.index_room l [34, 34] hp
      rw [Lib.replaceK_hit _ _ _ _ _ hi]
      have := ih (l.drop (i + [34, 34].length))
      rw [hi] at hroom
      simp at this hroom ⊢
      omega
theorem unqT_len (l : List UInt8) : (unqT l).length ≤ l.length := by
  unfold unqT Lib.replaceAll Lib.replace
  rw [if_neg (by simp)]
  refine Nat.le_trans (replaceK_len _ _) ?_
  rw [List.length_take, List.length_drop]
  omega

theorem ext_mid (s : ByteArray) (h : 2 ≤ s.size) : s.extract 1 (s.size - 1) = ⟨((s.data.toList.drop 1).take (s.data.toList.length - 2)).toArray⟩ := by
  rw [Lib.extract_eq, size_len, show s.size - 1 - 1 = s.size - 2 by omega]

set_option maxHeartbeats 1000000 in
theorem Unquote_yes (s : ByteArray) (w : World) (g : Glob w) (hs : s.size < 4294967281) (h : unqB s.data.toList = true) :
    Calls Tryz.prog 52 #[.string s] w fun e w' => e = .returned (.tuple #[.string ⟨(unqT s.data.toList).toArray⟩, .int .i64 0]) ∧ Below w.heap.size w w' := by
  obtain ⟨⟨h2, hT⟩, hq⟩ : (2 ≤ s.size ∧ textB (unqT s.data.toList) = true) ∧ quoteL (unqT s.data.toList) = s.data.toList := by
    unfold unqB at h; rw [size_len] at h; simpa using h
  obtain ⟨m, hmx⟩ := g.mx
  obtain ⟨T, hTd⟩ : ∃ T : ByteArray, (⟨(unqT s.data.toList).toArray⟩ : ByteArray) = T := ⟨_, rfl⟩
  have hTl : T.data.toList = unqT s.data.toList := by rw [← hTd]
  have hTs : T.size ≤ s.size := by have := unqT_len s.data.toList; rw [← hTl, size_len, size_len] at this; exact this
  obtain ⟨M, hM⟩ : ∃ M : ByteArray, s.extract 1 (s.size - 1) = M := ⟨_, rfl⟩
  have hMs : M.size ≤ s.size := by rw [← hM]; simp; omega
  have hc : Lib.countB M ⟨#[34, 34]⟩ ≤ M.size := Lib.countB_le ⟨#[34, 34]⟩ (by decide) _ M (Nat.le_refl _)
  have hr := Tryz.strings_ReplaceAll M ⟨#[34, 34]⟩ ⟨#[34]⟩ m w (by omega) hmx (by decide) (by show M.size + Lib.countB M ⟨#[34, 34]⟩ * 1 ≤ _; omega)
  have hMl : M.data.toList = (s.data.toList.drop 1).take (s.data.toList.length - 2) := by rw [← hM, ext_mid s h2]
  rw [show Lib.replaceAll M.data.toList (ByteArray.mk #[34, 34]).data.toList (ByteArray.mk #[34]).data.toList = unqT s.data.toList from by rw [hMl]; rfl, hTd, ← hM] at hr
  rw [hTd]
  rw [← hTl] at hT hq
  have hTm : T.size ≤ maxLen := by unfold maxLen; omega
  have hQ : (⟨(quoteL T.data.toList).toArray⟩ : ByteArray) = s := by rw [hq]
  have hx1 : (s.size : Int) - 1 = ((s.size - 1 : Nat) : Int) := by omega
  clear hmx hMl hTl hTd hq hc h
  have HM := Lib.hid hM; clear hM
  have HQ := Lib.hid hQ; clear hQ
  have HT := Lib.hid hT; clear hT
  have Hx := Lib.hid hx1; clear hx1
  go_enter Tryz.func52, Tryz.ntmps52
  go_wp2_with fail
  refine hr.mono ?_
  rintro e w1 ⟨rfl, hb1⟩
  go_wp2_with fail
  refine (Clone_any T _ (by omega)).mono ?_
  rintro e w2 ⟨rfl, hb2⟩
  go_wp2_with fail
  refine (Text_any T _ hTm).mono ?_
  rw [HT.out]
  rintro e w3 ⟨rfl, rfl⟩
  go_wp2_with fail
  refine (quotation_any T _ ((g.next hb1).next hb2) (by omega)).mono ?_
  rw [HQ.out]
  rintro e w3 ⟨rfl, hb3⟩
  go_wp2_with fail
  go_ret2
  exact ⟨rfl, hb1.trans ((hb2.mono hb1.size).trans (hb3.mono (Nat.le_trans hb1.size hb2.size)))⟩

set_option maxHeartbeats 400000 in
theorem Unquote_short (s : ByteArray) (w : World) (h : s.size < 2) :
    Calls Tryz.prog 52 #[.string s] w fun e w' => e = .returned (.tuple #[.string ⟨#[]⟩, .int .i64 6]) ∧ Below w.heap.size w w' := by
  go_enter Tryz.func52, Tryz.ntmps52
  go_wp2_with fail
  go_ret2
  exact ⟨rfl, Below.refl _ _⟩

set_option maxHeartbeats 1000000 in
theorem Unquote_no (s : ByteArray) (w : World) (g : Glob w) (hs : s.size < 4294967281) (h : unqB s.data.toList = false) :
    Calls Tryz.prog 52 #[.string s] w fun e w' => e = .returned (.tuple #[.string ⟨#[]⟩, .int .i64 6]) ∧ Below w.heap.size w w' := by
  by_cases h2 : s.size < 2
  · exact Unquote_short s w h2
  have h2' : 2 ≤ s.size := by omega
  obtain ⟨m, hmx⟩ := g.mx
  obtain ⟨T, hTd⟩ : ∃ T : ByteArray, (⟨(unqT s.data.toList).toArray⟩ : ByteArray) = T := ⟨_, rfl⟩
  have hTl : T.data.toList = unqT s.data.toList := by rw [← hTd]
  have hTs : T.size ≤ s.size := by have := unqT_len s.data.toList; rw [← hTl, size_len, size_len] at this; exact this
  have hTQ : textB T.data.toList = false ∨ (textB T.data.toList = true ∧ (quoteL T.data.toList == s.data.toList) = false) := by
    unfold unqB at h; rw [size_len, ← hTl] at h
    cases hTT : textB T.data.toList
    · exact Or.inl rfl
    · simp [h2', hTT] at h; exact Or.inr ⟨rfl, by simpa using h⟩
  obtain ⟨M, hM⟩ : ∃ M : ByteArray, s.extract 1 (s.size - 1) = M := ⟨_, rfl⟩
  have hMs : M.size ≤ s.size := by rw [← hM]; simp; omega
  have hc : Lib.countB M ⟨#[34, 34]⟩ ≤ M.size := Lib.countB_le ⟨#[34, 34]⟩ (by decide) _ M (Nat.le_refl _)
  have hr := Tryz.strings_ReplaceAll M ⟨#[34, 34]⟩ ⟨#[34]⟩ m w (by omega) hmx (by decide) (by show M.size + Lib.countB M ⟨#[34, 34]⟩ * 1 ≤ _; omega)
  have hMl : M.data.toList = (s.data.toList.drop 1).take (s.data.toList.length - 2) := by rw [← hM, ext_mid s h2']
  rw [show Lib.replaceAll M.data.toList (ByteArray.mk #[34, 34]).data.toList (ByteArray.mk #[34]).data.toList = unqT s.data.toList from by rw [hMl]; rfl, hTd, ← hM] at hr
  have hTm : T.size ≤ maxLen := by unfold maxLen; omega
  clear hmx hMl hTl hTd hc h h2
  have HM := Lib.hid hM; clear hM
  have HTQ := Lib.hid hTQ; clear hTQ
  go_enter Tryz.func52, Tryz.ntmps52
  go_wp2_with fail
  refine hr.mono ?_
  rintro e w1 ⟨rfl, hb1⟩
  go_wp2_with fail
  refine (Clone_any T _ (by omega)).mono ?_
  rintro e w2 ⟨rfl, hb2⟩
  go_wp2_with fail
  refine (Text_any T _ hTm).mono ?_
  rcases HTQ.out with hx | ⟨hx, hy⟩
  · rw [hx]
    clear hx
    rintro e w3 ⟨rfl, rfl⟩
    go_wp2_with fail
    go_ret2
    exact ⟨rfl, hb1.trans (hb2.mono hb1.size)⟩
  · rw [hx]
    have Hy := Lib.hid hy
    clear hx hy
    rintro e w3 ⟨rfl, rfl⟩
    go_wp2_with fail
    refine (quotation_any T _ ((g.next hb1).next hb2) (by omega)).mono ?_
    rintro e w3 ⟨rfl, hb3⟩
    have hy2 : (!(quoteL T.data.toList == s.toList)) = true := by rw [toList_data, Hy.out]; rfl
    go_wp2_with fail
    go_ret2
    exact ⟨rfl, hb1.trans ((hb2.mono hb1.size).trans (hb3.mono (Nat.le_trans hb1.size hb2.size)))⟩
end Go.Proofs.YtkbmdmipdcjjcaaGreatDoor
