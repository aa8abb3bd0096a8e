/- What the package-level variables hold (Glob), kept by whatever only makes new memory; contracts of quotation, Quote, Unquote, strings.Clone. Conditions: Glob, sizes of strings. -/
import Derived.Test.YtkbmdmipdcjjcaaGreatDoorB
import Derived.Test.YtkbmdmipdcjjcaaGreatDoorM
import Derived.Test.YtkbmdmipdcjjcaaGreatDoorShelf
import Derived.WalkSmall
namespace Go.Proofs.YtkbmdmipdcjjcaaGreatDoor
open Go.RowKit

structure Glob (w : World) : Prop where
  dig : ∀ k : Nat, k < 10 → w.cell? ⟨0, k, none⟩ = some (.int .u8 (48 + (k : Int)))
  mx : ∃ m : Int, w.cell? ⟨1, 0, none⟩ = some (.int .i64 m)
  er : ∃ (t : TypeId) (p : Value), w.var? Tryz.prog "strconv.ErrRange" = some #[.iface t p]
  sz : 9 ≤ w.heap.size

theorem gER : Tryz.prog.globalNamed "strconv.ErrRange" = some 5 := by kernel_rfl
theorem Glob.below {B : Nat} {w w' : World} (g : Glob w) (h : Below B w w') (hB : 9 ≤ B) : Glob w' where
  dig k hk := by rw [h.cell (p := ⟨0, k, none⟩) (by show 0 < B; omega)]; exact g.dig k hk
  mx := by obtain ⟨m, hm⟩ := g.mx; exact ⟨m, by rw [h.cell (p := ⟨1, 0, none⟩) (by show 1 < B; omega)]; exact hm⟩
  er := by
    obtain ⟨t, p, he⟩ := g.er
    exact ⟨t, p, var?_below h gER (by show 5 < B; omega) he⟩
  sz := Nat.le_trans g.sz h.size
theorem Glob.next {w w' : World} (g : Glob w) (h : Below w.heap.size w w') : Glob w' := g.below h g.sz

def quoteL (l : List UInt8) : List UInt8 := 34 :: (dblL l ++ [34])
theorem retS {a b : List UInt8} (h : a = b) : Ending.returned (.string ⟨a.toArray⟩) = .returned (.string ⟨b.toArray⟩) := by rw [h]
theorem dblL_cons (b : UInt8) (l : List UInt8) : dblL (b :: l) = (if b = 34 then [34, 34] else [b]) ++ dblL l := by simp [dblL]
theorem dblL_length : ∀ l : List UInt8, (dblL l).length ≤ 2 * l.length
  | [] => by simp [dblL]
  | b :: l => by
    have := dblL_length l
    rw [dblL_cons, List.length_append, List.length_cons]
    split <;> simp <;> omega

set_option maxHeartbeats 400000 in
theorem quotation_any (s : ByteArray) (w : World) (g : Glob w) (hs : s.size < 4294967281) :
    Calls Tryz.prog 40 #[.string s] w fun e w' => e = .returned (.string ⟨(quoteL s.data.toList).toArray⟩) ∧ Below w.heap.size w w' := by
  obtain ⟨m, hm⟩ := g.mx
  have hc : Lib.countB s ⟨#[34]⟩ ≤ s.size := Lib.countB_le ⟨#[34]⟩ (by decide) _ s (Nat.le_refl _)
  have hr := Tryz.strings_ReplaceAll s ⟨#[34]⟩ ⟨#[34, 34]⟩ m w hs hm (by decide) (by show s.size + Lib.countB s ⟨#[34]⟩ * 2 ≤ _; omega)
  rw [show Lib.replaceAll s.data.toList (ByteArray.mk #[34]).data.toList (ByteArray.mk #[34, 34]).data.toList = dblL s.data.toList from replaceAll_dbl _] at hr
  have hl := dblL_length s.data.toList
  rw [size_len] at hl
  clear hm
  go_enter Tryz.func40, Tryz.ntmps40
  go_wp2_with (go_at_call 58; refine hr.mono ?_; rintro e w' ⟨rfl, hb⟩)
  go_ret
  exact ⟨by simp [quoteL]; rfl, hb⟩

set_option maxHeartbeats 400000 in
theorem Clone_any (s : ByteArray) (w : World) (hs : s.size ≤ 281474976710656) :
    Calls Tryz.prog 53 #[.string s] w fun e w' => e = .returned (.string s) ∧ Below w.heap.size w w' := by
  go_enter Tryz.func53, Tryz.ntmps53
  go_wp2_with (go_at_call 67; refine (Tryz.stringslite_Clone _ _ hs).mono ?_; rintro e w' ⟨rfl, hb⟩)
  go_ret
  exact ⟨rfl, hb⟩

set_option maxHeartbeats 400000 in
theorem Quote_yes (s : ByteArray) (w : World) (g : Glob w) (hs : s.size < 4294967281) (h : textB s.data.toList = true) :
    Calls Tryz.prog 18 #[.string s] w fun e w' => e = .returned (.tuple #[.string ⟨(quoteL s.data.toList).toArray⟩, .int .i64 0]) ∧ Below w.heap.size w w' := by
  have hm : s.size ≤ maxLen := by unfold maxLen; omega
  go_enter Tryz.func18, Tryz.ntmps18
  go_wp2_with (first
    | (go_at_call 39; refine (Text_any _ _ hm).mono ?_; rintro e w' ⟨rfl, rfl⟩)
    | (go_at_call 40; refine (quotation_any _ _ g hs).mono ?_; rintro e w' ⟨rfl, hb⟩))
  go_ret2
  exact ⟨rfl, hb⟩

set_option maxHeartbeats 400000 in
theorem Quote_no (s : ByteArray) (w : World) (hs : s.size ≤ maxLen) (h : textB s.data.toList = false) :
    Calls Tryz.prog 18 #[.string s] w fun e w' => e = .returned (.tuple #[.string ⟨#[]⟩, .int .i64 2]) ∧ w = w' := by
  go_enter Tryz.func18, Tryz.ntmps18
  go_wp2_with (go_at_call 39; refine (Text_any _ _ hs).mono ?_; rintro e w' ⟨rfl, rfl⟩)
  go_ret2
  exact ⟨rfl, rfl⟩

theorem extract_one {s : ByteArray} {k : Nat} (h : k < s.size) : s.extract k (k + 1) = ⟨#[s[k]]⟩ := by
  rw [Lib.extract_eq]
  congr 1
  have h' : k < s.data.toList.length := by rw [size_len]; exact h
  rw [show k + 1 - k = 1 by omega, List.drop_eq_getElem_cons h']
  rfl
theorem bytes_app (a b : List UInt8) : (⟨a.toArray⟩ : ByteArray) ++ ⟨b.toArray⟩ = ⟨(a ++ b).toArray⟩ := by
  apply ByteArray.ext; simp
theorem dblL_app (a b : List UInt8) : dblL (a ++ b) = dblL a ++ dblL b := by simp [dblL]
theorem dbl_quote {s : ByteArray} {k : Nat} (h : k < s.size) (hq : s[k].toNat = 34) : dblL (s.data.toList.take (k + 1)) = dblL (s.data.toList.take k) ++ [34, 34] := by
  have : s[k] = 34 := UInt8.toNat.inj hq
  rw [take_snoc s k h, dblL_app, this]; rfl
theorem dbl_plain {s : ByteArray} {k : Nat} (h : k < s.size) (hq : ¬ s[k].toNat = 34) : dblL (s.data.toList.take (k + 1)) = dblL (s.data.toList.take k) ++ [s[k]] := by
  have : ¬ s[k] = 34 := fun e => hq (by rw [e]; rfl)
  rw [take_snoc s k h, dblL_app]; simp [dblL, this]

set_option maxHeartbeats 400000 in
theorem refQuote_yes (s : ByteArray) (w : World) (hs : s.size < 4294967281) (h : textB s.data.toList = true) :
    Calls Tryz.prog 38 #[.string s] w fun e w' => e = .returned (.tuple #[.string ⟨(quoteL s.data.toList).toArray⟩, .int .i64 0]) ∧ w = w' := by
  have hm : s.size ≤ maxLen := by unfold maxLen; omega
  go_enter Tryz.func38, Tryz.ntmps38
  go_wp2_with (go_at_call 55; refine (refText_any _ _ hm).mono ?_; rintro e w' ⟨rfl, rfl⟩)
  go_loop [4, 5] (fun o i => ∃ k : Nat, k ≤ s.size ∧ i = .int .i64 k ∧ o = .string ⟨(34 :: dblL (s.data.toList.take k)).toArray⟩) (fun _ i => s.size - (intOf i).toNat)
  case atStart => exact ⟨0, Nat.zero_le _, rfl, rfl⟩
  case round =>
    obtain ⟨k, hk, rfl, rfl⟩ := hrel
    have hl : (dblL (s.data.toList.take k)).length ≤ 2 * k := by have := dblL_length (s.data.toList.take k); have h2 : (s.data.toList.take k).length ≤ k := List.length_take_le _ _; omega
    obtain ⟨D, hD⟩ : ∃ D, dblL (s.data.toList.take k) = D := ⟨_, rfl⟩
    rw [hD] at hl ⊢
    have HD := Lib.hid hD; clear hD
    by_cases hlt : k < s.size
    · by_cases hq : (s[k].toNat : Int) = 34
      · go_wp2
        go_roundw
        case rel => exact ⟨k + 1, by omega, by go_num, by rw [dbl_quote hlt (by omega), HD.out, extract_one hlt, show s[k] = 34 from UInt8.toNat.inj (by show _ = 34; omega)]; simp [bytes_app]⟩
        case measure => simp [intOf]; omega
      · go_wp2
        go_roundw
        case rel => exact ⟨k + 1, by omega, by go_num, by rw [dbl_plain hlt (by omega), HD.out, extract_one hlt]; simp [bytes_app]⟩
        case measure => simp [intOf]; omega
    · have hfin : D = dblL s.data.toList := by rw [← HD.out, List.take_of_length_le (by rw [size_len]; omega)]
      have HF := Lib.hid hfin; clear hfin
      go_wp2
      go_ret2
      exact ⟨by rw [HF.out]; simp [quoteL, bytes_app], rfl⟩

set_option maxHeartbeats 400000 in
theorem refQuote_no (s : ByteArray) (w : World) (hs : s.size ≤ maxLen) (h : textB s.data.toList = false) :
    Calls Tryz.prog 38 #[.string s] w fun e w' => e = .returned (.tuple #[.string ⟨#[]⟩, .int .i64 2]) ∧ w = w' := by
  go_enter Tryz.func38, Tryz.ntmps38
  go_wp2_with (go_at_call 55; refine (refText_any _ _ hs).mono ?_; rintro e w' ⟨rfl, rfl⟩)
  go_ret2
  exact ⟨rfl, rfl⟩
end Go.Proofs.YtkbmdmipdcjjcaaGreatDoor
