/- The reference's Join. -/
import Derived.Test.YtjddleipancaoaaGreatDoorSG
namespace Go.Proofs.YtjddleipancaoaaGreatDoor
open Go.RowKit

set_option maxHeartbeats 400000 in
theorem refJoin_many (fs : List Fld) (v : Value) (w : World) (hv : SFld w v fs) (hl : fs.length ≤ maxLen) (h : 64 < fs.length) :
    Calls Tryz.prog 17 #[v] w fun e w' => e = .returned (.tuple #[.string ⟨(joinSpec fs).1.toArray⟩, .int .i64 (joinSpec fs).2]) ∧ Below w.heap.size w w' := by
  rw [joinSpec_many h]
  obtain ⟨a, cap, rfl, hx⟩ := hv
  unfold maxLen at hl
  clear hx
  go_enter Tryz.func17, Tryz.ntmps17
  go_wp2_with fail
  go_ret2
  exact ⟨rfl, Below.refl _ _⟩

set_option maxHeartbeats 4000000 in
set_option maxRecDepth 100000 in
theorem refJoin_few (fs : List Fld) (v : Value) (w : World) (hv : SFld w v fs) (hs : ∀ f ∈ fs, f.2.length ≤ 1000000) (h : ¬ 64 < fs.length) :
    Calls Tryz.prog 17 #[v] w fun e w' => e = .returned (.tuple #[.string ⟨(joinSpec fs).1.toArray⟩, .int .i64 (joinSpec fs).2]) ∧ Below w.heap.size w w' := by
  obtain ⟨J, hJ⟩ : ∃ J, joinSpec fs = J := ⟨_, rfl⟩
  rw [hJ]
  obtain ⟨a, cap, rfl, hx⟩ := hv
  have HJ := Lib.hid hJ
  have Hx := Lib.hid hx
  have Hs := Lib.hid hs
  clear hJ hx hs
  go_enter Tryz.func17, Tryz.ntmps17
  go_wp2_with fail
  go_loopw [4, 5] (fun s4 i wr => ∃ k : Nat, k ≤ fs.length ∧ i = .int .i64 k ∧ s4 = .string ⟨(joinL (fs.take k)).toArray⟩ ∧ (∀ x ∈ fs.take k, okF x = true) ∧ Below w.heap.size w wr) (fun _ i _ => fs.length - (intOf i).toNat)
  case atStart => exact ⟨0, Nat.zero_le _, rfl, rfl, fun x hx => by simp at hx, Below.refl _ _⟩
  case round =>
    obtain ⟨k, hk, rfl, rfl, hok, hbr⟩ := hrel
    have hbz := hbr.size
    have hjl := joinL_size _ hok
    have hPl : (joinL (fs.take k)).length ≤ 100000 := by
      have : (fs.take k).length ≤ 64 := by simp; omega
      omega
    obtain ⟨P, hP⟩ : ∃ P, joinL (fs.take k) = P := ⟨_, rfl⟩
    obtain ⟨PS, hPS⟩ : ∃ S : ByteArray, (⟨P.toArray⟩ : ByteArray) = S := ⟨_, rfl⟩
    rw [hP] at hPl
    rw [hP, hPS]
    have hPs : PS.size ≤ 100000 := by rw [← size_len, ← hPS]; exact hPl
    have Hok := Lib.hid hok
    have HP := Lib.hid hP
    have HPS := Lib.hid hPS
    have Hbr := Lib.hid hbr
    clear hok hjl hPl hP hPS
    by_cases hkl : k < fs.length
    · obtain ⟨b, off, rfl, hb, hc⟩ := Hx.out (by omega)
      obtain ⟨c0, c1⟩ := hc k hkl
      have c0' := (hbr.cell (p := ⟨b, off + k * 2, none⟩) hb).trans c0
      have c1' := (hbr.cell (p := ⟨b, off + k * 2 + 1, none⟩) hb).trans c1
      have htk := take_next hkl
      have hmem : fs[k] ∈ fs := List.getElem_mem hkl
      have hsz := Hs.out _ hmem
      generalize fs[k] = f at *
      obtain ⟨q, t⟩ := f
      simp only at c0' c1' hsz
      obtain ⟨T, hT⟩ : ∃ T : ByteArray, (⟨t.toArray⟩ : ByteArray) = T := ⟨_, rfl⟩
      have hTl : T.data.toList = t := by rw [← hT]
      have hTs : T.size ≤ 1000000 := by rw [← size_len, hTl]; exact hsz
      rw [hT] at c1'
      have hR := refRight_any q T wr (by unfold maxLen; omega)
      rw [hTl, right_ok] at hR
      have hbk : b < wr.heap.size := by omega
      have hj := joinL_snoc (q, t) (fs.take k)
      rw [← htk, HP.out] at hj
      have hok2 : okF (q, t) = true → ∀ x ∈ fs.take (k + 1), okF x = true := fun ho => by
        rw [htk]
        intro x hx
        rcases List.mem_append.1 hx with hx | hx
        · exact Hok.out x hx
        · simp at hx; subst hx; exact ho
      have hE : (fs.take k).isEmpty = decide (k = 0) := by
        cases h : fs.take k with
        | nil =>
          have h1 := congrArg List.length h
          rw [List.length_take, List.length_nil] at h1
          simp; omega
        | cons a r =>
          have h1 := congrArg List.length h
          rw [List.length_take, List.length_cons] at h1
          simp; omega
      rw [hE] at hj
      have Hj := Lib.hid hj
      have Hok2 := Lib.hid hok2
      have Hmem := Lib.hid hmem
      have HT := Lib.hid hT
      have HTl := Lib.hid hTl
      clear htk hc c0 c1 hmem hsz hT hTl hj hok2 hE
      have n0 : (0 : Int) ≤ (k : Int) := by omega
      have n1 : (k : Int) < (fs.length : Int) := by omega
      have s1 : (ByteArray.mk #[32]).size = 1 := rfl
      have hb2 : Below w.heap.size w (wr.alloc (.cells #[.bool q, .string T] 46)) := hbr.alloc hbz _
      have Hb2 := Lib.hid hb2
      clear hb2 hbr
      obtain ⟨ok, hokd⟩ : ∃ ok, okF (q, t) = ok := ⟨_, rfl⟩
      rw [hokd] at hR
      have Hokd := Lib.hid hokd
      have HR := Lib.hid hR
      clear hokd hR
      cases ok with
      | false =>
        have hbad : J = ([], 2) := by rw [← HJ.out]; exact joinSpec_bad h Hmem.out Hokd.out
        have Hbad := Lib.hid hbad
        clear hbad
        go_wp2_with (go_at_call 32; refine HR.out.mono ?_; rintro e w' ⟨rfl, rfl⟩)
        go_ret2
        exact ⟨by rw [Hbad.out]; rfl, Hb2.out⟩
      | true =>
        have hwl := wr_len Hokd.out
        cases q with
        | true =>
          have htx : textB T.data.toList = true := by rw [HTl.out]; exact Hokd.out
          have hQ := fun w => refQuote_yes T w (by omega) htx
          obtain ⟨QS, hQS⟩ : ∃ S : ByteArray, (⟨(quoteL T.data.toList).toArray⟩ : ByteArray) = S := ⟨_, rfl⟩
          have hQs : QS.size ≤ 402 := by
            rw [← size_len, ← hQS]
            have : Proofs.YtjddleipancaoaaGreatDoor.wr (true, t) = quoteL t := rfl
            rw [this, ← HTl.out] at hwl
            exact hwl
          rw [hQS] at hQ
          have HQ := Lib.hid hQ
          have HQS := Lib.hid hQS
          clear hQ hQS htx hwl
          by_cases hk0 : k = 0
          · have hz : ¬ (0 : Int) < (k : Int) := by omega
            have Hk0 := Lib.hid hk0
            clear hk0
            go_wp2_with (first
              | (go_at_call 32; refine HR.out.mono ?_; rintro e w' ⟨rfl, rfl⟩)
              | (go_at_call 38; refine (HQ.out _).mono ?_; rintro e w' ⟨rfl, rfl⟩))
            go_roundw
            case rel => exact ⟨k + 1, by omega, by go_num, by rw [Hj.out]; simp only [decide_eq_true Hk0.out, if_true, List.append_nil]; rw [show Proofs.YtjddleipancaoaaGreatDoor.wr (true, t) = quoteL t from rfl, ← HTl.out, ← bytes_app, HPS.out, HQS.out], Hok2.out Hokd.out, Hb2.out⟩
            case measure => simp [intOf]; omega
          · have hkp : (0 : Int) < (k : Int) := by omega
            go_wp2_with (first
              | (go_at_call 32; refine HR.out.mono ?_; rintro e w' ⟨rfl, rfl⟩)
              | (go_at_call 38; refine (HQ.out _).mono ?_; rintro e w' ⟨rfl, rfl⟩))
            go_roundw
            case rel => exact ⟨k + 1, by omega, by go_num, by rw [Hj.out]; simp only [decide_eq_false hk0]; rw [show Proofs.YtjddleipancaoaaGreatDoor.wr (true, t) = quoteL t from rfl, ← HTl.out, ← bytes_app, HQS.out, if_neg (by simp), ← bytes_app, HPS.out], Hok2.out Hokd.out, Hb2.out⟩
            case measure => simp [intOf]; omega
        | false =>
          by_cases hk0 : k = 0
          · have hz : ¬ (0 : Int) < (k : Int) := by omega
            have Hk0 := Lib.hid hk0
            clear hk0
            go_wp2_with (go_at_call 32; refine HR.out.mono ?_; rintro e w' ⟨rfl, rfl⟩)
            go_roundw
            case rel => exact ⟨k + 1, by omega, by go_num, by rw [Hj.out]; simp only [decide_eq_true Hk0.out, if_true, List.append_nil]; rw [show Proofs.YtjddleipancaoaaGreatDoor.wr (false, t) = t from rfl, ← bytes_app, HPS.out, HT.out], Hok2.out Hokd.out, Hb2.out⟩
            case measure => simp [intOf]; omega
          · have hkp : (0 : Int) < (k : Int) := by omega
            go_wp2_with (go_at_call 32; refine HR.out.mono ?_; rintro e w' ⟨rfl, rfl⟩)
            go_roundw
            case rel => exact ⟨k + 1, by omega, by go_num, by rw [Hj.out]; simp only [decide_eq_false hk0]; rw [show Proofs.YtjddleipancaoaaGreatDoor.wr (false, t) = t from rfl, ← bytes_app, HT.out, if_neg (by simp), ← bytes_app, HPS.out], Hok2.out Hokd.out, Hb2.out⟩
            case measure => simp [intOf]; omega
    · have ht : fs.take k = fs := List.take_of_length_le (by omega)
      have hJ2 := joinSpec_ok h (by have := Hok.out; rw [ht] at this; exact this)
      rw [← ht, HP.out, ht] at hJ2
      rw [HJ.out] at hJ2
      have hPsz : P.length = PS.size := by rw [← HPS.out, ← size_len]
      rw [hPsz] at hJ2
      have HJ2 := Lib.hid hJ2
      clear hJ2 ht hPsz
      by_cases hbig : 4096 < PS.size
      · have Hbad : Hid (J = ([], 3)) := Lib.hid (by rw [HJ2.out, if_pos hbig])
        go_wp2_with fail
        go_ret2
        exact ⟨by rw [Hbad.out]; rfl, Hbr.out⟩
      · have Hgood : Hid (J = (P, 0)) := Lib.hid (by rw [HJ2.out, if_neg hbig])
        go_wp2_with fail
        go_ret2
        exact ⟨by rw [Hgood.out, ← HPS.out]; rfl, Hbr.out⟩
theorem refJoin_any (fs : List Fld) (v : Value) (w : World) (hv : SFld w v fs) (hs : ∀ f ∈ fs, f.2.length ≤ 1000000) (hl : fs.length ≤ maxLen) :
    Calls Tryz.prog 17 #[v] w fun e w' => e = .returned (.tuple #[.string ⟨(joinSpec fs).1.toArray⟩, .int .i64 (joinSpec fs).2]) ∧ Below w.heap.size w w' := by
  by_cases h : 64 < fs.length
  · exact refJoin_many fs v w hv hl h
  · exact refJoin_few fs v w hv hs h
end Go.Proofs.YtjddleipancaoaaGreatDoor
