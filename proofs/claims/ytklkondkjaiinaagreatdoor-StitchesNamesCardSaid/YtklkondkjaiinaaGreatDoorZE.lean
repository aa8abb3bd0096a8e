/- Standard and Name of the reference; the law of names. -/
import Derived.Test.YtklkondkjaiinaaGreatDoorZB
namespace Go.Proofs.YtklkondkjaiinaaGreatDoor
open Go.RowKit
set_option linter.unusedSimpArgs false
def namesL : List ByteArray := [⟨#[104, 97, 108, 102]⟩, ⟨#[99, 108, 111, 116, 104]⟩, ⟨#[119, 104, 111, 108, 101]⟩, ⟨#[104, 97, 108, 102, 112, 105, 110]⟩, ⟨#[99, 108, 111, 116, 104, 112, 105, 110]⟩, ⟨#[119, 104, 111, 108, 101, 112, 105, 110]⟩, ⟨#[116, 119, 105, 115, 116]⟩, ⟨#[110, 111, 110, 101]⟩]
def wordsL : List ByteArray := [⟨#[67, 84]⟩, ⟨#[67, 84, 67]⟩, ⟨#[67, 84, 67, 84]⟩, ⟨#[67, 84, 80, 67, 84]⟩, ⟨#[67, 84, 67, 80, 67, 84, 67]⟩, ⟨#[67, 84, 67, 84, 80, 67, 84, 67, 84]⟩, ⟨#[84]⟩, ⟨#[]⟩]
set_option maxHeartbeats 1000000 in
set_option maxRecDepth 100000 in
theorem refNames_any (w : World) : Calls Tryz.prog 58 #[] w fun e w' => ∃ b, e = .returned (.slice (some ⟨b, 0, none⟩) 8 8) ∧ (∀ k p, namesL[k]? = some p → w'.cell? ⟨b, k, none⟩ = some (.string p)) ∧ Below w.heap.size w w' := by
  go_enter Tryz.func58, Tryz.ntmps58
  go_wp2_with fail
  go_ret
  refine ⟨_, rfl, fun k p hp => ?_, below_alloc w _⟩
  exact str_cells (ps := namesL) (heap_alloc_new _ _) hp
set_option maxHeartbeats 1000000 in
set_option maxRecDepth 100000 in
theorem refWords_any (w : World) : Calls Tryz.prog 59 #[] w fun e w' => ∃ b, e = .returned (.slice (some ⟨b, 0, none⟩) 8 8) ∧ (∀ k p, wordsL[k]? = some p → w'.cell? ⟨b, k, none⟩ = some (.string p)) ∧ Below w.heap.size w w' := by
  go_enter Tryz.func59, Tryz.ntmps59
  go_wp2_with fail
  go_ret
  refine ⟨_, rfl, fun k p hp => ?_, below_alloc w _⟩
  exact str_cells (ps := wordsL) (heap_alloc_new _ _) hp
set_option maxHeartbeats 4000000 in
set_option maxRecDepth 100000 in
theorem refStandard_any (s : ByteArray) (w : World) : Calls Tryz.prog 30 #[.string s] w fun e w' => e = .returned (.tuple #[.string (gotS (stdF s)), .int .i64 (gotE (stdF s))]) ∧ Below w.heap.size w w' := by
  have HS := Lib.hid (show stdF s = (usualL.find? fun p => decide (p.1 = s)).map (·.2) from rfl)
  generalize stdF s = r at *
  go_enter Tryz.func30, Tryz.ntmps30
  go_wp2_with fail
  go_loopw [4] (fun i wr => ∃ k : Nat, k ≤ 8 ∧ i = .int .i64 k ∧ (usualL.drop k).find? (fun p => decide (p.1 = s)) = usualL.find? (fun p => decide (p.1 = s)) ∧ Below w.heap.size w wr) (fun i _ => 8 - (intOf i).toNat)
  case atStart => exact ⟨0, Nat.zero_le _, rfl, rfl, Below.refl _ w⟩
  case round =>
    obtain ⟨k, hk, rfl, hf, hb⟩ := hrel
    have HF := Lib.hid hf
    clear hf
    have h8 := hb.size
    by_cases hk8 : k < 8
    · obtain ⟨p, hp⟩ : ∃ p, usualL[k]? = some p := ⟨_, List.getElem?_eq_getElem hk8⟩
      have hpn : namesL[k]? = some p.1 := by
        have e : namesL = usualL.map (·.1) := rfl
        rw [e, List.getElem?_map, hp]; rfl
      have hpw : wordsL[k]? = some p.2 := by
        have e : wordsL = usualL.map (·.2) := rfl
        rw [e, List.getElem?_map, hp]; rfl
      have HPN := Lib.hid hpn
      have HPW := Lib.hid hpw
      have hd : usualL.drop k = p :: usualL.drop (k + 1) := by rw [List.drop_eq_getElem_cons hk8]; congr 1; exact Option.some.inj ((List.getElem?_eq_getElem hk8).symm.trans hp)
      have k0 : (0 : Int) ≤ (k : Int) := by omega
      have k1 : (k : Int) < 8 := by omega
      have C1 := Lib.hid (fun W => refNames_any W)
      have C2 := Lib.hid (fun W => refWords_any W)
      have HD := Lib.hid hd
      clear hpn hpw hp hd
      go_wp2_with fail
      refine (C1.out _).mono ?_
      rintro e w1 ⟨b1, rfl, _, hb1⟩
      have B1 := Lib.hid (hb.trans (hb1.mono h8))
      clear hb1
      go_wp2_with fail
      refine (C1.out _).mono ?_
      rintro e w2 ⟨b2, rfl, hc2, hb2⟩
      have B2 := Lib.hid (B1.out.trans (hb2.mono B1.out.size))
      have cc := hc2 k _ HPN.out
      clear hb2 hc2
      by_cases he : p.1 = s
      · have HE := Lib.hid (show r = some p.2 by
          rw [HS.out, ← HF.out, HD.out, List.find?_cons, show decide (p.1 = s) = true by simp [he]]; rfl)
        have hq : (p.1.toList == s.toList) = true := by rw [he]; simp
        go_wp2_with fail
        refine (C2.out _).mono ?_
        rintro e w3 ⟨b3, rfl, hc3, hb3⟩
        have B3 := Lib.hid (B2.out.trans (hb3.mono B2.out.size))
        have cc3 := hc3 k _ HPW.out
        clear hb3 hc3
        go_wp2_with fail
        go_ret2
        rw [HE.out]
        exact ⟨rfl, B3.out⟩
      · have hq2 := str_ne he
        have HN := Lib.hid (show (usualL.drop (k + 1)).find? (fun p => decide (p.1 = s)) = usualL.find? (fun p => decide (p.1 = s)) by
          rw [← HF.out, HD.out, List.find?_cons, show decide (p.1 = s) = false by simp [he]])
        go_wp2_with fail
        go_roundw
        case rel => exact ⟨k + 1, by omega, by go_num, HN.out, B2.out⟩
        case measure => (simp [intOf] <;> omega)
    · have k1 : ¬ (k : Int) < 8 := by omega
      have HE := Lib.hid (show r = none by
        rw [HS.out, ← HF.out, List.drop_eq_nil_of_le (by show 8 ≤ k; omega)]; rfl)
      have C1 := Lib.hid (fun W => refNames_any W)
      go_wp2_with fail
      refine (C1.out _).mono ?_
      rintro e w1 ⟨b1, rfl, _, hb1⟩
      have B1 := Lib.hid (hb.trans (hb1.mono h8))
      clear hb1
      go_wp2_with fail
      go_ret2
      rw [HE.out]
      exact ⟨rfl, B1.out⟩
set_option maxHeartbeats 4000000 in
set_option maxRecDepth 100000 in
theorem refName_ok (s : ByteArray) (hz : stV s = 0) (w : World) : Calls Tryz.prog 32 #[.string s] w fun e w' => e = .returned (.tuple #[.string (gotS (namF s)), .int .i64 (gotE (namF s))]) ∧ Below w.heap.size w w' := by
  have HS := Lib.hid (show namF s = (usualL.find? fun p => decide (p.2 = s)).map (·.1) from rfl)
  generalize namF s = r at *
  have CK := Lib.hid (fun W => refCheck3_any s W)
  rw [hz] at CK
  clear hz
  go_enter Tryz.func32, Tryz.ntmps32
  go_wp2_with fail
  refine (CK.out _).mono ?_
  rintro e w1 ⟨rfl, hw⟩
  obtain rfl := hw.symm
  clear hw
  go_wp2_with fail
  go_loopw [5] (fun i wr => ∃ k : Nat, k ≤ 8 ∧ i = .int .i64 k ∧ (usualL.drop k).find? (fun p => decide (p.2 = s)) = usualL.find? (fun p => decide (p.2 = s)) ∧ Below w.heap.size w wr) (fun i _ => 8 - (intOf i).toNat)
  case atStart => exact ⟨0, Nat.zero_le _, rfl, rfl, Below.refl _ w⟩
  case round =>
    obtain ⟨k, hk, rfl, hf, hb⟩ := hrel
    have HF := Lib.hid hf
    clear hf
    have h8 := hb.size
    by_cases hk8 : k < 8
    · obtain ⟨p, hp⟩ : ∃ p, usualL[k]? = some p := ⟨_, List.getElem?_eq_getElem hk8⟩
      have hpn : namesL[k]? = some p.1 := by
        have e : namesL = usualL.map (·.1) := rfl
        rw [e, List.getElem?_map, hp]; rfl
      have hpw : wordsL[k]? = some p.2 := by
        have e : wordsL = usualL.map (·.2) := rfl
        rw [e, List.getElem?_map, hp]; rfl
      have HPN := Lib.hid hpn
      have HPW := Lib.hid hpw
      have hd : usualL.drop k = p :: usualL.drop (k + 1) := by rw [List.drop_eq_getElem_cons hk8]; congr 1; exact Option.some.inj ((List.getElem?_eq_getElem hk8).symm.trans hp)
      have k0 : (0 : Int) ≤ (k : Int) := by omega
      have k1 : (k : Int) < 8 := by omega
      have C1 := Lib.hid (fun W => refWords_any W)
      have C2 := Lib.hid (fun W => refNames_any W)
      have HD := Lib.hid hd
      clear hpn hpw hp hd
      go_wp2_with fail
      refine (C1.out _).mono ?_
      rintro e w1 ⟨b1, rfl, _, hb1⟩
      have B1 := Lib.hid (hb.trans (hb1.mono h8))
      clear hb1
      go_wp2_with fail
      refine (C1.out _).mono ?_
      rintro e w2 ⟨b2, rfl, hc2, hb2⟩
      have B2 := Lib.hid (B1.out.trans (hb2.mono B1.out.size))
      have cc := hc2 k _ HPW.out
      clear hb2 hc2
      by_cases he : p.2 = s
      · have HE := Lib.hid (show r = some p.1 by
          rw [HS.out, ← HF.out, HD.out, List.find?_cons, show decide (p.2 = s) = true by simp [he]]; rfl)
        have hq : (p.2.toList == s.toList) = true := by rw [he]; simp
        go_wp2_with fail
        refine (C2.out _).mono ?_
        rintro e w3 ⟨b3, rfl, hc3, hb3⟩
        have B3 := Lib.hid (B2.out.trans (hb3.mono B2.out.size))
        have cc3 := hc3 k _ HPN.out
        clear hb3 hc3
        go_wp2_with fail
        go_ret2
        rw [HE.out]
        exact ⟨rfl, B3.out⟩
      · have hq2 := str_ne he
        have HN := Lib.hid (show (usualL.drop (k + 1)).find? (fun p => decide (p.2 = s)) = usualL.find? (fun p => decide (p.2 = s)) by
          rw [← HF.out, HD.out, List.find?_cons, show decide (p.2 = s) = false by simp [he]])
        go_wp2_with fail
        go_roundw
        case rel => exact ⟨k + 1, by omega, by go_num, HN.out, B2.out⟩
        case measure => (simp [intOf] <;> omega)
    · have k1 : ¬ (k : Int) < 8 := by omega
      have HE := Lib.hid (show r = none by
        rw [HS.out, ← HF.out, List.drop_eq_nil_of_le (by show 8 ≤ k; omega)]; rfl)
      have C1 := Lib.hid (fun W => refWords_any W)
      go_wp2_with fail
      refine (C1.out _).mono ?_
      rintro e w1 ⟨b1, rfl, _, hb1⟩
      have B1 := Lib.hid (hb.trans (hb1.mono h8))
      clear hb1
      go_wp2_with fail
      go_ret2
      rw [HE.out]
      exact ⟨rfl, B1.out⟩
set_option maxHeartbeats 1000000 in
set_option maxRecDepth 100000 in
theorem refName_any (s : ByteArray) (w : World) : Calls Tryz.prog 32 #[.string s] w fun e w' => e = .returned (.tuple #[.string (namS s), .int .i64 (namE s)]) ∧ Below w.heap.size w w' := by
  by_cases h0 : stV s = 0
  · have e1 : namS s = gotS (namF s) := if_pos h0
    have e2 : namE s = gotE (namF s) := if_pos h0
    rw [e1, e2]
    exact refName_ok s h0 w
  · have e1 : namS s = ByteArray.empty := if_neg h0
    have e2 : namE s = stV s := if_neg h0
    rw [e1, e2]
    have CK := Lib.hid (fun W => refCheck3_any s W)
    generalize stV s = z at *
    have hq : (z != 0) = true := by simpa using h0
    clear e1 e2 h0
    go_enter Tryz.func32, Tryz.ntmps32
    go_wp2_with fail
    refine (CK.out _).mono ?_
    rintro e w1 ⟨rfl, rfl⟩
    go_wp2_with fail
    go_ret2
    exact ⟨rfl, Below.refl _ _⟩
set_option maxHeartbeats 4000000 in
set_option maxRecDepth 100000 in
theorem names_law (s : ByteArray) (w : World) (g : Glob w) (_ : s.size ≤ maxLen) : Calls Tryz.prog 5 #[.string s] w fun e w' => e = .returned (.bool true) ∧ Below w.heap.size w w' := by
  have HG := Lib.hid g
  clear g
  by_cases hbig : 1000 < s.size
  · have h1 : (1000 : Int) < (s.size : Int) := by omega
    go_enter Tryz.func5, Tryz.ntmps5
    go_wp2_with fail
    refine (shown_any _ HG.out).mono ?_
    rintro e w1 ⟨rfl, hb⟩
    have HB := Lib.hid hb
    clear hb
    go_wp2_with fail
    go_ret
    exact ⟨rfl, HB.out⟩
  · have h1 : ¬ (1000 : Int) < (s.size : Int) := by omega
    have hm : s.size ≤ maxLen := by unfold maxLen; omega
    have C1 := Lib.hid (fun W g => Standard_any s W g)
    have C2 := Lib.hid (fun W => refStandard_any s W)
    have C3 := Lib.hid (fun W g => Name_any s hm W g)
    have C4 := Lib.hid (fun W => refName_any s W)
    generalize gotS (stdF s) = a1 at *
    generalize gotE (stdF s) = a2 at *
    generalize namS s = a3 at *
    generalize namE s = a4 at *
    clear hm hbig
    go_enter Tryz.func5, Tryz.ntmps5
    go_wp2_with fail
    refine (C1.out _ HG.out).mono ?_
    rintro e w1 ⟨rfl, hb⟩
    have B1 := Lib.hid hb
    clear hb
    go_wp2_with fail
    refine (C2.out _).mono ?_
    rintro e w2 ⟨rfl, hb⟩
    have B2 := Lib.hid (B1.out.trans (hb.mono B1.out.size))
    clear hb
    go_wp2_with fail
    refine (C3.out _ (HG.out.next B2.out)).mono ?_
    rintro e w3 ⟨rfl, hb⟩
    have B3 := Lib.hid (B2.out.trans (hb.mono B2.out.size))
    clear hb
    go_wp2_with fail
    refine (C4.out _).mono ?_
    rintro e w4 ⟨rfl, hb⟩
    have B4 := Lib.hid (B3.out.trans (hb.mono B3.out.size))
    clear hb
    go_wp2_with fail
    refine (shown_any _ (HG.out.next B4.out)).mono ?_
    rintro e w5 ⟨rfl, hb⟩
    have B5 := Lib.hid (B4.out.trans (hb.mono B4.out.size))
    clear hb
    go_wp2_with fail
    go_ret
    exact ⟨by first | rfl | (simp; done), B5.out⟩
end Go.Proofs.YtklkondkjaiinaaGreatDoor
