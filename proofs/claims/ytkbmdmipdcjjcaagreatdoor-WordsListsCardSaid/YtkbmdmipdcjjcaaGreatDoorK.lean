/- isNumeral and Int of package words. -/
import Derived.Test.YtkbmdmipdcjjcaaGreatDoorJ
import Derived.Lib.SmallJoins
namespace Go.Proofs.YtkbmdmipdcjjcaaGreatDoor
open Go.RowKit

def numB (l : List UInt8) : Bool := !l.isEmpty && withinB 48 57 l && (!decide (l.headD 0 = 48) || decide (l = [48]))
theorem numB_empty {s : ByteArray} (h : s.size = 0) : numB s.data.toList = false := by
  unfold numB; rw [← toList_data, toList_nil h]; rfl
theorem numB_rest {s : ByteArray} (h : 0 < s.size) : numB s.data.toList = (withinB 48 57 s.data.toList && (!decide (s[0] = 48) || decide (s.data.toList = [48]))) := by
  unfold numB
  rw [head_eq h]
  have := (toList_cons (s := s) (by omega)).1
  rw [toList_data] at this
  rw [this]; rfl

set_option maxHeartbeats 400000 in
theorem isNumeral_any (s : ByteArray) (w : World) (hs : s.size ≤ maxLen) :
    Calls Tryz.prog 64 #[.string s] w fun e w' => e = .returned (.bool (numB s.data.toList)) ∧ w = w' := by
  by_cases h0 : s.size = 0
  · have hN := Lib.hid (numB_empty h0)
    have ht := toList_nil h0
    clear h0
    go_enter Tryz.func64, Tryz.ntmps64
    go_wp2_with fail
    go_ret
    exact ⟨retB hN.out.symm, rfl⟩
  obtain ⟨ht, ht'⟩ := toList_cons h0
  have h0' : 0 < s.size := by omega
  have hN := Lib.hid (numB_rest h0')
  have hW := within_any s 48 57 w hs
  obtain ⟨A, hA⟩ : ∃ A, withinB 48 57 s.data.toList = A := ⟨_, rfl⟩
  rw [hA] at hW hN
  clear hA
  cases A
  · go_enter Tryz.func64, Tryz.ntmps64
    go_wp2_with fail
    refine hW.mono ?_
    rintro e w' ⟨rfl, rfl⟩
    go_wp2_with fail
    go_ret
    exact ⟨retB hN.out.symm, rfl⟩
  · by_cases hz : s[0].toNat = 48
    · have hz2 : (s[0].toNat : Int) = 48 := by omega
      have hz3 : s[0] = 48 := UInt8.toNat.inj hz
      have HN := Lib.hid (show numB s.data.toList = decide (s.data.toList = [48]) by rw [hN.out, hz3]; simp)
      clear hz hz3 hN
      go_enter Tryz.func64, Tryz.ntmps64
      go_wp2_with fail
      refine hW.mono ?_
      rintro e w' ⟨rfl, rfl⟩
      go_wp2_with fail
      go_ret
      refine ⟨retB ?_, rfl⟩
      rw [HN.out, toList_data, Bool.eq_iff_iff]; simp
    · have hz2 : ¬ (s[0].toNat : Int) = 48 := by omega
      have hz3 : ¬ s[0] = 48 := fun e => hz (by rw [e]; rfl)
      have HN := Lib.hid (show numB s.data.toList = true by rw [hN.out]; simp [hz3])
      clear hz hz3 hN
      go_enter Tryz.func64, Tryz.ntmps64
      go_wp2_with fail
      refine hW.mono ?_
      rintro e w' ⟨rfl, rfl⟩
      go_wp2_with fail
      go_ret
      exact ⟨retB HN.out.symm, rfl⟩

theorem parseM_nosyn (M : Nat) : ∀ (l : List UInt8) (acc : Nat), withinB 48 57 l = true → Lib.parseUintM M acc l ≠ Lib.NumEnd.syntax
  | [], acc, _ => by simp [Lib.parseUintM]
  | c :: r, acc, h => by
    unfold withinB at h
    rw [List.all_cons, Bool.and_eq_true] at h
    have hc : 48 ≤ c.toNat ∧ c.toNat ≤ 57 := by have := h.1; simp [inB] at this; omega
    have ih := fun a => parseM_nosyn M r a h.2
    unfold Lib.parseUintM
    rw [if_pos hc]
    split
    · simp
    · split
      · simp
      · exact ih _
theorem trim_neg (l : List UInt8) : Lib.trimPrefix l [45] = if l.head? = some 45 then l.tail else l := by
  cases l with
  | nil => rfl
  | cons c r =>
    unfold Lib.trimPrefix Lib.hasPrefix
    by_cases h : c = 45
    · subst h; simp [List.isPrefixOf]
    · have h' : ¬ (45 = c) := fun e => h e.symm
      simp [List.isPrefixOf, h, h']
theorem numB_parts {l : List UInt8} (h : numB l = true) : l ≠ [] ∧ withinB 48 57 l = true := by
  unfold numB at h
  simp only [Bool.and_eq_true] at h
  exact ⟨by intro e; rw [e] at h; simp at h, h.1.2⟩
theorem parse_some {l : List UInt8} (h : numB (Lib.trimPrefix l [45]) = true) : (∃ v, Lib.parseIntB 64 l = .ok v) ∨ Lib.parseIntB 64 l = .range := by
  rw [trim_neg] at h
  cases l with
  | nil => simp [numB] at h
  | cons c r =>
    have hne : Lib.parseUintB 64 (if c.toNat = 43 ∨ c.toNat = 45 then r else c :: r) ≠ Lib.NumEnd.syntax := by
      by_cases hc : c = 45
      · subst hc
        simp only [List.head?_cons, List.tail_cons, if_true] at h
        obtain ⟨h1, h2⟩ := numB_parts h
        have e : (if (45 : UInt8).toNat = 43 ∨ (45 : UInt8).toNat = 45 then r else 45 :: r) = r := if_pos (Or.inr rfl)
        rw [e]
        unfold Lib.parseUintB
        rw [if_neg h1]
        exact parseM_nosyn _ _ _ h2
      · rw [if_neg (by simpa using hc)] at h
        obtain ⟨h1, h2⟩ := numB_parts h
        have hd : 48 ≤ c.toNat := by unfold withinB at h2; rw [List.all_cons, Bool.and_eq_true] at h2; have := h2.1; simp [inB] at this; omega
        have e : (if c.toNat = 43 ∨ c.toNat = 45 then r else c :: r) = c :: r := if_neg (by omega)
        rw [e]
        unfold Lib.parseUintB
        rw [if_neg h1]
        exact parseM_nosyn _ _ _ h2
    unfold Lib.parseIntB
    simp only
    rcases hp : Lib.parseUintB 64 (if c.toNat = 43 ∨ c.toNat = 45 then r else c :: r) with u | _ | _
    · simp only
      split
      · exact Or.inr rfl
      · split
        · exact Or.inr rfl
        · exact Or.inl ⟨_, rfl⟩
    · exact absurd hp hne
    · exact Or.inr rfl

def intP (l : List UInt8) (lo hi : Int) : Int × Int :=
  if hi < lo then (0, 2)
  else if numB (Lib.trimPrefix l [45]) = false ∨ l = [45, 48] then (0, 6)
  else match Lib.parseIntB 64 l with
    | .ok v => if v < lo ∨ hi < v then (0, 7) else (v, 0)
    | _ => (0, 7)

theorem below_of_bytes (w : World) (v : Int) (e : Ending) (w' : World) (h : e = .returned (.tuple #[.int .i64 v, .nilIface]) ∧ (w' = w ∨ ∃ t, w' = Lib.bytesWorld w 5 t)) : e = .returned (.tuple #[.int .i64 v, .nilIface]) ∧ Below w.heap.size w w' := by
  refine ⟨h.1, ?_⟩
  rcases h.2 with rfl | ⟨t, rfl⟩
  · exact Below.refl _ _
  · exact Go.Joins.below_bytesWorld _ w _ t (Nat.le_refl _)

set_option maxHeartbeats 1000000 in
theorem Int_any (s : ByteArray) (lo hi : Int) (w : World) (g : Glob w) (hs : s.size ≤ 281474976710656) :
    Calls Tryz.prog 75 #[.string s, .int .i64 lo, .int .i64 hi] w fun e w' => e = .returned (.tuple #[.int .i64 (intP s.data.toList lo hi).1, .int .i64 (intP s.data.toList lo hi).2]) ∧ Below w.heap.size w w' := by
  by_cases hlh : hi < lo
  · have hI := Lib.hid (show intP s.data.toList lo hi = (0, 2) by unfold intP; rw [if_pos hlh])
    rw [hI.out]
    go_enter Tryz.func75, Tryz.ntmps75
    go_wp2_with fail
    go_ret2
    exact ⟨rfl, Below.refl _ _⟩
  have hT := Tryz.strings_TrimPrefix s ⟨#[45]⟩ w
  obtain ⟨T, hTd⟩ : ∃ T : ByteArray, (⟨(Lib.trimPrefix s.data.toList (ByteArray.mk #[45]).data.toList).toArray⟩ : ByteArray) = T := ⟨_, rfl⟩
  have hTl : T.data.toList = Lib.trimPrefix s.data.toList [45] := by rw [← hTd]
  rw [hTd] at hT
  have hTs : T.size ≤ maxLen := by
    have : T.size ≤ s.size := by rw [Lib.size_eq, Lib.size_eq, hTl]; unfold Lib.trimPrefix; split <;> simp
    unfold maxLen; omega
  have hN := isNumeral_any T w hTs
  clear hTd
  cases hn : numB T.data.toList with
  | false =>
    rw [hn] at hN
    have hI := Lib.hid (show intP s.data.toList lo hi = (0, 6) by unfold intP; rw [if_neg hlh, if_pos (Or.inl (by rw [← hTl]; exact hn))])
    rw [hI.out]
    clear hn hTl
    go_enter Tryz.func75, Tryz.ntmps75
    go_wp2_with fail
    refine hT.mono ?_
    rintro e w' ⟨rfl, rfl⟩
    go_wp2_with fail
    refine hN.mono ?_
    rintro e w' ⟨rfl, rfl⟩
    go_wp2_with fail
    go_ret2
    exact ⟨rfl, Below.refl _ _⟩
  | true =>
    rw [hn] at hN
    by_cases hm : s.data.toList = [45, 48]
    · have hI := Lib.hid (show intP s.data.toList lo hi = (0, 6) by unfold intP; rw [if_neg hlh, if_pos (Or.inr hm)])
      rw [hI.out]
      have hm' : (s.toList == [45, 48]) = true := by rw [toList_data, hm]; rfl
      have hm2 : s.toList = [45, 48] := by rw [toList_data, hm]
      clear hn hTl hm
      go_enter Tryz.func75, Tryz.ntmps75
      go_wp2_with fail
      refine hT.mono ?_
      rintro e w' ⟨rfl, rfl⟩
      go_wp2_with fail
      refine hN.mono ?_
      rintro e w' ⟨rfl, rfl⟩
      go_wp2_with fail
      go_ret2
      exact ⟨rfl, Below.refl _ _⟩
    · have hm' : (s.toList == [45, 48]) = false := by rw [toList_data, beq_eq_false_iff_ne]; exact hm
      have hm2 : ¬ s.toList = [45, 48] := by rw [toList_data]; exact hm
      have hcond : ¬ (numB (Lib.trimPrefix s.data.toList [45]) = false ∨ s.data.toList = [45, 48]) := fun e => e.elim (fun e => by rw [← hTl, hn] at e; cases e) hm
      rcases parse_some (l := s.data.toList) (by rw [← hTl]; exact hn) with ⟨v, hv⟩ | hv
      · have hP := (Tryz.strconv_ParseInt_10_at64_ok s (by omega) v hv w).mono (below_of_bytes w v)
        by_cases hin : v < lo ∨ hi < v
        · have hI := Lib.hid (show intP s.data.toList lo hi = (0, 7) by unfold intP; rw [if_neg hlh, if_neg hcond, hv]; exact if_pos hin)
          rw [hI.out]
          clear hn hTl hm hcond hv
          rcases hin with hin | hin
          all_goals
            go_enter Tryz.func75, Tryz.ntmps75
            go_wp2_with fail
            refine hT.mono ?_
            rintro e w' ⟨rfl, rfl⟩
            go_wp2_with fail
            refine hN.mono ?_
            rintro e w' ⟨rfl, rfl⟩
            go_wp2_with fail
            refine hP.mono ?_
            rintro e w' ⟨rfl, hb⟩
            go_wp2_with fail
            all_goals (go_ret2; exact ⟨rfl, hb⟩)
        · have hI := Lib.hid (show intP s.data.toList lo hi = (v, 0) by unfold intP; rw [if_neg hlh, if_neg hcond, hv]; exact if_neg hin)
          rw [hI.out]
          have hin1 : lo ≤ v := by omega
          have hin2 : v ≤ hi := by omega
          clear hn hTl hm hcond hv hin
          go_enter Tryz.func75, Tryz.ntmps75
          go_wp2_with fail
          refine hT.mono ?_
          rintro e w' ⟨rfl, rfl⟩
          go_wp2_with fail
          refine hN.mono ?_
          rintro e w' ⟨rfl, rfl⟩
          go_wp2_with fail
          refine hP.mono ?_
          rintro e w' ⟨rfl, hb⟩
          go_wp2_with fail
          go_ret2
          exact ⟨rfl, hb⟩
      · obtain ⟨te, pe, hvar⟩ := g.er
        have hP := Tryz.strconv_ParseInt_10_at64_range_var s hs hv te pe w hvar
        have hI := Lib.hid (show intP s.data.toList lo hi = (0, 7) by unfold intP; rw [if_neg hlh, if_neg hcond, hv])
        rw [hI.out]
        clear hn hTl hm hcond hv hvar
        go_enter Tryz.func75, Tryz.ntmps75
        go_wp2_with fail
        refine hT.mono ?_
        rintro e w' ⟨rfl, rfl⟩
        go_wp2_with fail
        refine hN.mono ?_
        rintro e w' ⟨rfl, rfl⟩
        go_wp2_with fail
        refine hP.mono ?_
        rintro e w1 ⟨N, rfl, _, _, hb⟩
        go_wp2_with fail
        go_ret2
        exact ⟨rfl, hb⟩
end Go.Proofs.YtkbmdmipdcjjcaaGreatDoor
