/- The reference's read. -/
import Derived.Test.YtkbmdmipdcjjcaaGreatDoorRA
namespace Go.Proofs.YtkbmdmipdcjjcaaGreatDoor
open Go.RowKit

def noSg (a : List UInt8) : Prop := ∀ c ∈ a, c ≠ 45 ∧ c ≠ 120
/-- What read makes of a text. -/
def RD (l n m t : List UInt8) (ok : Bool) : Prop :=
  (∃ a b, l = a ++ 45 :: b ∧ noSg a ∧ n = a ∧ m = b ∧ t = [49] ∧ ok = (numB a && numB b && ltB a b)) ∨
  (∃ a b, l = a ++ 120 :: b ∧ noSg a ∧ n = b ∧ m = b ∧ t = a ∧ ok = (numB a && numB b && ltB [49] a)) ∨
  (noSg l ∧ n = l ∧ m = l ∧ t = [49] ∧ ok = numB l)
def ReadPost (w : World) (s : ByteArray) (e : Ending) (w' : World) : Prop :=
  ∃ (n m t : ByteArray) (ok : Bool), e = .returned (.tuple #[.agg #[.string n, .string m, .string t], .bool ok]) ∧ RD s.data.toList n.data.toList m.data.toList t.data.toList ok ∧ Below w.heap.size w w'
theorem rd_cut (s : ByteArray) (k : Nat) (hk : k < s.size) : s.data.toList = (s.extract 0 k).data.toList ++ s[k] :: (s.extract (k + 1) s.size).data.toList ∧ (s.extract 0 k).data.toList = s.data.toList.take k := by
  have e1 : (s.extract 0 k).data.toList = s.data.toList.take k := by rw [Lib.extract_eq]; simp
  have e2 : (s.extract (k + 1) s.size).data.toList = s.data.toList.drop (k + 1) := by
    rw [Lib.extract_eq]
    show (s.data.toList.drop (k + 1)).take (s.size - (k + 1)) = _
    exact List.take_of_length_le (by rw [List.length_drop, size_len]; exact Nat.le_refl _)
  refine ⟨?_, e1⟩
  rw [e1, e2]
  have h := wh_cons s k hk
  rw [← h, List.take_append_drop]
theorem rd_size (s : ByteArray) (k : Nat) (hk : k < s.size) : (s.extract 0 k).size ≤ s.size ∧ (s.extract (k + 1) s.size).size ≤ s.size := by
  rw [ByteArray.size_extract, ByteArray.size_extract]; omega
theorem rd_none (s : ByteArray) (k : Nat) (h : ∀ j (hj : j < s.size), j < k → s[j] ≠ 45 ∧ s[j] ≠ 120) : noSg (s.data.toList.take k) := by
  intro c hc
  obtain ⟨j, hj, rfl⟩ := List.getElem_of_mem hc
  rw [List.length_take, size_len] at hj
  have := h j (by omega) (by omega)
  simp only [List.getElem_take]
  exact this
theorem byteI {c : UInt8} {k : Nat} (hk : k < 256) (h : (c.toNat : Int) = k) : c = UInt8.ofNat k := by
  apply UInt8.toNat.inj
  rw [UInt8.toNat_ofNat_of_lt' (by simpa using hk)]
  omega

set_option maxHeartbeats 2000000 in
set_option maxRecDepth 100000 in
theorem read_any (s : ByteArray) (w : World) (hs : s.size ≤ maxLen) :
    Calls Tryz.prog 24 #[.string s] w (ReadPost w s) := by
  have hm := hs
  have hN := fun (x : ByteArray) (w : World) (h : x.size ≤ s.size) => number_any x w (by omega)
  have HN := Lib.hid hN
  clear hN
  unfold maxLen at hs
  go_enter Tryz.func24, Tryz.ntmps24
  go_wp2_with fail
  go_loopw [4] (fun i wr => ∃ k : Nat, k ≤ s.size ∧ i = .int .i64 k ∧ (∀ j (hj : j < s.size), j < k → s[j] ≠ 45 ∧ s[j] ≠ 120) ∧ Below (w.heap.size + 1) (w.alloc (.cells #[.string ⟨#[]⟩, .string ⟨#[]⟩, .string ⟨#[]⟩] 59)) wr) (fun i _ => s.size - (intOf i).toNat)
  case atStart => exact ⟨0, Nat.zero_le _, rfl, fun j hj h => absurd h (Nat.not_lt_zero _), Below.refl _ _⟩
  case round =>
    obtain ⟨k, hk, rfl, hno, hbr⟩ := hrel
    have Hno := Lib.hid hno
    clear hno
    by_cases hlt : k < s.size
    · have n0 : (0 : Int) ≤ (k : Int) := by omega
      have n1 : (k : Int) < (s.size : Int) := by omega
      have n2 : (k : Int) + 1 ≤ (s.size : Int) := by omega
      obtain ⟨hcut, htk⟩ := rd_cut s k hlt
      obtain ⟨z1, z2⟩ := rd_size s k hlt
      have hno2 := rd_none s k Hno.out
      rw [← htk] at hno2
      have hNA := fun w => HN.out (s.extract 0 k) w z1
      have hNB := fun w => HN.out (s.extract (k + 1) s.size) w z2
      have hL := fun w => refLess_any (s.extract 0 k) (s.extract (k + 1) s.size) w
      have hM := fun w => refLess_any ⟨#[49]⟩ (s.extract 0 k) w
      rw [show (⟨#[49]⟩ : ByteArray).data.toList = [49] from rfl] at hM
      have Hcut := Lib.hid hcut
      have Hn2 := Lib.hid hno2
      obtain ⟨na, ha⟩ : ∃ b, numB (s.extract 0 k).data.toList = b := ⟨_, rfl⟩
      obtain ⟨nb, hb⟩ : ∃ b, numB (s.extract (k + 1) s.size).data.toList = b := ⟨_, rfl⟩
      obtain ⟨lc, hc⟩ : ∃ b, ltB (s.extract 0 k).data.toList (s.extract (k + 1) s.size).data.toList = b := ⟨_, rfl⟩
      obtain ⟨mc, hd⟩ : ∃ b, ltB [49] (s.extract 0 k).data.toList = b := ⟨_, rfl⟩
      rw [ha] at hNA
      rw [hb] at hNB
      rw [hc] at hL
      rw [hd] at hM
      have HNA := Lib.hid hNA
      have HNB := Lib.hid hNB
      have HL := Lib.hid hL
      have HM := Lib.hid hM
      have Ha := Lib.hid ha
      have Hb := Lib.hid hb
      have Hc := Lib.hid hc
      have Hd := Lib.hid hd
      have Htk := Lib.hid htk
      clear hcut hno2 hNA hNB hL hM ha hb hc hd htk
      by_cases h45 : ((s[k]'hlt).toNat : Int) = 45
      · have q1 : (((s[k]'hlt).toNat : Int) == 45) = true := by simpa using h45
        have e45 : s[k]'hlt = 45 := byteI (by decide) h45
        have hc45 := Hcut.out
        rw [e45] at hc45
        have fin : ∀ ok, ok = (na && nb && lc) → RD s.data.toList (s.extract 0 k).data.toList (s.extract (k + 1) s.size).data.toList (⟨#[49]⟩ : ByteArray).data.toList ok := fun ok h =>
          Or.inl ⟨_, _, hc45, Hn2.out, rfl, rfl, rfl, by rw [h, Ha.out, Hb.out, Hc.out]⟩
        have Fin := Lib.hid fin
        clear fin hc45 e45 h45
        go_wp2_with fail
        go_quiet (fail)
        obtain ⟨hc, hf⟩ := bcell' (below_drewN hbr nq)
        have hz : w.heap.size < (wr.drewN nq).heap.size := by have := (below_drewN hbr nq).size; simp at this ⊢; omega
        cases na with
        | false =>
          go_wp2_with fail
          refine (HNA.out _).mono ?_
          rintro e w' ⟨rfl, rfl⟩
          go_wp2_with fail
          refine bodyPost_ret (v := .tuple #[.agg #[.string (s.extract 0 k), .string (s.extract (k + 1) s.size), .string ⟨#[49]⟩], .bool false]) (by simp [results, Tryz.results24, go_sem, hc]) rfl ⟨_, _, _, _, rfl, Fin.out _ (by simp), ?_⟩
          exact ((((((Below.refl _ w).alloc (Nat.le_refl _) _).trans ((below_drewN hbr nq).mono (Nat.le_succ _)))).setCell (by exact Nat.le_refl _) _).setCell (by exact Nat.le_refl _) _).setCell (by exact Nat.le_refl _) _
        | true =>
          cases nb with
          | false =>
            go_wp2_with fail
            refine (HNA.out _).mono ?_
            rintro e w' ⟨rfl, rfl⟩
            go_wp2_with fail
            refine (HNB.out _).mono ?_
            rintro e w' ⟨rfl, rfl⟩
            go_wp2_with fail
            refine bodyPost_ret (v := .tuple #[.agg #[.string (s.extract 0 k), .string (s.extract (k + 1) s.size), .string ⟨#[49]⟩], .bool false]) (by simp [results, Tryz.results24, go_sem, hc]) rfl ⟨_, _, _, _, rfl, Fin.out _ (by simp), ?_⟩
            exact ((((((Below.refl _ w).alloc (Nat.le_refl _) _).trans ((below_drewN hbr nq).mono (Nat.le_succ _)))).setCell (by exact Nat.le_refl _) _).setCell (by exact Nat.le_refl _) _).setCell (by exact Nat.le_refl _) _
          | true =>
            go_wp2_with fail
            refine (HNA.out _).mono ?_
            rintro e w' ⟨rfl, rfl⟩
            go_wp2_with fail
            refine (HNB.out _).mono ?_
            rintro e w' ⟨rfl, rfl⟩
            go_wp2_with fail
            refine (HL.out _).mono ?_
            rintro e w' ⟨rfl, rfl⟩
            go_wp2_with fail
            refine bodyPost_ret (v := .tuple #[.agg #[.string (s.extract 0 k), .string (s.extract (k + 1) s.size), .string ⟨#[49]⟩], .bool lc]) (by simp [results, Tryz.results24, go_sem, hc]) rfl ⟨_, _, _, _, rfl, Fin.out _ (by simp), ?_⟩
            exact ((((((Below.refl _ w).alloc (Nat.le_refl _) _).trans ((below_drewN hbr nq).mono (Nat.le_succ _)))).setCell (by exact Nat.le_refl _) _).setCell (by exact Nat.le_refl _) _).setCell (by exact Nat.le_refl _) _
      · have q1 : (((s[k]'hlt).toNat : Int) == 45) = false := by simpa using h45
        by_cases h120 : ((s[k]'hlt).toNat : Int) = 120
        · have q2 : (((s[k]'hlt).toNat : Int) == 120) = true := by simpa using h120
          have e120 : s[k]'hlt = 120 := byteI (by decide) h120
          have hc120 := Hcut.out
          rw [e120] at hc120
          have fin : ∀ ok, ok = (na && nb && mc) → RD s.data.toList (s.extract (k + 1) s.size).data.toList (s.extract (k + 1) s.size).data.toList (s.extract 0 k).data.toList ok := fun ok h =>
            Or.inr (Or.inl ⟨_, _, hc120, Hn2.out, rfl, rfl, rfl, by rw [h, Ha.out, Hb.out, Hd.out]⟩)
          have Fin := Lib.hid fin
          clear fin hc120 e120 h120 h45
          go_wp2_with fail
          go_quiet (fail)
          obtain ⟨hc, hf⟩ := bcell' (below_drewN hbr nq)
          have hz : w.heap.size < (wr.drewN nq).heap.size := by have := (below_drewN hbr nq).size; simp at this ⊢; omega
          cases na with
          | false =>
            go_wp2_with fail
            refine (HNA.out _).mono ?_
            rintro e w' ⟨rfl, rfl⟩
            go_wp2_with fail
            refine bodyPost_ret (v := .tuple #[.agg #[.string (s.extract (k + 1) s.size), .string (s.extract (k + 1) s.size), .string (s.extract 0 k)], .bool false]) (by simp [results, Tryz.results24, go_sem, hc]) rfl ⟨_, _, _, _, rfl, Fin.out _ (by simp), ?_⟩
            exact ((((((Below.refl _ w).alloc (Nat.le_refl _) _).trans ((below_drewN hbr nq).mono (Nat.le_succ _)))).setCell (by exact Nat.le_refl _) _).setCell (by exact Nat.le_refl _) _).setCell (by exact Nat.le_refl _) _
          | true =>
            cases nb with
            | false =>
              go_wp2_with fail
              refine (HNA.out _).mono ?_
              rintro e w' ⟨rfl, rfl⟩
              go_wp2_with fail
              refine (HNB.out _).mono ?_
              rintro e w' ⟨rfl, rfl⟩
              go_wp2_with fail
              refine bodyPost_ret (v := .tuple #[.agg #[.string (s.extract (k + 1) s.size), .string (s.extract (k + 1) s.size), .string (s.extract 0 k)], .bool false]) (by simp [results, Tryz.results24, go_sem, hc]) rfl ⟨_, _, _, _, rfl, Fin.out _ (by simp), ?_⟩
              exact ((((((Below.refl _ w).alloc (Nat.le_refl _) _).trans ((below_drewN hbr nq).mono (Nat.le_succ _)))).setCell (by exact Nat.le_refl _) _).setCell (by exact Nat.le_refl _) _).setCell (by exact Nat.le_refl _) _
            | true =>
              go_wp2_with fail
              refine (HNA.out _).mono ?_
              rintro e w' ⟨rfl, rfl⟩
              go_wp2_with fail
              refine (HNB.out _).mono ?_
              rintro e w' ⟨rfl, rfl⟩
              go_wp2_with fail
              refine (HM.out _).mono ?_
              rintro e w' ⟨rfl, rfl⟩
              go_wp2_with fail
              refine bodyPost_ret (v := .tuple #[.agg #[.string (s.extract (k + 1) s.size), .string (s.extract (k + 1) s.size), .string (s.extract 0 k)], .bool mc]) (by simp [results, Tryz.results24, go_sem, hc]) rfl ⟨_, _, _, _, rfl, Fin.out _ (by simp), ?_⟩
              exact ((((((Below.refl _ w).alloc (Nat.le_refl _) _).trans ((below_drewN hbr nq).mono (Nat.le_succ _)))).setCell (by exact Nat.le_refl _) _).setCell (by exact Nat.le_refl _) _).setCell (by exact Nat.le_refl _) _
        · have q2 : (((s[k]'hlt).toNat : Int) == 120) = false := by simpa using h120
          have hnext : ∀ j (hj : j < s.size), j < k + 1 → s[j] ≠ 45 ∧ s[j] ≠ 120 := fun j hj h => by
            by_cases hjk : j = k
            · subst hjk
              exact ⟨fun e => h45 (by rw [e]; rfl), fun e => h120 (by rw [e]; rfl)⟩
            · exact Hno.out j hj (by omega)
          have Hx := Lib.hid hnext
          clear hnext h45 h120
          go_wp2_with fail
          go_quiet (fail)
          go_wp2_with fail
          go_roundw
          case rel => exact ⟨k + 1, by omega, by go_num, Hx.out, below_drewN hbr _⟩
          case measure => simp [intOf]; omega
    · have hke : k = s.size := by omega
      have n1 : ¬ (k : Int) < (s.size : Int) := by omega
      have hno2 := rd_none s k Hno.out
      rw [List.take_of_length_le (by rw [size_len]; omega)] at hno2
      have fin : RD s.data.toList s.data.toList s.data.toList (⟨#[49]⟩ : ByteArray).data.toList (numB s.data.toList) := Or.inr (Or.inr ⟨hno2, rfl, rfl, rfl, rfl⟩)
      have Fin := Lib.hid fin
      have HNS := Lib.hid (fun w => HN.out s w (Nat.le_refl _))
      clear fin hno2
      obtain ⟨hc, hf⟩ := bcell' hbr
      have hz : w.heap.size < wr.heap.size := by have := hbr.size; simp at this ⊢; omega
      go_wp2_with fail
      refine (HNS.out _).mono ?_
      rintro e w' ⟨rfl, rfl⟩
      go_wp2_with fail
      refine bodyPost_ret (v := .tuple #[.agg #[.string s, .string s, .string ⟨#[49]⟩], .bool (numB s.data.toList)]) (by simp [results, Tryz.results24, go_sem, hc]) rfl ⟨_, _, _, _, rfl, Fin.out, ?_⟩
      exact ((((((Below.refl _ w).alloc (Nat.le_refl _) _).trans (hbr.mono (Nat.le_succ _)))).setCell (by exact Nat.le_refl _) _).setCell (by exact Nat.le_refl _) _).setCell (by exact Nat.le_refl _) _
end Go.Proofs.YtkbmdmipdcjjcaaGreatDoor
