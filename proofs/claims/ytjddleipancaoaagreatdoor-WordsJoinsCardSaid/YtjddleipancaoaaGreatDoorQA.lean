/- The reference's Unquote. -/
import Derived.Test.YtjddleipancaoaaGreatDoorQm
namespace Go.Proofs.YtjddleipancaoaaGreatDoor
open Go.RowKit

def restL (l : List UInt8) (k : Nat) : List UInt8 := (l.take (l.length - 1)).drop k
theorem restL_one (l : List UInt8) : restL l 1 = inL l := by
  unfold restL inL
  rw [List.drop_take]
  congr 1
theorem restL_step (s : ByteArray) (k : Nat) (h : k + 1 < s.size) : restL s.data.toList k = (s[k]'(by omega)) :: restL s.data.toList (k + 1) := by
  unfold restL
  have hl := size_len s
  have h' : k < (s.data.toList.take (s.data.toList.length - 1)).length := by rw [List.length_take]; omega
  rw [List.drop_eq_getElem_cons h']
  congr 1
  rw [List.getElem_take]
  simp
  rfl
theorem restL_end (l : List UInt8) (k : Nat) (h : l.length ≤ k + 1) : restL l k = [] := by
  unfold restL
  exact List.drop_eq_nil_of_le (by rw [List.length_take]; omega)
def refU (l : List UInt8) : List UInt8 × Int := if unqB l then (unqT l, 0) else ([], 6)

theorem byte_eq {b : UInt8} (h : (b.toNat : Int) = 34) : b = 34 := UInt8.toNat.inj (by show _ = 34; omega)
theorem byte_ne {b : UInt8} (h : ¬ (b.toNat : Int) = 34) : b ≠ 34 := fun e => h (by rw [e]; rfl)
theorem uq_qq (r : List UInt8) : uq (34 :: 34 :: r) = (uq r).map (34 :: ·) := by simp [uq]
theorem uq_qn {c : UInt8} (h : c ≠ 34) (r : List UInt8) : uq (34 :: c :: r) = none := by simp [uq, h]
theorem shape_list : ∀ l : List UInt8, 2 ≤ l.length → l.head? = some 34 → l.getLast? = some 34 → l = 34 :: (inL l ++ [34])
  | [], h, _, _ => by simp at h
  | a :: r, h, h0, h1 => by
    have hr : r ≠ [] := fun e => by subst e; simp at h
    have ha : a = 34 := by simpa using h0
    subst ha
    have hl : r.getLast hr = 34 := by
      rw [List.getLast?_eq_some_getLast (by simp)] at h1
      have h2 := Option.some.inj h1
      rwa [List.getLast_cons hr] at h2
    have e : inL (34 :: r) = r.dropLast := by
      unfold inL
      rw [List.drop_succ_cons, List.drop_zero, List.dropLast_eq_take]
      congr 1
    rw [e]
    congr 1
    rw [← hl]
    exact (List.dropLast_concat_getLast hr).symm
theorem shape_of (s : ByteArray) (h : 2 ≤ s.size) (h0 : s[0]'(by omega) = 34) (h1 : s[s.size - 1]'(by omega) = 34) : s.data.toList = 34 :: (inL s.data.toList ++ [34]) := by
  have hl := size_len s
  refine shape_list _ (by omega) ?_ ?_
  · rw [List.head?_eq_getElem?, List.getElem?_eq_getElem (by omega), ← h0]; simp; rfl
  · rw [List.getLast?_eq_getElem?, List.getElem?_eq_getElem (by omega), ← h1]
    simp only [hl]
    simp
    rfl
theorem shape_first (s : ByteArray) (h : 2 ≤ s.size) (hx : s.data.toList = 34 :: (inL s.data.toList ++ [34])) : s[0]'(by omega) = 34 := by
  have hl := size_len s
  have e0 : s.data.toList[0]'(by omega) = s[0]'(by omega) := by simp; rfl
  rw [← e0]
  have : s.data.toList[0]? = some 34 := by rw [hx]; rfl
  rw [List.getElem?_eq_getElem (by omega)] at this
  exact Option.some.inj this
theorem shape_last (s : ByteArray) (h : 2 ≤ s.size) (hx : s.data.toList = 34 :: (inL s.data.toList ++ [34])) : s[s.size - 1]'(by omega) = 34 := by
  have hl := size_len s
  have e0 : s.data.toList[s.size - 1]'(by omega) = s[s.size - 1]'(by omega) := by rfl
  rw [← e0]
  have hgl : ∀ m : List UInt8, (34 :: (m ++ [34])).getLast? = some 34 := fun m => by rw [← List.cons_append, List.getLast?_concat]
  have : s.data.toList.getLast? = some 34 := by rw [hx]; exact hgl _
  rw [List.getLast?_eq_getElem?, List.getElem?_eq_getElem (by omega)] at this
  have h2 := Option.some.inj this
  rw [← h2]
  congr 1
theorem refU_none {l : List UInt8} (h : uq (inL l) = none) : refU l = ([], 6) := by unfold refU; rw [unq_none h]; rfl
theorem refU_some {l o : List UInt8} (hl : l = 34 :: (inL l ++ [34])) (h : uq (inL l) = some o) : refU l = if textB o then (o, 0) else ([], 6) := by
  obtain ⟨h1, h2⟩ := unq_some hl h
  unfold refU; rw [h1, h2]
theorem refU_shape {l : List UInt8} (h : ¬ l = 34 :: (inL l ++ [34])) : refU l = ([], 6) := by
  unfold refU
  cases hb : unqB l with
  | false => rfl
  | true =>
    refine absurd ?_ h
    have hq := (unqB_yes hb).2
    have hi := in_quote (unqT l)
    rw [hq] at hi
    rw [hi]
    exact hq.symm

set_option maxHeartbeats 400000 in
theorem refUnquote_any (s : ByteArray) (w : World) (hs : s.size < 4294967281) :
    Calls Tryz.prog 31 #[.string s] w fun e w' => e = .returned (.tuple #[.string ⟨(refU s.data.toList).1.toArray⟩, .int .i64 (refU s.data.toList).2]) ∧ w = w' := by
  have hl := size_len s
  by_cases h2 : s.size < 2
  · have hU : refU s.data.toList = ([], 6) := by unfold refU unqB; rw [hl]; simp; omega
    rw [hU]
    clear hU hl
    go_enter Tryz.func31, Tryz.ntmps31
    go_wp2_with fail
    go_ret2
    exact ⟨rfl, rfl⟩
  · by_cases h0 : ((s[0]'(by omega)).toNat : Int) = 34
    · by_cases h1 : ((s[s.size - 1]'(by omega)).toNat : Int) = 34
      · have hshape : s.data.toList = 34 :: (inL s.data.toList ++ [34]) := shape_of s (by omega) (byte_eq h0) (byte_eq h1)
        have hsome := fun o (ho : uq (restL s.data.toList 1) = some o) => refU_some hshape (by rw [← restL_one]; exact ho)
        have hnone := fun (ho : uq (restL s.data.toList 1) = none) => refU_none (l := s.data.toList) (by rw [← restL_one]; exact ho)
        obtain ⟨U, hU⟩ : ∃ U, refU s.data.toList = U := ⟨_, rfl⟩
        rw [hU] at hsome hnone
        rw [hU]
        have Hsome := Lib.hid hsome
        have Hnone := Lib.hid hnone
        clear hsome hnone hshape hU
        go_enter Tryz.func31, Tryz.ntmps31
        go_wp2_with fail
        clear h0 h1
        go_loop [4, 5] (fun o i => ∃ (k : Nat) (a : List UInt8), 1 ≤ k ∧ k + 1 ≤ s.size ∧ i = .int .i64 k ∧ o = .string ⟨a.toArray⟩ ∧ a.length ≤ k ∧ uq (restL s.data.toList 1) = (uq (restL s.data.toList k)).map (a ++ ·)) (fun _ i => s.size - (intOf i).toNat)
        case atStart => exact ⟨1, [], Nat.le_refl _, by omega, rfl, rfl, by simp, by simp⟩
        case round =>
          obtain ⟨k, a, hk1, hks, rfl, rfl, hak, hrel⟩ := hrel
          have Hrel := Lib.hid hrel
          clear hrel
          have hsz : (ByteArray.mk a.toArray).size = a.length := (size_len ⟨a.toArray⟩).symm
          by_cases hlt : k + 1 < s.size
          · have hstep := restL_step s k hlt
            have Hstep := Lib.hid hstep
            clear hstep
            by_cases hq : ((s[k]'(by omega)).toNat : Int) = 34
            · have hq' := byte_eq hq
              have Hq := Lib.hid hq'
              clear hq'
              by_cases he : k + 2 = s.size
              · have hbad : U = ([], 6) := Hnone.out (by rw [Hrel.out, Hstep.out, Hq.out, restL_end _ (k + 1) (by omega)]; rfl)
                have Hbad := Lib.hid hbad
                clear hbad
                go_wp2_with fail
                go_ret2
                exact ⟨by rw [Hbad.out]; rfl, rfl⟩
              · have hlt2 : k + 1 + 1 < s.size := by omega
                have hstep2 := restL_step s (k + 1) hlt2
                have Hstep2 := Lib.hid hstep2
                clear hstep2
                by_cases hq2 : ((s[k + 1]'(by omega)).toNat : Int) = 34
                · have hq2' := byte_eq hq2
                  have Hq2 := Lib.hid hq2'
                  clear hq2'
                  go_wp2_with fail
                  go_roundw
                  case rel => exact ⟨k + 2, a ++ [34], by omega, by omega, by go_num, by rw [extract_one (by omega), Hq.out]; simp [bytes_app], by simp; omega, by rw [Hrel.out, Hstep.out, Hq.out, Hstep2.out, Hq2.out, uq_qq]; simp [Option.map_map, Function.comp_def]⟩
                  case measure => simp [intOf]; omega
                · have hq2b : (((s[k + 1]'(by omega)).toNat : Int) != 34) = true := by simpa using hq2
                  have hbad : U = ([], 6) := Hnone.out (by rw [Hrel.out, Hstep.out, Hq.out, Hstep2.out, uq_qn (byte_ne hq2)]; rfl)
                  have Hbad := Lib.hid hbad
                  clear hbad
                  go_wp2_with fail
                  go_ret2
                  exact ⟨by rw [Hbad.out]; rfl, rfl⟩
            · go_wp2_with fail
              go_roundw
              case rel => exact ⟨k + 1, a ++ [s[k]'(by omega)], by omega, by omega, by go_num, by rw [extract_one (by omega)]; simp [bytes_app], by simp; omega, by rw [Hrel.out, Hstep.out, uq_ne (byte_ne hq)]; simp [Option.map_map, Function.comp_def]⟩
              case measure => simp [intOf]; omega
          · have hfin := Hsome.out a (by rw [Hrel.out, restL_end _ k (by rw [hl]; omega)]; simp [uq])
            have hT := refText_any ⟨a.toArray⟩ w (by unfold maxLen; omega)
            obtain ⟨b, hb⟩ : ∃ b, textB a = b := ⟨_, rfl⟩
            rw [show (ByteArray.mk a.toArray).data.toList = a from rfl, hb] at hT
            rw [hb] at hfin
            have HT := Lib.hid hT
            have HF := Lib.hid hfin
            clear hT hfin hb
            cases b with
            | true =>
              go_wp2_with (go_at_call 55; refine HT.out.mono ?_; rintro e w' ⟨rfl, rfl⟩)
              go_ret2
              exact ⟨by rw [HF.out]; rfl, rfl⟩
            | false =>
              go_wp2_with (go_at_call 55; refine HT.out.mono ?_; rintro e w' ⟨rfl, rfl⟩)
              go_ret2
              exact ⟨by rw [HF.out]; rfl, rfl⟩
      · have h1b : (((s[s.size - 1]'(by omega)).toNat : Int) != 34) = true := by simpa using h1
        have hU : refU s.data.toList = ([], 6) := refU_shape (fun h => h1 (by have := shape_last s (by omega) h; rw [this]; rfl))
        rw [hU]
        clear hU
        go_enter Tryz.func31, Tryz.ntmps31
        go_wp2_with fail
        go_ret2
        exact ⟨rfl, rfl⟩
    · have hU : refU s.data.toList = ([], 6) := refU_shape (fun h => h0 (by have := shape_first s (by omega) h; rw [this]; rfl))
      rw [hU]
      clear hU
      go_enter Tryz.func31, Tryz.ntmps31
      go_wp2_with fail
      go_ret2
      exact ⟨rfl, rfl⟩
end Go.Proofs.YtjddleipancaoaaGreatDoor
