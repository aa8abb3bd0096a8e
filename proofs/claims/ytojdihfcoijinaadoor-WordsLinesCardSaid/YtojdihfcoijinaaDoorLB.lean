/- The reference's Lines. -/
import Derived.Test.YtojdihfcoijinaaDoorLA
import Derived.Test.YtojdihfcoijinaaDoorQA
namespace Go.Proofs.YtojdihfcoijinaaDoor
open Go.RowKit

set_option maxHeartbeats 2000000 in
set_option maxRecDepth 100000 in
theorem refLines_any (s : ByteArray) (w : World) (hs : s.size ≤ maxLen) :
    Calls Tryd.prog 27 #[.string s] w (LinesPost w s.data.toList) := by
  have hl := size_len s
  unfold maxLen at hs
  by_cases hbig : 1048576 < s.size
  · have hP := lines_bad (w := w) (w' := w) (l := s.data.toList) (c := 3) (by unfold linesP; rw [if_pos (by omega)]) (Below.refl _ _)
    go_enter Tryd.func27, Tryd.ntmps27
    go_wp2_with fail
    go_ret2
    exact hP
  · have main : (s.data.toList = [] ∨ s.data.toList.getLast? = some 10) → Calls Tryd.prog 27 #[.string s] w (LinesPost w s.data.toList) := by
      intro hlast
      have hfact : (s.size : Int) = 0 ∨ (∃ h : 0 < s.size, ((s[s.size - 1]'(by omega)).toNat : Int) = 10) := by
        rcases hlast with h | h
        · left; rw [h] at hl; simp at hl; omega
        · right
          have hne : 0 < s.size := by
            rcases Nat.eq_zero_or_pos s.size with h0 | h0
            · rw [List.eq_nil_of_length_eq_zero (by omega : s.data.toList.length = 0)] at h; cases h
            · exact h0
          refine ⟨hne, ?_⟩
          rw [List.getLast?_eq_getElem?, List.getElem?_eq_getElem (by omega)] at h
          have h2 := Option.some.inj h
          have e0 : s.data.toList[s.size - 1]'(by omega) = s[s.size - 1]'(by omega) := by rfl
          simp only [hl] at h2
          rw [e0] at h2
          rw [h2]; rfl
      have hP3 := fun (w' : World) (h5 : 5000 < s.data.toList.count 10) (hb : Below w.heap.size w w') => lines_bad (w := w) (w' := w') (l := s.data.toList) (c := 3) (by unfold linesP; rw [if_neg (by omega), if_neg (fun h => hlast.elim (fun e => h.1 e) (fun e => h.2 e)), if_pos h5]) hb
      have hP0 := fun (h5 : ¬ 5000 < s.data.toList.count 10) => (show linesP s.data.toList = ((splitL 10 s.data.toList).dropLast, 0) by unfold linesP; rw [if_neg (by omega), if_neg (fun h => hlast.elim (fun e => h.1 e) (fun e => h.2 e)), if_neg h5])
      obtain ⟨i0, hi, hz0, hz1, hz2⟩ := info_parts infoStr
      have Hi := Lib.hid hi
      have HP3 := Lib.hid hP3
      have HP0 := Lib.hid hP0
      have HL := Lib.hid hlast
      clear hi hP3 hP0 hlast
      rcases hfact with h0 | ⟨hp, h10⟩
      · go_enter Tryd.func27, Tryd.ntmps27
        go_wp2_with fail
        go_loopw [4, 5, 6] (fun vo from_ i wr => ∃ (k f : Nat) (acc : List (List UInt8)), k ≤ s.size ∧ f ≤ k ∧ i = .int .i64 k ∧ from_ = .int .i64 f ∧ acc.length ≤ k ∧ wr.ownsRow w.heap.size 9 1 vo acc.length (acc.map encS) ∧ Below w.heap.size w wr ∧
          splitL 10 s.data.toList = acc ++ splitL 10 (s.data.toList.drop f) ∧ ∀ x ∈ midL s.data.toList f k, x ≠ 10) (fun _ _ i _ => s.size - (intOf i).toNat)
        case atStart => exact ⟨0, 0, [], by omega, by omega, rfl, rfl, by simp, World.ownsRow_nil _ _ _ _, Below.refl _ _, by simp, by simp [midL]⟩
        case round =>
          obtain ⟨k, f, acc, hk, hfk, rfl, rfl, hak, hown, hbr, hsp, hmid⟩ := hrel
          have Hown := Lib.hid hown
          have Hsp := Lib.hid hsp
          have Hmid := Lib.hid hmid
          clear hown hsp hmid
          have hbz := hbr.size
          by_cases hlt : k < s.size
          · exact absurd hlt (by omega)
          · have hmf : midL s.data.toList f k = s.data.toList.drop f := by unfold midL; rw [List.take_of_length_le (by omega)]
            have hnil := last_nil s f HL.out (by rw [← hmf]; exact Hmid.out)
            have hsp := Hsp.out
            rw [hnil] at hsp
            obtain ⟨ha, hc⟩ := lines_done _ acc hsp
            have hown := Hown.out
            have hfin : ¬ 5000 < acc.length → LinesPost w s.data.toList (.returned (.tuple #[u4, .int .i64 0])) wr := by
              intro h5
              have hf := HP0.out (by omega)
              rw [← ha] at hf
              unfold LinesPost; rw [hf]; exact ⟨_, rfl, hown, hbr⟩
            have hbad : 5000 < acc.length → LinesPost w s.data.toList (.returned (.tuple #[.slice none 0 0, .int .i64 3])) wr := fun h5 => HP3.out wr (by omega) hbr
            have HG := Lib.hid hfin
            have HB := Lib.hid hbad
            have hsh := hown.2
            clear hmf hnil hsp ha hc hown hfin hbad
            rcases hsh with ⟨rfl, h0⟩ | ⟨gg, cap, cur, rfl, _⟩
            · have h5 : ¬ 5000 < acc.length := by omega
              have HF := Lib.hid (HG.out h5)
              clear Hown
              go_wp2_with fail
              go_ret2
              exact HF.out
            · have h5 : ¬ 5000 < acc.length := by omega
              have HF := Lib.hid (HG.out h5)
              have h5' : ¬ (5000 : Int) < acc.length := by omega
              clear HB
              go_wp2_with fail
              go_ret2
              exact HF.out
      · go_enter Tryd.func27, Tryd.ntmps27
        go_wp2_with fail
        go_loopw [4, 5, 6] (fun vo from_ i wr => ∃ (k f : Nat) (acc : List (List UInt8)), k ≤ s.size ∧ f ≤ k ∧ i = .int .i64 k ∧ from_ = .int .i64 f ∧ acc.length ≤ k ∧ wr.ownsRow w.heap.size 9 1 vo acc.length (acc.map encS) ∧ Below w.heap.size w wr ∧
          splitL 10 s.data.toList = acc ++ splitL 10 (s.data.toList.drop f) ∧ ∀ x ∈ midL s.data.toList f k, x ≠ 10) (fun _ _ i _ => s.size - (intOf i).toNat)
        case atStart => exact ⟨0, 0, [], by omega, by omega, rfl, rfl, by simp, World.ownsRow_nil _ _ _ _, Below.refl _ _, by simp, by simp [midL]⟩
        case round =>
          obtain ⟨k, f, acc, hk, hfk, rfl, rfl, hak, hown, hbr, hsp, hmid⟩ := hrel
          have Hown := Lib.hid hown
          have Hsp := Lib.hid hsp
          have Hmid := Lib.hid hmid
          clear hown hsp hmid
          have hbz := hbr.size
          by_cases hlt : k < s.size
          · by_cases hq : ((s[k]'hlt).toNat : Int) = 10
            · have hcut := mid_cut s f k hfk hlt
              rw [show s[k] = 10 from UInt8.toNat.inj (by show _ = 10; omega)] at hcut
              have hs2 : splitL 10 s.data.toList = (acc ++ [midL s.data.toList f k]) ++ splitL 10 (s.data.toList.drop (k + 1)) := by
                rw [Hsp.out, hcut, split_piece 10 _ _ Hmid.out]; simp
              have Hs2 := Lib.hid hs2
              clear hcut hs2
              have Hown2 := Lib.hid (Hown.out.alloc (.cells #[.string (s.extract f k)] 9))
              go_wp2_with (at_builtin; refine wpList_append_own _ rfl _ _ 39 rfl w.heap.size 9 i0 (.string ⟨#[]⟩) 1 16 Tryd.underlying39 Hi.out hz0 hz1 hz2 rfl (by decide) _ _ _ rfl Hown2.out ⟨wr.heap.size, 0, none⟩ 1 1 [.string (s.extract f k)] rfl rfl ?c1 ?c2 ?c3 ?c4 ?c5 ?_)
              case c1 => exact World.news_of_block (cs := #[.string (s.extract f k)]) (t := 9) (fr := (0, 0)) (heap_alloc_new wr _)
              case c2 => simp [Value.oneCell']
              case c3 => unfold maxLen; omega
              case c4 => omega
              case c5 => simp; omega
              intro v' w3 hown3 hgrow _
              have hb3 : Below w.heap.size w w3 := by
                refine Below.grown (hbr.alloc hbz _) hgrow (by simp; omega) ?_
                intro k' e'
                exact (Hown2.out.lt k' e').1
              have hown4 : w3.ownsRow w.heap.size 9 1 v' (acc ++ [midL s.data.toList f k]).length ((acc ++ [midL s.data.toList f k]).map encS) := by
                rw [List.map_append, List.length_append]
                show w3.ownsRow w.heap.size 9 1 v' _ (acc.map encS ++ [Value.string ⟨(midL s.data.toList f k).toArray⟩])
                rw [← mid_ext]
                exact hown3
              have Hown4 := Lib.hid hown4
              clear hown3 hown4 hgrow
              go_wp2_with fail
              go_roundw
              case rel => exact ⟨k + 1, k + 1, acc ++ [midL s.data.toList f k], by omega, by omega, by go_num, by go_num, by simp; omega, Hown4.out, hb3, Hs2.out, by simp [midL]⟩
              case measure => simp [intOf]; omega
            · have hm2 : ∀ x ∈ midL s.data.toList f (k + 1), x ≠ 10 := by
                rw [mid_snoc s f k hfk hlt]
                intro x hx
                rcases List.mem_append.1 hx with hx | hx
                · exact Hmid.out x hx
                · rw [List.mem_singleton.1 hx]; intro e; rw [e] at hq; exact hq rfl
              have Hm2 := Lib.hid hm2
              clear hm2
              go_wp2_with fail
              go_roundw
              case rel => exact ⟨k + 1, f, acc, by omega, by omega, by go_num, rfl, by omega, Hown.out, hbr, Hsp.out, Hm2.out⟩
              case measure => simp [intOf]; omega
          · have hmf : midL s.data.toList f k = s.data.toList.drop f := by unfold midL; rw [List.take_of_length_le (by omega)]
            have hnil := last_nil s f HL.out (by rw [← hmf]; exact Hmid.out)
            have hsp := Hsp.out
            rw [hnil] at hsp
            obtain ⟨ha, hc⟩ := lines_done _ acc hsp
            have hown := Hown.out
            have hfin : ¬ 5000 < acc.length → LinesPost w s.data.toList (.returned (.tuple #[u4, .int .i64 0])) wr := by
              intro h5
              have hf := HP0.out (by omega)
              rw [← ha] at hf
              unfold LinesPost; rw [hf]; exact ⟨_, rfl, hown, hbr⟩
            have hbad : 5000 < acc.length → LinesPost w s.data.toList (.returned (.tuple #[.slice none 0 0, .int .i64 3])) wr := fun h5 => HP3.out wr (by omega) hbr
            have HG := Lib.hid hfin
            have HB := Lib.hid hbad
            have hsh := hown.2
            clear hmf hnil hsp ha hc hown hfin hbad
            rcases hsh with ⟨rfl, h0⟩ | ⟨gg, cap, cur, rfl, _⟩
            · have h5 : ¬ 5000 < acc.length := by omega
              have HF := Lib.hid (HG.out h5)
              clear Hown
              go_wp2_with fail
              go_ret2
              exact HF.out
            · by_cases h5 : 5000 < acc.length
              · have HF := Lib.hid (HB.out h5)
                have h5' : (5000 : Int) < acc.length := by omega
                go_wp2_with fail
                go_ret2
                exact HF.out
              · have HF := Lib.hid (HG.out h5)
                have h5' : ¬ (5000 : Int) < acc.length := by omega
                go_wp2_with fail
                go_ret2
                exact HF.out
    by_cases hlast : s.data.toList = [] ∨ s.data.toList.getLast? = some 10
    · exact main hlast
    · clear main
      have hP := lines_bad (w := w) (w' := w) (l := s.data.toList) (c := 6) (by unfold linesP; rw [if_neg (by omega), if_pos ⟨fun e => hlast (Or.inl e), fun e => hlast (Or.inr e)⟩]) (Below.refl _ _)
      have hp : 0 < s.size := by
        rcases Nat.eq_zero_or_pos s.size with h0 | h0
        · exact absurd (Or.inl (List.eq_nil_of_length_eq_zero (by omega))) hlast
        · exact h0
      have hne : ¬ ((s[s.size - 1]'(by omega)).toNat : Int) = 10 := by
        intro e
        refine hlast (Or.inr ?_)
        rw [List.getLast?_eq_getElem?, List.getElem?_eq_getElem (by omega)]
        have e0 : s.data.toList[s.size - 1]'(by omega) = s[s.size - 1]'(by omega) := by rfl
        simp only [hl]
        rw [e0]
        congr 1
        exact UInt8.toNat.inj (by show _ = 10; omega)
      have hneB : (((s[s.size - 1]'(by omega)).toNat : Int) != 10) = true := by simpa using hne
      have HP := Lib.hid hP
      clear hP hlast
      go_enter Tryd.func27, Tryd.ntmps27
      go_wp2_with fail
      go_ret2
      exact HP.out
end Go.Proofs.YtojdihfcoijinaaDoor
