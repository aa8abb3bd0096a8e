/- The program's Lines, where it returns lines. -/
import Derived.Test.YtojdihfcoijinaaDoorLC
import Derived.Test.YtojdihfcoijinaaDoorW
namespace Go.Proofs.YtojdihfcoijinaaDoor
open Go.RowKit

set_option maxHeartbeats 2000000 in
set_option maxRecDepth 100000 in
theorem Lines_many (s : ByteArray) (w : World) (g : Glob w) (hs : s.size ≤ 1048576) (hlast : s.data.toList.getLast? = some 10) (hcnt : ¬ 5000 < s.data.toList.count 10) :
    Calls Tryd.prog 26 #[.string s] w (LinesPost w s.data.toList) := by
  have hl := size_len s
  have hne : s.data.toList ≠ [] := fun e => by rw [e] at hlast; cases hlast
  have h0 : ¬ s.size = 0 := fun e => hne (List.eq_nil_of_length_eq_zero (by omega))
  obtain ⟨ht, ht'⟩ := toList_cons h0
  have hS := Tryd.strings_HasSuffix s ⟨#[10]⟩ w (by omega)
  rw [show (⟨#[10]⟩ : ByteArray).data.toList = [10] from rfl, suffix_ten, decide_eq_true hlast] at hS
  have hC := Tryd.strings_Count_one s 10 w
  rw [show Lib.countByte s.data.toList 10 = s.data.toList.count 10 from rfl] at hC
  obtain ⟨cc, hcc⟩ : ∃ c, s.data.toList.count 10 = c := ⟨_, rfl⟩
  rw [hcc] at hC
  have h5 : ¬ (5000 : Int) < (cc : Int) := by omega
  obtain ⟨m, hmx⟩ := g.mx
  obtain ⟨T, hT⟩ : ∃ T, s.extract 0 (s.size - 1) = T := ⟨_, rfl⟩
  have hTd : T.data.toList = s.data.toList.take (s.size - 1) := by rw [← hT, ext_take]
  have hTs : T.size ≤ s.size := by rw [← size_len, hTd, List.length_take]; omega
  have hsp : splitL 10 s.data.toList = splitL 10 T.data.toList ++ [[]] := by
    rw [← split_snoc, hTd]
    congr 1
    have hlast2 := hlast
    rw [List.getLast?_eq_some_getLast hne] at hlast2
    have h2 := Option.some.inj hlast2
    have h3 := (List.dropLast_concat_getLast hne).symm
    rw [h2, List.dropLast_eq_take, hl] at h3
    exact h3
  have hP := Tryd.strings_Split T ⟨#[10]⟩ m w (by omega) hmx (by decide)
  have hdata := splitB_all_data 10 T
  have hplen : (Lib.splitB ⟨#[10]⟩ 0 (Lib.countB T ⟨#[10]⟩) T).length = Lib.countB T ⟨#[10]⟩ + 1 := Lib.splitB_all ⟨#[10]⟩ (by decide) 0 _ T rfl
  have hcle : Lib.countB T ⟨#[10]⟩ ≤ T.size := Lib.countB_le ⟨#[10]⟩ (by decide) _ T (Nat.le_refl _)
  generalize Lib.splitB ⟨#[10]⟩ 0 (Lib.countB T ⟨#[10]⟩) T = ps at *
  generalize Lib.countB T ⟨#[10]⟩ = n at *
  have hpsz : ∀ p ∈ ps, p.size ≤ 281474976710656 := by
    intro p hp
    have := splitL_len 10 T.data.toList p.data.toList (by rw [← hdata]; exact List.mem_map_of_mem hp)
    rw [size_len, size_len] at this
    omega
  obtain ⟨C, hCd⟩ : ∃ C, (ps.map Value.string).toArray = C := ⟨_, rfl⟩
  have hCs : C.size = n + 1 := by rw [← hCd]; simp [hplen]
  have hCat : ∀ k (hk : k < ps.length), C[k]? = some (.string ps[k]) := by intro k hk; rw [← hCd]; simp [hk]
  have hCl : C.toList = (splitL 10 T.data.toList).map encS := by
    rw [← hCd, ← hdata, List.map_map]
    show ps.map Value.string = _
    apply List.map_congr_left
    intro p _
    show Value.string p = Value.string ⟨p.data.toList.toArray⟩
    cases p; simp
  have hlen : (splitL 10 T.data.toList).length = n + 1 := by rw [← hdata, List.length_map, hplen]
  rw [hCd] at hP
  have hfin : ∀ w' : World, w'.heap[w.heap.size]? = some (.cells C 9 (0, 0)) → Below w.heap.size w w' → LinesPost w s.data.toList (.returned (.tuple #[.slice (some ⟨w.heap.size, 0, none⟩) (n + 1) (n + 1), .int .i64 0])) w' := by
    intro w' hh hb
    have hsp2 : linesP s.data.toList = (splitL 10 T.data.toList, 0) := by
      unfold linesP
      rw [if_neg (by omega), if_neg (fun h => h.2 hlast), if_neg hcnt, hsp]
      simp
    unfold LinesPost
    rw [hsp2]
    refine ⟨_, rfl, ⟨by simp, Or.inr ⟨w.heap.size, n + 1, C, by show _ = Value.slice _ (splitL 10 T.data.toList).length _; rw [hlen], Nat.le_refl _, hh, by show (splitL 10 T.data.toList).length ≤ n + 1; omega, by unfold maxLen; omega, by omega, ?_⟩⟩, hb⟩
    show C.toList.take ((splitL 10 T.data.toList).length * 1) = _
    rw [List.take_of_length_le (by rw [Array.length_toList]; omega), hCl]
  have HF := Lib.hid hfin
  have HS := Lib.hid hS
  have HC := Lib.hid hC
  have HP := Lib.hid hP
  have HA := Lib.hid hCat
  have HZ := Lib.hid hpsz
  clear hfin hS hC hP hCat hpsz hCl hlen hsp hTd hdata hlast hne hmx hCd hcnt hcc
  go_enter Tryd.func26, Tryd.ntmps26
  go_wp2_with (first
    | (go_at_call 46; refine HS.out.mono ?_; rintro e w' ⟨rfl, hw⟩; rw [hw]; clear hw)
    | (go_at_call 47; refine HC.out.mono ?_; rintro e w' ⟨rfl, hw⟩; rw [hw]; clear hw)
    | (go_at_call 48; refine HP.out.mono ?_; rintro e w' ⟨rfl, hw⟩; rw [hw]; clear hw))
  go_loopw [25] (fun i wr => ∃ k : Nat, k ≤ n + 1 ∧ i = .int .i64 k ∧ wr.heap[w.heap.size]? = some (.cells C 9 (0, 0)) ∧ Below w.heap.size w wr) (fun i _ => n + 1 - (intOf i).toNat)
  case atStart => exact ⟨0, by omega, rfl, heap_alloc_new w _, below_alloc w _⟩
  case round =>
    obtain ⟨k, hk, rfl, hh, hbr⟩ := hrel
    by_cases hlt : k < n + 1
    · have hkp : k < ps.length := by omega
      have hCk := HA.out k hkp
      have hc := (cell_of_row _ _ k _ _ _ hh).trans hCk
      have hQ := Clone_any ps[k] wr (HZ.out _ (List.getElem_mem hkp))
      generalize ps[k] = p at *
      have HQ := Lib.hid hQ
      have HH := Lib.hid hh
      have HK := Lib.hid hCk
      have hBz : w.heap.size < wr.heap.size := (Array.getElem?_eq_some_iff.1 hh).1
      have n0 : (0 : Int) ≤ k := by omega
      have n1 : (k : Int) < (n : Int) + 1 := by omega
      clear hQ hh hCk
      go_wp2_with (go_at_call 44; refine HQ.out.mono ?_; rintro e w2 ⟨rfl, hb2⟩; have hh2 := (hb2.block _ hBz).trans HH.out; have c2 := (cell_of_row _ _ k _ _ _ hh2).trans HK.out; have f2 := frozen_of_row _ _ k _ _ hh2; have HH2 := Lib.hid hh2; clear hh2)
      go_roundw
      case rel => exact ⟨k + 1, by omega, by go_num, heap_again HH2.out HK.out, (hbr.trans (hb2.mono hbr.size)).setCell (Nat.le_refl _) _⟩
      case measure => simp [intOf]; omega
    · have HG := Lib.hid (HF.out wr hh hbr)
      have n1 : ¬ (k : Int) < (n : Int) + 1 := by omega
      clear hh
      go_wp2_with fail
      go_ret2
      exact HG.out
theorem Lines_any (s : ByteArray) (w : World) (g : Glob w) (hs : s.size ≤ maxLen) :
    Calls Tryd.prog 26 #[.string s] w (LinesPost w s.data.toList) := by
  by_cases hx : s.size ≤ 1048576 → s.data.toList.getLast? = some 10 → 5000 < s.data.toList.count 10
  · exact Lines_few s w hs hx
  · by_cases h1 : s.size ≤ 1048576
    · by_cases h2 : s.data.toList.getLast? = some 10
      · exact Lines_many s w g h1 h2 (fun h => hx fun _ _ => h)
      · exact absurd (fun _ h => absurd h h2) hx
    · exact absurd (fun h => absurd h h1) hx
end Go.Proofs.YtojdihfcoijinaaDoor
