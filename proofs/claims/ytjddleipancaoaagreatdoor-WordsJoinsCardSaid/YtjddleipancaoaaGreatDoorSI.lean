/- The law of joins. -/
import Derived.Test.YtjddleipancaoaaGreatDoorSH
namespace Go.Proofs.YtjddleipancaoaaGreatDoor
open Go.RowKit

def sumS (l : List Fld) : Nat := (l.map fun f => min f.2.length 6001).sum
theorem sumS_snoc (l : List Fld) (f : Fld) : sumS (l ++ [f]) = sumS l + min f.2.length 6001 := by simp [sumS]
theorem sumS_le : ∀ l : List Fld, sumS l ≤ 6001 * l.length
  | [] => Nat.le_refl _
  | f :: l => by
    have := sumS_le l
    show min f.2.length 6001 + sumS l ≤ _
    rw [List.length_cons]
    omega
theorem sumS_mem : ∀ {l : List Fld} {f : Fld}, f ∈ l → min f.2.length 6001 ≤ sumS l
  | g :: l, f, h => by
    show _ ≤ min g.2.length 6001 + sumS l
    rcases List.mem_cons.1 h with rfl | h
    · omega
    · have := sumS_mem h; omega
theorem joinSpec_zero {fs : List Fld} {L : List UInt8} (h : joinSpec fs = (L, 0)) : splitSpec L = (fs, 0) ∧ L.length ≤ 4096 := by
  unfold joinSpec at h
  by_cases h1 : 64 < fs.length
  · rw [if_pos h1] at h; simp at h
  · rw [if_neg h1] at h
    by_cases h2 : fs.all okF = true
    · rw [if_pos h2] at h
      by_cases h3 : 4096 < (joinL fs).length
      · rw [if_pos h3] at h; simp at h
      · rw [if_neg h3] at h
        obtain rfl := (Prod.mk.inj h).1
        refine ⟨?_, by omega⟩
        unfold splitSpec
        rw [if_neg h3, splitS_join (List.all_eq_true.1 h2)]
        simp only
        rw [if_neg h1]
    · rw [if_neg h2] at h; simp at h
theorem joinSpec_cases (fs : List Fld) : (joinSpec fs).2 = 0 ∨ ((joinSpec fs).1 = [] ∧ ((joinSpec fs).2 = 2 ∨ (joinSpec fs).2 = 3)) := by
  unfold joinSpec
  split
  · exact Or.inr ⟨rfl, Or.inr rfl⟩
  · split
    · split
      · exact Or.inr ⟨rfl, Or.inr rfl⟩
      · exact Or.inl rfl
    · exact Or.inr ⟨rfl, Or.inl rfl⟩

set_option maxHeartbeats 4000000 in
set_option maxRecDepth 100000 in
theorem joins_any (fs : List Fld) (v : Value) (w : World) (g : Glob w) (hv : SFld w v fs) (hl : fs.length ≤ maxLen) (hz : ∀ f ∈ fs, f.2.length ≤ maxLen) :
    Calls Tryz.prog 5 #[v] w fun e w' => e = .returned (.bool true) ∧ Below w.heap.size w w' := by
  have hv0 := hv
  obtain ⟨a, cap, rfl, hx⟩ := hv
  have hl0 := hl
  unfold maxLen at hl
  by_cases h : 100 < fs.length
  · clear hx hv0
    go_enter Tryz.func5, Tryz.ntmps5
    go_wp2_with (go_at_call 6; refine (shown_any _ g).mono ?_; rintro e w1 ⟨rfl, hb1⟩)
    go_ret
    exact ⟨rfl, hb1⟩
  · have Hx := Lib.hid hx
    have Hz := Lib.hid hz
    have Hv0 := Lib.hid hv0
    clear hx hz hv0
    go_enter Tryz.func5, Tryz.ntmps5
    go_wp2_with fail
    go_loop [3, 4] (fun n i => ∃ k : Nat, k ≤ fs.length ∧ i = .int .i64 k ∧ n = .int .i64 (sumS (fs.take k) : Nat)) (fun _ i => fs.length - (intOf i).toNat)
    case atStart => exact ⟨0, Nat.zero_le _, rfl, rfl⟩
    case round =>
      obtain ⟨k, hk, rfl, rfl⟩ := hrel
      have hsl := sumS_le (fs.take k)
      have hsl2 : sumS (fs.take k) ≤ 600100 := by
        have : (fs.take k).length ≤ 100 := by simp; omega
        omega
      obtain ⟨N, hN⟩ : ∃ N, sumS (fs.take k) = N := ⟨_, rfl⟩
      rw [hN] at hsl2 ⊢
      have HN := Lib.hid hN
      clear hsl hN
      by_cases hkl : k < fs.length
      · obtain ⟨b, off, rfl, hb, hc⟩ := Hx.out (by omega)
        obtain ⟨c0, c1⟩ := hc k hkl
        have htk := take_next hkl
        have hmem : fs[k] ∈ fs := List.getElem_mem hkl
        have hsz := Hz.out _ hmem
        have hsn := sumS_snoc (fs.take k) fs[k]
        rw [← htk, HN.out] at hsn
        generalize fs[k] = f at *
        obtain ⟨q, t⟩ := f
        simp only at c1 hsz hsn
        obtain ⟨T, hT⟩ : ∃ T : ByteArray, (⟨t.toArray⟩ : ByteArray) = T := ⟨_, rfl⟩
        have hTl : t.length = T.size := by rw [← hT, ← size_len]
        rw [hT] at c1
        rw [hTl] at hsz hsn
        have Hsn := Lib.hid hsn
        clear htk hc c0 hmem hsn hT hTl
        unfold maxLen at hsz
        have n0 : (0 : Int) ≤ (k : Int) := by omega
        have n1 : (k : Int) < (fs.length : Int) := by omega
        go_wp2_with fail
        go_round
        case rel => exact ⟨k + 1, by omega, by go_num, by rw [Hsn.out]; congr 1; omega⟩
        case measure => simp [intOf]; omega
      · have hN2 : sumS fs = N := by rw [← HN.out, List.take_of_length_le (by omega)]
        by_cases hbig : 6000 < N
        · have HN2 := Lib.hid hN2
          clear hN2
          go_wp2_with (go_at_call 6; refine (shown_any _ g).mono ?_; rintro e w1 ⟨rfl, hb1⟩)
          go_ret
          exact ⟨rfl, hb1⟩
        · have hlen : ∀ f ∈ fs, f.2.length ≤ 1000000 := fun f hf => by
            have := sumS_mem hf
            omega
          obtain ⟨J, hJ⟩ : ∃ J, joinSpec fs = J := ⟨_, rfl⟩
          have c1 := Join_any fs _ w g Hv0.out hlen hl0
          have c3 := fun w v (hv : SFld w v fs) => refJoin_any fs v w hv hlen hl0
          have hcs := joinSpec_cases fs
          have hok := fun L (e : joinSpec fs = (L, 0)) => joinSpec_zero e
          rw [hJ] at c1 hcs
          simp only [hJ] at c3 hok
          obtain ⟨L, n⟩ := J
          obtain ⟨JS, hJS⟩ : ∃ S : ByteArray, (⟨L.toArray⟩ : ByteArray) = S := ⟨_, rfl⟩
          have hJl : JS.data.toList = L := by rw [← hJS]
          simp only at c1 c3 hcs
          rw [hJS] at c1
          simp only [hJS] at c3
          have C1 := Lib.hid c1
          have C3 := Lib.hid c3
          have Hcs := Lib.hid hcs
          have Hok := Lib.hid hok
          have Hlen := Lib.hid hlen
          have HJl := Lib.hid hJl
          clear c1 c3 hcs hok hlen hJl hJS hJ hN2
          go_wp2_with fail
          refine C1.out.mono ?_
          rintro e w1 ⟨rfl, hb1⟩
          have g1 := g.next hb1
          have hv1 := Hv0.out.below hb1
          go_wp2_with fail
          refine (fields_any fs _ w1 hv1 (by omega)).mono ?_
          rintro e w2 ⟨v2, rfl, hown2, hb2⟩
          have g2 := g1.next hb2
          have hs2 := sfld_own hown2
          have hv2 := hv1.below hb2
          clear hown2
          go_wp2_with fail
          refine (C3.out w2 v2 hs2).mono ?_
          rintro e w3 ⟨rfl, hb3⟩
          have g3 := g2.next hb3
          have hv3 := hv2.below hb3
          have z1 := hb1.size
          have z2 := hb2.size
          have z3 := hb3.size
          have hall : Below w.heap.size w w3 := hb1.trans ((hb2.mono z1).trans (hb3.mono (Nat.le_trans z1 z2)))
          have zall := hall.size
          have Hall := Lib.hid hall
          clear hb1 hb2 hb3 hv1 hv2 hs2 hall
          by_cases hn : n = 0
          · subst hn
            obtain ⟨k1, k2⟩ := Hok.out L rfl
            have c4 := Split_any JS w3 g3 (by rw [← size_len, HJl.out]; unfold maxLen; omega)
            unfold SplitPost at c4
            rw [HJl.out, k1] at c4
            have C4 := Lib.hid c4
            clear c4 k1 k2
            go_wp2_with fail
            refine C4.out.mono ?_
            rintro e w4 ⟨v4, rfl, hown4, hb4⟩
            have g4 := g3.next hb4
            have hs4 := sfld_own hown4
            have hv4 := hv3.below hb4
            clear hown4
            go_wp2_with fail
            refine (fields_any fs v4 w4 hs4 (by omega)).mono ?_
            rintro e w5 ⟨v5, rfl, hown5, hb5⟩
            have g5 := g4.next hb5
            have hs5 := sfld_own hown5
            have hv5 := hv4.below hb5
            clear hown5
            go_wp2_with fail
            refine (fields_any fs _ w5 hv5 (by omega)).mono ?_
            rintro e w6 ⟨v6, rfl, hown6, hb6⟩
            have g6 := g5.next hb6
            have hs6 := sfld_own hown6
            have hs56 := hs5.below hb6
            clear hown6
            go_wp2_with fail
            have hA := alike_any fs fs v5 v6 w6 hs56 hs6 hl0
            rw [decide_eq_true rfl] at hA
            refine hA.mono ?_
            rintro e w7 ⟨rfl, hb7⟩
            have g7 := g6.next hb7
            have z4 := hb4.size
            have z5 := hb5.size
            have z6 := hb6.size
            have z7 := hb7.size
            have hall2 : Below w.heap.size w w7 := Hall.out.trans ((hb4.mono zall).trans ((hb5.mono (by omega)).trans ((hb6.mono (by omega)).trans (hb7.mono (by omega)))))
            have zall2 := hall2.size
            have Hall2 := Lib.hid hall2
            clear hA hb4 hb5 hb6 hb7 hall2 hs4 hv4 hs5 hv5 hs6 hs56 hv3
            go_wp2_with (go_at_call 6; refine (shown_any _ g7).mono ?_; rintro e w8 ⟨rfl, hb8⟩)
            go_ret
            exact ⟨rfl, Hall2.out.trans (hb8.mono zall2)⟩
          · have hn0 : (n == 0) = false := by simpa using hn
            clear hv3
            go_wp2_with (go_at_call 6; refine (shown_any _ g3).mono ?_; rintro e w8 ⟨rfl, hb8⟩)
            go_ret
            exact ⟨rfl, Hall.out.trans (hb8.mono zall)⟩
end Go.Proofs.YtjddleipancaoaaGreatDoor
