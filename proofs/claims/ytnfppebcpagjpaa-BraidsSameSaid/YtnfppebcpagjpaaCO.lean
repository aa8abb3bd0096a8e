/- The reference's Word of no power and Delta alone walked: the least word of Delta. -/
import Derived.Test.YtnfppebcpagjpaaCN
namespace Go.Proofs.Ytnfppebcpagjpaa
open Go.RowKit Go.Lib
theorem dw_len {n : Nat} (hn : n ≤ 12) : (dw n).length ≤ 300 := by
  have h : ∀ k : Fin 13, (dw k.val).length ≤ 300 := by decide +kernel
  exact h ⟨n, by omega⟩
/-- Delta as a list. -/
theorem ints_dl {n k : Nat} (h : k < n) : (ints n (dl n))[k]? = some (((n - 1 - k : Nat) : Int)) := by
  rw [ints_get _ h]
  show some ((rev n k : Nat) : Int) = _
  rw [rev_lt h]
theorem dl_perm (n : Nat) : PermL n (ints n (dl n)) := by
  refine ⟨fun z hz => ?_, ?_, ints_len _ _⟩
  · obtain ⟨k, hk, rfl⟩ := List.mem_map.1 hz
    have hk' := List.mem_range.1 hk
    have := (dl_in n).lt hk'
    omega
  · unfold ints List.Nodup
    rw [List.pairwise_map]
    exact List.nodup_range.imp (fun h e => h ((dl n).inj (by omega)))
/-- The line whose first k numbers are turned round. -/
def dlk (n k : Nat) : List Int := (List.range n).map fun i => ((if i < k then rev n i else i : Nat) : Int)
theorem dlk_len (n k : Nat) : (dlk n k).length = n := by simp [dlk]
theorem dlk_zero (n : Nat) : dlk n 0 = ints n idP := by
  unfold dlk ints
  exact List.map_congr_left fun i _ => by rw [if_neg (by omega)]; rfl
theorem dlk_all (n : Nat) : dlk n n = ints n (dl n) := by
  unfold dlk ints
  exact List.map_congr_left fun i hi => by rw [if_pos (List.mem_range.1 hi)]; rfl
theorem dlk_set {n k : Nat} (hk : k < n) : ((dlk n k).map (Value.int .i64)).set k (.int .i64 ((n - 1 - k : Nat) : Int)) = (dlk n (k + 1)).map (Value.int .i64) := by
  apply List.ext_getElem?
  intro j
  rw [List.getElem?_set, List.length_map, dlk_len]
  unfold dlk
  rcases Nat.lt_or_ge j n with hj | hj
  · simp only [List.getElem?_map, List.getElem?_range hj, Option.map_some]
    by_cases e : k = j
    · subst e
      rw [if_pos rfl, if_pos hk, if_pos (by omega), rev_lt hk]
    · rw [if_neg e]
      by_cases h : j < k
      · rw [if_pos h, if_pos (by omega)]
      · rw [if_neg h, if_neg (by omega)]
  · rw [if_neg (by omega), List.getElem?_eq_none (by simp; omega), List.getElem?_eq_none (by simp; omega)]
set_option maxHeartbeats 400000 in
set_option maxRecDepth 100000 in
theorem refsize_zero (w : World) : Calls Try.prog 57 #[.int .i64 0] w fun e w' => e = .returned (.int .i64 0) ∧ w' = w := by
  go_enter Try.func57, Try.ntmps57
  go_wp2_with fail
  go_ret
  exact ⟨rfl, rfl⟩
set_option maxHeartbeats 1000000 in
set_option maxRecDepth 100000 in
theorem refWord_delta (n : Nat) (h1 : 1 ≤ n) (hn : n ≤ 12) (g : Nat) (fr : Nat × Nat) (u : Value) (w : World) (hg : w.heap[g]? = some (.cells #[u] 22 fr)) (hu : IS w u (ints n (dl n))) :
    Calls Try.prog 34 #[.int .i64 (n : Int), .int .i64 0, .slice (some ⟨g, 0, none⟩) 1 1] w fun e w' => ∃ v', e = .returned (.tuple #[v', .int .i64 0]) ∧ IS w' v' (dw n) ∧ Below w.heap.size w w' := by
  have hgs := (Array.getElem?_eq_some_iff.1 hg).1
  have c0 : w.cell? ⟨g, 0, none⟩ = some u := cell_of_row w g 0 _ _ _ hg
  have Hu := Lib.hid hu
  have Hg := Lib.hid hgs
  have Hdl := Lib.hid (dw_len hn)
  have m1 : (1 : Int) ≤ (n : Int) := by omega
  have m2 : (n : Int) ≤ 12 := by omega
  obtain ⟨sa, sc, rfl, _, _, _, _⟩ := hu
  clear hg
  go_enter Try.func34, Try.ntmps34
  go_wp2_with fail
  go_loopw [8] (fun i wr => (i = .int .i64 0 ∨ i = .int .i64 1) ∧ Below w.heap.size w wr) (fun i _ => 1 - (intOf i).toNat)
  case atStart => exact ⟨.inl rfl, Below.refl _ _⟩
  case round =>
    obtain ⟨h, hbw⟩ := hrel
    have d0 := (hbw.cell (p := ⟨g, 0, none⟩) Hg.out).trans c0
    rcases h with rfl | rfl
    · go_wp2_with fail
      refine (refperm_any n h1 hn _ true ⟨fun _ => dl_perm n, fun _ => rfl⟩ _ wr (Hu.out.below hbw)).mono ?_
      rintro e w1 ⟨rfl, B1⟩
      have Hb1 := Lib.hid (hbw.trans (B1.mono hbw.size))
      clear B1 hbw
      go_wp2_with fail
      go_roundw
      case rel => exact ⟨.inr rfl, Hb1.out⟩
      case measure => simp [intOf]
    · have Hbw := Lib.hid hbw
      go_wp2_with fail
      refine (refline_any n hn wr).mono ?_
      rintro e w2 ⟨v2, rfl, O2, B2⟩
      obtain ⟨g2, c2, rfl⟩ := own_pos O2 (by omega)
      have HO2 := Lib.hid O2
      have Hb2 := Lib.hid (Hbw.out.trans (B2.mono Hbw.out.size))
      clear O2 B2 hbw d0
      go_wp2_with fail
      rename World => w2
      go_loopw [10] (fun i wr => ∃ k : Nat, k ≤ n ∧ i = .int .i64 k ∧ wr.ownsRow w.heap.size 3 1 (.slice (some ⟨g2, 0, none⟩) n c2) n ((dlk n k).map (Value.int .i64)) ∧ Below w.heap.size w wr) (fun i _ => n - (intOf i).toNat)
      case atStart => exact ⟨0, Nat.zero_le _, rfl, by rw [dlk_zero]; exact own_mono HO2.out Hbw.out.size, Hb2.out⟩
      case round =>
        obtain ⟨k, hk, rfl, hown, hbw⟩ := hrel
        rename World => wr
        by_cases hkn : k < n
        · have hg2 := hown.lt g2 rfl
          have n1 : IntKind.i64.wrap ((n : Int) - 1) = ((n - 1 : Nat) : Int) := num_in (by omega) (by omega)
          have n2 : IntKind.i64.wrap (((n - 1 : Nat) : Int) - (k : Int)) = ((n - 1 - k : Nat) : Int) := num_in (by omega) (by omega)
          have k0 : (0 : Int) ≤ (k : Int) := by omega
          have k1 : (k : Int) < (n : Int) := by omega
          have ck := hown.cellAt k (by omega)
          rw [List.getElem?_map, dlk, List.getElem?_map, List.getElem?_range hkn] at ck
          simp only [Option.map_some] at ck
          have fk := hown.frozenAt k
          have hst := (hown.stored k (.int .i64 ((n - 1 - k : Nat) : Int))).1
          rw [dlk_set hkn] at hst
          have Hst := Lib.hid hst
          have Hb := Lib.hid (hbw.setCell (p := ⟨g2, k, none⟩) hg2.1 (.int .i64 ((n - 1 - k : Nat) : Int)))
          clear hown hst hbw hg2
          go_wp2_with fail
          go_roundw
          case rel => exact ⟨k + 1, hkn, by go_num, Hst.out, Hb.out⟩
          case measure => (simp [intOf] <;> omega)
        · have e : k = n := by omega
          have k1 : ¬ (k : Int) < (n : Int) := by omega
          rw [e, dlk_all] at hown
          have hI := Lib.hid (is_own hown (ints_len n (dl n)))
          clear hown
          go_wp2_with fail
          refine (refleast_any n h1 hn (dl n) (dl_in n) _ wr hI.out).mono ?_
          rintro e w3 ⟨v3, rfl, O3, B3⟩
          have O3' : w3.ownsRow wr.heap.size 3 1 v3 (dw n).length ((dw n).map (Value.int .i64)) := O3
          obtain ⟨a3, c3, rfl⟩ := own_form O3'
          have Hb3 := Lib.hid (hbw.trans (B3.mono hbw.size))
          have hB3 := Hb3.out.size
          obtain ⟨dlen, hdlen⟩ : ∃ dlen, dlen = (dw n).length := ⟨_, rfl⟩
          rw [← hdlen]
          clear O3 O3' hI hdlen
          rcases Classical.em ((0 : Int) < (dlen : Int)) with hd | hd
          all_goals (
            go_wp2_with fail
            go_loop [12, 13] (fun o i => o = .slice none 0 0 ∧ i = .int .i64 0) (fun _ _ => 0)
            case atStart => exact ⟨rfl, rfl⟩
            case round =>
              obtain ⟨rfl, rfl⟩ := hrel
              go_wp2_with fail
              refine (refsize_zero _).mono ?_
              rintro e w4 ⟨rfl, rfl⟩
              go_wp2_with fail
              go_loopw [12, 14] (fun vo i wz => ∃ D, ((i = .int .i64 0 ∧ D = []) ∨ (i = .int .i64 1 ∧ D = dw n)) ∧ wz.ownsRow w.heap.size 3 1 vo D.length (D.map (Value.int .i64)) ∧ Below w.heap.size w wz) (fun _ i _ => 1 - (intOf i).toNat)
              case atStart => exact ⟨[], .inl ⟨rfl, rfl⟩, World.ownsRow_nil _ _ _ _, Hb3.out⟩
              case round =>
                obtain ⟨D, h, hown, hbz⟩ := hrel
                rename World => wz
                obtain ⟨ao, co, rfl⟩ := own_form hown
                have Hown := Lib.hid hown
                have hbzs := hbz.size
                have dz := (hbz.cell (p := ⟨g, 0, none⟩) Hg.out).trans c0
                clear hown
                rcases h with ⟨rfl, hD⟩ | ⟨rfl, hD⟩
                · subst hD
                  go_wp2_with fail
                  refine (refleast_any n h1 hn (dl n) (dl_in n) _ wz (Hu.out.below hbz)).mono ?_
                  rintro e w5 ⟨v5, rfl, O5, B5⟩
                  have O5' : w5.ownsRow wz.heap.size 3 1 v5 (dw n).length ((dw n).map (Value.int .i64)) := O5
                  have HI5 := Lib.hid (is_own O5' rfl)
                  have HO5 := Lib.hid (own_below Hown.out B5)
                  have Hb5 := Lib.hid (hbz.trans (B5.mono hbz.size))
                  have hdl := Hdl.out
                  clear O5 O5' B5 Hown
                  go_wp2_with (at_builtin; refine app_all (w0 := w) w.heap.size _ [] (dw n) rfl _ _ rfl rfl HO5.out _ rfl HI5.out (by simp; omega) Hb5.out Hb5.out.size ?_; intro v6 w6 O6 B6; have HO6 := Lib.hid O6; clear O6)
                  go_roundw
                  case rel => exact ⟨dw n, .inr ⟨rfl, rfl⟩, HO6.out, B6⟩
                  case measure => simp [intOf]
                · have hDl : D.length ≤ 300 := by rw [hD]; exact Hdl.out
                  have HD := Lib.hid hD
                  clear hD
                  go_wp2_with fail
                  go_ret2
                  exact ⟨_, rfl, by rw [← HD.out]; exact is_own Hown.out rfl, hbz⟩)
end Go.Proofs.Ytnfppebcpagjpaa
