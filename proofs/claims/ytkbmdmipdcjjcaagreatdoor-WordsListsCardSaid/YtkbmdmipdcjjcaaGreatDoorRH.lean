/- The reference's List. -/
import Derived.Test.YtkbmdmipdcjjcaaGreatDoorRG
namespace Go.Proofs.YtkbmdmipdcjjcaaGreatDoor
open Go.RowKit

theorem texts_any (zs : List Int) (i q b off cap : Nat) (w : World) (hq5 : q ≤ 500) (hz : ∀ z ∈ zs, 0 ≤ z ∧ z ≤ 9999) (hb : b < w.heap.size)
    (hc : ∀ j, j < q + 1 → w.cell? ⟨b, off + i + j, none⟩ = some (.int .i64 (zs.getD (i + j) 0))) :
    Calls Tryz.prog 21 #[.slice (some ⟨b, off + i, none⟩) (q + 1) cap] w (TextsPost w (txO (zs.drop i) q)) := by
  have hy : ∀ j, 0 ≤ (zs.drop i).getD j 0 ∧ (zs.drop i).getD j 0 ≤ 9999 := fun j => by rw [drop_getD]; exact getD_bd hz _
  by_cases hq : q = 0
  · subst hq
    refine texts_one (zs.drop i) b (off + i) cap w (hy 0) hb ?_
    rw [drop_getD]
    exact hc 0 (by omega)
  · exact texts_more (zs.drop i) q b (off + i) cap w (by omega) hq5 hy hb (fun j hj => by rw [drop_getD]; exact hc j hj)
theorem tx_size {zs : List Int} (hz : ∀ z ∈ zs, 0 ≤ z ∧ z ≤ 9999) (hlen : zs.length ≤ 500) {i m : Nat} {t : ByteArray} (hi : i + m < zs.length) (h : txO (zs.drop i) m = some t) : t.size ≤ 64 ∧ t.size ≠ 0 := by
  refine ⟨itL_size zs hz hlen i _ (tx_mem hi h), ?_⟩
  obtain ⟨x, _, ht, _, _⟩ := tx_item hz hlen hi h
  rw [data_size, ht]
  exact itext_ne x
theorem empty_of {B : ByteArray} (h : B.size = 0) : B = ⟨#[]⟩ := by
  have h1 : B.data.toList = [] := List.eq_nil_of_length_eq_zero (by rw [size_len]; exact h)
  have h2 : B.data = #[] := by
    apply Array.ext'
    rw [h1]
  cases B
  simp only at h2
  rw [h2]
theorem ltB_size {s B : ByteArray} (h : s.size < B.size) : ltB s.data.toList B.data.toList = true := (ltB_iff _ _).2 (Or.inl (by rw [size_len, size_len]; exact h))
theorem ltB_bytes {s B : ByteArray} (h : s.size = B.size) (hl : Op.bytesLess s.toList B.toList = true) : ltB s.data.toList B.data.toList = true :=
  (ltB_iff _ _).2 (Or.inr ⟨by rw [size_len, size_len]; exact h, by rw [← toList_data, ← toList_data]; exact hl⟩)
theorem ltB_neg {s B : ByteArray} (h : ¬ s.size < B.size) (hl : s.size = B.size → Op.bytesLess s.toList B.toList = false) : ltB s.data.toList B.data.toList = false := by
  rw [Bool.eq_false_iff]
  intro e
  rcases (ltB_iff _ _).1 e with e | ⟨e1, e2⟩
  · rw [size_len, size_len] at e; exact h e
  · rw [size_len, size_len] at e1
    have := hl e1
    rw [toList_data, toList_data, e2] at this
    cases this

set_option maxRecDepth 100000 in
set_option maxHeartbeats 8000000 in
theorem refList_rest (zs : List Int) (b off cap : Nat) (w : World) (hcap : zs.length ≤ cap) (hlen : zs.length ≤ 500) (hne : 0 < zs.length) (hb : b < w.heap.size)
    (hcs : ∀ j, j < zs.length → w.cell? ⟨b, off + j, none⟩ = some (.int .i64 (zs.getD j 0))) :
    Calls Tryz.prog 8 #[.slice (some ⟨b, off, none⟩) zs.length cap] w (ListPost w zs) := by
  have Hcs := Lib.hid hcs
  have hPb : rangeB zs = false → ListPost w zs (.returned (.tuple #[.string ⟨#[]⟩, .int .i64 7])) w := fun h => by
    unfold ListPost listP; rw [if_neg (by omega), h]; exact ⟨rfl, Below.refl _ _⟩
  have hPg : rangeB zs = true → ∀ w' B, BestR zs 0 B → (∀ z ∈ zs, 0 ≤ z ∧ z ≤ 9999) → Below w.heap.size w w' → ListPost w zs (.returned (.tuple #[.string B, .int .i64 0])) w' := fun h w' B hB hz hb => by
    have e := best_list hz hlen hB
    unfold ListPost listP; rw [if_neg (by omega), if_pos h]
    refine ⟨?_, hb⟩
    show _ = Ending.returned (.tuple #[.string ⟨(listS zs).toArray⟩, .int .i64 0])
    rw [← e]
  have HPb := Lib.hid hPb
  have HPg := Lib.hid hPg
  obtain ⟨i0, hi, hz0, hz1, hz2⟩ := info_parts infoStr
  obtain ⟨M, hM⟩ : ∃ M, M = madeCells (Value.string ⟨#[]⟩).cells (zs.length + 1) := ⟨_, rfl⟩
  have hMs : M.size = zs.length + 1 := by rw [hM]; exact size_madeCells _ _
  have hMat : ∀ j, j < zs.length + 1 → M[j]? = some (.string ⟨#[]⟩) := fun j hj => by rw [hM]; exact made_at _ _ _ hj
  have hmk : ∀ W : World, (Instr.makeSlice 47 (.int .i64 ((zs.length : Int) + 1)) (.int .i64 ((zs.length : Int) + 1))).run Tryz.prog W = .ok (.slice (some ⟨W.heap.size, 0, none⟩) (zs.length + 1) (zs.length + 1)) (W.alloc (.cells M 9)) := fun W => by
    have h := run_make (P := Tryz.prog) W 47 9 i0 (.string ⟨#[]⟩) Tryz.underlying47 hi hz0 .i64 .i64 ((zs.length : Int) + 1) ((zs.length : Int) + 1) (by omega) (by omega) (by rw [hz2]; omega) (by omega)
    have e : ((zs.length : Int) + 1).toNat = zs.length + 1 := by omega
    rw [hz1, e, Nat.mul_one, ← hM] at h
    exact h
  have HMat := Lib.hid hMat
  have HMs := Lib.hid hMs
  clear hcs hPb hPg hM hMs hMat hi
  have hbz := hb
  go_enter Tryz.func8, Tryz.ntmps8
  go_wp2_with fail
  go_loop [4] (fun i => ∃ k : Nat, k ≤ zs.length ∧ i = .int .i64 k ∧ ∀ j, j < k → 0 ≤ zs.getD j 0 ∧ zs.getD j 0 ≤ 9999) (fun i => zs.length - (intOf i).toNat)
  case atStart => exact ⟨0, Nat.zero_le _, rfl, fun j hj => by omega⟩
  case round =>
    obtain ⟨k, hk, rfl, hall⟩ := hrel
    have Hall := Lib.hid hall
    clear hall
    by_cases hkl : k < zs.length
    · have ck := Hcs.out k hkl
      have hbad := fun h => rangeB_bad hkl h
      obtain ⟨z, hz⟩ : ∃ z, zs.getD k 0 = z := ⟨_, rfl⟩
      rw [hz] at ck hbad
      have Hz := Lib.hid hz
      have Hbad := Lib.hid hbad
      clear hz hbad
      by_cases h1 : z < 0
      · go_wp2_with fail
        go_ret2
        exact HPb.out (Hbad.out (.inl h1))
      · by_cases h2 : 9999 < z
        · go_wp2_with fail
          go_ret2
          exact HPb.out (Hbad.out (.inr h2))
        · go_wp2_with fail
          go_round
          case rel =>
            refine ⟨k + 1, by omega, by go_num, fun j hj => ?_⟩
            by_cases hjk : j < k
            · exact Hall.out j hjk
            · obtain rfl : j = k := by omega
              rw [Hz.out]; omega
          case measure => (simp [intOf] <;> omega)
    · obtain rfl : k = zs.length := by omega
      obtain ⟨hrg, hzz⟩ := rangeB_end Hall.out
      have Hrg := Lib.hid hrg
      have Hzz := Lib.hid hzz
      clear hrg hzz
      go_wp2_with fail
      go_loopw [6] (fun i wr => ∃ (p : Nat) (cur : Array Value) (T : Nat → ByteArray), p ≤ zs.length ∧ i = .int .i64 ((p : Int) - 1) ∧ wr.heap[w.heap.size]? = some (.cells cur 9 (0, 0)) ∧ cur.size = zs.length + 1 ∧ (∀ j, j < zs.length + 1 → cur[j]? = some (.string (T j))) ∧ (∀ j, j < p → T j = ⟨#[]⟩) ∧ (∀ j, p ≤ j → j < zs.length → BestR zs j (T j)) ∧ Below w.heap.size w wr) (fun i _ => (intOf i + 1).toNat)
      case atStart => exact ⟨zs.length, M, fun _ => ⟨#[]⟩, Nat.le_refl _, rfl, heap_alloc_new w _, HMs.out, fun j hj => HMat.out j hj, fun _ _ => rfl, fun j h1 h2 => by omega, (Below.refl _ w).alloc (Nat.le_refl _) _⟩
      case round =>
        obtain ⟨p, cur, T, hp, rfl, hrow, hcur, hcells, hemp, hbest, hbr⟩ := hrel
        have hrow0 := (Array.getElem?_eq_some_iff.1 hrow).1
        have Hrow := Lib.hid hrow
        have Hcur := Lib.hid hcur
        have Hcells := Lib.hid hcells
        have Hemp := Lib.hid hemp
        have Hbest := Lib.hid hbest
        clear hrow hcur hcells hemp hbest
        by_cases hp0 : 0 < p
        · obtain ⟨i, rfl⟩ : ∃ i, p = i + 1 := ⟨p - 1, by omega⟩
          have ei : ((i + 1 : Nat) : Int) - 1 = (i : Int) := by omega
          rw [ei]
          have il : i < zs.length := by omega
          have HT := Lib.hid (fun j (h1 : i < j) (h2 : j < zs.length) => Hbest.out j (by omega) h2)
          have HTz := Lib.hid (fun j (h1 : i < j) (h2 : j < zs.length) => best_size Hzz.out (Hbest.out j (by omega) h2))
          clear ei hmk
          go_wp2_with fail
          have Hst := Lib.hid (show ∀ j, j < zs.length + 1 → cur[j]? = some (.string (if j = i then ⟨#[]⟩ else T j)) from fun j hj => by
            rw [Hcells.out j hj]
            by_cases e : j = i
            · rw [if_pos e, Hemp.out j (by omega)]
            · rw [if_neg e])
          go_loopw [7] (fun tv wy => ∃ (q : Nat) (cu : Array Value) (B : ByteArray), i + q ≤ zs.length ∧ tv = .int .i64 ((i + q : Nat) : Int) ∧ wy.heap[w.heap.size]? = some (.cells cu 9 (0, 0)) ∧ cu.size = zs.length + 1 ∧ (∀ j, j < zs.length + 1 → cu[j]? = some (.string (if j = i then B else T j))) ∧ CI zs T i q B ∧ B.size ≤ 2600 ∧ Below w.heap.size w wy) (fun tv _ => zs.length - (intOf tv).toNat)
          case atStart => exact ⟨0, cur, ⟨#[]⟩, by omega, rfl, Hrow.out, Hcur.out, Hst.out, Or.inl ⟨rfl, rfl⟩, Nat.zero_le _, hbr⟩
          case round =>
            obtain ⟨q, cu, B, hq, rfl, hrw, hcu, hcl, hci, hBz, hby⟩ := hrel
            rename World => wy
            have hrw0 := (Array.getElem?_eq_some_iff.1 hrw).1
            have Hrw := Lib.hid hrw
            have Hcu := Lib.hid hcu
            have Hcl := Lib.hid hcl
            have Hci := Lib.hid hci
            clear hrw hcu hcl hci Hrow Hcur Hcells
            have hyz := hby.size
            by_cases hql : i + q < zs.length
            · have hX := fun c => texts_any zs i q b off c wy (by omega) Hzz.out (by omega) (fun j hj => by
                rw [Nat.add_assoc]
                exact (hby.cell (p := ⟨b, off + (i + j), none⟩) hb).trans (Hcs.out (i + j) (by omega)))
              have HX := Lib.hid hX
              clear hX
              obtain ⟨r, hr⟩ : ∃ r, i + q = r := ⟨_, rfl⟩
              have hrq : r + 1 - i = q + 1 := by omega
              have hir : i ≤ r := by omega
              have Hr := Lib.hid hr
              have Hrq := Lib.hid hrq
              rw [hr] at hql ⊢
              clear hr hrq hq
              have x0 : (0 : Int) ≤ (i : Int) := by omega
              have x1 : (i : Int) ≤ (r : Int) + 1 := by omega
              have x2 : (r : Int) + 1 ≤ (zs.length : Int) := by omega
              have x3 : (r : Int) + 1 ≤ (cap : Int) := by omega
              go_wp2_with fail
              rw [Hrq.out]
              refine (HX.out _).mono ?_
              rintro e w1 ⟨hb1, ⟨hO, rfl⟩ | ⟨t, g, hO, rfl, hg0, hg1, hgc⟩⟩
              · have hfin : BestR zs i B := ci_done Hzz.out hlen il (by have := Hr.out; omega) Hci.out HT.out (Or.inr hO)
                have Hfin := Lib.hid hfin
                have Hrw1 := Lib.hid ((hb1.block _ hrw0).trans Hrw.out)
                have hbw := hby.trans (hb1.mono hyz)
                clear hfin hO HX
                go_wp2_with fail
                go_loopw [9] (fun kv wz => kv = .int .i64 0 ∧ wz.heap[w.heap.size]? = some (.cells cu 9 (0, 0)) ∧ Below w.heap.size w wz) (fun _ _ => 0)
                case atStart => exact ⟨rfl, Hrw1.out, hbw⟩
                case round =>
                  obtain ⟨rfl, hrz, hbz3⟩ := hrel
                  rename World => wz
                  have Hrz := Lib.hid hrz
                  clear hrz
                  go_wp2_with fail
                  go_roundw
                  case rel =>
                    refine ⟨i, cu, fun j => if j = i then B else T j, by omega, by first | rfl | go_num, Hrz.out, Hcu.out, Hcl.out, fun j hj => ?_, fun j h1 h2 => ?_, hbz3⟩
                    · show (if j = i then B else T j) = _
                      rw [if_neg (by omega)]
                      exact Hemp.out j (by omega)
                    · show BestR zs j (if j = i then B else T j)
                      by_cases e : j = i
                      · rw [if_pos e, e]; exact Hfin.out
                      · rw [if_neg e]; exact Hbest.out j (by omega) h2
                  case measure => (simp [intOf] <;> omega)
              · have Hrw1 := Lib.hid ((hb1.block _ hrw0).trans Hrw.out)
                have hbw := hby.trans (hb1.mono hyz)
                obtain ⟨ts1, ts2⟩ := tx_size Hzz.out hlen (by have := Hr.out; omega) hO
                have Hgc := Lib.hid hgc
                have HO := Lib.hid hO
                clear HX hgc
                go_wp2_with fail
                go_loopw [9] (fun kv wz => ∃ (kk : Nat) (c3 : Array Value) (B3 : ByteArray), kk ≤ 1 ∧ kv = .int .i64 kk ∧ wz.heap[w.heap.size]? = some (.cells c3 9 (0, 0)) ∧ c3.size = zs.length + 1 ∧ (∀ j, j < zs.length + 1 → c3[j]? = some (.string (if j = i then B3 else T j))) ∧ Below w.heap.size w wz ∧ (kk = 0 → B3 = B ∧ wz.cell? ⟨g, 0, none⟩ = some (.string t)) ∧ (kk = 1 → CI zs T i (q + 1) B3 ∧ B3.size ≤ 2600)) (fun kv _ => 1 - (intOf kv).toNat)
                case atStart => exact ⟨0, cu, B, by omega, rfl, Hrw1.out, Hcu.out, Hcl.out, hbw, fun _ => ⟨rfl, Hgc.out⟩, fun e => by cases e⟩
                case round =>
                  obtain ⟨kk, c3, B3, hkk, rfl, hr3, hc3, hl3, hb3, h30, h31⟩ := hrel
                  rename World => wz
                  have Hr3 := Lib.hid hr3
                  have Hl3 := Lib.hid hl3
                  by_cases k0 : kk = 0
                  · subst k0
                    obtain ⟨rfl, hgc3⟩ := h30 rfl
                    rename ByteArray => B
                    have hbi := cell_of_row wz w.heap.size i c3 _ _ hr3
                    rw [hl3 i (by omega), if_pos rfl] at hbi
                    have hfi := frozen_of_row wz w.heap.size i c3 _ hr3
                    have hb1z := hb3.size
                    by_cases hn : r + 1 < zs.length
                    · have hbr1 := cell_of_row wz w.heap.size (r + 1) c3 _ _ hr3
                      rw [hl3 (r + 1) (by omega), if_neg (by omega)] at hbr1
                      have hTs := HTz.out (r + 1) (by omega) hn
                      have HSd := Lib.hid (show t ++ ⟨#[44]⟩ ++ T (r + 1) = cnd zs T i q t by unfold cnd; rw [Hr.out, if_pos hn])
                      have y1 : (r : Int) + 1 < (zs.length : Int) := by omega
                      have k44 : (ByteArray.mk #[44]).size = 1 := rfl
                      have Hcz := Lib.hid (show (t ++ ⟨#[44]⟩ ++ T (r + 1)).size = t.size + 1 + (T (r + 1)).size by rw [ByteArray.size_append, ByteArray.size_append]; rfl)
                      have k45 : (t ++ ⟨#[44]⟩).size ≤ 65 := by rw [ByteArray.size_append]; omega
                      have k46 : (t ++ ⟨#[44]⟩).size ≠ 0 := by rw [ByteArray.size_append]; omega
                      clear hr3 hl3 h30 h31 Hrw1 Hgc Hst Hrw
                      have hSz : (t ++ ⟨#[44]⟩ ++ T (r + 1)).size ≤ 2600 := by rw [ByteArray.size_append]; omega
                      have hSn : (t ++ ⟨#[44]⟩ ++ T (r + 1)).size ≠ 0 := by rw [ByteArray.size_append]; omega
                      have hnx := ci_next Hci.out hO HSd.out hSn
                      have HrowS := Lib.hid (heap_setCell_same wz w.heap.size i c3 9 (.string (t ++ ⟨#[44]⟩ ++ T (r + 1))) Hr3.out)
                      by_cases hB0 : B.size = 0
                      · rw [if_pos (Or.inl hB0)] at hnx
                        have Hnx := Lib.hid hnx
                        obtain rfl := empty_of hB0
                        clear hnx hB0
                        clear hb1z
                        go_wp2_with fail
                        go_roundw
                        case rel =>
                          refine ⟨1, _, (t ++ ⟨#[44]⟩ ++ T (r + 1)), Nat.le_refl _, by first | rfl | go_num, HrowS.out, by rw [Array.size_setIfInBounds]; exact hc3, fun j hj => ?_, hb3.setCell (p := ⟨w.heap.size, i, none⟩) (Nat.le_refl _) _, fun e => absurd e (by decide), fun _ => ⟨Hnx.out, hSz⟩⟩
                          rw [Array.getElem?_setIfInBounds]
                          by_cases e : i = j
                          · rw [if_pos e, if_pos (by rw [hc3]; omega), if_pos e.symm]
                          · rw [if_neg e, Hl3.out j hj, if_neg (fun e' => e e'.symm), if_neg (fun e' => e e'.symm)]
                        case measure => simp [intOf]
                      · have hBe : ¬ B.toList = [] := by
                          rw [toList_data]
                          intro e
                          rw [← size_len, e] at hB0
                          exact hB0 rfl
                        have hBe2 : (B.toList == []) = false := by rw [beq_eq_false_iff_ne]; exact hBe
                        by_cases hlt : (t ++ ⟨#[44]⟩ ++ T (r + 1)).size < B.size
                        · rw [if_pos (Or.inr (ltB_size hlt))] at hnx
                          have Hnx := Lib.hid hnx
                          have hlt' : ((t.size : Int) + 1 + ((T (r + 1)).size : Int)) < (B.size : Int) := by have := Hcz.out; omega
                          clear hnx
                          clear hb1z
                          go_wp2_with fail
                          go_roundw
                          case rel =>
                            refine ⟨1, _, (t ++ ⟨#[44]⟩ ++ T (r + 1)), Nat.le_refl _, by first | rfl | go_num, HrowS.out, by rw [Array.size_setIfInBounds]; exact hc3, fun j hj => ?_, hb3.setCell (p := ⟨w.heap.size, i, none⟩) (Nat.le_refl _) _, fun e => absurd e (by decide), fun _ => ⟨Hnx.out, hSz⟩⟩
                            rw [Array.getElem?_setIfInBounds]
                            by_cases e : i = j
                            · rw [if_pos e, if_pos (by rw [hc3]; omega), if_pos e.symm]
                            · rw [if_neg e, Hl3.out j hj, if_neg (fun e' => e e'.symm), if_neg (fun e' => e e'.symm)]
                          case measure => simp [intOf]
                        · have hlt' : ¬ ((t.size : Int) + 1 + ((T (r + 1)).size : Int)) < (B.size : Int) := by have := Hcz.out; omega
                          by_cases heq : (t ++ ⟨#[44]⟩ ++ T (r + 1)).size = B.size ∧ Op.bytesLess (t ++ ⟨#[44]⟩ ++ T (r + 1)).toList B.toList = true
                          · rw [if_pos (Or.inr (ltB_bytes heq.1 heq.2))] at hnx
                            have Hnx := Lib.hid hnx
                            obtain ⟨heq1, heq2⟩ := heq
                            have heq' : (((t.size : Int) + 1 + ((T (r + 1)).size : Int)) == (B.size : Int)) = true := by rw [beq_iff_eq]; have := Hcz.out; omega
                            clear hnx
                            clear hb1z
                            go_wp2_with fail
                            go_roundw
                            case rel =>
                              refine ⟨1, _, (t ++ ⟨#[44]⟩ ++ T (r + 1)), Nat.le_refl _, by first | rfl | go_num, HrowS.out, by rw [Array.size_setIfInBounds]; exact hc3, fun j hj => ?_, hb3.setCell (p := ⟨w.heap.size, i, none⟩) (Nat.le_refl _) _, fun e => absurd e (by decide), fun _ => ⟨Hnx.out, hSz⟩⟩
                              rw [Array.getElem?_setIfInBounds]
                              by_cases e : i = j
                              · rw [if_pos e, if_pos (by rw [hc3]; omega), if_pos e.symm]
                              · rw [if_neg e, Hl3.out j hj, if_neg (fun e' => e e'.symm), if_neg (fun e' => e e'.symm)]
                            case measure => simp [intOf]
                          · rw [if_neg (by
                              rintro (e | e)
                              · exact hB0 e
                              · rw [ltB_neg hlt (fun e1 => by
                                  rw [Bool.eq_false_iff]
                                  exact fun e2 => heq ⟨e1, e2⟩)] at e
                                cases e)] at hnx
                            have Hnx := Lib.hid hnx
                            by_cases he2 : (t ++ ⟨#[44]⟩ ++ T (r + 1)).size = B.size
                            · have hbl : Op.bytesLess (t ++ ⟨#[44]⟩ ++ T (r + 1)).toList B.toList = false := by
                                rw [Bool.eq_false_iff]
                                exact fun e2 => heq ⟨he2, e2⟩
                              have heq' : (((t.size : Int) + 1 + ((T (r + 1)).size : Int)) == (B.size : Int)) = true := by rw [beq_iff_eq]; have := Hcz.out; omega
                              clear hnx heq
                              clear hb1z
                              go_wp2_with fail
                              go_roundw
                              case rel => exact ⟨1, c3, B, Nat.le_refl _, by first | rfl | go_num, Hr3.out, hc3, Hl3.out, hb3, fun e => absurd e (by decide), fun _ => ⟨Hnx.out, hBz⟩⟩
                              case measure => simp [intOf]
                            · have heq' : (((t.size : Int) + 1 + ((T (r + 1)).size : Int)) == (B.size : Int)) = false := by rw [beq_eq_false_iff_ne]; have := Hcz.out; omega
                              clear hnx heq
                              clear hb1z
                              go_wp2_with fail
                              go_roundw
                              case rel => exact ⟨1, c3, B, Nat.le_refl _, by first | rfl | go_num, Hr3.out, hc3, Hl3.out, hb3, fun e => absurd e (by decide), fun _ => ⟨Hnx.out, hBz⟩⟩
                              case measure => simp [intOf]
                    · have HSd := Lib.hid (show t = cnd zs T i q t by unfold cnd; rw [Hr.out, if_neg hn])
                      have y1 : ¬ (r : Int) + 1 < (zs.length : Int) := by omega
                      clear hr3 hl3 h30 h31 Hrw1 Hgc Hst Hrw
                      have hSz : (t).size ≤ 2600 := by omega
                      have hSn : (t).size ≠ 0 := by exact ts2
                      have hnx := ci_next Hci.out hO HSd.out hSn
                      have HrowS := Lib.hid (heap_setCell_same wz w.heap.size i c3 9 (.string (t)) Hr3.out)
                      by_cases hB0 : B.size = 0
                      · rw [if_pos (Or.inl hB0)] at hnx
                        have Hnx := Lib.hid hnx
                        obtain rfl := empty_of hB0
                        clear hnx hB0
                        clear hb1z
                        go_wp2_with fail
                        go_roundw
                        case rel =>
                          refine ⟨1, _, (t), Nat.le_refl _, by first | rfl | go_num, HrowS.out, by rw [Array.size_setIfInBounds]; exact hc3, fun j hj => ?_, hb3.setCell (p := ⟨w.heap.size, i, none⟩) (Nat.le_refl _) _, fun e => absurd e (by decide), fun _ => ⟨Hnx.out, hSz⟩⟩
                          rw [Array.getElem?_setIfInBounds]
                          by_cases e : i = j
                          · rw [if_pos e, if_pos (by rw [hc3]; omega), if_pos e.symm]
                          · rw [if_neg e, Hl3.out j hj, if_neg (fun e' => e e'.symm), if_neg (fun e' => e e'.symm)]
                        case measure => simp [intOf]
                      · have hBe : ¬ B.toList = [] := by
                          rw [toList_data]
                          intro e
                          rw [← size_len, e] at hB0
                          exact hB0 rfl
                        have hBe2 : (B.toList == []) = false := by rw [beq_eq_false_iff_ne]; exact hBe
                        by_cases hlt : (t).size < B.size
                        · rw [if_pos (Or.inr (ltB_size hlt))] at hnx
                          have Hnx := Lib.hid hnx
                          have hlt' : (((t).size : Nat) : Int) < (B.size : Int) := by omega
                          clear hnx
                          clear hb1z
                          go_wp2_with fail
                          go_roundw
                          case rel =>
                            refine ⟨1, _, (t), Nat.le_refl _, by first | rfl | go_num, HrowS.out, by rw [Array.size_setIfInBounds]; exact hc3, fun j hj => ?_, hb3.setCell (p := ⟨w.heap.size, i, none⟩) (Nat.le_refl _) _, fun e => absurd e (by decide), fun _ => ⟨Hnx.out, hSz⟩⟩
                            rw [Array.getElem?_setIfInBounds]
                            by_cases e : i = j
                            · rw [if_pos e, if_pos (by rw [hc3]; omega), if_pos e.symm]
                            · rw [if_neg e, Hl3.out j hj, if_neg (fun e' => e e'.symm), if_neg (fun e' => e e'.symm)]
                          case measure => simp [intOf]
                        · have hlt' : ¬ (((t).size : Nat) : Int) < (B.size : Int) := by omega
                          by_cases heq : (t).size = B.size ∧ Op.bytesLess (t).toList B.toList = true
                          · rw [if_pos (Or.inr (ltB_bytes heq.1 heq.2))] at hnx
                            have Hnx := Lib.hid hnx
                            obtain ⟨heq1, heq2⟩ := heq
                            have heq' : ((((t).size : Nat) : Int) == (B.size : Int)) = true := by rw [beq_iff_eq]; omega
                            clear hnx
                            clear hb1z
                            go_wp2_with fail
                            go_roundw
                            case rel =>
                              refine ⟨1, _, (t), Nat.le_refl _, by first | rfl | go_num, HrowS.out, by rw [Array.size_setIfInBounds]; exact hc3, fun j hj => ?_, hb3.setCell (p := ⟨w.heap.size, i, none⟩) (Nat.le_refl _) _, fun e => absurd e (by decide), fun _ => ⟨Hnx.out, hSz⟩⟩
                              rw [Array.getElem?_setIfInBounds]
                              by_cases e : i = j
                              · rw [if_pos e, if_pos (by rw [hc3]; omega), if_pos e.symm]
                              · rw [if_neg e, Hl3.out j hj, if_neg (fun e' => e e'.symm), if_neg (fun e' => e e'.symm)]
                            case measure => simp [intOf]
                          · rw [if_neg (by
                              rintro (e | e)
                              · exact hB0 e
                              · rw [ltB_neg hlt (fun e1 => by
                                  rw [Bool.eq_false_iff]
                                  exact fun e2 => heq ⟨e1, e2⟩)] at e
                                cases e)] at hnx
                            have Hnx := Lib.hid hnx
                            by_cases he2 : (t).size = B.size
                            · have hbl : Op.bytesLess (t).toList B.toList = false := by
                                rw [Bool.eq_false_iff]
                                exact fun e2 => heq ⟨he2, e2⟩
                              have heq' : ((((t).size : Nat) : Int) == (B.size : Int)) = true := by rw [beq_iff_eq]; omega
                              clear hnx heq
                              clear hb1z
                              go_wp2_with fail
                              go_roundw
                              case rel => exact ⟨1, c3, B, Nat.le_refl _, by first | rfl | go_num, Hr3.out, hc3, Hl3.out, hb3, fun e => absurd e (by decide), fun _ => ⟨Hnx.out, hBz⟩⟩
                              case measure => simp [intOf]
                            · have heq' : ((((t).size : Nat) : Int) == (B.size : Int)) = false := by rw [beq_eq_false_iff_ne]; omega
                              clear hnx heq
                              clear hb1z
                              go_wp2_with fail
                              go_roundw
                              case rel => exact ⟨1, c3, B, Nat.le_refl _, by first | rfl | go_num, Hr3.out, hc3, Hl3.out, hb3, fun e => absurd e (by decide), fun _ => ⟨Hnx.out, hBz⟩⟩
                              case measure => simp [intOf]
                  · have k1 : kk = 1 := by omega
                    subst k1
                    obtain ⟨hci1, hbz1⟩ := h31 rfl
                    have Hci1 := Lib.hid hci1
                    clear hci1 hr3 hl3 h30 h31 k0
                    have hrl : i + (q + 1) = r + 1 := by have := Hr.out; omega
                    go_wp2_with fail
                    go_roundw
                    case rel => exact ⟨q + 1, c3, B3, by omega, by (rw [hrl]; first | rfl | go_num), Hr3.out, hc3, Hl3.out, Hci1.out, hbz1, hb3⟩
                    case measure => (simp [intOf] <;> omega)
            · have hfin : BestR zs i B := ci_done Hzz.out hlen il (by omega) Hci.out HT.out (Or.inl (by omega))
              have Hfin := Lib.hid hfin
              clear hfin
              go_wp2_with fail
              go_roundw
              case rel =>
                refine ⟨i, cu, fun j => if j = i then B else T j, by omega, by first | rfl | go_num, Hrw.out, Hcu.out, Hcl.out, fun j hj => ?_, fun j h1 h2 => ?_, hby⟩
                · show (if j = i then B else T j) = _
                  rw [if_neg (by omega)]
                  exact Hemp.out j (by omega)
                · show BestR zs j (if j = i then B else T j)
                  by_cases e : j = i
                  · rw [if_pos e, e]; exact Hfin.out
                  · rw [if_neg e]; exact Hbest.out j (by omega) h2
              case measure => (simp [intOf] <;> omega)
        · have hp1 : p = 0 := by omega
          subst hp1
          have hc0 := cell_of_row wr w.heap.size 0 cur _ _ Hrow.out
          rw [Hcells.out 0 (by omega)] at hc0
          have HB := Lib.hid (Hbest.out 0 (Nat.le_refl _) hne)
          have e1 : ((0 : Nat) : Int) - 1 = -1 := by omega
          rw [e1]
          clear e1 hmk
          go_wp2_with fail
          go_ret2
          exact HPg.out Hrg.out _ _ HB.out Hzz.out hbr
end Go.Proofs.YtkbmdmipdcjjcaaGreatDoor
