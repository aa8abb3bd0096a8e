/- The reference's Normal walked. -/
import Derived.Test.YtnfppebcpagjpaaEP
import Derived.Deep.RegionLaw
namespace Go.Proofs.Ytnfppebcpagjpaa
open Go.RowKit Go.Lib
set_option maxHeartbeats 4000000 in
set_option maxRecDepth 100000 in
theorem refNormal_ok (m : Nat) (m1 : 1 ≤ m) (m2 : m ≤ 12) (ws : List Int) (hl : ws.length ≤ 400) (hw : Word m ws) (v : Value) (w : World) (hv : IS w v ws) :
    Calls Try.prog 71 #[.int .i64 (m : Int), v] w fun e w' => ∃ v', e = .returned (.tuple #[.int .i64 (nf m ws).1, v', .int .i64 0]) ∧ FS w' v' ((nf m ws).2.map (ints m)) ∧ Below w.heap.size w w' := by
  obtain ⟨i1, hi, hz0, hz1, hz2⟩ := info_parts infoInts
  obtain ⟨sa, sc, rfl, k1, k2, _, hI⟩ := hv
  have CK := Lib.hid (refCheck_any m ws sa sc w hI k1 k2)
  rw [checkV_of m1 m2 hl hw] at CK
  have HI := Lib.hid hI
  have Hw := Lib.hid hw
  have Hi := Lib.hid hi
  clear hI hw hi
  go_enter Try.func71, Try.ntmps71
  go_wp2_with fail
  refine CK.out.mono ?_
  rintro e w1 ⟨rfl, B1⟩
  have HB1 := Lib.hid B1
  clear B1 CK
  go_wp2_with fail
  go_loopw [8, 9, 10] (fun vp vo i wr => ∃ (k : Nat) (fs : List Value), k ≤ ws.length ∧ i = .int .i64 k ∧ vp = .int .i64 (-(negs (ws.take k))) ∧ wr.ownsRow w.heap.size 22 1 vo k fs ∧ Rows w.heap.size m wr fs (rl m (ws.take k)) ∧ Below w.heap.size w wr) (fun _ _ i _ => ws.length - (intOf i).toNat)
  case atStart => exact ⟨0, [], Nat.zero_le _, rfl, rfl, World.ownsRow_nil _ _ _ _, fun k x h => by simp [rl] at h, HB1.out⟩
  case round =>
    obtain ⟨k, fs, hk, rfl, rfl, hown, hrows, hbw⟩ := hrel
    have hbs := hbw.size
    by_cases hkl : k < ws.length
    · obtain ⟨x, hx⟩ : ∃ x, ws[k]? = some x := ⟨_, List.getElem?_eq_getElem hkl⟩
      have hlet : Letter m x := Hw.out x (List.mem_of_getElem? hx)
      obtain ⟨b0, off, rfl, hb0, hc⟩ := HI.out k x hx
      have hcx := (hbw.cell (p := ⟨b0, off + k, none⟩) hb0).trans hc
      have Hcx := Lib.hid hc
      have Htk := Lib.hid (take_more hx)
      have k0 : (0 : Int) ≤ (k : Int) := by omega
      have k1' : (k : Int) < (ws.length : Int) := by omega
      have HO := Lib.hid hown
      have HR := Lib.hid hrows
      have HB := Lib.hid hbw
      have hfl := Lib.hid hown.1
      obtain ⟨ao, co, rfl⟩ := own_form hown
      clear hown hrows hbw hc hx
      by_cases hp : 0 < x
      · obtain ⟨q, rfl, hq⟩ := pos_nat hlet hp
        have CL := Lib.hid (fun W => refline_any m m2 W)
        have CA := Lib.hid (fun v W h => refafter_any m m1 m2 idP q hq v W h)
        clear hlet
        go_wp2_with fail
        go_region_law (first
          | (go_simp; go_at_call 84; go_loud (refine (CA.out v4 _ (by first | exact is_own HO4.out (ints_len m idP) | exact is_own HO4.out.drew (ints_len m idP))).mono ?_); rintro e w5 ⟨v5, rfl, O5, B5⟩; have BW5 := Lib.hid (show Below wr.heap.size wr w5 by first | exact bon BW4.out B5 | exact bon BW4.out.drew B5); have HO5 := Lib.hid (own_below HO.out BW5.out); have HB5 := Lib.hid (bon HB.out BW5.out); have HP5 := Lib.hid (own_mono O5 (b' := w.heap.size) (bon HB.out BW4.out).size); obtain ⟨g5, c5, rfl⟩ := own_pos O5 m1; clear O5 B5)
          | (go_simp; go_at_call 56; go_loud (refine (CL.out _).mono ?_); rintro e w4 ⟨v4, rfl, O4, B4⟩; have HO4 := Lib.hid O4; have BW4 := Lib.hid (show Below wr.heap.size wr w4 by first | exact B4 | exact bon ((Below.refl _ wr).drew) B4); have hc4 := ((bon HB.out BW4.out).cell (p := ⟨b0, off + k, none⟩) hb0).trans Hcx.out; clear O4 B4)
          | ((refine step_rows (o := ⟨some 45, _, _, _, _, _⟩) (w0 := w) w.heap.size (.slice ao k co) fs k (.slice (some ⟨g5, 0, none⟩) m c5) rfl rfl (.tmp 36) (.tmp 44) rfl (by rfl) (by exact HO5.out.alloc _) w5.heap.size (by rfl) (by exact cell_of_row _ _ 0 _ _ _ (heap_alloc_new _ _)) (by omega) (by exact HB5.out.alloc HB5.out.size _) (by exact Nat.le_trans HB5.out.size (below_alloc _ _).size) ?_); intro v6 w6 O6 G6 B6))
        all_goals
          have hR6 : Rows w.heap.size m w6 (fs ++ [.slice (some ⟨g5, 0, none⟩) m c5]) (rl m (ws.take (k + 1))) := by
            rw [Htk.out, rl_pos]
            refine (((HR.out.below BW5.out).below (below_alloc w5 _)).grown (HO5.out.alloc _) G6.out).snoc ?_ ((HP5.out.alloc _).kept G6.out (own_apart HP5.out HO5.out (by decide)))
            rw [hfl.out, rl_len, List.length_take]
            omega
          have HR6 := Lib.hid hR6
          have HO6 := Lib.hid O6.out
          have HB6 := Lib.hid B6.out
          have Hng := Lib.hid (show negs (ws.take (k + 1)) = negs (ws.take k) by rw [Htk.out, negs_pos])
          clear hR6 O6 G6 B6 HP5 HO5 HB5 BW5 BW4 HO4 hc4
          go_wp2_with fail
          go_roundw
          case rel => exact ⟨k + 1, _, hkl, by go_num, by rw [Hng.out], HO6.out, HR6.out, HB6.out⟩
          case measure => (simp [intOf] <;> omega)
      · obtain ⟨q, rfl, hq⟩ := neg_nat hlet hp
        have hng := negs_le (ws.take k)
        have hltk : (ws.take k).length = k := by rw [List.length_take]; omega
        rw [hltk] at hng
        have n1 : IntKind.i64.wrap (-(negs (ws.take k)) - 1) = -(negs (ws.take k)) - 1 := IntWalk.i64_in _ (by omega)
        have Hng := Lib.hid (show negs (ws.take (k + 1)) = negs (ws.take k) + 1 by rw [Htk.out, negs_neg])
        obtain ⟨L, hL⟩ : ∃ L, L = rl m (ws.take k) := ⟨_, rfl⟩
        have hLl : L.length = k := by rw [hL, rl_len, hltk]
        have Hrl := Lib.hid (show rl m (ws.take (k + 1)) = L.map (tu m) ++ [(dl m).post q] by rw [Htk.out, rl_neg _ hq, hL])
        have HLi := Lib.hid (show AllIn m L by rw [hL]; exact rl_in _ (fun z hz => Hw.out z (List.mem_of_mem_take hz)))
        rw [← hL] at HR
        have HLl := Lib.hid hLl
        have CW := Lib.hid (fun W => refwith_any m m1 m2 q hq W)
        have Hn1 := Lib.hid n1
        generalize negs (ws.take k) = ng at *
        clear hlet hL hLl hltk
        go_wp2_with fail
        go_loopw [11] (fun i wz => ∃ (j : Nat) (gs : List Value), j ≤ k ∧ i = .int .i64 j ∧ wz.ownsRow w.heap.size 22 1 (.slice ao k co) k gs ∧ Rows w.heap.size m wz gs ((L.take j).map (tu m) ++ L.drop j) ∧ Below w.heap.size w wz) (fun i _ => k - (intOf i).toNat)
        case atStart => exact ⟨0, fs, Nat.zero_le _, rfl, HO.out, by simpa using HR.out, HB.out⟩
        case round =>
          obtain ⟨j, gs, hj, rfl, hown, hrows, hbz⟩ := hrel
          rename World => wz
          clear HO HR HB
          by_cases hjk : j < k
          · obtain ⟨y, hy⟩ : ∃ y, L[j]? = some y := ⟨_, List.getElem?_eq_getElem (by rw [HLl.out]; exact hjk)⟩
            have hyi := HLi.out y (List.mem_of_getElem? hy)
            obtain ⟨u, hu, ou⟩ := hrows j y (by rw [mid_get (by rw [HLl.out]; exact hjk)]; exact hy)
            obtain ⟨ua, uc, rfl⟩ := own_form ou
            obtain ⟨gl, cap, e0⟩ := own_pos hown (by omega)
            obtain ⟨rfl, rfl⟩ : ao = some ⟨gl, 0, none⟩ ∧ co = cap := by cases e0; exact ⟨rfl, rfl⟩
            clear e0
            have cu := (hown.cellAt j (by omega)).trans hu
            have hgl := hown.lt gl rfl
            have CT := Lib.hid (refturned_any m m1 m2 y hyi (.slice ua m uc) wz (is_own ou (ints_len m y)))
            have j0 : (0 : Int) ≤ (j : Int) := by omega
            have j1 : (j : Int) < (k : Int) := by omega
            have hstep := map_step (n := m) hy
            have HO := Lib.hid hown
            have HR := Lib.hid hrows
            have HB := Lib.hid hbz
            have Hstep := Lib.hid hstep
            have Hu := Lib.hid hu
            have Hgs := Lib.hid hown.1
            clear hown hrows hbz hy hu ou hstep hyi hcx
            go_wp2_with fail
            refine CT.out.mono ?_
            rintro e w5 ⟨v5, rfl, O5, B5⟩
            obtain ⟨a5, c5, rfl⟩ := own_form O5
            have HO5 := Lib.hid (own_below HO.out B5)
            have HR5 := Lib.hid (HR.out.below B5)
            have HB5 := Lib.hid (bon HB.out B5)
            have HP5 := Lib.hid (own_mono O5 (b' := w.heap.size) HB.out.size)
            have cu5 := (HO5.out.cellAt j (by omega)).trans Hu.out
            have fu5 := HO5.out.frozenAt j
            have st := (HO5.out.stored j (.slice a5 m c5)).1
            have hlg : gs.length = ((L.take j).map (tu m) ++ L.drop j).length := by rw [Hgs.out]; simp; have := HLl.out; omega
            have r6 := (HR5.out.setrow HO5.out j (.slice a5 m c5)).set hlg j (own_setrow' HP5.out HO5.out j _)
            rw [Hstep.out] at r6
            have HO6 := Lib.hid st
            have HR6 := Lib.hid r6
            have HB6 := Lib.hid (HB5.out.setCell (p := ⟨gl, j, none⟩) hgl.1 (.slice a5 m c5))
            clear O5 B5 st r6 HO5 HR5 HB5 HP5 HO HR HB CT cu
            go_wp2_with fail
            go_roundw
            case rel => exact ⟨j + 1, _, hjk, by go_num, HO6.out, HR6.out, HB6.out⟩
            case measure => (simp [intOf] <;> omega)
          · obtain rfl : j = k := by omega
            rw [List.take_of_length_le (by rw [HLl.out]; exact Nat.le_refl _), List.drop_eq_nil_of_le (by rw [HLl.out]; exact Nat.le_refl _), List.append_nil] at hrows
            have hcz := (hbz.cell (p := ⟨b0, off + j, none⟩) hb0).trans Hcx.out
            have j1 : ¬ (j : Int) < (j : Int) := by omega
            have n2 : IntKind.i64.wrap (-(-((q : Int) + 1))) = (q : Int) + 1 := by rw [Int.neg_neg]; exact IntWalk.i64_in _ (by omega)
            have n3 : IntKind.i64.wrap ((q : Int) + 1) = (q : Int) + 1 := IntWalk.i64_in _ (by omega)
            have HO := Lib.hid hown
            have HR := Lib.hid hrows
            have HB := Lib.hid hbz
            have Hgs := Lib.hid hown.1
            clear hown hrows hbz hcx
            go_wp2_with fail
            refine (CW.out _).mono ?_
            rintro e w5 ⟨v5, rfl, O5, B5⟩
            obtain ⟨g5, c5, rfl⟩ := own_pos O5 m1
            have HO5 := Lib.hid (own_below HO.out B5)
            have HR5 := Lib.hid (HR.out.below B5)
            have HB5 := Lib.hid (bon HB.out B5)
            have HP5 := Lib.hid (own_mono O5 (b' := w.heap.size) HB.out.size)
            clear O5 B5 HO HR HB
            go_wp2_with (at_builtin; refine wpList_append_own _ rfl _ _ 31 rfl w.heap.size 22 i1 (.slice none 0 0) 1 24 Try.underlying31 Hi.out hz0 hz1 hz2 rfl (by decide) _ j gs rfl (HO5.out.alloc _) ⟨w5.heap.size, 0, none⟩ 1 1 [Value.slice (some ⟨g5, 0, none⟩) m c5] rfl rfl (cell_one_new _ _ _) (by simp [Value.oneCell']) (by unfold maxLen; omega) (by omega) (Nat.le_trans HB5.out.size (below_alloc w5 _).size) ?_; intro v6 w6 hown6 hgrow hnil)
            have hR6 : Rows w.heap.size m w6 (gs ++ [Value.slice (some ⟨g5, 0, none⟩) m c5]) (rl m (ws.take (j + 1))) := by
              rw [Hrl.out]
              refine ((HR5.out.below (below_alloc w5 _)).grown (HO5.out.alloc _) hgrow).snoc ?_ ((HP5.out.alloc _).kept hgrow (own_apart HP5.out HO5.out (by decide)))
              rw [Hgs.out, List.length_map, HLl.out]
              omega
            have hB6 : Below w.heap.size w w6 := ((HB5.out.alloc HB5.out.size _).grown hgrow (Nat.le_trans HB5.out.size (below_alloc w5 _).size) (fun j hj => (HO5.out.lt j hj).1))
            have HR6 := Lib.hid hR6
            have HB6 := Lib.hid hB6
            have HO6 := Lib.hid hown6
            clear hR6 hB6 hown6 hgrow hnil HO5 HR5 HB5 HP5
            go_wp2_with fail
            go_roundw
            case rel => exact ⟨j + 1, _, hkl, by go_num, by rw [Hng.out]; congr 1; omega, HO6.out, HR6.out, HB6.out⟩
            case measure => (simp [intOf] <;> omega)
    · have ek : k = ws.length := by omega
      rw [ek, List.take_length] at hrows
      rw [ek] at hown
      rw [ek, List.take_length]
      obtain ⟨ao, co, rfl⟩ := own_form hown
      have HO := Lib.hid hown
      have HR := Lib.hid hrows
      have HB := Lib.hid hbw
      have k1' : ¬ (ws.length : Int) < (ws.length : Int) := by omega
      have HLi := Lib.hid (rl_in ws Hw.out)
      clear hown hrows hbw
      go_wp2_with fail
      go_loopg [12] (2 * wt m (rl m ws) + 1) (fun G cv wz => ∃ (L : List Pm) (gs : List Value) (c : Bool), G = 2 * wt m L + (if c = true then 1 else 0) ∧ cv = .bool c ∧ St m (rl m ws) L ∧ (c = false → ∀ i a b, L[i]? = some a → L[i + 1]? = some b → firstS m a b = none) ∧
        wz.ownsRow w.heap.size 22 1 (.slice ao ws.length co) ws.length gs ∧ Rows w.heap.size m wz gs L ∧ Below w.heap.size w wz)
      case atStart => exact ⟨rl m ws, fs, true, rfl, rfl, .refl _, fun h => (by cases h), HO.out, HR.out, HB.out⟩
      case round =>
        obtain ⟨L, gs, c, hG, rfl, hst, hno, hown, hrows, hbz⟩ := hrel
        clear HO HR HB
        have HO := Lib.hid hown
        have HR := Lib.hid hrows
        have HB := Lib.hid hbz
        have HG := Lib.hid hG
        have Hst := Lib.hid hst
        have Hno := Lib.hid hno
        clear hown hrows hbz hG hst hno
        rcases c with _ | _
        · have HF := Lib.hid (fold_ref m1 Hw.out Hst.out (Hno.out rfl))
          have hLl : L.length = ws.length := by rw [Hst.out.len, rl_len]
          have hLi := Hst.out.allIn HLi.out
          have hngl := negs_le ws
          have HLl := Lib.hid hLl
          have HLi2 := Lib.hid hLi
          rename World => wC
          clear hLl hLi
          go_wp2_with fail
          go_loopw [8, 17, 18] (fun vp vq kv wy => ∃ (j : Nat) (fo : List Value) (p : Int) (O : List Pm), j ≤ ws.length ∧ kv = .int .i64 j ∧ (L.take j).foldl (flS m) (-(negs ws), []) = (p, O) ∧ vp = .int .i64 p ∧ -(ws.length : Int) ≤ p ∧ p ≤ j ∧ O.length ≤ j ∧
            wy.ownsRow wC.heap.size 22 1 vq O.length fo ∧ Rows w.heap.size m wy fo O ∧ Below w.heap.size w wy ∧ Below wC.heap.size wC wy) (fun _ _ kv _ => ws.length - (intOf kv).toNat)
          case atStart => exact ⟨0, [], -(negs ws), [], Nat.zero_le _, rfl, rfl, rfl, by omega, by omega, Nat.le_refl _, World.ownsRow_nil _ _ _ _, (fun k x h => by cases h), HB.out, Below.refl _ _⟩
          case round =>
            obtain ⟨j, fo, p, O, hj, rfl, hf, rfl, hp1, hp2, hOj, hown, hrows, hby, hbC⟩ := hrel
            rename World => wy
            have Hf := Lib.hid hf
            have HOo := Lib.hid hown
            have HRo := Lib.hid hrows
            have HBy := Lib.hid hby
            have HBC := Lib.hid hbC
            have hfo := Lib.hid hown.1
            obtain ⟨aq, cq, rfl⟩ := own_form hown
            clear hf hown hrows hby hbC
            by_cases hjl : j < ws.length
            · obtain ⟨x, hx⟩ : ∃ x, L[j]? = some x := ⟨_, List.getElem?_eq_getElem (by rw [HLl.out]; exact hjl)⟩
              have hxi := HLi2.out x (List.mem_of_getElem? hx)
              have hm2 : 2 ≤ m := by
                apply Classical.byContradiction
                intro hm
                obtain rfl : m = 1 := by omega
                have := word_one Hw.out
                rw [this] at hjl
                simp at hjl
              obtain ⟨ux, hux, ox⟩ := HR.out j x hx
              obtain ⟨a1, d1, rfl⟩ := own_form ox
              obtain ⟨gl, cap, e0⟩ := own_pos HO.out (by omega)
              obtain ⟨rfl, rfl⟩ : ao = some ⟨gl, 0, none⟩ ∧ co = cap := by cases e0; exact ⟨rfl, rfl⟩
              clear e0
              have hglC := (HO.out.lt gl rfl).2
              have cC := (HO.out.cellAt j (by omega)).trans hux
              have Hox := Lib.hid ox
              have HcC := Lib.hid cC
              have cy := (HBC.out.cell (p := ⟨gl, j, none⟩) hglC).trans cC
              obtain ⟨r1, hr1⟩ : ∃ r : Bool, r = true ↔ x = dl m := ⟨@decide _ (Classical.propDecidable _), @decide_eq_true_iff _ (Classical.propDecidable _)⟩
              obtain ⟨r2, hr2⟩ : ∃ r : Bool, r = true ↔ x = idP := ⟨@decide _ (Classical.propDecidable _), @decide_eq_true_iff _ (Classical.propDecidable _)⟩
              have C1 := Lib.hid (fun W (h : Below wC.heap.size wC W) => refflat_any m m1 m2 x hxi (-1) (.inr rfl) r1 (hr1.trans (flat_dl m1 hxi)) (.slice a1 m d1) W (is_own (own_below Hox.out h) (ints_len m x)))
              have C2 := Lib.hid (fun W (h : Below wC.heap.size wC W) => refflat_any m m1 m2 x hxi 1 (.inl rfl) r2 (hr2.trans (flat_id hxi)) (.slice a1 m d1) W (is_own (own_below Hox.out h) (ints_len m x)))
              have Hnx := Lib.hid (fold_next (n := m) (s := (-(negs ws), [])) hx)
              rw [Hf.out] at Hnx
              have Hr1 := Lib.hid hr1
              have Hr2 := Lib.hid hr2
              have j0 : (0 : Int) ≤ (j : Int) := by omega
              have j1 : (j : Int) < (ws.length : Int) := by omega
              have j2 : (1 : Int) < (m : Int) := by omega
              have pw : IntKind.i64.wrap (p + 1) = p + 1 := IntWalk.i64_in _ (by omega)
              have hle := (HO.out.lt gl rfl).1
              clear hx hux ox cC hxi hr1 hr2
              rcases O with _ | ⟨o1, O⟩
              · have hcq : aq = aq := rfl
                go_wp2_with fail
                refine (C1.out _ HBC.out).mono ?_
                rintro e w5 ⟨rfl, B5⟩
                have HBC5 := Lib.hid (bon HBC.out B5)
                have HBy5 := Lib.hid (bon HBy.out B5)
                have HOo5 := Lib.hid (own_below HOo.out B5)
                have HRo5 := Lib.hid (HRo.out.below B5)
                have cy5 := (HBC5.out.cell (p := ⟨gl, j, none⟩) hglC).trans HcC.out
                clear B5 HBC HBy HOo HRo cy
                rcases r1 with _ | _
                · have hnd : x ≠ dl m := fun e => by have := Hr1.out.2 e; cases this
                  skip
                  go_wp2_with fail
                  refine (C2.out _ HBC5.out).mono ?_
                  rintro e w6 ⟨rfl, B6⟩
                  have HBC6 := Lib.hid (bon HBC5.out B6)
                  have HBy6 := Lib.hid (bon HBy5.out B6)
                  have HOo6 := Lib.hid (own_below HOo5.out B6)
                  have HRo6 := Lib.hid (HRo5.out.below B6)
                  have cy6 := (HBC6.out.cell (p := ⟨gl, j, none⟩) hglC).trans HcC.out
                  clear B6 HBC5 HBy5 HOo5 HRo5 cy5
                  rcases r2 with _ | _
                  · have hni : x ≠ idP := fun e => by have := Hr2.out.2 e; cases this
                    have Hn2 := Lib.hid (show (L.take (j + 1)).foldl (flS m) (-(negs ws), []) = (p, ([] : List Pm) ++ [x]) by rw [Hnx.out, flS_push (fun h => hnd h.2) hni])
                    have HP6 := Lib.hid (own_below Hox.out HBC6.out)
                    clear hni
                    go_wp2_with (at_builtin; refine wpList_append_own _ rfl _ _ 31 rfl wC.heap.size 22 i1 (.slice none 0 0) 1 24 Try.underlying31 Hi.out hz0 hz1 hz2 rfl (by decide) _ (([] : List Pm)).length fo rfl (HOo6.out.alloc _) ⟨w6.heap.size, 0, none⟩ 1 1 [Value.slice a1 m d1] rfl rfl (cell_one_new _ _ _) (by simp [Value.oneCell']) (by unfold maxLen; omega) (by omega) (Nat.le_trans HBC6.out.size (below_alloc w6 _).size) ?_; intro v7 w7 hown7 hgrow hnil)
                    have hR7 : Rows w.heap.size m w7 (fo ++ [Value.slice a1 m d1]) (([] : List Pm) ++ [x]) := by
                      refine ((HRo6.out.below (below_alloc w6 _)).grown (HOo6.out.alloc _) hgrow).snoc ?_ ((HP6.out.alloc _).kept hgrow (own_apart HP6.out HOo6.out (by decide)))
                      rw [hfo.out]
                      omega
                    have hB7 : Below w.heap.size w w7 := ((HBy6.out.alloc HBy6.out.size _).grown hgrow (Nat.le_trans HBy6.out.size (below_alloc w6 _).size) (fun i hi => Nat.le_trans HB.out.size (HOo6.out.lt i hi).1))
                    have hC7 : Below wC.heap.size wC w7 := ((HBC6.out.alloc HBC6.out.size _).grown hgrow (Nat.le_trans HBC6.out.size (below_alloc w6 _).size) (fun i hi => (HOo6.out.lt i hi).1))
                    have HR7 := Lib.hid hR7
                    have HB7 := Lib.hid hB7
                    have HC7 := Lib.hid hC7
                    have HO7 := Lib.hid (show w7.ownsRow wC.heap.size 22 1 v7 (([] : List Pm) ++ [x]).length (fo ++ [Value.slice a1 m d1]) by rw [List.length_append]; exact hown7)
                    clear hR7 hB7 hC7 hown7 hgrow hnil HOo6 HRo6 HBy6 HBC6 HP6
                    go_wp2_with fail
                    go_roundw
                    case rel => exact ⟨j + 1, _, p, ([] : List Pm) ++ [x], hjl, by go_num, Hn2.out, rfl, by omega, by omega, by first | (simp; done) | (simp at hOj ⊢; omega), HO7.out, HR7.out, HB7.out, HC7.out⟩
                    case measure => (simp [intOf] <;> omega)
                  · have hxi2 := Hr2.out.1 rfl
                    have Hn2 := Lib.hid (show (L.take (j + 1)).foldl (flS m) (-(negs ws), []) = (p, ([] : List Pm)) by
                      rw [Hnx.out]
                      have hnp : ¬ (([] : List Pm) = [] ∧ x = dl m) := fun h => hnd h.2
                      rw [hxi2] at hnp ⊢
                      exact flS_drop hnp)
                    clear hxi2
                    go_wp2_with fail
                    go_roundw
                    case rel => exact ⟨j + 1, _, p, ([] : List Pm), hjl, by go_num, Hn2.out, rfl, by omega, by omega, by first | (simp; done) | (simp at hOj ⊢; omega), HOo6.out, HRo6.out, HBy6.out, HBC6.out⟩
                    case measure => (simp [intOf] <;> omega)
                · have hxd := Hr1.out.1 rfl
                  have Hn2 := Lib.hid (show (L.take (j + 1)).foldl (flS m) (-(negs ws), []) = (p + 1, []) by rw [Hnx.out, hxd, flS_pop])
                  clear hxd
                  go_wp2_with fail
                  go_roundw
                  case rel => exact ⟨j + 1, _, p + 1, [], hjl, by go_num, Hn2.out, rfl, by omega, by omega, by simp, HOo5.out, HRo5.out, HBy5.out, HBC5.out⟩
                  case measure => (simp [intOf] <;> omega)
              · have hl0 : (((o1 :: O).length : Int) == 0) = false := by simp; omega
                have hl1 : (((O.length : Int) + 1) == 0) = false := by simp; omega
                have HBC5 := HBC
                have HBy5 := HBy
                have HOo5 := HOo
                have HRo5 := HRo
                have cy5 := cy
                skip
                go_wp2_with fail
                refine (C2.out _ HBC5.out).mono ?_
                rintro e w6 ⟨rfl, B6⟩
                have HBC6 := Lib.hid (bon HBC5.out B6)
                have HBy6 := Lib.hid (bon HBy5.out B6)
                have HOo6 := Lib.hid (own_below HOo5.out B6)
                have HRo6 := Lib.hid (HRo5.out.below B6)
                have cy6 := (HBC6.out.cell (p := ⟨gl, j, none⟩) hglC).trans HcC.out
                clear B6 HBC5 HBy5 HOo5 HRo5 cy5
                rcases r2 with _ | _
                · have hni : x ≠ idP := fun e => by have := Hr2.out.2 e; cases this
                  have Hn2 := Lib.hid (show (L.take (j + 1)).foldl (flS m) (-(negs ws), []) = (p, (o1 :: O) ++ [x]) by rw [Hnx.out, flS_push (fun h => (by cases h.1)) hni])
                  have HP6 := Lib.hid (own_below Hox.out HBC6.out)
                  clear hni
                  go_wp2_with (at_builtin; refine wpList_append_own _ rfl _ _ 31 rfl wC.heap.size 22 i1 (.slice none 0 0) 1 24 Try.underlying31 Hi.out hz0 hz1 hz2 rfl (by decide) _ ((o1 :: O)).length fo rfl (HOo6.out.alloc _) ⟨w6.heap.size, 0, none⟩ 1 1 [Value.slice a1 m d1] rfl rfl (cell_one_new _ _ _) (by simp [Value.oneCell']) (by unfold maxLen; omega) (by omega) (Nat.le_trans HBC6.out.size (below_alloc w6 _).size) ?_; intro v7 w7 hown7 hgrow hnil)
                  have hR7 : Rows w.heap.size m w7 (fo ++ [Value.slice a1 m d1]) ((o1 :: O) ++ [x]) := by
                    refine ((HRo6.out.below (below_alloc w6 _)).grown (HOo6.out.alloc _) hgrow).snoc ?_ ((HP6.out.alloc _).kept hgrow (own_apart HP6.out HOo6.out (by decide)))
                    rw [hfo.out]
                    omega
                  have hB7 : Below w.heap.size w w7 := ((HBy6.out.alloc HBy6.out.size _).grown hgrow (Nat.le_trans HBy6.out.size (below_alloc w6 _).size) (fun i hi => Nat.le_trans HB.out.size (HOo6.out.lt i hi).1))
                  have hC7 : Below wC.heap.size wC w7 := ((HBC6.out.alloc HBC6.out.size _).grown hgrow (Nat.le_trans HBC6.out.size (below_alloc w6 _).size) (fun i hi => (HOo6.out.lt i hi).1))
                  have HR7 := Lib.hid hR7
                  have HB7 := Lib.hid hB7
                  have HC7 := Lib.hid hC7
                  have HO7 := Lib.hid (show w7.ownsRow wC.heap.size 22 1 v7 ((o1 :: O) ++ [x]).length (fo ++ [Value.slice a1 m d1]) by rw [List.length_append]; exact hown7)
                  clear hR7 hB7 hC7 hown7 hgrow hnil HOo6 HRo6 HBy6 HBC6 HP6
                  go_wp2_with fail
                  go_roundw
                  case rel => exact ⟨j + 1, _, p, (o1 :: O) ++ [x], hjl, by go_num, Hn2.out, rfl, by omega, by omega, by first | (simp; done) | (simp at hOj ⊢; omega), HO7.out, HR7.out, HB7.out, HC7.out⟩
                  case measure => (simp [intOf] <;> omega)
                · have hxi2 := Hr2.out.1 rfl
                  have Hn2 := Lib.hid (show (L.take (j + 1)).foldl (flS m) (-(negs ws), []) = (p, (o1 :: O)) by
                    rw [Hnx.out]
                    have hnp : ¬ ((o1 :: O) = [] ∧ x = dl m) := fun h => (by cases h.1)
                    rw [hxi2] at hnp ⊢
                    exact flS_drop hnp)
                  clear hxi2
                  go_wp2_with fail
                  go_roundw
                  case rel => exact ⟨j + 1, _, p, (o1 :: O), hjl, by go_num, Hn2.out, rfl, by omega, by omega, by first | (simp; done) | (simp at hOj ⊢; omega), HOo6.out, HRo6.out, HBy6.out, HBC6.out⟩
                  case measure => (simp [intOf] <;> omega)
            · have ej : j = ws.length := by omega
              have hff := Hf.out
              rw [ej, List.take_of_length_le (by rw [HLl.out]; exact Nat.le_refl _), HF.out] at hff
              have Hff := Lib.hid hff
              have j1 : ¬ (j : Int) < (ws.length : Int) := by omega
              clear hff
              go_wp2_with fail
              go_ret3
              rw [Hff.out]
              exact ⟨_, rfl, rows_fs' (own_mono HOo.out HB.out.size) HRo.out (by omega), HBy.out⟩
        · have w0 : IntKind.i64.wrap ((ws.length : Int) - 1) = (ws.length : Int) - 1 := IntWalk.i64_in _ (by omega)
          go_wp2_with fail
          go_loopw [12, 13] (fun cv kv wy => ∃ (j : Nat) (L1 : List Pm) (hs : List Value) (c1 : Bool), j ≤ ws.length ∧ kv = .int .i64 ((j : Int) - 1) ∧ cv = .bool c1 ∧ St m L L1 ∧ (c1 = true → wt m L1 < wt m L) ∧ (c1 = false → L1 = L ∧ ∀ i a b, j ≤ i + 1 → L1[i]? = some a → L1[i + 1]? = some b → firstS m a b = none) ∧
            wy.ownsRow w.heap.size 22 1 (.slice ao ws.length co) ws.length hs ∧ Rows w.heap.size m wy hs L1 ∧ Below w.heap.size w wy) (fun _ kv _ => (intOf kv).toNat)
          case atStart =>
            refine ⟨ws.length, L, gs, false, Nat.le_refl _, rfl, rfl, .refl _, fun h => (by cases h), fun _ => ⟨rfl, fun i a b hi _ hb => ?_⟩, HO.out, HR.out, HB.out⟩
            have h2 := (List.getElem?_eq_some_iff.1 hb).1
            have h3 := Hst.out.len
            rw [rl_len] at h3
            omega
          case round =>
            obtain ⟨j, L1, hs, c1, hj, rfl, rfl, hst1, hT, hF, hown, hrows, hby⟩ := hrel
            rename World => wy
            clear HO HR HB
            have HO := Lib.hid hown
            have HR := Lib.hid hrows
            have HB := Lib.hid hby
            have HS1 := Lib.hid hst1
            have HT := Lib.hid hT
            have HF := Lib.hid hF
            have hfl := Lib.hid hown.1
            clear hown hrows hby hst1 hT hF
            by_cases hj2 : 2 ≤ j
            · obtain ⟨p, rfl⟩ : ∃ p, j = p + 2 := ⟨j - 2, by omega⟩
              have hl1 : L1.length = ws.length := by rw [HS1.out.len, Hst.out.len, rl_len]
              have hi1 := HS1.out.allIn (Hst.out.allIn HLi.out)
              obtain ⟨a, ha⟩ : ∃ a, L1[p]? = some a := ⟨_, List.getElem?_eq_getElem (by omega)⟩
              obtain ⟨b, hb⟩ : ∃ b, L1[p + 1]? = some b := ⟨_, List.getElem?_eq_getElem (by omega)⟩
              have hai := hi1 a (List.mem_of_getElem? ha)
              have hbi := hi1 b (List.mem_of_getElem? hb)
              obtain ⟨ua, hua, oa⟩ := HR.out p a ha
              obtain ⟨ub, hub, ob⟩ := HR.out (p + 1) b hb
              obtain ⟨a1, d1, rfl⟩ := own_form oa
              obtain ⟨a2, d2, rfl⟩ := own_form ob
              obtain ⟨gl, cap, e0⟩ := own_pos HO.out (by omega)
              obtain ⟨rfl, rfl⟩ : ao = some ⟨gl, 0, none⟩ ∧ co = cap := by cases e0; exact ⟨rfl, rfl⟩
              clear e0
              have hgl := (HO.out.lt gl rfl).1
              have Hua := Lib.hid hua
              have Hub := Lib.hid hub
              have Hoa := Lib.hid oa
              have Hob := Lib.hid ob
              have Hha := Lib.hid ha
              have Hhb := Lib.hid hb
              have CS := Lib.hid (fun W (h : Below wy.heap.size wy W) => refslid_any m m1 m2 a b hai hbi w.heap.size (.slice a1 m d1) (.slice a2 m d2) W (Nat.le_trans HB.out.size h.size) (own_below Hoa.out h) (own_below Hob.out h))
              have e1 : (((p + 2 : Nat) : Int) - 1) = (p : Int) + 1 := by omega
              rw [e1]
              have p0 : (0 : Int) ≤ (p : Int) := by omega
              have p1 : (p : Int) < (ws.length : Int) := by omega
              have p2 : (0 : Int) ≤ (p : Int) + 1 := by omega
              have p3 : (p : Int) + 1 < (ws.length : Int) := by omega
              have p4 : IntKind.i64.wrap (p : Int) = (p : Int) := IntWalk.i64_in _ (by omega)
              have p5 : ¬ (p : Int) + 1 < 0 := by omega
              have p6 : (0 : Int) < (p : Int) + 1 := by omega
              have p7 : ((p : Int) + 1).toNat = p + 1 := by omega
              have Hl1 := Lib.hid hl1
              clear ha hb hua hub oa ob hai hbi hi1 hl1 e1
              go_wp2_with fail
              have cq0 := (HO.out.cellAt p (by omega)).trans Hua.out
              have cq1 := (HO.out.cellAt (p + 1) (by omega)).trans Hub.out
              go_region_law (go_simp; go_at_call 87; go_loud (refine (CS.out _ (by first | exact Below.refl _ _ | exact (Below.refl _ wy).drew | exact (Below.refl _ wy).drew.drew)).mono ?_); rintro e w5 ⟨v1, v2, d, rfl, P1, P2, hd, B5⟩; have BW5 := Lib.hid (show Below wy.heap.size wy w5 by first | exact B5 | exact bon ((Below.refl _ wy).drew) B5 | exact bon ((Below.refl _ wy).drew.drew) B5))
              all_goals
                obtain ⟨g1, f1, rfl⟩ := own_pos P1 m1
                obtain ⟨g2, f2, rfl⟩ := own_pos P2 m1
                have B45 := BW5.out
                have HO5 := Lib.hid (own_below HO.out B45)
                have HR5 := Lib.hid (HR.out.below B45)
                have HB5 := Lib.hid (bon HB.out B45)
                have HP1 := Lib.hid P1
                have HP2 := Lib.hid P2
                have q0 := (HO5.out.cellAt p (by omega)).trans Hua.out
                have q1 := (HO5.out.cellAt (p + 1) (by omega)).trans Hub.out
                have f0 := HO5.out.frozenAt p
                have f3 := HO5.out.frozenAt (p + 1)
                have st1 := (HO5.out.stored p (.slice (some ⟨g1, 0, none⟩) m f1)).1
                have st2 := (st1.stored (p + 1) (.slice (some ⟨g2, 0, none⟩) m f2)).1
                have hlg : hs.length = L1.length := by rw [Hl1.out, hfl.out]; omega
                have r6 := (HR5.out.setrow HO5.out p (.slice (some ⟨g1, 0, none⟩) m f1)).set hlg p (own_setrow' HP1.out HO5.out p _)
                have r7 := (r6.setrow st1 (p + 1) (.slice (some ⟨g2, 0, none⟩) m f2)).set (by simp [hlg]) (p + 1) (own_setrow' (own_setrow' HP2.out HO5.out p _) st1 (p + 1) _)
                have b6 := HB5.out.setCell (p := ⟨gl, p, none⟩) hgl (.slice (some ⟨g1, 0, none⟩) m f1)
                have b7 := b6.setCell (p := ⟨gl, p + 1, none⟩) hgl (.slice (some ⟨g2, 0, none⟩) m f2)
                have PT := Lib.hid (pair_turn d c1 (Hst.out.allIn HLi.out) HS1.out Hha.out Hhb.out hd HT.out HF.out)
                have HO7 := Lib.hid st2
                have HR7 := Lib.hid r7
                have HB7 := Lib.hid b7
                clear st1 st2 r6 r7 b6 b7 P1 P2 B5 B45 HP1 HP2 HO5 HR5 HB5 HO HR HB CS cq0 cq1 BW5 hd HT HF
                rcases c1 with _ | _
                · go_wp2_with fail
                  go_roundw
                  case rel => exact ⟨p + 1, _, _, d, by omega, by first | go_num | (congr 1; omega), rfl, PT.out.1, PT.out.2.1, PT.out.2.2, HO7.out, HR7.out, HB7.out⟩
                  case measure => (simp [intOf] <;> omega)
                · go_wp2_with fail
                  go_roundw
                  case rel => exact ⟨p + 1, _, _, true, by omega, by first | go_num | (congr 1; omega), rfl, PT.out.1, PT.out.2.1, PT.out.2.2, HO7.out, HR7.out, HB7.out⟩
                  case measure => (simp [intOf] <;> omega)
            · have j1 : ¬ (0 : Int) < (j : Int) - 1 := by omega
              go_wp2_with fail
              go_roundg (2 * wt m L1 + (if c1 = true then 1 else 0))
              case measure =>
                rw [HG.out]
                rcases c1 with _ | _
                · rw [(HF.out rfl).1]; simp
                · have := HT.out rfl; simp; omega
              case rel => exact ⟨L1, hs, c1, rfl, rfl, Hst.out.trans HS1.out, fun h i a b => (HF.out h).2 i a b (by omega), HO.out, HR.out, HB.out⟩
end Go.Proofs.Ytnfppebcpagjpaa
