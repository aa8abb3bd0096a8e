/- The reference's Ready. -/
import Derived.Test.YtenfeekchggioaaOY
namespace Go.Proofs.Ytenfeekchggioaa
open Go.RowKit Go.Shelf
set_option linter.unusedSimpArgs false
attribute [local irreducible] wpQuiet
theorem clE_zero' {s : Sh} {ds : List Int} (h : clE s ds = 0) : chkS s = 0 ∧ OkDone s.ws.length ds ∧ Clo s.ws (doneS ds) := prog_clo ((clE_eq s ds).symm.trans h)
theorem refReady_next (W : List Wk) (ds : List Int) (k : Nat) : refReadyTo W ds (k + 1) = refReadyTo W ds k ++ if refReadyP W ds k then [(k : Int)] else [] := by
  unfold refReadyTo
  rw [List.range_succ, List.filter_append, List.map_append]
  congr 1
  by_cases h : refReadyP W ds k = true
  · simp [h]
  · simp [h]
theorem refReady_len (W : List Wk) (ds : List Int) (k : Nat) : (refReadyTo W ds k).length ≤ k := by
  unfold refReadyTo
  rw [List.length_map]
  exact Nat.le_trans (List.length_filter_le _ _) (by simp)
def rdyTo (W : List Wk) (ds : List Int) (b A : Nat) : Bool := !doneS ds b && (List.range A).all fun a => doneS ds a || !befN W b a
theorem rdyTo_next (W : List Wk) (ds : List Int) (b A : Nat) : rdyTo W ds b (A + 1) = (rdyTo W ds b A && (doneS ds A || !befN W b A)) := by
  unfold rdyTo
  rw [List.range_succ, List.all_append, Bool.and_assoc]
  simp
set_option maxRecDepth 100000 in
set_option maxHeartbeats 8000000 in
theorem refReady_any (s : Sh) (v : Value) (ds : List Int) (dv : Value) (w : World) (hv : SV w v s) (hd : IS w dv ds) (hdl : ds.length ≤ 100000) :
    Calls Try.prog 20 #[v, dv] w fun e w' => ∃ u, e = .returned (.tuple #[u, .int .i64 (clE s ds)]) ∧ IS w' u (if clE s ds = 0 then refReadyTo s.ws ds s.ws.length else []) ∧ Below w.heap.size w w' := by
  have HV := Lib.hid hv
  have HD := Lib.hid hd
  obtain ⟨u, rfl, hu⟩ := hv
  obtain ⟨sa, sc, rfl, q1, q2, _, hI⟩ := hd
  obtain ⟨ua, uc, rfl, k1, k2, hU⟩ := id hu
  have HZ := Lib.hid (@clE_zero' s ds)
  have CL := Lib.hid (fun W h1 h2 => refClosed_any s (.agg #[.int .i64 s.pr, .slice ua s.ws.length uc]) ds (.slice sa ds.length sc) W h1 h2 hdl)
  have CR := Lib.hid (fun W h hc => refRows_any s (.agg #[.int .i64 s.pr, .slice ua s.ws.length uc]) W h hc)
  generalize clE s ds = ce at *
  have HI := Lib.hid hI
  clear hU hI hu
  go_enter Try.func20, Try.ntmps20
  go_wp2_with fail
  have h0 := heap_alloc_new w (.cells #[.int .i64 s.pr, .slice ua s.ws.length uc] 24)
  have b0 := below_alloc w (.cells #[.int .i64 s.pr, .slice ua s.ws.length uc] 24)
  have z0 : (w.alloc (.cells #[.int .i64 s.pr, .slice ua s.ws.length uc] 24)).heap.size = w.heap.size + 1 := by simp
  generalize w.alloc (.cells #[.int .i64 s.pr, .slice ua s.ws.length uc] 24) = w0 at *
  refine (CL.out w0 (HV.out.below b0) (HD.out.below b0)).mono ?_
  rintro e w1 ⟨rfl, b1⟩
  have H1 := Lib.hid ((b1.block _ (by omega)).trans h0)
  have HB1 := Lib.hid (bon b0 b1)
  have hz1 : w.heap.size < w1.heap.size := by have := b1.size; omega
  clear h0 b0 z0 b1 CL
  by_cases q : ce = 0
  · subst q
    obtain ⟨hc, hok, _⟩ := HZ.out rfl
    have HC := Lib.hid hc
    have HSM := Lib.hid (chk_small hc).2.2
    have hn4 : s.ws.length ≤ 400 := HSM.out.1
    have HOK := Lib.hid hok
    have g1 : w1.cell? ⟨w.heap.size, 1, none⟩ = some (.slice ua s.ws.length uc) := cell_of_row w1 _ 1 _ _ _ H1.out
    have hmk := fun W => mk_boolsN s.ws.length (by omega) W
    have hbo := bo_made s.ws.length w1.heap.size (by omega) w1 (Nat.le_refl _)
    have hba := below_alloc w1 (.cells (madeCells #[.bool false] s.ws.length) 4)
    clear hc hok HZ
    go_upto_region 5 with fail
    obtain ⟨g, hg⟩ : ∃ g, g = w1.heap.size := ⟨_, rfl⟩
    rw [← hg] at hbo hba hz1 ⊢
    have HG1 := Lib.hid (show g ≤ w1.heap.size by omega)
    generalize w1.alloc (.cells (madeCells #[.bool false] s.ws.length) 4) = w2 at *
    have HBO := Lib.hid hbo
    have HBA := Lib.hid hba
    have HF0 := Lib.hid (show doneS (ds.take 0) = fun _ => false by rw [List.take_zero, doneS_nil])
    clear hmk hbo hba hg g1
    go_wp2_with fail
    go_loopw [8] (fun i wr => ∃ k : Nat, k ≤ ds.length ∧ i = .int .i64 (k : Int) ∧ BO g wr g s.ws.length (doneS (ds.take k)) ∧ Below g w1 wr) (fun i _ => ds.length - (intOf i).toNat)
    case atStart => exact ⟨0, Nat.zero_le _, rfl, by rw [HF0.out]; exact HBO.out, HBA.out⟩
    case round =>
      clear HBO HBA HF0
      obtain ⟨k, hk, rfl, hbo, hbw⟩ := hrel
      rename World => wr
      have HBO := Lib.hid hbo
      have HB1W := Lib.hid hbw
      have HBW := Lib.hid (HB1.out.trans (hbw.mono (Nat.le_of_lt hz1)))
      clear hbo hbw
      by_cases hkl : k < ds.length
      · have k0 : (0 : Int) ≤ (k : Int) := by omega
        have kk1 : (k : Int) < (ds.length : Int) := by omega
        obtain ⟨y, hy⟩ : ∃ y, ds[k]? = some y := ⟨_, List.getElem?_eq_getElem hkl⟩
        obtain ⟨b, off, rfl, hbl, hcz⟩ := HI.out k y hy
        have cz : wr.cell? ⟨b, off + k, none⟩ = some (.int .i64 y) := (HBW.out.cell (p := ⟨b, off + k, none⟩) hbl).trans hcz
        have hyr := (HOK.out k y hy).1
        obtain ⟨i, rfl⟩ : ∃ i : Nat, y = (i : Int) := ⟨y.toNat, by omega⟩
        have HS := Lib.hid (show BO g (wr.setCell ⟨g, i, none⟩ (.bool true)) g s.ws.length (doneS (ds.take (k + 1))) by rw [← doneS_snoc ds k i hy]; exact HBO.out.set i)
        have HW := Lib.hid (show Below g w1 (wr.setCell ⟨g, i, none⟩ (.bool true)) from HB1W.out.setCell (p := ⟨g, i, none⟩) (Nat.le_refl _) (.bool true))
        have hin : i < s.ws.length := by omega
        have i0 : (0 : Int) ≤ (i : Int) := by omega
        have i1 : (i : Int) < (s.ws.length : Int) := by omega
        have ci := HBO.out.cell hin
        have fi := HBO.out.frozen i
        clear hcz hy hyr
        go_wp2_with fail
        go_roundw
        case rel => exact ⟨k + 1, hkl, by go_num, HS.out, HW.out⟩
        case measure => (simp [intOf] <;> omega)
      · have kk1 : ¬ (k : Int) < (ds.length : Int) := by omega
        have e : k = ds.length := by omega
        subst e
        rw [List.take_length] at HBO
        have hxw := (HB1W.out.block _ hz1).trans H1.out
        have g0 : wr.cell? ⟨w.heap.size, 0, none⟩ = some (.int .i64 s.pr) := cell_of_row wr _ 0 _ _ _ hxw
        have g1 : wr.cell? ⟨w.heap.size, 1, none⟩ = some (.slice ua s.ws.length uc) := cell_of_row wr _ 1 _ _ _ hxw
        clear hxw hkl hk
        go_wp2_with fail
        refine (CR.out wr (HV.out.below HBW.out) HC.out).mono ?_
        rintro e w5 ⟨vo, fs, B2, rfl, hown, hrows, hb5⟩
        obtain ⟨av, cv, hv9⟩ := own_form hown
        subst hv9
        have HO := Lib.hid hown
        have HR := Lib.hid hrows
        have HB5 := Lib.hid (HBO.out.below hb5)
        have HBZ := Lib.hid (bon HBW.out hb5)
        have HZZ := Lib.hid (show w.heap.size < w5.heap.size by have := hb5.size; have := HB1W.out.size; have := HG1.out; omega)
        have HOZ := Lib.hid (show w5.ownsRow w5.heap.size 3 1 (.slice none 0 0) (refReadyTo s.ws ds 0).length ((refReadyTo s.ws ds 0).map (Value.int .i64)) from World.ownsRow_nil _ _ _ _)
        clear hown hrows hb5 g0 g1
        go_wp2_with fail
        go_loopw [10, 11] (fun vo i wx => ∃ b : Nat, b ≤ s.ws.length ∧ i = .int .i64 (b : Int) ∧ wx.ownsRow w5.heap.size 3 1 vo (refReadyTo s.ws ds b).length ((refReadyTo s.ws ds b).map (Value.int .i64)) ∧ Below w5.heap.size w5 wx) (fun _ i _ => s.ws.length - (intOf i).toNat)
        case atStart => exact ⟨0, Nat.zero_le _, rfl, HOZ.out, Below.refl _ _⟩
        case round =>
          clear HOZ
          obtain ⟨b, hb, rfl, hown2, hbx⟩ := hrel
          rename World => wx
          obtain ⟨aw, cw, hw9⟩ := own_form hown2
          subst hw9
          have HOW := Lib.hid hown2
          have HBX := Lib.hid hbx
          clear hown2 hbx
          by_cases hbn : b < s.ws.length
          · have b1 : (b : Int) < (s.ws.length : Int) := by omega
            have b0 : (0 : Int) ≤ (b : Int) := by omega
            obtain ⟨go, hgo⟩ : ∃ go, av = some ⟨go, 0, none⟩ := by
              rcases HO.out.2 with ⟨e, h0⟩ | ⟨go, cap, cur, e, _⟩
              · omega
              · cases e
                exact ⟨go, rfl⟩
            subst hgo
            obtain ⟨R, hR⟩ : ∃ R, (rowsL s.ws s.ws.length)[b]? = some R := ⟨_, List.getElem?_eq_getElem (by rw [rowsL_len]; exact hbn)⟩
            obtain ⟨gb, hgb, hbo⟩ := HR.out b R hR
            have HO5 := Lib.hid (own_below HO.out HBX.out)
            have HDO := Lib.hid (HB5.out.below HBX.out)
            have co : wx.cell? ⟨go, b, none⟩ = some (.slice (some ⟨gb, 0, none⟩) s.ws.length s.ws.length) := (World.ownsRow.cellAt HO5.out b (by omega)).trans hgb
            have HRB := Lib.hid (hbo.below HBX.out)
            have HBF := Lib.hid (fun a => bef_get hR a)
            have db := HDO.out.cell hbn
            have HR0 := Lib.hid (show rdyTo s.ws ds b 0 = !doneS ds b by unfold rdyTo; simp)
            clear hR hgb hbo
            go_wp2_with fail
            go_loopw [12, 13] (fun r i wy => ∃ a : Nat, a ≤ b ∧ i = .int .i64 (a : Int) ∧ r = .bool (rdyTo s.ws ds b a) ∧ wy = wx) (fun _ i _ => b - (intOf i).toNat)
            case atStart => exact ⟨0, Nat.zero_le _, rfl, by rw [HR0.out], rfl⟩
            case round =>
              obtain ⟨a, ha, rfl, rfl, hwy⟩ := hrel
              rename World => wy
              subst hwy
              by_cases hab : a < b
              · have a1 : (a : Int) < (b : Int) := by omega
                have a2 : (a : Int) < (s.ws.length : Int) := by omega
                have a0 : (0 : Int) ≤ (a : Int) := by omega
                have da := HDO.out.cell (show a < s.ws.length by omega)
                have cr := HRB.out.cell (show a < s.ws.length by omega)
                have HNX := Lib.hid (show rdyTo s.ws ds b (a + 1) = (rdyTo s.ws ds b a && (doneS ds a || !R a)) by rw [rdyTo_next, HBF.out a])
                generalize rdyTo s.ws ds b a = r0 at *
                generalize doneS ds a = d0 at *
                generalize R a = e0 at *
                cases r0 <;> cases d0 <;> cases e0
                all_goals
                  go_wp2_with fail
                  go_roundw
                  case rel => exact ⟨a + 1, hab, by go_num, by rw [HNX.out]; rfl, trivial⟩
                  case measure => (simp [intOf] <;> omega)
              · have a1 : ¬ (a : Int) < (b : Int) := by omega
                have e : a = b := by omega
                subst e
                have HNE := Lib.hid (refReady_next s.ws ds a)
                have HLN := Lib.hid (refReady_len s.ws ds a)
                have HRE := Lib.hid (show refReadyP s.ws ds a = rdyTo s.ws ds a a from rfl)
                generalize rdyTo s.ws ds a a = r0 at *
                generalize refReadyTo s.ws ds a = D at *
                cases r0
                · rw [HRE.out] at HNE
                  have HN2 := Lib.hid (show refReadyTo s.ws ds (a + 1) = D by rw [HNE.out]; simp)
                  clear HNE
                  go_wp2_with fail
                  go_roundw
                  case rel => exact ⟨a + 1, hbn, by go_num, by rw [HN2.out]; exact HOW.out, HBX.out⟩
                  case measure => (simp [intOf] <;> omega)
                · rw [HRE.out] at HNE
                  have HN2 := Lib.hid (show refReadyTo s.ws ds (a + 1) = D ++ [(a : Int)] by rw [HNE.out]; simp)
                  have HZX := Lib.hid HBX.out.size
                  clear HNE
                  go_wp2_with (at_builtin; refine app_one (w0 := w5) w5.heap.size _ D (a : Int) rfl _ _ rfl rfl HOW.out rfl (by have := HLN.out; omega) HBX.out HZX.out ?_; intro g1 cap1 w4 hown1 hb1)
                  have HO1 := Lib.hid hown1
                  have HBB := Lib.hid hb1
                  clear hown1 hb1
                  go_wp2_with fail
                  go_roundw
                  case rel => exact ⟨a + 1, hbn, by go_num, by rw [HN2.out, List.length_append]; exact HO1.out, HBB.out⟩
                  case measure => (simp [intOf] <;> omega)
          · have b1 : ¬ (b : Int) < (s.ws.length : Int) := by omega
            have e : b = s.ws.length := by omega
            subst e
            have HIS := Lib.hid (is_own HOW.out rfl)
            have HBE := Lib.hid (HBZ.out.trans (HBX.out.mono (Nat.le_of_lt HZZ.out)))
            go_wp2_with fail
            go_ret2
            exact ⟨_, rfl, HIS.out, HBE.out⟩
  · have hq : (ce != 0) = true := by rw [bne_iff_ne]; exact q
    go_wp2_with fail
    go_ret2
    exact ⟨_, rfl, is_nil _, HB1.out⟩
end Go.Proofs.Ytenfeekchggioaa
