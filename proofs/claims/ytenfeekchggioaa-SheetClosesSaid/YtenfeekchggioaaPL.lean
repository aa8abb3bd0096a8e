/- The reference's Line. -/
import Derived.Test.YtenfeekchggioaaOY
import Derived.Test.YtenfeekchggioaaPN
namespace Go.Proofs.Ytenfeekchggioaa
open Go.RowKit Go.Shelf
set_option linter.unusedSimpArgs false
attribute [local irreducible] wpQuiet
theorem clE_zero {s : Sh} {ds : List Int} (h : clE s ds = 0) : chkS s = 0 ∧ OkDone s.ws.length ds ∧ Clo s.ws (doneS ds) := prog_clo ((clE_eq s ds).symm.trans h)
theorem takes_eq (x : Wk) (p : Nat) : takesP x (p : Int) = takesB x p := by
  unfold takesP takesB
  rw [Bool.eq_iff_iff]
  simp
  omega
theorem refLine_next (pr : Nat) (W : List Wk) (ds : List Int) (k : Nat) : refLineTo pr W ds (k + 1) = refLineTo pr W ds k ++ [refAt pr W k ds] := by
  unfold refLineTo
  rw [List.range_succ, List.map_append]
  rfl
theorem refLine_len (pr : Nat) (W : List Wk) (ds : List Int) (k : Nat) : (refLineTo pr W ds k).length = k := by simp [refLineTo]
set_option maxRecDepth 100000 in
set_option maxHeartbeats 8000000 in
theorem refLine_any (s : Sh) (v : Value) (ds : List Int) (dv : Value) (w : World) (hv : SV w v s) (hd : IS w dv ds) (hdl : ds.length ≤ 100000) :
    Calls Try.prog 18 #[v, dv] w fun e w' => ∃ u, e = .returned (.tuple #[u, .int .i64 (clE s ds)]) ∧ IS w' u (if clE s ds = 0 then refLineTo s.pr.toNat s.ws ds s.pr.toNat else []) ∧ Below w.heap.size w w' := by
  have HV := Lib.hid hv
  have HD := Lib.hid hd
  obtain ⟨u, rfl, hu⟩ := hv
  obtain ⟨sa, sc, rfl, q1, q2, _, hI⟩ := hd
  obtain ⟨ua, uc, rfl, k1, k2, hU⟩ := id hu
  have HZ := Lib.hid (@clE_zero s ds)
  have CL := Lib.hid (fun W h1 h2 => refClosed_any s (.agg #[.int .i64 s.pr, .slice ua s.ws.length uc]) ds (.slice sa ds.length sc) W h1 h2 hdl)
  generalize clE s ds = ce at *
  have HU := Lib.hid hU
  have HI := Lib.hid hI
  clear hU hI hu
  go_enter Try.func18, Try.ntmps18
  go_wp2_with fail
  have h0 := heap_alloc_new w (.cells #[.int .i64 s.pr, .slice ua s.ws.length uc] 24)
  have b0 := below_alloc w (.cells #[.int .i64 s.pr, .slice ua s.ws.length uc] 24)
  have z0 : (w.alloc (.cells #[.int .i64 s.pr, .slice ua s.ws.length uc] 24)).heap.size = w.heap.size + 1 := by simp
  generalize w.alloc (.cells #[.int .i64 s.pr, .slice ua s.ws.length uc] 24) = w0 at *
  refine (CL.out w0 (HV.out.below b0) (HD.out.below b0)).mono ?_
  rintro e w1 ⟨rfl, b1⟩
  have H1 := Lib.hid ((b1.block _ (by omega)).trans h0)
  have HB1 := Lib.hid (bon b0 b1)
  have HZ1 := Lib.hid (show w.heap.size + 1 ≤ w1.heap.size by have := b1.size; omega)
  clear h0 b0 z0 b1 CL
  by_cases q : ce = 0
  · subst q
    obtain ⟨hc, hok, _⟩ := HZ.out rfl
    obtain ⟨s1, s2, hsm⟩ := chk_small hc
    have HSM := Lib.hid hsm
    have HOK := Lib.hid hok
    obtain ⟨n, hn⟩ : ∃ n : Nat, s.pr = (n : Int) := ⟨s.pr.toNat, by omega⟩
    have hnn : s.pr.toNat = n := by omega
    have HNN := Lib.hid hnn
    have hn2 : n ≤ 24 := by omega
    rw [hn] at H1
    have HOZ := Lib.hid (show w1.ownsRow (w.heap.size + 1) 3 1 (.slice none 0 0) 0 ((refLineTo n s.ws ds 0).map (Value.int .i64)) from World.ownsRow_nil _ _ _ _)
    clear hsm hok hc HZ s1 s2 hn hnn
    go_wp2_with fail
    go_loopw [7, 8] (fun vo i wr => ∃ k : Nat, k ≤ n ∧ i = .int .i64 (k : Int) ∧ wr.ownsRow (w.heap.size + 1) 3 1 vo k ((refLineTo n s.ws ds k).map (Value.int .i64)) ∧ Below (w.heap.size + 1) w1 wr) (fun _ i _ => n - (intOf i).toNat)
    case atStart => exact ⟨0, Nat.zero_le _, rfl, HOZ.out, Below.refl _ _⟩
    case round =>
      clear HOZ
      obtain ⟨k, hk, rfl, hown, hb⟩ := hrel
      rename World => wr
      obtain ⟨av, cv, ev⟩ := own_form hown
      subst ev
      have HO := Lib.hid hown
      have HBR := Lib.hid hb
      have hr0 := (hb.block _ (Nat.lt_succ_self _)).trans H1.out
      have HR0 := Lib.hid hr0
      have g0 : wr.cell? ⟨w.heap.size, 0, none⟩ = some (.int .i64 (n : Int)) := cell_of_row wr _ 0 _ _ _ hr0
      clear hown hb hr0
      by_cases hkn : k < n
      · have k1 : (k : Int) < (n : Int) := by omega
        go_wp2_with fail
        clear g0
        go_loopw [9, 10] (fun at' i wx => ∃ m : Nat, m ≤ ds.length ∧ i = .int .i64 (m : Int) ∧ at' = .int .i64 (refAt n s.ws k (ds.take m)) ∧ Below wr.heap.size wr wx) (fun _ i _ => ds.length - (intOf i).toNat)
        case atStart => exact ⟨0, Nat.zero_le _, rfl, rfl, Below.refl _ _⟩
        case round =>
          obtain ⟨m, hm, rfl, rfl, hbx⟩ := hrel
          rename World => wx
          have HBX := Lib.hid hbx
          clear hbx
          by_cases hml : m < ds.length
          · have m1 : (m : Int) < (ds.length : Int) := by omega
            have m0 : (0 : Int) ≤ (m : Int) := by omega
            obtain ⟨z, hz⟩ : ∃ z, ds[m]? = some z := ⟨_, List.getElem?_eq_getElem hml⟩
            have hzr := (HOK.out m z hz).1
            obtain ⟨i, rfl⟩ : ∃ i : Nat, z = (i : Int) := ⟨z.toNat, by omega⟩
            obtain ⟨b, off, rfl, hbl, hcz⟩ := HI.out m _ hz
            have i0 : (0 : Int) ≤ (i : Int) := by omega
            have i1 : (i : Int) < (s.ws.length : Int) := by omega
            obtain ⟨x, hx⟩ : ∃ x, s.ws[i]? = some x := ⟨_, List.getElem?_eq_getElem (by omega)⟩
            have hpl := HSM.out.2 x (List.mem_of_getElem? hx)
            have hw4 : s.ws.length ≤ 400 := HSM.out.1
            have HNX := Lib.hid (show refAt n s.ws k (ds.take (m + 1)) = if takesP x (k : Int) = true then (n : Int) + 2 * (i : Int) + k - x.pl else refAt n s.ws k (ds.take m) by rw [refAt_next n s.ws k ds m _ hz, Int.toNat_natCast, wkN_get hx, takes_eq])
            obtain ⟨b2, off2, rfl, hb2, hr2, _⟩ := HU.out i x hx
            have hwx : Below w.heap.size w wx := HB1.out.trans ((HBR.out.mono (by omega)).trans (HBX.out.mono (by have := HBR.out.size; have := HZ1.out; omega)))
            have HWX := Lib.hid hwx
            have hzx : w.heap.size < wx.heap.size := by have := HBX.out.size; have := HBR.out.size; have := HZ1.out; omega
            have hbx : b < wx.heap.size := by omega
            have hb2x : b2 < wx.heap.size := by omega
            have HX0 := Lib.hid ((HBX.out.block _ (by have := HBR.out.size; have := HZ1.out; omega)).trans HR0.out)
            have g1 : wx.cell? ⟨w.heap.size, 1, none⟩ = some (.slice (some ⟨b2, off2, none⟩) s.ws.length uc) := cell_of_row wx _ 1 _ _ _ HX0.out
            have cz : wx.cell? ⟨b, off + m, none⟩ = some (.int .i64 (i : Int)) := (hwx.cell (p := ⟨b, off + m, none⟩) hbl).trans hcz
            have RG := Lib.hid (range_below3 hr2 hb2 hwx)
            have CT := Lib.hid (fun W => refTakes_any x (k : Int) W hpl)
            have h48 : (Try.prog.info? 48).map (·.size) = some 3 := by kernel_rfl
            have hpa : x.pl ≤ 100 := hpl.2
            have hpb : 0 ≤ x.pl := hpl.1
            clear hz hx hr2 hwx hzr
            generalize refAt n s.ws k (ds.take m) = va at *
            go_upto_region 12 with fail
            refine wp_region_alloc 8 9 [8] (fun _ => .cells #[.int .i64 0, .int .i64 0, .string ⟨#[]⟩] 48 (0, 0)) (by kernel_rfl) (by kernel_rfl) ?_ ?_
            · intro i o h1 h2 ho
              have hi : i = 8 := by omega
              subst hi
              simp only [List.getElem?_toArray, List.getElem?_cons_succ, List.getElem?_cons_zero, Option.some.injEq] at ho; subst ho; exact ⟨rfl, fun a w => by go_simp; try rfl⟩
            simp only [List.take_succ_cons, List.take_zero, List.drop_succ_cons, List.drop_zero]
            refine lex_still rfl (.pointer (some ⟨w.heap.size, 1, none⟩)) (fun w => by go_simp) ?_
            simp only [Act.put, List.setIfInBounds_toArray, List.set_cons_zero, List.set_cons_succ]
            refine lex_load1 rfl _ _ rfl ⟨w.heap.size, 1, none⟩ rfl (.slice (some ⟨b2, off2, none⟩) s.ws.length uc) (load_ws _ _) (fun _ h => (h.cell (p := ⟨w.heap.size, 1, none⟩) hzx).trans g1) ?_
            simp only [Act.put, List.setIfInBounds_toArray, List.set_cons_zero, List.set_cons_succ]
            refine lex_still rfl (.slice (some ⟨b, off, none⟩) ds.length sc) (fun w => by go_simp) ?_
            simp only [Act.put, List.setIfInBounds_toArray, List.set_cons_zero, List.set_cons_succ]
            refine lex_still rfl (.int .i64 (m : Int)) (fun w => by go_simp) ?_
            simp only [Act.put, List.setIfInBounds_toArray, List.set_cons_zero, List.set_cons_succ]
            refine lex_still rfl (.pointer (some ⟨b, off + m, none⟩)) (fun w => by go_simp) ?_
            simp only [Act.put, List.setIfInBounds_toArray, List.set_cons_zero, List.set_cons_succ]
            refine lex_load1 rfl _ _ rfl ⟨b, off + m, none⟩ rfl (.int .i64 (i : Int)) (load_int _ _) (fun _ h => (h.cell (p := ⟨b, off + m, none⟩) hbx).trans cz) ?_
            simp only [Act.put, List.setIfInBounds_toArray, List.set_cons_zero, List.set_cons_succ]
            refine lex_still rfl (.pointer (some ⟨b2, off2 + i * 3, none⟩)) (fun w => by go_simp) ?_
            simp only [Act.put, List.setIfInBounds_toArray, List.set_cons_zero, List.set_cons_succ]
            refine lex_load rfl _ _ rfl b2 (off2 + i * 3) rfl [.int .i64 x.kd, .int .i64 x.pl, .string x.wd] _ (fun W h => range_below3 RG.out hb2x h) Try.underlying48 rfl (by kernel_rfl) ?_
            simp only [Act.put, List.setIfInBounds_toArray, List.set_cons_zero, List.set_cons_succ]
            refine aph1' 8 11 rfl ?_
            intro b4 w2 hb hF hD
            simp only [List.drop_succ_cons, List.drop_zero]
            simp only [Act.put, List.setIfInBounds_toArray, List.set_cons_zero, List.set_cons_succ]
            have g4 : wx.heap.size ≤ b4 := (hF 8 (by decide) (by decide)).1
            have l4 : b4 < w2.heap.size := (hF 8 (by decide) (by decide)).2.1
            have h4 : w2.heap[b4]? = some (.cells #[.int .i64 0, .int .i64 0, .string ⟨#[]⟩] 48 (0, 0)) := (hF 8 (by decide) (by decide)).2.2
            clear hF hD
            clear g1 cz
            refine store_rowP rfl _ _ _ rfl b4 #[.int .i64 x.kd, .int .i64 x.pl, .string x.wd] rfl rfl _ _ h4 h48 rfl (by simp [Value.oneCell']) ?_
            intro w3 hn3 hk3 hz3 hB3
            have HB3 := Lib.hid (hB3 _ _ (HBX.out.trans (hb.mono HBX.out.size)) (by have := HBX.out.size; omega))
            have HN3 := Lib.hid hn3
            have L3 := Lib.hid (show b4 < w3.heap.size by omega)
            have c0 := cell_of_row w3 b4 0 _ _ _ hn3
            have c1 := cell_of_row w3 b4 1 _ _ _ hn3
            have c2 := cell_of_row w3 b4 2 _ _ _ hn3
            simp only [List.getElem?_toArray, List.getElem?_cons_succ, List.getElem?_cons_zero] at c0 c1 c2
            clear hb hn3 hk3 hz3 hB3 h4 g4 l4
            go_wp2_with fail
            refine (CT.out w3).mono ?_
            rintro e w4 ⟨rfl, hb4⟩
            have HB4 := Lib.hid (HB3.out.trans (hb4.mono HB3.out.size))
            have HN4 := Lib.hid ((hb4.block _ L3.out).trans HN3.out)
            have L4 := Lib.hid (show b4 < w4.heap.size by have := L3.out; have := hb4.size; omega)
            clear hb4 c0 c1 c2
            by_cases ht : takesP x (k : Int) = true
            · rw [ht] at HNX ⊢
              rw [if_pos rfl] at HNX
              have hzw : w.heap.size < w4.heap.size := by have := HB4.out.size; have := HBR.out.size; have := HZ1.out; omega
              have hx4 := (HB4.out.block _ (show w.heap.size < wr.heap.size by have := HBR.out.size; have := HZ1.out; omega)).trans HR0.out
              have hb4w : b < w4.heap.size := by have := HB1.out.size; have := HB4.out.size; have := HBR.out.size; have := HZ1.out; omega
              have e0 : w4.cell? ⟨w.heap.size, 0, none⟩ = some (.int .i64 (n : Int)) := cell_of_row w4 _ 0 _ _ _ hx4
              have hw4b : Below w.heap.size w w4 := HB1.out.trans ((HBR.out.mono (by omega)).trans (HB4.out.mono (by have := HBR.out.size; have := HZ1.out; omega)))
              have ez : w4.cell? ⟨b, off + m, none⟩ = some (.int .i64 (i : Int)) := (hw4b.cell (p := ⟨b, off + m, none⟩) hbl).trans hcz
              have ep : w4.cell? ⟨b4, 1, none⟩ = some (.int .i64 x.pl) := cell_of_row w4 _ 1 _ _ _ HN4.out
              have l4 := L4.out
              have a1 : IntKind.i64.wrap (2 * (i : Int)) = 2 * (i : Int) := IntWalk.i64_in _ (by omega)
              have a2 : IntKind.i64.wrap ((n : Int) + 2 * (i : Int)) = (n : Int) + 2 * (i : Int) := IntWalk.i64_in _ (by omega)
              have a3 : IntKind.i64.wrap ((n : Int) + 2 * (i : Int) + (k : Int)) = (n : Int) + 2 * (i : Int) + (k : Int) := IntWalk.i64_in _ (by omega)
              have a4 : IntKind.i64.wrap ((n : Int) + 2 * (i : Int) + (k : Int) - x.pl) = (n : Int) + 2 * (i : Int) + (k : Int) - x.pl := IntWalk.i64_in _ (by omega)
              clear ht hx4 hw4b
              go_wp2_with fail
              refine wp_region_class (fun w' => Below w4.heap.size w4 w') 13 (by kernel_rfl) (by kernel_rfl) (Below.refl _ w4).drew ?_
              simp only [List.take_succ_cons, List.take_zero, List.drop_succ_cons, List.drop_zero]
              refine quiet_still rfl (.pointer (some ⟨w.heap.size, 0, none⟩)) (fun w _ => by go_simp) ?_
              simp only [Act.put, List.setIfInBounds_toArray, List.set_cons_zero, List.set_cons_succ]
              refine quiet_load1 rfl _ _ rfl ⟨w.heap.size, 0, none⟩ rfl (.int .i64 (n : Int)) (load_int _ _) (fun _ h => (h.cell (p := ⟨w.heap.size, 0, none⟩) hzw).trans e0) ?_
              simp only [Act.put, List.setIfInBounds_toArray, List.set_cons_zero, List.set_cons_succ]
              refine quiet_moveV rfl _ rfl (.slice (some ⟨b, off, none⟩) ds.length sc) rfl ?_
              simp only [Act.put, List.setIfInBounds_toArray, List.set_cons_zero, List.set_cons_succ]
              refine quiet_moveV rfl _ rfl (.int .i64 (m : Int)) rfl ?_
              simp only [Act.put, List.setIfInBounds_toArray, List.set_cons_zero, List.set_cons_succ]
              refine quiet_still rfl (.pointer (some ⟨b, off + m, none⟩)) (fun w _ => by go_simp) ?_
              simp only [Act.put, List.setIfInBounds_toArray, List.set_cons_zero, List.set_cons_succ]
              refine quiet_load1 rfl _ _ rfl ⟨b, off + m, none⟩ rfl (.int .i64 (i : Int)) (load_int _ _) (fun _ h => (h.cell (p := ⟨b, off + m, none⟩) hb4w).trans ez) ?_
              simp only [Act.put, List.setIfInBounds_toArray, List.set_cons_zero, List.set_cons_succ]
              refine quiet_still rfl (.int .i64 (2 * (i : Int))) (fun w _ => by go_simp) ?_
              simp only [Act.put, List.setIfInBounds_toArray, List.set_cons_zero, List.set_cons_succ]
              refine quiet_still rfl (.int .i64 ((n : Int) + 2 * (i : Int))) (fun w _ => by go_simp) ?_
              simp only [Act.put, List.setIfInBounds_toArray, List.set_cons_zero, List.set_cons_succ]
              refine quiet_moveV rfl _ rfl (.int .i64 (k : Int)) rfl ?_
              simp only [Act.put, List.setIfInBounds_toArray, List.set_cons_zero, List.set_cons_succ]
              refine quiet_still rfl (.int .i64 ((n : Int) + 2 * (i : Int) + (k : Int))) (fun w _ => by go_simp) ?_
              simp only [Act.put, List.setIfInBounds_toArray, List.set_cons_zero, List.set_cons_succ]
              refine quiet_still rfl (.pointer (some ⟨b4, 1, none⟩)) (fun w _ => by go_simp) ?_
              simp only [Act.put, List.setIfInBounds_toArray, List.set_cons_zero, List.set_cons_succ]
              refine quiet_load1 rfl _ _ rfl ⟨b4, 1, none⟩ rfl (.int .i64 x.pl) (load_int _ _) (fun _ h => (h.cell (p := ⟨b4, 1, none⟩) l4).trans ep) ?_
              simp only [Act.put, List.setIfInBounds_toArray, List.set_cons_zero, List.set_cons_succ]
              refine quiet_still rfl (.int .i64 ((n : Int) + 2 * (i : Int) + (k : Int) - x.pl)) (fun w _ => by go_simp) ?_
              simp only [Act.put, List.setIfInBounds_toArray, List.set_cons_zero, List.set_cons_succ]
              unfold wpQuiet
              intro wq hb
              have HBQ := Lib.hid (HB4.out.trans (hb.mono HB4.out.size))
              clear hb e0 ez ep
              go_wp2_with fail
              go_roundw
              case rel => exact ⟨m + 1, hml, by go_num, by rw [HNX.out], HBQ.out⟩
              case measure => (simp [intOf] <;> omega)
            · have ht' : takesP x (k : Int) = false := by simpa using ht
              rw [ht'] at HNX ⊢
              rw [if_neg (by decide)] at HNX
              clear ht ht'
              go_wp2_with fail
              go_roundw
              case rel => exact ⟨m + 1, hml, by go_num, by rw [HNX.out], HB4.out⟩
              case measure => (simp [intOf] <;> omega)
          · have m1 : ¬ (m : Int) < (ds.length : Int) := by omega
            have e : m = ds.length := by omega
            subst e
            have HNL := Lib.hid (refLine_next n s.ws ds k)
            have HLL := Lib.hid (refLine_len n s.ws ds k)
            rw [List.take_length]
            generalize refAt n s.ws k ds = va at *
            have HOX := Lib.hid (own_below HO.out HBX.out)
            have HBW := Lib.hid (HBR.out.trans (HBX.out.mono (by have := HBR.out.size; have := HZ1.out; omega)))
            have HZW := Lib.hid (show w.heap.size + 1 ≤ wx.heap.size by have := HBX.out.size; have := HBR.out.size; have := HZ1.out; omega)
            generalize refLineTo n s.ws ds k = D at *
            have HOX2 := Lib.hid (show wx.ownsRow (w.heap.size + 1) 3 1 (.slice av k cv) D.length (D.map (Value.int .i64)) by rw [HLL.out]; exact HOX.out)
            clear hml hm
            go_wp2_with (at_builtin; refine app_one (w0 := w1) (w.heap.size + 1) _ D va rfl _ _ rfl rfl HOX2.out rfl (by have := HLL.out; omega) HBW.out HZW.out ?_; intro g1 cap1 w4 hown1 hb1)
            have HO1 := Lib.hid hown1
            have HBB := Lib.hid hb1
            rw [HLL.out] at HO1
            clear hown1 hb1
            rw [HLL.out]
            go_wp2_with fail
            go_roundw
            case rel => exact ⟨k + 1, hkn, by go_num, by rw [HNL.out]; exact HO1.out, HBB.out⟩
            case measure => (simp [intOf] <;> omega)
      · have k1 : ¬ (k : Int) < (n : Int) := by omega
        have e : k = n := by omega
        subst e
        have HIS := Lib.hid (is_own HO.out (by rw [refLine_len]))
        have HBW := Lib.hid (HB1.out.trans (HBR.out.mono (by omega)))
        go_wp2_with fail
        go_ret2
        rw [HNN.out]
        exact ⟨_, rfl, HIS.out, HBW.out⟩
  · have hq : (ce != 0) = true := by rw [bne_iff_ne]; exact q
    go_wp2_with fail
    go_ret2
    exact ⟨_, rfl, is_nil _, HB1.out⟩
end Go.Proofs.Ytenfeekchggioaa
