/- The reference's Edges. -/
import Derived.Test.YtokaeiilhfbeoaaON
import Derived.Test.YtokaeiilhfbeoaaFS
namespace Go.Proofs.Ytokaeiilhfbeoaa
open Go.RowKit Go.Shelf
set_option linter.unusedSimpArgs false
attribute [local irreducible] wpQuiet
def EO (B : Nat) (w : World) (v : Value) (L : List Ed) : Prop := w.ownsRow B 46 4 v L.length (L.flatMap Ed.cs)
theorem app_ed {ops : Array Oper} {rest : List Oper} {o : Oper} {a : Act} {Q : Exit → Act → World → Prop} {w w0 : World} (B : Nat) (v : Value) (L : List Ed) (x : Ed) (CSX : Array Value) (hcs : CSX = x.cs.toArray)
    (hgd : o.guard = none) (s y : Operand) (ho : o.op = .call { callee := .builtin .append, args := #[s, y], argTypes := #[27, 27] }) (hs : a.eval s = v)
    (hown : EO B w v L) (hy : a.eval y = .slice (some ⟨w.heap.size, 0, none⟩) 1 1) (hl : L.length < 100000) (hb : Below B w0 w) (hB : B ≤ w.heap.size)
    (h : ∀ g cap w', EO B w' (.slice (some ⟨g, 0, none⟩) (L.length + 1) cap) (L ++ [x]) → Below B w0 w' → wpList Try.prog ops Q rest (a.put o.dst (.slice (some ⟨g, 0, none⟩) (L.length + 1) cap)) w') :
    wpList Try.prog ops Q (o :: rest) a (w.alloc (.cells CSX 46)) := by
  subst hcs
  obtain ⟨i0, hi, hz0, hz1, hz2⟩ := info_parts infoEdge
  refine wpList_append_own _ hgd s y 27 ho B 46 i0 _ 4 32 Try.underlying27 hi hz0 hz1 hz2 rfl (by decide) v _ _ hs (hown.alloc _) ⟨w.heap.size, 0, none⟩ 1 1 x.cs hy rfl ?_ (by simp [Ed.cs, Value.oneCell']) (by unfold maxLen; omega) (by omega) (by simp; omega) ?_
  · intro j u hu
    rw [Addr.add_mid, Nat.zero_add, cell_of_row _ _ j _ _ _ (heap_alloc_new _ _), List.getElem?_toArray]
    exact hu
  · intro v' w' hown' hgrow _
    obtain ⟨g', cap', rfl⟩ := ownsRow_succ hown'
    refine h g' cap' w' ?_ (Below.grown (hb.alloc hB _) hgrow (by simp; omega) fun k e => (hown.lt k e).1)
    show w'.ownsRow _ _ _ _ _ _
    rw [List.flatMap_append, List.length_append, List.length_singleton]
    simpa using hown'
theorem EO.form {B : Nat} {w : World} {v : Value} {L : List Ed} (h : EO B w v L) : ∃ a c, v = .slice a L.length c := own_form h
theorem range_next {α : Type} (f : Nat → α) (k : Nat) : (List.range (k + 1)).map f = (List.range k).map f ++ [f k] := by rw [List.range_succ, List.map_append]; rfl
set_option maxRecDepth 100000 in
set_option maxHeartbeats 16000000 in
theorem refEdges_any (s : Sh) (v : Value) (w : World) (hv : SV w v s) : Calls Try.prog 13 #[v] w fun e w' => ∃ v', e = .returned (.tuple #[v', .int .i64 (chkS s)]) ∧ ES w' v' (edgesV s) ∧ Below w.heap.size w w' := by
  have HV := Lib.hid hv
  obtain ⟨u, rfl, hu⟩ := hv
  obtain ⟨ua, uc, rfl, k1, k2, hU⟩ := id hu
  have HU := Lib.hid hU
  have HWS := Lib.hid hu
  have CK := Lib.hid (fun W h => refCheck4_any s (.agg #[.int .i64 s.pr, .slice ua s.ws.length uc]) W h)
  have HE := Lib.hid (show edgesV s = if chkS s = 0 then edgesL s.pr.toNat s.ws else [] from rfl)
  have HSM0 := Lib.hid (@chk_small s)
  generalize edgesV s = ev at *
  generalize chkS s = z at *
  clear hU hu
  go_enter Try.func13, Try.ntmps13
  go_wp2_with fail
  have h0 := heap_alloc_new w (.cells #[.int .i64 s.pr, .slice ua s.ws.length uc] 24)
  have b0 := below_alloc w (.cells #[.int .i64 s.pr, .slice ua s.ws.length uc] 24)
  have z0 : (w.alloc (.cells #[.int .i64 s.pr, .slice ua s.ws.length uc] 24)).heap.size = w.heap.size + 1 := by simp
  generalize w.alloc (.cells #[.int .i64 s.pr, .slice ua s.ws.length uc] 24) = w0 at *
  refine (CK.out w0 (HV.out.below b0)).mono ?_
  rintro e w1 ⟨rfl, b1⟩
  have H0 := Lib.hid ((b1.block _ (by omega)).trans h0)
  have HB1 := Lib.hid (bon b0 b1)
  have HZ1 := Lib.hid (show w.heap.size + 1 ≤ w1.heap.size by have := b1.size; omega)
  clear h0 b0 z0 b1 CK
  by_cases q : z = 0
  · subst q
    have he : ev = edgesL s.pr.toNat s.ws := by rw [HE.out, if_pos rfl]
    subst he
    obtain ⟨s1, s2, hsm⟩ := HSM0.out rfl
    have HSM := Lib.hid hsm
    have hw4 : s.ws.length ≤ 400 := hsm.1
    obtain ⟨pr, ws⟩ := s
    obtain ⟨n, rfl⟩ : ∃ n : Nat, pr = (n : Int) := ⟨pr.toNat, by simp only at s1; omega⟩
    simp only [Int.toNat_natCast] at *
    have hn : n ≤ 24 := by omega
    clear hsm HSM0 HE
    go_wp2_with fail
    go_loopw [5, 6] (fun vo i wr => ∃ k : Nat, k ≤ n ∧ i = .int .i64 (k : Int) ∧ EO (w.heap.size + 1) wr vo ((List.range k).map (topE ws)) ∧ Below (w.heap.size + 1) w1 wr) (fun _ i _ => n - (intOf i).toNat)
    case atStart => exact ⟨0, Nat.zero_le _, rfl, World.ownsRow_nil _ _ _ _, Below.refl _ _⟩
    case round =>
      obtain ⟨k, hk, rfl, hown, hb⟩ := hrel
      have HO := Lib.hid hown
      have HB := Lib.hid hb
      obtain ⟨a9, c9, hv9⟩ := hown.form
      subst hv9
      have HX0 := Lib.hid ((hb.block _ (by omega)).trans H0.out)
      have hzz := hb.size
      have HLN := Lib.hid (show ((List.range k).map (topE ws)).length = k by simp)
      have g0 : wr.cell? ⟨w.heap.size, 0, none⟩ = some (.int .i64 (n : Int)) := cell_of_row wr _ 0 _ _ _ HX0.out
      have g1 : wr.cell? ⟨w.heap.size, 1, none⟩ = some (.slice ua ws.length uc) := cell_of_row wr _ 1 _ _ _ HX0.out
      have HBW := Lib.hid (HB1.out.trans (hb.mono (Nat.le_succ _)))
      have HZW := Lib.hid (show w.heap.size + 1 ≤ wr.heap.size by have := HZ1.out; omega)
      clear hown hb
      by_cases hkn : k < n
      · have k0 : (k : Int) < (n : Int) := by omega
        have CE := Lib.hid (fun W h => refEnd_any (n : Int) ws HSM.out (.slice ua ws.length uc) W h 0 (k : Int) (by omega))
        have HNX := Lib.hid (range_next (topE ws) k)
        have HTE := Lib.hid (show topE ws k = ⟨-1, (k : Int), (endL (ws.drop 0) 0 (k : Int)).1, (endL (ws.drop 0) 0 (k : Int)).2⟩ from rfl)
        generalize (endL (ws.drop 0) 0 (k : Int)).1 = t1 at *
        generalize (endL (ws.drop 0) 0 (k : Int)).2 = t2 at *
        generalize (List.range k).map (topE ws) = L at *
        go_wp2_with fail
        refine (CE.out _ (HWS.out.below HBW.out)).mono ?_
        rintro e w5 ⟨rfl, b5⟩
        have HO5 := Lib.hid (show EO (w.heap.size + 1) w5 _ L from own_below HO.out b5)
        have HB5 := Lib.hid (HB.out.trans (b5.mono HZW.out))
        have HZ5 := Lib.hid (Nat.le_trans HZW.out b5.size)
        clear b5 g0 g1
        go_wp2_with (at_builtin; refine app_ed (w0 := w1) (w.heap.size + 1) _ L (topE ws k) _ (by rw [HTE.out]; rfl) rfl _ _ rfl rfl HO5.out rfl (by rw [HLN.out]; omega) HB5.out HZ5.out ?_; intro g2 cap2 w6 hown6 hb6)
        have HO6 := Lib.hid hown6
        have HB6 := Lib.hid hb6
        clear hown6 hb6
        go_wp2_with fail
        go_roundw
        case rel => exact ⟨k + 1, hkn, by go_num, by rw [HNX.out]; have h := HO6.out; exact h, HB6.out⟩
        case measure => (simp [intOf] <;> omega)
      · have k0 : ¬ (k : Int) < (n : Int) := by omega
        have e : n = k := by omega
        subst e
        go_wp2_with fail
        clear g0 g1 hkn k0
        go_loopw [5, 9] (fun vo i wx => ∃ k : Nat, k ≤ ws.length ∧ i = .int .i64 (k : Int) ∧ EO (w.heap.size + 1) wx vo ((List.range n).map (topE ws) ++ downE ws (ws.take k) 0) ∧ Below (w.heap.size + 1) w1 wx) (fun _ i _ => ws.length - (intOf i).toNat)
        case atStart => exact ⟨0, Nat.zero_le _, rfl, by simpa [downE] using HO.out, HB.out⟩
        case round =>
          clear HO HB HX0 hzz HLN HBW HZW hk
          obtain ⟨k, hk, rfl, hown, hb⟩ := hrel
          rename World => wx
          have HO := Lib.hid hown
          have HB := Lib.hid hb
          obtain ⟨a8, c8, hv8⟩ := hown.form
          subst hv8
          have HX0 := Lib.hid ((hb.block _ (by omega)).trans H0.out)
          have hzz := hb.size
          have g1 : wx.cell? ⟨w.heap.size, 1, none⟩ = some (.slice ua ws.length uc) := cell_of_row wx _ 1 _ _ _ HX0.out
          have HBW := Lib.hid (HB1.out.trans (hb.mono (Nat.le_succ _)))
          have HZW := Lib.hid (show w.heap.size + 1 ≤ wx.heap.size by have := HZ1.out; omega)
          clear hown hb
          by_cases hkl : k < ws.length
          · have j0 : (0 : Int) ≤ (k : Int) := by omega
            have j1 : (k : Int) < (ws.length : Int) := by omega
            obtain ⟨x, hx⟩ : ∃ x, ws[k]? = some x := ⟨_, List.getElem?_eq_getElem hkl⟩
            have hxp := HSM.out.2 x (List.mem_of_getElem? hx)
            obtain ⟨p, hp⟩ : ∃ p : Nat, x.pl = (p : Int) := ⟨x.pl.toNat, by omega⟩
            have hp100 : p ≤ 100 := by omega
            have HDN := Lib.hid (show downE ws (ws.take (k + 1)) 0 = downE ws (ws.take k) 0 ++ [sideE ws k x 0, sideE ws k x 1] by
              rw [List.take_add_one, hx, Option.toList_some, downE_snoc, List.length_take, show 0 + min k ws.length = k by omega])
            obtain ⟨b, off, rfl, hbl, hr, _⟩ := HU.out k x hx
            have HPX := Lib.hid hp
            have HLN := Lib.hid (show ((List.range n).map (topE ws) ++ downE ws (ws.take k) 0).length ≤ 1000 by
              have h := congrArg List.length (show edgesL n (ws.take k) = edgesL n (ws.take k) from rfl)
              have hd : ∀ (L : List Wk) (i : Nat), (downE ws L i).length = 2 * L.length := fun L => by
                induction L with
                | nil => intro i; rfl
                | cons y L ih => intro i; simp only [downE, List.length_cons, ih]; omega
              rw [List.length_append, List.length_map, List.length_range, hd, List.length_take]
              omega)
            clear hx hp hxp
            go_wp2_with fail
            go_loopw [5, 10] (fun vo i wy => ∃ j : Nat, j ≤ 2 ∧ i = .int .i64 (j : Int) ∧ EO (w.heap.size + 1) wy vo ((List.range n).map (topE ws) ++ downE ws (ws.take k) 0 ++ (List.range j).map (sideE ws k x)) ∧ Below (w.heap.size + 1) w1 wy) (fun _ i _ => 2 - (intOf i).toNat)
            case atStart => exact ⟨0, Nat.zero_le _, rfl, by simpa using HO.out, HB.out⟩
            case round =>
              clear HO HB HX0 hzz HBW HZW g1
              obtain ⟨j, hj, rfl, hown, hb⟩ := hrel
              rename World => wy
              have HO := Lib.hid hown
              have HB := Lib.hid hb
              obtain ⟨a7, c7, hv7⟩ := hown.form
              subst hv7
              have HX0 := Lib.hid ((hb.block _ (by omega)).trans H0.out)
              have hzz := hb.size
              have HZW := Lib.hid (show w.heap.size + 1 ≤ wy.heap.size by have := HZ1.out; omega)
              have g1 : wy.cell? ⟨w.heap.size, 1, none⟩ = some (.slice (some ⟨b, off, none⟩) ws.length uc) := cell_of_row wy _ 1 _ _ _ HX0.out
              have HBW := Lib.hid (HB1.out.trans (hb.mono (Nat.le_succ _)))
              clear hown hb
              by_cases hj2 : j < 2
              · have j2 : (j : Int) < 2 := by omega
                have j3 : (0 : Int) ≤ (j : Int) := by omega
                have gp : wy.cell? ⟨b, off + k * 3 + 1, none⟩ = some (.int .i64 (p : Int)) := by rw [← HPX.out]; exact (HBW.out.cell (p := ⟨b, off + k * 3 + 1, none⟩) hbl).trans (hr 1 _ rfl)
                have qa : IntKind.i64.wrap ((p : Int) + (j : Int)) = ((p + j : Nat) : Int) := (IntWalk.i64_in _ (by omega)).trans (by omega)
                have qk : IntKind.i64.wrap ((k : Int) + 1) = ((k + 1 : Nat) : Int) := (IntWalk.i64_in _ (by omega)).trans (by omega)
                have hzb : b < wy.heap.size := by have := HBW.out.size; omega
                have hzl := HZW.out
                have CE := Lib.hid (fun W h => refEnd_any (n : Int) ws HSM.out (.slice (some ⟨b, off, none⟩) ws.length uc) W h (k + 1) ((p + j : Nat) : Int) (by omega))
                have HNX := Lib.hid (range_next (sideE ws k x) j)
                have HTE := Lib.hid (show sideE ws k x j = ⟨(k : Int), (j : Int), (endL (ws.drop (k + 1)) (k + 1) ((p + j : Nat) : Int)).1, (endL (ws.drop (k + 1)) (k + 1) ((p + j : Nat) : Int)).2⟩ by
                  unfold sideE edgeP
                  rw [HPX.out, show (((k + 1 : Nat) : Int) - 1) = (k : Int) by omega, show ((p : Int) + (j : Int)) = ((p + j : Nat) : Int) by omega])
                generalize (endL (ws.drop (k + 1)) (k + 1) ((p + j : Nat) : Int)).1 = t1 at *
                generalize (endL (ws.drop (k + 1)) (k + 1) ((p + j : Nat) : Int)).2 = t2 at *
                go_wp2_with fail
                refine wp_region_class (fun w' => Below wy.heap.size wy w') 16 (by kernel_rfl) (by kernel_rfl) (Below.refl _ wy).drew ?_
                simp only [List.take_succ_cons, List.take_zero, List.drop_succ_cons, List.drop_zero]
                refine quiet_load_mid rfl _ _ rfl w.heap.size 0 rfl [.int .i64 (n : Int), .slice (some ⟨b, off, none⟩) ws.length uc] _ (fun W h => rangeH ((h.block _ (show w.heap.size < wy.heap.size by omega)).trans HX0.out)) Try.underlying24 rfl (by kernel_rfl) ?_
                simp only [Act.put, List.setIfInBounds_toArray, List.set_cons_zero, List.set_cons_succ]
                refine quiet_moveV rfl _ rfl (.int .i64 (k : Int)) rfl ?_
                simp only [Act.put, List.setIfInBounds_toArray, List.set_cons_zero, List.set_cons_succ]
                refine quiet_still rfl (.int .i64 ((k + 1 : Nat) : Int)) (fun w _ => by go_simp) ?_
                simp only [Act.put, List.setIfInBounds_toArray, List.set_cons_zero, List.set_cons_succ]
                refine quiet_still rfl (.pointer (some ⟨w.heap.size, 1, none⟩)) (fun w _ => by go_simp) ?_
                simp only [Act.put, List.setIfInBounds_toArray, List.set_cons_zero, List.set_cons_succ]
                refine quiet_load1 rfl _ _ rfl ⟨w.heap.size, 1, none⟩ rfl (.slice (some ⟨b, off, none⟩) ws.length uc) (load_ws _ _) (fun _ h => (h.cell (p := ⟨w.heap.size, 1, none⟩) (show w.heap.size < wy.heap.size by omega)).trans g1) ?_
                simp only [Act.put, List.setIfInBounds_toArray, List.set_cons_zero, List.set_cons_succ]
                refine quiet_moveV rfl _ rfl (.int .i64 (k : Int)) rfl ?_
                simp only [Act.put, List.setIfInBounds_toArray, List.set_cons_zero, List.set_cons_succ]
                refine quiet_still rfl (.pointer (some ⟨b, off + k * 3, none⟩)) (fun w _ => by go_simp) ?_
                simp only [Act.put, List.setIfInBounds_toArray, List.set_cons_zero, List.set_cons_succ]
                refine quiet_still rfl (.pointer (some ⟨b, off + k * 3 + 1, none⟩)) (fun w _ => by go_simp) ?_
                simp only [Act.put, List.setIfInBounds_toArray, List.set_cons_zero, List.set_cons_succ]
                refine quiet_load1 rfl _ _ rfl ⟨b, off + k * 3 + 1, none⟩ rfl (.int .i64 (p : Int)) (load_int _ _) (fun _ h => (h.cell (p := ⟨b, off + k * 3 + 1, none⟩) hzb).trans gp) ?_
                simp only [Act.put, List.setIfInBounds_toArray, List.set_cons_zero, List.set_cons_succ]
                refine quiet_moveV rfl _ rfl (.int .i64 (j : Int)) rfl ?_
                simp only [Act.put, List.setIfInBounds_toArray, List.set_cons_zero, List.set_cons_succ]
                refine quiet_still rfl (.int .i64 ((p + j : Nat) : Int)) (fun w _ => by go_simp) ?_
                simp only [Act.put, List.setIfInBounds_toArray, List.set_cons_zero, List.set_cons_succ]
                refine quiet_call rfl 36 _ _ rfl (enter_of Try.func36 (by decide) (by intro h; cases h)) _ (fun W h => (CE.out W (HWS.out.below (HBW.out.trans (h.mono HBW.out.size)))).mono fun e w' ⟨he, hw⟩ => ⟨he, h.trans (hw.mono h.size)⟩) ?_
                simp only [Act.put, List.setIfInBounds_toArray, List.set_cons_zero, List.set_cons_succ]
                refine quiet_moveV rfl _ rfl (.tuple #[.int .i64 t1, .int .i64 t2]) rfl ?_
                simp only [Act.put, List.setIfInBounds_toArray, List.set_cons_zero, List.set_cons_succ]
                refine quiet_still rfl (.int .i64 t1) (fun w _ => by go_simp) ?_
                simp only [Act.put, List.setIfInBounds_toArray, List.set_cons_zero, List.set_cons_succ]
                refine quiet_still rfl (.int .i64 t2) (fun w _ => by go_simp) ?_
                simp only [Act.put, List.setIfInBounds_toArray, List.set_cons_zero, List.set_cons_succ]
                refine quiet_still rfl (.int .i64 t1) (fun w _ => by go_simp) ?_
                simp only [Act.put, List.setIfInBounds_toArray, List.set_cons_zero, List.set_cons_succ]
                unfold wpQuiet
                intro wq hb
                have HBQ := Lib.hid hb
                have HO5 := Lib.hid (show EO (w.heap.size + 1) wq _ ((List.range n).map (topE ws) ++ downE ws (ws.take k) 0 ++ (List.range j).map (sideE ws k x)) from own_below HO.out hb)
                have HB5 := Lib.hid (HB.out.trans (hb.mono HZW.out))
                have HZ5 := Lib.hid (Nat.le_trans HZW.out hb.size)
                have HL5 := Lib.hid (show ((List.range n).map (topE ws) ++ downE ws (ws.take k) 0 ++ (List.range j).map (sideE ws k x)).length < 100000 by have := HLN.out; rw [List.length_append, List.length_map, List.length_range]; omega)
                clear hb g1 gp qa qk
                obtain ⟨L, hLL⟩ : ∃ L, L = (List.range n).map (topE ws) ++ downE ws (ws.take k) 0 ++ (List.range j).map (sideE ws k x) := ⟨_, rfl⟩
                rw [← hLL] at HO5 HL5 HO ⊢
                have HLL := Lib.hid hLL.symm
                clear hLL
                go_wp2_with (at_builtin; refine app_ed (w0 := w1) (w.heap.size + 1) _ L (sideE ws k x j) _ (by rw [HTE.out]; rfl) rfl _ _ rfl rfl HO5.out rfl HL5.out HB5.out HZ5.out ?_; intro g2 cap2 w6 hown6 hb6)
                have HO6 := Lib.hid hown6
                have HB6 := Lib.hid hb6
                clear hown6 hb6
                go_wp2_with fail
                go_roundw
                case rel => exact ⟨j + 1, hj2, by go_num, by have h := HO6.out; rw [HNX.out, ← List.append_assoc, HLL.out]; exact h, HB6.out⟩
                case measure => (simp [intOf] <;> omega)
              · have j2 : ¬ (j : Int) < 2 := by omega
                have e : j = 2 := by omega
                subst e
                have HO2 := Lib.hid (show EO (w.heap.size + 1) wy _ ((List.range n).map (topE ws) ++ downE ws (ws.take (k + 1)) 0) by
                  rw [HDN.out, ← List.append_assoc]
                  exact HO.out)
                go_wp2_with fail
                go_roundw
                case rel => exact ⟨k + 1, hkl, by go_num, by have h := HO2.out; first | exact h | (rw [List.length_append] at h; exact h) | simpa using h, HB.out⟩
                case measure => (simp [intOf] <;> omega)
          · have j1 : ¬ (k : Int) < (ws.length : Int) := by omega
            have e : k = ws.length := by omega
            subst e
            have HTT := Lib.hid (show (List.range n).map (topE ws) ++ downE ws (ws.take ws.length) 0 = edgesL n ws by rw [List.take_length]; rfl)
            have HEL := Lib.hid (show edgesL n ws = (List.range n).map (topE ws) ++ downE ws (ws.take ws.length) 0 from HTT.out.symm)
            generalize (List.range n).map (topE ws) ++ downE ws (ws.take ws.length) 0 = L at *
            have HES := Lib.hid (es_own HO.out)
            go_wp2_with fail
            go_ret2
            refine ⟨_, rfl, ?_, HBW.out⟩
            rw [HEL.out]
            exact HES.out
  · have he : ev = [] := by rw [HE.out, if_neg q]
    subst he
    go_wp2_with fail
    go_ret2
    exact ⟨_, rfl, ⟨none, 0, rfl, fun k x hx => by cases hx⟩, HB1.out⟩
end Go.Proofs.Ytokaeiilhfbeoaa
