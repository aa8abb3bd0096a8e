/- The reference's Lay walked. -/
import Derived.Test.YtnfppebcpagjpaaCV
import Derived.Deep.DeepAppendRoom
namespace Go.Proofs.Ytnfppebcpagjpaa
open Go.RowKit Go.Lib
set_option maxHeartbeats 1000000 in
set_option maxRecDepth 100000 in
theorem refPerm_ok (m : Nat) (m1 : 1 ≤ m) (m2 : m ≤ 12) (ws : List Int) (hl : ws.length ≤ 400) (hw : Word m ws) (v : Value) (w : World) (hv : IS w v ws) :
    Calls Try.prog 25 #[.int .i64 (m : Int), v] w fun e w' => ∃ v', e = .returned (.tuple #[v', .int .i64 0]) ∧ w'.ownsRow w.heap.size 3 1 v' m ((ints m (lineP ws).inv).map (Value.int .i64)) ∧ Below w.heap.size w w' := by
  obtain ⟨sa, sc, rfl, h1, h2, _, hI⟩ := hv
  have CK := Lib.hid (refCheck_any m ws sa sc w hI h1 h2)
  rw [checkV_of m1 m2 hl hw] at CK
  have HI := Lib.hid hI
  have Hw := Lib.hid hw
  clear hI hw
  go_enter Try.func25, Try.ntmps25
  go_wp2_with fail
  refine CK.out.mono ?_
  rintro e w1 ⟨rfl, B1⟩
  have HB1 := Lib.hid B1
  clear B1
  go_wp2_with fail
  refine (refline_any m m2 w1).mono ?_
  rintro e w2 ⟨v2, rfl, O2, B2⟩
  obtain ⟨g, cap, rfl⟩ := own_pos O2 (by omega)
  have hg := O2.lt g rfl
  have HB2 := Lib.hid (bon HB1.out B2)
  have HO2 := Lib.hid (own_mono O2 (HB1.out.size))
  have hgw : w.heap.size ≤ g := Nat.le_trans HB1.out.size hg.1
  clear B2 O2 hg
  go_wp2_with fail
  go_loopw [8] (fun i wr => ∃ k : Nat, k ≤ ws.length ∧ i = .int .i64 k ∧ wr.ownsRow w.heap.size 3 1 (.slice (some ⟨g, 0, none⟩) m cap) m ((ints m (lineP (ws.take k))).map (Value.int .i64)) ∧ Below w.heap.size w wr) (fun i _ => ws.length - (intOf i).toNat)
  case atStart => exact ⟨0, Nat.zero_le _, rfl, HO2.out, HB2.out⟩
  case round =>
    obtain ⟨k, hk, rfl, hown, hbw⟩ := hrel
    by_cases hkl : k < ws.length
    · obtain ⟨x, hx⟩ : ∃ x, ws[k]? = some x := ⟨_, List.getElem?_eq_getElem hkl⟩
      have hlet : Letter m x := Hw.out x (List.mem_of_getElem? hx)
      obtain ⟨b, off, rfl, hb, hc⟩ := HI.out k x hx
      have hcx := (hbw.cell (p := ⟨b, off + k, none⟩) hb).trans hc
      have k0 : (0 : Int) ≤ (k : Int) := by omega
      have k1 : (k : Int) < (ws.length : Int) := by omega
      have Hnext := Lib.hid (lineP_next hx)
      have CN := Lib.hid (refsize_any x hlet.1 (by have := hlet.2; omega) wr)
      have hj : num x + 1 < m := num_lt hlet
      obtain ⟨j, hjn⟩ : ∃ j, j = num x := ⟨_, rfl⟩
      rw [← hjn] at CN hj Hnext
      obtain ⟨y, hy⟩ : ∃ y, y = lineP (ws.take k) := ⟨_, rfl⟩
      rw [← hy] at hown Hnext
      have e0 : wr.cell? ⟨g, j, none⟩ = some (.int .i64 (y.f j : Int)) := by rw [hown.cellAt j (by omega), List.getElem?_map, ints_get y (by omega)]; rfl
      have e1 : wr.cell? ⟨g, j + 1, none⟩ = some (.int .i64 (y.f (j + 1) : Int)) := by rw [hown.cellAt (j + 1) (by omega), List.getElem?_map, ints_get y hj]; rfl
      have f0 := hown.frozenAt j
      have f1 := hown.frozenAt (j + 1)
      have hs1 := (hown.stored j (.int .i64 (y.f (j + 1) : Int))).1
      have hs2 := (hs1.stored (j + 1) (.int .i64 (y.f j : Int))).1
      rw [ints_swap y hj] at hs2
      have Hs2 := Lib.hid hs2.drew
      have Hbw2 := Lib.hid (((hbw.setCell (p := ⟨g, j, none⟩) hgw (.int .i64 (y.f (j + 1) : Int))).setCell (p := ⟨g, j + 1, none⟩) hgw (.int .i64 (y.f j : Int))).drew)
      have n0 : IntKind.i64.wrap (j : Int) = (j : Int) := num_in (by omega) (by omega)
      have n5 : ((j : Int) + 1).toNat = j + 1 := by omega
      have n3 : (0 : Int) ≤ (j : Int) + 1 := by omega
      have n6 : (j : Int) < (m : Int) := by omega
      have n7 : (j : Int) + 1 < (m : Int) := by omega
      have n8 : (0 : Int) ≤ (j : Int) := by omega
      clear hc hx hlet hs1 hs2 hown hbw hjn hy
      go_wp2_with fail
      refine CN.out.mono ?_
      rintro e w3 ⟨rfl, rfl⟩
      go_wp2_with fail
      go_region
      go_wp2_with fail
      go_roundw
      case rel => exact ⟨k + 1, hkl, by go_num, by rw [Hnext.out]; exact Hs2.out, Hbw2.out⟩
      case measure => (simp [intOf] <;> omega)
    · have k1 : ¬ (k : Int) < (ws.length : Int) := by omega
      have e : k = ws.length := by omega
      rw [e, List.take_length] at hown
      have CE := Lib.hid (refends_any m m2 (lineP ws) (lineP_in ws Hw.out) _ wr (is_own hown (ints_len _ _)))
      clear hown e
      go_wp2_with fail
      refine CE.out.mono ?_
      rintro e w4 ⟨v4, rfl, O4, B4⟩
      have HO4 := Lib.hid O4
      clear O4 CE
      go_wp2_with fail
      go_ret2
      exact ⟨v4, rfl, own_mono HO4.out hbw.size, bon hbw B4⟩
/-- append(v, x), x an int: an own row grows by one; its block is the same or a new one. -/
theorem app_one_fs {ops : Array Oper} {rest : List Oper} {o : Oper} {a : Act} {Q : Exit → Act → World → Prop} {w w0 : World} (B : Nat) (v : Value) (zs : List Int) (x : Int)
    (hgd : o.guard = none) (s y : Operand) (ho : o.op = .call { callee := .builtin .append, args := #[s, y], argTypes := #[22, 22] }) (hs : a.eval s = v)
    (hown : w.ownsRow B 3 1 v zs.length (zs.map (Value.int .i64))) (hy : a.eval y = .slice (some ⟨w.heap.size, 0, none⟩) 1 1) (hl : zs.length < 100000) (hb : Below B w0 w) (hB : B ≤ w.heap.size) (pb : Nat) (hp : v.ownBlock ≠ some pb) (hpb : pb < w.heap.size)
    (h : ∀ g cap w', w'.ownsRow B 3 1 (.slice (some ⟨g, 0, none⟩) (zs.length + 1) cap) (zs.length + 1) ((zs ++ [x]).map (Value.int .i64)) → Below B w0 w' → g ≠ pb → w'.heap[pb]? = w.heap[pb]? → w.heap.size ≤ w'.heap.size → wpList Try.prog ops Q rest (a.put o.dst (.slice (some ⟨g, 0, none⟩) (zs.length + 1) cap)) w') :
    wpList Try.prog ops Q (o :: rest) a (w.alloc (.cells #[.int .i64 x] 3)) := by
  obtain ⟨i0, hi, hz0, hz1, hz2⟩ := info_parts infoInt
  obtain ⟨W, hW⟩ : ∃ W, W = w.alloc (.cells #[.int .i64 x] 3) := ⟨_, rfl⟩
  have hWs : W.heap.size = w.heap.size + 1 := by rw [hW]; simp
  have hown' : W.ownsRow B 3 1 v zs.length (zs.map (Value.int .i64)) := by rw [hW]; exact hown.alloc _
  have hnews : ∀ j u, [Value.int .i64 x][j]? = some u → W.cell? ((⟨w.heap.size, 0, none⟩ : Addr).add j) = some u := by rw [hW]; exact cell_one_new _ _ _
  have hWp : W.heap[pb]? = w.heap[pb]? := by rw [hW]; exact Below.heap_alloc _ _ _ hpb
  have hWb : Below B w0 W := by rw [hW]; exact hb.alloc hB _
  rw [← hW]
  clear hW
  have one : ∀ u ∈ [Value.int .i64 x], u.oneCell' = true := by simp [Value.oneCell']
  have key : ∃ v' w', (Builtin.append_ #[22, 22] o.type #[v, .slice (some ⟨w.heap.size, 0, none⟩) 1 1]).run Try.prog W = .ok v' w' ∧ w'.ownsRow B 3 1 v' (zs.length + 1) (zs.map (Value.int .i64) ++ [.int .i64 x]) ∧ W.grownBy w' v.ownBlock ∧ v'.ownBlock ≠ some pb := by
    rcases hown'.2 with ⟨rfl, h0⟩ | ⟨g, cap, cur, rfl, hg, hgh, hc1, hc2, hc3, hc4⟩
    · have hz : zs = [] := List.eq_nil_of_length_eq_zero h0
      subst hz
      obtain ⟨v', w', hr, ho', hgr, _⟩ := run_append_own (P := Try.prog) W W.heap.size 22 o.type 3 i0 (.int .i64 0) 1 8 Try.underlying22 hi hz0 hz1 hz2 rfl (by decide) (.slice none 0 0) 0 [] (World.ownsRow_nil _ _ _ _) ⟨w.heap.size, 0, none⟩ 1 1 [.int .i64 x] rfl hnews one (by unfold maxLen; omega) (by omega) (Nat.le_refl _)
      refine ⟨v', w', hr, own_mono ho' (by omega), hgr, fun e => ?_⟩
      have := (ho'.lt pb e).1
      omega
    · by_cases hroom : zs.length + 1 ≤ cap
      · obtain ⟨w', hr, h2, h3⟩ := run_append_own_spare (P := Try.prog) W B 22 o.type 3 i0 1 Try.underlying22 hi hz1 g zs.length cap _ hown' ⟨w.heap.size, 0, none⟩ 1 1 [.int .i64 x] rfl hnews one hroom
        exact ⟨_, w', hr, h2, h3, hp⟩
      · obtain ⟨v', w', hr, ho', hgr, _⟩ := run_append_own (P := Try.prog) W B 22 o.type 3 i0 (.int .i64 0) 1 8 Try.underlying22 hi hz0 hz1 hz2 rfl (by decide) _ _ _ hown' ⟨w.heap.size, 0, none⟩ 1 1 [.int .i64 x] rfl hnews one (by unfold maxLen; omega) (by omega) (by omega)
        have holds : ∀ j u, (zs.map (Value.int .i64))[j]? = some u → W.cell? ((⟨g, 0, none⟩ : Addr).add j) = some u := hown'.cells (g := g) rfl
        have hr2 := run_append_grow (P := Try.prog) W 22 o.type 3 i0 (.int .i64 0) Try.underlying22 hi hz0 ⟨g, 0, none⟩ zs.length cap _ (by rw [hz1]; simp) holds ⟨w.heap.size, 0, none⟩ 1 1 [.int .i64 x] (by rw [hz1]; rfl) hnews (by omega) (by omega) (growslice_fits (by omega) (by rw [hz2]; omega))
        have e := hr.symm.trans hr2
        simp only [Result.ok.injEq] at e
        refine ⟨v', w', hr, ho', hgr, ?_⟩
        rw [e.1]
        simp only [Value.ownBlock, ne_eq, Option.some.injEq]
        omega
  obtain ⟨v', w', hr, ho', hgr, hne⟩ := key
  refine wpList_plain hgd fun K hK => ?_
  unfold Oper.wp execOp
  simp only [ho, resolve, invoke, builtin, Sem.run_bind, Sem.run_pure, Result.andThen_ok, List.map_toArray, List.map_cons, List.map_nil, hs, hy, hr]
  rcases ho'.2 with ⟨_, h0⟩ | ⟨g, cap, _, rfl, _⟩
  · omega
  · refine hK _ _ (h g cap w' (by rw [List.map_append]; exact ho') (Below.grown hWb hgr (by omega) fun k e => (hown.lt k e).1) (fun e => hne (by simp [Value.ownBlock, e])) ((hgr.block pb (by omega) hp.symm).trans hWp) (Nat.le_trans (by omega) hgr.size))
set_option maxHeartbeats 2000000 in
set_option maxRecDepth 100000 in
theorem refLay_true (m s : Nat) (hs : s < m) (m1 : 1 ≤ m) (m2 : m ≤ 12) (ws : List Int) (hl : ws.length ≤ 400) (hw : Word m ws) (h0 : strandV m ws s = 0) (v : Value) (w : World) (hv : IS w v ws) :
    Calls Try.prog 32 #[.int .i64 (m : Int), v, .int .i64 (s : Int), .bool true] w fun e w' => ∃ v', e = .returned (.tuple #[v', .int .i64 (layV m ws s true).2]) ∧ IS w' v' (layV m ws s true).1 ∧ Below w.heap.size w w' := by
  have Hv := Lib.hid hv
  obtain ⟨sa, sc, rfl, c1, c2, _, cI⟩ := hv
  have CK := Lib.hid (refCheck_any m ws sa sc w cI c1 c2)
  rw [checkV_of m1 m2 hl hw] at CK
  unfold layV
  rw [h0, if_pos rfl, Int.toNat_natCast, Int.toNat_natCast]
  have hll := layW_len m ws s true
  have hel := dropW_lt hs ws hw
  have hdl := dropW_len ws s
  have Hw := Lib.hid hw
  have CW := Lib.hid (fun w1 (B : Below w.heap.size w w1) => refdrop_any m m2 s hs ws Hw.out hl _ w1 (Hv.out.below B))
  have CP := Lib.hid (fun w1 (B : Below w.heap.size w w1) => refPerm_ok m m1 m2 ws hl Hw.out _ w1 (Hv.out.below B))
  have hpe : (ints m (lineP ws).inv)[s]? = some ((dropW s ws).2 : Int) := by rw [ints_get _ hs, drop_at]; rfl
  have HL := Lib.hid (show layW m ws s true = layP m s true ++ (dropW s ws).1 ++ layQ m (dropW s ws).2 true from rfl)
  obtain ⟨O, hO⟩ : ∃ O, O = (dropW s ws).1 := ⟨_, rfl⟩
  obtain ⟨e, he⟩ : ∃ e, e = (dropW s ws).2 := ⟨_, rfl⟩
  rw [← hO] at CW HL hll
  rw [← he] at HL hll hpe
  have Hpe := Lib.hid hpe
  rw [← hO] at hdl
  rw [← he] at hel
  generalize layW m ws s true = LW at HL hll ⊢
  have n1 : IntKind.i64.wrap ((m : Int) - 1) = ((m - 1 : Nat) : Int) := num_in (by omega) (by omega)
  have sm : (s : Int) < (m : Int) := by omega
  have sn : decide ((s : Int) < 0) = false := by simp
  have sq : decide (m ≤ s) = false := by simp; omega
  clear h0 hw hO he cI hpe hll
  obtain ⟨R, hR⟩ : ∃ R : List Int × Int, R = if 400 < LW.length then ([], 3) else (LW, 0) := ⟨_, rfl⟩
  rw [← hR]
  have HR := Lib.hid hR
  clear hR
  go_enter Try.func32, Try.ntmps32
  go_wp2_with fail
  refine CK.out.mono ?_
  rintro e w1 ⟨rfl, B1⟩
  have HB1 := Lib.hid B1
  clear B1 CK
  go_wp2_with fail
  try rw [sn]
  try rw [sq]
  go_loopw [12, 13] (fun vo i wr => ∃ (k p : Nat) (D : List Int), k ≤ m - 1 - s ∧ p = s + 1 + k ∧ D.length = k ∧ i = .int .i64 p ∧ D = (layP m s true).take k ∧ wr.ownsRow w.heap.size 3 1 vo D.length (D.map (Value.int .i64)) ∧ Below w.heap.size w wr) (fun _ i _ => m - (intOf i).toNat)
  case atStart => exact ⟨0, s + 1, [], Nat.zero_le _, rfl, rfl, by go_num, rfl, World.ownsRow_nil _ _ _ _, HB1.out⟩
  case round =>
    obtain ⟨k, p, D, hk, hp, hdk, rfl, hD, hown, hbw⟩ := hrel
    have Hown := Lib.hid hown
    have HD := Lib.hid hD
    have Hdk := Lib.hid hdk
    have Hp := Lib.hid hp
    have hbs := hbw.size
    by_cases hkl : p < m
    · have hkl' : (p : Int) < (m : Int) := by omega
      have q1 : IntKind.i64.wrap (p : Int) = (p : Int) := num_in rfl (by omega)
      have q2 : IntKind.i64.wrap (-(p : Int)) = -(p : Int) := IntWalk.i64_in _ (by omega)
      have Hnext := Lib.hid (take_more (layP_get (n := m) (s := s) (j := k) (above := true) (by omega)))
      rw [← hp] at Hnext
      clear hown hD hdk hp
      go_wp2_with (at_builtin; refine app_one (w0 := w) w.heap.size _ D ((p : Int)) rfl _ _ rfl rfl Hown.out rfl (by have := Hdk.out; omega) hbw hbs ?_; intro g cap w3 hown1 hb1)
      have HO1 := Lib.hid hown1
      clear hown1
      go_wp2_with fail
      go_roundw
      case rel => exact ⟨k + 1, p + 1, D ++ [(p : Int)], by have := Hp.out; omega, by have := Hp.out; omega, by rw [List.length_append, Hdk.out]; rfl, by go_num, by rw [Hnext.out, HD.out]; rfl, by rw [List.length_append]; exact HO1.out, hb1⟩
      case measure => (simp [intOf] <;> omega)
    · have hkl' : ¬ (p : Int) < (m : Int) := by omega
      rw [List.take_of_length_le (by rw [layP_len]; omega)] at hD
      have HDE := Lib.hid hD
      have hdl1 : D.length ≤ 12 := by omega
      have CW1 := Lib.hid (CW.out _ hbw)
      clear HD hown hD hdk hp Hdk CW
      go_wp2_with fail
      refine CW1.out.mono ?_
      rintro e' w2 ⟨v2, rfl, O2, B2⟩
      have HI2 := Lib.hid (is_own O2 rfl)
      have Hown2 := Lib.hid (own_below Hown.out B2)
      have HB2 := Lib.hid (hbw.trans (B2.mono hbs))
      clear O2 B2 CW1 Hown hbw hbs
      go_wp2_with (at_builtin; refine app_all (w0 := w) w.heap.size _ D O rfl _ _ rfl rfl Hown2.out _ rfl HI2.out (by omega) HB2.out HB2.out.size ?_; intro v3 w3 hown3 hb3; have HO3 := Lib.hid hown3; have HB3 := Lib.hid hb3; clear hown3 hb3)
      refine (CP.out w3 HB3.out).mono ?_
      rintro e' w4 ⟨v4, rfl, O4, B4⟩
      have HO4 := Lib.hid (own_below HO3.out B4)
      have HB4 := Lib.hid (HB3.out.trans (B4.mono HB3.out.size))
      obtain ⟨pb, pcap, rfl⟩ := own_pos O4 (by omega)
      have hpb := O4.lt pb rfl
      have hpne : v3.ownBlock ≠ some pb := fun e => by have := (HO3.out.lt pb e).2; omega
      have hcp := O4.cellAt s (by omega)
      rw [List.getElem?_map, Hpe.out] at hcp
      have pcell : w4.cell? ⟨pb, s, none⟩ = some (.int .i64 (e : Int)) := hcp
      have s0 : (0 : Int) ≤ (s : Int) := by omega
      have hpbs := hpb.2
      clear B4 HO3 HB3 CP Hown2 HI2 HB2 O4 hpb hcp
      go_wp2_with fail
      go_loopw [12, 16] (fun vo i wr => ∃ (k : Nat) (E : List Int), k ≤ m - 1 - e ∧ E.length = (D ++ O).length + k ∧ i = .int .i64 ((m - 1 - k : Nat) : Int) ∧ E = D ++ O ++ (layQ m e true).take k ∧ wr.ownsRow w.heap.size 3 1 vo E.length (E.map (Value.int .i64)) ∧ Below w.heap.size w wr ∧ vo.ownBlock ≠ some pb ∧ wr.heap[pb]? = w4.heap[pb]? ∧ pb < wr.heap.size) (fun _ i _ => (intOf i).toNat)
      case atStart => exact ⟨0, D ++ O, Nat.zero_le _, rfl, rfl, by simp, HO4.out, HB4.out, hpne, rfl, hpbs⟩
      case round =>
        obtain ⟨k, E, hk, hek, rfl, hE, hown, hbw, hne, hph, hpl⟩ := hrel
        have hpc := (World.cell?_of_block (a := ⟨pb, s, none⟩) hph).trans pcell
        have Hown := Lib.hid hown
        have HE := Lib.hid hE
        have Hek := Lib.hid hek
        have Hne := Lib.hid hne
        have Hph := Lib.hid hph
        have hbs := hbw.size
        have hel1 : E.length ≤ 500 := by rw [hek, List.length_append]; omega
        by_cases hkl : k < m - 1 - e
        · obtain ⟨p, hp⟩ : ∃ p, p = m - 1 - k := ⟨_, rfl⟩
          have Hnext := Lib.hid (take_more (layQ_get (n := m) (e := e) (j := k) (above := true) hkl))
          rw [← hp] at Hnext ⊢
          have hpe : (e : Int) < (p : Int) := by omega
          have q1 : IntKind.i64.wrap (p : Int) = (p : Int) := num_in rfl (by omega)
          have q2 : IntKind.i64.wrap (-(p : Int)) = -(p : Int) := IntWalk.i64_in _ (by omega)
          have q3 : IntKind.i64.wrap ((p : Int) - 1) = ((m - 1 - (k + 1) : Nat) : Int) := num_in (by omega) (by omega)
          have hp0 : m - 1 - (k + 1) < p := by omega
          clear hown hE hek hp hne hph
          go_wp2_with (at_builtin; refine app_one_fs (w0 := w) w.heap.size _ E (-(p : Int)) rfl _ _ rfl rfl Hown.out rfl (by omega) hbw hbs pb Hne.out hpl ?_; intro g cap w5 hown1 hb1 hgp hhp hsz)
          have HO1 := Lib.hid hown1
          have Hgp := Lib.hid (hhp.trans Hph.out)
          have Hg := Lib.hid hgp
          clear hown1 hgp hhp
          go_wp2_with fail
          go_roundw
          case rel => exact ⟨k + 1, E ++ [-(p : Int)], hkl, by rw [List.length_append, Hek.out]; rfl, rfl, by rw [Hnext.out, HE.out]; simp [ltr], by rw [List.length_append]; exact HO1.out, hb1, fun h => Hg.out (by simpa [Value.ownBlock] using h), Hgp.out, by omega⟩
          case measure => (simp [intOf] <;> omega)
        · have hpe : ¬ (e : Int) < ((m - 1 - k : Nat) : Int) := by omega
          rw [List.take_of_length_le (by rw [layQ_len]; omega), HDE.out, ← HL.out] at hE
          rw [hE] at hown
          have HF := Lib.hid hown
          obtain ⟨ao5, co5, rfl⟩ := own_form hown
          clear Hown HE hown hE hek Hek hne hph Hne Hph
          by_cases hlong : 400 < LW.length
          · have hr := HR.out
            rw [if_pos hlong] at hr
            clear HR
            subst hr
            have hlong' : (400 : Int) < (LW.length : Int) := by omega
            go_wp2_with fail
            go_ret2
            exact ⟨.slice none 0 0, rfl, is_nil _, hbw⟩
          · have hr := HR.out
            rw [if_neg hlong] at hr
            clear HR
            subst hr
            have hlong' : ¬ (400 : Int) < (LW.length : Int) := by omega
            go_wp2_with fail
            go_ret2
            exact ⟨_, rfl, is_own HF.out rfl, hbw⟩
set_option maxHeartbeats 2000000 in
set_option maxRecDepth 100000 in
theorem refLay_false (m s : Nat) (hs : s < m) (m1 : 1 ≤ m) (m2 : m ≤ 12) (ws : List Int) (hl : ws.length ≤ 400) (hw : Word m ws) (h0 : strandV m ws s = 0) (v : Value) (w : World) (hv : IS w v ws) :
    Calls Try.prog 32 #[.int .i64 (m : Int), v, .int .i64 (s : Int), .bool false] w fun e w' => ∃ v', e = .returned (.tuple #[v', .int .i64 (layV m ws s false).2]) ∧ IS w' v' (layV m ws s false).1 ∧ Below w.heap.size w w' := by
  have Hv := Lib.hid hv
  obtain ⟨sa, sc, rfl, c1, c2, _, cI⟩ := hv
  have CK := Lib.hid (refCheck_any m ws sa sc w cI c1 c2)
  rw [checkV_of m1 m2 hl hw] at CK
  unfold layV
  rw [h0, if_pos rfl, Int.toNat_natCast, Int.toNat_natCast]
  have hll := layW_len m ws s false
  have hel := dropW_lt hs ws hw
  have hdl := dropW_len ws s
  have Hw := Lib.hid hw
  have CW := Lib.hid (fun w1 (B : Below w.heap.size w w1) => refdrop_any m m2 s hs ws Hw.out hl _ w1 (Hv.out.below B))
  have CP := Lib.hid (fun w1 (B : Below w.heap.size w w1) => refPerm_ok m m1 m2 ws hl Hw.out _ w1 (Hv.out.below B))
  have hpe : (ints m (lineP ws).inv)[s]? = some ((dropW s ws).2 : Int) := by rw [ints_get _ hs, drop_at]; rfl
  have HL := Lib.hid (show layW m ws s false = layP m s false ++ (dropW s ws).1 ++ layQ m (dropW s ws).2 false from rfl)
  obtain ⟨O, hO⟩ : ∃ O, O = (dropW s ws).1 := ⟨_, rfl⟩
  obtain ⟨e, he⟩ : ∃ e, e = (dropW s ws).2 := ⟨_, rfl⟩
  rw [← hO] at CW HL hll
  rw [← he] at HL hll hpe
  have Hpe := Lib.hid hpe
  rw [← hO] at hdl
  rw [← he] at hel
  generalize layW m ws s false = LW at HL hll ⊢
  have n1 : IntKind.i64.wrap ((m : Int) - 1) = ((m - 1 : Nat) : Int) := num_in (by omega) (by omega)
  have sm : (s : Int) < (m : Int) := by omega
  have sn : decide ((s : Int) < 0) = false := by simp
  have sq : decide (m ≤ s) = false := by simp; omega
  clear h0 hw hO he cI hpe hll
  obtain ⟨R, hR⟩ : ∃ R : List Int × Int, R = if 400 < LW.length then ([], 3) else (LW, 0) := ⟨_, rfl⟩
  rw [← hR]
  have HR := Lib.hid hR
  clear hR
  go_enter Try.func32, Try.ntmps32
  go_wp2_with fail
  refine CK.out.mono ?_
  rintro e w1 ⟨rfl, B1⟩
  have HB1 := Lib.hid B1
  clear B1 CK
  go_wp2_with fail
  try rw [sn]
  try rw [sq]
  go_loopw [12, 13] (fun vo i wr => ∃ (k p : Nat) (D : List Int), k ≤ m - 1 - s ∧ p = s + 1 + k ∧ D.length = k ∧ i = .int .i64 p ∧ D = (layP m s false).take k ∧ wr.ownsRow w.heap.size 3 1 vo D.length (D.map (Value.int .i64)) ∧ Below w.heap.size w wr) (fun _ i _ => m - (intOf i).toNat)
  case atStart => exact ⟨0, s + 1, [], Nat.zero_le _, rfl, rfl, by go_num, rfl, World.ownsRow_nil _ _ _ _, HB1.out⟩
  case round =>
    obtain ⟨k, p, D, hk, hp, hdk, rfl, hD, hown, hbw⟩ := hrel
    have Hown := Lib.hid hown
    have HD := Lib.hid hD
    have Hdk := Lib.hid hdk
    have Hp := Lib.hid hp
    have hbs := hbw.size
    by_cases hkl : p < m
    · have hkl' : (p : Int) < (m : Int) := by omega
      have q1 : IntKind.i64.wrap (p : Int) = (p : Int) := num_in rfl (by omega)
      have q2 : IntKind.i64.wrap (-(p : Int)) = -(p : Int) := IntWalk.i64_in _ (by omega)
      have Hnext := Lib.hid (take_more (layP_get (n := m) (s := s) (j := k) (above := false) (by omega)))
      rw [← hp] at Hnext
      clear hown hD hdk hp
      go_wp2_with (at_builtin; refine app_one (w0 := w) w.heap.size _ D (-(p : Int)) rfl _ _ rfl rfl Hown.out rfl (by have := Hdk.out; omega) hbw hbs ?_; intro g cap w3 hown1 hb1)
      have HO1 := Lib.hid hown1
      clear hown1
      go_wp2_with fail
      go_roundw
      case rel => exact ⟨k + 1, p + 1, D ++ [-(p : Int)], by have := Hp.out; omega, by have := Hp.out; omega, by rw [List.length_append, Hdk.out]; rfl, by go_num, by rw [Hnext.out, HD.out]; rfl, by rw [List.length_append]; exact HO1.out, hb1⟩
      case measure => (simp [intOf] <;> omega)
    · have hkl' : ¬ (p : Int) < (m : Int) := by omega
      rw [List.take_of_length_le (by rw [layP_len]; omega)] at hD
      have HDE := Lib.hid hD
      have hdl1 : D.length ≤ 12 := by omega
      have CW1 := Lib.hid (CW.out _ hbw)
      clear HD hown hD hdk hp Hdk CW
      go_wp2_with fail
      refine CW1.out.mono ?_
      rintro e' w2 ⟨v2, rfl, O2, B2⟩
      have HI2 := Lib.hid (is_own O2 rfl)
      have Hown2 := Lib.hid (own_below Hown.out B2)
      have HB2 := Lib.hid (hbw.trans (B2.mono hbs))
      clear O2 B2 CW1 Hown hbw hbs
      go_wp2_with (at_builtin; refine app_all (w0 := w) w.heap.size _ D O rfl _ _ rfl rfl Hown2.out _ rfl HI2.out (by omega) HB2.out HB2.out.size ?_; intro v3 w3 hown3 hb3; have HO3 := Lib.hid hown3; have HB3 := Lib.hid hb3; clear hown3 hb3)
      refine (CP.out w3 HB3.out).mono ?_
      rintro e' w4 ⟨v4, rfl, O4, B4⟩
      have HO4 := Lib.hid (own_below HO3.out B4)
      have HB4 := Lib.hid (HB3.out.trans (B4.mono HB3.out.size))
      obtain ⟨pb, pcap, rfl⟩ := own_pos O4 (by omega)
      have hpb := O4.lt pb rfl
      have hpne : v3.ownBlock ≠ some pb := fun e => by have := (HO3.out.lt pb e).2; omega
      have hcp := O4.cellAt s (by omega)
      rw [List.getElem?_map, Hpe.out] at hcp
      have pcell : w4.cell? ⟨pb, s, none⟩ = some (.int .i64 (e : Int)) := hcp
      have s0 : (0 : Int) ≤ (s : Int) := by omega
      have hpbs := hpb.2
      clear B4 HO3 HB3 CP Hown2 HI2 HB2 O4 hpb hcp
      go_wp2_with fail
      go_loopw [12, 16] (fun vo i wr => ∃ (k : Nat) (E : List Int), k ≤ m - 1 - e ∧ E.length = (D ++ O).length + k ∧ i = .int .i64 ((m - 1 - k : Nat) : Int) ∧ E = D ++ O ++ (layQ m e false).take k ∧ wr.ownsRow w.heap.size 3 1 vo E.length (E.map (Value.int .i64)) ∧ Below w.heap.size w wr ∧ vo.ownBlock ≠ some pb ∧ wr.heap[pb]? = w4.heap[pb]? ∧ pb < wr.heap.size) (fun _ i _ => (intOf i).toNat)
      case atStart => exact ⟨0, D ++ O, Nat.zero_le _, rfl, rfl, by simp, HO4.out, HB4.out, hpne, rfl, hpbs⟩
      case round =>
        obtain ⟨k, E, hk, hek, rfl, hE, hown, hbw, hne, hph, hpl⟩ := hrel
        have hpc := (World.cell?_of_block (a := ⟨pb, s, none⟩) hph).trans pcell
        have Hown := Lib.hid hown
        have HE := Lib.hid hE
        have Hek := Lib.hid hek
        have Hne := Lib.hid hne
        have Hph := Lib.hid hph
        have hbs := hbw.size
        have hel1 : E.length ≤ 500 := by rw [hek, List.length_append]; omega
        by_cases hkl : k < m - 1 - e
        · obtain ⟨p, hp⟩ : ∃ p, p = m - 1 - k := ⟨_, rfl⟩
          have Hnext := Lib.hid (take_more (layQ_get (n := m) (e := e) (j := k) (above := false) hkl))
          rw [← hp] at Hnext ⊢
          have hpe : (e : Int) < (p : Int) := by omega
          have q1 : IntKind.i64.wrap (p : Int) = (p : Int) := num_in rfl (by omega)
          have q2 : IntKind.i64.wrap (-(p : Int)) = -(p : Int) := IntWalk.i64_in _ (by omega)
          have q3 : IntKind.i64.wrap ((p : Int) - 1) = ((m - 1 - (k + 1) : Nat) : Int) := num_in (by omega) (by omega)
          have hp0 : m - 1 - (k + 1) < p := by omega
          clear hown hE hek hp hne hph
          go_wp2_with (at_builtin; refine app_one_fs (w0 := w) w.heap.size _ E ((p : Int)) rfl _ _ rfl rfl Hown.out rfl (by omega) hbw hbs pb Hne.out hpl ?_; intro g cap w5 hown1 hb1 hgp hhp hsz)
          have HO1 := Lib.hid hown1
          have Hgp := Lib.hid (hhp.trans Hph.out)
          have Hg := Lib.hid hgp
          clear hown1 hgp hhp
          go_wp2_with fail
          go_roundw
          case rel => exact ⟨k + 1, E ++ [(p : Int)], hkl, by rw [List.length_append, Hek.out]; rfl, rfl, by rw [Hnext.out, HE.out]; simp [ltr], by rw [List.length_append]; exact HO1.out, hb1, fun h => Hg.out (by simpa [Value.ownBlock] using h), Hgp.out, by omega⟩
          case measure => (simp [intOf] <;> omega)
        · have hpe : ¬ (e : Int) < ((m - 1 - k : Nat) : Int) := by omega
          rw [List.take_of_length_le (by rw [layQ_len]; omega), HDE.out, ← HL.out] at hE
          rw [hE] at hown
          have HF := Lib.hid hown
          obtain ⟨ao5, co5, rfl⟩ := own_form hown
          clear Hown HE hown hE hek Hek hne hph Hne Hph
          by_cases hlong : 400 < LW.length
          · have hr := HR.out
            rw [if_pos hlong] at hr
            clear HR
            subst hr
            have hlong' : (400 : Int) < (LW.length : Int) := by omega
            go_wp2_with fail
            go_ret2
            exact ⟨.slice none 0 0, rfl, is_nil _, hbw⟩
          · have hr := HR.out
            rw [if_neg hlong] at hr
            clear HR
            subst hr
            have hlong' : ¬ (400 : Int) < (LW.length : Int) := by omega
            go_wp2_with fail
            go_ret2
            exact ⟨_, rfl, is_own HF.out rfl, hbw⟩
end Go.Proofs.Ytnfppebcpagjpaa
