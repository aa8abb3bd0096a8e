/- The factors brought into normal form by one pass to the left: pushLeft walked. -/
import Derived.Test.YtmefpaoakblndaaGreatDoorBL
import Derived.Test.YtmefpaoakblndaaGreatDoorBQ
namespace Go.Proofs.YtmefpaoakblndaaGreatDoor
open Go.RowKit

theorem entTake (args : Array Value) (w : World) : (callFunc 148 args).run Tryz.prog w = .ok (.enter 148 args) w := enter_of Tryz.func148 (by decide +kernel) (by intro h; cases h) args w
theorem wp_alloc59 {o : Oper} {a : Act} {w : World} {K : Act → World → Prop} {Q : Exit → Act → World → Prop} (ho : o.op = .alloc 108)
    (h : ∀ g w', g = w.heap.size → w'.there g 0 12 → g < w'.heap.size → Below w.heap.size w w' → K (a.put o.dst (.pointer (some ⟨g, 0, none⟩))) w') : o.wp Tryz.prog a w K Q := by
  have h1 := h w.heap.size (w.alloc (.cells (pcF fun _ => 0) 108)) rfl (there_row (pcF_size _) (heap_alloc_new w _)) (by simp) (below_alloc w _)
  rw [pcF_zero] at h1
  unfold Oper.wp execOp
  simp only [ho]
  go_simp
  exact h1

set_option maxHeartbeats 8000000 in
set_option maxRecDepth 100000 in
theorem pushLeft_any (fb n : Nat) (p : Int) (ao : Option Addr) (cap : Nat) (R : List Pm) (s : Pm) (w : World) (hn : n ≤ 12) (hi : AllIn n R) (hsi : s.In n) (hcp : R.length < 50000) (hs : NS fb n p ao cap (R.reverse ++ [s]) w) :
    Calls Tryz.prog 136 #[.pointer (some ⟨fb, 0, none⟩)] w fun e w' => e = .returned (.tuple #[]) ∧ NS fb n p ao cap (pushR n R s []) w' ∧ Below fb w w' := by
  have hc2 := hs.c2
  have hlen := hs.fr.le
  have hl1 : (R.reverse ++ [s]).length = R.length + 1 := by simp
  rw [hl1] at hc2 hlen
  have hw1 : IntKind.i64.wrap (((R.length + 1 : Nat) : Int) - 1) = (R.length : Int) := num_in (by omega) (by omega)
  have hw2 : IntKind.i64.wrap ((R.length : Int) + 1 - 1) = (R.length : Int) := num_in (by omega) (by omega)
  have Hs := Lib.hid hs
  have Hi := Lib.hid hi
  clear hs hi
  go_enter Tryz.func136, Tryz.ntmps136
  go_wp2_with fail
  go_loopw [2] (fun i wr => ∃ (A : List Pm) (t : Pm) (acc : List Pm), i = .int .i64 (A.length : Int) ∧ AllIn n A ∧ t.In n ∧ pushR n A t acc = pushR n R s [] ∧ A.length + acc.length = R.length ∧ NS fb n p ao cap (A.reverse ++ t :: acc) wr ∧ Below fb w wr) (fun i _ => (intOf i).toNat)
  case atStart => exact ⟨R, s, [], rfl, Hi.out, hsi, rfl, by simp, Hs.out, Below.refl _ _⟩
  case round =>
    obtain ⟨A, t, acc, rfl, hA, ht, hP, hLa, hns, hbw⟩ := hrel
    cases A with
    | nil =>
      have hns' : NS fb n p ao cap (pushR n R s []) wr := by rw [← hP]; exact hns
      go_wp2_with fail
      exact ⟨rfl, .tuple #[], results_none rfl _ _ _, rfl, hns', hbw⟩
    | cons a A =>
      rw [List.length_cons] at hLa
      obtain ⟨x1, hx1⟩ : ∃ x1, x1 = ((a :: A).reverse ++ t :: acc)[A.length]? := ⟨_, rfl⟩
      have ha := hA a (by simp)
      have hMl : ((a :: A).reverse ++ t :: acc).length = A.length + 1 + (acc.length + 1) := by simp; omega
      have hM0 : ((a :: A).reverse ++ t :: acc)[A.length]? = some a := by rw [List.reverse_cons, List.append_assoc, List.getElem?_append_right (by simp)]; simp
      have hM1 : ((a :: A).reverse ++ t :: acc)[A.length + 1]? = some t := by rw [List.getElem?_append_right (by simp)]; simp
      obtain ⟨b, off, hao, hB, hsb, hr0, ht0⟩ := hns.fr.at hM0
      have hlen2 := hns.fr.le
      rw [hMl] at hlen2
      have cl : ((a :: A).length : Int) = (A.length : Int) + 1 := by simp
      rw [cl]
      have hw3 : IntKind.i64.wrap ((A.length : Int) + 1 - 1) = (A.length : Int) := num_in (by omega) (by omega)
      have hw4 : IntKind.i64.wrap (A.length : Int) = (A.length : Int) := num_in rfl (by omega)
      have j0 : (0 : Int) < (A.length : Int) + 1 := by omega
      have hfz := hns.sz
      have Hns := Lib.hid hns
      clear hx1 hc2
      subst hao
      go_wp2_with fail
      refine region_takes (fun w' => NS fb n p (some ⟨b, off, none⟩) cap ((a :: A).reverse ++ t :: acc) w' ∧ w'.rangeAt b (off + A.length * 12) (pl a) ∧ w'.rangeAt b (off + (A.length + 1) * 12) (pl t) ∧ Below fb w w') 19 (by kernel_rfl) (by kernel_rfl) (fun t _ _ _ _ h => by cases t <;> exact h) ⟨Hns.out.drew, by simpa using hr0, ?hrt, hbw.drew⟩ ?_
      case hrt =>
        obtain ⟨b', off', e', _, _, hr1, _⟩ := Hns.out.fr.at hM1
        cases e'
        simpa using hr1
      simp only [List.take_succ_cons, List.take_zero]
      refine takes_move rfl _ rfl ?_
      simp only [Act.put, List.setIfInBounds_toArray, List.set_cons_zero, List.set_cons_succ]
      refine takes_still rfl (.pointer (some ⟨fb, 0, none⟩)) (fun w _ => by go_simp) ?_
      simp only [Act.put, List.setIfInBounds_toArray, List.set_cons_zero, List.set_cons_succ]
      refine takes_still rfl (.pointer (some ⟨fb, 0, none⟩)) (fun w _ => by go_simp) ?_
      simp only [Act.put, List.setIfInBounds_toArray, List.set_cons_zero, List.set_cons_succ]
      refine takes_load1 rfl _ _ rfl ⟨fb, 0, none⟩ rfl _ (load_int _ _) (fun _ h => h.1.c0) ?_
      simp only [Act.put, List.setIfInBounds_toArray, List.set_cons_zero, List.set_cons_succ]
      refine takes_move rfl _ rfl ?_
      simp only [Act.put, List.setIfInBounds_toArray, List.set_cons_zero, List.set_cons_succ]
      refine takes_still rfl (.pointer (some ⟨fb, 0, none⟩)) (fun w _ => by go_simp) ?_
      simp only [Act.put, List.setIfInBounds_toArray, List.set_cons_zero, List.set_cons_succ]
      refine takes_still rfl (.pointer (some ⟨fb, 2, none⟩)) (fun w _ => by go_simp) ?_
      simp only [Act.put, List.setIfInBounds_toArray, List.set_cons_zero, List.set_cons_succ]
      refine takes_load1 rfl _ _ rfl ⟨fb, 2, none⟩ rfl _ (load_fac _ _) (fun _ h => h.1.c2) ?_
      simp only [Act.put, List.setIfInBounds_toArray, List.set_cons_zero, List.set_cons_succ]
      refine takes_move rfl _ rfl ?_
      simp only [Act.put, List.setIfInBounds_toArray, List.set_cons_zero, List.set_cons_succ]
      refine takes_still rfl (.int .i64 (A.length : Int)) (fun w _ => by go_simp) ?_
      simp only [Act.put, List.setIfInBounds_toArray, List.set_cons_zero, List.set_cons_succ]
      have jl : (A.length : Int) < ((((a :: A).reverse ++ t :: acc).length : Nat) : Int) := by omega
      have jl1 : (A.length : Int) + 1 < ((((a :: A).reverse ++ t :: acc).length : Nat) : Int) := by omega
      obtain ⟨ML, hML⟩ : ∃ ML, ML = ((a :: A).reverse ++ t :: acc).length := ⟨_, rfl⟩
      rw [← hML] at jl jl1 ⊢
      have HML := Lib.hid hML
      clear hML
      have jn : (0 : Int) ≤ (A.length : Int) := by omega
      have jn1 : (0 : Int) ≤ (A.length : Int) + 1 := by omega
      have jt : ((A.length : Int) + 1).toNat = A.length + 1 := by omega
      refine takes_still rfl (.pointer (some ⟨b, off + A.length * 12, none⟩)) (fun w _ => by go_simp) ?_
      simp only [Act.put, List.setIfInBounds_toArray, List.set_cons_zero, List.set_cons_succ]
      refine takes_load_mid rfl 108 (.tmp 26) rfl b (off + A.length * 12) rfl (pl a) _ (fun _ h => h.2.1) Tryz.underlying108 hd59 (hi59L _) ?_
      simp only [Act.put, List.setIfInBounds_toArray, List.set_cons_zero, List.set_cons_succ]
      refine takes_move rfl _ rfl ?_
      simp only [Act.put, List.setIfInBounds_toArray, List.set_cons_zero, List.set_cons_succ]
      refine takes_still rfl (.pointer (some ⟨fb, 0, none⟩)) (fun w _ => by go_simp) ?_
      simp only [Act.put, List.setIfInBounds_toArray, List.set_cons_zero, List.set_cons_succ]
      refine takes_still rfl (.pointer (some ⟨fb, 2, none⟩)) (fun w _ => by go_simp) ?_
      simp only [Act.put, List.setIfInBounds_toArray, List.set_cons_zero, List.set_cons_succ]
      refine takes_load1 rfl _ _ rfl ⟨fb, 2, none⟩ rfl _ (load_fac _ _) (fun _ h => h.1.c2) ?_
      simp only [Act.put, List.setIfInBounds_toArray, List.set_cons_zero, List.set_cons_succ]
      refine takes_move rfl _ rfl ?_
      simp only [Act.put, List.setIfInBounds_toArray, List.set_cons_zero, List.set_cons_succ]
      rw [← HML.out]
      refine takes_still rfl (.pointer (some ⟨b, off + (A.length + 1) * 12, none⟩)) (fun w _ => by go_simp) ?_
      simp only [Act.put, List.setIfInBounds_toArray, List.set_cons_zero, List.set_cons_succ]
      refine takes_load_mid rfl 108 (.tmp 33) rfl b (off + (A.length + 1) * 12) rfl (pl t) _ (fun _ h => h.2.2.1) Tryz.underlying108 hd59 (hi59L _) ?_
      simp only [Act.put, List.setIfInBounds_toArray, List.set_cons_zero, List.set_cons_succ]
      refine takes_nil ?_
      have hfz2 := hfz
      have HS := Lib.hid (fun (W : World) (hW : Below wr.heap.size wr W) => (⟨Hns.out.below hW, range_below hr0 hW hsb, range_below (by obtain ⟨b', off', e', _, _, hr1, _⟩ := Hns.out.fr.at hM1; cases e'; exact hr1) hW hsb, hbw.trans (hW.mono (Nat.le_of_lt hfz))⟩ : NS fb n p (some ⟨b, off, none⟩) cap ((a :: A).reverse ++ t :: acc) W ∧ W.rangeAt b (off + A.length * 12) (pl a) ∧ W.rangeAt b (off + (A.length + 1) * 12) (pl t) ∧ Below fb w W))
      have B0 : Below wr.heap.size wr wr.drew := (Below.refl _ wr).drew
      have HML2 := HML
      have Jl := Lib.hid jl
      have Jl1 := Lib.hid jl1
      clear hr0 ht0 HML jl jl1 jn jn1 jt
      refine wpAnyH_ready (rs := [19, 23, 24]) (by kernel_rfl) (by simp) (AllReadyH.cons (o := { dst := some 35, op := Op.call { callee := Callee.value (Operand.func 148), args := #[Operand.tmp 19, Operand.tmp 27, Operand.tmp 34], argTypes := #[3, 108, 108] }, type := 158, pos := "normal.go:65", after := #[{ on := 3, ground := Ground.data }, { on := 11, ground := Ground.data }, { on := 18, ground := Ground.data }], guard := none }) rfl (fun K hK => ?_) (AllReadyH.cons (o := { dst := some 3, op := Op.alloc 108, type := 0, pos := "normal.go:65", after := #[], guard := none }) rfl (fun K hK => ?_) (AllReadyH.cons (o := { dst := some 4, op := Op.alloc 108, type := 0, pos := "normal.go:65", after := #[], guard := none }) rfl (fun K hK => ?_) AllReadyH.nil)))
      · rw [if_pos (by rfl)]
        refine wp_call 148 _ _ rfl entTake (.tuple #[.agg (pl (take n a t).1).toArray, .agg (pl (take n a t).2).toArray]) _ (takeOver_any n hn a t ha ht _) (fun W1 hb1 => hK.out _ _ (HS.out W1 (B0.trans (hb1.mono B0.size))) (fun _ => ?_))
        have B1 : Below wr.heap.size wr W1 := B0.trans (hb1.mono B0.size)
        have z1 := hb1.size
        clear hK K hb1
        simp only [Act.put, List.setIfInBounds_toArray, List.set_cons_zero, List.set_cons_succ]
        refine wpAnyH_take (i := 20) (oi := { dst := some 15, op := Op.move (Operand.tmp 35), type := 158, pos := "normal.go:65", after := #[{ on := 19, ground := Ground.data }], guard := none }) (v := (.tuple #[.agg (pl (take n a t).1).toArray, .agg (pl (take n a t).2).toArray])) rfl (by kernel_rfl) (by kernel_rfl) (by kernel_rfl) (fun _ _ _ h => h) (.inl ⟨by rfl, fun w _ => by go_simp⟩) (HS.out W1 B1) ?_
        simp only [Act.put, List.setIfInBounds_toArray, List.set_cons_zero, List.set_cons_succ]
        refine wpAnyH_take (i := 21) (oi := { dst := some 36, op := Op.extract (Operand.tmp 15) 0, type := 108, pos := "normal.go:65", after := #[{ on := 20, ground := Ground.data }], guard := none }) (v := (.agg (pl (take n a t).1).toArray)) rfl (by kernel_rfl) (by kernel_rfl) (by kernel_rfl) (fun _ _ _ h => h) (.inl ⟨by rfl, fun w _ => by go_simp⟩) (HS.out W1 B1) ?_
        simp only [Act.put, List.setIfInBounds_toArray, List.set_cons_zero, List.set_cons_succ]
        refine wpAnyH_take (i := 22) (oi := { dst := some 37, op := Op.extract (Operand.tmp 15) 1, type := 108, pos := "normal.go:65", after := #[{ on := 20, ground := Ground.data }, { on := 25, ground := Ground.gcOnly Departure.lateStores }], guard := none }) (v := (.agg (pl (take n a t).2).toArray)) rfl (by kernel_rfl) (by kernel_rfl) (by kernel_rfl) (fun _ _ _ h => h) (.inl ⟨by rfl, fun w _ => by go_simp⟩) (HS.out W1 B1) ?_
        simp only [Act.put, List.setIfInBounds_toArray, List.set_cons_zero, List.set_cons_succ]
        refine wpAnyH_ready (rs := [23, 24]) (by kernel_rfl) (by simp) (AllReadyH.cons (o := { dst := some 3, op := Op.alloc 108, type := 0, pos := "normal.go:65", after := #[], guard := none }) rfl (fun K hK => ?_) (AllReadyH.cons (o := { dst := some 4, op := Op.alloc 108, type := 0, pos := "normal.go:65", after := #[], guard := none }) rfl (fun K hK => ?_) AllReadyH.nil))
        · rw [if_pos (by rfl)]
          refine wp_alloc59 rfl (fun g3 W2 e3 t3 s3 hb2 => hK.out _ _ (HS.out W2 (B1.trans (hb2.mono B1.size))) (fun _ => ?_))
          have B2 : Below wr.heap.size wr W2 := B1.trans (hb2.mono B1.size)
          have z2 := hb2.size
          have y3 := B1.size
          clear hK K hb2
          simp only [Act.put, List.setIfInBounds_toArray, List.set_cons_zero, List.set_cons_succ]
          refine wpAnyH_ready (rs := [24]) (by kernel_rfl) (by simp) (AllReadyH.cons (o := { dst := some 4, op := Op.alloc 108, type := 0, pos := "normal.go:65", after := #[], guard := none }) rfl (fun K hK => ?_) AllReadyH.nil)
          rw [if_pos (by rfl)]
          refine wp_alloc59 rfl (fun g4 W3 e4 t4 s4 hb3 => hK.out _ _ (HS.out W3 (B2.trans (hb3.mono B2.size))) (fun _ => ?_))
          have B3 : Below wr.heap.size wr W3 := B2.trans (hb3.mono B2.size)
          have z3 := hb3.size
          have y4 := B2.size
          have t3 := there_below t3 hb3 s3
          have s3 : g3 < W3.heap.size := by omega
          clear hK K hb3
          simp only [Act.put, List.setIfInBounds_toArray, List.set_cons_zero, List.set_cons_succ]
          have hne : g3 ≠ g4 := by omega
          have w3 : wr.heap.size ≤ g3 := by omega
          have w4 : wr.heap.size ≤ g4 := by omega
          clear e3 e4 y3 y4
          refine wpAnyH_ready (rs := [25]) (by kernel_rfl) (by simp) (AllReadyH.cons (o := { dst := none, op := Op.store 108 (Operand.tmp 3) (Operand.tmp 36), type := 0, pos := "normal.go:65", after := #[{ on := 23, ground := Ground.data }, { on := 21, ground := Ground.data }, { on := 19, ground := Ground.chain }, { on := 0, ground := Ground.phase }, { on := 1, ground := Ground.phase }, { on := 2, ground := Ground.phase }, { on := 3, ground := Ground.phase }, { on := 4, ground := Ground.phase }, { on := 5, ground := Ground.phase }, { on := 6, ground := Ground.phase }, { on := 7, ground := Ground.phase }, { on := 8, ground := Ground.phase }, { on := 9, ground := Ground.phase }, { on := 10, ground := Ground.phase }, { on := 11, ground := Ground.phase }, { on := 12, ground := Ground.phase }, { on := 13, ground := Ground.phase }, { on := 14, ground := Ground.phase }, { on := 15, ground := Ground.phase }, { on := 16, ground := Ground.phase }, { on := 17, ground := Ground.phase }, { on := 18, ground := Ground.phase }, { on := 19, ground := Ground.phase }, { on := 20, ground := Ground.phase }, { on := 21, ground := Ground.phase }, { on := 22, ground := Ground.textOnly Departure.lateStores }, { on := 23, ground := Ground.phase }, { on := 24, ground := Ground.phase }], guard := none }) rfl (fun K hK => ?_) AllReadyH.nil)
          rw [if_pos (by rfl)]
          refine wp_store_mid 108 (.tmp 3) (.tmp 36) rfl g3 0 (pl (take n a t).1).toArray rfl rfl (by rw [sizeP]; exact t3) (hi59A _) (all_oneCell_toArray (pl_one _)) (hK.out _ _ (HS.out _ (below_setCells B3 w3 0 _)) (fun _ => ?_))
          clear hK K
          simp only [Act.put]
          obtain ⟨V1, hV⟩ : ∃ V, V = W3.setCells g3 0 (pl (take n a t).1) := ⟨_, rfl⟩
          rw [← hV]
          have BV1 : Below wr.heap.size wr V1 := by rw [hV]; exact below_setCells B3 w3 0 _
          have zv1 : V1.heap.size = W3.heap.size := by rw [hV]; exact size_setCells' _ _ _ _
          have r3 : V1.rangeAt g3 0 (pl (take n a t).1) := by rw [hV]; exact World.rangeAt_setCells_same _ _ _ _ (by rw [pl_len]; exact t3)
          have r4 : V1.there g4 0 12 := by rw [hV]; exact World.there_setCells t4 _ _ _
          clear hV
          refine wpAnyH_ready (rs := [26]) (by kernel_rfl) (by simp) (AllReadyH.cons (o := { dst := none, op := Op.store 108 (Operand.tmp 4) (Operand.tmp 37), type := 0, pos := "normal.go:65", after := #[{ on := 24, ground := Ground.data }, { on := 22, ground := Ground.data }, { on := 25, ground := Ground.chain }, { on := 0, ground := Ground.phase }, { on := 1, ground := Ground.phase }, { on := 2, ground := Ground.phase }, { on := 3, ground := Ground.phase }, { on := 4, ground := Ground.phase }, { on := 5, ground := Ground.phase }, { on := 6, ground := Ground.phase }, { on := 7, ground := Ground.phase }, { on := 8, ground := Ground.phase }, { on := 9, ground := Ground.phase }, { on := 10, ground := Ground.phase }, { on := 11, ground := Ground.phase }, { on := 12, ground := Ground.phase }, { on := 13, ground := Ground.phase }, { on := 14, ground := Ground.phase }, { on := 15, ground := Ground.phase }, { on := 16, ground := Ground.phase }, { on := 17, ground := Ground.phase }, { on := 18, ground := Ground.phase }, { on := 19, ground := Ground.phase }, { on := 20, ground := Ground.phase }, { on := 21, ground := Ground.phase }, { on := 22, ground := Ground.phase }, { on := 23, ground := Ground.phase }, { on := 24, ground := Ground.phase }, { on := 25, ground := Ground.phase }], guard := none }) rfl (fun K hK => ?_) AllReadyH.nil)
          rw [if_pos (by rfl)]
          refine wp_store_mid 108 (.tmp 4) (.tmp 37) rfl g4 0 (pl (take n a t).2).toArray rfl rfl (by rw [sizeP]; exact r4) (hi59A _) (all_oneCell_toArray (pl_one _)) (hK.out _ _ (HS.out _ (below_setCells BV1 w4 0 _)) (fun _ => ?_))
          clear hK K
          simp only [Act.put]
          obtain ⟨V2, hV⟩ : ∃ V, V = V1.setCells g4 0 (pl (take n a t).2) := ⟨_, rfl⟩
          rw [← hV]
          have BV2 : Below wr.heap.size wr V2 := by rw [hV]; exact below_setCells BV1 w4 0 _
          have zv2 : V2.heap.size = V1.heap.size := by rw [hV]; exact size_setCells' _ _ _ _
          have u3 : V2.rangeAt g3 0 (pl (take n a t).1) := by rw [hV]; exact World.rangeAt_setCells_apart r3 _ _ _ (.inl hne)
          have u4 : V2.rangeAt g4 0 (pl (take n a t).2) := by rw [hV]; exact World.rangeAt_setCells_same _ _ _ _ (by rw [pl_len]; exact r4)
          clear hV
          refine wpAnyH_done (by kernel_rfl) ?_ _
          have l3 : g3 < V2.heap.size := by omega
          have l4 : g4 < V2.heap.size := by omega
          clear t3 t4 r3 r4 BV1
          go_wp2_with fail
          obtain ⟨ee, hTS⟩ := take_spec ha ht
          have tin := hTS.ina
          have tin2 := hTS.inb
          by_cases he : (take n a t).1 = a
          · refine wp_region_quiet (C := fun w' => Below wr.heap.size wr w' ∧ w'.rangeAt g3 0 (pl (take n a t).1) ∧ w'.rangeAt g4 0 (pl (take n a t).2) ∧ g3 < w'.heap.size ∧ g4 < w'.heap.size) (by kernel_rfl) (by kernel_rfl) ⟨BV2.drew, by simpa using u3, by simpa using u4, l3, l4⟩ ?_
            dsimp only
            refine quiet_load_mid rfl 108 (.tmp 3) rfl g3 0 rfl (pl (take n a t).1) _ (fun _ h => h.2.1) Tryz.underlying108 hd59 (hi59L _) ?_
            simp only [Act.put, List.setIfInBounds_toArray, List.set_cons_zero, List.set_cons_succ]
            refine quiet_move rfl _ rfl ?_
            simp only [Act.put, List.setIfInBounds_toArray, List.set_cons_zero, List.set_cons_succ]
            refine quiet_still rfl (.pointer (some ⟨fb, 0, none⟩)) (fun w _ => by go_simp) ?_
            simp only [Act.put, List.setIfInBounds_toArray, List.set_cons_zero, List.set_cons_succ]
            refine quiet_still rfl (.pointer (some ⟨fb, 2, none⟩)) (fun w _ => by go_simp) ?_
            simp only [Act.put, List.setIfInBounds_toArray, List.set_cons_zero, List.set_cons_succ]
            refine quiet_load1 rfl _ _ rfl ⟨fb, 2, none⟩ rfl _ (load_fac _ _) (fun _ h => (HS.out _ h.1).1.c2) ?_
            simp only [Act.put, List.setIfInBounds_toArray, List.set_cons_zero, List.set_cons_succ]
            refine quiet_move rfl _ rfl ?_
            simp only [Act.put, List.setIfInBounds_toArray, List.set_cons_zero, List.set_cons_succ]
            refine quiet_still rfl (.int .i64 (A.length : Int)) (fun w _ => by go_simp) ?_
            simp only [Act.put, List.setIfInBounds_toArray, List.set_cons_zero, List.set_cons_succ]
            rw [← HML2.out]
            have jl := Jl.out
            have jn : (0 : Int) ≤ (A.length : Int) := by omega
            refine quiet_still rfl (.pointer (some ⟨b, off + A.length * 12, none⟩)) (fun w _ => by go_simp) ?_
            simp only [Act.put, List.setIfInBounds_toArray, List.set_cons_zero, List.set_cons_succ]
            refine quiet_load_mid rfl 108 (.tmp 45) rfl b (off + A.length * 12) rfl (pl a) _ (fun _ h => (HS.out _ h.1).2.1) Tryz.underlying108 hd59 (hi59L _) ?_
            simp only [Act.put, List.setIfInBounds_toArray, List.set_cons_zero, List.set_cons_succ]
            have heq := fun w => eql_pl a a (ha.more hn) (ha.more hn) w (d := true) ⟨fun _ => rfl, fun _ => rfl⟩
            refine quiet_still rfl (.bool true) (fun w _ => by go_simp) ?_
            simp only [Act.put, List.setIfInBounds_toArray, List.set_cons_zero, List.set_cons_succ]
            refine wpQuiet_nil fun U hU => ?_
            obtain ⟨bu, u3', u4', l3', l4'⟩ := hU
            go_wp2_with fail
            refine ⟨rfl, .tuple #[], results_none rfl _ _ _, rfl, ?_, hbw.trans (bu.mono (Nat.le_of_lt hfz))⟩
            rw [← hP]
            unfold pushR
            have hE : eqB n (take n a t).1 a = true := (eqB_iff tin ha).2 he
            rw [if_pos hE]
            have := (HS.out _ bu).1
            rw [List.reverse_cons, List.append_assoc] at this
            exact this
          · refine wp_region_quiet (C := fun w' => Below wr.heap.size wr w' ∧ w'.rangeAt g3 0 (pl (take n a t).1) ∧ w'.rangeAt g4 0 (pl (take n a t).2) ∧ g3 < w'.heap.size ∧ g4 < w'.heap.size) (by kernel_rfl) (by kernel_rfl) ⟨BV2.drew, by simpa using u3, by simpa using u4, l3, l4⟩ ?_
            dsimp only
            refine quiet_load_mid rfl 108 (.tmp 3) rfl g3 0 rfl (pl (take n a t).1) _ (fun _ h => h.2.1) Tryz.underlying108 hd59 (hi59L _) ?_
            simp only [Act.put, List.setIfInBounds_toArray, List.set_cons_zero, List.set_cons_succ]
            refine quiet_move rfl _ rfl ?_
            simp only [Act.put, List.setIfInBounds_toArray, List.set_cons_zero, List.set_cons_succ]
            refine quiet_still rfl (.pointer (some ⟨fb, 0, none⟩)) (fun w _ => by go_simp) ?_
            simp only [Act.put, List.setIfInBounds_toArray, List.set_cons_zero, List.set_cons_succ]
            refine quiet_still rfl (.pointer (some ⟨fb, 2, none⟩)) (fun w _ => by go_simp) ?_
            simp only [Act.put, List.setIfInBounds_toArray, List.set_cons_zero, List.set_cons_succ]
            refine quiet_load1 rfl _ _ rfl ⟨fb, 2, none⟩ rfl _ (load_fac _ _) (fun _ h => (HS.out _ h.1).1.c2) ?_
            simp only [Act.put, List.setIfInBounds_toArray, List.set_cons_zero, List.set_cons_succ]
            refine quiet_move rfl _ rfl ?_
            simp only [Act.put, List.setIfInBounds_toArray, List.set_cons_zero, List.set_cons_succ]
            refine quiet_still rfl (.int .i64 (A.length : Int)) (fun w _ => by go_simp) ?_
            simp only [Act.put, List.setIfInBounds_toArray, List.set_cons_zero, List.set_cons_succ]
            rw [← HML2.out]
            have jl := Jl.out
            have jn : (0 : Int) ≤ (A.length : Int) := by omega
            refine quiet_still rfl (.pointer (some ⟨b, off + A.length * 12, none⟩)) (fun w _ => by go_simp) ?_
            simp only [Act.put, List.setIfInBounds_toArray, List.set_cons_zero, List.set_cons_succ]
            refine quiet_load_mid rfl 108 (.tmp 45) rfl b (off + A.length * 12) rfl (pl a) _ (fun _ h => (HS.out _ h.1).2.1) Tryz.underlying108 hd59 (hi59L _) ?_
            simp only [Act.put, List.setIfInBounds_toArray, List.set_cons_zero, List.set_cons_succ]
            have heq := fun w => eql_pl (take n a t).1 a (tin.more hn) (ha.more hn) w (d := false) ⟨fun h => (by cases h), fun h => absurd h he⟩
            refine quiet_still rfl (.bool false) (fun w _ => by go_simp) ?_
            simp only [Act.put, List.setIfInBounds_toArray, List.set_cons_zero, List.set_cons_succ]
            refine wpQuiet_nil fun U hU => ?_
            obtain ⟨bu, u3', u4', l3', l4'⟩ := hU
            go_wp2_with fail
            have hcc := (HS.out _ bu).1.c2
            refine region_takes (fun w' => w'.cell? ⟨fb, 2, none⟩ = some (.slice (some ⟨b, off, none⟩) (((a :: A).reverse ++ t :: acc).length) cap) ∧ w'.rangeAt g3 0 (pl (take n a t).1) ∧ w'.rangeAt g4 0 (pl (take n a t).2)) 14 (by kernel_rfl) (by kernel_rfl) (fun t _ _ _ _ h => by cases t <;> exact h) ⟨by simpa using hcc, by simpa using u3', by simpa using u4'⟩ ?_
            simp only [List.take_succ_cons, List.take_zero]
            refine takes_move rfl _ rfl ?_
            simp only [Act.put, List.setIfInBounds_toArray, List.set_cons_zero, List.set_cons_succ]
            refine takes_still rfl (.pointer (some ⟨fb, 0, none⟩)) (fun w _ => by go_simp) ?_
            simp only [Act.put, List.setIfInBounds_toArray, List.set_cons_zero, List.set_cons_succ]
            refine takes_still rfl (.pointer (some ⟨fb, 2, none⟩)) (fun w _ => by go_simp) ?_
            simp only [Act.put, List.setIfInBounds_toArray, List.set_cons_zero, List.set_cons_succ]
            refine takes_load1 rfl _ _ rfl ⟨fb, 2, none⟩ rfl _ (load_fac _ _) (fun _ h => h.1) ?_
            simp only [Act.put, List.setIfInBounds_toArray, List.set_cons_zero, List.set_cons_succ]
            refine takes_move rfl _ rfl ?_
            simp only [Act.put, List.setIfInBounds_toArray, List.set_cons_zero, List.set_cons_succ]
            refine takes_still rfl (.int .i64 (A.length : Int)) (fun w _ => by go_simp) ?_
            simp only [Act.put, List.setIfInBounds_toArray, List.set_cons_zero, List.set_cons_succ]
            refine takes_move rfl _ rfl ?_
            simp only [Act.put, List.setIfInBounds_toArray, List.set_cons_zero, List.set_cons_succ]
            refine takes_still rfl (.pointer (some ⟨fb, 0, none⟩)) (fun w _ => by go_simp) ?_
            simp only [Act.put, List.setIfInBounds_toArray, List.set_cons_zero, List.set_cons_succ]
            refine takes_still rfl (.pointer (some ⟨fb, 2, none⟩)) (fun w _ => by go_simp) ?_
            simp only [Act.put, List.setIfInBounds_toArray, List.set_cons_zero, List.set_cons_succ]
            refine takes_load1 rfl _ _ rfl ⟨fb, 2, none⟩ rfl _ (load_fac _ _) (fun _ h => h.1) ?_
            simp only [Act.put, List.setIfInBounds_toArray, List.set_cons_zero, List.set_cons_succ]
            refine takes_move rfl _ rfl ?_
            simp only [Act.put, List.setIfInBounds_toArray, List.set_cons_zero, List.set_cons_succ]
            refine takes_load_mid rfl 108 (.tmp 3) rfl g3 0 rfl (pl (take n a t).1) _ (fun _ h => h.2.1) Tryz.underlying108 hd59 (hi59L _) ?_
            simp only [Act.put, List.setIfInBounds_toArray, List.set_cons_zero, List.set_cons_succ]
            refine takes_load_mid rfl 108 (.tmp 4) rfl g4 0 rfl (pl (take n a t).2) _ (fun _ h => h.2.2) Tryz.underlying108 hd59 (hi59L _) ?_
            simp only [Act.put, List.setIfInBounds_toArray, List.set_cons_zero, List.set_cons_succ]
            rw [← HML2.out]
            rw [← HML2.out] at hcc
            have jl1 := Jl1.out
            have jn1 : (0 : Int) ≤ (A.length : Int) + 1 := by omega
            have jt : ((A.length : Int) + 1).toNat = A.length + 1 := by omega
            refine takes_still rfl (.pointer (some ⟨b, off + A.length * 12, none⟩)) (fun w _ => by go_simp) ?_
            simp only [Act.put, List.setIfInBounds_toArray, List.set_cons_zero, List.set_cons_succ]
            refine takes_nil ?_
            obtain ⟨N1, -, -, Bu⟩ := HS.out _ bu
            obtain ⟨b5, off5, e5, -, -, -, th1⟩ := N1.fr.at hM0
            cases e5
            have hbf : fb < b := by omega
            have hg3 : g3 ≠ b := by omega
            have hg4 : g4 ≠ b := by omega
            refine wpAnyH_ready (rs := [14]) (by kernel_rfl) (by simp) (AllReadyH.cons (o := { dst := none, op := Op.store 108 (Operand.tmp 61) (Operand.tmp 59), type := 0, pos := "normal.go:69", after := #[{ on := 13, ground := Ground.data }, { on := 11, ground := Ground.data }, { on := 0, ground := Ground.phase }, { on := 1, ground := Ground.phase }, { on := 2, ground := Ground.phase }, { on := 3, ground := Ground.phase }, { on := 4, ground := Ground.phase }, { on := 5, ground := Ground.phase }, { on := 6, ground := Ground.textOnly Departure.lateStores }, { on := 7, ground := Ground.textOnly Departure.lateStoresUnsure }, { on := 8, ground := Ground.textOnly Departure.lateStoresUnsure }, { on := 9, ground := Ground.phase }, { on := 10, ground := Ground.textOnly Departure.lateStores }, { on := 11, ground := Ground.phase }, { on := 12, ground := Ground.textOnly Departure.lateStores }], guard := none }) rfl (fun K hK => ?_) AllReadyH.nil)
            rw [if_pos (by rfl)]
            refine wp_store_mid 108 (.tmp 61) (.tmp 59) rfl b (off + A.length * 12) (pl (take n a t).1).toArray rfl rfl (by rw [sizeP]; simpa using th1) (hi59A _) (all_oneCell_toArray (pl_one _)) (hK.out _ _ ⟨(cell_setCells_block (by omega)).trans (by simpa using hcc), World.rangeAt_setCells_apart (by simpa using u3') _ _ _ (.inl hg3), World.rangeAt_setCells_apart (by simpa using u4') _ _ _ (.inl hg4)⟩ (fun hS5 => ?_))
            clear hK K
            simp only [Act.put]
            have N2 := N1.drew.set hbf (by omega : A.length < ((a :: A).reverse ++ t :: acc).length) (take n a t).1
            have Bu2 := below_setCells Bu.drew (by omega : fb ≤ b) (off + A.length * 12) (pl (take n a t).1)
            obtain ⟨X1, hX1⟩ : ∃ X, X = U.drew.setCells b (off + A.length * 12) (pl (take n a t).1) := ⟨_, rfl⟩
            simp only at hS5
            rw [← hX1] at N2 Bu2 hS5 ⊢
            clear hX1
            refine wpAnyH_take (i := 15) (oi := { dst := some 62, op := Op.indexAddr 103 (Operand.tmp 57) (Operand.tmp 58), type := 0, pos := "normal.go:69", after := #[{ on := 9, ground := Ground.data }, { on := 10, ground := Ground.data }, { on := 0, ground := Ground.phase }, { on := 1, ground := Ground.phase }, { on := 2, ground := Ground.phase }, { on := 3, ground := Ground.phase }, { on := 4, ground := Ground.phase }, { on := 5, ground := Ground.phase }, { on := 6, ground := Ground.phase }, { on := 7, ground := Ground.phase }, { on := 8, ground := Ground.phase }, { on := 9, ground := Ground.phase }, { on := 10, ground := Ground.phase }, { on := 11, ground := Ground.phase }, { on := 12, ground := Ground.phase }, { on := 13, ground := Ground.phase }, { on := 14, ground := Ground.phase }], guard := none }) (v := .pointer (some ⟨b, off + (A.length + 1) * 12, none⟩)) rfl (by kernel_rfl) (by kernel_rfl) (by kernel_rfl) (fun _ _ _ h => h) (.inl ⟨by rfl, fun w _ => by go_simp⟩) hS5 ?_
            simp only [Act.put, List.setIfInBounds_toArray, List.set_cons_zero, List.set_cons_succ]
            have hM2 : (((a :: A).reverse ++ t :: acc).set A.length (take n a t).1)[A.length + 1]? = some t := by rw [List.getElem?_set_ne (by omega)]; exact hM1
            obtain ⟨b6, off6, e6, -, -, -, th2⟩ := N2.fr.at hM2
            cases e6
            refine wpAnyH_ready (rs := [16]) (by kernel_rfl) (by simp) (AllReadyH.cons (o := { dst := none, op := Op.store 108 (Operand.tmp 62) (Operand.tmp 60), type := 0, pos := "normal.go:69", after := #[{ on := 15, ground := Ground.data }, { on := 12, ground := Ground.data }, { on := 14, ground := Ground.chain }, { on := 0, ground := Ground.phase }, { on := 1, ground := Ground.phase }, { on := 2, ground := Ground.phase }, { on := 3, ground := Ground.phase }, { on := 4, ground := Ground.phase }, { on := 5, ground := Ground.phase }, { on := 6, ground := Ground.phase }, { on := 7, ground := Ground.phase }, { on := 8, ground := Ground.phase }, { on := 9, ground := Ground.phase }, { on := 10, ground := Ground.phase }, { on := 11, ground := Ground.phase }, { on := 12, ground := Ground.phase }, { on := 13, ground := Ground.phase }, { on := 14, ground := Ground.phase }], guard := none }) rfl (fun K hK => ?_) AllReadyH.nil)
            rw [if_pos (by rfl)]
            refine wp_store_mid 108 (.tmp 62) (.tmp 60) rfl b (off + (A.length + 1) * 12) (pl (take n a t).2).toArray rfl rfl (by rw [sizeP]; exact th2) (hi59A _) (all_oneCell_toArray (pl_one _)) (hK.out _ _ ⟨(cell_setCells_block (by omega)).trans hS5.1, World.rangeAt_setCells_apart hS5.2.1 _ _ _ (.inl hg3), World.rangeAt_setCells_apart hS5.2.2 _ _ _ (.inl hg4)⟩ (fun _ => ?_))
            clear hK K
            simp only [Act.put]
            have N3 := Lib.hid (N2.set (k := A.length + 1) hbf (by rw [List.length_set]; omega) (take n a t).2)
            have B3' := Lib.hid (below_setCells Bu2 (by omega : fb ≤ b) (off + (A.length + 1) * 12) (pl (take n a t).2))
            clear N1 N2 hS5 bu u3' u4' hcc Bu Bu2 th1 th2
            refine wpAnyH_done (by kernel_rfl) ?_ _
            go_wp2_with fail
            go_roundw
            case rel =>
              refine ⟨A, (take n a t).1, (take n a t).2 :: acc, by go_num, fun x hx => hA x (by simp [hx]), tin, ?_, by rw [List.length_cons]; omega, ?_, B3'.out⟩
              · rw [← hP]
                conv => rhs; unfold pushR
                rw [if_neg (fun h => he ((eqB_iff tin ha).1 h))]
              · have e7 : (((a :: A).reverse ++ t :: acc).set A.length (take n a t).1).set (A.length + 1) (take n a t).2 = A.reverse ++ (take n a t).1 :: (take n a t).2 :: acc := by
                  rw [List.reverse_cons, List.append_assoc, List.set_append_right _ _ (by simp), List.set_append_right _ _ (by simp)]
                  simp
                rw [← e7]
                exact N3.out
            case measure => (simp [intOf] <;> omega)
        · rw [if_pos (by rfl)]
          refine wp_alloc59 rfl (fun g4 W2 e4 t4 s4 hb2 => hK.out _ _ (HS.out W2 (B1.trans (hb2.mono B1.size))) (fun _ => ?_))
          have B2 : Below wr.heap.size wr W2 := B1.trans (hb2.mono B1.size)
          have z2 := hb2.size
          have y4 := B1.size
          clear hK K hb2
          simp only [Act.put, List.setIfInBounds_toArray, List.set_cons_zero, List.set_cons_succ]
          refine wpAnyH_ready (rs := [23]) (by kernel_rfl) (by simp) (AllReadyH.cons (o := { dst := some 3, op := Op.alloc 108, type := 0, pos := "normal.go:65", after := #[], guard := none }) rfl (fun K hK => ?_) AllReadyH.nil)
          rw [if_pos (by rfl)]
          refine wp_alloc59 rfl (fun g3 W3 e3 t3 s3 hb3 => hK.out _ _ (HS.out W3 (B2.trans (hb3.mono B2.size))) (fun _ => ?_))
          have B3 : Below wr.heap.size wr W3 := B2.trans (hb3.mono B2.size)
          have z3 := hb3.size
          have y3 := B2.size
          have t4 := there_below t4 hb3 s4
          have s4 : g4 < W3.heap.size := by omega
          clear hK K hb3
          simp only [Act.put, List.setIfInBounds_toArray, List.set_cons_zero, List.set_cons_succ]
          have hne : g3 ≠ g4 := by omega
          have w3 : wr.heap.size ≤ g3 := by omega
          have w4 : wr.heap.size ≤ g4 := by omega
          clear e3 e4 y3 y4
          refine wpAnyH_ready (rs := [25]) (by kernel_rfl) (by simp) (AllReadyH.cons (o := { dst := none, op := Op.store 108 (Operand.tmp 3) (Operand.tmp 36), type := 0, pos := "normal.go:65", after := #[{ on := 23, ground := Ground.data }, { on := 21, ground := Ground.data }, { on := 19, ground := Ground.chain }, { on := 0, ground := Ground.phase }, { on := 1, ground := Ground.phase }, { on := 2, ground := Ground.phase }, { on := 3, ground := Ground.phase }, { on := 4, ground := Ground.phase }, { on := 5, ground := Ground.phase }, { on := 6, ground := Ground.phase }, { on := 7, ground := Ground.phase }, { on := 8, ground := Ground.phase }, { on := 9, ground := Ground.phase }, { on := 10, ground := Ground.phase }, { on := 11, ground := Ground.phase }, { on := 12, ground := Ground.phase }, { on := 13, ground := Ground.phase }, { on := 14, ground := Ground.phase }, { on := 15, ground := Ground.phase }, { on := 16, ground := Ground.phase }, { on := 17, ground := Ground.phase }, { on := 18, ground := Ground.phase }, { on := 19, ground := Ground.phase }, { on := 20, ground := Ground.phase }, { on := 21, ground := Ground.phase }, { on := 22, ground := Ground.textOnly Departure.lateStores }, { on := 23, ground := Ground.phase }, { on := 24, ground := Ground.phase }], guard := none }) rfl (fun K hK => ?_) AllReadyH.nil)
          rw [if_pos (by rfl)]
          refine wp_store_mid 108 (.tmp 3) (.tmp 36) rfl g3 0 (pl (take n a t).1).toArray rfl rfl (by rw [sizeP]; exact t3) (hi59A _) (all_oneCell_toArray (pl_one _)) (hK.out _ _ (HS.out _ (below_setCells B3 w3 0 _)) (fun _ => ?_))
          clear hK K
          simp only [Act.put]
          obtain ⟨V1, hV⟩ : ∃ V, V = W3.setCells g3 0 (pl (take n a t).1) := ⟨_, rfl⟩
          rw [← hV]
          have BV1 : Below wr.heap.size wr V1 := by rw [hV]; exact below_setCells B3 w3 0 _
          have zv1 : V1.heap.size = W3.heap.size := by rw [hV]; exact size_setCells' _ _ _ _
          have r3 : V1.rangeAt g3 0 (pl (take n a t).1) := by rw [hV]; exact World.rangeAt_setCells_same _ _ _ _ (by rw [pl_len]; exact t3)
          have r4 : V1.there g4 0 12 := by rw [hV]; exact World.there_setCells t4 _ _ _
          clear hV
          refine wpAnyH_ready (rs := [26]) (by kernel_rfl) (by simp) (AllReadyH.cons (o := { dst := none, op := Op.store 108 (Operand.tmp 4) (Operand.tmp 37), type := 0, pos := "normal.go:65", after := #[{ on := 24, ground := Ground.data }, { on := 22, ground := Ground.data }, { on := 25, ground := Ground.chain }, { on := 0, ground := Ground.phase }, { on := 1, ground := Ground.phase }, { on := 2, ground := Ground.phase }, { on := 3, ground := Ground.phase }, { on := 4, ground := Ground.phase }, { on := 5, ground := Ground.phase }, { on := 6, ground := Ground.phase }, { on := 7, ground := Ground.phase }, { on := 8, ground := Ground.phase }, { on := 9, ground := Ground.phase }, { on := 10, ground := Ground.phase }, { on := 11, ground := Ground.phase }, { on := 12, ground := Ground.phase }, { on := 13, ground := Ground.phase }, { on := 14, ground := Ground.phase }, { on := 15, ground := Ground.phase }, { on := 16, ground := Ground.phase }, { on := 17, ground := Ground.phase }, { on := 18, ground := Ground.phase }, { on := 19, ground := Ground.phase }, { on := 20, ground := Ground.phase }, { on := 21, ground := Ground.phase }, { on := 22, ground := Ground.phase }, { on := 23, ground := Ground.phase }, { on := 24, ground := Ground.phase }, { on := 25, ground := Ground.phase }], guard := none }) rfl (fun K hK => ?_) AllReadyH.nil)
          rw [if_pos (by rfl)]
          refine wp_store_mid 108 (.tmp 4) (.tmp 37) rfl g4 0 (pl (take n a t).2).toArray rfl rfl (by rw [sizeP]; exact r4) (hi59A _) (all_oneCell_toArray (pl_one _)) (hK.out _ _ (HS.out _ (below_setCells BV1 w4 0 _)) (fun _ => ?_))
          clear hK K
          simp only [Act.put]
          obtain ⟨V2, hV⟩ : ∃ V, V = V1.setCells g4 0 (pl (take n a t).2) := ⟨_, rfl⟩
          rw [← hV]
          have BV2 : Below wr.heap.size wr V2 := by rw [hV]; exact below_setCells BV1 w4 0 _
          have zv2 : V2.heap.size = V1.heap.size := by rw [hV]; exact size_setCells' _ _ _ _
          have u3 : V2.rangeAt g3 0 (pl (take n a t).1) := by rw [hV]; exact World.rangeAt_setCells_apart r3 _ _ _ (.inl hne)
          have u4 : V2.rangeAt g4 0 (pl (take n a t).2) := by rw [hV]; exact World.rangeAt_setCells_same _ _ _ _ (by rw [pl_len]; exact r4)
          clear hV
          refine wpAnyH_done (by kernel_rfl) ?_ _
          have l3 : g3 < V2.heap.size := by omega
          have l4 : g4 < V2.heap.size := by omega
          clear t3 t4 r3 r4 BV1
          go_wp2_with fail
          obtain ⟨ee, hTS⟩ := take_spec ha ht
          have tin := hTS.ina
          have tin2 := hTS.inb
          by_cases he : (take n a t).1 = a
          · refine wp_region_quiet (C := fun w' => Below wr.heap.size wr w' ∧ w'.rangeAt g3 0 (pl (take n a t).1) ∧ w'.rangeAt g4 0 (pl (take n a t).2) ∧ g3 < w'.heap.size ∧ g4 < w'.heap.size) (by kernel_rfl) (by kernel_rfl) ⟨BV2.drew, by simpa using u3, by simpa using u4, l3, l4⟩ ?_
            dsimp only
            refine quiet_load_mid rfl 108 (.tmp 3) rfl g3 0 rfl (pl (take n a t).1) _ (fun _ h => h.2.1) Tryz.underlying108 hd59 (hi59L _) ?_
            simp only [Act.put, List.setIfInBounds_toArray, List.set_cons_zero, List.set_cons_succ]
            refine quiet_move rfl _ rfl ?_
            simp only [Act.put, List.setIfInBounds_toArray, List.set_cons_zero, List.set_cons_succ]
            refine quiet_still rfl (.pointer (some ⟨fb, 0, none⟩)) (fun w _ => by go_simp) ?_
            simp only [Act.put, List.setIfInBounds_toArray, List.set_cons_zero, List.set_cons_succ]
            refine quiet_still rfl (.pointer (some ⟨fb, 2, none⟩)) (fun w _ => by go_simp) ?_
            simp only [Act.put, List.setIfInBounds_toArray, List.set_cons_zero, List.set_cons_succ]
            refine quiet_load1 rfl _ _ rfl ⟨fb, 2, none⟩ rfl _ (load_fac _ _) (fun _ h => (HS.out _ h.1).1.c2) ?_
            simp only [Act.put, List.setIfInBounds_toArray, List.set_cons_zero, List.set_cons_succ]
            refine quiet_move rfl _ rfl ?_
            simp only [Act.put, List.setIfInBounds_toArray, List.set_cons_zero, List.set_cons_succ]
            refine quiet_still rfl (.int .i64 (A.length : Int)) (fun w _ => by go_simp) ?_
            simp only [Act.put, List.setIfInBounds_toArray, List.set_cons_zero, List.set_cons_succ]
            rw [← HML2.out]
            have jl := Jl.out
            have jn : (0 : Int) ≤ (A.length : Int) := by omega
            refine quiet_still rfl (.pointer (some ⟨b, off + A.length * 12, none⟩)) (fun w _ => by go_simp) ?_
            simp only [Act.put, List.setIfInBounds_toArray, List.set_cons_zero, List.set_cons_succ]
            refine quiet_load_mid rfl 108 (.tmp 45) rfl b (off + A.length * 12) rfl (pl a) _ (fun _ h => (HS.out _ h.1).2.1) Tryz.underlying108 hd59 (hi59L _) ?_
            simp only [Act.put, List.setIfInBounds_toArray, List.set_cons_zero, List.set_cons_succ]
            have heq := fun w => eql_pl a a (ha.more hn) (ha.more hn) w (d := true) ⟨fun _ => rfl, fun _ => rfl⟩
            refine quiet_still rfl (.bool true) (fun w _ => by go_simp) ?_
            simp only [Act.put, List.setIfInBounds_toArray, List.set_cons_zero, List.set_cons_succ]
            refine wpQuiet_nil fun U hU => ?_
            obtain ⟨bu, u3', u4', l3', l4'⟩ := hU
            go_wp2_with fail
            refine ⟨rfl, .tuple #[], results_none rfl _ _ _, rfl, ?_, hbw.trans (bu.mono (Nat.le_of_lt hfz))⟩
            rw [← hP]
            unfold pushR
            have hE : eqB n (take n a t).1 a = true := (eqB_iff tin ha).2 he
            rw [if_pos hE]
            have := (HS.out _ bu).1
            rw [List.reverse_cons, List.append_assoc] at this
            exact this
          · refine wp_region_quiet (C := fun w' => Below wr.heap.size wr w' ∧ w'.rangeAt g3 0 (pl (take n a t).1) ∧ w'.rangeAt g4 0 (pl (take n a t).2) ∧ g3 < w'.heap.size ∧ g4 < w'.heap.size) (by kernel_rfl) (by kernel_rfl) ⟨BV2.drew, by simpa using u3, by simpa using u4, l3, l4⟩ ?_
            dsimp only
            refine quiet_load_mid rfl 108 (.tmp 3) rfl g3 0 rfl (pl (take n a t).1) _ (fun _ h => h.2.1) Tryz.underlying108 hd59 (hi59L _) ?_
            simp only [Act.put, List.setIfInBounds_toArray, List.set_cons_zero, List.set_cons_succ]
            refine quiet_move rfl _ rfl ?_
            simp only [Act.put, List.setIfInBounds_toArray, List.set_cons_zero, List.set_cons_succ]
            refine quiet_still rfl (.pointer (some ⟨fb, 0, none⟩)) (fun w _ => by go_simp) ?_
            simp only [Act.put, List.setIfInBounds_toArray, List.set_cons_zero, List.set_cons_succ]
            refine quiet_still rfl (.pointer (some ⟨fb, 2, none⟩)) (fun w _ => by go_simp) ?_
            simp only [Act.put, List.setIfInBounds_toArray, List.set_cons_zero, List.set_cons_succ]
            refine quiet_load1 rfl _ _ rfl ⟨fb, 2, none⟩ rfl _ (load_fac _ _) (fun _ h => (HS.out _ h.1).1.c2) ?_
            simp only [Act.put, List.setIfInBounds_toArray, List.set_cons_zero, List.set_cons_succ]
            refine quiet_move rfl _ rfl ?_
            simp only [Act.put, List.setIfInBounds_toArray, List.set_cons_zero, List.set_cons_succ]
            refine quiet_still rfl (.int .i64 (A.length : Int)) (fun w _ => by go_simp) ?_
            simp only [Act.put, List.setIfInBounds_toArray, List.set_cons_zero, List.set_cons_succ]
            rw [← HML2.out]
            have jl := Jl.out
            have jn : (0 : Int) ≤ (A.length : Int) := by omega
            refine quiet_still rfl (.pointer (some ⟨b, off + A.length * 12, none⟩)) (fun w _ => by go_simp) ?_
            simp only [Act.put, List.setIfInBounds_toArray, List.set_cons_zero, List.set_cons_succ]
            refine quiet_load_mid rfl 108 (.tmp 45) rfl b (off + A.length * 12) rfl (pl a) _ (fun _ h => (HS.out _ h.1).2.1) Tryz.underlying108 hd59 (hi59L _) ?_
            simp only [Act.put, List.setIfInBounds_toArray, List.set_cons_zero, List.set_cons_succ]
            have heq := fun w => eql_pl (take n a t).1 a (tin.more hn) (ha.more hn) w (d := false) ⟨fun h => (by cases h), fun h => absurd h he⟩
            refine quiet_still rfl (.bool false) (fun w _ => by go_simp) ?_
            simp only [Act.put, List.setIfInBounds_toArray, List.set_cons_zero, List.set_cons_succ]
            refine wpQuiet_nil fun U hU => ?_
            obtain ⟨bu, u3', u4', l3', l4'⟩ := hU
            go_wp2_with fail
            have hcc := (HS.out _ bu).1.c2
            refine region_takes (fun w' => w'.cell? ⟨fb, 2, none⟩ = some (.slice (some ⟨b, off, none⟩) (((a :: A).reverse ++ t :: acc).length) cap) ∧ w'.rangeAt g3 0 (pl (take n a t).1) ∧ w'.rangeAt g4 0 (pl (take n a t).2)) 14 (by kernel_rfl) (by kernel_rfl) (fun t _ _ _ _ h => by cases t <;> exact h) ⟨by simpa using hcc, by simpa using u3', by simpa using u4'⟩ ?_
            simp only [List.take_succ_cons, List.take_zero]
            refine takes_move rfl _ rfl ?_
            simp only [Act.put, List.setIfInBounds_toArray, List.set_cons_zero, List.set_cons_succ]
            refine takes_still rfl (.pointer (some ⟨fb, 0, none⟩)) (fun w _ => by go_simp) ?_
            simp only [Act.put, List.setIfInBounds_toArray, List.set_cons_zero, List.set_cons_succ]
            refine takes_still rfl (.pointer (some ⟨fb, 2, none⟩)) (fun w _ => by go_simp) ?_
            simp only [Act.put, List.setIfInBounds_toArray, List.set_cons_zero, List.set_cons_succ]
            refine takes_load1 rfl _ _ rfl ⟨fb, 2, none⟩ rfl _ (load_fac _ _) (fun _ h => h.1) ?_
            simp only [Act.put, List.setIfInBounds_toArray, List.set_cons_zero, List.set_cons_succ]
            refine takes_move rfl _ rfl ?_
            simp only [Act.put, List.setIfInBounds_toArray, List.set_cons_zero, List.set_cons_succ]
            refine takes_still rfl (.int .i64 (A.length : Int)) (fun w _ => by go_simp) ?_
            simp only [Act.put, List.setIfInBounds_toArray, List.set_cons_zero, List.set_cons_succ]
            refine takes_move rfl _ rfl ?_
            simp only [Act.put, List.setIfInBounds_toArray, List.set_cons_zero, List.set_cons_succ]
            refine takes_still rfl (.pointer (some ⟨fb, 0, none⟩)) (fun w _ => by go_simp) ?_
            simp only [Act.put, List.setIfInBounds_toArray, List.set_cons_zero, List.set_cons_succ]
            refine takes_still rfl (.pointer (some ⟨fb, 2, none⟩)) (fun w _ => by go_simp) ?_
            simp only [Act.put, List.setIfInBounds_toArray, List.set_cons_zero, List.set_cons_succ]
            refine takes_load1 rfl _ _ rfl ⟨fb, 2, none⟩ rfl _ (load_fac _ _) (fun _ h => h.1) ?_
            simp only [Act.put, List.setIfInBounds_toArray, List.set_cons_zero, List.set_cons_succ]
            refine takes_move rfl _ rfl ?_
            simp only [Act.put, List.setIfInBounds_toArray, List.set_cons_zero, List.set_cons_succ]
            refine takes_load_mid rfl 108 (.tmp 3) rfl g3 0 rfl (pl (take n a t).1) _ (fun _ h => h.2.1) Tryz.underlying108 hd59 (hi59L _) ?_
            simp only [Act.put, List.setIfInBounds_toArray, List.set_cons_zero, List.set_cons_succ]
            refine takes_load_mid rfl 108 (.tmp 4) rfl g4 0 rfl (pl (take n a t).2) _ (fun _ h => h.2.2) Tryz.underlying108 hd59 (hi59L _) ?_
            simp only [Act.put, List.setIfInBounds_toArray, List.set_cons_zero, List.set_cons_succ]
            rw [← HML2.out]
            rw [← HML2.out] at hcc
            have jl1 := Jl1.out
            have jn1 : (0 : Int) ≤ (A.length : Int) + 1 := by omega
            have jt : ((A.length : Int) + 1).toNat = A.length + 1 := by omega
            refine takes_still rfl (.pointer (some ⟨b, off + A.length * 12, none⟩)) (fun w _ => by go_simp) ?_
            simp only [Act.put, List.setIfInBounds_toArray, List.set_cons_zero, List.set_cons_succ]
            refine takes_nil ?_
            obtain ⟨N1, -, -, Bu⟩ := HS.out _ bu
            obtain ⟨b5, off5, e5, -, -, -, th1⟩ := N1.fr.at hM0
            cases e5
            have hbf : fb < b := by omega
            have hg3 : g3 ≠ b := by omega
            have hg4 : g4 ≠ b := by omega
            refine wpAnyH_ready (rs := [14]) (by kernel_rfl) (by simp) (AllReadyH.cons (o := { dst := none, op := Op.store 108 (Operand.tmp 61) (Operand.tmp 59), type := 0, pos := "normal.go:69", after := #[{ on := 13, ground := Ground.data }, { on := 11, ground := Ground.data }, { on := 0, ground := Ground.phase }, { on := 1, ground := Ground.phase }, { on := 2, ground := Ground.phase }, { on := 3, ground := Ground.phase }, { on := 4, ground := Ground.phase }, { on := 5, ground := Ground.phase }, { on := 6, ground := Ground.textOnly Departure.lateStores }, { on := 7, ground := Ground.textOnly Departure.lateStoresUnsure }, { on := 8, ground := Ground.textOnly Departure.lateStoresUnsure }, { on := 9, ground := Ground.phase }, { on := 10, ground := Ground.textOnly Departure.lateStores }, { on := 11, ground := Ground.phase }, { on := 12, ground := Ground.textOnly Departure.lateStores }], guard := none }) rfl (fun K hK => ?_) AllReadyH.nil)
            rw [if_pos (by rfl)]
            refine wp_store_mid 108 (.tmp 61) (.tmp 59) rfl b (off + A.length * 12) (pl (take n a t).1).toArray rfl rfl (by rw [sizeP]; simpa using th1) (hi59A _) (all_oneCell_toArray (pl_one _)) (hK.out _ _ ⟨(cell_setCells_block (by omega)).trans (by simpa using hcc), World.rangeAt_setCells_apart (by simpa using u3') _ _ _ (.inl hg3), World.rangeAt_setCells_apart (by simpa using u4') _ _ _ (.inl hg4)⟩ (fun hS5 => ?_))
            clear hK K
            simp only [Act.put]
            have N2 := N1.drew.set hbf (by omega : A.length < ((a :: A).reverse ++ t :: acc).length) (take n a t).1
            have Bu2 := below_setCells Bu.drew (by omega : fb ≤ b) (off + A.length * 12) (pl (take n a t).1)
            obtain ⟨X1, hX1⟩ : ∃ X, X = U.drew.setCells b (off + A.length * 12) (pl (take n a t).1) := ⟨_, rfl⟩
            simp only at hS5
            rw [← hX1] at N2 Bu2 hS5 ⊢
            clear hX1
            refine wpAnyH_take (i := 15) (oi := { dst := some 62, op := Op.indexAddr 103 (Operand.tmp 57) (Operand.tmp 58), type := 0, pos := "normal.go:69", after := #[{ on := 9, ground := Ground.data }, { on := 10, ground := Ground.data }, { on := 0, ground := Ground.phase }, { on := 1, ground := Ground.phase }, { on := 2, ground := Ground.phase }, { on := 3, ground := Ground.phase }, { on := 4, ground := Ground.phase }, { on := 5, ground := Ground.phase }, { on := 6, ground := Ground.phase }, { on := 7, ground := Ground.phase }, { on := 8, ground := Ground.phase }, { on := 9, ground := Ground.phase }, { on := 10, ground := Ground.phase }, { on := 11, ground := Ground.phase }, { on := 12, ground := Ground.phase }, { on := 13, ground := Ground.phase }, { on := 14, ground := Ground.phase }], guard := none }) (v := .pointer (some ⟨b, off + (A.length + 1) * 12, none⟩)) rfl (by kernel_rfl) (by kernel_rfl) (by kernel_rfl) (fun _ _ _ h => h) (.inl ⟨by rfl, fun w _ => by go_simp⟩) hS5 ?_
            simp only [Act.put, List.setIfInBounds_toArray, List.set_cons_zero, List.set_cons_succ]
            have hM2 : (((a :: A).reverse ++ t :: acc).set A.length (take n a t).1)[A.length + 1]? = some t := by rw [List.getElem?_set_ne (by omega)]; exact hM1
            obtain ⟨b6, off6, e6, -, -, -, th2⟩ := N2.fr.at hM2
            cases e6
            refine wpAnyH_ready (rs := [16]) (by kernel_rfl) (by simp) (AllReadyH.cons (o := { dst := none, op := Op.store 108 (Operand.tmp 62) (Operand.tmp 60), type := 0, pos := "normal.go:69", after := #[{ on := 15, ground := Ground.data }, { on := 12, ground := Ground.data }, { on := 14, ground := Ground.chain }, { on := 0, ground := Ground.phase }, { on := 1, ground := Ground.phase }, { on := 2, ground := Ground.phase }, { on := 3, ground := Ground.phase }, { on := 4, ground := Ground.phase }, { on := 5, ground := Ground.phase }, { on := 6, ground := Ground.phase }, { on := 7, ground := Ground.phase }, { on := 8, ground := Ground.phase }, { on := 9, ground := Ground.phase }, { on := 10, ground := Ground.phase }, { on := 11, ground := Ground.phase }, { on := 12, ground := Ground.phase }, { on := 13, ground := Ground.phase }, { on := 14, ground := Ground.phase }], guard := none }) rfl (fun K hK => ?_) AllReadyH.nil)
            rw [if_pos (by rfl)]
            refine wp_store_mid 108 (.tmp 62) (.tmp 60) rfl b (off + (A.length + 1) * 12) (pl (take n a t).2).toArray rfl rfl (by rw [sizeP]; exact th2) (hi59A _) (all_oneCell_toArray (pl_one _)) (hK.out _ _ ⟨(cell_setCells_block (by omega)).trans hS5.1, World.rangeAt_setCells_apart hS5.2.1 _ _ _ (.inl hg3), World.rangeAt_setCells_apart hS5.2.2 _ _ _ (.inl hg4)⟩ (fun _ => ?_))
            clear hK K
            simp only [Act.put]
            have N3 := Lib.hid (N2.set (k := A.length + 1) hbf (by rw [List.length_set]; omega) (take n a t).2)
            have B3' := Lib.hid (below_setCells Bu2 (by omega : fb ≤ b) (off + (A.length + 1) * 12) (pl (take n a t).2))
            clear N1 N2 hS5 bu u3' u4' hcc Bu Bu2 th1 th2
            refine wpAnyH_done (by kernel_rfl) ?_ _
            go_wp2_with fail
            go_roundw
            case rel =>
              refine ⟨A, (take n a t).1, (take n a t).2 :: acc, by go_num, fun x hx => hA x (by simp [hx]), tin, ?_, by rw [List.length_cons]; omega, ?_, B3'.out⟩
              · rw [← hP]
                conv => rhs; unfold pushR
                rw [if_neg (fun h => he ((eqB_iff tin ha).1 h))]
              · have e7 : (((a :: A).reverse ++ t :: acc).set A.length (take n a t).1).set (A.length + 1) (take n a t).2 = A.reverse ++ (take n a t).1 :: (take n a t).2 :: acc := by
                  rw [List.reverse_cons, List.append_assoc, List.set_append_right _ _ (by simp), List.set_append_right _ _ (by simp)]
                  simp
                rw [← e7]
                exact N3.out
            case measure => (simp [intOf] <;> omega)
      · rw [if_pos (by rfl)]
        refine wp_alloc59 rfl (fun g3 W1 e3 t3 s3 hb1 => hK.out _ _ (HS.out W1 (B0.trans (hb1.mono B0.size))) (fun _ => ?_))
        have B1 : Below wr.heap.size wr W1 := B0.trans (hb1.mono B0.size)
        have z1 := hb1.size
        have y3 := B0.size
        clear hK K hb1
        simp only [Act.put, List.setIfInBounds_toArray, List.set_cons_zero, List.set_cons_succ]
        refine wpAnyH_ready (rs := [19, 24]) (by kernel_rfl) (by simp) (AllReadyH.cons (o := { dst := some 35, op := Op.call { callee := Callee.value (Operand.func 148), args := #[Operand.tmp 19, Operand.tmp 27, Operand.tmp 34], argTypes := #[3, 108, 108] }, type := 158, pos := "normal.go:65", after := #[{ on := 3, ground := Ground.data }, { on := 11, ground := Ground.data }, { on := 18, ground := Ground.data }], guard := none }) rfl (fun K hK => ?_) (AllReadyH.cons (o := { dst := some 4, op := Op.alloc 108, type := 0, pos := "normal.go:65", after := #[], guard := none }) rfl (fun K hK => ?_) AllReadyH.nil))
        · rw [if_pos (by rfl)]
          refine wp_call 148 _ _ rfl entTake (.tuple #[.agg (pl (take n a t).1).toArray, .agg (pl (take n a t).2).toArray]) _ (takeOver_any n hn a t ha ht _) (fun W2 hb2 => hK.out _ _ (HS.out W2 (B1.trans (hb2.mono B1.size))) (fun _ => ?_))
          have B2 : Below wr.heap.size wr W2 := B1.trans (hb2.mono B1.size)
          have z2 := hb2.size
          have t3 := there_below t3 hb2 s3
          have s3 : g3 < W2.heap.size := by omega
          clear hK K hb2
          simp only [Act.put, List.setIfInBounds_toArray, List.set_cons_zero, List.set_cons_succ]
          refine wpAnyH_take (i := 20) (oi := { dst := some 15, op := Op.move (Operand.tmp 35), type := 158, pos := "normal.go:65", after := #[{ on := 19, ground := Ground.data }], guard := none }) (v := (.tuple #[.agg (pl (take n a t).1).toArray, .agg (pl (take n a t).2).toArray])) rfl (by kernel_rfl) (by kernel_rfl) (by kernel_rfl) (fun _ _ _ h => h) (.inl ⟨by rfl, fun w _ => by go_simp⟩) (HS.out W2 B2) ?_
          simp only [Act.put, List.setIfInBounds_toArray, List.set_cons_zero, List.set_cons_succ]
          refine wpAnyH_take (i := 21) (oi := { dst := some 36, op := Op.extract (Operand.tmp 15) 0, type := 108, pos := "normal.go:65", after := #[{ on := 20, ground := Ground.data }], guard := none }) (v := (.agg (pl (take n a t).1).toArray)) rfl (by kernel_rfl) (by kernel_rfl) (by kernel_rfl) (fun _ _ _ h => h) (.inl ⟨by rfl, fun w _ => by go_simp⟩) (HS.out W2 B2) ?_
          simp only [Act.put, List.setIfInBounds_toArray, List.set_cons_zero, List.set_cons_succ]
          refine wpAnyH_take (i := 22) (oi := { dst := some 37, op := Op.extract (Operand.tmp 15) 1, type := 108, pos := "normal.go:65", after := #[{ on := 20, ground := Ground.data }, { on := 25, ground := Ground.gcOnly Departure.lateStores }], guard := none }) (v := (.agg (pl (take n a t).2).toArray)) rfl (by kernel_rfl) (by kernel_rfl) (by kernel_rfl) (fun _ _ _ h => h) (.inl ⟨by rfl, fun w _ => by go_simp⟩) (HS.out W2 B2) ?_
          simp only [Act.put, List.setIfInBounds_toArray, List.set_cons_zero, List.set_cons_succ]
          refine wpAnyH_ready (rs := [24]) (by kernel_rfl) (by simp) (AllReadyH.cons (o := { dst := some 4, op := Op.alloc 108, type := 0, pos := "normal.go:65", after := #[], guard := none }) rfl (fun K hK => ?_) AllReadyH.nil)
          rw [if_pos (by rfl)]
          refine wp_alloc59 rfl (fun g4 W3 e4 t4 s4 hb3 => hK.out _ _ (HS.out W3 (B2.trans (hb3.mono B2.size))) (fun _ => ?_))
          have B3 : Below wr.heap.size wr W3 := B2.trans (hb3.mono B2.size)
          have z3 := hb3.size
          have y4 := B2.size
          have t3 := there_below t3 hb3 s3
          have s3 : g3 < W3.heap.size := by omega
          clear hK K hb3
          simp only [Act.put, List.setIfInBounds_toArray, List.set_cons_zero, List.set_cons_succ]
          have hne : g3 ≠ g4 := by omega
          have w3 : wr.heap.size ≤ g3 := by omega
          have w4 : wr.heap.size ≤ g4 := by omega
          clear e3 e4 y3 y4
          refine wpAnyH_ready (rs := [25]) (by kernel_rfl) (by simp) (AllReadyH.cons (o := { dst := none, op := Op.store 108 (Operand.tmp 3) (Operand.tmp 36), type := 0, pos := "normal.go:65", after := #[{ on := 23, ground := Ground.data }, { on := 21, ground := Ground.data }, { on := 19, ground := Ground.chain }, { on := 0, ground := Ground.phase }, { on := 1, ground := Ground.phase }, { on := 2, ground := Ground.phase }, { on := 3, ground := Ground.phase }, { on := 4, ground := Ground.phase }, { on := 5, ground := Ground.phase }, { on := 6, ground := Ground.phase }, { on := 7, ground := Ground.phase }, { on := 8, ground := Ground.phase }, { on := 9, ground := Ground.phase }, { on := 10, ground := Ground.phase }, { on := 11, ground := Ground.phase }, { on := 12, ground := Ground.phase }, { on := 13, ground := Ground.phase }, { on := 14, ground := Ground.phase }, { on := 15, ground := Ground.phase }, { on := 16, ground := Ground.phase }, { on := 17, ground := Ground.phase }, { on := 18, ground := Ground.phase }, { on := 19, ground := Ground.phase }, { on := 20, ground := Ground.phase }, { on := 21, ground := Ground.phase }, { on := 22, ground := Ground.textOnly Departure.lateStores }, { on := 23, ground := Ground.phase }, { on := 24, ground := Ground.phase }], guard := none }) rfl (fun K hK => ?_) AllReadyH.nil)
          rw [if_pos (by rfl)]
          refine wp_store_mid 108 (.tmp 3) (.tmp 36) rfl g3 0 (pl (take n a t).1).toArray rfl rfl (by rw [sizeP]; exact t3) (hi59A _) (all_oneCell_toArray (pl_one _)) (hK.out _ _ (HS.out _ (below_setCells B3 w3 0 _)) (fun _ => ?_))
          clear hK K
          simp only [Act.put]
          obtain ⟨V1, hV⟩ : ∃ V, V = W3.setCells g3 0 (pl (take n a t).1) := ⟨_, rfl⟩
          rw [← hV]
          have BV1 : Below wr.heap.size wr V1 := by rw [hV]; exact below_setCells B3 w3 0 _
          have zv1 : V1.heap.size = W3.heap.size := by rw [hV]; exact size_setCells' _ _ _ _
          have r3 : V1.rangeAt g3 0 (pl (take n a t).1) := by rw [hV]; exact World.rangeAt_setCells_same _ _ _ _ (by rw [pl_len]; exact t3)
          have r4 : V1.there g4 0 12 := by rw [hV]; exact World.there_setCells t4 _ _ _
          clear hV
          refine wpAnyH_ready (rs := [26]) (by kernel_rfl) (by simp) (AllReadyH.cons (o := { dst := none, op := Op.store 108 (Operand.tmp 4) (Operand.tmp 37), type := 0, pos := "normal.go:65", after := #[{ on := 24, ground := Ground.data }, { on := 22, ground := Ground.data }, { on := 25, ground := Ground.chain }, { on := 0, ground := Ground.phase }, { on := 1, ground := Ground.phase }, { on := 2, ground := Ground.phase }, { on := 3, ground := Ground.phase }, { on := 4, ground := Ground.phase }, { on := 5, ground := Ground.phase }, { on := 6, ground := Ground.phase }, { on := 7, ground := Ground.phase }, { on := 8, ground := Ground.phase }, { on := 9, ground := Ground.phase }, { on := 10, ground := Ground.phase }, { on := 11, ground := Ground.phase }, { on := 12, ground := Ground.phase }, { on := 13, ground := Ground.phase }, { on := 14, ground := Ground.phase }, { on := 15, ground := Ground.phase }, { on := 16, ground := Ground.phase }, { on := 17, ground := Ground.phase }, { on := 18, ground := Ground.phase }, { on := 19, ground := Ground.phase }, { on := 20, ground := Ground.phase }, { on := 21, ground := Ground.phase }, { on := 22, ground := Ground.phase }, { on := 23, ground := Ground.phase }, { on := 24, ground := Ground.phase }, { on := 25, ground := Ground.phase }], guard := none }) rfl (fun K hK => ?_) AllReadyH.nil)
          rw [if_pos (by rfl)]
          refine wp_store_mid 108 (.tmp 4) (.tmp 37) rfl g4 0 (pl (take n a t).2).toArray rfl rfl (by rw [sizeP]; exact r4) (hi59A _) (all_oneCell_toArray (pl_one _)) (hK.out _ _ (HS.out _ (below_setCells BV1 w4 0 _)) (fun _ => ?_))
          clear hK K
          simp only [Act.put]
          obtain ⟨V2, hV⟩ : ∃ V, V = V1.setCells g4 0 (pl (take n a t).2) := ⟨_, rfl⟩
          rw [← hV]
          have BV2 : Below wr.heap.size wr V2 := by rw [hV]; exact below_setCells BV1 w4 0 _
          have zv2 : V2.heap.size = V1.heap.size := by rw [hV]; exact size_setCells' _ _ _ _
          have u3 : V2.rangeAt g3 0 (pl (take n a t).1) := by rw [hV]; exact World.rangeAt_setCells_apart r3 _ _ _ (.inl hne)
          have u4 : V2.rangeAt g4 0 (pl (take n a t).2) := by rw [hV]; exact World.rangeAt_setCells_same _ _ _ _ (by rw [pl_len]; exact r4)
          clear hV
          refine wpAnyH_done (by kernel_rfl) ?_ _
          have l3 : g3 < V2.heap.size := by omega
          have l4 : g4 < V2.heap.size := by omega
          clear t3 t4 r3 r4 BV1
          go_wp2_with fail
          obtain ⟨ee, hTS⟩ := take_spec ha ht
          have tin := hTS.ina
          have tin2 := hTS.inb
          by_cases he : (take n a t).1 = a
          · refine wp_region_quiet (C := fun w' => Below wr.heap.size wr w' ∧ w'.rangeAt g3 0 (pl (take n a t).1) ∧ w'.rangeAt g4 0 (pl (take n a t).2) ∧ g3 < w'.heap.size ∧ g4 < w'.heap.size) (by kernel_rfl) (by kernel_rfl) ⟨BV2.drew, by simpa using u3, by simpa using u4, l3, l4⟩ ?_
            dsimp only
            refine quiet_load_mid rfl 108 (.tmp 3) rfl g3 0 rfl (pl (take n a t).1) _ (fun _ h => h.2.1) Tryz.underlying108 hd59 (hi59L _) ?_
            simp only [Act.put, List.setIfInBounds_toArray, List.set_cons_zero, List.set_cons_succ]
            refine quiet_move rfl _ rfl ?_
            simp only [Act.put, List.setIfInBounds_toArray, List.set_cons_zero, List.set_cons_succ]
            refine quiet_still rfl (.pointer (some ⟨fb, 0, none⟩)) (fun w _ => by go_simp) ?_
            simp only [Act.put, List.setIfInBounds_toArray, List.set_cons_zero, List.set_cons_succ]
            refine quiet_still rfl (.pointer (some ⟨fb, 2, none⟩)) (fun w _ => by go_simp) ?_
            simp only [Act.put, List.setIfInBounds_toArray, List.set_cons_zero, List.set_cons_succ]
            refine quiet_load1 rfl _ _ rfl ⟨fb, 2, none⟩ rfl _ (load_fac _ _) (fun _ h => (HS.out _ h.1).1.c2) ?_
            simp only [Act.put, List.setIfInBounds_toArray, List.set_cons_zero, List.set_cons_succ]
            refine quiet_move rfl _ rfl ?_
            simp only [Act.put, List.setIfInBounds_toArray, List.set_cons_zero, List.set_cons_succ]
            refine quiet_still rfl (.int .i64 (A.length : Int)) (fun w _ => by go_simp) ?_
            simp only [Act.put, List.setIfInBounds_toArray, List.set_cons_zero, List.set_cons_succ]
            rw [← HML2.out]
            have jl := Jl.out
            have jn : (0 : Int) ≤ (A.length : Int) := by omega
            refine quiet_still rfl (.pointer (some ⟨b, off + A.length * 12, none⟩)) (fun w _ => by go_simp) ?_
            simp only [Act.put, List.setIfInBounds_toArray, List.set_cons_zero, List.set_cons_succ]
            refine quiet_load_mid rfl 108 (.tmp 45) rfl b (off + A.length * 12) rfl (pl a) _ (fun _ h => (HS.out _ h.1).2.1) Tryz.underlying108 hd59 (hi59L _) ?_
            simp only [Act.put, List.setIfInBounds_toArray, List.set_cons_zero, List.set_cons_succ]
            have heq := fun w => eql_pl a a (ha.more hn) (ha.more hn) w (d := true) ⟨fun _ => rfl, fun _ => rfl⟩
            refine quiet_still rfl (.bool true) (fun w _ => by go_simp) ?_
            simp only [Act.put, List.setIfInBounds_toArray, List.set_cons_zero, List.set_cons_succ]
            refine wpQuiet_nil fun U hU => ?_
            obtain ⟨bu, u3', u4', l3', l4'⟩ := hU
            go_wp2_with fail
            refine ⟨rfl, .tuple #[], results_none rfl _ _ _, rfl, ?_, hbw.trans (bu.mono (Nat.le_of_lt hfz))⟩
            rw [← hP]
            unfold pushR
            have hE : eqB n (take n a t).1 a = true := (eqB_iff tin ha).2 he
            rw [if_pos hE]
            have := (HS.out _ bu).1
            rw [List.reverse_cons, List.append_assoc] at this
            exact this
          · refine wp_region_quiet (C := fun w' => Below wr.heap.size wr w' ∧ w'.rangeAt g3 0 (pl (take n a t).1) ∧ w'.rangeAt g4 0 (pl (take n a t).2) ∧ g3 < w'.heap.size ∧ g4 < w'.heap.size) (by kernel_rfl) (by kernel_rfl) ⟨BV2.drew, by simpa using u3, by simpa using u4, l3, l4⟩ ?_
            dsimp only
            refine quiet_load_mid rfl 108 (.tmp 3) rfl g3 0 rfl (pl (take n a t).1) _ (fun _ h => h.2.1) Tryz.underlying108 hd59 (hi59L _) ?_
            simp only [Act.put, List.setIfInBounds_toArray, List.set_cons_zero, List.set_cons_succ]
            refine quiet_move rfl _ rfl ?_
            simp only [Act.put, List.setIfInBounds_toArray, List.set_cons_zero, List.set_cons_succ]
            refine quiet_still rfl (.pointer (some ⟨fb, 0, none⟩)) (fun w _ => by go_simp) ?_
            simp only [Act.put, List.setIfInBounds_toArray, List.set_cons_zero, List.set_cons_succ]
            refine quiet_still rfl (.pointer (some ⟨fb, 2, none⟩)) (fun w _ => by go_simp) ?_
            simp only [Act.put, List.setIfInBounds_toArray, List.set_cons_zero, List.set_cons_succ]
            refine quiet_load1 rfl _ _ rfl ⟨fb, 2, none⟩ rfl _ (load_fac _ _) (fun _ h => (HS.out _ h.1).1.c2) ?_
            simp only [Act.put, List.setIfInBounds_toArray, List.set_cons_zero, List.set_cons_succ]
            refine quiet_move rfl _ rfl ?_
            simp only [Act.put, List.setIfInBounds_toArray, List.set_cons_zero, List.set_cons_succ]
            refine quiet_still rfl (.int .i64 (A.length : Int)) (fun w _ => by go_simp) ?_
            simp only [Act.put, List.setIfInBounds_toArray, List.set_cons_zero, List.set_cons_succ]
            rw [← HML2.out]
            have jl := Jl.out
            have jn : (0 : Int) ≤ (A.length : Int) := by omega
            refine quiet_still rfl (.pointer (some ⟨b, off + A.length * 12, none⟩)) (fun w _ => by go_simp) ?_
            simp only [Act.put, List.setIfInBounds_toArray, List.set_cons_zero, List.set_cons_succ]
            refine quiet_load_mid rfl 108 (.tmp 45) rfl b (off + A.length * 12) rfl (pl a) _ (fun _ h => (HS.out _ h.1).2.1) Tryz.underlying108 hd59 (hi59L _) ?_
            simp only [Act.put, List.setIfInBounds_toArray, List.set_cons_zero, List.set_cons_succ]
            have heq := fun w => eql_pl (take n a t).1 a (tin.more hn) (ha.more hn) w (d := false) ⟨fun h => (by cases h), fun h => absurd h he⟩
            refine quiet_still rfl (.bool false) (fun w _ => by go_simp) ?_
            simp only [Act.put, List.setIfInBounds_toArray, List.set_cons_zero, List.set_cons_succ]
            refine wpQuiet_nil fun U hU => ?_
            obtain ⟨bu, u3', u4', l3', l4'⟩ := hU
            go_wp2_with fail
            have hcc := (HS.out _ bu).1.c2
            refine region_takes (fun w' => w'.cell? ⟨fb, 2, none⟩ = some (.slice (some ⟨b, off, none⟩) (((a :: A).reverse ++ t :: acc).length) cap) ∧ w'.rangeAt g3 0 (pl (take n a t).1) ∧ w'.rangeAt g4 0 (pl (take n a t).2)) 14 (by kernel_rfl) (by kernel_rfl) (fun t _ _ _ _ h => by cases t <;> exact h) ⟨by simpa using hcc, by simpa using u3', by simpa using u4'⟩ ?_
            simp only [List.take_succ_cons, List.take_zero]
            refine takes_move rfl _ rfl ?_
            simp only [Act.put, List.setIfInBounds_toArray, List.set_cons_zero, List.set_cons_succ]
            refine takes_still rfl (.pointer (some ⟨fb, 0, none⟩)) (fun w _ => by go_simp) ?_
            simp only [Act.put, List.setIfInBounds_toArray, List.set_cons_zero, List.set_cons_succ]
            refine takes_still rfl (.pointer (some ⟨fb, 2, none⟩)) (fun w _ => by go_simp) ?_
            simp only [Act.put, List.setIfInBounds_toArray, List.set_cons_zero, List.set_cons_succ]
            refine takes_load1 rfl _ _ rfl ⟨fb, 2, none⟩ rfl _ (load_fac _ _) (fun _ h => h.1) ?_
            simp only [Act.put, List.setIfInBounds_toArray, List.set_cons_zero, List.set_cons_succ]
            refine takes_move rfl _ rfl ?_
            simp only [Act.put, List.setIfInBounds_toArray, List.set_cons_zero, List.set_cons_succ]
            refine takes_still rfl (.int .i64 (A.length : Int)) (fun w _ => by go_simp) ?_
            simp only [Act.put, List.setIfInBounds_toArray, List.set_cons_zero, List.set_cons_succ]
            refine takes_move rfl _ rfl ?_
            simp only [Act.put, List.setIfInBounds_toArray, List.set_cons_zero, List.set_cons_succ]
            refine takes_still rfl (.pointer (some ⟨fb, 0, none⟩)) (fun w _ => by go_simp) ?_
            simp only [Act.put, List.setIfInBounds_toArray, List.set_cons_zero, List.set_cons_succ]
            refine takes_still rfl (.pointer (some ⟨fb, 2, none⟩)) (fun w _ => by go_simp) ?_
            simp only [Act.put, List.setIfInBounds_toArray, List.set_cons_zero, List.set_cons_succ]
            refine takes_load1 rfl _ _ rfl ⟨fb, 2, none⟩ rfl _ (load_fac _ _) (fun _ h => h.1) ?_
            simp only [Act.put, List.setIfInBounds_toArray, List.set_cons_zero, List.set_cons_succ]
            refine takes_move rfl _ rfl ?_
            simp only [Act.put, List.setIfInBounds_toArray, List.set_cons_zero, List.set_cons_succ]
            refine takes_load_mid rfl 108 (.tmp 3) rfl g3 0 rfl (pl (take n a t).1) _ (fun _ h => h.2.1) Tryz.underlying108 hd59 (hi59L _) ?_
            simp only [Act.put, List.setIfInBounds_toArray, List.set_cons_zero, List.set_cons_succ]
            refine takes_load_mid rfl 108 (.tmp 4) rfl g4 0 rfl (pl (take n a t).2) _ (fun _ h => h.2.2) Tryz.underlying108 hd59 (hi59L _) ?_
            simp only [Act.put, List.setIfInBounds_toArray, List.set_cons_zero, List.set_cons_succ]
            rw [← HML2.out]
            rw [← HML2.out] at hcc
            have jl1 := Jl1.out
            have jn1 : (0 : Int) ≤ (A.length : Int) + 1 := by omega
            have jt : ((A.length : Int) + 1).toNat = A.length + 1 := by omega
            refine takes_still rfl (.pointer (some ⟨b, off + A.length * 12, none⟩)) (fun w _ => by go_simp) ?_
            simp only [Act.put, List.setIfInBounds_toArray, List.set_cons_zero, List.set_cons_succ]
            refine takes_nil ?_
            obtain ⟨N1, -, -, Bu⟩ := HS.out _ bu
            obtain ⟨b5, off5, e5, -, -, -, th1⟩ := N1.fr.at hM0
            cases e5
            have hbf : fb < b := by omega
            have hg3 : g3 ≠ b := by omega
            have hg4 : g4 ≠ b := by omega
            refine wpAnyH_ready (rs := [14]) (by kernel_rfl) (by simp) (AllReadyH.cons (o := { dst := none, op := Op.store 108 (Operand.tmp 61) (Operand.tmp 59), type := 0, pos := "normal.go:69", after := #[{ on := 13, ground := Ground.data }, { on := 11, ground := Ground.data }, { on := 0, ground := Ground.phase }, { on := 1, ground := Ground.phase }, { on := 2, ground := Ground.phase }, { on := 3, ground := Ground.phase }, { on := 4, ground := Ground.phase }, { on := 5, ground := Ground.phase }, { on := 6, ground := Ground.textOnly Departure.lateStores }, { on := 7, ground := Ground.textOnly Departure.lateStoresUnsure }, { on := 8, ground := Ground.textOnly Departure.lateStoresUnsure }, { on := 9, ground := Ground.phase }, { on := 10, ground := Ground.textOnly Departure.lateStores }, { on := 11, ground := Ground.phase }, { on := 12, ground := Ground.textOnly Departure.lateStores }], guard := none }) rfl (fun K hK => ?_) AllReadyH.nil)
            rw [if_pos (by rfl)]
            refine wp_store_mid 108 (.tmp 61) (.tmp 59) rfl b (off + A.length * 12) (pl (take n a t).1).toArray rfl rfl (by rw [sizeP]; simpa using th1) (hi59A _) (all_oneCell_toArray (pl_one _)) (hK.out _ _ ⟨(cell_setCells_block (by omega)).trans (by simpa using hcc), World.rangeAt_setCells_apart (by simpa using u3') _ _ _ (.inl hg3), World.rangeAt_setCells_apart (by simpa using u4') _ _ _ (.inl hg4)⟩ (fun hS5 => ?_))
            clear hK K
            simp only [Act.put]
            have N2 := N1.drew.set hbf (by omega : A.length < ((a :: A).reverse ++ t :: acc).length) (take n a t).1
            have Bu2 := below_setCells Bu.drew (by omega : fb ≤ b) (off + A.length * 12) (pl (take n a t).1)
            obtain ⟨X1, hX1⟩ : ∃ X, X = U.drew.setCells b (off + A.length * 12) (pl (take n a t).1) := ⟨_, rfl⟩
            simp only at hS5
            rw [← hX1] at N2 Bu2 hS5 ⊢
            clear hX1
            refine wpAnyH_take (i := 15) (oi := { dst := some 62, op := Op.indexAddr 103 (Operand.tmp 57) (Operand.tmp 58), type := 0, pos := "normal.go:69", after := #[{ on := 9, ground := Ground.data }, { on := 10, ground := Ground.data }, { on := 0, ground := Ground.phase }, { on := 1, ground := Ground.phase }, { on := 2, ground := Ground.phase }, { on := 3, ground := Ground.phase }, { on := 4, ground := Ground.phase }, { on := 5, ground := Ground.phase }, { on := 6, ground := Ground.phase }, { on := 7, ground := Ground.phase }, { on := 8, ground := Ground.phase }, { on := 9, ground := Ground.phase }, { on := 10, ground := Ground.phase }, { on := 11, ground := Ground.phase }, { on := 12, ground := Ground.phase }, { on := 13, ground := Ground.phase }, { on := 14, ground := Ground.phase }], guard := none }) (v := .pointer (some ⟨b, off + (A.length + 1) * 12, none⟩)) rfl (by kernel_rfl) (by kernel_rfl) (by kernel_rfl) (fun _ _ _ h => h) (.inl ⟨by rfl, fun w _ => by go_simp⟩) hS5 ?_
            simp only [Act.put, List.setIfInBounds_toArray, List.set_cons_zero, List.set_cons_succ]
            have hM2 : (((a :: A).reverse ++ t :: acc).set A.length (take n a t).1)[A.length + 1]? = some t := by rw [List.getElem?_set_ne (by omega)]; exact hM1
            obtain ⟨b6, off6, e6, -, -, -, th2⟩ := N2.fr.at hM2
            cases e6
            refine wpAnyH_ready (rs := [16]) (by kernel_rfl) (by simp) (AllReadyH.cons (o := { dst := none, op := Op.store 108 (Operand.tmp 62) (Operand.tmp 60), type := 0, pos := "normal.go:69", after := #[{ on := 15, ground := Ground.data }, { on := 12, ground := Ground.data }, { on := 14, ground := Ground.chain }, { on := 0, ground := Ground.phase }, { on := 1, ground := Ground.phase }, { on := 2, ground := Ground.phase }, { on := 3, ground := Ground.phase }, { on := 4, ground := Ground.phase }, { on := 5, ground := Ground.phase }, { on := 6, ground := Ground.phase }, { on := 7, ground := Ground.phase }, { on := 8, ground := Ground.phase }, { on := 9, ground := Ground.phase }, { on := 10, ground := Ground.phase }, { on := 11, ground := Ground.phase }, { on := 12, ground := Ground.phase }, { on := 13, ground := Ground.phase }, { on := 14, ground := Ground.phase }], guard := none }) rfl (fun K hK => ?_) AllReadyH.nil)
            rw [if_pos (by rfl)]
            refine wp_store_mid 108 (.tmp 62) (.tmp 60) rfl b (off + (A.length + 1) * 12) (pl (take n a t).2).toArray rfl rfl (by rw [sizeP]; exact th2) (hi59A _) (all_oneCell_toArray (pl_one _)) (hK.out _ _ ⟨(cell_setCells_block (by omega)).trans hS5.1, World.rangeAt_setCells_apart hS5.2.1 _ _ _ (.inl hg3), World.rangeAt_setCells_apart hS5.2.2 _ _ _ (.inl hg4)⟩ (fun _ => ?_))
            clear hK K
            simp only [Act.put]
            have N3 := Lib.hid (N2.set (k := A.length + 1) hbf (by rw [List.length_set]; omega) (take n a t).2)
            have B3' := Lib.hid (below_setCells Bu2 (by omega : fb ≤ b) (off + (A.length + 1) * 12) (pl (take n a t).2))
            clear N1 N2 hS5 bu u3' u4' hcc Bu Bu2 th1 th2
            refine wpAnyH_done (by kernel_rfl) ?_ _
            go_wp2_with fail
            go_roundw
            case rel =>
              refine ⟨A, (take n a t).1, (take n a t).2 :: acc, by go_num, fun x hx => hA x (by simp [hx]), tin, ?_, by rw [List.length_cons]; omega, ?_, B3'.out⟩
              · rw [← hP]
                conv => rhs; unfold pushR
                rw [if_neg (fun h => he ((eqB_iff tin ha).1 h))]
              · have e7 : (((a :: A).reverse ++ t :: acc).set A.length (take n a t).1).set (A.length + 1) (take n a t).2 = A.reverse ++ (take n a t).1 :: (take n a t).2 :: acc := by
                  rw [List.reverse_cons, List.append_assoc, List.set_append_right _ _ (by simp), List.set_append_right _ _ (by simp)]
                  simp
                rw [← e7]
                exact N3.out
            case measure => (simp [intOf] <;> omega)
        · rw [if_pos (by rfl)]
          refine wp_alloc59 rfl (fun g4 W2 e4 t4 s4 hb2 => hK.out _ _ (HS.out W2 (B1.trans (hb2.mono B1.size))) (fun _ => ?_))
          have B2 : Below wr.heap.size wr W2 := B1.trans (hb2.mono B1.size)
          have z2 := hb2.size
          have y4 := B1.size
          have t3 := there_below t3 hb2 s3
          have s3 : g3 < W2.heap.size := by omega
          clear hK K hb2
          simp only [Act.put, List.setIfInBounds_toArray, List.set_cons_zero, List.set_cons_succ]
          refine wpAnyH_ready (rs := [19]) (by kernel_rfl) (by simp) (AllReadyH.cons (o := { dst := some 35, op := Op.call { callee := Callee.value (Operand.func 148), args := #[Operand.tmp 19, Operand.tmp 27, Operand.tmp 34], argTypes := #[3, 108, 108] }, type := 158, pos := "normal.go:65", after := #[{ on := 3, ground := Ground.data }, { on := 11, ground := Ground.data }, { on := 18, ground := Ground.data }], guard := none }) rfl (fun K hK => ?_) AllReadyH.nil)
          rw [if_pos (by rfl)]
          refine wp_call 148 _ _ rfl entTake (.tuple #[.agg (pl (take n a t).1).toArray, .agg (pl (take n a t).2).toArray]) _ (takeOver_any n hn a t ha ht _) (fun W3 hb3 => hK.out _ _ (HS.out W3 (B2.trans (hb3.mono B2.size))) (fun _ => ?_))
          have B3 : Below wr.heap.size wr W3 := B2.trans (hb3.mono B2.size)
          have z3 := hb3.size
          have t3 := there_below t3 hb3 s3
          have s3 : g3 < W3.heap.size := by omega
          have t4 := there_below t4 hb3 s4
          have s4 : g4 < W3.heap.size := by omega
          clear hK K hb3
          simp only [Act.put, List.setIfInBounds_toArray, List.set_cons_zero, List.set_cons_succ]
          refine wpAnyH_take (i := 20) (oi := { dst := some 15, op := Op.move (Operand.tmp 35), type := 158, pos := "normal.go:65", after := #[{ on := 19, ground := Ground.data }], guard := none }) (v := (.tuple #[.agg (pl (take n a t).1).toArray, .agg (pl (take n a t).2).toArray])) rfl (by kernel_rfl) (by kernel_rfl) (by kernel_rfl) (fun _ _ _ h => h) (.inl ⟨by rfl, fun w _ => by go_simp⟩) (HS.out W3 B3) ?_
          simp only [Act.put, List.setIfInBounds_toArray, List.set_cons_zero, List.set_cons_succ]
          refine wpAnyH_take (i := 21) (oi := { dst := some 36, op := Op.extract (Operand.tmp 15) 0, type := 108, pos := "normal.go:65", after := #[{ on := 20, ground := Ground.data }], guard := none }) (v := (.agg (pl (take n a t).1).toArray)) rfl (by kernel_rfl) (by kernel_rfl) (by kernel_rfl) (fun _ _ _ h => h) (.inl ⟨by rfl, fun w _ => by go_simp⟩) (HS.out W3 B3) ?_
          simp only [Act.put, List.setIfInBounds_toArray, List.set_cons_zero, List.set_cons_succ]
          refine wpAnyH_take (i := 22) (oi := { dst := some 37, op := Op.extract (Operand.tmp 15) 1, type := 108, pos := "normal.go:65", after := #[{ on := 20, ground := Ground.data }, { on := 25, ground := Ground.gcOnly Departure.lateStores }], guard := none }) (v := (.agg (pl (take n a t).2).toArray)) rfl (by kernel_rfl) (by kernel_rfl) (by kernel_rfl) (fun _ _ _ h => h) (.inl ⟨by rfl, fun w _ => by go_simp⟩) (HS.out W3 B3) ?_
          simp only [Act.put, List.setIfInBounds_toArray, List.set_cons_zero, List.set_cons_succ]
          have hne : g3 ≠ g4 := by omega
          have w3 : wr.heap.size ≤ g3 := by omega
          have w4 : wr.heap.size ≤ g4 := by omega
          clear e3 e4 y3 y4
          refine wpAnyH_ready (rs := [25]) (by kernel_rfl) (by simp) (AllReadyH.cons (o := { dst := none, op := Op.store 108 (Operand.tmp 3) (Operand.tmp 36), type := 0, pos := "normal.go:65", after := #[{ on := 23, ground := Ground.data }, { on := 21, ground := Ground.data }, { on := 19, ground := Ground.chain }, { on := 0, ground := Ground.phase }, { on := 1, ground := Ground.phase }, { on := 2, ground := Ground.phase }, { on := 3, ground := Ground.phase }, { on := 4, ground := Ground.phase }, { on := 5, ground := Ground.phase }, { on := 6, ground := Ground.phase }, { on := 7, ground := Ground.phase }, { on := 8, ground := Ground.phase }, { on := 9, ground := Ground.phase }, { on := 10, ground := Ground.phase }, { on := 11, ground := Ground.phase }, { on := 12, ground := Ground.phase }, { on := 13, ground := Ground.phase }, { on := 14, ground := Ground.phase }, { on := 15, ground := Ground.phase }, { on := 16, ground := Ground.phase }, { on := 17, ground := Ground.phase }, { on := 18, ground := Ground.phase }, { on := 19, ground := Ground.phase }, { on := 20, ground := Ground.phase }, { on := 21, ground := Ground.phase }, { on := 22, ground := Ground.textOnly Departure.lateStores }, { on := 23, ground := Ground.phase }, { on := 24, ground := Ground.phase }], guard := none }) rfl (fun K hK => ?_) AllReadyH.nil)
          rw [if_pos (by rfl)]
          refine wp_store_mid 108 (.tmp 3) (.tmp 36) rfl g3 0 (pl (take n a t).1).toArray rfl rfl (by rw [sizeP]; exact t3) (hi59A _) (all_oneCell_toArray (pl_one _)) (hK.out _ _ (HS.out _ (below_setCells B3 w3 0 _)) (fun _ => ?_))
          clear hK K
          simp only [Act.put]
          obtain ⟨V1, hV⟩ : ∃ V, V = W3.setCells g3 0 (pl (take n a t).1) := ⟨_, rfl⟩
          rw [← hV]
          have BV1 : Below wr.heap.size wr V1 := by rw [hV]; exact below_setCells B3 w3 0 _
          have zv1 : V1.heap.size = W3.heap.size := by rw [hV]; exact size_setCells' _ _ _ _
          have r3 : V1.rangeAt g3 0 (pl (take n a t).1) := by rw [hV]; exact World.rangeAt_setCells_same _ _ _ _ (by rw [pl_len]; exact t3)
          have r4 : V1.there g4 0 12 := by rw [hV]; exact World.there_setCells t4 _ _ _
          clear hV
          refine wpAnyH_ready (rs := [26]) (by kernel_rfl) (by simp) (AllReadyH.cons (o := { dst := none, op := Op.store 108 (Operand.tmp 4) (Operand.tmp 37), type := 0, pos := "normal.go:65", after := #[{ on := 24, ground := Ground.data }, { on := 22, ground := Ground.data }, { on := 25, ground := Ground.chain }, { on := 0, ground := Ground.phase }, { on := 1, ground := Ground.phase }, { on := 2, ground := Ground.phase }, { on := 3, ground := Ground.phase }, { on := 4, ground := Ground.phase }, { on := 5, ground := Ground.phase }, { on := 6, ground := Ground.phase }, { on := 7, ground := Ground.phase }, { on := 8, ground := Ground.phase }, { on := 9, ground := Ground.phase }, { on := 10, ground := Ground.phase }, { on := 11, ground := Ground.phase }, { on := 12, ground := Ground.phase }, { on := 13, ground := Ground.phase }, { on := 14, ground := Ground.phase }, { on := 15, ground := Ground.phase }, { on := 16, ground := Ground.phase }, { on := 17, ground := Ground.phase }, { on := 18, ground := Ground.phase }, { on := 19, ground := Ground.phase }, { on := 20, ground := Ground.phase }, { on := 21, ground := Ground.phase }, { on := 22, ground := Ground.phase }, { on := 23, ground := Ground.phase }, { on := 24, ground := Ground.phase }, { on := 25, ground := Ground.phase }], guard := none }) rfl (fun K hK => ?_) AllReadyH.nil)
          rw [if_pos (by rfl)]
          refine wp_store_mid 108 (.tmp 4) (.tmp 37) rfl g4 0 (pl (take n a t).2).toArray rfl rfl (by rw [sizeP]; exact r4) (hi59A _) (all_oneCell_toArray (pl_one _)) (hK.out _ _ (HS.out _ (below_setCells BV1 w4 0 _)) (fun _ => ?_))
          clear hK K
          simp only [Act.put]
          obtain ⟨V2, hV⟩ : ∃ V, V = V1.setCells g4 0 (pl (take n a t).2) := ⟨_, rfl⟩
          rw [← hV]
          have BV2 : Below wr.heap.size wr V2 := by rw [hV]; exact below_setCells BV1 w4 0 _
          have zv2 : V2.heap.size = V1.heap.size := by rw [hV]; exact size_setCells' _ _ _ _
          have u3 : V2.rangeAt g3 0 (pl (take n a t).1) := by rw [hV]; exact World.rangeAt_setCells_apart r3 _ _ _ (.inl hne)
          have u4 : V2.rangeAt g4 0 (pl (take n a t).2) := by rw [hV]; exact World.rangeAt_setCells_same _ _ _ _ (by rw [pl_len]; exact r4)
          clear hV
          refine wpAnyH_done (by kernel_rfl) ?_ _
          have l3 : g3 < V2.heap.size := by omega
          have l4 : g4 < V2.heap.size := by omega
          clear t3 t4 r3 r4 BV1
          go_wp2_with fail
          obtain ⟨ee, hTS⟩ := take_spec ha ht
          have tin := hTS.ina
          have tin2 := hTS.inb
          by_cases he : (take n a t).1 = a
          · refine wp_region_quiet (C := fun w' => Below wr.heap.size wr w' ∧ w'.rangeAt g3 0 (pl (take n a t).1) ∧ w'.rangeAt g4 0 (pl (take n a t).2) ∧ g3 < w'.heap.size ∧ g4 < w'.heap.size) (by kernel_rfl) (by kernel_rfl) ⟨BV2.drew, by simpa using u3, by simpa using u4, l3, l4⟩ ?_
            dsimp only
            refine quiet_load_mid rfl 108 (.tmp 3) rfl g3 0 rfl (pl (take n a t).1) _ (fun _ h => h.2.1) Tryz.underlying108 hd59 (hi59L _) ?_
            simp only [Act.put, List.setIfInBounds_toArray, List.set_cons_zero, List.set_cons_succ]
            refine quiet_move rfl _ rfl ?_
            simp only [Act.put, List.setIfInBounds_toArray, List.set_cons_zero, List.set_cons_succ]
            refine quiet_still rfl (.pointer (some ⟨fb, 0, none⟩)) (fun w _ => by go_simp) ?_
            simp only [Act.put, List.setIfInBounds_toArray, List.set_cons_zero, List.set_cons_succ]
            refine quiet_still rfl (.pointer (some ⟨fb, 2, none⟩)) (fun w _ => by go_simp) ?_
            simp only [Act.put, List.setIfInBounds_toArray, List.set_cons_zero, List.set_cons_succ]
            refine quiet_load1 rfl _ _ rfl ⟨fb, 2, none⟩ rfl _ (load_fac _ _) (fun _ h => (HS.out _ h.1).1.c2) ?_
            simp only [Act.put, List.setIfInBounds_toArray, List.set_cons_zero, List.set_cons_succ]
            refine quiet_move rfl _ rfl ?_
            simp only [Act.put, List.setIfInBounds_toArray, List.set_cons_zero, List.set_cons_succ]
            refine quiet_still rfl (.int .i64 (A.length : Int)) (fun w _ => by go_simp) ?_
            simp only [Act.put, List.setIfInBounds_toArray, List.set_cons_zero, List.set_cons_succ]
            rw [← HML2.out]
            have jl := Jl.out
            have jn : (0 : Int) ≤ (A.length : Int) := by omega
            refine quiet_still rfl (.pointer (some ⟨b, off + A.length * 12, none⟩)) (fun w _ => by go_simp) ?_
            simp only [Act.put, List.setIfInBounds_toArray, List.set_cons_zero, List.set_cons_succ]
            refine quiet_load_mid rfl 108 (.tmp 45) rfl b (off + A.length * 12) rfl (pl a) _ (fun _ h => (HS.out _ h.1).2.1) Tryz.underlying108 hd59 (hi59L _) ?_
            simp only [Act.put, List.setIfInBounds_toArray, List.set_cons_zero, List.set_cons_succ]
            have heq := fun w => eql_pl a a (ha.more hn) (ha.more hn) w (d := true) ⟨fun _ => rfl, fun _ => rfl⟩
            refine quiet_still rfl (.bool true) (fun w _ => by go_simp) ?_
            simp only [Act.put, List.setIfInBounds_toArray, List.set_cons_zero, List.set_cons_succ]
            refine wpQuiet_nil fun U hU => ?_
            obtain ⟨bu, u3', u4', l3', l4'⟩ := hU
            go_wp2_with fail
            refine ⟨rfl, .tuple #[], results_none rfl _ _ _, rfl, ?_, hbw.trans (bu.mono (Nat.le_of_lt hfz))⟩
            rw [← hP]
            unfold pushR
            have hE : eqB n (take n a t).1 a = true := (eqB_iff tin ha).2 he
            rw [if_pos hE]
            have := (HS.out _ bu).1
            rw [List.reverse_cons, List.append_assoc] at this
            exact this
          · refine wp_region_quiet (C := fun w' => Below wr.heap.size wr w' ∧ w'.rangeAt g3 0 (pl (take n a t).1) ∧ w'.rangeAt g4 0 (pl (take n a t).2) ∧ g3 < w'.heap.size ∧ g4 < w'.heap.size) (by kernel_rfl) (by kernel_rfl) ⟨BV2.drew, by simpa using u3, by simpa using u4, l3, l4⟩ ?_
            dsimp only
            refine quiet_load_mid rfl 108 (.tmp 3) rfl g3 0 rfl (pl (take n a t).1) _ (fun _ h => h.2.1) Tryz.underlying108 hd59 (hi59L _) ?_
            simp only [Act.put, List.setIfInBounds_toArray, List.set_cons_zero, List.set_cons_succ]
            refine quiet_move rfl _ rfl ?_
            simp only [Act.put, List.setIfInBounds_toArray, List.set_cons_zero, List.set_cons_succ]
            refine quiet_still rfl (.pointer (some ⟨fb, 0, none⟩)) (fun w _ => by go_simp) ?_
            simp only [Act.put, List.setIfInBounds_toArray, List.set_cons_zero, List.set_cons_succ]
            refine quiet_still rfl (.pointer (some ⟨fb, 2, none⟩)) (fun w _ => by go_simp) ?_
            simp only [Act.put, List.setIfInBounds_toArray, List.set_cons_zero, List.set_cons_succ]
            refine quiet_load1 rfl _ _ rfl ⟨fb, 2, none⟩ rfl _ (load_fac _ _) (fun _ h => (HS.out _ h.1).1.c2) ?_
            simp only [Act.put, List.setIfInBounds_toArray, List.set_cons_zero, List.set_cons_succ]
            refine quiet_move rfl _ rfl ?_
            simp only [Act.put, List.setIfInBounds_toArray, List.set_cons_zero, List.set_cons_succ]
            refine quiet_still rfl (.int .i64 (A.length : Int)) (fun w _ => by go_simp) ?_
            simp only [Act.put, List.setIfInBounds_toArray, List.set_cons_zero, List.set_cons_succ]
            rw [← HML2.out]
            have jl := Jl.out
            have jn : (0 : Int) ≤ (A.length : Int) := by omega
            refine quiet_still rfl (.pointer (some ⟨b, off + A.length * 12, none⟩)) (fun w _ => by go_simp) ?_
            simp only [Act.put, List.setIfInBounds_toArray, List.set_cons_zero, List.set_cons_succ]
            refine quiet_load_mid rfl 108 (.tmp 45) rfl b (off + A.length * 12) rfl (pl a) _ (fun _ h => (HS.out _ h.1).2.1) Tryz.underlying108 hd59 (hi59L _) ?_
            simp only [Act.put, List.setIfInBounds_toArray, List.set_cons_zero, List.set_cons_succ]
            have heq := fun w => eql_pl (take n a t).1 a (tin.more hn) (ha.more hn) w (d := false) ⟨fun h => (by cases h), fun h => absurd h he⟩
            refine quiet_still rfl (.bool false) (fun w _ => by go_simp) ?_
            simp only [Act.put, List.setIfInBounds_toArray, List.set_cons_zero, List.set_cons_succ]
            refine wpQuiet_nil fun U hU => ?_
            obtain ⟨bu, u3', u4', l3', l4'⟩ := hU
            go_wp2_with fail
            have hcc := (HS.out _ bu).1.c2
            refine region_takes (fun w' => w'.cell? ⟨fb, 2, none⟩ = some (.slice (some ⟨b, off, none⟩) (((a :: A).reverse ++ t :: acc).length) cap) ∧ w'.rangeAt g3 0 (pl (take n a t).1) ∧ w'.rangeAt g4 0 (pl (take n a t).2)) 14 (by kernel_rfl) (by kernel_rfl) (fun t _ _ _ _ h => by cases t <;> exact h) ⟨by simpa using hcc, by simpa using u3', by simpa using u4'⟩ ?_
            simp only [List.take_succ_cons, List.take_zero]
            refine takes_move rfl _ rfl ?_
            simp only [Act.put, List.setIfInBounds_toArray, List.set_cons_zero, List.set_cons_succ]
            refine takes_still rfl (.pointer (some ⟨fb, 0, none⟩)) (fun w _ => by go_simp) ?_
            simp only [Act.put, List.setIfInBounds_toArray, List.set_cons_zero, List.set_cons_succ]
            refine takes_still rfl (.pointer (some ⟨fb, 2, none⟩)) (fun w _ => by go_simp) ?_
            simp only [Act.put, List.setIfInBounds_toArray, List.set_cons_zero, List.set_cons_succ]
            refine takes_load1 rfl _ _ rfl ⟨fb, 2, none⟩ rfl _ (load_fac _ _) (fun _ h => h.1) ?_
            simp only [Act.put, List.setIfInBounds_toArray, List.set_cons_zero, List.set_cons_succ]
            refine takes_move rfl _ rfl ?_
            simp only [Act.put, List.setIfInBounds_toArray, List.set_cons_zero, List.set_cons_succ]
            refine takes_still rfl (.int .i64 (A.length : Int)) (fun w _ => by go_simp) ?_
            simp only [Act.put, List.setIfInBounds_toArray, List.set_cons_zero, List.set_cons_succ]
            refine takes_move rfl _ rfl ?_
            simp only [Act.put, List.setIfInBounds_toArray, List.set_cons_zero, List.set_cons_succ]
            refine takes_still rfl (.pointer (some ⟨fb, 0, none⟩)) (fun w _ => by go_simp) ?_
            simp only [Act.put, List.setIfInBounds_toArray, List.set_cons_zero, List.set_cons_succ]
            refine takes_still rfl (.pointer (some ⟨fb, 2, none⟩)) (fun w _ => by go_simp) ?_
            simp only [Act.put, List.setIfInBounds_toArray, List.set_cons_zero, List.set_cons_succ]
            refine takes_load1 rfl _ _ rfl ⟨fb, 2, none⟩ rfl _ (load_fac _ _) (fun _ h => h.1) ?_
            simp only [Act.put, List.setIfInBounds_toArray, List.set_cons_zero, List.set_cons_succ]
            refine takes_move rfl _ rfl ?_
            simp only [Act.put, List.setIfInBounds_toArray, List.set_cons_zero, List.set_cons_succ]
            refine takes_load_mid rfl 108 (.tmp 3) rfl g3 0 rfl (pl (take n a t).1) _ (fun _ h => h.2.1) Tryz.underlying108 hd59 (hi59L _) ?_
            simp only [Act.put, List.setIfInBounds_toArray, List.set_cons_zero, List.set_cons_succ]
            refine takes_load_mid rfl 108 (.tmp 4) rfl g4 0 rfl (pl (take n a t).2) _ (fun _ h => h.2.2) Tryz.underlying108 hd59 (hi59L _) ?_
            simp only [Act.put, List.setIfInBounds_toArray, List.set_cons_zero, List.set_cons_succ]
            rw [← HML2.out]
            rw [← HML2.out] at hcc
            have jl1 := Jl1.out
            have jn1 : (0 : Int) ≤ (A.length : Int) + 1 := by omega
            have jt : ((A.length : Int) + 1).toNat = A.length + 1 := by omega
            refine takes_still rfl (.pointer (some ⟨b, off + A.length * 12, none⟩)) (fun w _ => by go_simp) ?_
            simp only [Act.put, List.setIfInBounds_toArray, List.set_cons_zero, List.set_cons_succ]
            refine takes_nil ?_
            obtain ⟨N1, -, -, Bu⟩ := HS.out _ bu
            obtain ⟨b5, off5, e5, -, -, -, th1⟩ := N1.fr.at hM0
            cases e5
            have hbf : fb < b := by omega
            have hg3 : g3 ≠ b := by omega
            have hg4 : g4 ≠ b := by omega
            refine wpAnyH_ready (rs := [14]) (by kernel_rfl) (by simp) (AllReadyH.cons (o := { dst := none, op := Op.store 108 (Operand.tmp 61) (Operand.tmp 59), type := 0, pos := "normal.go:69", after := #[{ on := 13, ground := Ground.data }, { on := 11, ground := Ground.data }, { on := 0, ground := Ground.phase }, { on := 1, ground := Ground.phase }, { on := 2, ground := Ground.phase }, { on := 3, ground := Ground.phase }, { on := 4, ground := Ground.phase }, { on := 5, ground := Ground.phase }, { on := 6, ground := Ground.textOnly Departure.lateStores }, { on := 7, ground := Ground.textOnly Departure.lateStoresUnsure }, { on := 8, ground := Ground.textOnly Departure.lateStoresUnsure }, { on := 9, ground := Ground.phase }, { on := 10, ground := Ground.textOnly Departure.lateStores }, { on := 11, ground := Ground.phase }, { on := 12, ground := Ground.textOnly Departure.lateStores }], guard := none }) rfl (fun K hK => ?_) AllReadyH.nil)
            rw [if_pos (by rfl)]
            refine wp_store_mid 108 (.tmp 61) (.tmp 59) rfl b (off + A.length * 12) (pl (take n a t).1).toArray rfl rfl (by rw [sizeP]; simpa using th1) (hi59A _) (all_oneCell_toArray (pl_one _)) (hK.out _ _ ⟨(cell_setCells_block (by omega)).trans (by simpa using hcc), World.rangeAt_setCells_apart (by simpa using u3') _ _ _ (.inl hg3), World.rangeAt_setCells_apart (by simpa using u4') _ _ _ (.inl hg4)⟩ (fun hS5 => ?_))
            clear hK K
            simp only [Act.put]
            have N2 := N1.drew.set hbf (by omega : A.length < ((a :: A).reverse ++ t :: acc).length) (take n a t).1
            have Bu2 := below_setCells Bu.drew (by omega : fb ≤ b) (off + A.length * 12) (pl (take n a t).1)
            obtain ⟨X1, hX1⟩ : ∃ X, X = U.drew.setCells b (off + A.length * 12) (pl (take n a t).1) := ⟨_, rfl⟩
            simp only at hS5
            rw [← hX1] at N2 Bu2 hS5 ⊢
            clear hX1
            refine wpAnyH_take (i := 15) (oi := { dst := some 62, op := Op.indexAddr 103 (Operand.tmp 57) (Operand.tmp 58), type := 0, pos := "normal.go:69", after := #[{ on := 9, ground := Ground.data }, { on := 10, ground := Ground.data }, { on := 0, ground := Ground.phase }, { on := 1, ground := Ground.phase }, { on := 2, ground := Ground.phase }, { on := 3, ground := Ground.phase }, { on := 4, ground := Ground.phase }, { on := 5, ground := Ground.phase }, { on := 6, ground := Ground.phase }, { on := 7, ground := Ground.phase }, { on := 8, ground := Ground.phase }, { on := 9, ground := Ground.phase }, { on := 10, ground := Ground.phase }, { on := 11, ground := Ground.phase }, { on := 12, ground := Ground.phase }, { on := 13, ground := Ground.phase }, { on := 14, ground := Ground.phase }], guard := none }) (v := .pointer (some ⟨b, off + (A.length + 1) * 12, none⟩)) rfl (by kernel_rfl) (by kernel_rfl) (by kernel_rfl) (fun _ _ _ h => h) (.inl ⟨by rfl, fun w _ => by go_simp⟩) hS5 ?_
            simp only [Act.put, List.setIfInBounds_toArray, List.set_cons_zero, List.set_cons_succ]
            have hM2 : (((a :: A).reverse ++ t :: acc).set A.length (take n a t).1)[A.length + 1]? = some t := by rw [List.getElem?_set_ne (by omega)]; exact hM1
            obtain ⟨b6, off6, e6, -, -, -, th2⟩ := N2.fr.at hM2
            cases e6
            refine wpAnyH_ready (rs := [16]) (by kernel_rfl) (by simp) (AllReadyH.cons (o := { dst := none, op := Op.store 108 (Operand.tmp 62) (Operand.tmp 60), type := 0, pos := "normal.go:69", after := #[{ on := 15, ground := Ground.data }, { on := 12, ground := Ground.data }, { on := 14, ground := Ground.chain }, { on := 0, ground := Ground.phase }, { on := 1, ground := Ground.phase }, { on := 2, ground := Ground.phase }, { on := 3, ground := Ground.phase }, { on := 4, ground := Ground.phase }, { on := 5, ground := Ground.phase }, { on := 6, ground := Ground.phase }, { on := 7, ground := Ground.phase }, { on := 8, ground := Ground.phase }, { on := 9, ground := Ground.phase }, { on := 10, ground := Ground.phase }, { on := 11, ground := Ground.phase }, { on := 12, ground := Ground.phase }, { on := 13, ground := Ground.phase }, { on := 14, ground := Ground.phase }], guard := none }) rfl (fun K hK => ?_) AllReadyH.nil)
            rw [if_pos (by rfl)]
            refine wp_store_mid 108 (.tmp 62) (.tmp 60) rfl b (off + (A.length + 1) * 12) (pl (take n a t).2).toArray rfl rfl (by rw [sizeP]; exact th2) (hi59A _) (all_oneCell_toArray (pl_one _)) (hK.out _ _ ⟨(cell_setCells_block (by omega)).trans hS5.1, World.rangeAt_setCells_apart hS5.2.1 _ _ _ (.inl hg3), World.rangeAt_setCells_apart hS5.2.2 _ _ _ (.inl hg4)⟩ (fun _ => ?_))
            clear hK K
            simp only [Act.put]
            have N3 := Lib.hid (N2.set (k := A.length + 1) hbf (by rw [List.length_set]; omega) (take n a t).2)
            have B3' := Lib.hid (below_setCells Bu2 (by omega : fb ≤ b) (off + (A.length + 1) * 12) (pl (take n a t).2))
            clear N1 N2 hS5 bu u3' u4' hcc Bu Bu2 th1 th2
            refine wpAnyH_done (by kernel_rfl) ?_ _
            go_wp2_with fail
            go_roundw
            case rel =>
              refine ⟨A, (take n a t).1, (take n a t).2 :: acc, by go_num, fun x hx => hA x (by simp [hx]), tin, ?_, by rw [List.length_cons]; omega, ?_, B3'.out⟩
              · rw [← hP]
                conv => rhs; unfold pushR
                rw [if_neg (fun h => he ((eqB_iff tin ha).1 h))]
              · have e7 : (((a :: A).reverse ++ t :: acc).set A.length (take n a t).1).set (A.length + 1) (take n a t).2 = A.reverse ++ (take n a t).1 :: (take n a t).2 :: acc := by
                  rw [List.reverse_cons, List.append_assoc, List.set_append_right _ _ (by simp), List.set_append_right _ _ (by simp)]
                  simp
                rw [← e7]
                exact N3.out
            case measure => (simp [intOf] <;> omega)
      · rw [if_pos (by rfl)]
        refine wp_alloc59 rfl (fun g4 W1 e4 t4 s4 hb1 => hK.out _ _ (HS.out W1 (B0.trans (hb1.mono B0.size))) (fun _ => ?_))
        have B1 : Below wr.heap.size wr W1 := B0.trans (hb1.mono B0.size)
        have z1 := hb1.size
        have y4 := B0.size
        clear hK K hb1
        simp only [Act.put, List.setIfInBounds_toArray, List.set_cons_zero, List.set_cons_succ]
        refine wpAnyH_ready (rs := [19, 23]) (by kernel_rfl) (by simp) (AllReadyH.cons (o := { dst := some 35, op := Op.call { callee := Callee.value (Operand.func 148), args := #[Operand.tmp 19, Operand.tmp 27, Operand.tmp 34], argTypes := #[3, 108, 108] }, type := 158, pos := "normal.go:65", after := #[{ on := 3, ground := Ground.data }, { on := 11, ground := Ground.data }, { on := 18, ground := Ground.data }], guard := none }) rfl (fun K hK => ?_) (AllReadyH.cons (o := { dst := some 3, op := Op.alloc 108, type := 0, pos := "normal.go:65", after := #[], guard := none }) rfl (fun K hK => ?_) AllReadyH.nil))
        · rw [if_pos (by rfl)]
          refine wp_call 148 _ _ rfl entTake (.tuple #[.agg (pl (take n a t).1).toArray, .agg (pl (take n a t).2).toArray]) _ (takeOver_any n hn a t ha ht _) (fun W2 hb2 => hK.out _ _ (HS.out W2 (B1.trans (hb2.mono B1.size))) (fun _ => ?_))
          have B2 : Below wr.heap.size wr W2 := B1.trans (hb2.mono B1.size)
          have z2 := hb2.size
          have t4 := there_below t4 hb2 s4
          have s4 : g4 < W2.heap.size := by omega
          clear hK K hb2
          simp only [Act.put, List.setIfInBounds_toArray, List.set_cons_zero, List.set_cons_succ]
          refine wpAnyH_take (i := 20) (oi := { dst := some 15, op := Op.move (Operand.tmp 35), type := 158, pos := "normal.go:65", after := #[{ on := 19, ground := Ground.data }], guard := none }) (v := (.tuple #[.agg (pl (take n a t).1).toArray, .agg (pl (take n a t).2).toArray])) rfl (by kernel_rfl) (by kernel_rfl) (by kernel_rfl) (fun _ _ _ h => h) (.inl ⟨by rfl, fun w _ => by go_simp⟩) (HS.out W2 B2) ?_
          simp only [Act.put, List.setIfInBounds_toArray, List.set_cons_zero, List.set_cons_succ]
          refine wpAnyH_take (i := 21) (oi := { dst := some 36, op := Op.extract (Operand.tmp 15) 0, type := 108, pos := "normal.go:65", after := #[{ on := 20, ground := Ground.data }], guard := none }) (v := (.agg (pl (take n a t).1).toArray)) rfl (by kernel_rfl) (by kernel_rfl) (by kernel_rfl) (fun _ _ _ h => h) (.inl ⟨by rfl, fun w _ => by go_simp⟩) (HS.out W2 B2) ?_
          simp only [Act.put, List.setIfInBounds_toArray, List.set_cons_zero, List.set_cons_succ]
          refine wpAnyH_take (i := 22) (oi := { dst := some 37, op := Op.extract (Operand.tmp 15) 1, type := 108, pos := "normal.go:65", after := #[{ on := 20, ground := Ground.data }, { on := 25, ground := Ground.gcOnly Departure.lateStores }], guard := none }) (v := (.agg (pl (take n a t).2).toArray)) rfl (by kernel_rfl) (by kernel_rfl) (by kernel_rfl) (fun _ _ _ h => h) (.inl ⟨by rfl, fun w _ => by go_simp⟩) (HS.out W2 B2) ?_
          simp only [Act.put, List.setIfInBounds_toArray, List.set_cons_zero, List.set_cons_succ]
          refine wpAnyH_ready (rs := [23]) (by kernel_rfl) (by simp) (AllReadyH.cons (o := { dst := some 3, op := Op.alloc 108, type := 0, pos := "normal.go:65", after := #[], guard := none }) rfl (fun K hK => ?_) AllReadyH.nil)
          rw [if_pos (by rfl)]
          refine wp_alloc59 rfl (fun g3 W3 e3 t3 s3 hb3 => hK.out _ _ (HS.out W3 (B2.trans (hb3.mono B2.size))) (fun _ => ?_))
          have B3 : Below wr.heap.size wr W3 := B2.trans (hb3.mono B2.size)
          have z3 := hb3.size
          have y3 := B2.size
          have t4 := there_below t4 hb3 s4
          have s4 : g4 < W3.heap.size := by omega
          clear hK K hb3
          simp only [Act.put, List.setIfInBounds_toArray, List.set_cons_zero, List.set_cons_succ]
          have hne : g3 ≠ g4 := by omega
          have w3 : wr.heap.size ≤ g3 := by omega
          have w4 : wr.heap.size ≤ g4 := by omega
          clear e3 e4 y3 y4
          refine wpAnyH_ready (rs := [25]) (by kernel_rfl) (by simp) (AllReadyH.cons (o := { dst := none, op := Op.store 108 (Operand.tmp 3) (Operand.tmp 36), type := 0, pos := "normal.go:65", after := #[{ on := 23, ground := Ground.data }, { on := 21, ground := Ground.data }, { on := 19, ground := Ground.chain }, { on := 0, ground := Ground.phase }, { on := 1, ground := Ground.phase }, { on := 2, ground := Ground.phase }, { on := 3, ground := Ground.phase }, { on := 4, ground := Ground.phase }, { on := 5, ground := Ground.phase }, { on := 6, ground := Ground.phase }, { on := 7, ground := Ground.phase }, { on := 8, ground := Ground.phase }, { on := 9, ground := Ground.phase }, { on := 10, ground := Ground.phase }, { on := 11, ground := Ground.phase }, { on := 12, ground := Ground.phase }, { on := 13, ground := Ground.phase }, { on := 14, ground := Ground.phase }, { on := 15, ground := Ground.phase }, { on := 16, ground := Ground.phase }, { on := 17, ground := Ground.phase }, { on := 18, ground := Ground.phase }, { on := 19, ground := Ground.phase }, { on := 20, ground := Ground.phase }, { on := 21, ground := Ground.phase }, { on := 22, ground := Ground.textOnly Departure.lateStores }, { on := 23, ground := Ground.phase }, { on := 24, ground := Ground.phase }], guard := none }) rfl (fun K hK => ?_) AllReadyH.nil)
          rw [if_pos (by rfl)]
          refine wp_store_mid 108 (.tmp 3) (.tmp 36) rfl g3 0 (pl (take n a t).1).toArray rfl rfl (by rw [sizeP]; exact t3) (hi59A _) (all_oneCell_toArray (pl_one _)) (hK.out _ _ (HS.out _ (below_setCells B3 w3 0 _)) (fun _ => ?_))
          clear hK K
          simp only [Act.put]
          obtain ⟨V1, hV⟩ : ∃ V, V = W3.setCells g3 0 (pl (take n a t).1) := ⟨_, rfl⟩
          rw [← hV]
          have BV1 : Below wr.heap.size wr V1 := by rw [hV]; exact below_setCells B3 w3 0 _
          have zv1 : V1.heap.size = W3.heap.size := by rw [hV]; exact size_setCells' _ _ _ _
          have r3 : V1.rangeAt g3 0 (pl (take n a t).1) := by rw [hV]; exact World.rangeAt_setCells_same _ _ _ _ (by rw [pl_len]; exact t3)
          have r4 : V1.there g4 0 12 := by rw [hV]; exact World.there_setCells t4 _ _ _
          clear hV
          refine wpAnyH_ready (rs := [26]) (by kernel_rfl) (by simp) (AllReadyH.cons (o := { dst := none, op := Op.store 108 (Operand.tmp 4) (Operand.tmp 37), type := 0, pos := "normal.go:65", after := #[{ on := 24, ground := Ground.data }, { on := 22, ground := Ground.data }, { on := 25, ground := Ground.chain }, { on := 0, ground := Ground.phase }, { on := 1, ground := Ground.phase }, { on := 2, ground := Ground.phase }, { on := 3, ground := Ground.phase }, { on := 4, ground := Ground.phase }, { on := 5, ground := Ground.phase }, { on := 6, ground := Ground.phase }, { on := 7, ground := Ground.phase }, { on := 8, ground := Ground.phase }, { on := 9, ground := Ground.phase }, { on := 10, ground := Ground.phase }, { on := 11, ground := Ground.phase }, { on := 12, ground := Ground.phase }, { on := 13, ground := Ground.phase }, { on := 14, ground := Ground.phase }, { on := 15, ground := Ground.phase }, { on := 16, ground := Ground.phase }, { on := 17, ground := Ground.phase }, { on := 18, ground := Ground.phase }, { on := 19, ground := Ground.phase }, { on := 20, ground := Ground.phase }, { on := 21, ground := Ground.phase }, { on := 22, ground := Ground.phase }, { on := 23, ground := Ground.phase }, { on := 24, ground := Ground.phase }, { on := 25, ground := Ground.phase }], guard := none }) rfl (fun K hK => ?_) AllReadyH.nil)
          rw [if_pos (by rfl)]
          refine wp_store_mid 108 (.tmp 4) (.tmp 37) rfl g4 0 (pl (take n a t).2).toArray rfl rfl (by rw [sizeP]; exact r4) (hi59A _) (all_oneCell_toArray (pl_one _)) (hK.out _ _ (HS.out _ (below_setCells BV1 w4 0 _)) (fun _ => ?_))
          clear hK K
          simp only [Act.put]
          obtain ⟨V2, hV⟩ : ∃ V, V = V1.setCells g4 0 (pl (take n a t).2) := ⟨_, rfl⟩
          rw [← hV]
          have BV2 : Below wr.heap.size wr V2 := by rw [hV]; exact below_setCells BV1 w4 0 _
          have zv2 : V2.heap.size = V1.heap.size := by rw [hV]; exact size_setCells' _ _ _ _
          have u3 : V2.rangeAt g3 0 (pl (take n a t).1) := by rw [hV]; exact World.rangeAt_setCells_apart r3 _ _ _ (.inl hne)
          have u4 : V2.rangeAt g4 0 (pl (take n a t).2) := by rw [hV]; exact World.rangeAt_setCells_same _ _ _ _ (by rw [pl_len]; exact r4)
          clear hV
          refine wpAnyH_done (by kernel_rfl) ?_ _
          have l3 : g3 < V2.heap.size := by omega
          have l4 : g4 < V2.heap.size := by omega
          clear t3 t4 r3 r4 BV1
          go_wp2_with fail
          obtain ⟨ee, hTS⟩ := take_spec ha ht
          have tin := hTS.ina
          have tin2 := hTS.inb
          by_cases he : (take n a t).1 = a
          · refine wp_region_quiet (C := fun w' => Below wr.heap.size wr w' ∧ w'.rangeAt g3 0 (pl (take n a t).1) ∧ w'.rangeAt g4 0 (pl (take n a t).2) ∧ g3 < w'.heap.size ∧ g4 < w'.heap.size) (by kernel_rfl) (by kernel_rfl) ⟨BV2.drew, by simpa using u3, by simpa using u4, l3, l4⟩ ?_
            dsimp only
            refine quiet_load_mid rfl 108 (.tmp 3) rfl g3 0 rfl (pl (take n a t).1) _ (fun _ h => h.2.1) Tryz.underlying108 hd59 (hi59L _) ?_
            simp only [Act.put, List.setIfInBounds_toArray, List.set_cons_zero, List.set_cons_succ]
            refine quiet_move rfl _ rfl ?_
            simp only [Act.put, List.setIfInBounds_toArray, List.set_cons_zero, List.set_cons_succ]
            refine quiet_still rfl (.pointer (some ⟨fb, 0, none⟩)) (fun w _ => by go_simp) ?_
            simp only [Act.put, List.setIfInBounds_toArray, List.set_cons_zero, List.set_cons_succ]
            refine quiet_still rfl (.pointer (some ⟨fb, 2, none⟩)) (fun w _ => by go_simp) ?_
            simp only [Act.put, List.setIfInBounds_toArray, List.set_cons_zero, List.set_cons_succ]
            refine quiet_load1 rfl _ _ rfl ⟨fb, 2, none⟩ rfl _ (load_fac _ _) (fun _ h => (HS.out _ h.1).1.c2) ?_
            simp only [Act.put, List.setIfInBounds_toArray, List.set_cons_zero, List.set_cons_succ]
            refine quiet_move rfl _ rfl ?_
            simp only [Act.put, List.setIfInBounds_toArray, List.set_cons_zero, List.set_cons_succ]
            refine quiet_still rfl (.int .i64 (A.length : Int)) (fun w _ => by go_simp) ?_
            simp only [Act.put, List.setIfInBounds_toArray, List.set_cons_zero, List.set_cons_succ]
            rw [← HML2.out]
            have jl := Jl.out
            have jn : (0 : Int) ≤ (A.length : Int) := by omega
            refine quiet_still rfl (.pointer (some ⟨b, off + A.length * 12, none⟩)) (fun w _ => by go_simp) ?_
            simp only [Act.put, List.setIfInBounds_toArray, List.set_cons_zero, List.set_cons_succ]
            refine quiet_load_mid rfl 108 (.tmp 45) rfl b (off + A.length * 12) rfl (pl a) _ (fun _ h => (HS.out _ h.1).2.1) Tryz.underlying108 hd59 (hi59L _) ?_
            simp only [Act.put, List.setIfInBounds_toArray, List.set_cons_zero, List.set_cons_succ]
            have heq := fun w => eql_pl a a (ha.more hn) (ha.more hn) w (d := true) ⟨fun _ => rfl, fun _ => rfl⟩
            refine quiet_still rfl (.bool true) (fun w _ => by go_simp) ?_
            simp only [Act.put, List.setIfInBounds_toArray, List.set_cons_zero, List.set_cons_succ]
            refine wpQuiet_nil fun U hU => ?_
            obtain ⟨bu, u3', u4', l3', l4'⟩ := hU
            go_wp2_with fail
            refine ⟨rfl, .tuple #[], results_none rfl _ _ _, rfl, ?_, hbw.trans (bu.mono (Nat.le_of_lt hfz))⟩
            rw [← hP]
            unfold pushR
            have hE : eqB n (take n a t).1 a = true := (eqB_iff tin ha).2 he
            rw [if_pos hE]
            have := (HS.out _ bu).1
            rw [List.reverse_cons, List.append_assoc] at this
            exact this
          · refine wp_region_quiet (C := fun w' => Below wr.heap.size wr w' ∧ w'.rangeAt g3 0 (pl (take n a t).1) ∧ w'.rangeAt g4 0 (pl (take n a t).2) ∧ g3 < w'.heap.size ∧ g4 < w'.heap.size) (by kernel_rfl) (by kernel_rfl) ⟨BV2.drew, by simpa using u3, by simpa using u4, l3, l4⟩ ?_
            dsimp only
            refine quiet_load_mid rfl 108 (.tmp 3) rfl g3 0 rfl (pl (take n a t).1) _ (fun _ h => h.2.1) Tryz.underlying108 hd59 (hi59L _) ?_
            simp only [Act.put, List.setIfInBounds_toArray, List.set_cons_zero, List.set_cons_succ]
            refine quiet_move rfl _ rfl ?_
            simp only [Act.put, List.setIfInBounds_toArray, List.set_cons_zero, List.set_cons_succ]
            refine quiet_still rfl (.pointer (some ⟨fb, 0, none⟩)) (fun w _ => by go_simp) ?_
            simp only [Act.put, List.setIfInBounds_toArray, List.set_cons_zero, List.set_cons_succ]
            refine quiet_still rfl (.pointer (some ⟨fb, 2, none⟩)) (fun w _ => by go_simp) ?_
            simp only [Act.put, List.setIfInBounds_toArray, List.set_cons_zero, List.set_cons_succ]
            refine quiet_load1 rfl _ _ rfl ⟨fb, 2, none⟩ rfl _ (load_fac _ _) (fun _ h => (HS.out _ h.1).1.c2) ?_
            simp only [Act.put, List.setIfInBounds_toArray, List.set_cons_zero, List.set_cons_succ]
            refine quiet_move rfl _ rfl ?_
            simp only [Act.put, List.setIfInBounds_toArray, List.set_cons_zero, List.set_cons_succ]
            refine quiet_still rfl (.int .i64 (A.length : Int)) (fun w _ => by go_simp) ?_
            simp only [Act.put, List.setIfInBounds_toArray, List.set_cons_zero, List.set_cons_succ]
            rw [← HML2.out]
            have jl := Jl.out
            have jn : (0 : Int) ≤ (A.length : Int) := by omega
            refine quiet_still rfl (.pointer (some ⟨b, off + A.length * 12, none⟩)) (fun w _ => by go_simp) ?_
            simp only [Act.put, List.setIfInBounds_toArray, List.set_cons_zero, List.set_cons_succ]
            refine quiet_load_mid rfl 108 (.tmp 45) rfl b (off + A.length * 12) rfl (pl a) _ (fun _ h => (HS.out _ h.1).2.1) Tryz.underlying108 hd59 (hi59L _) ?_
            simp only [Act.put, List.setIfInBounds_toArray, List.set_cons_zero, List.set_cons_succ]
            have heq := fun w => eql_pl (take n a t).1 a (tin.more hn) (ha.more hn) w (d := false) ⟨fun h => (by cases h), fun h => absurd h he⟩
            refine quiet_still rfl (.bool false) (fun w _ => by go_simp) ?_
            simp only [Act.put, List.setIfInBounds_toArray, List.set_cons_zero, List.set_cons_succ]
            refine wpQuiet_nil fun U hU => ?_
            obtain ⟨bu, u3', u4', l3', l4'⟩ := hU
            go_wp2_with fail
            have hcc := (HS.out _ bu).1.c2
            refine region_takes (fun w' => w'.cell? ⟨fb, 2, none⟩ = some (.slice (some ⟨b, off, none⟩) (((a :: A).reverse ++ t :: acc).length) cap) ∧ w'.rangeAt g3 0 (pl (take n a t).1) ∧ w'.rangeAt g4 0 (pl (take n a t).2)) 14 (by kernel_rfl) (by kernel_rfl) (fun t _ _ _ _ h => by cases t <;> exact h) ⟨by simpa using hcc, by simpa using u3', by simpa using u4'⟩ ?_
            simp only [List.take_succ_cons, List.take_zero]
            refine takes_move rfl _ rfl ?_
            simp only [Act.put, List.setIfInBounds_toArray, List.set_cons_zero, List.set_cons_succ]
            refine takes_still rfl (.pointer (some ⟨fb, 0, none⟩)) (fun w _ => by go_simp) ?_
            simp only [Act.put, List.setIfInBounds_toArray, List.set_cons_zero, List.set_cons_succ]
            refine takes_still rfl (.pointer (some ⟨fb, 2, none⟩)) (fun w _ => by go_simp) ?_
            simp only [Act.put, List.setIfInBounds_toArray, List.set_cons_zero, List.set_cons_succ]
            refine takes_load1 rfl _ _ rfl ⟨fb, 2, none⟩ rfl _ (load_fac _ _) (fun _ h => h.1) ?_
            simp only [Act.put, List.setIfInBounds_toArray, List.set_cons_zero, List.set_cons_succ]
            refine takes_move rfl _ rfl ?_
            simp only [Act.put, List.setIfInBounds_toArray, List.set_cons_zero, List.set_cons_succ]
            refine takes_still rfl (.int .i64 (A.length : Int)) (fun w _ => by go_simp) ?_
            simp only [Act.put, List.setIfInBounds_toArray, List.set_cons_zero, List.set_cons_succ]
            refine takes_move rfl _ rfl ?_
            simp only [Act.put, List.setIfInBounds_toArray, List.set_cons_zero, List.set_cons_succ]
            refine takes_still rfl (.pointer (some ⟨fb, 0, none⟩)) (fun w _ => by go_simp) ?_
            simp only [Act.put, List.setIfInBounds_toArray, List.set_cons_zero, List.set_cons_succ]
            refine takes_still rfl (.pointer (some ⟨fb, 2, none⟩)) (fun w _ => by go_simp) ?_
            simp only [Act.put, List.setIfInBounds_toArray, List.set_cons_zero, List.set_cons_succ]
            refine takes_load1 rfl _ _ rfl ⟨fb, 2, none⟩ rfl _ (load_fac _ _) (fun _ h => h.1) ?_
            simp only [Act.put, List.setIfInBounds_toArray, List.set_cons_zero, List.set_cons_succ]
            refine takes_move rfl _ rfl ?_
            simp only [Act.put, List.setIfInBounds_toArray, List.set_cons_zero, List.set_cons_succ]
            refine takes_load_mid rfl 108 (.tmp 3) rfl g3 0 rfl (pl (take n a t).1) _ (fun _ h => h.2.1) Tryz.underlying108 hd59 (hi59L _) ?_
            simp only [Act.put, List.setIfInBounds_toArray, List.set_cons_zero, List.set_cons_succ]
            refine takes_load_mid rfl 108 (.tmp 4) rfl g4 0 rfl (pl (take n a t).2) _ (fun _ h => h.2.2) Tryz.underlying108 hd59 (hi59L _) ?_
            simp only [Act.put, List.setIfInBounds_toArray, List.set_cons_zero, List.set_cons_succ]
            rw [← HML2.out]
            rw [← HML2.out] at hcc
            have jl1 := Jl1.out
            have jn1 : (0 : Int) ≤ (A.length : Int) + 1 := by omega
            have jt : ((A.length : Int) + 1).toNat = A.length + 1 := by omega
            refine takes_still rfl (.pointer (some ⟨b, off + A.length * 12, none⟩)) (fun w _ => by go_simp) ?_
            simp only [Act.put, List.setIfInBounds_toArray, List.set_cons_zero, List.set_cons_succ]
            refine takes_nil ?_
            obtain ⟨N1, -, -, Bu⟩ := HS.out _ bu
            obtain ⟨b5, off5, e5, -, -, -, th1⟩ := N1.fr.at hM0
            cases e5
            have hbf : fb < b := by omega
            have hg3 : g3 ≠ b := by omega
            have hg4 : g4 ≠ b := by omega
            refine wpAnyH_ready (rs := [14]) (by kernel_rfl) (by simp) (AllReadyH.cons (o := { dst := none, op := Op.store 108 (Operand.tmp 61) (Operand.tmp 59), type := 0, pos := "normal.go:69", after := #[{ on := 13, ground := Ground.data }, { on := 11, ground := Ground.data }, { on := 0, ground := Ground.phase }, { on := 1, ground := Ground.phase }, { on := 2, ground := Ground.phase }, { on := 3, ground := Ground.phase }, { on := 4, ground := Ground.phase }, { on := 5, ground := Ground.phase }, { on := 6, ground := Ground.textOnly Departure.lateStores }, { on := 7, ground := Ground.textOnly Departure.lateStoresUnsure }, { on := 8, ground := Ground.textOnly Departure.lateStoresUnsure }, { on := 9, ground := Ground.phase }, { on := 10, ground := Ground.textOnly Departure.lateStores }, { on := 11, ground := Ground.phase }, { on := 12, ground := Ground.textOnly Departure.lateStores }], guard := none }) rfl (fun K hK => ?_) AllReadyH.nil)
            rw [if_pos (by rfl)]
            refine wp_store_mid 108 (.tmp 61) (.tmp 59) rfl b (off + A.length * 12) (pl (take n a t).1).toArray rfl rfl (by rw [sizeP]; simpa using th1) (hi59A _) (all_oneCell_toArray (pl_one _)) (hK.out _ _ ⟨(cell_setCells_block (by omega)).trans (by simpa using hcc), World.rangeAt_setCells_apart (by simpa using u3') _ _ _ (.inl hg3), World.rangeAt_setCells_apart (by simpa using u4') _ _ _ (.inl hg4)⟩ (fun hS5 => ?_))
            clear hK K
            simp only [Act.put]
            have N2 := N1.drew.set hbf (by omega : A.length < ((a :: A).reverse ++ t :: acc).length) (take n a t).1
            have Bu2 := below_setCells Bu.drew (by omega : fb ≤ b) (off + A.length * 12) (pl (take n a t).1)
            obtain ⟨X1, hX1⟩ : ∃ X, X = U.drew.setCells b (off + A.length * 12) (pl (take n a t).1) := ⟨_, rfl⟩
            simp only at hS5
            rw [← hX1] at N2 Bu2 hS5 ⊢
            clear hX1
            refine wpAnyH_take (i := 15) (oi := { dst := some 62, op := Op.indexAddr 103 (Operand.tmp 57) (Operand.tmp 58), type := 0, pos := "normal.go:69", after := #[{ on := 9, ground := Ground.data }, { on := 10, ground := Ground.data }, { on := 0, ground := Ground.phase }, { on := 1, ground := Ground.phase }, { on := 2, ground := Ground.phase }, { on := 3, ground := Ground.phase }, { on := 4, ground := Ground.phase }, { on := 5, ground := Ground.phase }, { on := 6, ground := Ground.phase }, { on := 7, ground := Ground.phase }, { on := 8, ground := Ground.phase }, { on := 9, ground := Ground.phase }, { on := 10, ground := Ground.phase }, { on := 11, ground := Ground.phase }, { on := 12, ground := Ground.phase }, { on := 13, ground := Ground.phase }, { on := 14, ground := Ground.phase }], guard := none }) (v := .pointer (some ⟨b, off + (A.length + 1) * 12, none⟩)) rfl (by kernel_rfl) (by kernel_rfl) (by kernel_rfl) (fun _ _ _ h => h) (.inl ⟨by rfl, fun w _ => by go_simp⟩) hS5 ?_
            simp only [Act.put, List.setIfInBounds_toArray, List.set_cons_zero, List.set_cons_succ]
            have hM2 : (((a :: A).reverse ++ t :: acc).set A.length (take n a t).1)[A.length + 1]? = some t := by rw [List.getElem?_set_ne (by omega)]; exact hM1
            obtain ⟨b6, off6, e6, -, -, -, th2⟩ := N2.fr.at hM2
            cases e6
            refine wpAnyH_ready (rs := [16]) (by kernel_rfl) (by simp) (AllReadyH.cons (o := { dst := none, op := Op.store 108 (Operand.tmp 62) (Operand.tmp 60), type := 0, pos := "normal.go:69", after := #[{ on := 15, ground := Ground.data }, { on := 12, ground := Ground.data }, { on := 14, ground := Ground.chain }, { on := 0, ground := Ground.phase }, { on := 1, ground := Ground.phase }, { on := 2, ground := Ground.phase }, { on := 3, ground := Ground.phase }, { on := 4, ground := Ground.phase }, { on := 5, ground := Ground.phase }, { on := 6, ground := Ground.phase }, { on := 7, ground := Ground.phase }, { on := 8, ground := Ground.phase }, { on := 9, ground := Ground.phase }, { on := 10, ground := Ground.phase }, { on := 11, ground := Ground.phase }, { on := 12, ground := Ground.phase }, { on := 13, ground := Ground.phase }, { on := 14, ground := Ground.phase }], guard := none }) rfl (fun K hK => ?_) AllReadyH.nil)
            rw [if_pos (by rfl)]
            refine wp_store_mid 108 (.tmp 62) (.tmp 60) rfl b (off + (A.length + 1) * 12) (pl (take n a t).2).toArray rfl rfl (by rw [sizeP]; exact th2) (hi59A _) (all_oneCell_toArray (pl_one _)) (hK.out _ _ ⟨(cell_setCells_block (by omega)).trans hS5.1, World.rangeAt_setCells_apart hS5.2.1 _ _ _ (.inl hg3), World.rangeAt_setCells_apart hS5.2.2 _ _ _ (.inl hg4)⟩ (fun _ => ?_))
            clear hK K
            simp only [Act.put]
            have N3 := Lib.hid (N2.set (k := A.length + 1) hbf (by rw [List.length_set]; omega) (take n a t).2)
            have B3' := Lib.hid (below_setCells Bu2 (by omega : fb ≤ b) (off + (A.length + 1) * 12) (pl (take n a t).2))
            clear N1 N2 hS5 bu u3' u4' hcc Bu Bu2 th1 th2
            refine wpAnyH_done (by kernel_rfl) ?_ _
            go_wp2_with fail
            go_roundw
            case rel =>
              refine ⟨A, (take n a t).1, (take n a t).2 :: acc, by go_num, fun x hx => hA x (by simp [hx]), tin, ?_, by rw [List.length_cons]; omega, ?_, B3'.out⟩
              · rw [← hP]
                conv => rhs; unfold pushR
                rw [if_neg (fun h => he ((eqB_iff tin ha).1 h))]
              · have e7 : (((a :: A).reverse ++ t :: acc).set A.length (take n a t).1).set (A.length + 1) (take n a t).2 = A.reverse ++ (take n a t).1 :: (take n a t).2 :: acc := by
                  rw [List.reverse_cons, List.append_assoc, List.set_append_right _ _ (by simp), List.set_append_right _ _ (by simp)]
                  simp
                rw [← e7]
                exact N3.out
            case measure => (simp [intOf] <;> omega)
        · rw [if_pos (by rfl)]
          refine wp_alloc59 rfl (fun g3 W2 e3 t3 s3 hb2 => hK.out _ _ (HS.out W2 (B1.trans (hb2.mono B1.size))) (fun _ => ?_))
          have B2 : Below wr.heap.size wr W2 := B1.trans (hb2.mono B1.size)
          have z2 := hb2.size
          have y3 := B1.size
          have t4 := there_below t4 hb2 s4
          have s4 : g4 < W2.heap.size := by omega
          clear hK K hb2
          simp only [Act.put, List.setIfInBounds_toArray, List.set_cons_zero, List.set_cons_succ]
          refine wpAnyH_ready (rs := [19]) (by kernel_rfl) (by simp) (AllReadyH.cons (o := { dst := some 35, op := Op.call { callee := Callee.value (Operand.func 148), args := #[Operand.tmp 19, Operand.tmp 27, Operand.tmp 34], argTypes := #[3, 108, 108] }, type := 158, pos := "normal.go:65", after := #[{ on := 3, ground := Ground.data }, { on := 11, ground := Ground.data }, { on := 18, ground := Ground.data }], guard := none }) rfl (fun K hK => ?_) AllReadyH.nil)
          rw [if_pos (by rfl)]
          refine wp_call 148 _ _ rfl entTake (.tuple #[.agg (pl (take n a t).1).toArray, .agg (pl (take n a t).2).toArray]) _ (takeOver_any n hn a t ha ht _) (fun W3 hb3 => hK.out _ _ (HS.out W3 (B2.trans (hb3.mono B2.size))) (fun _ => ?_))
          have B3 : Below wr.heap.size wr W3 := B2.trans (hb3.mono B2.size)
          have z3 := hb3.size
          have t3 := there_below t3 hb3 s3
          have s3 : g3 < W3.heap.size := by omega
          have t4 := there_below t4 hb3 s4
          have s4 : g4 < W3.heap.size := by omega
          clear hK K hb3
          simp only [Act.put, List.setIfInBounds_toArray, List.set_cons_zero, List.set_cons_succ]
          refine wpAnyH_take (i := 20) (oi := { dst := some 15, op := Op.move (Operand.tmp 35), type := 158, pos := "normal.go:65", after := #[{ on := 19, ground := Ground.data }], guard := none }) (v := (.tuple #[.agg (pl (take n a t).1).toArray, .agg (pl (take n a t).2).toArray])) rfl (by kernel_rfl) (by kernel_rfl) (by kernel_rfl) (fun _ _ _ h => h) (.inl ⟨by rfl, fun w _ => by go_simp⟩) (HS.out W3 B3) ?_
          simp only [Act.put, List.setIfInBounds_toArray, List.set_cons_zero, List.set_cons_succ]
          refine wpAnyH_take (i := 21) (oi := { dst := some 36, op := Op.extract (Operand.tmp 15) 0, type := 108, pos := "normal.go:65", after := #[{ on := 20, ground := Ground.data }], guard := none }) (v := (.agg (pl (take n a t).1).toArray)) rfl (by kernel_rfl) (by kernel_rfl) (by kernel_rfl) (fun _ _ _ h => h) (.inl ⟨by rfl, fun w _ => by go_simp⟩) (HS.out W3 B3) ?_
          simp only [Act.put, List.setIfInBounds_toArray, List.set_cons_zero, List.set_cons_succ]
          refine wpAnyH_take (i := 22) (oi := { dst := some 37, op := Op.extract (Operand.tmp 15) 1, type := 108, pos := "normal.go:65", after := #[{ on := 20, ground := Ground.data }, { on := 25, ground := Ground.gcOnly Departure.lateStores }], guard := none }) (v := (.agg (pl (take n a t).2).toArray)) rfl (by kernel_rfl) (by kernel_rfl) (by kernel_rfl) (fun _ _ _ h => h) (.inl ⟨by rfl, fun w _ => by go_simp⟩) (HS.out W3 B3) ?_
          simp only [Act.put, List.setIfInBounds_toArray, List.set_cons_zero, List.set_cons_succ]
          have hne : g3 ≠ g4 := by omega
          have w3 : wr.heap.size ≤ g3 := by omega
          have w4 : wr.heap.size ≤ g4 := by omega
          clear e3 e4 y3 y4
          refine wpAnyH_ready (rs := [25]) (by kernel_rfl) (by simp) (AllReadyH.cons (o := { dst := none, op := Op.store 108 (Operand.tmp 3) (Operand.tmp 36), type := 0, pos := "normal.go:65", after := #[{ on := 23, ground := Ground.data }, { on := 21, ground := Ground.data }, { on := 19, ground := Ground.chain }, { on := 0, ground := Ground.phase }, { on := 1, ground := Ground.phase }, { on := 2, ground := Ground.phase }, { on := 3, ground := Ground.phase }, { on := 4, ground := Ground.phase }, { on := 5, ground := Ground.phase }, { on := 6, ground := Ground.phase }, { on := 7, ground := Ground.phase }, { on := 8, ground := Ground.phase }, { on := 9, ground := Ground.phase }, { on := 10, ground := Ground.phase }, { on := 11, ground := Ground.phase }, { on := 12, ground := Ground.phase }, { on := 13, ground := Ground.phase }, { on := 14, ground := Ground.phase }, { on := 15, ground := Ground.phase }, { on := 16, ground := Ground.phase }, { on := 17, ground := Ground.phase }, { on := 18, ground := Ground.phase }, { on := 19, ground := Ground.phase }, { on := 20, ground := Ground.phase }, { on := 21, ground := Ground.phase }, { on := 22, ground := Ground.textOnly Departure.lateStores }, { on := 23, ground := Ground.phase }, { on := 24, ground := Ground.phase }], guard := none }) rfl (fun K hK => ?_) AllReadyH.nil)
          rw [if_pos (by rfl)]
          refine wp_store_mid 108 (.tmp 3) (.tmp 36) rfl g3 0 (pl (take n a t).1).toArray rfl rfl (by rw [sizeP]; exact t3) (hi59A _) (all_oneCell_toArray (pl_one _)) (hK.out _ _ (HS.out _ (below_setCells B3 w3 0 _)) (fun _ => ?_))
          clear hK K
          simp only [Act.put]
          obtain ⟨V1, hV⟩ : ∃ V, V = W3.setCells g3 0 (pl (take n a t).1) := ⟨_, rfl⟩
          rw [← hV]
          have BV1 : Below wr.heap.size wr V1 := by rw [hV]; exact below_setCells B3 w3 0 _
          have zv1 : V1.heap.size = W3.heap.size := by rw [hV]; exact size_setCells' _ _ _ _
          have r3 : V1.rangeAt g3 0 (pl (take n a t).1) := by rw [hV]; exact World.rangeAt_setCells_same _ _ _ _ (by rw [pl_len]; exact t3)
          have r4 : V1.there g4 0 12 := by rw [hV]; exact World.there_setCells t4 _ _ _
          clear hV
          refine wpAnyH_ready (rs := [26]) (by kernel_rfl) (by simp) (AllReadyH.cons (o := { dst := none, op := Op.store 108 (Operand.tmp 4) (Operand.tmp 37), type := 0, pos := "normal.go:65", after := #[{ on := 24, ground := Ground.data }, { on := 22, ground := Ground.data }, { on := 25, ground := Ground.chain }, { on := 0, ground := Ground.phase }, { on := 1, ground := Ground.phase }, { on := 2, ground := Ground.phase }, { on := 3, ground := Ground.phase }, { on := 4, ground := Ground.phase }, { on := 5, ground := Ground.phase }, { on := 6, ground := Ground.phase }, { on := 7, ground := Ground.phase }, { on := 8, ground := Ground.phase }, { on := 9, ground := Ground.phase }, { on := 10, ground := Ground.phase }, { on := 11, ground := Ground.phase }, { on := 12, ground := Ground.phase }, { on := 13, ground := Ground.phase }, { on := 14, ground := Ground.phase }, { on := 15, ground := Ground.phase }, { on := 16, ground := Ground.phase }, { on := 17, ground := Ground.phase }, { on := 18, ground := Ground.phase }, { on := 19, ground := Ground.phase }, { on := 20, ground := Ground.phase }, { on := 21, ground := Ground.phase }, { on := 22, ground := Ground.phase }, { on := 23, ground := Ground.phase }, { on := 24, ground := Ground.phase }, { on := 25, ground := Ground.phase }], guard := none }) rfl (fun K hK => ?_) AllReadyH.nil)
          rw [if_pos (by rfl)]
          refine wp_store_mid 108 (.tmp 4) (.tmp 37) rfl g4 0 (pl (take n a t).2).toArray rfl rfl (by rw [sizeP]; exact r4) (hi59A _) (all_oneCell_toArray (pl_one _)) (hK.out _ _ (HS.out _ (below_setCells BV1 w4 0 _)) (fun _ => ?_))
          clear hK K
          simp only [Act.put]
          obtain ⟨V2, hV⟩ : ∃ V, V = V1.setCells g4 0 (pl (take n a t).2) := ⟨_, rfl⟩
          rw [← hV]
          have BV2 : Below wr.heap.size wr V2 := by rw [hV]; exact below_setCells BV1 w4 0 _
          have zv2 : V2.heap.size = V1.heap.size := by rw [hV]; exact size_setCells' _ _ _ _
          have u3 : V2.rangeAt g3 0 (pl (take n a t).1) := by rw [hV]; exact World.rangeAt_setCells_apart r3 _ _ _ (.inl hne)
          have u4 : V2.rangeAt g4 0 (pl (take n a t).2) := by rw [hV]; exact World.rangeAt_setCells_same _ _ _ _ (by rw [pl_len]; exact r4)
          clear hV
          refine wpAnyH_done (by kernel_rfl) ?_ _
          have l3 : g3 < V2.heap.size := by omega
          have l4 : g4 < V2.heap.size := by omega
          clear t3 t4 r3 r4 BV1
          go_wp2_with fail
          obtain ⟨ee, hTS⟩ := take_spec ha ht
          have tin := hTS.ina
          have tin2 := hTS.inb
          by_cases he : (take n a t).1 = a
          · refine wp_region_quiet (C := fun w' => Below wr.heap.size wr w' ∧ w'.rangeAt g3 0 (pl (take n a t).1) ∧ w'.rangeAt g4 0 (pl (take n a t).2) ∧ g3 < w'.heap.size ∧ g4 < w'.heap.size) (by kernel_rfl) (by kernel_rfl) ⟨BV2.drew, by simpa using u3, by simpa using u4, l3, l4⟩ ?_
            dsimp only
            refine quiet_load_mid rfl 108 (.tmp 3) rfl g3 0 rfl (pl (take n a t).1) _ (fun _ h => h.2.1) Tryz.underlying108 hd59 (hi59L _) ?_
            simp only [Act.put, List.setIfInBounds_toArray, List.set_cons_zero, List.set_cons_succ]
            refine quiet_move rfl _ rfl ?_
            simp only [Act.put, List.setIfInBounds_toArray, List.set_cons_zero, List.set_cons_succ]
            refine quiet_still rfl (.pointer (some ⟨fb, 0, none⟩)) (fun w _ => by go_simp) ?_
            simp only [Act.put, List.setIfInBounds_toArray, List.set_cons_zero, List.set_cons_succ]
            refine quiet_still rfl (.pointer (some ⟨fb, 2, none⟩)) (fun w _ => by go_simp) ?_
            simp only [Act.put, List.setIfInBounds_toArray, List.set_cons_zero, List.set_cons_succ]
            refine quiet_load1 rfl _ _ rfl ⟨fb, 2, none⟩ rfl _ (load_fac _ _) (fun _ h => (HS.out _ h.1).1.c2) ?_
            simp only [Act.put, List.setIfInBounds_toArray, List.set_cons_zero, List.set_cons_succ]
            refine quiet_move rfl _ rfl ?_
            simp only [Act.put, List.setIfInBounds_toArray, List.set_cons_zero, List.set_cons_succ]
            refine quiet_still rfl (.int .i64 (A.length : Int)) (fun w _ => by go_simp) ?_
            simp only [Act.put, List.setIfInBounds_toArray, List.set_cons_zero, List.set_cons_succ]
            rw [← HML2.out]
            have jl := Jl.out
            have jn : (0 : Int) ≤ (A.length : Int) := by omega
            refine quiet_still rfl (.pointer (some ⟨b, off + A.length * 12, none⟩)) (fun w _ => by go_simp) ?_
            simp only [Act.put, List.setIfInBounds_toArray, List.set_cons_zero, List.set_cons_succ]
            refine quiet_load_mid rfl 108 (.tmp 45) rfl b (off + A.length * 12) rfl (pl a) _ (fun _ h => (HS.out _ h.1).2.1) Tryz.underlying108 hd59 (hi59L _) ?_
            simp only [Act.put, List.setIfInBounds_toArray, List.set_cons_zero, List.set_cons_succ]
            have heq := fun w => eql_pl a a (ha.more hn) (ha.more hn) w (d := true) ⟨fun _ => rfl, fun _ => rfl⟩
            refine quiet_still rfl (.bool true) (fun w _ => by go_simp) ?_
            simp only [Act.put, List.setIfInBounds_toArray, List.set_cons_zero, List.set_cons_succ]
            refine wpQuiet_nil fun U hU => ?_
            obtain ⟨bu, u3', u4', l3', l4'⟩ := hU
            go_wp2_with fail
            refine ⟨rfl, .tuple #[], results_none rfl _ _ _, rfl, ?_, hbw.trans (bu.mono (Nat.le_of_lt hfz))⟩
            rw [← hP]
            unfold pushR
            have hE : eqB n (take n a t).1 a = true := (eqB_iff tin ha).2 he
            rw [if_pos hE]
            have := (HS.out _ bu).1
            rw [List.reverse_cons, List.append_assoc] at this
            exact this
          · refine wp_region_quiet (C := fun w' => Below wr.heap.size wr w' ∧ w'.rangeAt g3 0 (pl (take n a t).1) ∧ w'.rangeAt g4 0 (pl (take n a t).2) ∧ g3 < w'.heap.size ∧ g4 < w'.heap.size) (by kernel_rfl) (by kernel_rfl) ⟨BV2.drew, by simpa using u3, by simpa using u4, l3, l4⟩ ?_
            dsimp only
            refine quiet_load_mid rfl 108 (.tmp 3) rfl g3 0 rfl (pl (take n a t).1) _ (fun _ h => h.2.1) Tryz.underlying108 hd59 (hi59L _) ?_
            simp only [Act.put, List.setIfInBounds_toArray, List.set_cons_zero, List.set_cons_succ]
            refine quiet_move rfl _ rfl ?_
            simp only [Act.put, List.setIfInBounds_toArray, List.set_cons_zero, List.set_cons_succ]
            refine quiet_still rfl (.pointer (some ⟨fb, 0, none⟩)) (fun w _ => by go_simp) ?_
            simp only [Act.put, List.setIfInBounds_toArray, List.set_cons_zero, List.set_cons_succ]
            refine quiet_still rfl (.pointer (some ⟨fb, 2, none⟩)) (fun w _ => by go_simp) ?_
            simp only [Act.put, List.setIfInBounds_toArray, List.set_cons_zero, List.set_cons_succ]
            refine quiet_load1 rfl _ _ rfl ⟨fb, 2, none⟩ rfl _ (load_fac _ _) (fun _ h => (HS.out _ h.1).1.c2) ?_
            simp only [Act.put, List.setIfInBounds_toArray, List.set_cons_zero, List.set_cons_succ]
            refine quiet_move rfl _ rfl ?_
            simp only [Act.put, List.setIfInBounds_toArray, List.set_cons_zero, List.set_cons_succ]
            refine quiet_still rfl (.int .i64 (A.length : Int)) (fun w _ => by go_simp) ?_
            simp only [Act.put, List.setIfInBounds_toArray, List.set_cons_zero, List.set_cons_succ]
            rw [← HML2.out]
            have jl := Jl.out
            have jn : (0 : Int) ≤ (A.length : Int) := by omega
            refine quiet_still rfl (.pointer (some ⟨b, off + A.length * 12, none⟩)) (fun w _ => by go_simp) ?_
            simp only [Act.put, List.setIfInBounds_toArray, List.set_cons_zero, List.set_cons_succ]
            refine quiet_load_mid rfl 108 (.tmp 45) rfl b (off + A.length * 12) rfl (pl a) _ (fun _ h => (HS.out _ h.1).2.1) Tryz.underlying108 hd59 (hi59L _) ?_
            simp only [Act.put, List.setIfInBounds_toArray, List.set_cons_zero, List.set_cons_succ]
            have heq := fun w => eql_pl (take n a t).1 a (tin.more hn) (ha.more hn) w (d := false) ⟨fun h => (by cases h), fun h => absurd h he⟩
            refine quiet_still rfl (.bool false) (fun w _ => by go_simp) ?_
            simp only [Act.put, List.setIfInBounds_toArray, List.set_cons_zero, List.set_cons_succ]
            refine wpQuiet_nil fun U hU => ?_
            obtain ⟨bu, u3', u4', l3', l4'⟩ := hU
            go_wp2_with fail
            have hcc := (HS.out _ bu).1.c2
            refine region_takes (fun w' => w'.cell? ⟨fb, 2, none⟩ = some (.slice (some ⟨b, off, none⟩) (((a :: A).reverse ++ t :: acc).length) cap) ∧ w'.rangeAt g3 0 (pl (take n a t).1) ∧ w'.rangeAt g4 0 (pl (take n a t).2)) 14 (by kernel_rfl) (by kernel_rfl) (fun t _ _ _ _ h => by cases t <;> exact h) ⟨by simpa using hcc, by simpa using u3', by simpa using u4'⟩ ?_
            simp only [List.take_succ_cons, List.take_zero]
            refine takes_move rfl _ rfl ?_
            simp only [Act.put, List.setIfInBounds_toArray, List.set_cons_zero, List.set_cons_succ]
            refine takes_still rfl (.pointer (some ⟨fb, 0, none⟩)) (fun w _ => by go_simp) ?_
            simp only [Act.put, List.setIfInBounds_toArray, List.set_cons_zero, List.set_cons_succ]
            refine takes_still rfl (.pointer (some ⟨fb, 2, none⟩)) (fun w _ => by go_simp) ?_
            simp only [Act.put, List.setIfInBounds_toArray, List.set_cons_zero, List.set_cons_succ]
            refine takes_load1 rfl _ _ rfl ⟨fb, 2, none⟩ rfl _ (load_fac _ _) (fun _ h => h.1) ?_
            simp only [Act.put, List.setIfInBounds_toArray, List.set_cons_zero, List.set_cons_succ]
            refine takes_move rfl _ rfl ?_
            simp only [Act.put, List.setIfInBounds_toArray, List.set_cons_zero, List.set_cons_succ]
            refine takes_still rfl (.int .i64 (A.length : Int)) (fun w _ => by go_simp) ?_
            simp only [Act.put, List.setIfInBounds_toArray, List.set_cons_zero, List.set_cons_succ]
            refine takes_move rfl _ rfl ?_
            simp only [Act.put, List.setIfInBounds_toArray, List.set_cons_zero, List.set_cons_succ]
            refine takes_still rfl (.pointer (some ⟨fb, 0, none⟩)) (fun w _ => by go_simp) ?_
            simp only [Act.put, List.setIfInBounds_toArray, List.set_cons_zero, List.set_cons_succ]
            refine takes_still rfl (.pointer (some ⟨fb, 2, none⟩)) (fun w _ => by go_simp) ?_
            simp only [Act.put, List.setIfInBounds_toArray, List.set_cons_zero, List.set_cons_succ]
            refine takes_load1 rfl _ _ rfl ⟨fb, 2, none⟩ rfl _ (load_fac _ _) (fun _ h => h.1) ?_
            simp only [Act.put, List.setIfInBounds_toArray, List.set_cons_zero, List.set_cons_succ]
            refine takes_move rfl _ rfl ?_
            simp only [Act.put, List.setIfInBounds_toArray, List.set_cons_zero, List.set_cons_succ]
            refine takes_load_mid rfl 108 (.tmp 3) rfl g3 0 rfl (pl (take n a t).1) _ (fun _ h => h.2.1) Tryz.underlying108 hd59 (hi59L _) ?_
            simp only [Act.put, List.setIfInBounds_toArray, List.set_cons_zero, List.set_cons_succ]
            refine takes_load_mid rfl 108 (.tmp 4) rfl g4 0 rfl (pl (take n a t).2) _ (fun _ h => h.2.2) Tryz.underlying108 hd59 (hi59L _) ?_
            simp only [Act.put, List.setIfInBounds_toArray, List.set_cons_zero, List.set_cons_succ]
            rw [← HML2.out]
            rw [← HML2.out] at hcc
            have jl1 := Jl1.out
            have jn1 : (0 : Int) ≤ (A.length : Int) + 1 := by omega
            have jt : ((A.length : Int) + 1).toNat = A.length + 1 := by omega
            refine takes_still rfl (.pointer (some ⟨b, off + A.length * 12, none⟩)) (fun w _ => by go_simp) ?_
            simp only [Act.put, List.setIfInBounds_toArray, List.set_cons_zero, List.set_cons_succ]
            refine takes_nil ?_
            obtain ⟨N1, -, -, Bu⟩ := HS.out _ bu
            obtain ⟨b5, off5, e5, -, -, -, th1⟩ := N1.fr.at hM0
            cases e5
            have hbf : fb < b := by omega
            have hg3 : g3 ≠ b := by omega
            have hg4 : g4 ≠ b := by omega
            refine wpAnyH_ready (rs := [14]) (by kernel_rfl) (by simp) (AllReadyH.cons (o := { dst := none, op := Op.store 108 (Operand.tmp 61) (Operand.tmp 59), type := 0, pos := "normal.go:69", after := #[{ on := 13, ground := Ground.data }, { on := 11, ground := Ground.data }, { on := 0, ground := Ground.phase }, { on := 1, ground := Ground.phase }, { on := 2, ground := Ground.phase }, { on := 3, ground := Ground.phase }, { on := 4, ground := Ground.phase }, { on := 5, ground := Ground.phase }, { on := 6, ground := Ground.textOnly Departure.lateStores }, { on := 7, ground := Ground.textOnly Departure.lateStoresUnsure }, { on := 8, ground := Ground.textOnly Departure.lateStoresUnsure }, { on := 9, ground := Ground.phase }, { on := 10, ground := Ground.textOnly Departure.lateStores }, { on := 11, ground := Ground.phase }, { on := 12, ground := Ground.textOnly Departure.lateStores }], guard := none }) rfl (fun K hK => ?_) AllReadyH.nil)
            rw [if_pos (by rfl)]
            refine wp_store_mid 108 (.tmp 61) (.tmp 59) rfl b (off + A.length * 12) (pl (take n a t).1).toArray rfl rfl (by rw [sizeP]; simpa using th1) (hi59A _) (all_oneCell_toArray (pl_one _)) (hK.out _ _ ⟨(cell_setCells_block (by omega)).trans (by simpa using hcc), World.rangeAt_setCells_apart (by simpa using u3') _ _ _ (.inl hg3), World.rangeAt_setCells_apart (by simpa using u4') _ _ _ (.inl hg4)⟩ (fun hS5 => ?_))
            clear hK K
            simp only [Act.put]
            have N2 := N1.drew.set hbf (by omega : A.length < ((a :: A).reverse ++ t :: acc).length) (take n a t).1
            have Bu2 := below_setCells Bu.drew (by omega : fb ≤ b) (off + A.length * 12) (pl (take n a t).1)
            obtain ⟨X1, hX1⟩ : ∃ X, X = U.drew.setCells b (off + A.length * 12) (pl (take n a t).1) := ⟨_, rfl⟩
            simp only at hS5
            rw [← hX1] at N2 Bu2 hS5 ⊢
            clear hX1
            refine wpAnyH_take (i := 15) (oi := { dst := some 62, op := Op.indexAddr 103 (Operand.tmp 57) (Operand.tmp 58), type := 0, pos := "normal.go:69", after := #[{ on := 9, ground := Ground.data }, { on := 10, ground := Ground.data }, { on := 0, ground := Ground.phase }, { on := 1, ground := Ground.phase }, { on := 2, ground := Ground.phase }, { on := 3, ground := Ground.phase }, { on := 4, ground := Ground.phase }, { on := 5, ground := Ground.phase }, { on := 6, ground := Ground.phase }, { on := 7, ground := Ground.phase }, { on := 8, ground := Ground.phase }, { on := 9, ground := Ground.phase }, { on := 10, ground := Ground.phase }, { on := 11, ground := Ground.phase }, { on := 12, ground := Ground.phase }, { on := 13, ground := Ground.phase }, { on := 14, ground := Ground.phase }], guard := none }) (v := .pointer (some ⟨b, off + (A.length + 1) * 12, none⟩)) rfl (by kernel_rfl) (by kernel_rfl) (by kernel_rfl) (fun _ _ _ h => h) (.inl ⟨by rfl, fun w _ => by go_simp⟩) hS5 ?_
            simp only [Act.put, List.setIfInBounds_toArray, List.set_cons_zero, List.set_cons_succ]
            have hM2 : (((a :: A).reverse ++ t :: acc).set A.length (take n a t).1)[A.length + 1]? = some t := by rw [List.getElem?_set_ne (by omega)]; exact hM1
            obtain ⟨b6, off6, e6, -, -, -, th2⟩ := N2.fr.at hM2
            cases e6
            refine wpAnyH_ready (rs := [16]) (by kernel_rfl) (by simp) (AllReadyH.cons (o := { dst := none, op := Op.store 108 (Operand.tmp 62) (Operand.tmp 60), type := 0, pos := "normal.go:69", after := #[{ on := 15, ground := Ground.data }, { on := 12, ground := Ground.data }, { on := 14, ground := Ground.chain }, { on := 0, ground := Ground.phase }, { on := 1, ground := Ground.phase }, { on := 2, ground := Ground.phase }, { on := 3, ground := Ground.phase }, { on := 4, ground := Ground.phase }, { on := 5, ground := Ground.phase }, { on := 6, ground := Ground.phase }, { on := 7, ground := Ground.phase }, { on := 8, ground := Ground.phase }, { on := 9, ground := Ground.phase }, { on := 10, ground := Ground.phase }, { on := 11, ground := Ground.phase }, { on := 12, ground := Ground.phase }, { on := 13, ground := Ground.phase }, { on := 14, ground := Ground.phase }], guard := none }) rfl (fun K hK => ?_) AllReadyH.nil)
            rw [if_pos (by rfl)]
            refine wp_store_mid 108 (.tmp 62) (.tmp 60) rfl b (off + (A.length + 1) * 12) (pl (take n a t).2).toArray rfl rfl (by rw [sizeP]; exact th2) (hi59A _) (all_oneCell_toArray (pl_one _)) (hK.out _ _ ⟨(cell_setCells_block (by omega)).trans hS5.1, World.rangeAt_setCells_apart hS5.2.1 _ _ _ (.inl hg3), World.rangeAt_setCells_apart hS5.2.2 _ _ _ (.inl hg4)⟩ (fun _ => ?_))
            clear hK K
            simp only [Act.put]
            have N3 := Lib.hid (N2.set (k := A.length + 1) hbf (by rw [List.length_set]; omega) (take n a t).2)
            have B3' := Lib.hid (below_setCells Bu2 (by omega : fb ≤ b) (off + (A.length + 1) * 12) (pl (take n a t).2))
            clear N1 N2 hS5 bu u3' u4' hcc Bu Bu2 th1 th2
            refine wpAnyH_done (by kernel_rfl) ?_ _
            go_wp2_with fail
            go_roundw
            case rel =>
              refine ⟨A, (take n a t).1, (take n a t).2 :: acc, by go_num, fun x hx => hA x (by simp [hx]), tin, ?_, by rw [List.length_cons]; omega, ?_, B3'.out⟩
              · rw [← hP]
                conv => rhs; unfold pushR
                rw [if_neg (fun h => he ((eqB_iff tin ha).1 h))]
              · have e7 : (((a :: A).reverse ++ t :: acc).set A.length (take n a t).1).set (A.length + 1) (take n a t).2 = A.reverse ++ (take n a t).1 :: (take n a t).2 :: acc := by
                  rw [List.reverse_cons, List.append_assoc, List.set_append_right _ _ (by simp), List.set_append_right _ _ (by simp)]
                  simp
                rw [← e7]
                exact N3.out
            case measure => (simp [intOf] <;> omega)
end Go.Proofs.YtmefpaoakblndaaGreatDoor
