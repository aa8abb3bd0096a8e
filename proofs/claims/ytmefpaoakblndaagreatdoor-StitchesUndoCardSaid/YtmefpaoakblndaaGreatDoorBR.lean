/- A letter's inverse put behind a braid: add walked. -/
import Derived.Test.YtmefpaoakblndaaGreatDoorBO
namespace Go.Proofs.YtmefpaoakblndaaGreatDoor
open Go.RowKit
attribute [local irreducible] wpQuiet
set_option maxHeartbeats 4000000 in
set_option maxRecDepth 100000 in
theorem add_neg (fb n : Nat) (q : Int) (p0 : Int) (ao : Option Addr) (cap : Nat) (L0 : List Pm) (w : World) (hn : n ≤ 12) (hq : q < 0) (hqn : -(n : Int) < q) (hi0 : AllIn n L0) (hL0 : L0.length < 10000) (hp0 : -10000 < p0 ∧ p0 < 10000) (hs : NS fb n p0 ao cap L0 w) :
    Calls Tryz.prog 113 #[.pointer (some ⟨fb, 0, none⟩), .int .i64 q] w (AddPost fb n q p0 L0 w) := by
  have h0 : ¬ (0 : Int) < q := by omega
  have Hs := Lib.hid hs
  clear hs
  go_enter Tryz.func113, Tryz.ntmps113
  go_wp2_with fail
  refine (undoDelta_any fb n p0 ao cap L0 w hn hi0 (by omega) Hs.out).mono ?_
  rintro e W0 ⟨rfl, NW0, BW0⟩
  obtain ⟨L, hLe⟩ : ∃ L, L = L0.map (tu n) := ⟨_, rfl⟩
  obtain ⟨p, hpe⟩ : ∃ p, p = p0 - 1 := ⟨_, rfl⟩
  have hL : L.length < 10000 := by rw [hLe, List.length_map]; exact hL0
  have hp : -10002 < p ∧ p < 10000 := by omega
  have hi : AllIn n L := by
    intro y hy
    rw [hLe] at hy
    obtain ⟨x, hx, rfl⟩ := List.mem_map.1 hy
    exact tu_in (hi0 x hx)
  rw [← hLe, ← hpe] at NW0
  have HL := Lib.hid hLe
  have HP := Lib.hid hpe
  clear hLe hpe hL0 hp0 hi0 Hs
  obtain ⟨z, hzq⟩ : ∃ z : Nat, (n : Int) + q = (z : Int) + 1 := ⟨((n : Int) + q - 1).toNat, by omega⟩
  have hz : z + 1 < n := by omega
  have hwi : IntKind.i64.wrap ((z : Int) + 1) = (z : Int) + 1 := IntWalk.i64_in _ (by omega)
  have hfz := NW0.sz
  have HS := Lib.hid (fun (W : World) (hW : Below W0.heap.size W0 W) => (⟨NW0.below hW, hW⟩ : NS fb n p ao cap L W ∧ Below W0.heap.size W0 W))
  clear NW0
  go_wp2_with fail
  refine region_takesG (fun w' => w'.cell? ⟨fb, 2, none⟩ = some (.slice ao L.length cap) ∧ w'.cell? ⟨fb, 0, none⟩ = some (.int .i64 (n : Int))) 9 21 (by kernel_rfl) (by kernel_rfl) (fun t _ _ _ _ h => by cases t <;> exact h) (have h := (HS.out _ (Below.refl _ W0).drew).1; ⟨h.c2, h.c0⟩) ?_
  simp only [List.take_succ_cons, List.take_zero]
  refine takes_still rfl (.pointer (some ⟨fb, 0, none⟩)) (fun w _ => by go_simp) ?_
  simp only [Act.put, List.setIfInBounds_toArray, List.set_cons_zero, List.set_cons_succ]
  refine takes_still rfl (.pointer (some ⟨fb, 0, none⟩)) (fun w _ => by go_simp) ?_
  simp only [Act.put, List.setIfInBounds_toArray, List.set_cons_zero, List.set_cons_succ]
  refine takes_still rfl (.pointer (some ⟨fb, 0, none⟩)) (fun w _ => by go_simp) ?_
  simp only [Act.put, List.setIfInBounds_toArray, List.set_cons_zero, List.set_cons_succ]
  refine takes_still rfl (.pointer (some ⟨fb, 2, none⟩)) (fun w _ => by go_simp) ?_
  simp only [Act.put, List.setIfInBounds_toArray, List.set_cons_zero, List.set_cons_succ]
  refine takes_load1 rfl _ _ rfl ⟨fb, 2, none⟩ rfl _ (load_fac _ _) (fun _ h => h.1) ?_
  simp only [Act.put, List.setIfInBounds_toArray, List.set_cons_zero, List.set_cons_succ]
  refine takes_still rfl (.pointer (some ⟨fb, 0, none⟩)) (fun w _ => by go_simp) ?_
  simp only [Act.put, List.setIfInBounds_toArray, List.set_cons_zero, List.set_cons_succ]
  refine takes_still rfl (.pointer (some ⟨fb, 0, none⟩)) (fun w _ => by go_simp) ?_
  simp only [Act.put, List.setIfInBounds_toArray, List.set_cons_zero, List.set_cons_succ]
  refine takes_still rfl (.pointer (some ⟨fb, 0, none⟩)) (fun w _ => by go_simp) ?_
  simp only [Act.put, List.setIfInBounds_toArray, List.set_cons_zero, List.set_cons_succ]
  refine takes_load1 rfl _ _ rfl ⟨fb, 0, none⟩ rfl _ (load_int _ _) (fun _ h => h.2) ?_
  simp only [Act.put, List.setIfInBounds_toArray, List.set_cons_zero, List.set_cons_succ]
  refine takes_nil ?_
  have B0 : Below W0.heap.size W0 W0.drew := (Below.refl _ W0).drew
  have SB0 : W0.drew.cell? ⟨fb, 2, none⟩ = some (.slice ao L.length cap) ∧ W0.drew.cell? ⟨fb, 0, none⟩ = some (.int .i64 (n : Int)) := ⟨(HS.out _ B0).1.c2, (HS.out _ B0).1.c0⟩
  refine wpG_take1 (i := 10) (oi := { dst := some 31, op := Op.move (Operand.tmp 0), type := 141, pos := "normal.go:42", after := #[], guard := none }) (v := (.pointer (some ⟨fb, 0, none⟩))) rfl (by kernel_rfl) (fun _ _ _ h => h) (.inl ⟨by rfl, fun w h => by have h2 := h.2; clear h; go_simp⟩) SB0 ?_
  simp only [Act.put, List.setIfInBounds_toArray, List.set_cons_zero, List.set_cons_succ]
  refine wpG_take1 (i := 11) (oi := { dst := some 32, op := Op.nilCheck (Operand.tmp 31), type := 0, pos := "normal.go:42", after := #[{ on := 10, ground := Ground.data }], guard := none }) (v := (.pointer (some ⟨fb, 0, none⟩))) rfl (by kernel_rfl) (fun _ _ _ h => h) (.inl ⟨by rfl, fun w h => by have h2 := h.2; clear h; go_simp⟩) SB0 ?_
  simp only [Act.put, List.setIfInBounds_toArray, List.set_cons_zero, List.set_cons_succ]
  refine wpG_take1 (i := 12) (oi := { dst := some 33, op := Op.fieldAddr 105 (Operand.tmp 32) 0, type := 0, pos := "normal.go:42", after := #[{ on := 11, ground := Ground.data }], guard := none }) (v := (.pointer (some ⟨fb, 0, none⟩))) rfl (by kernel_rfl) (fun _ _ _ h => h) (.inl ⟨by rfl, fun w h => by have h2 := h.2; clear h; go_simp⟩) SB0 ?_
  simp only [Act.put, List.setIfInBounds_toArray, List.set_cons_zero, List.set_cons_succ]
  refine wpG_take1 (i := 13) (oi := { dst := some 34, op := Op.load 3 (Operand.tmp 33), type := 3, pos := "normal.go:42", after := #[{ on := 12, ground := Ground.data }], guard := none }) (v := (.int .i64 (n : Int))) rfl (by kernel_rfl) (fun _ _ _ h => h) (.inl ⟨by rfl, fun w h => by have h2 := h.2; clear h; go_simp⟩) SB0 ?_
  simp only [Act.put, List.setIfInBounds_toArray, List.set_cons_zero, List.set_cons_succ]
  refine wpG_take1 (i := 14) (oi := { dst := some 35, op := Op.move (Operand.tmp 1), type := 3, pos := "normal.go:42", after := #[], guard := none }) (v := (.int .i64 q)) rfl (by kernel_rfl) (fun _ _ _ h => h) (.inl ⟨by rfl, fun w h => by have h2 := h.2; clear h; go_simp⟩) SB0 ?_
  simp only [Act.put, List.setIfInBounds_toArray, List.set_cons_zero, List.set_cons_succ]
  refine wpG_take1 (i := 15) (oi := { dst := some 36, op := Op.binOp BinOp.add 3 (Operand.tmp 34) (Operand.tmp 35) 3, type := 3, pos := "normal.go:42", after := #[{ on := 13, ground := Ground.data }, { on := 14, ground := Ground.data }], guard := none }) (v := (.int .i64 ((z : Int) + 1))) rfl (by kernel_rfl) (fun _ _ _ h => h) (.inl ⟨by rfl, fun w h => by have h2 := h.2; clear h; go_simp⟩) SB0 ?_
  simp only [Act.put, List.setIfInBounds_toArray, List.set_cons_zero, List.set_cons_succ]
  clear SB0
  refine wpG_only (i := 9) (oi := { dst := some 30, op := Op.call { callee := Callee.value (Operand.func 135), args := #[Operand.tmp 29], argTypes := #[3] }, type := 108, pos := "normal.go:42", after := #[{ on := 8, ground := Ground.data }], guard := none }) rfl rfl (by kernel_rfl) (fun K hK => wp_call 135 _ _ rfl entDelta (.agg (pl (dl n)).toArray) _ (delta_pl n hn _) (fun W1 hb1 => hK _ _ (fun _ => (have h := (HS.out _ (B0.trans (hb1.mono B0.size))).1; ⟨h.c2, h.c0⟩)) ?_))
  have B1 : Below W0.heap.size W0 W1 := B0.trans (hb1.mono B0.size)
  clear hK K hb1
  simp only [Act.put, List.setIfInBounds_toArray, List.set_cons_zero, List.set_cons_succ]
  refine wpG_only (i := 16) (oi := { dst := some 37, op := Op.call { callee := Callee.value (Operand.func 133), args := #[Operand.tmp 30, Operand.tmp 36], argTypes := #[108, 3] }, type := 108, pos := "normal.go:42", after := #[{ on := 9, ground := Ground.data }, { on := 15, ground := Ground.data }, { on := 9, ground := Ground.chain }], guard := none }) rfl rfl (by kernel_rfl) (fun K hK => wp_call 133 _ _ rfl entSw (.agg (pl ((dl n).pre z)).toArray) _ (swapped_pl (dl n) z (by omega) _) (fun W2 hb2 => hK _ _ (fun _ => (have h := (HS.out _ (B1.trans (hb2.mono B1.size))).1; ⟨h.c2, h.c0⟩)) ?_))
  have B2 : Below W0.heap.size W0 W2 := B1.trans (hb2.mono B1.size)
  clear hK K hb2
  simp only [Act.put, List.setIfInBounds_toArray, List.set_cons_zero, List.set_cons_succ]
  refine wpG_only (i := 17) (oi := { dst := some 38, op := Op.buildSlice 103 1 #[(0, Operand.tmp 37)], type := 103, pos := "normal.go:42", after := #[{ on := 16, ground := Ground.data }], guard := none }) rfl rfl (by kernel_rfl) (fun K hK => wp_build1 37 rfl ((dl n).pre z) rfl (fun g W3 e3 r3 z3 hb3 => hK _ _ (fun _ => (have h := (HS.out _ (B2.trans (hb3.mono B2.size))).1; ⟨h.c2, h.c0⟩)) ?_))
  have B3 : Below W0.heap.size W0 W3 := B2.trans (hb3.mono B2.size)
  clear hK K hb3 e3
  simp only [Act.put, List.setIfInBounds_toArray, List.set_cons_zero, List.set_cons_succ]
  have N3 := (HS.out _ B3).1
  refine wpG_only (i := 18) (oi := { dst := some 39, op := Op.call { callee := Callee.builtin Builtin.append, args := #[Operand.tmp 25, Operand.tmp 38], argTypes := #[103, 103] }, type := 103, pos := "normal.go:42", after := #[{ on := 4, ground := Ground.data }, { on := 17, ground := Ground.data }, { on := 16, ground := Ground.chain }], guard := none }) rfl rfl (by kernel_rfl) (fun K hK => wp_append_fac (.tmp 25) (.tmp 38) rfl N3.fr (by omega) (by have := B3.size; omega) ((dl n).pre z) g 1 r3 rfl rfl (fun ao' cap' W4 hf4 hb4 => hK _ _ (fun _ => ?_) ?_))
  · exact ⟨(hb4.cell (p := ⟨fb, 2, none⟩) (Nat.lt_succ_self fb)).trans N3.c2, (hb4.cell (p := ⟨fb, 0, none⟩) (Nat.lt_succ_self fb)).trans N3.c0⟩
  clear hK K
  simp only [Act.put, List.setIfInBounds_toArray, List.set_cons_zero, List.set_cons_succ]
  have c24 := (hb4.cell (p := ⟨fb, 2, none⟩) (Nat.lt_succ_self fb)).trans N3.c2
  have c04 := (hb4.cell (p := ⟨fb, 0, none⟩) (Nat.lt_succ_self fb)).trans N3.c0
  have f24 := (hb4.frozen (p := ⟨fb, 2, none⟩) (Nat.lt_succ_self fb)).trans N3.f2
  refine wpG_only (i := 19) (oi := { dst := some 40, op := Op.nilCheck (Operand.tmp 21), type := 0, pos := "normal.go:42", after := #[{ on := 0, ground := Ground.data }, { on := 0, ground := Ground.phase }, { on := 1, ground := Ground.phase }, { on := 2, ground := Ground.phase }, { on := 3, ground := Ground.phase }, { on := 4, ground := Ground.phase }, { on := 5, ground := Ground.phase }, { on := 6, ground := Ground.phase }, { on := 7, ground := Ground.phase }, { on := 8, ground := Ground.phase }, { on := 9, ground := Ground.phase }, { on := 10, ground := Ground.phase }, { on := 11, ground := Ground.phase }, { on := 12, ground := Ground.phase }, { on := 13, ground := Ground.phase }, { on := 14, ground := Ground.phase }, { on := 15, ground := Ground.phase }, { on := 16, ground := Ground.phase }, { on := 17, ground := Ground.phase }, { on := 18, ground := Ground.phase }], guard := none }) rfl rfl (by kernel_rfl) (fun K hK => wp_still (.pointer (some ⟨fb, 0, none⟩)) (by go_simp) (hK _ _ (fun _ => ⟨c24, c04⟩) ?_))
  clear hK K
  simp only [Act.put, List.setIfInBounds_toArray, List.set_cons_zero, List.set_cons_succ]
  refine wpG_only (i := 20) (oi := { dst := some 41, op := Op.fieldAddr 105 (Operand.tmp 40) 2, type := 0, pos := "normal.go:42", after := #[{ on := 19, ground := Ground.data }, { on := 0, ground := Ground.phase }, { on := 1, ground := Ground.phase }, { on := 2, ground := Ground.phase }, { on := 3, ground := Ground.phase }, { on := 4, ground := Ground.phase }, { on := 5, ground := Ground.phase }, { on := 6, ground := Ground.phase }, { on := 7, ground := Ground.phase }, { on := 8, ground := Ground.phase }, { on := 9, ground := Ground.phase }, { on := 10, ground := Ground.phase }, { on := 11, ground := Ground.phase }, { on := 12, ground := Ground.phase }, { on := 13, ground := Ground.phase }, { on := 14, ground := Ground.phase }, { on := 15, ground := Ground.phase }, { on := 16, ground := Ground.phase }, { on := 17, ground := Ground.phase }, { on := 18, ground := Ground.phase }], guard := none }) rfl rfl (by kernel_rfl) (fun K hK => wp_still (.pointer (some ⟨fb, 2, none⟩)) (by go_simp) (hK _ _ (fun _ => ⟨c24, c04⟩) ?_))
  clear hK K
  simp only [Act.put, List.setIfInBounds_toArray, List.set_cons_zero, List.set_cons_succ]
  have N5 := N3.header hb4 hf4 (L.length + 1) (by simp)
  refine wpG_only (i := 21) (oi := { dst := none, op := Op.store 103 (Operand.tmp 41) (Operand.tmp 39), type := 0, pos := "normal.go:42", after := #[{ on := 20, ground := Ground.data }, { on := 18, ground := Ground.data }, { on := 18, ground := Ground.chain }, { on := 0, ground := Ground.phase }, { on := 1, ground := Ground.phase }, { on := 2, ground := Ground.phase }, { on := 3, ground := Ground.phase }, { on := 4, ground := Ground.phase }, { on := 5, ground := Ground.phase }, { on := 6, ground := Ground.phase }, { on := 7, ground := Ground.phase }, { on := 8, ground := Ground.phase }, { on := 9, ground := Ground.phase }, { on := 10, ground := Ground.phase }, { on := 11, ground := Ground.phase }, { on := 12, ground := Ground.phase }, { on := 13, ground := Ground.phase }, { on := 14, ground := Ground.phase }, { on := 15, ground := Ground.phase }, { on := 16, ground := Ground.phase }, { on := 17, ground := Ground.phase }, { on := 18, ground := Ground.phase }], guard := none }) rfl rfl (by kernel_rfl) (fun K hK => wp_store1 _ (.tmp 41) (.tmp 39) rfl ⟨fb, 2, none⟩ (.slice ao' (L.length + 1) cap') rfl rfl (store_fac _ _ _ (ao', _, _) () c24 f24) (hK _ _ (fun h => absurd rfl h) ?_))
  clear hK K
  simp only [Act.put]
  refine wpG_done (by kernel_rfl) ?_ _
  have B5 : Below fb w (W4.setCell ⟨fb, 2, none⟩ (.slice ao' (L.length + 1) cap')) := BW0.trans (((B3.mono (Nat.le_of_lt hfz)).trans (hb4.mono (Nat.le_succ fb))).setCell (p := ⟨fb, 2, none⟩) (Nat.le_refl _) _)
  obtain ⟨W5, hW5⟩ : ∃ W, W = W4.setCell ⟨fb, 2, none⟩ (.slice ao' (L.length + 1) cap') := ⟨_, rfl⟩
  rw [← hW5] at N5 B5 ⊢
  clear hW5 c24 c04 f24 N3 B0 B1 B2 B3 hf4 hb4 r3 z3 BW0 hfz HS hwi
  go_wp2_with fail
  have hRin : AllIn n L.reverse := fun y hy => hi y (by simpa using hy)
  refine (pushLeft_any fb n p ao' cap' L.reverse ((dl n).pre z) W5 hn hRin ((dl_in n).pre hz) (by simp; omega) (by simpa using N5)).mono ?_
  rintro e W6 ⟨rfl, N6, B6⟩
  have hStl : (pushR n L.reverse ((dl n).pre z) []).length = L.length + 1 := by
    have h1 := pushR_len n L.reverse ((dl n).pre z) []
    simpa using h1
  have hMin := pushR_in hRin ((dl_in n).pre hz) (acc := []) (fun y hy => by simp at hy)
  obtain ⟨M, hM⟩ : ∃ M, M = pushR n L.reverse ((dl n).pre z) [] := ⟨_, rfl⟩
  rw [← hM] at N6 hStl hMin
  have HM := Lib.hid hM
  have B7 : Below fb w W6 := B5.trans B6
  clear hM N5 B5 B6
  obtain ⟨y, hy⟩ : ∃ y, M[L.length]? = some y := ⟨_, List.getElem?_eq_getElem (by omega)⟩
  have hyin := hMin y (List.mem_of_getElem? hy)
  obtain ⟨b, off, rfl, hBb, hsb, hry, _⟩ := N6.fr.at hy
  have hcM := N6.c2
  have hle6 := N6.fr.le
  rw [hStl] at hcM hle6
  have hw1 : IntKind.i64.wrap (((L.length + 1 : Nat) : Int) - 1) = (L.length : Int) := num_in (by omega) (by omega)
  have hw2 : IntKind.i64.wrap ((L.length : Int) + 1 - 1) = (L.length : Int) := num_in (by omega) (by omega)
  have hw3 : IntKind.i64.wrap (L.length : Int) = (L.length : Int) := num_in rfl (by omega)
  have l0 : (0 : Int) ≤ (L.length : Int) := by omega
  have l1 : (L.length : Int) < (L.length : Int) + 1 := by omega
  go_wp2_with fail
  have hz6 := N6.sz
  have HN6 := Lib.hid N6
  clear N6
  by_cases hyi : y = idP
  · have heq := fun w => eql_pl idP idP (idP_in 12) ((idP_in 12)) w (d := true) ⟨fun _ => rfl, fun _ => rfl⟩
    refine wp_region_quiet (C := fun w' => Below W6.heap.size W6 w') (by kernel_rfl) (by kernel_rfl) (Below.refl _ W6).drew ?_
    dsimp only
    refine quiet_still rfl (.pointer (some ⟨fb, 0, none⟩)) (fun w _ => by go_simp) ?_
    simp only [Act.put, List.setIfInBounds_toArray, List.set_cons_zero, List.set_cons_succ]
    refine quiet_still rfl (.pointer (some ⟨fb, 0, none⟩)) (fun w _ => by go_simp) ?_
    simp only [Act.put, List.setIfInBounds_toArray, List.set_cons_zero, List.set_cons_succ]
    refine quiet_still rfl (.pointer (some ⟨fb, 2, none⟩)) (fun w _ => by go_simp) ?_
    simp only [Act.put, List.setIfInBounds_toArray, List.set_cons_zero, List.set_cons_succ]
    refine quiet_load1 rfl _ _ rfl ⟨fb, 2, none⟩ rfl (.slice (some ⟨b, off, none⟩) (L.length + 1) cap') (load_fac _ _) (fun _ h => (h.cell (p := ⟨fb, 2, none⟩) hz6).trans hcM) ?_
    simp only [Act.put, List.setIfInBounds_toArray, List.set_cons_zero, List.set_cons_succ]
    refine quiet_still rfl (.int .i64 (L.length : Int)) (fun w _ => by go_simp) ?_
    simp only [Act.put, List.setIfInBounds_toArray, List.set_cons_zero, List.set_cons_succ]
    refine quiet_still rfl (.pointer (some ⟨b, off + L.length * 12, none⟩)) (fun w _ => by go_simp) ?_
    simp only [Act.put, List.setIfInBounds_toArray, List.set_cons_zero, List.set_cons_succ]
    refine quiet_load_mid rfl 108 (.tmp 55) rfl b (off + L.length * 12) rfl (pl y) _ (fun _ h => range_below hry h hsb) Tryz.underlying108 hd59 (hi59L _) ?_
    simp only [Act.put, List.setIfInBounds_toArray, List.set_cons_zero, List.set_cons_succ]
    refine quiet_call rfl 132 [] _ rfl entFlat (.agg (pl idP).toArray) (fun wc h => (flat_pl wc).mono fun e w' ⟨he, hb⟩ => ⟨he, h.trans (hb.mono h.size)⟩) ?_
    simp only [Act.put, List.setIfInBounds_toArray, List.set_cons_zero, List.set_cons_succ]
    refine quiet_still rfl (.bool true) (fun w _ => by go_simp) ?_
    simp only [Act.put, List.setIfInBounds_toArray, List.set_cons_zero, List.set_cons_succ]
    refine wpQuiet_nil fun U bu => ?_
    have NU := HN6.out.below bu
    have BU : Below fb w U := B7.trans (bu.mono (Nat.le_of_lt hz6))
    clear bu
    have hcU := NU.c2
    rw [hStl] at hcU
    have hfU := NU.f2
    have Nd := NU.cut M.dropLast (by rw [List.length_dropLast]; omega) (fun k a hk => by rw [List.getElem?_dropLast] at hk; split at hk; exact hk; cases hk) L.length (by rw [List.length_dropLast]; omega)
    have Bd := BU.setCell (p := ⟨fb, 2, none⟩) (Nat.le_refl _) (.slice (some ⟨b, off, none⟩) L.length cap')
    have lc : (L.length : Int) ≤ (cap' : Int) := by omega
    have HNd := Lib.hid Nd
    have HBd := Lib.hid Bd
    clear Nd Bd NU
    go_wp2_with fail
    obtain ⟨X, hX⟩ : ∃ X, X = U.setCell ⟨fb, 2, none⟩ (.slice (some ⟨b, off, none⟩) L.length cap') := ⟨_, rfl⟩
    have NX := HNd.out
    have BX := HBd.out
    rw [← hX] at NX BX ⊢
    clear hX HNd HBd hcU hfU
    have lD : (M.dropLast).length = L.length := by rw [List.length_dropLast]; omega
    have hcX := NX.c2
    obtain ⟨m, hm⟩ : ∃ m : Nat, m = L.length := ⟨_, rfl⟩
    have hmc : m ≤ cap' := by omega
    rw [← hm] at lD
    rw [lD] at hcX
    have Hm := Lib.hid hm
    clear hm heq hry hcM hw1 hw2 hw3 l0 l1
    have hc0X := NX.c0
    have hzX := NX.sz
    have hdf : dropFlat n M = M.dropLast := by rw [dropFlat_of hStl hy]; rw [if_pos ((eqB_iff hyin (idP_in n)).2 hyi)]
    by_cases hl0 : m = 0
    · subst hl0
      refine wp_region_quiet (C := fun w' => Below X.heap.size X w') (by kernel_rfl) (by kernel_rfl) (Below.refl _ X).drew ?_
      dsimp only
      refine quiet_still rfl (.pointer (some ⟨fb, 0, none⟩)) (fun w _ => by go_simp) ?_
      simp only [Act.put, List.setIfInBounds_toArray, List.set_cons_zero, List.set_cons_succ]
      refine quiet_still rfl (.pointer (some ⟨fb, 0, none⟩)) (fun w _ => by go_simp) ?_
      simp only [Act.put, List.setIfInBounds_toArray, List.set_cons_zero, List.set_cons_succ]
      refine quiet_still rfl (.pointer (some ⟨fb, 2, none⟩)) (fun w _ => by go_simp) ?_
      simp only [Act.put, List.setIfInBounds_toArray, List.set_cons_zero, List.set_cons_succ]
      refine quiet_load1 rfl _ _ rfl ⟨fb, 2, none⟩ rfl (.slice (some ⟨b, off, none⟩) 0 cap') (load_fac _ _) (fun _ h => (h.cell (p := ⟨fb, 2, none⟩) hzX).trans hcX) ?_
      simp only [Act.put, List.setIfInBounds_toArray, List.set_cons_zero, List.set_cons_succ]
      refine quiet_still rfl (.int .i64 0) (fun w _ => by go_simp) ?_
      simp only [Act.put, List.setIfInBounds_toArray, List.set_cons_zero, List.set_cons_succ]
      refine quiet_still rfl (.bool false) (fun w _ => by go_simp) ?_
      simp only [Act.put, List.setIfInBounds_toArray, List.set_cons_zero, List.set_cons_succ]
      refine quiet_moveV rfl (.tmp 73) rfl (.bool false) rfl ?_
      simp only [Act.put, List.setIfInBounds_toArray, List.set_cons_zero, List.set_cons_succ]
      refine quiet_skip (by kernel_rfl) ?_
      simp only [Act.put, List.setIfInBounds_toArray, List.set_cons_zero, List.set_cons_succ]
      refine quiet_skip (by kernel_rfl) ?_
      simp only [Act.put, List.setIfInBounds_toArray, List.set_cons_zero, List.set_cons_succ]
      refine quiet_skip (by kernel_rfl) ?_
      simp only [Act.put, List.setIfInBounds_toArray, List.set_cons_zero, List.set_cons_succ]
      refine quiet_skip (by kernel_rfl) ?_
      simp only [Act.put, List.setIfInBounds_toArray, List.set_cons_zero, List.set_cons_succ]
      refine quiet_skip (by kernel_rfl) ?_
      simp only [Act.put, List.setIfInBounds_toArray, List.set_cons_zero, List.set_cons_succ]
      refine quiet_skip (by kernel_rfl) ?_
      simp only [Act.put, List.setIfInBounds_toArray, List.set_cons_zero, List.set_cons_succ]
      refine quiet_skip (by kernel_rfl) ?_
      simp only [Act.put, List.setIfInBounds_toArray, List.set_cons_zero, List.set_cons_succ]
      refine quiet_skip (by kernel_rfl) ?_
      simp only [Act.put, List.setIfInBounds_toArray, List.set_cons_zero, List.set_cons_succ]
      refine quiet_skip (by kernel_rfl) ?_
      simp only [Act.put, List.setIfInBounds_toArray, List.set_cons_zero, List.set_cons_succ]
      refine quiet_skip (by kernel_rfl) ?_
      simp only [Act.put, List.setIfInBounds_toArray, List.set_cons_zero, List.set_cons_succ]
      refine quiet_skip (by kernel_rfl) ?_
      simp only [Act.put, List.setIfInBounds_toArray, List.set_cons_zero, List.set_cons_succ]
      refine quiet_skip (by kernel_rfl) ?_
      simp only [Act.put, List.setIfInBounds_toArray, List.set_cons_zero, List.set_cons_succ]
      refine quiet_still rfl (.bool false) (fun w _ => by go_simp) ?_
      simp only [Act.put, List.setIfInBounds_toArray, List.set_cons_zero, List.set_cons_succ]
      refine wpQuiet_nil fun V bv => ?_
      have NV := NX.below bv
      have BV : Below fb w V := BX.trans (bv.mono (Nat.le_of_lt hzX))
      clear bv
      go_wp2_with fail
      refine ⟨rfl, .tuple #[], results_none rfl _ _ _, rfl, ⟨some ⟨b, off, none⟩, cap', ?_⟩, BV⟩
      have hst : stepN n q (p0, L0) = (p, M.dropLast) := by
        unfold stepN
        have ez : ((n : Int) + q - 1).toNat = z := by omega
        rw [if_neg (by omega), ez]
        show popDelta n (p0 - 1) (dropFlat n (pushR n (L0.map (tu n)).reverse _ [])) = _
        rw [← HL.out, ← HP.out, ← HM.out, hdf]
        have : M.dropLast = [] := List.eq_nil_of_length_eq_zero (by omega)
        rw [this]
        rfl
      rw [hst]
      exact NV
    · have hln : (0 : Int) < (m : Int) := by omega
      obtain ⟨x0, hh⟩ : ∃ x0, (M.dropLast)[0]? = some x0 := ⟨_, List.getElem?_eq_getElem (by omega)⟩
      have hhin : x0.In n := hMin x0 (List.dropLast_subset M (List.mem_of_getElem? hh))
      have hr0 : X.rangeAt b off (pl x0) := by
        obtain ⟨b', off', e', _, hs', hr', _⟩ := NX.fr.at hh
        cases e'
        simpa using hr'
      have hsb' : b < X.heap.size := by
        obtain ⟨b', off', e', _, hs', hr', _⟩ := NX.fr.at hh
        cases e'
        exact hs'
      by_cases hd : x0 = dl n
      · have heq2 := fun w => eql_pl (dl n) (dl n) ((dl_in n).more hn) ((dl_in n).more hn) w (d := true) ⟨fun _ => rfl, fun _ => rfl⟩
        refine wp_region_quiet (C := fun w' => Below X.heap.size X w') (by kernel_rfl) (by kernel_rfl) (Below.refl _ X).drew ?_
        dsimp only
        refine quiet_still rfl (.pointer (some ⟨fb, 0, none⟩)) (fun w _ => by go_simp) ?_
        simp only [Act.put, List.setIfInBounds_toArray, List.set_cons_zero, List.set_cons_succ]
        refine quiet_still rfl (.pointer (some ⟨fb, 0, none⟩)) (fun w _ => by go_simp) ?_
        simp only [Act.put, List.setIfInBounds_toArray, List.set_cons_zero, List.set_cons_succ]
        refine quiet_still rfl (.pointer (some ⟨fb, 2, none⟩)) (fun w _ => by go_simp) ?_
        simp only [Act.put, List.setIfInBounds_toArray, List.set_cons_zero, List.set_cons_succ]
        refine quiet_load1 rfl _ _ rfl ⟨fb, 2, none⟩ rfl (.slice (some ⟨b, off, none⟩) m cap') (load_fac _ _) (fun _ h => (h.cell (p := ⟨fb, 2, none⟩) hzX).trans hcX) ?_
        simp only [Act.put, List.setIfInBounds_toArray, List.set_cons_zero, List.set_cons_succ]
        refine quiet_still rfl (.int .i64 (m : Int)) (fun w _ => by go_simp) ?_
        simp only [Act.put, List.setIfInBounds_toArray, List.set_cons_zero, List.set_cons_succ]
        refine quiet_still rfl (.bool true) (fun w _ => by go_simp <;> omega) ?_
        simp only [Act.put, List.setIfInBounds_toArray, List.set_cons_zero, List.set_cons_succ]
        refine quiet_moveV rfl (.tmp 73) rfl (.bool true) rfl ?_
        simp only [Act.put, List.setIfInBounds_toArray, List.set_cons_zero, List.set_cons_succ]
        refine quietW_still (by kernel_rfl) (.pointer (some ⟨fb, 0, none⟩)) (fun w _ => by go_simp) ?_
        simp only [Act.put, List.setIfInBounds_toArray, List.set_cons_zero, List.set_cons_succ]
        refine quietW_still (by kernel_rfl) (.pointer (some ⟨fb, 0, none⟩)) (fun w _ => by go_simp) ?_
        simp only [Act.put, List.setIfInBounds_toArray, List.set_cons_zero, List.set_cons_succ]
        refine quietW_still (by kernel_rfl) (.pointer (some ⟨fb, 2, none⟩)) (fun w _ => by go_simp) ?_
        simp only [Act.put, List.setIfInBounds_toArray, List.set_cons_zero, List.set_cons_succ]
        refine quietW_load1 (by kernel_rfl) _ _ rfl ⟨fb, 2, none⟩ rfl (.slice (some ⟨b, off, none⟩) m cap') (load_fac _ _) (fun _ h => (h.cell (p := ⟨fb, 2, none⟩) hzX).trans hcX) ?_
        simp only [Act.put, List.setIfInBounds_toArray, List.set_cons_zero, List.set_cons_succ]
        refine quietW_still (by kernel_rfl) (.pointer (some ⟨b, off, none⟩)) (fun w _ => by go_simp <;> first | omega | (intro h'; omega)) ?_
        simp only [Act.put, List.setIfInBounds_toArray, List.set_cons_zero, List.set_cons_succ]
        refine quietW_load_mid (by kernel_rfl) 108 (.tmp 79) rfl b off rfl (pl x0) _ (fun _ h' => range_below hr0 h' hsb') Tryz.underlying108 hd59 (hi59L _) ?_
        simp only [Act.put, List.setIfInBounds_toArray, List.set_cons_zero, List.set_cons_succ]
        refine quietW_still (by kernel_rfl) (.pointer (some ⟨fb, 0, none⟩)) (fun w _ => by go_simp) ?_
        simp only [Act.put, List.setIfInBounds_toArray, List.set_cons_zero, List.set_cons_succ]
        refine quietW_still (by kernel_rfl) (.pointer (some ⟨fb, 0, none⟩)) (fun w _ => by go_simp) ?_
        simp only [Act.put, List.setIfInBounds_toArray, List.set_cons_zero, List.set_cons_succ]
        refine quietW_still (by kernel_rfl) (.pointer (some ⟨fb, 0, none⟩)) (fun w _ => by go_simp) ?_
        simp only [Act.put, List.setIfInBounds_toArray, List.set_cons_zero, List.set_cons_succ]
        refine quietW_load1 (by kernel_rfl) _ _ rfl ⟨fb, 0, none⟩ rfl (.int .i64 (n : Int)) (load_int _ _) (fun _ h => (h.cell (p := ⟨fb, 0, none⟩) hzX).trans hc0X) ?_
        simp only [Act.put, List.setIfInBounds_toArray, List.set_cons_zero, List.set_cons_succ]
        refine quietW_call (by kernel_rfl) 135 _ _ rfl entDelta (.agg (pl (dl n)).toArray) (fun wc h => (delta_pl n hn wc).mono fun e w' ⟨he, hb⟩ => ⟨he, h.trans (hb.mono h.size)⟩) ?_
        simp only [Act.put, List.setIfInBounds_toArray, List.set_cons_zero, List.set_cons_succ]
        refine quietW_still (by kernel_rfl) (.bool true) (fun w _ => by go_simp) ?_
        simp only [Act.put, List.setIfInBounds_toArray, List.set_cons_zero, List.set_cons_succ]
        refine quiet_still rfl (.bool true) (fun w _ => by go_simp) ?_
        simp only [Act.put, List.setIfInBounds_toArray, List.set_cons_zero, List.set_cons_succ]
        refine wpQuiet_nil fun V bv => ?_
        have NV := NX.below bv
        have BV : Below fb w V := BX.trans (bv.mono (Nat.le_of_lt hzX))
        clear bv
        have hc1V := NV.c1
        have hf1V := NV.f1
        have hwp : IntKind.i64.wrap (p + 1) = p + 1 := IntWalk.i64_in _ (by omega)
        have NP1 := NV.power (p + 1)
        have BP1 := BV.setCell (p := ⟨fb, 1, none⟩) (Nat.le_refl _) (.int .i64 (p + 1))
        have hcP := NP1.c2
        have hfP := NP1.f2
        rw [lD] at hcP
        have lc1 : (1 : Int) ≤ (m : Int) := by omega
        have lc2 : (m : Int) ≤ (cap' : Int) := by omega
        clear NV BV
        have HNP := Lib.hid NP1
        have HBP := Lib.hid BP1
        clear NP1 BP1
        have NR := fun ao hao => HNP.out.rest (by omega) (m - 1) (by omega) ao hao
        have BR := fun v => HBP.out.setCell (p := ⟨fb, 2, none⟩) (Nat.le_refl _) v
        have hst : stepN n q (p0, L0) = (p + 1, (M.dropLast).tail) := by
          unfold stepN
          have ez : ((n : Int) + q - 1).toNat = z := by omega
          rw [if_neg (by omega), ez]
          show popDelta n (p0 - 1) (dropFlat n (pushR n (L0.map (tu n)).reverse _ [])) = _
          rw [← HL.out, ← HP.out, ← HM.out, hdf]
          rw [popDelta_of hh, if_pos ((eqB_iff hhin (dl_in n)).2 hd)]
        have Hst := Lib.hid hst
        clear hst
        go_wp2_with fail
        · subst h
          refine ⟨rfl, .tuple #[], results_none rfl _ _ _, rfl, ⟨some ⟨b, off, none⟩, 1 - 1, ?_⟩, BR _⟩
          rw [Hst.out]
          exact NR (some ⟨b, off, none⟩) (fun hc => by omega)
        · refine ⟨rfl, .tuple #[], results_none rfl _ _ _, rfl, ⟨some ⟨b, off + 12, none⟩, cap' - 1, ?_⟩, BR _⟩
          rw [Hst.out]
          exact NR (some ⟨b, off + 12, none⟩) (fun _ => rfl)
      · have heq2 := fun w => eql_pl x0 (dl n) (hhin.more hn) ((dl_in n).more hn) w (d := false) ⟨fun h' => (by cases h'), fun h' => absurd h' hd⟩
        refine wp_region_quiet (C := fun w' => Below X.heap.size X w') (by kernel_rfl) (by kernel_rfl) (Below.refl _ X).drew ?_
        dsimp only
        refine quiet_still rfl (.pointer (some ⟨fb, 0, none⟩)) (fun w _ => by go_simp) ?_
        simp only [Act.put, List.setIfInBounds_toArray, List.set_cons_zero, List.set_cons_succ]
        refine quiet_still rfl (.pointer (some ⟨fb, 0, none⟩)) (fun w _ => by go_simp) ?_
        simp only [Act.put, List.setIfInBounds_toArray, List.set_cons_zero, List.set_cons_succ]
        refine quiet_still rfl (.pointer (some ⟨fb, 2, none⟩)) (fun w _ => by go_simp) ?_
        simp only [Act.put, List.setIfInBounds_toArray, List.set_cons_zero, List.set_cons_succ]
        refine quiet_load1 rfl _ _ rfl ⟨fb, 2, none⟩ rfl (.slice (some ⟨b, off, none⟩) m cap') (load_fac _ _) (fun _ h => (h.cell (p := ⟨fb, 2, none⟩) hzX).trans hcX) ?_
        simp only [Act.put, List.setIfInBounds_toArray, List.set_cons_zero, List.set_cons_succ]
        refine quiet_still rfl (.int .i64 (m : Int)) (fun w _ => by go_simp) ?_
        simp only [Act.put, List.setIfInBounds_toArray, List.set_cons_zero, List.set_cons_succ]
        refine quiet_still rfl (.bool true) (fun w _ => by go_simp <;> omega) ?_
        simp only [Act.put, List.setIfInBounds_toArray, List.set_cons_zero, List.set_cons_succ]
        refine quiet_moveV rfl (.tmp 73) rfl (.bool true) rfl ?_
        simp only [Act.put, List.setIfInBounds_toArray, List.set_cons_zero, List.set_cons_succ]
        refine quietW_still (by kernel_rfl) (.pointer (some ⟨fb, 0, none⟩)) (fun w _ => by go_simp) ?_
        simp only [Act.put, List.setIfInBounds_toArray, List.set_cons_zero, List.set_cons_succ]
        refine quietW_still (by kernel_rfl) (.pointer (some ⟨fb, 0, none⟩)) (fun w _ => by go_simp) ?_
        simp only [Act.put, List.setIfInBounds_toArray, List.set_cons_zero, List.set_cons_succ]
        refine quietW_still (by kernel_rfl) (.pointer (some ⟨fb, 2, none⟩)) (fun w _ => by go_simp) ?_
        simp only [Act.put, List.setIfInBounds_toArray, List.set_cons_zero, List.set_cons_succ]
        refine quietW_load1 (by kernel_rfl) _ _ rfl ⟨fb, 2, none⟩ rfl (.slice (some ⟨b, off, none⟩) m cap') (load_fac _ _) (fun _ h => (h.cell (p := ⟨fb, 2, none⟩) hzX).trans hcX) ?_
        simp only [Act.put, List.setIfInBounds_toArray, List.set_cons_zero, List.set_cons_succ]
        refine quietW_still (by kernel_rfl) (.pointer (some ⟨b, off, none⟩)) (fun w _ => by go_simp <;> first | omega | (intro h'; omega)) ?_
        simp only [Act.put, List.setIfInBounds_toArray, List.set_cons_zero, List.set_cons_succ]
        refine quietW_load_mid (by kernel_rfl) 108 (.tmp 79) rfl b off rfl (pl x0) _ (fun _ h' => range_below hr0 h' hsb') Tryz.underlying108 hd59 (hi59L _) ?_
        simp only [Act.put, List.setIfInBounds_toArray, List.set_cons_zero, List.set_cons_succ]
        refine quietW_still (by kernel_rfl) (.pointer (some ⟨fb, 0, none⟩)) (fun w _ => by go_simp) ?_
        simp only [Act.put, List.setIfInBounds_toArray, List.set_cons_zero, List.set_cons_succ]
        refine quietW_still (by kernel_rfl) (.pointer (some ⟨fb, 0, none⟩)) (fun w _ => by go_simp) ?_
        simp only [Act.put, List.setIfInBounds_toArray, List.set_cons_zero, List.set_cons_succ]
        refine quietW_still (by kernel_rfl) (.pointer (some ⟨fb, 0, none⟩)) (fun w _ => by go_simp) ?_
        simp only [Act.put, List.setIfInBounds_toArray, List.set_cons_zero, List.set_cons_succ]
        refine quietW_load1 (by kernel_rfl) _ _ rfl ⟨fb, 0, none⟩ rfl (.int .i64 (n : Int)) (load_int _ _) (fun _ h => (h.cell (p := ⟨fb, 0, none⟩) hzX).trans hc0X) ?_
        simp only [Act.put, List.setIfInBounds_toArray, List.set_cons_zero, List.set_cons_succ]
        refine quietW_call (by kernel_rfl) 135 _ _ rfl entDelta (.agg (pl (dl n)).toArray) (fun wc h => (delta_pl n hn wc).mono fun e w' ⟨he, hb⟩ => ⟨he, h.trans (hb.mono h.size)⟩) ?_
        simp only [Act.put, List.setIfInBounds_toArray, List.set_cons_zero, List.set_cons_succ]
        refine quietW_still (by kernel_rfl) (.bool false) (fun w _ => by go_simp) ?_
        simp only [Act.put, List.setIfInBounds_toArray, List.set_cons_zero, List.set_cons_succ]
        refine quiet_still rfl (.bool false) (fun w _ => by go_simp) ?_
        simp only [Act.put, List.setIfInBounds_toArray, List.set_cons_zero, List.set_cons_succ]
        refine wpQuiet_nil fun V bv => ?_
        have NV := NX.below bv
        have BV : Below fb w V := BX.trans (bv.mono (Nat.le_of_lt hzX))
        clear bv
        go_wp2_with fail
        refine ⟨rfl, .tuple #[], results_none rfl _ _ _, rfl, ⟨some ⟨b, off, none⟩, cap', ?_⟩, BV⟩
        have hst : stepN n q (p0, L0) = (p, M.dropLast) := by
          unfold stepN
          have ez : ((n : Int) + q - 1).toNat = z := by omega
          rw [if_neg (by omega), ez]
          show popDelta n (p0 - 1) (dropFlat n (pushR n (L0.map (tu n)).reverse _ [])) = _
          rw [← HL.out, ← HP.out, ← HM.out, hdf]
          rw [popDelta_of hh, if_neg (fun h' => hd ((eqB_iff hhin (dl_in n)).1 h'))]
        rw [hst]
        exact NV
  · have heq := fun w => eql_pl y idP (hyin.more hn) ((idP_in 12)) w (d := false) ⟨fun h => (by cases h), fun h => absurd h hyi⟩
    refine wp_region_quiet (C := fun w' => Below W6.heap.size W6 w') (by kernel_rfl) (by kernel_rfl) (Below.refl _ W6).drew ?_
    dsimp only
    refine quiet_still rfl (.pointer (some ⟨fb, 0, none⟩)) (fun w _ => by go_simp) ?_
    simp only [Act.put, List.setIfInBounds_toArray, List.set_cons_zero, List.set_cons_succ]
    refine quiet_still rfl (.pointer (some ⟨fb, 0, none⟩)) (fun w _ => by go_simp) ?_
    simp only [Act.put, List.setIfInBounds_toArray, List.set_cons_zero, List.set_cons_succ]
    refine quiet_still rfl (.pointer (some ⟨fb, 2, none⟩)) (fun w _ => by go_simp) ?_
    simp only [Act.put, List.setIfInBounds_toArray, List.set_cons_zero, List.set_cons_succ]
    refine quiet_load1 rfl _ _ rfl ⟨fb, 2, none⟩ rfl (.slice (some ⟨b, off, none⟩) (L.length + 1) cap') (load_fac _ _) (fun _ h => (h.cell (p := ⟨fb, 2, none⟩) hz6).trans hcM) ?_
    simp only [Act.put, List.setIfInBounds_toArray, List.set_cons_zero, List.set_cons_succ]
    refine quiet_still rfl (.int .i64 (L.length : Int)) (fun w _ => by go_simp) ?_
    simp only [Act.put, List.setIfInBounds_toArray, List.set_cons_zero, List.set_cons_succ]
    refine quiet_still rfl (.pointer (some ⟨b, off + L.length * 12, none⟩)) (fun w _ => by go_simp) ?_
    simp only [Act.put, List.setIfInBounds_toArray, List.set_cons_zero, List.set_cons_succ]
    refine quiet_load_mid rfl 108 (.tmp 55) rfl b (off + L.length * 12) rfl (pl y) _ (fun _ h => range_below hry h hsb) Tryz.underlying108 hd59 (hi59L _) ?_
    simp only [Act.put, List.setIfInBounds_toArray, List.set_cons_zero, List.set_cons_succ]
    refine quiet_call rfl 132 [] _ rfl entFlat (.agg (pl idP).toArray) (fun wc h => (flat_pl wc).mono fun e w' ⟨he, hb⟩ => ⟨he, h.trans (hb.mono h.size)⟩) ?_
    simp only [Act.put, List.setIfInBounds_toArray, List.set_cons_zero, List.set_cons_succ]
    refine quiet_still rfl (.bool false) (fun w _ => by go_simp) ?_
    simp only [Act.put, List.setIfInBounds_toArray, List.set_cons_zero, List.set_cons_succ]
    refine wpQuiet_nil fun U bu => ?_
    have NU := HN6.out.below bu
    have BU : Below fb w U := B7.trans (bu.mono (Nat.le_of_lt hz6))
    clear bu
    go_wp2_with fail
    have lD : (M).length = (L.length + 1) := by exact hStl
    have hcX := NU.c2
    obtain ⟨m, hm⟩ : ∃ m : Nat, m = (L.length + 1) := ⟨_, rfl⟩
    have hmc : m ≤ cap' := by omega
    rw [← hm] at lD
    rw [lD] at hcX
    have Hm := Lib.hid hm
    clear hm heq hry hcM hw1 hw2 hw3 l0 l1
    have hc0X := NU.c0
    have hzX := NU.sz
    have hdf : dropFlat n M = M := by rw [dropFlat_of hStl hy]; rw [if_neg (fun h => hyi ((eqB_iff hyin (idP_in n)).1 h))]
    have hln : (0 : Int) < (m : Int) := by have := Hm.out; omega
    obtain ⟨x0, hh⟩ : ∃ x0, (M)[0]? = some x0 := ⟨_, List.getElem?_eq_getElem (by omega)⟩
    have hhin : x0.In n := hMin x0 (List.mem_of_getElem? hh)
    have hr0 : U.rangeAt b off (pl x0) := by
      obtain ⟨b', off', e', _, hs', hr', _⟩ := NU.fr.at hh
      cases e'
      simpa using hr'
    have hsb' : b < U.heap.size := by
      obtain ⟨b', off', e', _, hs', hr', _⟩ := NU.fr.at hh
      cases e'
      exact hs'
    by_cases hd : x0 = dl n
    · have heq2 := fun w => eql_pl (dl n) (dl n) ((dl_in n).more hn) ((dl_in n).more hn) w (d := true) ⟨fun _ => rfl, fun _ => rfl⟩
      refine wp_region_quiet (C := fun w' => Below U.heap.size U w') (by kernel_rfl) (by kernel_rfl) (Below.refl _ U).drew ?_
      dsimp only
      refine quiet_still rfl (.pointer (some ⟨fb, 0, none⟩)) (fun w _ => by go_simp) ?_
      simp only [Act.put, List.setIfInBounds_toArray, List.set_cons_zero, List.set_cons_succ]
      refine quiet_still rfl (.pointer (some ⟨fb, 0, none⟩)) (fun w _ => by go_simp) ?_
      simp only [Act.put, List.setIfInBounds_toArray, List.set_cons_zero, List.set_cons_succ]
      refine quiet_still rfl (.pointer (some ⟨fb, 2, none⟩)) (fun w _ => by go_simp) ?_
      simp only [Act.put, List.setIfInBounds_toArray, List.set_cons_zero, List.set_cons_succ]
      refine quiet_load1 rfl _ _ rfl ⟨fb, 2, none⟩ rfl (.slice (some ⟨b, off, none⟩) m cap') (load_fac _ _) (fun _ h => (h.cell (p := ⟨fb, 2, none⟩) hzX).trans hcX) ?_
      simp only [Act.put, List.setIfInBounds_toArray, List.set_cons_zero, List.set_cons_succ]
      refine quiet_still rfl (.int .i64 (m : Int)) (fun w _ => by go_simp) ?_
      simp only [Act.put, List.setIfInBounds_toArray, List.set_cons_zero, List.set_cons_succ]
      refine quiet_still rfl (.bool true) (fun w _ => by go_simp <;> omega) ?_
      simp only [Act.put, List.setIfInBounds_toArray, List.set_cons_zero, List.set_cons_succ]
      refine quiet_moveV rfl (.tmp 73) rfl (.bool true) rfl ?_
      simp only [Act.put, List.setIfInBounds_toArray, List.set_cons_zero, List.set_cons_succ]
      refine quietW_still (by kernel_rfl) (.pointer (some ⟨fb, 0, none⟩)) (fun w _ => by go_simp) ?_
      simp only [Act.put, List.setIfInBounds_toArray, List.set_cons_zero, List.set_cons_succ]
      refine quietW_still (by kernel_rfl) (.pointer (some ⟨fb, 0, none⟩)) (fun w _ => by go_simp) ?_
      simp only [Act.put, List.setIfInBounds_toArray, List.set_cons_zero, List.set_cons_succ]
      refine quietW_still (by kernel_rfl) (.pointer (some ⟨fb, 2, none⟩)) (fun w _ => by go_simp) ?_
      simp only [Act.put, List.setIfInBounds_toArray, List.set_cons_zero, List.set_cons_succ]
      refine quietW_load1 (by kernel_rfl) _ _ rfl ⟨fb, 2, none⟩ rfl (.slice (some ⟨b, off, none⟩) m cap') (load_fac _ _) (fun _ h => (h.cell (p := ⟨fb, 2, none⟩) hzX).trans hcX) ?_
      simp only [Act.put, List.setIfInBounds_toArray, List.set_cons_zero, List.set_cons_succ]
      refine quietW_still (by kernel_rfl) (.pointer (some ⟨b, off, none⟩)) (fun w _ => by go_simp <;> first | omega | (intro h'; omega)) ?_
      simp only [Act.put, List.setIfInBounds_toArray, List.set_cons_zero, List.set_cons_succ]
      refine quietW_load_mid (by kernel_rfl) 108 (.tmp 79) rfl b off rfl (pl x0) _ (fun _ h' => range_below hr0 h' hsb') Tryz.underlying108 hd59 (hi59L _) ?_
      simp only [Act.put, List.setIfInBounds_toArray, List.set_cons_zero, List.set_cons_succ]
      refine quietW_still (by kernel_rfl) (.pointer (some ⟨fb, 0, none⟩)) (fun w _ => by go_simp) ?_
      simp only [Act.put, List.setIfInBounds_toArray, List.set_cons_zero, List.set_cons_succ]
      refine quietW_still (by kernel_rfl) (.pointer (some ⟨fb, 0, none⟩)) (fun w _ => by go_simp) ?_
      simp only [Act.put, List.setIfInBounds_toArray, List.set_cons_zero, List.set_cons_succ]
      refine quietW_still (by kernel_rfl) (.pointer (some ⟨fb, 0, none⟩)) (fun w _ => by go_simp) ?_
      simp only [Act.put, List.setIfInBounds_toArray, List.set_cons_zero, List.set_cons_succ]
      refine quietW_load1 (by kernel_rfl) _ _ rfl ⟨fb, 0, none⟩ rfl (.int .i64 (n : Int)) (load_int _ _) (fun _ h => (h.cell (p := ⟨fb, 0, none⟩) hzX).trans hc0X) ?_
      simp only [Act.put, List.setIfInBounds_toArray, List.set_cons_zero, List.set_cons_succ]
      refine quietW_call (by kernel_rfl) 135 _ _ rfl entDelta (.agg (pl (dl n)).toArray) (fun wc h => (delta_pl n hn wc).mono fun e w' ⟨he, hb⟩ => ⟨he, h.trans (hb.mono h.size)⟩) ?_
      simp only [Act.put, List.setIfInBounds_toArray, List.set_cons_zero, List.set_cons_succ]
      refine quietW_still (by kernel_rfl) (.bool true) (fun w _ => by go_simp) ?_
      simp only [Act.put, List.setIfInBounds_toArray, List.set_cons_zero, List.set_cons_succ]
      refine quiet_still rfl (.bool true) (fun w _ => by go_simp) ?_
      simp only [Act.put, List.setIfInBounds_toArray, List.set_cons_zero, List.set_cons_succ]
      refine wpQuiet_nil fun V bv => ?_
      have NV := NU.below bv
      have BV : Below fb w V := BU.trans (bv.mono (Nat.le_of_lt hzX))
      clear bv
      have hc1V := NV.c1
      have hf1V := NV.f1
      have hwp : IntKind.i64.wrap (p + 1) = p + 1 := IntWalk.i64_in _ (by omega)
      have NP1 := NV.power (p + 1)
      have BP1 := BV.setCell (p := ⟨fb, 1, none⟩) (Nat.le_refl _) (.int .i64 (p + 1))
      have hcP := NP1.c2
      have hfP := NP1.f2
      rw [lD] at hcP
      have lc1 : (1 : Int) ≤ (m : Int) := by omega
      have lc2 : (m : Int) ≤ (cap' : Int) := by omega
      clear NV BV
      have HNP := Lib.hid NP1
      have HBP := Lib.hid BP1
      clear NP1 BP1
      have NR := fun ao hao => HNP.out.rest (by omega) (m - 1) (by omega) ao hao
      have BR := fun v => HBP.out.setCell (p := ⟨fb, 2, none⟩) (Nat.le_refl _) v
      have hst : stepN n q (p0, L0) = (p + 1, (M).tail) := by
        unfold stepN
        have ez : ((n : Int) + q - 1).toNat = z := by omega
        rw [if_neg (by omega), ez]
        show popDelta n (p0 - 1) (dropFlat n (pushR n (L0.map (tu n)).reverse _ [])) = _
        rw [← HL.out, ← HP.out, ← HM.out, hdf]
        rw [popDelta_of hh, if_pos ((eqB_iff hhin (dl_in n)).2 hd)]
      have Hst := Lib.hid hst
      clear hst
      go_wp2_with fail
      · subst h
        refine ⟨rfl, .tuple #[], results_none rfl _ _ _, rfl, ⟨some ⟨b, off, none⟩, 1 - 1, ?_⟩, BR _⟩
        rw [Hst.out]
        exact NR (some ⟨b, off, none⟩) (fun hc => by omega)
      · refine ⟨rfl, .tuple #[], results_none rfl _ _ _, rfl, ⟨some ⟨b, off + 12, none⟩, cap' - 1, ?_⟩, BR _⟩
        rw [Hst.out]
        exact NR (some ⟨b, off + 12, none⟩) (fun _ => rfl)
    · have heq2 := fun w => eql_pl x0 (dl n) (hhin.more hn) ((dl_in n).more hn) w (d := false) ⟨fun h' => (by cases h'), fun h' => absurd h' hd⟩
      refine wp_region_quiet (C := fun w' => Below U.heap.size U w') (by kernel_rfl) (by kernel_rfl) (Below.refl _ U).drew ?_
      dsimp only
      refine quiet_still rfl (.pointer (some ⟨fb, 0, none⟩)) (fun w _ => by go_simp) ?_
      simp only [Act.put, List.setIfInBounds_toArray, List.set_cons_zero, List.set_cons_succ]
      refine quiet_still rfl (.pointer (some ⟨fb, 0, none⟩)) (fun w _ => by go_simp) ?_
      simp only [Act.put, List.setIfInBounds_toArray, List.set_cons_zero, List.set_cons_succ]
      refine quiet_still rfl (.pointer (some ⟨fb, 2, none⟩)) (fun w _ => by go_simp) ?_
      simp only [Act.put, List.setIfInBounds_toArray, List.set_cons_zero, List.set_cons_succ]
      refine quiet_load1 rfl _ _ rfl ⟨fb, 2, none⟩ rfl (.slice (some ⟨b, off, none⟩) m cap') (load_fac _ _) (fun _ h => (h.cell (p := ⟨fb, 2, none⟩) hzX).trans hcX) ?_
      simp only [Act.put, List.setIfInBounds_toArray, List.set_cons_zero, List.set_cons_succ]
      refine quiet_still rfl (.int .i64 (m : Int)) (fun w _ => by go_simp) ?_
      simp only [Act.put, List.setIfInBounds_toArray, List.set_cons_zero, List.set_cons_succ]
      refine quiet_still rfl (.bool true) (fun w _ => by go_simp <;> omega) ?_
      simp only [Act.put, List.setIfInBounds_toArray, List.set_cons_zero, List.set_cons_succ]
      refine quiet_moveV rfl (.tmp 73) rfl (.bool true) rfl ?_
      simp only [Act.put, List.setIfInBounds_toArray, List.set_cons_zero, List.set_cons_succ]
      refine quietW_still (by kernel_rfl) (.pointer (some ⟨fb, 0, none⟩)) (fun w _ => by go_simp) ?_
      simp only [Act.put, List.setIfInBounds_toArray, List.set_cons_zero, List.set_cons_succ]
      refine quietW_still (by kernel_rfl) (.pointer (some ⟨fb, 0, none⟩)) (fun w _ => by go_simp) ?_
      simp only [Act.put, List.setIfInBounds_toArray, List.set_cons_zero, List.set_cons_succ]
      refine quietW_still (by kernel_rfl) (.pointer (some ⟨fb, 2, none⟩)) (fun w _ => by go_simp) ?_
      simp only [Act.put, List.setIfInBounds_toArray, List.set_cons_zero, List.set_cons_succ]
      refine quietW_load1 (by kernel_rfl) _ _ rfl ⟨fb, 2, none⟩ rfl (.slice (some ⟨b, off, none⟩) m cap') (load_fac _ _) (fun _ h => (h.cell (p := ⟨fb, 2, none⟩) hzX).trans hcX) ?_
      simp only [Act.put, List.setIfInBounds_toArray, List.set_cons_zero, List.set_cons_succ]
      refine quietW_still (by kernel_rfl) (.pointer (some ⟨b, off, none⟩)) (fun w _ => by go_simp <;> first | omega | (intro h'; omega)) ?_
      simp only [Act.put, List.setIfInBounds_toArray, List.set_cons_zero, List.set_cons_succ]
      refine quietW_load_mid (by kernel_rfl) 108 (.tmp 79) rfl b off rfl (pl x0) _ (fun _ h' => range_below hr0 h' hsb') Tryz.underlying108 hd59 (hi59L _) ?_
      simp only [Act.put, List.setIfInBounds_toArray, List.set_cons_zero, List.set_cons_succ]
      refine quietW_still (by kernel_rfl) (.pointer (some ⟨fb, 0, none⟩)) (fun w _ => by go_simp) ?_
      simp only [Act.put, List.setIfInBounds_toArray, List.set_cons_zero, List.set_cons_succ]
      refine quietW_still (by kernel_rfl) (.pointer (some ⟨fb, 0, none⟩)) (fun w _ => by go_simp) ?_
      simp only [Act.put, List.setIfInBounds_toArray, List.set_cons_zero, List.set_cons_succ]
      refine quietW_still (by kernel_rfl) (.pointer (some ⟨fb, 0, none⟩)) (fun w _ => by go_simp) ?_
      simp only [Act.put, List.setIfInBounds_toArray, List.set_cons_zero, List.set_cons_succ]
      refine quietW_load1 (by kernel_rfl) _ _ rfl ⟨fb, 0, none⟩ rfl (.int .i64 (n : Int)) (load_int _ _) (fun _ h => (h.cell (p := ⟨fb, 0, none⟩) hzX).trans hc0X) ?_
      simp only [Act.put, List.setIfInBounds_toArray, List.set_cons_zero, List.set_cons_succ]
      refine quietW_call (by kernel_rfl) 135 _ _ rfl entDelta (.agg (pl (dl n)).toArray) (fun wc h => (delta_pl n hn wc).mono fun e w' ⟨he, hb⟩ => ⟨he, h.trans (hb.mono h.size)⟩) ?_
      simp only [Act.put, List.setIfInBounds_toArray, List.set_cons_zero, List.set_cons_succ]
      refine quietW_still (by kernel_rfl) (.bool false) (fun w _ => by go_simp) ?_
      simp only [Act.put, List.setIfInBounds_toArray, List.set_cons_zero, List.set_cons_succ]
      refine quiet_still rfl (.bool false) (fun w _ => by go_simp) ?_
      simp only [Act.put, List.setIfInBounds_toArray, List.set_cons_zero, List.set_cons_succ]
      refine wpQuiet_nil fun V bv => ?_
      have NV := NU.below bv
      have BV : Below fb w V := BU.trans (bv.mono (Nat.le_of_lt hzX))
      clear bv
      go_wp2_with fail
      refine ⟨rfl, .tuple #[], results_none rfl _ _ _, rfl, ⟨some ⟨b, off, none⟩, cap', ?_⟩, BV⟩
      have hst : stepN n q (p0, L0) = (p, M) := by
        unfold stepN
        have ez : ((n : Int) + q - 1).toNat = z := by omega
        rw [if_neg (by omega), ez]
        show popDelta n (p0 - 1) (dropFlat n (pushR n (L0.map (tu n)).reverse _ [])) = _
        rw [← HL.out, ← HP.out, ← HM.out, hdf]
        rw [popDelta_of hh, if_neg (fun h' => hd ((eqB_iff hhin (dl_in n)).1 h'))]
      rw [hst]
      exact NV
end Go.Proofs.YtmefpaoakblndaaGreatDoor
