/- Normal walked. -/
import Derived.Test.YtnfppebcpagjpaaBW
namespace Go.Proofs.Ytnfppebcpagjpaa
open Go.RowKit Go.Lib
/-- The list that a permutation is handed out as. -/
def ints (m : Nat) (x : Pm) : List Int := (List.range m).map fun i => (x.f i : Int)
theorem ints_len (m : Nat) (x : Pm) : (ints m x).length = m := by simp [ints]
/-- Rows of ints, one for each factor. -/
def Rows (B m : Nat) (w : World) (fs : List Value) (D : List Pm) : Prop := ∀ (k : Nat) (x : Pm), D[k]? = some x → ∃ u, fs[k]? = some u ∧ w.ownsRow B 3 1 u m ((ints m x).map (Value.int .i64))
theorem infoInts : (Try.prog.info? 22).map (fun i => (i.zero, i.size, i.bytes)) = some (some (.slice none 0 0), 1, 24) := by kernel_rfl
theorem ints_pl {m : Nat} (hm : m ≤ 12) (x : Pm) {j : Nat} {u : Value} (h : ((ints m x).map (Value.int .i64))[j]? = some u) : (pl x)[j]? = some u := by
  have hj := (List.getElem?_eq_some_iff.1 h).1
  rw [List.length_map, ints_len] at hj
  have hj' : j < 12 := by omega
  simp [ints, hj] at h
  simp [pl, hj', h]
theorem own_below {B : Nat} {e : TypeId} {k : Nat} {v : Value} {n : Nat} {xs : List Value} {w w' : World} (h : w.ownsRow B e k v n xs) (hb : Below w.heap.size w w') : w'.ownsRow B e k v n xs :=
  h.kept (row := none) ⟨hb.os, hb.tape, hb.output, hb.size, fun k hk _ => hb.block k hk⟩ (by cases hv : v.ownBlock <;> simp)
theorem own_apart {B B' : Nat} {e e' : TypeId} {k k' n n' : Nat} {v u : Value} {xs ys : List Value} {w : World} (h : w.ownsRow B e k v n xs) (h' : w.ownsRow B' e' k' u n' ys) (hne : e ≠ e') : v.ownBlock = none ∨ v.ownBlock ≠ u.ownBlock := by
  rcases h.2 with ⟨rfl, _⟩ | ⟨g, cap, cur, rfl, _, hg, _⟩
  · exact .inl rfl
  · refine .inr fun hb => ?_
    rcases h'.2 with ⟨rfl, _⟩ | ⟨g', cap', cur', rfl, _, hg', _⟩
    · cases hb
    · simp only [Value.ownBlock, Option.some.injEq] at hb
      subst hb
      rw [hg] at hg'
      simp only [Option.some.injEq, Obj.cells.injEq] at hg'
      exact hne hg'.2.1
theorem own_mono {w : World} {b b' : Nat} {e : TypeId} {size n : Nat} {v : Value} {xs : List Value} (h : w.ownsRow b e size v n xs) (hb : b' ≤ b) : w.ownsRow b' e size v n xs := by
  refine ⟨h.1, ?_⟩
  rcases h.2 with hn | ⟨g, cap, cur, h1, h2, h3⟩
  · exact .inl hn
  · exact .inr ⟨g, cap, cur, h1, Nat.le_trans hb h2, h3⟩
theorem own_one {w : World} {b k : Nat} {e : TypeId} {n : Nat} {v : Value} {xs : List Value} (h : w.ownsRow b e k v n xs) : v.oneCell' = true := by
  rcases h.2 with ⟨rfl, _⟩ | ⟨g, cap, cur, rfl, _⟩
  · rfl
  · rfl
theorem run_slice_arr (W : World) (g m : Nat) (hm : m ≤ 12) : (Instr.sliceAt 71 (.pointer (some ⟨g, 0, none⟩)) none (some (.int .i64 (m : Int))) none).run Try.prog W = .ok (.slice (some ⟨g, 0, none⟩) m 12) W := by
  have h1 : (0 : Int) ≤ (m : Int) := by omega
  have h2 : (m : Int) ≤ 12 := by omega
  go_simp
theorem Rows.below {B m : Nat} {w w' : World} {fs : List Value} {D : List Pm} (h : Rows B m w fs D) (hb : Below w.heap.size w w') : Rows B m w' fs D := fun k x hx => by
  obtain ⟨u, hu, ho⟩ := h k x hx
  exact ⟨u, hu, own_below ho hb⟩
theorem Rows.grown {B B' m n : Nat} {w w' : World} {fs xs : List Value} {D : List Pm} {v : Value} (h : Rows B m w fs D) (hv : w.ownsRow B' 22 1 v n xs) (hg : w.grownBy w' v.ownBlock) : Rows B m w' fs D := fun k x hx => by
  obtain ⟨u, hu, ho⟩ := h k x hx
  exact ⟨u, hu, ho.kept hg (own_apart ho hv (by decide))⟩
theorem Rows.mono {B B' m : Nat} {w : World} {fs : List Value} {D : List Pm} (h : Rows B m w fs D) (hb : B' ≤ B) : Rows B' m w fs D := fun k x hx => by
  obtain ⟨u, hu, ho⟩ := h k x hx
  exact ⟨u, hu, own_mono ho hb⟩
theorem Rows.snoc {B m : Nat} {w : World} {fs : List Value} {D : List Pm} {x : Pm} {u : Value} (h : Rows B m w fs D) (hl : fs.length = D.length) (hu : w.ownsRow B 3 1 u m ((ints m x).map (Value.int .i64))) : Rows B m w (fs ++ [u]) (D ++ [x]) := fun k y hy => by
  rcases Nat.lt_or_ge k D.length with hk | hk
  · rw [List.getElem?_append_left hk] at hy
    obtain ⟨v, hv, ho⟩ := h k y hy
    exact ⟨v, by rw [List.getElem?_append_left (by omega)]; exact hv, ho⟩
  · rw [List.getElem?_append_right hk] at hy
    obtain rfl : k = D.length := by
      rcases Nat.eq_zero_or_pos (k - D.length) with h0 | h0
      · omega
      · rw [List.getElem?_eq_none (by simp; omega)] at hy; cases hy
    simp at hy
    subst hy
    exact ⟨u, by rw [List.getElem?_append_right (by omega), hl]; simp, hu⟩
set_option maxHeartbeats 600000 in
set_option maxRecDepth 100000 in
theorem Normal_any (n : Int) (xs : List Int) (sa : Option Addr) (sc : Nat) (w : World) (hsc : xs.length ≤ sc) (hmx : sc ≤ maxLen) (ha : IntsAt w sa xs) (h : checkV n xs = 0) :
    Calls Try.prog 42 #[.int .i64 n, .slice sa xs.length sc] w fun e w' => ∃ v fs, e = .returned (.tuple #[.int .i64 (nf n.toNat xs).1, v, .int .i64 0]) ∧ w'.ownsRow w.heap.size 22 1 v (nf n.toNat xs).2.length fs ∧ Rows w.heap.size n.toNat w' fs (nf n.toNat xs).2 ∧ Below w.heap.size w w' := by
  obtain ⟨i1, hi, hxx⟩ := Option.map_eq_some_iff.1 infoInts
  simp only [Prod.mk.injEq] at hxx
  obtain ⟨hz0, hz1, hz2⟩ := hxx
  have Ha := Lib.hid ha
  clear ha
  obtain ⟨m, rfl, hm1, hm2, hlx, hwx⟩ := checkV_ok h
  rw [Int.toNat_natCast]
  have CK := Check_any (m : Int) xs sa sc w hsc hmx Ha.out
  rw [h] at CK
  obtain ⟨p, D, hn⟩ : ∃ p D, nf m xs = (p, D) := ⟨_, _, rfl⟩
  have C1 := fun w1 (B1 : Below w.heap.size w w1) => normalOf_any m xs sa sc w1 hm2 hwx (by omega) hsc (Ha.out.below B1)
  have L1 := nf_le xs hwx
  rw [hn] at C1 L1 ⊢
  dsimp only at C1 L1 ⊢
  have HK := Lib.hid CK
  have HC1 := Lib.hid C1
  have HL1 := Lib.hid L1
  have l1 : D.length ≤ 400 := by have := L1.1; omega
  clear CK C1 L1 h hn hwx
  go_enter Try.func42, Try.ntmps42
  go_wp2_with fail
  refine HK.out.mono ?_
  rintro e w1 ⟨rfl, B1⟩
  go_wp2_with fail
  refine (HC1.out w1 B1).mono ?_
  rintro e w2 ⟨ao, ca, F2, B2, rfl⟩
  have HF2 := Lib.hid F2
  have BW2 := Lib.hid (B1.trans (B2.mono B1.size))
  clear F2 HC1 HK B2 B1
  go_wp2_with fail
  obtain ⟨W3, hW3⟩ : ∃ W, W = w2.alloc (.cells #[.int .i64 (m : Int), .int .i64 p, .slice ao D.length ca] 77) := ⟨_, rfl⟩
  have hz3 : W3.heap.size = w2.heap.size + 1 := by rw [hW3]; simp
  have hB3 : Below w2.heap.size w2 W3 := by rw [hW3]; exact below_alloc w2 _
  have hh3 : W3.heap[w2.heap.size]? = some (.cells #[.int .i64 (m : Int), .int .i64 p, .slice ao D.length ca] 77) := by rw [hW3]; exact heap_alloc_new _ _
  have hc1 : W3.cell? ⟨w2.heap.size, 1, none⟩ = some (.int .i64 p) := cell_of_row W3 _ 1 _ _ _ hh3
  rw [← hW3]
  clear hW3 hh3
  have hsz := BW2.out.size
  have HZ3 := Lib.hid hz3
  clear hz3
  have hsl := fun W g => run_slice_arr W g m hm2
  go_loopw [5, 23] (fun f i wr => ∃ (k : Nat) (fs : List Value), k ≤ D.length ∧ i = .int .i64 k ∧ wr.ownsRow W3.heap.size 22 1 f k fs ∧ Rows W3.heap.size m wr fs (D.take k) ∧ Below W3.heap.size W3 wr) (fun _ i _ => D.length - (intOf i).toNat)
  case atStart => exact ⟨0, [], Nat.zero_le _, rfl, World.ownsRow_nil _ _ _ _, fun k x h => by simp at h, Below.refl _ W3⟩
  case round =>
    obtain ⟨k, fs, hk, rfl, hown, hrows, hbw⟩ := hrel
    have Hown := Lib.hid hown
    have Hrows := Lib.hid hrows
    clear hown hrows
    by_cases hkl : k < D.length
    · obtain ⟨x, hx⟩ : ∃ x, D[k]? = some x := ⟨_, List.getElem?_eq_getElem hkl⟩
      obtain ⟨b, off, rfl, _, hs, hr, _⟩ := (HF2.out.below (hB3.trans (hbw.mono hB3.size))).at hx
      have k0 : (0 : Int) ≤ (k : Int) := by omega
      have k1 : (k : Int) < (D.length : Int) := by omega
      go_wp2_with (first
        | (refine wpList_load_mid rfl 71 (.tmp 25) rfl b (off + k * 12) rfl (pl x) _ (by assumption) Try.underlying71 hd59 (hi59L _) ?_)
        | (refine wpList_store_row rfl 71 (.tmp 10) (.tmp 26) rfl wr.heap.size (pl x).toArray rfl rfl 71 _ (heap_alloc_new _ _) (hi59A _) rfl (all_oneCell_toArray (pl_one _)) ?_))
      have hb1 := below_setRow (below_alloc wr (.cells (pcF fun _ => 0) 71)) (Nat.le_refl _) (pl x).toArray
      have hr4 := pl_row (setRow_heap (wr.alloc _) wr.heap.size _ (pl x).toArray 71 _ (heap_alloc_new wr (.cells (pcF fun _ => 0) 71)))
      refine (Clone_any wr.heap.size 0 m 12 (ints m x) _ (ints_len m x) hm2 (fun j u hu => hr4 j u (ints_pl hm2 x hu)) (by omega) hm2).mono ?_
      rintro e w5 ⟨v5, rfl, O5, hne, B5⟩
      obtain ⟨g5, c5, rfl⟩ : ∃ g c, v5 = .slice (some ⟨g, 0, none⟩) m c := by
        rcases O5.2 with ⟨_, h0⟩ | ⟨g, cap, cur, h, _⟩
        · omega
        · exact ⟨g, cap, h⟩
      have BW : Below wr.heap.size wr w5 := hb1.trans (B5.mono hb1.size)
      have H5 := Lib.hid (own_mono O5 (Nat.le_trans hbw.size hb1.size))
      have HO5 := Lib.hid (own_below Hown.out BW)
      have HR5 := Lib.hid (Hrows.out.below BW)
      have HB5 := Lib.hid (hbw.trans (BW.mono hbw.size))
      clear O5 B5 hb1 hr4 hne hr hs
      go_wp2_with (at_builtin; refine wpList_append_own _ rfl _ _ 31 rfl W3.heap.size 22 i1 (.slice none 0 0) 1 24 Try.underlying31 hi hz0 hz1 hz2 rfl (by decide) _ k fs rfl (HO5.out.alloc _) ⟨w5.heap.size, 0, none⟩ 1 1 [Value.slice (some ⟨g5, 0, none⟩) m c5] rfl ?qc1 ?qc2 ?qc3 ?qc4 ?qc5 ?qc6 ?_)
      case qc1 => rfl
      case qc2 =>
        intro j u hj
        rw [Addr.add_mid]
        rcases j with _ | j
        · exact (World.cell?_alloc_new w5 _ _ 0).trans hj
        · cases hj
      case qc3 =>
        intro u hu
        obtain rfl : u = Value.slice (some ⟨g5, 0, none⟩) m c5 := by simpa using hu
        exact own_one H5.out
      case qc4 => unfold maxLen; omega
      case qc5 => omega
      case qc6 => exact Nat.le_trans HB5.out.size (below_alloc w5 _).size
      intro v' w6 hown6 hgrow hnil
      have hR6 : Rows W3.heap.size m w6 (fs ++ [Value.slice (some ⟨g5, 0, none⟩) m c5]) (D.take (k + 1)) := by
        rw [List.take_add_one, hx, Option.toList_some]
        refine ((HR5.out.below (below_alloc w5 _)).grown (HO5.out.alloc _) hgrow).snoc ?_ ((H5.out.alloc _).kept hgrow (own_apart H5.out HO5.out (by decide)))
        rw [HO5.out.1, List.length_take]
        omega
      have hB6 : Below W3.heap.size W3 w6 := ((HB5.out.alloc HB5.out.size _).grown hgrow (Nat.le_trans HB5.out.size (below_alloc w5 _).size) (fun j hj => (HO5.out.lt j hj).1))
      have HR6 := Lib.hid hR6
      have HB6 := Lib.hid hB6
      have HO6 := Lib.hid hown6
      clear hR6 hB6 hown6 hgrow hnil
      go_wp2_with fail
      go_roundw
      case rel => exact ⟨k + 1, fs ++ [Value.slice (some ⟨g5, 0, none⟩) m c5], hkl, by go_num, HO6.out, HR6.out, HB6.out⟩
      case measure => (simp [intOf] <;> omega)
    · obtain rfl : k = D.length := by omega
      rw [List.take_length] at Hrows
      have hcp : wr.cell? ⟨w2.heap.size, 1, none⟩ = some (.int .i64 p) := (hbw.cell (p := ⟨w2.heap.size, 1, none⟩) (by have := HZ3.out; show w2.heap.size < _; omega)).trans hc1
      go_wp2_with fail
      go_ret3
      have h3 := HZ3.out
      exact ⟨_, fs, rfl, own_mono Hown.out (by omega), Hrows.out.mono (by omega), BW2.out.trans ((hB3.trans (hbw.mono hB3.size)).mono hsz)⟩
end Go.Proofs.Ytnfppebcpagjpaa
