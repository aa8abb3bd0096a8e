/- The law of two texts of lists with a comma between them: where both are lists. -/
import Derived.Test.YtjddleipancaoaaDoorLZ
namespace Go.Proofs.YtjddleipancaoaaDoor
open Go.RowKit

theorem wpList_want {P : Program} {ops : Array Oper} {Q : Exit → Act → World → Prop} {a : Act} {w : World} {rest : List Oper} {o : Oper} (hw : Region.wanted o (yielded ops a.tmps) = true)
    (h : ∀ K : Act → World → Prop, (∀ a w, wpList P ops Q rest a w → K a w) → o.wp P a w K Q) : wpList P ops Q (o :: rest) a w :=
  wpList_step fun K hK => by rw [if_pos hw]; exact h K hK
theorem sint_at {w : World} {ad : Addr} {cap : Nat} {xs : List Int} (h : SInt w (.slice (some ad) xs.length cap) xs) (hp : 0 < xs.length) : ∀ j u, (xs.map (Value.int .i64))[j]? = some u → w.cell? (ad.add j) = some u := by
  obtain ⟨ad', e, h⟩ := sint_news h hp
  cases e
  exact h
theorem ints_one (xs : List Int) : ∀ u ∈ xs.map (Value.int .i64), u.oneCell' = true := by
  intro u hu
  obtain ⟨z, _, rfl⟩ := List.mem_map.1 hu
  rfl
theorem own_fresh (w : World) : (w.alloc (.cells #[] 3)).ownsRow w.heap.size 3 1 (.slice (some ⟨w.heap.size, 0, none⟩) 0 0) 0 [] :=
  World.ownsRow_made w #[] 0 (Nat.le_refl _) (Nat.zero_le _) rfl

set_option maxHeartbeats 4000000 in
set_option maxRecDepth 100000 in
theorem append_good (s t : ByteArray) (w : World) (g : Glob w) (hs : s.size ≠ 0) (ht : t.size ≠ 0) (hl : s.size + t.size < 2500)
    {xs ys zs : List Int} (hp : parP s.data.toList = (xs, 0)) (hq : parP t.data.toList = (ys, 0)) (hr : parP (s.data.toList ++ 44 :: t.data.toList) = (zs, 0)) (hz : xs ++ ys = zs) (hxy : xs.length + ys.length ≤ 500) :
    Calls Tryd.prog 6 #[.string s, .string t] w fun e w' => e = .returned (.bool true) ∧ Below w.heap.size w w' := by
  have e1 : ((s.size : Int) == 0) = false := by rw [beq_eq_false_iff_ne]; omega
  have e2 : ((t.size : Int) == 0) = false := by rw [beq_eq_false_iff_ne]; omega
  have k0 : (ByteArray.mk #[44]).size = 1 := rfl
  have k1 : (s ++ ⟨#[44]⟩).size = s.size + 1 := by rw [ByteArray.size_append]; rfl
  obtain ⟨_, zx⟩ := par_range hp
  obtain ⟨_, zy⟩ := par_range hq
  obtain ⟨_, zz⟩ := par_range hr
  have px := par_some hp (by intro e; rw [← size_len, e] at hs; exact hs rfl)
  have py := par_some hq (by intro e; rw [← size_len, e] at ht; exact ht rfl)
  have hlz := both_len zx zy hxy
  rw [hz] at hlz
  have hzl : zs.length = xs.length + ys.length := by rw [← hz, List.length_append]
  have c1 := fun w g => par_sv s w g (by unfold maxLen; omega) hp
  have c2 := fun w g => par_sv t w g (by unfold maxLen; omega) hq
  have c3 := fun w g => par_sv ((s ++ ⟨#[44]⟩) ++ t) w g (zs := zs) (c := 0) (by rw [comma_size]; unfold maxLen; omega) (by rw [comma_data]; exact hr)
  have d1 := fun v w g h => list_sv xs v w g h (by omega) zx
  have d2 := fun v w g h => list_sv ys v w g h (by omega) zy
  have d3 := fun v w g h => list_sv zs v w g h (by omega) zz
  have i1 := fun v v' w hv hv' => ints_any zs zs v v' w hv hv' (by unfold maxLen; omega)
  simp only [decide_true] at i1
  obtain ⟨_, l1, _⟩ := list_main zx (by omega)
  obtain ⟨_, l2, _⟩ := list_main zy (by omega)
  obtain ⟨_, l3, _⟩ := list_main zz (by omega)
  obtain ⟨A, hA⟩ : ∃ A, (⟨(listS xs).toArray⟩ : ByteArray) = A := ⟨_, rfl⟩
  obtain ⟨B, hB⟩ : ∃ A, (⟨(listS ys).toArray⟩ : ByteArray) = A := ⟨_, rfl⟩
  obtain ⟨Z, hZ⟩ : ∃ A, (⟨(listS zs).toArray⟩ : ByteArray) = A := ⟨_, rfl⟩
  have sA : A.size = (listS xs).length := by rw [← hA, ← size_len]
  have sB : B.size = (listS ys).length := by rw [← hB, ← size_len]
  have sZ : Z.size = (listS zs).length := by rw [← hZ, ← size_len]
  rw [← sA] at l1 hlz
  rw [← sB] at l2 hlz
  rw [← sZ] at l3 hlz
  rw [hA] at d1
  rw [hB] at d2
  rw [hZ] at d3
  have hlz' : (Z.size : Int) ≤ (A.size : Int) + 1 + (B.size : Int) := by omega
  have Hz := Lib.hid hz
  have Hzl := Lib.hid hzl
  have C1 := Lib.hid c1
  have C2 := Lib.hid c2
  have C3 := Lib.hid c3
  have D1 := Lib.hid d1
  have D2 := Lib.hid d2
  have D3 := Lib.hid d3
  have I1 := Lib.hid i1
  clear c1 c2 c3 d1 d2 d3 i1 hp hq hr hA hB hZ sA sB sZ zx zy zz hz hzl
  obtain ⟨i0, hi, hz0, hz1, hz2⟩ := info_parts infoInt
  have Hi := Lib.hid hi
  clear hi
  go_enter Tryd.func6, Tryd.ntmps6
  go_wp2_with (first
    | (go_at_call 10; refine (shown_any _ g9).mono ?_; rintro e w10 ⟨rfl, hb10⟩)
    | (go_at_call 21; refine (I1.out _ _ w8 (hs3.below (below_on hb4 (below_on hb5 (below_on hb6 hb8)))) (sint_own (xs := zs) (by rw [Hzl.out, ← Hz.out, List.map_append]; exact Hown2.out))).mono ?_; rintro e w9 ⟨rfl, hb9⟩; have g9 := (g6.next hb8).next hb9)
    | (at_builtin; refine wpList_want (by rfl) fun K hK => wp_append_lies _ _ _ 31 rfl w6.heap.size 3 i0 (.int .i64 0) 1 8 Tryd.underlying31 Hi.out hz0 hz1 hz2 rfl (by decide) _ xs.length (xs.map (Value.int .i64)) (by rfl) Hown1.out ad2 ys.length cap2 (ys.map (Value.int .i64)) (by rfl) (by rw [List.length_map, Nat.mul_one]) (sint_at (hs2.below (below_on hb3 (below_on hb4 (below_on hb5 (below_on hb6 hb7))))) py) (ints_one ys) py (by unfold maxLen; omega) (by omega) hb7.size w7.heap.size rfl (fun gg2 cp2 w8 hown2 hgrow2 hat2 hlt2 => hK _ _ ?_)
       have hb8 : Below w6.heap.size w6 w8 := hb7.grown hgrow2 hb7.size (fun k' e' => (Hown1.out.lt k' e').1)
       have Hown2 := Lib.hid hown2
       clear hown2 hgrow2 hat2 hlt2)
    | (at_builtin; refine wpList_want (by rfl) fun K hK => wp_append_lies _ _ _ 31 rfl w6.heap.size 3 i0 (.int .i64 0) 1 8 Tryd.underlying31 Hi.out hz0 hz1 hz2 rfl (by decide) _ 0 [] (by rfl) (own_fresh w6) ad1 xs.length cap1 (xs.map (Value.int .i64)) (by rfl) (by rw [List.length_map, Nat.mul_one]) (sint_at (hs1.below (below_on hb2 (below_on hb3 (below_on hb4 (below_on hb5 (below_on hb6 (below_alloc w6 _))))))) px) (ints_one xs) px (by unfold maxLen; omega) (by omega) (by simp) (w6.heap.size + 1) (by simp) (fun gg1 cp1 w7 hown1 hgrow1 hat1 hlt1 => hK _ _ ?_)
       have hb7 : Below w6.heap.size w6 w7 := (below_alloc w6 _).grown hgrow1 (by simp) (fun k' e' => by cases e'; exact Nat.le_refl _)
       rw [Nat.zero_add] at hown1 ⊢
       rw [List.nil_append] at hown1
       have Hown1 := Lib.hid hown1
       clear hown1 hgrow1 hat1 hlt1)
    | (go_at_call 20; refine (D3.out _ w5 g5 (hs3.below (below_on hb4 hb5))).mono ?_; rintro e w6 ⟨rfl, hb6⟩; have g6 := g5.next hb6)
    | (go_at_call 20; refine (D2.out _ w4 g4 (hs2.below (below_on hb3 hb4))).mono ?_; rintro e w5 ⟨rfl, hb5⟩; have g5 := g4.next hb5)
    | (go_at_call 20; refine (D1.out _ w3 g3 (hs1.below (below_on hb2 hb3))).mono ?_; rintro e w4 ⟨rfl, hb4⟩; have g4 := g3.next hb4)
    | (go_at_call 19; refine (C3.out w2 g2).mono ?_; rintro e w3 ⟨a3, cap3, rfl, hs3, hb3⟩; have g3 := g2.next hb3)
    | (go_at_call 19; refine (C2.out w1 g1).mono ?_; rintro e w2 ⟨a2, cap2, rfl, hs2, hb2⟩; have g2 := g1.next hb2; obtain ⟨ad2, rfl, _⟩ := sint_news hs2 py)
    | (go_at_call 19; refine (C1.out w g).mono ?_; rintro e w1 ⟨a1, cap1, rfl, hs1, hb1⟩; have g1 := g.next hb1; obtain ⟨ad1, rfl, _⟩ := sint_news hs1 px))
  go_ret
  exact ⟨rfl, below_on hb1 (below_on hb2 (below_on hb3 (below_on hb4 (below_on hb5 (below_on hb6 (below_on hb8 (below_on hb9 hb10)))))))⟩

theorem append_any (s t : ByteArray) (w : World) (g : Glob w) (hs : s.size ≤ maxLen) (ht : t.size ≤ maxLen) :
    Calls Tryd.prog 6 #[.string s, .string t] w fun e w' => e = .returned (.bool true) ∧ Below w.heap.size w w' := by
  by_cases h0 : s.size = 0 ∨ t.size = 0 ∨ 2500 ≤ s.size + t.size
  · exact append_out s t w g hs ht h0
  · have h1 : s.size ≠ 0 := fun e => h0 (Or.inl e)
    have h2 : t.size ≠ 0 := fun e => h0 (Or.inr (Or.inl e))
    have h3 : s.size + t.size < 2500 := by omega
    have n1 : s.data.toList ≠ [] := by intro e; rw [← size_len, e] at h1; exact h1 rfl
    have n2 : t.data.toList ≠ [] := by intro e; rw [← size_len, e] at h2; exact h2 rfl
    obtain ⟨k1, k2, k3⟩ := parP_both n1 n2 (by rw [size_len, size_len]; exact h3)
    rcases hp : parP s.data.toList with ⟨xs, c⟩
    rcases hq : parP t.data.toList with ⟨ys, d⟩
    rcases hr : parP (s.data.toList ++ 44 :: t.data.toList) with ⟨zs, e⟩
    rw [hp, hq, hr] at k1 k2 k3
    simp only at k1 k2 k3
    by_cases hcd : c ≠ 0 ∨ d ≠ 0
    · have he := k3 hcd
      have hz : zs = [] := by have := par_none (l := s.data.toList ++ 44 :: t.data.toList) (by rw [hr]; exact he); rw [hr] at this; exact this
      subst hz
      exact append_bad s t w g h1 h2 h3 hp hq hr hcd he
    · have hc : c = 0 := by omega
      have hd : d = 0 := by omega
      subst hc; subst hd
      have hx := (par_range hp).1
      have hy := (par_range hq).1
      by_cases hxy : xs.length + ys.length ≤ 500
      · have := k1 rfl rfl hxy
        obtain ⟨rfl, rfl⟩ := Prod.mk.inj this
        exact append_good s t w g h1 h2 h3 hp hq hr rfl hxy
      · have := k2 rfl rfl (by omega)
        obtain ⟨rfl, rfl⟩ := Prod.mk.inj this
        exact append_long s t w g h1 h2 h3 hp hq hr (by omega) hx hy
end Go.Proofs.YtjddleipancaoaaDoor
