/- The law of two texts of lists with a comma between them. -/
import Derived.Test.YtjddleipancaoaaDoorLY
namespace Go.Proofs.YtjddleipancaoaaDoor
open Go.RowKit

theorem par_some {l : List UInt8} {zs : List Int} (h : parP l = (zs, 0)) (hl : l ≠ []) : 0 < zs.length := by
  obtain ⟨us, ga, ta, ea, _, _⟩ := par_good h
  rcases Nat.eq_zero_or_pos zs.length with h0 | h0
  · exfalso
    have hz : zs = [] := List.eq_nil_of_length_eq_zero h0
    rw [hz] at ea
    have := exp_nil_of ga ea
    subst this
    exact hl ta.symm
  · exact h0
theorem comma_data (s t : ByteArray) : ((s ++ ⟨#[44]⟩) ++ t).data.toList = s.data.toList ++ 44 :: t.data.toList := by
  rw [app_data, app_data, List.append_assoc]; rfl
theorem comma_size (s t : ByteArray) : ((s ++ ⟨#[44]⟩) ++ t).size = s.size + 1 + t.size := by
  rw [ByteArray.size_append, ByteArray.size_append]; rfl
theorem sint_news {w : World} {a : Option Addr} {cap : Nat} {xs : List Int} (h : SInt w (.slice a xs.length cap) xs) (hp : 0 < xs.length) :
    ∃ ad : Addr, a = some ad ∧ ∀ j u, (xs.map (Value.int .i64))[j]? = some u → w.cell? (ad.add j) = some u := by
  obtain ⟨a', cap', hv, hx⟩ := h
  cases hv
  obtain ⟨b, off, rfl, hb, hc⟩ := hx hp
  refine ⟨_, rfl, fun j u hj => ?_⟩
  rw [List.getElem?_map] at hj
  obtain ⟨z, hz, rfl⟩ := Option.map_eq_some_iff.1 hj
  have hjl : j < xs.length := (List.getElem?_eq_some_iff.1 hz).1
  have e : Addr.add ⟨b, off, none⟩ j = ⟨b, off + j, none⟩ := by simp [Addr.add]
  rw [e, hc j hjl]
  simp [List.getD, hz]

set_option maxHeartbeats 1000000 in
set_option maxRecDepth 100000 in
theorem append_out (s t : ByteArray) (w : World) (g : Glob w) (hs : s.size ≤ maxLen) (ht : t.size ≤ maxLen) (h : s.size = 0 ∨ t.size = 0 ∨ 2500 ≤ s.size + t.size) :
    Calls Tryd.prog 6 #[.string s, .string t] w fun e w' => e = .returned (.bool true) ∧ Below w.heap.size w w' := by
  unfold maxLen at hs ht
  by_cases h1 : s.size = 0
  · have e1 : ((s.size : Int) == 0) = true := by simp [h1]
    clear h
    go_enter Tryd.func6, Tryd.ntmps6
    go_wp2_with (go_at_call 10; refine (shown_any _ g).mono ?_; rintro e w1 ⟨rfl, hb1⟩)
    go_ret
    exact ⟨rfl, hb1⟩
  · have e1 : ((s.size : Int) == 0) = false := by rw [beq_eq_false_iff_ne]; omega
    by_cases h2 : t.size = 0
    · have e2 : ((t.size : Int) == 0) = true := by simp [h2]
      clear h
      go_enter Tryd.func6, Tryd.ntmps6
      go_wp2_with (go_at_call 10; refine (shown_any _ g).mono ?_; rintro e w1 ⟨rfl, hb1⟩)
      go_ret
      exact ⟨rfl, hb1⟩
    · have e2 : ((t.size : Int) == 0) = false := by rw [beq_eq_false_iff_ne]; omega
      have h3 : 2500 ≤ s.size + t.size := by omega
      clear h
      by_cases k1 : 3000 < s.size
      · go_enter Tryd.func6, Tryd.ntmps6
        go_wp2_with (go_at_call 10; refine (shown_any _ g).mono ?_; rintro e w1 ⟨rfl, hb1⟩)
        go_ret
        exact ⟨rfl, hb1⟩
      · by_cases k2 : 3000 < t.size
        · go_enter Tryd.func6, Tryd.ntmps6
          go_wp2_with (go_at_call 10; refine (shown_any _ g).mono ?_; rintro e w1 ⟨rfl, hb1⟩)
          go_ret
          exact ⟨rfl, hb1⟩
        · go_enter Tryd.func6, Tryd.ntmps6
          go_wp2_with (go_at_call 10; refine (shown_any _ g).mono ?_; rintro e w1 ⟨rfl, hb1⟩)
          go_ret
          exact ⟨rfl, hb1⟩

set_option maxHeartbeats 1000000 in
set_option maxRecDepth 100000 in
theorem append_bad (s t : ByteArray) (w : World) (g : Glob w) (hs : s.size ≠ 0) (ht : t.size ≠ 0) (hl : s.size + t.size < 2500)
    {xs ys : List Int} {c d e : Int} (hp : parP s.data.toList = (xs, c)) (hq : parP t.data.toList = (ys, d)) (hr : parP (s.data.toList ++ 44 :: t.data.toList) = ([], e)) (hcd : c ≠ 0 ∨ d ≠ 0) (he : e ≠ 0) :
    Calls Tryd.prog 6 #[.string s, .string t] w fun e w' => e = .returned (.bool true) ∧ Below w.heap.size w w' := by
  have e1 : ((s.size : Int) == 0) = false := by rw [beq_eq_false_iff_ne]; omega
  have e2 : ((t.size : Int) == 0) = false := by rw [beq_eq_false_iff_ne]; omega
  have k0 : (ByteArray.mk #[44]).size = 1 := rfl
  have k1 : (s ++ ⟨#[44]⟩).size = s.size + 1 := by rw [ByteArray.size_append]; rfl
  have c1 := fun w g => par_sv s w g (by unfold maxLen; omega) hp
  have c2 := fun w g => par_sv t w g (by unfold maxLen; omega) hq
  have c3 := fun w g => par_sv ((s ++ ⟨#[44]⟩) ++ t) w g (zs := []) (c := e) (by rw [comma_size]; unfold maxLen; omega) (by rw [comma_data]; exact hr)
  have he' : (e != 0) = true := by simpa using he
  have C1 := Lib.hid c1
  have C2 := Lib.hid c2
  have C3 := Lib.hid c3
  clear c1 c2 c3 hp hq hr he
  by_cases hc : c = 0
  · have hd : d ≠ 0 := by
      rcases hcd with h | h
      · exact absurd hc h
      · exact h
    have hc' : (c != 0) = false := by simpa using hc
    have hd' : (d != 0) = true := by simpa using hd
    clear hc hd hcd
    go_enter Tryd.func6, Tryd.ntmps6
    go_wp2_with (first
      | (go_at_call 10; refine (shown_any _ g3).mono ?_; rintro e w4 ⟨rfl, hb4⟩)
      | (go_at_call 19; refine (C3.out w2 g2).mono ?_; rintro e w3 ⟨a3, cap3, rfl, hs3, hb3⟩; have g3 := g2.next hb3)
      | (go_at_call 19; refine (C2.out w1 g1).mono ?_; rintro e w2 ⟨a2, cap2, rfl, hs2, hb2⟩; have g2 := g1.next hb2)
      | (go_at_call 19; refine (C1.out w g).mono ?_; rintro e w1 ⟨a1, cap1, rfl, hs1, hb1⟩; have g1 := g.next hb1))
    go_ret
    exact ⟨rfl, below_on hb1 (below_on hb2 (below_on hb3 hb4))⟩
  · have hc' : (c != 0) = true := by simpa using hc
    clear hc hcd
    go_enter Tryd.func6, Tryd.ntmps6
    go_wp2_with (first
      | (go_at_call 10; refine (shown_any _ g3).mono ?_; rintro e w4 ⟨rfl, hb4⟩)
      | (go_at_call 19; refine (C3.out w2 g2).mono ?_; rintro e w3 ⟨a3, cap3, rfl, hs3, hb3⟩; have g3 := g2.next hb3)
      | (go_at_call 19; refine (C2.out w1 g1).mono ?_; rintro e w2 ⟨a2, cap2, rfl, hs2, hb2⟩; have g2 := g1.next hb2)
      | (go_at_call 19; refine (C1.out w g).mono ?_; rintro e w1 ⟨a1, cap1, rfl, hs1, hb1⟩; have g1 := g.next hb1))
    go_ret
    exact ⟨rfl, below_on hb1 (below_on hb2 (below_on hb3 hb4))⟩

set_option maxHeartbeats 1000000 in
set_option maxRecDepth 100000 in
theorem append_long (s t : ByteArray) (w : World) (g : Glob w) (hs : s.size ≠ 0) (ht : t.size ≠ 0) (hl : s.size + t.size < 2500)
    {xs ys : List Int} (hp : parP s.data.toList = (xs, 0)) (hq : parP t.data.toList = (ys, 0)) (hr : parP (s.data.toList ++ 44 :: t.data.toList) = ([], 3)) (hxy : 500 < xs.length + ys.length) (hx : xs.length ≤ 500) (hy : ys.length ≤ 500) :
    Calls Tryd.prog 6 #[.string s, .string t] w fun e w' => e = .returned (.bool true) ∧ Below w.heap.size w w' := by
  have e1 : ((s.size : Int) == 0) = false := by rw [beq_eq_false_iff_ne]; omega
  have e2 : ((t.size : Int) == 0) = false := by rw [beq_eq_false_iff_ne]; omega
  have k0 : (ByteArray.mk #[44]).size = 1 := rfl
  have k1 : (s ++ ⟨#[44]⟩).size = s.size + 1 := by rw [ByteArray.size_append]; rfl
  have c1 := fun w g => par_sv s w g (by unfold maxLen; omega) hp
  have c2 := fun w g => par_sv t w g (by unfold maxLen; omega) hq
  have c3 := fun w g => par_sv ((s ++ ⟨#[44]⟩) ++ t) w g (zs := []) (c := 3) (by rw [comma_size]; unfold maxLen; omega) (by rw [comma_data]; exact hr)
  have C1 := Lib.hid c1
  have C2 := Lib.hid c2
  have C3 := Lib.hid c3
  clear c1 c2 c3 hp hq hr
  go_enter Tryd.func6, Tryd.ntmps6
  go_wp2_with (first
    | (go_at_call 10; refine (shown_any _ g3).mono ?_; rintro e w4 ⟨rfl, hb4⟩)
    | (go_at_call 19; refine (C3.out w2 g2).mono ?_; rintro e w3 ⟨a3, cap3, rfl, hs3, hb3⟩; have g3 := g2.next hb3)
    | (go_at_call 19; refine (C2.out w1 g1).mono ?_; rintro e w2 ⟨a2, cap2, rfl, hs2, hb2⟩; have g2 := g1.next hb2)
    | (go_at_call 19; refine (C1.out w g).mono ?_; rintro e w1 ⟨a1, cap1, rfl, hs1, hb1⟩; have g1 := g.next hb1))
  go_ret
  exact ⟨rfl, below_on hb1 (below_on hb2 (below_on hb3 hb4))⟩
end Go.Proofs.YtjddleipancaoaaDoor
