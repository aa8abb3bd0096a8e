/- Slices of ints that are handed out; append of one and of many; the reference's Check and Both walked. -/
import Derived.Test.YtnfppebcpagjpaaCC
import Derived.Maps.AppendAt
import Derived.Laws.AppendOwnNone
namespace Go.Proofs.Ytnfppebcpagjpaa
open Go.RowKit Go.Lib
/-- A slice value that reads as these numbers. -/
def IS (w : World) (v : Value) (zs : List Int) : Prop := ∃ a c, v = .slice a zs.length c ∧ zs.length ≤ c ∧ c ≤ maxLen ∧ (a = none → c = 0) ∧ IntsAt w a zs
theorem IS.below {w w' : World} {v : Value} {zs : List Int} (h : IS w v zs) (hb : Below w.heap.size w w') : IS w' v zs := by
  obtain ⟨a, c, e, h1, h2, h0, h3⟩ := h
  exact ⟨a, c, e, h1, h2, h0, h3.below hb⟩
theorem is_nil (w : World) : IS w (.slice none 0 0) [] := ⟨none, 0, rfl, Nat.le_refl _, Nat.zero_le _, fun _ => rfl, fun k z h => by cases h⟩
theorem is_own {w : World} {B n : Nat} {v : Value} {zs : List Int} (h : w.ownsRow B 3 1 v n (zs.map (Value.int .i64))) (hn : zs.length = n) : IS w v zs := by
  rcases h.2 with ⟨rfl, h0⟩ | ⟨g, cap, cur, rfl, _, hg, h1, h2, _, _⟩
  · have : zs = [] := List.eq_nil_of_length_eq_zero (by omega)
    subst this
    exact is_nil w
  · refine ⟨some ⟨g, 0, none⟩, cap, by rw [hn], by omega, h2, (fun e => by cases e), fun k z hz => ⟨g, 0, rfl, (Array.getElem?_eq_some_iff.1 hg).1, ?_⟩⟩
    have hk := (List.getElem?_eq_some_iff.1 hz).1
    rw [Nat.zero_add, h.cellAt k (by omega), List.getElem?_map, hz]
    rfl
theorem sameInts_is {u v : Value} {xs ys : List Int} {w : World} (hu : IS w u xs) (hv : IS w v ys) (r : Bool) (hr : r = true ↔ xs = ys) :
    Calls Try.prog 19 #[u, v] w fun e w' => e = .returned (.bool r) ∧ Below w.heap.size w w' := by
  obtain ⟨a, c, rfl, h1, h2, _, h3⟩ := hu
  obtain ⟨b, d, rfl, _, _, _, k3⟩ := hv
  exact sameInts_any xs ys r hr a b c d w h1 h2 h3 k3
/-- append(v, x), x an int: an own row grows by one. -/
theorem app_one {ops : Array Oper} {rest : List Oper} {o : Oper} {a : Act} {Q : Exit → Act → World → Prop} {w w0 : World} (B : Nat) (v : Value) (zs : List Int) (x : Int)
    (hgd : o.guard = none) (s y : Operand) (ho : o.op = .call { callee := .builtin .append, args := #[s, y], argTypes := #[22, 22] }) (hs : a.eval s = v)
    (hown : w.ownsRow B 3 1 v zs.length (zs.map (Value.int .i64))) (hy : a.eval y = .slice (some ⟨w.heap.size, 0, none⟩) 1 1) (hl : zs.length < 100000) (hb : Below B w0 w) (hB : B ≤ w.heap.size)
    (h : ∀ g cap w', w'.ownsRow B 3 1 (.slice (some ⟨g, 0, none⟩) (zs.length + 1) cap) (zs.length + 1) ((zs ++ [x]).map (Value.int .i64)) → Below B w0 w' → wpList Try.prog ops Q rest (a.put o.dst (.slice (some ⟨g, 0, none⟩) (zs.length + 1) cap)) w') :
    wpList Try.prog ops Q (o :: rest) a (w.alloc (.cells #[.int .i64 x] 3)) := by
  obtain ⟨i0, hi, hz0, hz1, hz2⟩ := info_parts infoInt
  refine wpList_append_own _ hgd s y 22 ho B 3 i0 (.int .i64 0) 1 8 Try.underlying22 hi hz0 hz1 hz2 rfl (by decide) v _ _ hs (hown.alloc _) ⟨w.heap.size, 0, none⟩ 1 1 [.int .i64 x] hy rfl (cell_one_new _ _ _) (by simp [Value.oneCell']) (by unfold maxLen; omega) (by omega) (by simp; omega) ?_
  intro v' w' hown' hgrow _
  rcases hown'.2 with ⟨_, h0⟩ | ⟨g, cap, _, rfl, _⟩
  · omega
  · refine h g cap w' (by rw [List.map_append]; exact hown') ?_
    exact Below.grown (hb.alloc hB _) hgrow (by simp; omega) fun k e => (hown.lt k e).1
/-- append(v, xs...): an own row grows by another row. -/
theorem app_all {ops : Array Oper} {rest : List Oper} {o : Oper} {a : Act} {Q : Exit → Act → World → Prop} {w w0 : World} (B : Nat) (v : Value) (zs xs : List Int)
    (hgd : o.guard = none) (s y : Operand) (ho : o.op = .call { callee := .builtin .append, args := #[s, y], argTypes := #[22, 22] }) (hs : a.eval s = v)
    (hown : w.ownsRow B 3 1 v zs.length (zs.map (Value.int .i64))) (u : Value) (hy : a.eval y = u) (hxs : IS w u xs) (hl : zs.length + xs.length < 100000) (hb : Below B w0 w) (hB : B ≤ w.heap.size)
    (h : ∀ v' w', w'.ownsRow B 3 1 v' (zs ++ xs).length ((zs ++ xs).map (Value.int .i64)) → Below B w0 w' → wpList Try.prog ops Q rest (a.put o.dst v') w') :
    wpList Try.prog ops Q (o :: rest) a w := by
  obtain ⟨i0, hi, hz0, hz1, hz2⟩ := info_parts infoInt
  obtain ⟨sa, sc, rfl, _, _, h00, hxs⟩ := hxs
  cases sa with
  | none =>
    obtain rfl := h00 rfl
    have hx0 : xs = [] := by
      cases xs with
      | nil => rfl
      | cons x xs => obtain ⟨b, off, e, _⟩ := hxs 0 x rfl; cases e
    subst hx0
    refine wpList_append_own_none hgd s y 22 ho B 3 i0 1 Try.underlying22 hi v _ _ hs hown hy (h v w ?_ hb)
    rw [List.append_nil]
    exact hown
  | some ad =>
    refine wpList_append_own _ hgd s y 22 ho B 3 i0 (.int .i64 0) 1 8 Try.underlying22 hi hz0 hz1 hz2 rfl (by decide) v _ _ hs hown ad xs.length sc (xs.map (Value.int .i64)) hy (by simp) ?_ ?_ (by unfold maxLen; omega) (by omega) hB ?_
    · intro j u hj
      rw [List.getElem?_map] at hj
      obtain ⟨z, hz, rfl⟩ := Option.map_eq_some_iff.1 hj
      obtain ⟨b, off, e, _, hc⟩ := hxs j z hz
      cases e
      rw [Addr.add_mid]
      exact hc
    · intro u hu
      obtain ⟨z, _, rfl⟩ := List.mem_map.1 hu
      rfl
    · intro v' w' hown' hgrow _
      refine h v' w' (by rw [List.map_append, List.length_append]; exact hown') ?_
      exact Below.grown hb hgrow hB fun k e => (hown.lt k e).1
set_option maxHeartbeats 400000 in
set_option maxRecDepth 100000 in
theorem refCheck_any (n : Int) (ws : List Int) (sa : Option Addr) (sc : Nat) (w : World) (hc : IntsAt w sa ws) (_ : ws.length ≤ sc) (_ : sc ≤ maxLen) :
    Calls Try.prog 18 #[.int .i64 n, .slice sa ws.length sc] w fun e w' => e = .returned (.int .i64 (checkV n ws)) ∧ Below w.heap.size w w' := by
  have Hc := Lib.hid hc
  clear hc
  obtain ⟨v, hv⟩ : ∃ v, v = checkV n ws := ⟨_, rfl⟩
  rw [← hv]
  unfold checkV at hv
  go_enter Try.func18, Try.ntmps18
  by_cases a : n < 1
  · rw [if_pos (.inl a)] at hv
    go_wp2_with fail
    go_ret
    exact ⟨by first | rfl | (rw [hv]; rfl), Below.refl _ w⟩
  · by_cases b : 12 < n
    · rw [if_pos (.inr b)] at hv
      go_wp2_with fail
      go_ret
      exact ⟨by first | rfl | (rw [hv]; rfl), Below.refl _ w⟩
    · rw [if_neg (by omega)] at hv
      by_cases c : 400 < ws.length
      · rw [if_pos c] at hv
        have c' : (400 : Int) < (ws.length : Int) := by omega
        go_wp2_with fail
        go_ret
        exact ⟨by first | rfl | (rw [hv]; rfl), Below.refl _ w⟩
      · rw [if_neg c] at hv
        have c' : ¬ (400 : Int) < (ws.length : Int) := by omega
        have hwn : IntKind.i64.wrap (-n) = -n := IntWalk.i64_in _ (by omega)
        go_wp2_with fail
        go_loop [5] (fun i => ∃ k : Nat, k ≤ ws.length ∧ i = .int .i64 k ∧ (∀ y ∈ ws.take k, isL n y = true)) (fun i => ws.length - (intOf i).toNat)
        case atStart => exact ⟨0, Nat.zero_le _, rfl, fun y hy => by simp at hy⟩
        case round =>
          obtain ⟨k, hk, rfl, hall⟩ := hrel
          have Hall := Lib.hid hall
          have Hv := Lib.hid hv
          clear hall hv
          by_cases hkl : k < ws.length
          · obtain ⟨x, hx⟩ : ∃ x, ws[k]? = some x := ⟨_, List.getElem?_eq_getElem hkl⟩
            obtain ⟨bb, off, rfl, hB, hcx⟩ := Hc.out k x hx
            have k0 : (0 : Int) ≤ (k : Int) := by omega
            have k1 : (k : Int) < (ws.length : Int) := by omega
            have hbad : isL n x = false → v = 7 := fun hxl => by
              have : ¬ ws.all (isL n) = true := fun h => by
                have := List.all_eq_true.1 h x (List.mem_of_getElem? hx)
                rw [hxl] at this
                cases this
              rw [Hv.out, if_neg this]
            have Hbad := Lib.hid hbad
            clear hbad
            by_cases d0 : x = 0
            · have hv7 := Lib.hid (Hbad.out (by unfold isL; simp [d0]))
              subst d0
              go_wp2_with fail
              go_ret
              exact ⟨by rw [hv7.out]; rfl, Below.refl _ w⟩
            · by_cases d1 : x ≤ -n
              · have hv7 := Lib.hid (Hbad.out (by unfold isL; simp; omega))
                go_wp2_with fail
                go_ret
                exact ⟨by rw [hv7.out]; rfl, Below.refl _ w⟩
              · by_cases d2 : n ≤ x
                · have hv7 := Lib.hid (Hbad.out (by unfold isL; simp; omega))
                  go_wp2_with fail
                  go_ret
                  exact ⟨by rw [hv7.out]; rfl, Below.refl _ w⟩
                · have hxl : isL n x = true := by unfold isL; simp; omega
                  have hnx : ∀ y ∈ ws.take (k + 1), isL n y = true := by
                    intro y hy
                    rw [List.take_add_one, hx] at hy
                    rcases List.mem_append.1 hy with hy | hy
                    · exact Hall.out y hy
                    · obtain rfl : y = x := by simpa using hy
                      exact hxl
                  have Hnx := Lib.hid hnx
                  clear hnx hxl
                  go_wp2_with fail
                  go_roundw
                  case rel => exact ⟨k + 1, hkl, by go_num, Hnx.out⟩
                  case measure => (simp [intOf] <;> omega)
          · obtain rfl : k = ws.length := by omega
            rw [List.take_length] at Hall
            go_wp2_with fail
            go_ret
            refine ⟨?_, Below.refl _ w⟩
            rw [Hv.out, if_pos (List.all_eq_true.2 Hall.out)]
            rfl
set_option maxHeartbeats 400000 in
set_option maxRecDepth 100000 in
theorem refBoth_any (n : Int) (xs ys : List Int) (sa sb : Option Addr) (sc sd : Nat) (w : World) (hsc : xs.length ≤ sc) (hmx : sc ≤ maxLen) (hsd : ys.length ≤ sd) (hmd : sd ≤ maxLen) (ha : IntsAt w sa xs) (hb : IntsAt w sb ys) :
    Calls Try.prog 40 #[.int .i64 n, .slice sa xs.length sc, .slice sb ys.length sd] w fun e w' => e = .returned (.int .i64 (bothV n xs ys)) ∧ Below w.heap.size w w' := by
  have Ha := Lib.hid ha
  have Hb := Lib.hid hb
  clear ha hb
  obtain ⟨r, hr⟩ : ∃ r, r = bothV n xs ys := ⟨_, rfl⟩
  rw [← hr]
  unfold bothV at hr
  have Hr := Lib.hid hr
  clear hr
  go_enter Try.func40, Try.ntmps40
  go_wp2_with fail
  refine (refCheck_any n xs sa sc w Ha.out hsc hmx).mono ?_
  rintro e w1 ⟨rfl, B1⟩
  by_cases h : checkV n xs = 0
  · have hv := Lib.hid (Hr.out.trans (if_pos h))
    rw [h]
    go_wp2_with fail
    refine (refCheck_any n ys sb sd w1 (Hb.out.below B1) hsd hmd).mono ?_
    rintro e w2 ⟨rfl, B2⟩
    go_wp2_with fail
    go_ret
    exact ⟨by rw [hv.out]; rfl, B1.trans (B2.mono B1.size)⟩
  · have hv := Lib.hid (Hr.out.trans (if_neg h))
    obtain ⟨v, hev⟩ : ∃ v, v = checkV n xs := ⟨_, rfl⟩
    rw [← hev] at h hv ⊢
    go_wp2_with fail
    go_ret
    exact ⟨by rw [hv.out, hev]; rfl, B1⟩
end Go.Proofs.Ytnfppebcpagjpaa
