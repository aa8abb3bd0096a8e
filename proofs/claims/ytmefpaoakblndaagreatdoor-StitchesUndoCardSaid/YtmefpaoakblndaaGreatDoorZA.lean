/- Same of the program. -/
import Derived.Test.YtmefpaoakblndaaGreatDoorVZ
namespace Go.Proofs.YtmefpaoakblndaaGreatDoor
open Go.RowKit
set_option linter.unusedSimpArgs false
/-- Two parts are the same braid. -/
def SameP (a b : List UInt8) : Prop := nf 4 (crW a) = nf 4 (crW b)
set_option maxHeartbeats 1000000 in
set_option maxRecDepth 100000 in
theorem samePart_any (a b : ByteArray) (ha : a.size ≤ 16) (hb : b.size ≤ 16) (r : Bool) (hr : r = true ↔ SameP a.data.toList b.data.toList) (w : World) : Calls Tryz.prog 55 #[.string a, .string b] w fun e w' => e = .returned (.bool r) ∧ Below w.heap.size w w' := by
  have CA := Lib.hid (fun W => crossings_any a (by omega) W)
  have CB := Lib.hid (fun W => crossings_any b (by omega) W)
  have la : a.data.toList.length ≤ 16 := by simpa using ha
  have lb : b.data.toList.length ≤ 16 := by simpa using hb
  have ka : checkV 4 (crW a.data.toList) = 0 := crW_check la
  have kb : checkV 4 (crW b.data.toList) = 0 := crW_check lb
  have na := crW_len a.data.toList
  have nb := crW_len b.data.toList
  unfold SameP at hr
  generalize crW a.data.toList = X at *
  generalize crW b.data.toList = Y at *
  have hbo : bothV 4 X Y = 0 := by unfold bothV; rw [if_pos ka]; exact kb
  have CS : ∀ (W : World) (sa sb : Option Addr) (sc sd : Nat), X.length ≤ sc → sc ≤ maxLen → Y.length ≤ sd → sd ≤ maxLen → IntsAt W sa X → IntsAt W sb Y → Calls Tryz.prog 77 #[.int .i64 4, .slice sa X.length sc, .slice sb Y.length sd] W fun e w' => e = .returned (.tuple #[.bool r, .int .i64 0]) ∧ Below W.heap.size W w' := fun W sa sb sc sd h1 h2 h3 h4 h5 h6 => by
    have := Same_any 4 X Y sa sb sc sd W h1 h2 h3 h4 h5 h6 r (fun h => absurd hbo h) (fun _ => hr)
    rw [hbo] at this
    exact this
  have HS := Lib.hid CS
  clear CS hr ka kb hbo
  go_enter Tryz.func55, Tryz.ntmps55
  go_wp2_with fail
  refine (CA.out _).mono ?_
  rintro e w1 ⟨v, rfl, ho1, hb1⟩
  obtain ⟨sa, sc, rfl, p1, p2, _, hA⟩ := is_own ho1 rfl
  have HA := Lib.hid hA
  have HB1 := Lib.hid hb1
  clear ho1 hA hb1
  go_wp2_with fail
  refine (CB.out _).mono ?_
  rintro e w2 ⟨u, rfl, ho2, hb2⟩
  obtain ⟨sb, sd, rfl, q1, q2, _, hB⟩ := is_own ho2 rfl
  have HA2 := Lib.hid (HA.out.below hb2)
  have HB := Lib.hid hB
  have HB2 := Lib.hid (HB1.out.trans (hb2.mono HB1.out.size))
  have CS := Lib.hid (HS.out w2 sa sb sc sd p1 p2 q1 q2 HA2.out HB.out)
  clear ho2 hB hb2
  go_wp2_with fail
  refine CS.out.mono ?_
  rintro e w3 ⟨rfl, hb3⟩
  have HB3 := Lib.hid (HB2.out.trans (hb3.mono HB2.out.size))
  clear hb3
  go_wp2_with fail
  go_ret
  exact ⟨rfl, HB3.out⟩
/-- Two words have as many parts, and they are the same braids. -/
def SameL (xs ys : List (List UInt8)) : Prop := xs.length = ys.length ∧ ∀ (k : Nat) x y, xs[k]? = some x → ys[k]? = some y → SameP x y
theorem str_cells {w : World} {b : Nat} {t : TypeId} {ps : List ByteArray} {fr : Nat × Nat} (h : w.heap[b]? = some (.cells (ps.map Value.string).toArray t fr)) {k : Nat} {p : ByteArray} (hp : ps[k]? = some p) : w.cell? ⟨b, k, none⟩ = some (.string p) := by
  rw [cell_of_row _ _ k _ _ _ h, List.getElem?_toArray, List.getElem?_map, hp]; rfl
set_option maxHeartbeats 2000000 in
set_option maxRecDepth 100000 in
theorem EqualFunc_any (xs ys : List ByteArray) (hx : ∀ p ∈ xs, p.size ≤ 16) (hy : ∀ p ∈ ys, p.size ≤ 16) (b1 b2 : Nat) (t1 t2 : TypeId) (f1 f2 : Nat × Nat) (c d : Nat) (r : Bool) (hr : r = true ↔ SameL (xs.map (·.data.toList)) (ys.map (·.data.toList))) (hcl : xs.length ≤ c ∧ c ≤ 1000) (_ : ys.length ≤ d ∧ d ≤ 1000) (w : World)
    (h1 : w.heap[b1]? = some (.cells (xs.map Value.string).toArray t1 f1)) (h2 : w.heap[b2]? = some (.cells (ys.map Value.string).toArray t2 f2)) :
    Calls Tryz.prog 54 #[.slice (some ⟨b1, 0, none⟩) xs.length c, .slice (some ⟨b2, 0, none⟩) ys.length d, .func (.func 55) #[] #[]] w fun e w' => e = .returned (.bool r) ∧ Below w.heap.size w w' := by
  have H1 := Lib.hid h1
  have H2 := Lib.hid h2
  have HR := Lib.hid hr
  have HX := Lib.hid hx
  have HY := Lib.hid hy
  have l1 : b1 < w.heap.size := (Array.getElem?_eq_some_iff.1 h1).1
  have l2 : b2 < w.heap.size := (Array.getElem?_eq_some_iff.1 h2).1
  clear h1 h2 hr hx hy
  go_enter Tryz.func54, Tryz.ntmps54
  by_cases hlen : xs.length = ys.length
  · have q : ((xs.length : Int) != (ys.length : Int)) = false := by simp [hlen]
    go_wp2_with fail
    go_loopw [17] (fun i wr => ∃ k : Nat, k ≤ xs.length ∧ i = .int .i64 k ∧ (∀ (j : Nat) x y, j < k → xs[j]? = some x → ys[j]? = some y → SameP x.data.toList y.data.toList) ∧ Below w.heap.size w wr) (fun i _ => xs.length - (intOf i).toNat)
    case atStart => exact ⟨0, Nat.zero_le _, rfl, fun j x y h => by omega, Below.refl _ w⟩
    case round =>
      obtain ⟨k, hk, rfl, hall, hbw⟩ := hrel
      have HA := Lib.hid hall
      clear hall
      by_cases hkl : k < xs.length
      · obtain ⟨x, hx⟩ : ∃ x, xs[k]? = some x := ⟨_, List.getElem?_eq_getElem hkl⟩
        obtain ⟨y, hy⟩ : ∃ y, ys[k]? = some y := ⟨_, List.getElem?_eq_getElem (hlen ▸ hkl)⟩
        have cx : wr.cell? ⟨b1, k, none⟩ = some (.string x) := (hbw.cell (p := ⟨b1, k, none⟩) l1).trans (str_cells H1.out hx)
        have cy : wr.cell? ⟨b2, k, none⟩ = some (.string y) := (hbw.cell (p := ⟨b2, k, none⟩) l2).trans (str_cells H2.out hy)
        have k0 : (0 : Int) ≤ (k : Int) := by omega
        have k1 : (k : Int) < (xs.length : Int) := by omega
        have k2 : (k : Int) < (ys.length : Int) := by omega
        have sx := HX.out x (List.mem_of_getElem? hx)
        have sy := HY.out y (List.mem_of_getElem? hy)
        by_cases hs : SameP x.data.toList y.data.toList
        · have CP := Lib.hid (fun W => samePart_any x y sx sy true ⟨fun _ => hs, fun _ => rfl⟩ W)
          have HN := Lib.hid (show ∀ (j : Nat) x y, j < k + 1 → xs[j]? = some x → ys[j]? = some y → SameP x.data.toList y.data.toList from fun j x' y' hj e1 e2 => by
            rcases Nat.lt_or_ge j k with h | h
            · exact HA.out j x' y' h e1 e2
            · obtain rfl : j = k := by omega
              rw [hx] at e1; rw [hy] at e2
              cases e1; cases e2; exact hs)
          clear hs hx hy
          go_wp2_with fail
          refine (CP.out _).mono ?_
          rintro e w1 ⟨rfl, hb1⟩
          have HB1 := Lib.hid (hbw.trans (hb1.mono hbw.size))
          clear hb1
          go_wp2_with fail
          go_roundw
          case rel => exact ⟨k + 1, hkl, by go_num, HN.out, HB1.out⟩
          case measure => (simp [intOf] <;> omega)
        · have CP := Lib.hid (fun W => samePart_any x y sx sy false ⟨fun h => (by cases h), fun h => absurd h hs⟩ W)
          have hrf : r = false := by
            cases r with
            | true =>
              have := (HR.out.1 rfl).2 k x.data.toList y.data.toList (by rw [List.getElem?_map, hx]; rfl) (by rw [List.getElem?_map, hy]; rfl)
              exact absurd this hs
            | false => rfl
          subst hrf
          clear hs hx hy
          go_wp2_with fail
          refine (CP.out _).mono ?_
          rintro e w1 ⟨rfl, hb1⟩
          have HB1 := Lib.hid (hbw.trans (hb1.mono hbw.size))
          clear hb1
          go_wp2_with fail
          go_ret
          exact ⟨rfl, HB1.out⟩
      · have k1 : ¬ (k : Int) < (xs.length : Int) := by omega
        have hrt : r = true := HR.out.2 ⟨by simp [hlen], fun j a b e1 e2 => by
          rw [List.getElem?_map] at e1 e2
          obtain ⟨x, hx, rfl⟩ := Option.map_eq_some_iff.1 e1
          obtain ⟨y, hy, rfl⟩ := Option.map_eq_some_iff.1 e2
          exact HA.out j x y (by have := (List.getElem?_eq_some_iff.1 hx).1; omega) hx hy⟩
        subst hrt
        go_wp2_with fail
        go_ret
        exact ⟨rfl, hbw⟩
  · have q : ((xs.length : Int) != (ys.length : Int)) = true := by simp; omega
    have hrf : r = false := by
      cases r with
      | true => have := (HR.out.1 rfl).1; simp at this; omega
      | false => rfl
    subst hrf
    go_wp2_with fail
    go_ret
    exact ⟨rfl, Below.refl _ _⟩
/-- The error of two words; when they are the same. -/
def sameE (a b : ByteArray) : Int := if stV a = 0 then stV b else stV a
def SameW (a b : ByteArray) : Prop := SameL (splitL 80 a.data.toList) (splitL 80 b.data.toList)
theorem parts_fact {s : ByteArray} (h : stV s = 0) : (∀ p ∈ partsW s, p.size ≤ 16) ∧ (partsW s).length ≤ 17 := by
  have h16 := (st_ok h).1
  have hpd := partsW_data s
  refine ⟨fun p hp => ?_, ?_⟩
  · have h1 : p.data.toList ∈ splitL 80 s.data.toList := by rw [← hpd]; exact List.mem_map.2 ⟨p, hp, rfl⟩
    have := splitL_part h1
    have e1 : p.data.toList.length = p.size := by simp
    have e2 : s.data.toList.length = s.size := by simp
    omega
  · have h1 : (partsW s).length = (splitL 80 s.data.toList).length := by rw [← hpd]; simp
    rw [h1, splitL_length]
    have := List.count_le_length (a := (80 : UInt8)) (l := s.data.toList)
    have e2 : s.data.toList.length = s.size := by simp
    omega
theorem split_any (s : ByteArray) (h : stV s = 0) (w : World) (g : Glob w) : Calls Tryz.prog 49 #[.string s, .string ⟨#[80]⟩] w fun e w' => e = .returned (.slice (some ⟨w.heap.size, 0, none⟩) (partsW s).length (partsW s).length) ∧ w' = w.alloc (.cells ((partsW s).map Value.string).toArray 9) := by
  have h16 := (st_ok h).1
  obtain ⟨m, hmx⟩ := g.mx
  have CSp := Tryz.strings_Split s ⟨#[80]⟩ m w (by omega) hmx (by decide)
  rw [← partsW_len s] at CSp
  exact CSp
set_option maxHeartbeats 2000000 in
set_option maxRecDepth 100000 in
theorem stSame_any (a b : ByteArray) (r : Bool) (hr0 : sameE a b ≠ 0 → r = false) (hr1 : sameE a b = 0 → (r = true ↔ SameW a b)) (ha : a.size ≤ maxLen) (hb : b.size ≤ maxLen) (w : World) (g : Glob w) : Calls Tryz.prog 27 #[.string a, .string b] w fun e w' => e = .returned (.tuple #[.bool r, .int .i64 (sameE a b)]) ∧ Below w.heap.size w w' := by
  have CA := Lib.hid (fun W => stCheck_any a W ha)
  have CB := Lib.hid (fun W => stCheck_any b W hb)
  by_cases ea : stV a = 0
  · have e1 : sameE a b = stV b := if_pos ea
    rw [e1] at hr0 hr1 ⊢
    rw [ea] at CA
    by_cases eb : stV b = 0
    · rw [eb] at CB hr1 ⊢
      have hr := hr1 rfl
      obtain ⟨pa, la⟩ := parts_fact ea
      obtain ⟨pb, lb⟩ := parts_fact eb
      have CSa := Lib.hid (split_any a ea w g)
      have CSb := Lib.hid (fun W g => split_any b eb W g)
      have HG := Lib.hid g
      unfold SameW at hr
      rw [← partsW_data a, ← partsW_data b] at hr
      generalize partsW a = xs at *
      generalize partsW b = ys at *
      have HR := Lib.hid hr
      have HPA := Lib.hid pa
      have HPB := Lib.hid pb
      clear hr0 hr1 hr pa pb ea eb e1 g
      go_enter Tryz.func27, Tryz.ntmps27
      go_wp2_with fail
      refine (CA.out _).mono ?_
      rintro e w1 ⟨rfl, hw⟩
      obtain rfl := hw.symm
      clear hw
      go_wp2_with fail
      refine (CB.out _).mono ?_
      rintro e w1 ⟨rfl, hw⟩
      obtain rfl := hw.symm
      clear hw
      go_wp2_with fail
      refine CSa.out.mono ?_
      rintro e w1 ⟨rfl, hw1⟩
      have hb1 : Below w.heap.size w w1 := by rw [hw1]; exact below_alloc _ _
      have h1 : w1.heap[w.heap.size]? = some (.cells (xs.map Value.string).toArray 9 (0, 0)) := by rw [hw1]; exact heap_alloc_new _ _
      have z1 : w.heap.size < w1.heap.size := by rw [hw1]; simp
      have H1 := Lib.hid h1
      have HB1 := Lib.hid hb1
      clear hw1 h1 hb1
      go_wp2_with fail
      refine (CSb.out _ (HG.out.next HB1.out)).mono ?_
      rintro e w2 ⟨rfl, hw2⟩
      have hb2 : Below w1.heap.size w1 w2 := by rw [hw2]; exact below_alloc _ _
      have h2 : w2.heap[w1.heap.size]? = some (.cells (ys.map Value.string).toArray 9 (0, 0)) := by rw [hw2]; exact heap_alloc_new _ _
      have h1 := (hb2.block _ z1).trans H1.out
      have HB2 := Lib.hid (HB1.out.trans (hb2.mono HB1.out.size))
      have CE := Lib.hid (EqualFunc_any xs ys HPA.out HPB.out w.heap.size w1.heap.size _ _ _ _ xs.length ys.length r HR.out ⟨Nat.le_refl _, by omega⟩ ⟨Nat.le_refl _, by omega⟩ w2 h1 h2)
      clear hw2 h1 h2 hb2
      go_wp2_with fail
      refine CE.out.mono ?_
      rintro e w3 ⟨rfl, hb3⟩
      have HB3 := Lib.hid (HB2.out.trans (hb3.mono HB2.out.size))
      clear hb3
      go_wp2_with fail
      go_ret2
      exact ⟨rfl, HB3.out⟩
    · obtain rfl := hr0 eb
      generalize stV b = z at *
      have hq : (z != 0) = true := by simpa using eb
      clear hr0 hr1 ea eb e1 g
      go_enter Tryz.func27, Tryz.ntmps27
      go_wp2_with fail
      refine (CA.out _).mono ?_
      rintro e w1 ⟨rfl, hw⟩
      obtain rfl := hw.symm
      clear hw
      go_wp2_with fail
      refine (CB.out _).mono ?_
      rintro e w1 ⟨rfl, hw⟩
      obtain rfl := hw.symm
      clear hw
      go_wp2_with fail
      go_ret2
      exact ⟨rfl, Below.refl _ _⟩
  · have e1 : sameE a b = stV a := if_neg ea
    rw [e1] at hr0 hr1 ⊢
    obtain rfl := hr0 ea
    generalize stV a = z at *
    have hq : (z != 0) = true := by simpa using ea
    clear hr0 hr1 ea e1 g
    go_enter Tryz.func27, Tryz.ntmps27
    go_wp2_with fail
    refine (CA.out _).mono ?_
    rintro e w1 ⟨rfl, hw⟩
    obtain rfl := hw.symm
    clear hw
    go_wp2_with fail
    go_ret2
    exact ⟨rfl, Below.refl _ _⟩
end Go.Proofs.YtmefpaoakblndaaGreatDoor
