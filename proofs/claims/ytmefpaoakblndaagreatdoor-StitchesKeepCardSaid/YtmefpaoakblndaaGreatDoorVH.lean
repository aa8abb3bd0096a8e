/- slices.Reverse of bytes; Inverse, Flip, Mirror on both sides. -/
import Derived.Test.YtmefpaoakblndaaGreatDoorVE
namespace Go.Proofs.YtmefpaoakblndaaGreatDoor
open Go.RowKit Go.Lib
theorem rev_next {l R : List UInt8} {k m n : Nat} {x y : UInt8} (hn : l.length = n) (hm : m + k + 1 = n) (hkm : k < m) (hR : R.length = n) (hx : l[k]? = some x) (hy : l[m]? = some y) (h : ∀ p, p < n → R[p]? = if p < k ∨ m < p then l[n - 1 - p]? else l[p]?) :
    ∀ p, p < n → ((R.set k y).set m x)[p]? = if p < k + 1 ∨ m - 1 < p then l[n - 1 - p]? else l[p]? := fun p hp => by
  rw [List.getElem?_set, List.length_set, List.getElem?_set]
  by_cases e1 : m = p
  · subst e1
    rw [if_pos rfl, if_pos (by omega), if_pos (by omega), show n - 1 - m = k by omega, hx]
  · rw [if_neg e1]
    by_cases e2 : k = p
    · subst e2
      rw [if_pos rfl, if_pos (by omega), if_pos (by omega), show n - 1 - k = m by omega, hy]
    · rw [if_neg e2, h p hp]
      by_cases e3 : p < k ∨ m < p
      · rw [if_pos e3, if_pos (by omega)]
      · rw [if_neg e3, if_neg (by omega)]
theorem rev_end {l R : List UInt8} {k n : Nat} {m : Int} (hn : l.length = n) (hm : m = (n : Int) - 1 - k) (hkm : ¬ (k : Int) < m) (hR : R.length = n) (h : ∀ p, p < n → R[p]? = if p < k ∨ m < (p : Int) then l[n - 1 - p]? else l[p]?) : R = l.reverse := by
  apply List.ext_getElem?
  intro p
  by_cases hp : p < n
  · rw [h p hp, List.getElem?_reverse (by omega), hn]
    split
    · rfl
    · rw [show n - 1 - p = p by omega]
  · rw [List.getElem?_eq_none (by omega), List.getElem?_eq_none (by simp; omega)]
theorem bytes_set (R : List UInt8) (k : Nat) (x : UInt8) : (Lib.byteCells R).set k (.int .u8 (x.toNat : Int)) = Lib.byteCells (R.set k x) := by
  unfold Lib.byteCells
  rw [List.map_set]
set_option maxHeartbeats 1000000 in
set_option maxRecDepth 100000 in
theorem reverse_any (l : List UInt8) (B g c n : Nat) (hn : l.length = n) (hs : n < 100000) (w : World) (hown0 : w.ownsRow B 5 1 (.slice (some ⟨g, 0, none⟩) n c) n (Lib.byteCells l)) (hBg : B ≤ g) :
    Calls Tryz.prog 47 #[.slice (some ⟨g, 0, none⟩) n c] w fun e w' => e = .returned (.tuple #[]) ∧ w'.ownsRow B 5 1 (.slice (some ⟨g, 0, none⟩) n c) n (Lib.byteCells l.reverse) ∧ Below B w w' := by
  have HO := Lib.hid hown0
  clear hown0
  have hwn : IntKind.i64.wrap ((n : Int) - 1) = (n : Int) - 1 := IntWalk.i64_in _ (by omega)
  go_enter Tryz.func47, Tryz.ntmps47
  go_wp2_with fail
  go_loopw [2, 3] (fun i j wr => ∃ (k : Nat) (m : Int) (R : List UInt8), i = .int .i64 k ∧ j = .int .i64 m ∧ m = (n : Int) - 1 - k ∧ k ≤ n ∧ R.length = n ∧ (∀ p, p < n → R[p]? = if p < k ∨ m < (p : Int) then l[n - 1 - p]? else l[p]?) ∧ wr.ownsRow B 5 1 (.slice (some ⟨g, 0, none⟩) n c) n (Lib.byteCells R) ∧ Below B w wr) (fun i _ _ => n - (intOf i).toNat)
  case atStart => exact ⟨0, (n : Int) - 1, l, rfl, rfl, by omega, Nat.zero_le _, hn, fun p hp => by rw [if_neg (by omega)], HO.out, Below.refl _ w⟩
  case round =>
    obtain ⟨k, m, R, rfl, rfl, hm, hk, hRl, hR, hown, hbw⟩ := hrel
    have HR := Lib.hid hR
    clear hR
    by_cases hkm : (k : Int) < m
    · obtain ⟨q, rfl⟩ : ∃ q : Nat, m = (q : Int) := ⟨m.toNat, by omega⟩
      obtain ⟨x, hx⟩ : ∃ x, l[k]? = some x := ⟨_, List.getElem?_eq_getElem (by omega)⟩
      obtain ⟨y, hy⟩ : ∃ y, l[q]? = some y := ⟨_, List.getElem?_eq_getElem (by omega)⟩
      have rk := HR.out k (by omega)
      rw [if_neg (by omega), hx] at rk
      have rq := HR.out q (by omega)
      rw [if_neg (by omega), hy] at rq
      have Hn := Lib.hid (rev_next (m := q) hn (by omega) (by omega) hRl hx hy (fun p hp => by rw [HR.out p hp]; simp only [Int.ofNat_lt]))
      have HN := Lib.hid (show ∀ p, p < n → ((R.set k y).set q x)[p]? = if p < k + 1 ∨ (q : Int) - 1 < (p : Int) then l[n - 1 - p]? else l[p]? from fun p hp => by
        rw [Hn.out p hp]
        have : (p < k + 1 ∨ q - 1 < p) ↔ (p < k + 1 ∨ (q : Int) - 1 < (p : Int)) := by omega
        simp only [this])
      have e0 : wr.cell? ⟨g, k, none⟩ = some (.int .u8 (x.toNat : Int)) := by rw [hown.cellAt k (by omega)]; unfold Lib.byteCells; rw [List.getElem?_map, rk]; rfl
      have e1 : wr.cell? ⟨g, q, none⟩ = some (.int .u8 (y.toNat : Int)) := by rw [hown.cellAt q (by omega)]; unfold Lib.byteCells; rw [List.getElem?_map, rq]; rfl
      have f0 := hown.frozenAt k
      have f1 := hown.frozenAt q
      have hs1 := (hown.stored k (.int .u8 (y.toNat : Int))).1
      have hs2 := (hs1.stored q (.int .u8 (x.toNat : Int))).1
      rw [bytes_set, bytes_set] at hs2
      have Hs2 := Lib.hid hs2.drew
      have Hbw2 := Lib.hid (((hbw.setCell (p := ⟨g, k, none⟩) hBg (.int .u8 (y.toNat : Int))).setCell (p := ⟨g, q, none⟩) hBg (.int .u8 (x.toNat : Int))).drew)
      have n1 : (0 : Int) ≤ (k : Int) := by omega
      have n2 : (k : Int) < (n : Int) := by omega
      have n3 : (0 : Int) ≤ (q : Int) := by omega
      have n4 : (q : Int) < (n : Int) := by omega
      have hwq : IntKind.i64.wrap ((q : Int) - 1) = (q : Int) - 1 := IntWalk.i64_in _ (by omega)
      have hne : k ≠ q := by omega
      have HM := Lib.hid hm
      have HL := Lib.hid (show ((R.set k y).set q x).length = n by simp [hRl])
      clear hs1 hs2 hown hbw rk rq hx hy hm
      go_wp2_with fail
      go_region
      go_wp2_with fail
      go_roundw
      case rel => exact ⟨k + 1, (q : Int) - 1, _, by go_num, rfl, by have := HM.out; omega, by omega, HL.out, HN.out, Hs2.out, Hbw2.out⟩
      case measure => (simp [intOf] <;> omega)
    · have e := rev_end hn hm hkm hRl HR.out
      rw [e] at hown
      have HO := Lib.hid hown
      clear hown e hm
      go_wp2_with fail
      go_end0
      exact ⟨rfl, HO.out, hbw⟩
def tabU' : ByteArray := ⟨#[99, 108, 114, 116, 80, 67, 76, 82, 84]⟩
def tabF' : ByteArray := ⟨#[67, 82, 76, 84, 80, 99, 114, 108, 116]⟩
def tabM' : ByteArray := ⟨#[99, 114, 108, 116, 80, 67, 82, 76, 84]⟩
theorem isTab_of {t : ByteArray} {f : UInt8 → UInt8} (h9 : t.size = 9) (h : (List.range 256).all (fun n => !isLt (UInt8.ofNat n) || (decide (0 ≤ firstIdx lettersP (UInt8.ofNat n)) && decide (firstIdx lettersP (UInt8.ofNat n) < 9) && decide (t.data.toList[(firstIdx lettersP (UInt8.ofNat n)).toNat]? = some (f (UInt8.ofNat n))))) = true) : isTab t f :=
  ⟨h9, fun c hc => by
    have := byte_all (p := fun c => !isLt c || (decide (0 ≤ firstIdx lettersP c) && decide (firstIdx lettersP c < 9) && decide (t.data.toList[(firstIdx lettersP c).toNat]? = some (f c)))) h c
    rw [hc] at this
    simp only [Bool.not_true, Bool.false_or, Bool.and_eq_true, decide_eq_true_eq] at this
    exact ⟨this.1.1, this.1.2, this.2⟩⟩
theorem isTabU : isTab tabU' uns := isTab_of rfl (by decide +kernel)
theorem isTabF : isTab tabF' flp := isTab_of rfl (by decide +kernel)
theorem isTabM : isTab tabM' mir := isTab_of rfl (by decide +kernel)
/-- A word with other letters, and one that is undone. -/
def chgS (f : UInt8 → UInt8) (s : ByteArray) : ByteArray := if stV s = 0 then ⟨(s.data.toList.map f).toArray⟩ else ByteArray.empty
def undS (s : ByteArray) : ByteArray := if stV s = 0 then ⟨(s.data.toList.map uns).reverse.toArray⟩ else ByteArray.empty
set_option maxHeartbeats 1000000 in
set_option maxRecDepth 100000 in
theorem Flip_any (s : ByteArray) (hs : s.size ≤ maxLen) (w : World) : Calls Tryz.prog 21 #[.string s] w fun e w' => e = .returned (.tuple #[.string (chgS flp s), .int .i64 (stV s)]) ∧ Below w.heap.size w w' := by
  have CK := Lib.hid (fun W => stCheck_any s W hs)
  obtain ⟨z, hz⟩ : ∃ z, z = stV s := ⟨_, rfl⟩
  have hv : chgS flp s = if z = 0 then ⟨(s.data.toList.map flp).toArray⟩ else ByteArray.empty := by rw [hz]; rfl
  rw [hv]
  rw [← hz] at CK ⊢
  by_cases h0 : z = 0
  · subst h0
    obtain ⟨h16, hall⟩ := st_ok hz.symm
    have CE := Lib.hid (fun W => exchanged_any s tabF' flp isTabF h16 hall W)
    rw [if_pos rfl]
    clear hz hv hall
    go_enter Tryz.func21, Tryz.ntmps21
    go_wp2_with fail
    refine (CK.out _).mono ?_
    rintro e w1 ⟨rfl, rfl⟩
    go_wp2_with fail
    refine (CE.out _).mono ?_
    rintro e w2 ⟨g, c, rfl, hown, hb⟩
    have hcv := own_str (by rw [List.length_map]; simp) hown
    have HB := Lib.hid hb
    clear hown hb
    go_wp2_with fail
    go_ret2
    exact ⟨rfl, HB.out⟩
  · have hq : (z != 0) = true := by simpa using h0
    rw [if_neg h0]
    clear hz hv
    go_enter Tryz.func21, Tryz.ntmps21
    go_wp2_with fail
    refine (CK.out _).mono ?_
    rintro e w1 ⟨rfl, rfl⟩
    go_wp2_with fail
    go_ret2
    exact ⟨rfl, Below.refl _ _⟩
set_option maxHeartbeats 1000000 in
set_option maxRecDepth 100000 in
theorem Mirror_any (s : ByteArray) (hs : s.size ≤ maxLen) (w : World) : Calls Tryz.prog 23 #[.string s] w fun e w' => e = .returned (.tuple #[.string (chgS mir s), .int .i64 (stV s)]) ∧ Below w.heap.size w w' := by
  have CK := Lib.hid (fun W => stCheck_any s W hs)
  obtain ⟨z, hz⟩ : ∃ z, z = stV s := ⟨_, rfl⟩
  have hv : chgS mir s = if z = 0 then ⟨(s.data.toList.map mir).toArray⟩ else ByteArray.empty := by rw [hz]; rfl
  rw [hv]
  rw [← hz] at CK ⊢
  by_cases h0 : z = 0
  · subst h0
    obtain ⟨h16, hall⟩ := st_ok hz.symm
    have CE := Lib.hid (fun W => exchanged_any s tabM' mir isTabM h16 hall W)
    rw [if_pos rfl]
    clear hz hv hall
    go_enter Tryz.func23, Tryz.ntmps23
    go_wp2_with fail
    refine (CK.out _).mono ?_
    rintro e w1 ⟨rfl, rfl⟩
    go_wp2_with fail
    refine (CE.out _).mono ?_
    rintro e w2 ⟨g, c, rfl, hown, hb⟩
    have hcv := own_str (by rw [List.length_map]; simp) hown
    have HB := Lib.hid hb
    clear hown hb
    go_wp2_with fail
    go_ret2
    exact ⟨rfl, HB.out⟩
  · have hq : (z != 0) = true := by simpa using h0
    rw [if_neg h0]
    clear hz hv
    go_enter Tryz.func23, Tryz.ntmps23
    go_wp2_with fail
    refine (CK.out _).mono ?_
    rintro e w1 ⟨rfl, rfl⟩
    go_wp2_with fail
    go_ret2
    exact ⟨rfl, Below.refl _ _⟩
set_option maxHeartbeats 1000000 in
set_option maxRecDepth 100000 in
theorem Inverse_any (s : ByteArray) (hs : s.size ≤ maxLen) (w : World) : Calls Tryz.prog 19 #[.string s] w fun e w' => e = .returned (.tuple #[.string (undS s), .int .i64 (stV s)]) ∧ Below w.heap.size w w' := by
  have CK := Lib.hid (fun W => stCheck_any s W hs)
  obtain ⟨z, hz⟩ : ∃ z, z = stV s := ⟨_, rfl⟩
  have hv : undS s = if z = 0 then ⟨(s.data.toList.map uns).reverse.toArray⟩ else ByteArray.empty := by rw [hz]; rfl
  rw [hv]
  rw [← hz] at CK ⊢
  by_cases h0 : z = 0
  · subst h0
    obtain ⟨h16, hall⟩ := st_ok hz.symm
    have CE := Lib.hid (fun W => exchanged_any s tabU' uns isTabU h16 hall W)
    rw [if_pos rfl]
    clear hz hv hall
    go_enter Tryz.func19, Tryz.ntmps19
    go_wp2_with fail
    refine (CK.out _).mono ?_
    rintro e w1 ⟨rfl, rfl⟩
    go_wp2_with fail
    refine (CE.out _).mono ?_
    rintro e w2 ⟨g, c, rfl, hown, hb⟩
    have hg := (hown.lt g rfl).1
    have CR := Lib.hid (reverse_any _ _ g c s.size (by rw [List.length_map]; simp) (by omega) w2 hown hg)
    have HB := Lib.hid hb
    clear hown hb
    go_wp2_with fail
    refine CR.out.mono ?_
    rintro e w3 ⟨rfl, hown, hb3⟩
    have hcv := own_str (by rw [List.length_reverse, List.length_map]; simp) hown
    have HB3 := Lib.hid (HB.out.trans hb3)
    clear hown hb3
    go_wp2_with fail
    go_ret2
    exact ⟨rfl, HB3.out⟩
  · have hq : (z != 0) = true := by simpa using h0
    rw [if_neg h0]
    clear hz hv
    go_enter Tryz.func19, Tryz.ntmps19
    go_wp2_with fail
    refine (CK.out _).mono ?_
    rintro e w1 ⟨rfl, rfl⟩
    go_wp2_with fail
    go_ret2
    exact ⟨rfl, Below.refl _ _⟩
end Go.Proofs.YtmefpaoakblndaaGreatDoor
