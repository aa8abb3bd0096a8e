/- Words with other letters, by the reference. -/
import Derived.Test.YtmefpaoakblndaaGreatDoorVH
namespace Go.Proofs.YtmefpaoakblndaaGreatDoor
open Go.RowKit Go.Lib
def isTabR (t : ByteArray) (f : UInt8 → UInt8) : Prop := t.size = 9 ∧ ∀ c, isLt c = true → 0 ≤ idxL c lettersU 0 ∧ idxL c lettersU 0 < 9 ∧ t.data.toList[(idxL c lettersU 0).toNat]? = some (f c)
theorem isTabR_of {t : ByteArray} {f : UInt8 → UInt8} (h9 : t.size = 9) (h : (List.range 256).all (fun n => !isLt (UInt8.ofNat n) || (decide (0 ≤ idxL (UInt8.ofNat n) lettersU 0) && decide (idxL (UInt8.ofNat n) lettersU 0 < 9) && decide (t.data.toList[(idxL (UInt8.ofNat n) lettersU 0).toNat]? = some (f (UInt8.ofNat n))))) = true) : isTabR t f :=
  ⟨h9, fun c hc => by
    have := byte_all (p := fun c => !isLt c || (decide (0 ≤ idxL c lettersU 0) && decide (idxL c lettersU 0 < 9) && decide (t.data.toList[(idxL c lettersU 0).toNat]? = some (f c)))) h c
    rw [hc] at this
    simp only [Bool.not_true, Bool.false_or, Bool.and_eq_true, decide_eq_true_eq] at this
    exact ⟨this.1.1, this.1.2, this.2⟩⟩
def tabU2 : ByteArray := ⟨#[99, 116, 108, 114, 80, 67, 84, 76, 82]⟩
def tabF2 : ByteArray := ⟨#[67, 84, 82, 76, 80, 99, 116, 114, 108]⟩
def tabM2 : ByteArray := ⟨#[99, 116, 114, 108, 80, 67, 84, 82, 76]⟩
theorem isTabU2 : isTabR tabU2 uns := isTabR_of rfl (by decide +kernel)
theorem isTabF2 : isTabR tabF2 flp := isTabR_of rfl (by decide +kernel)
theorem isTabM2 : isTabR tabM2 mir := isTabR_of rfl (by decide +kernel)
theorem cat_one (L : List UInt8) (t : ByteArray) {q : Nat} {x : UInt8} (hx : t.data.toList[q]? = some x) : (⟨L.toArray⟩ : ByteArray) ++ t.extract q (q + 1) = ⟨(L ++ [x]).toArray⟩ := by
  apply ByteArray.ext
  apply Array.toList_inj.1
  rw [ByteArray.data_append, Array.toList_append, ByteArray.data_extract, Array.toList_extract]
  simp only [List.extract_eq_take_drop]
  rw [show q + 1 - q = 1 by omega]
  have hq := (List.getElem?_eq_some_iff.1 hx)
  obtain ⟨h1, h2⟩ := hq
  rw [List.drop_eq_getElem_cons h1, h2]
  simp
set_option maxHeartbeats 1000000 in
set_option maxRecDepth 100000 in
theorem refchanged_any (s t : ByteArray) (f : UInt8 → UInt8) (ht : isTabR t f) (w : World) : Calls Tryz.prog 48 #[.string s, .string t] w fun e w' => e = .returned (.tuple #[.string (chgS f s), .int .i64 (stV s)]) ∧ Below w.heap.size w w' := by
  have CK := Lib.hid (fun W => refCheck3_any s W)
  obtain ⟨z, hz⟩ : ∃ z, z = stV s := ⟨_, rfl⟩
  have hv : chgS f s = if z = 0 then ⟨(s.data.toList.map f).toArray⟩ else ByteArray.empty := by rw [hz]; rfl
  rw [hv]
  rw [← hz] at CK ⊢
  by_cases h0 : z = 0
  · subst h0
    obtain ⟨h16, hall⟩ := st_ok hz.symm
    obtain ⟨ht9, htab⟩ := ht
    have HT := Lib.hid htab
    have HA := Lib.hid hall
    rw [if_pos rfl]
    clear hz hv hall htab
    go_enter Tryz.func48, Tryz.ntmps48
    go_wp2_with fail
    refine (CK.out _).mono ?_
    rintro e w1 ⟨rfl, hw1⟩
    obtain rfl := hw1.symm
    clear hw1
    go_wp2_with fail
    go_loopw [7, 8] (fun vo i wr => ∃ k : Nat, k ≤ s.size ∧ i = .int .i64 k ∧ vo = .string ⟨((s.data.toList.map f).take k).toArray⟩ ∧ wr = w) (fun _ i _ => s.size - (intOf i).toNat)
    case atStart => exact ⟨0, Nat.zero_le _, rfl, rfl, rfl⟩
    case round =>
      obtain ⟨k, hk, rfl, rfl, rfl⟩ := hrel
      by_cases hkl : k < s.size
      · have k0 : (0 : Int) ≤ (k : Int) := by omega
        have k1 : (k : Int) < (s.size : Int) := by omega
        have hkb := byte_get hkl
        have hlt : isLt s[k] = true := List.all_eq_true.1 HA.out _ (List.mem_of_getElem? hkb)
        obtain ⟨i0, i1, it⟩ := HT.out _ hlt
        have CI : ∀ W, Calls Tryz.prog 39 #[.string ⟨#[67, 84, 76, 82, 80, 99, 116, 108, 114]⟩, .int .u8 (s[k].toNat : Int)] W fun e w' => e = .returned (.int .i64 (idxL s[k] lettersU 0)) ∧ w' = W := fun W => refIndex_any ⟨#[67, 84, 76, 82, 80, 99, 116, 108, 114]⟩ s[k] (by decide) W
        generalize idxL s[k] lettersU 0 = zz at *
        obtain ⟨p, rfl⟩ : ∃ p : Nat, zz = (p : Int) := ⟨zz.toNat, by omega⟩
        rw [Int.toNat_natCast] at it
        have CI2 := Lib.hid CI
        have hp1 : (p : Int) + 1 ≤ (t.size : Int) := by omega
        have HC := Lib.hid (cat_one ((s.data.toList.map f).take k) t it)
        have HN := Lib.hid (show (s.data.toList.map f).take (k + 1) = (s.data.toList.map f).take k ++ [f s[k]] by
          rw [List.take_add_one, List.getElem?_map, hkb]; rfl)
        have hl1 : (⟨((s.data.toList.map f).take k).toArray⟩ : ByteArray).size ≤ 1000 := by
          show ((s.data.toList.map f).take k).toArray.size ≤ 1000
          simp; omega
        have hl2 : (t.extract p (p + 1)).size ≤ 1000 := by rw [ByteArray.size_extract]; omega
        clear CI hkb hlt it
        go_wp2_with fail
        refine (CI2.out _).mono ?_
        rintro e w2 ⟨rfl, rfl⟩
        go_wp2_with fail
        go_roundw
        case rel => exact ⟨k + 1, hkl, by go_num, by rw [HC.out, HN.out], by first | trivial | rfl⟩
        case measure => (simp [intOf] <;> omega)
      · have k1 : ¬ (k : Int) < (s.size : Int) := by omega
        have e : (s.data.toList.map f).take k = s.data.toList.map f := List.take_of_length_le (by rw [List.length_map]; simp; omega)
        have HE := Lib.hid e
        clear e
        go_wp2_with fail
        go_ret2
        rw [HE.out]
        exact ⟨rfl, Below.refl _ _⟩
  · have hq : (z != 0) = true := by simpa using h0
    rw [if_neg h0]
    clear hz hv
    go_enter Tryz.func48, Tryz.ntmps48
    go_wp2_with fail
    refine (CK.out _).mono ?_
    rintro e w1 ⟨rfl, rfl⟩
    go_wp2_with fail
    go_ret2
    exact ⟨rfl, Below.refl _ _⟩
set_option maxHeartbeats 1000000 in
theorem refFlip_any (s : ByteArray) (w : World) : Calls Tryz.prog 22 #[.string s] w fun e w' => e = .returned (.tuple #[.string (chgS flp s), .int .i64 (stV s)]) ∧ Below w.heap.size w w' := by
  have CC := Lib.hid (fun W => refchanged_any s tabF2 flp isTabF2 W)
  generalize chgS flp s = r at *
  generalize stV s = z at *
  go_enter Tryz.func22, Tryz.ntmps22
  go_wp2_with fail
  refine (CC.out _).mono ?_
  rintro e w1 ⟨rfl, hb⟩
  have HB := Lib.hid hb
  clear hb
  go_wp2_with fail
  go_ret2
  exact ⟨rfl, HB.out⟩
set_option maxHeartbeats 1000000 in
theorem refMirror_any (s : ByteArray) (w : World) : Calls Tryz.prog 24 #[.string s] w fun e w' => e = .returned (.tuple #[.string (chgS mir s), .int .i64 (stV s)]) ∧ Below w.heap.size w w' := by
  have CC := Lib.hid (fun W => refchanged_any s tabM2 mir isTabM2 W)
  generalize chgS mir s = r at *
  generalize stV s = z at *
  go_enter Tryz.func24, Tryz.ntmps24
  go_wp2_with fail
  refine (CC.out _).mono ?_
  rintro e w1 ⟨rfl, hb⟩
  have HB := Lib.hid hb
  clear hb
  go_wp2_with fail
  go_ret2
  exact ⟨rfl, HB.out⟩
theorem cat_pre (L : List UInt8) (t : ByteArray) {q : Nat} {x : UInt8} (hx : t.data.toList[q]? = some x) : t.extract q (q + 1) ++ (⟨L.toArray⟩ : ByteArray) = ⟨(x :: L).toArray⟩ := by
  apply ByteArray.ext
  apply Array.toList_inj.1
  rw [ByteArray.data_append, Array.toList_append, ByteArray.data_extract, Array.toList_extract]
  simp only [List.extract_eq_take_drop]
  rw [show q + 1 - q = 1 by omega]
  obtain ⟨h1, h2⟩ := (List.getElem?_eq_some_iff.1 hx)
  rw [List.drop_eq_getElem_cons h1, h2]
  simp
theorem rev_take {l : List UInt8} {k : Nat} {x : UInt8} (h : l[k]? = some x) : (l.take (k + 1)).reverse = x :: (l.take k).reverse := by
  rw [List.take_add_one, h]; simp
theorem undS_eq (s : ByteArray) : undS s = ⟨(chgS uns s).data.toList.reverse.toArray⟩ := by
  unfold undS chgS
  split
  · rfl
  · rfl
theorem chgS_size (f : UInt8 → UInt8) (s : ByteArray) : (chgS f s).size ≤ 16 := by
  unfold chgS
  split
  · rename_i h
    have := (st_ok h).1
    show ((s.data.toList.map f).toArray).size ≤ 16
    simpa using this
  · exact Nat.zero_le _
set_option maxHeartbeats 1000000 in
set_option maxRecDepth 100000 in
theorem refInverse_any (s : ByteArray) (w : World) : Calls Tryz.prog 20 #[.string s] w fun e w' => e = .returned (.tuple #[.string (undS s), .int .i64 (stV s)]) ∧ Below w.heap.size w w' := by
  have CC := Lib.hid (fun W => refchanged_any s tabU2 uns isTabU2 W)
  have hz := chgS_size uns s
  rw [undS_eq]
  generalize chgS uns s = r at *
  generalize stV s = z at *
  go_enter Tryz.func20, Tryz.ntmps20
  go_wp2_with fail
  refine (CC.out _).mono ?_
  rintro e w1 ⟨rfl, hb⟩
  have HB := Lib.hid hb
  clear hb
  go_wp2_with fail
  go_loopw [6, 7] (fun vo i wr => ∃ k : Nat, k ≤ r.size ∧ i = .int .i64 k ∧ vo = .string ⟨(r.data.toList.take k).reverse.toArray⟩ ∧ wr = w1) (fun _ i _ => r.size - (intOf i).toNat)
  case atStart => exact ⟨0, Nat.zero_le _, rfl, rfl, rfl⟩
  case round =>
    obtain ⟨k, hk, rfl, rfl, rfl⟩ := hrel
    by_cases hkl : k < r.size
    · have k0 : (0 : Int) ≤ (k : Int) := by omega
      have k1 : (k : Int) < (r.size : Int) := by omega
      have hk2 : (k : Int) + 1 ≤ (r.size : Int) := by omega
      have hkb := byte_get hkl
      have HC := Lib.hid (cat_pre (r.data.toList.take k).reverse r hkb)
      have HN := Lib.hid (rev_take hkb)
      have hl1 : (⟨(r.data.toList.take k).reverse.toArray⟩ : ByteArray).size ≤ 1000 := by
        show ((r.data.toList.take k).reverse.toArray).size ≤ 1000
        simp; omega
      have hl2 : (r.extract k (k + 1)).size ≤ 1000 := by rw [ByteArray.size_extract]; omega
      clear hkb
      go_wp2_with fail
      go_roundw
      case rel => exact ⟨k + 1, hkl, by go_num, by rw [HC.out, HN.out], by first | trivial | rfl⟩
      case measure => (simp [intOf] <;> omega)
    · have k1 : ¬ (k : Int) < (r.size : Int) := by omega
      have HE := Lib.hid (show r.data.toList.take k = r.data.toList from List.take_of_length_le (by simp; omega))
      go_wp2_with fail
      go_ret2
      rw [HE.out]
      exact ⟨rfl, HB.out⟩
end Go.Proofs.YtmefpaoakblndaaGreatDoor
