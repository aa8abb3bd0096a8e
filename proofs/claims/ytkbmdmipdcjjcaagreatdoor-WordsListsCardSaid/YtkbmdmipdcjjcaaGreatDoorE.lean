/- Where a field of a line ends: the closure of cutField, strings.indexFunc at it, cutField. -/
import Derived.Test.YtkbmdmipdcjjcaaGreatDoorC
import Derived.Lib.SpaceUEq
import Derived.Lib.OthersKept
import Derived.Deep.LoopGhost
import Derived.Deep.QuietTactic
import Derived.BigQuiet
namespace Go.Proofs.YtkbmdmipdcjjcaaGreatDoor
open Go.RowKit

/-- The place of the first blank that is not quoted; -1: there is none. -/
def idxF : Bool → List UInt8 → Int
  | _, [] => -1
  | ins, b :: l => if b = 32 ∧ ins = false then 0 else if idxF (if b = 34 then !ins else ins) l = -1 then -1 else idxF (if b = 34 then !ins else ins) l + 1
def idxAt (s : ByteArray) (pos : Nat) (ins : Bool) : Int := if idxF ins (s.data.toList.drop pos) = -1 then -1 else (pos : Int) + idxF ins (s.data.toList.drop pos)
theorem idxF_ge : ∀ (ins : Bool) (l : List UInt8), -1 ≤ idxF ins l
  | _, [] => by simp [idxF]
  | ins, b :: l => by
    have := idxF_ge (if b = 34 then !ins else ins) l
    unfold idxF
    generalize idxF (if b = 34 then !ins else ins) l = r at *
    split
    · omega
    · split <;> omega
theorem idxF_lt : ∀ (ins : Bool) (l : List UInt8), idxF ins l < l.length
  | _, [] => by simp [idxF]
  | ins, b :: l => by
    have := idxF_lt (if b = 34 then !ins else ins) l
    unfold idxF
    generalize idxF (if b = 34 then !ins else ins) l = r at *
    rw [List.length_cons]
    split
    · omega
    · split <;> omega
theorem idxAt_end {s : ByteArray} {pos : Nat} (ins : Bool) (h : ¬ pos < s.size) : idxAt s pos ins = -1 := by
  unfold idxAt; rw [List.drop_of_length_le (by rw [size_len]; omega)]; simp [idxF]
theorem drop_at {s : ByteArray} {pos : Nat} (h : pos < s.size) : s.data.toList.drop pos = s[pos] :: s.data.toList.drop (pos + 1) := by
  have h' : pos < s.data.toList.length := by rw [size_len]; exact h
  rw [List.drop_eq_getElem_cons h']; rfl
theorem idxAt_blank {s : ByteArray} {pos : Nat} (h : pos < s.size) (hb : s[pos].toNat = 32) : idxAt s pos false = pos := by
  have : s[pos] = 32 := UInt8.toNat.inj hb
  unfold idxAt; rw [drop_at h, this]; simp [idxF]
theorem idxAt_step {s : ByteArray} {pos : Nat} (h : pos < s.size) (ins : Bool) (hb : ¬ (s[pos].toNat = 32 ∧ ins = false)) : idxAt s pos ins = idxAt s (pos + 1) (if s[pos].toNat = 34 then !ins else ins) := by
  have e1 : (s[pos] = 32 ∧ ins = false) ↔ (s[pos].toNat = 32 ∧ ins = false) := ⟨fun e => ⟨by rw [e.1]; rfl, e.2⟩, fun e => ⟨UInt8.toNat.inj e.1, e.2⟩⟩
  have e2 : (s[pos] = 34) = (s[pos].toNat = 34) := propext ⟨fun e => by rw [e]; rfl, fun e => UInt8.toNat.inj e⟩
  unfold idxAt
  rw [drop_at h]
  have hx : idxF ins (s[pos] :: s.data.toList.drop (pos + 1)) = if idxF (if s[pos].toNat = 34 then !ins else ins) (s.data.toList.drop (pos + 1)) = -1 then -1 else idxF (if s[pos].toNat = 34 then !ins else ins) (s.data.toList.drop (pos + 1)) + 1 := by
    conv => lhs; unfold idxF
    rw [if_neg (fun e => hb (e1.1 e))]
    simp only [e2]
  rw [hx]
  have hge := idxF_ge (if s[pos].toNat = 34 then !ins else ins) (s.data.toList.drop (pos + 1))
  by_cases hm : idxF (if s[pos].toNat = 34 then !ins else ins) (s.data.toList.drop (pos + 1)) = -1
  · rw [if_pos hm, if_pos rfl, if_pos hm]
  · rw [if_neg hm, if_neg (by omega), if_neg hm]; omega
theorem getD_at {s : ByteArray} {pos : Nat} (h : pos < s.size) : s.data.toList.getD pos 0 = s[pos] := by
  have h' : pos < s.data.toList.length := by rw [size_len]; exact h
  rw [List.getD_eq_getElem?_getD, List.getElem?_eq_getElem h']; rfl
theorem idxAt_skip {s : ByteArray} (ins : Bool) : ∀ (k pos : Nat), pos + k ≤ s.size → (∀ j, j < k → 128 ≤ (s.data.toList.getD (pos + j) 0).toNat) → idxAt s pos ins = idxAt s (pos + k) ins
  | 0, pos, _, _ => rfl
  | k + 1, pos, hk, hj => by
    have h : pos < s.size := by omega
    have h0 := hj 0 (by omega)
    rw [Nat.add_zero, getD_at h] at h0
    rw [idxAt_step h ins (by omega), if_neg (by omega), idxAt_skip ins k (pos + 1) (by omega) (fun j hj' => by have := hj (j + 1) (by omega); rw [show pos + 1 + j = pos + (j + 1) by omega]; exact this)]
    rw [show pos + 1 + k = pos + (k + 1) by omega]

theorem decode_two (s : ByteArray) (pos : Nat) (h : pos < s.size) :
    ((s[pos].toNat < 128 ∧ (Utf8.decode s pos).1 = s[pos].toNat ∧ (Utf8.decode s pos).2 = 1) ∨
    (128 ≤ (Utf8.decode s pos).1 ∧ pos + (Utf8.decode s pos).2 ≤ s.size ∧ ∀ j, j < (Utf8.decode s pos).2 → 128 ≤ (s.data.toList.getD (pos + j) 0).toNat)) := by
  have e0 := getD_at h
  rw [Lib.decode_N, e0]
  by_cases ha : s[pos].toNat < 128
  · rw [Lib.decodeN_ascii _ _ _ _ _ ha]; exact .inl ⟨ha, rfl, rfl⟩
  · refine .inr ?_
    obtain ⟨c2, c3, c4, c5⟩ := Lib.decodeN_conts (s.data.toList.length - pos) s[pos].toNat (s.data.toList.getD (pos + 1) 0).toNat (s.data.toList.getD (pos + 2) 0).toNat (s.data.toList.getD (pos + 3) 0).toNat
    refine ⟨?_, ?_, ?_⟩
    · unfold Lib.decodeN
      rw [if_neg ha]
      repeat' split
      all_goals (simp only; omega)
    · rw [size_len] at c2 c3 c4 c5 ⊢
      omega
    · intro j hj
      match j, hj with
      | 0, _ => rw [Nat.add_zero, e0]; omega
      | 1, hj => have := (c2 (by omega)).1; omega
      | 2, hj => have := (c3 (by omega)).1; omega
      | 3, hj => have := (c4 (by omega)).1; omega
      | j + 4, hj => omega

set_option maxHeartbeats 400000 in
theorem ends_mark (B : Nat) (ins : Bool) (w : World) (hc : w.cell? ⟨B, 0, none⟩ = some (.bool ins)) (hf : w.frozen? ⟨B, 0, none⟩ = false) :
    Calls Tryz.prog 49 #[.int .i32 34, .pointer (some ⟨B, 0, none⟩)] w fun e w' => e = .returned (.bool false) ∧ w' = w.setCell ⟨B, 0, none⟩ (.bool (!ins)) := by
  go_enter Tryz.func49, Tryz.ntmps49
  go_wp2
  go_ret
  exact ⟨rfl, rfl⟩
set_option maxHeartbeats 400000 in
theorem ends_blank (B : Nat) (ins : Bool) (w : World) (hc : w.cell? ⟨B, 0, none⟩ = some (.bool ins)) :
    Calls Tryz.prog 49 #[.int .i32 32, .pointer (some ⟨B, 0, none⟩)] w fun e w' => e = .returned (.bool (!ins)) ∧ w = w' := by
  go_enter Tryz.func49, Tryz.ntmps49
  go_wp2
  go_ret
  exact ⟨rfl, rfl⟩
set_option maxHeartbeats 400000 in
theorem ends_other (B : Nat) (r : Int) (w : World) (h1 : (r == 34) = false) (h2 : (r == 32) = false) :
    Calls Tryz.prog 49 #[.int .i32 r, .pointer (some ⟨B, 0, none⟩)] w fun e w' => e = .returned (.bool false) ∧ w = w' := by
  go_enter Tryz.func49, Tryz.ntmps49
  go_wp2
  go_ret
  exact ⟨rfl, rfl⟩

set_option maxHeartbeats 2000000 in
set_option maxRecDepth 1000000 in
theorem indexFunc_any (s : ByteArray) (B : Nat) (w : World) (hB : B < w.heap.size) (hc : w.cell? ⟨B, 0, none⟩ = some (.bool false)) (hf : w.frozen? ⟨B, 0, none⟩ = false) :
    Calls Tryz.prog 66 #[.string s, .func (.func 49) #[] #[.pointer (some ⟨B, 0, none⟩)], .bool true] w fun e w' => e = .returned (.int .i64 (idxF false s.data.toList)) ∧ Below B w w' := by
  have hstart : idxAt s 0 false = idxF false s.data.toList := by unfold idxAt; rw [List.drop_zero]; split <;> simp [*]
  rw [← hstart]
  clear hstart
  go_enter Tryz.func66, Tryz.ntmps66
  go_wp2
  go_loopg [] s.size (fun gf wx => ∃ (pos : Nat) (ins : Bool), wx.heap[w.heap.size]? = some (.stringIter s pos) ∧ Below B w wx ∧ wx.cell? ⟨B, 0, none⟩ = some (.bool ins) ∧ wx.frozen? ⟨B, 0, none⟩ = false ∧ idxAt s pos ins = idxAt s 0 false ∧ s.size ≤ pos + gf)
  case atStart =>
    have hb1 : Below (B + 1) w (w.iter s 0) := (Below.refl _ w).alloc (by omega) _
    exact ⟨0, false, World.iter_heap w s 0, (Below.refl _ w).alloc (by omega) _, (hb1.cell (p := ⟨B, 0, none⟩) (Nat.lt_succ_self B)).trans hc, (hb1.frozen (p := ⟨B, 0, none⟩) (Nat.lt_succ_self B)).trans hf, rfl, by omega⟩
  case round =>
    obtain ⟨pos, ins, hit, hbw, hcr, hfr, hleft, hfu⟩ := hrel
    clear hc hf
    have Hl := Lib.hid hleft; clear hleft
    by_cases hps : pos < s.size
    · obtain ⟨g', rfl⟩ : ∃ g', gk = g' + 1 := ⟨gk - 1, by omega⟩
      have hnx : ∀ ty, (Instr.next (.pointer (some ⟨w.heap.size, 0, none⟩)) true ty).run Tryz.prog wr = _ := fun ty => Lib.run_next_any_at wr w.heap.size s pos ty hit hps
      have hwd := Lib.width_pos s pos
      have htwo := decode_two s pos hps
      obtain ⟨R, hR⟩ : ∃ R, (Utf8.decode s pos).1 = R := ⟨_, rfl⟩
      obtain ⟨K, hK⟩ : ∃ K, (Utf8.decode s pos).2 = K := ⟨_, rfl⟩
      rw [hR, hK] at hnx htwo
      rw [hK] at hwd
      have hit2 := Lib.iterAt_heap wr w.heap.size s pos (pos + K) hit
      have hbw2 := Lib.below_iterAt hbw (k := w.heap.size) (by omega) s (pos + K)
      have hbo := Lib.below_iterAt (Below.refl (B + 1) wr) (k := w.heap.size) (by omega) s (pos + K)
      have hcW := (hbo.cell (p := ⟨B, 0, none⟩) (Nat.lt_succ_self B)).trans hcr
      have hfW := (hbo.frozen (p := ⟨B, 0, none⟩) (Nat.lt_succ_self B)).trans hfr
      clear hbo
      obtain ⟨W, hWd⟩ : ∃ W, wr.iterAt w.heap.size s (pos + K) = W := ⟨_, rfl⟩
      rw [hWd] at hnx hit2 hbw2 hcW hfW
      clear hcr hfr hit hR hK hWd
      rcases htwo with ⟨hlo, hRe, rfl⟩ | ⟨hhi, hroom, hbytes⟩
      · by_cases h34 : s[pos].toNat = 34
        · have hst := idxAt_step hps ins (by omega)
          rw [if_pos h34] at hst
          obtain rfl : R = 34 := by omega
          have Hst := Lib.hid (hst.symm.trans Hl.out); clear hst
          have cS := ends_mark B ins W hcW hfW
          clear h34 hRe
          go_wp2_with (go_at_call 49; refine cS.mono ?_; rintro e W' ⟨rfl, rfl⟩)
          go_roundg g'
          case measure => omega
          case rel =>
            refine ⟨pos + 1, !ins, ?_, hbw2.setCell (p := ⟨B, 0, none⟩) (Nat.le_refl _) _, ?_, ?_, Hst.out, by omega⟩
            · rw [Below.heap_setCell _ _ _ _ (by show w.heap.size ≠ B; omega)]; exact hit2
            · exact World.cell?_setCell_same' _ _ _ (by rw [hcW]; rfl)
            · rw [World.frozen?_setCell]; exact hfW
        · by_cases h32 : s[pos].toNat = 32
          · obtain rfl : R = 32 := by omega
            have cS := ends_blank B ins W hcW
            cases ins with
            | false =>
              have Hst := Lib.hid ((idxAt_blank hps h32).symm.trans Hl.out)
              clear h32 h34 hRe
              go_wp2_with (go_at_call 49; refine cS.mono ?_; rintro e W' ⟨rfl, rfl⟩)
              go_ret
              exact ⟨by rw [← Hst.out]; rfl, hbw2⟩
            | true =>
              have hst := idxAt_step hps true (by simp)
              rw [if_neg h34] at hst
              have Hst := Lib.hid (hst.symm.trans Hl.out); clear hst h32 h34 hRe
              go_wp2_with (go_at_call 49; refine cS.mono ?_; rintro e W' ⟨rfl, rfl⟩)
              go_roundg g'
              case measure => omega
              case rel => exact ⟨pos + 1, true, hit2, hbw2, hcW, hfW, Hst.out, by omega⟩
          · have hst := idxAt_step hps ins (fun e => h32 e.1)
            rw [if_neg h34] at hst
            have Hst := Lib.hid (hst.symm.trans Hl.out); clear hst
            have cS := ends_other B (R : Int) W (by simp; omega) (by simp; omega)
            clear h32 h34 hRe
            go_wp2_with (go_at_call 49; refine cS.mono ?_; rintro e W' ⟨rfl, rfl⟩)
            go_roundg g'
            case measure => omega
            case rel => exact ⟨pos + 1, ins, hit2, hbw2, hcW, hfW, Hst.out, by omega⟩
      · have Hst := Lib.hid ((idxAt_skip ins K pos hroom hbytes).symm.trans Hl.out)
        have cS := ends_other B (R : Int) W (by simp; omega) (by simp; omega)
        clear hbytes
        go_wp2_with (go_at_call 49; refine cS.mono ?_; rintro e W' ⟨rfl, rfl⟩)
        go_roundg g'
        case measure => omega
        case rel => exact ⟨pos + K, ins, hit2, hbw2, hcW, hfW, Hst.out, by omega⟩
    · have hnx : ∀ ty, (Instr.next (.pointer (some ⟨w.heap.size, 0, none⟩)) true ty).run Tryz.prog wr = _ := fun ty => Lib.run_next_end_at wr w.heap.size s pos ty hit hps
      have Hst := Lib.hid ((idxAt_end ins hps).symm.trans Hl.out)
      go_wp2
      go_ret
      exact ⟨by rw [← Hst.out]; rfl, hbw⟩
end Go.Proofs.YtkbmdmipdcjjcaaGreatDoor
