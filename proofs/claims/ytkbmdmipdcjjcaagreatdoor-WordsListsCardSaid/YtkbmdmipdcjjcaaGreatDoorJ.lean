/- Digits of package words. -/
import Derived.Test.YtkbmdmipdcjjcaaGreatDoorI
import Derived.Lib.ItoaLen
namespace Go.Proofs.YtkbmdmipdcjjcaaGreatDoor
open Go.RowKit

def preD (m : Nat) : List UInt8 := if m = 0 then [] else Lib.decDigits m
theorem decDigits_pre (n : Nat) : Lib.decDigits n = preD (n / 10) ++ [UInt8.ofNat (48 + n % 10)] := by
  unfold preD
  by_cases h : n < 10
  · rw [Lib.decDigits, dif_pos h, if_pos (by omega), Nat.mod_eq_of_lt h]; rfl
  · rw [Lib.decDigits, dif_neg h, if_neg (by omega)]
theorem preD_step {m : Nat} (h : 0 < m) (suf : List UInt8) : preD m ++ suf = preD (m / 10) ++ (UInt8.ofNat (48 + m % 10) :: suf) := by
  conv => lhs; unfold preD
  rw [if_neg (by omega), decDigits_pre]; simp
theorem digByte (m : Nat) : ((UInt8.ofNat (48 + m % 10)).toNat : Int) = 48 + (m : Int) % 10 := by
  have : m % 10 < 10 := Nat.mod_lt _ (by omega)
  rw [UInt8.toNat_ofNat']; omega

/-- What the array holds when the digits suf are written from place a on. -/
structure DigInv (B N : Nat) (w wr : World) (m a : Nat) (cur : Array Value) (suf : List UInt8) : Prop where
  len : a + suf.length = 20
  one : 1 ≤ suf.length
  lt : m < 10 ^ a
  mx : m ≤ 9223372036854775807
  dig : Lib.decDigits N = preD m ++ suf
  bel : Below w.heap.size w wr
  row : wr.heap[B]? = some (.cells cur 107 (0, 0))
  size : cur.size = 20
  cells : ∀ j (hj : j < suf.length), cur[a + j]? = some (.int .u8 ((suf[j].toNat : Nat) : Int))

theorem DigInv.start {w : World} {N : Nat} {cur : Array Value} (hN : N ≤ 9223372036854775808) (hs : cur.size = 20) (hl : cur[19]? = some (.int .u8 (48 + (N : Int) % 10))) :
    DigInv w.heap.size N w (w.alloc (.cells cur 107)) (N / 10) 19 cur [UInt8.ofNat (48 + N % 10)] where
  len := rfl
  one := Nat.le_refl _
  lt := by rw [show (10 : Nat) ^ 19 = 10000000000000000000 from by decide]; omega
  mx := by omega
  dig := decDigits_pre N
  bel := (Below.refl _ _).alloc (Nat.le_refl _) _
  row := heap_alloc_new w _
  size := hs
  cells j hj := by
    obtain rfl : j = 0 := by simpa using hj
    rw [Nat.add_zero, hl]
    have := digByte N
    simp only [List.getElem_cons_zero]
    rw [this]

theorem DigInv.step {B N m b : Nat} {w wr : World} {cur : Array Value} {suf : List UInt8} (h : DigInv B N w wr m (b + 1) cur suf) (hB : w.heap.size ≤ B) (hm : 0 < m) :
    DigInv B N w (wr.setCell ⟨B, b, none⟩ (.int .u8 (48 + (m : Int) % 10))) (m / 10) b (cur.setIfInBounds b (.int .u8 (48 + (m : Int) % 10))) (UInt8.ofNat (48 + m % 10) :: suf) where
  len := by have := h.len; simp; omega
  one := by simp
  lt := by have := h.lt; rw [Nat.pow_succ] at this; omega
  mx := by have := h.mx; omega
  dig := by rw [h.dig, preD_step hm]
  bel := h.bel.setCell (p := ⟨B, b, none⟩) hB _
  row := heap_setCell_same _ _ _ _ _ _ h.row
  size := by rw [Array.size_setIfInBounds]; exact h.size
  cells j hj := by
    have hlen := h.len
    have hsz := h.size
    match j, hj with
    | 0, _ =>
      rw [Nat.add_zero, Array.getElem?_setIfInBounds]
      have hb : b < cur.size := by omega
      have := digByte m
      simp only [List.getElem_cons_zero, if_pos, hb]
      rw [this]
    | j + 1, hj =>
      have hc := h.cells j (by simpa using hj)
      rw [Array.getElem?_setIfInBounds]
      have hne : ¬ b = b + (j + 1) := by omega
      rw [if_neg hne, show b + (j + 1) = b + 1 + j by omega, hc]
      rfl

theorem add_at (b o j : Nat) : (⟨b, o, none⟩ : Addr).add j = ⟨b, o + j, none⟩ := by unfold Addr.add; split <;> simp_all

theorem DigInv.conv {B N m a : Nat} {w wr : World} {cur : Array Value} {suf : List UInt8} (h : DigInv B N w wr m a cur suf) (c : Nat) :
    (convert 73 9 (.slice (some ⟨B, a, none⟩) (20 - a) c)).run Tryz.prog wr = .ok (.string ⟨suf.toArray⟩) wr := by
  have hl : 20 - a = suf.length := by have := h.len; omega
  rw [hl]
  refine run_convert_bytes_back wr 73 9 5 ⟨B, a, none⟩ c suf Tryz.underlying73 Tryz.underlying5 Tryz.underlying9 (fun j hj => ?_)
  rw [add_at, cell_of_row _ _ _ _ _ _ h.row]
  exact h.cells j hj

theorem decDigits_len : ∀ (k n : Nat), n < 10 ^ (k + 1) → (Lib.decDigits n).length ≤ k + 1
  | 0, n, h => by rw [Lib.decDigits, dif_pos (by simpa using h)]; simp
  | k + 1, n, h => by
    rw [decDigits_pre]
    unfold preD
    split
    · simp
    · have := decDigits_len k (n / 10) (by rw [Nat.pow_succ] at h; omega)
      rw [List.length_append]; simp; omega
theorem DigInv.convNeg {B N m b : Nat} {w wr : World} {cur : Array Value} {suf : List UInt8} (h : DigInv B N w wr m (b + 1) cur suf) (c : Nat) :
    (convert 73 9 (.slice (some ⟨B, b, none⟩) (20 - b) c)).run Tryz.prog (wr.setCell ⟨B, b, none⟩ (.int .u8 45)) = .ok (.string ⟨(45 :: suf).toArray⟩) (wr.setCell ⟨B, b, none⟩ (.int .u8 45)) := by
  have hl : 20 - b = (45 :: suf).length := by have := h.len; simp; omega
  rw [hl]
  refine run_convert_bytes_back _ 73 9 5 ⟨B, b, none⟩ c (45 :: suf) Tryz.underlying73 Tryz.underlying5 Tryz.underlying9 (fun j hj => ?_)
  rw [add_at, cell_of_row _ _ _ _ _ _ (heap_setCell_same _ _ _ _ _ _ h.row)]
  have hlen := h.len
  have hsz := h.size
  match j, hj with
  | 0, _ =>
    have hb : b < cur.size := by omega
    rw [Nat.add_zero, Array.getElem?_setIfInBounds, if_pos rfl, if_pos hb]
    rfl
  | j + 1, hj =>
    have hc := h.cells j (by simpa using hj)
    rw [Array.getElem?_setIfInBounds, if_neg (by omega), show b + (j + 1) = b + 1 + j by omega, hc]
    rfl

theorem sl20 (B a : Nat) (ha : a < 20) (w : World) : (Instr.sliceAt 107 (.pointer (some ⟨B, 0, none⟩)) (some (.int .i64 a)) none none).run Tryz.prog w = .ok (.slice (some ⟨B, a, none⟩) (20 - a) (20 - a)) w := by
  have hl : Tryz.prog.arrayLen 107 = 20 := by kernel_rfl
  have h := run_sliceAt_array_l (P := Tryz.prog) w 107 ⟨B, 0, none⟩ (by kernel_rfl) .i64 (a : Int) (by omega) (by rw [hl]; omega)
  have hz : (sizeOf (Tryz.prog.elem 107)).run Tryz.prog w = .ok 1 w := by kernel_rfl
  rw [h, hz, hl]
  have hne : ¬ (20 = a) := by omega
  simp [slicedAt, hne, add_at]

theorem neg_wrap (n : Nat) (h0 : 1 ≤ n) (h : n ≤ 9223372036854775808) : IntKind.u64.wrap (-IntKind.u64.wrap (-(n : Int))) = (n : Int) := by
  simp only [IntKind.wrap, IntKind.bits, IntKind.signed]
  simp
  omega

set_option maxHeartbeats 1000000 in
set_option maxRecDepth 100000 in
theorem Digits_pos (n : Nat) (w : World) (g : Glob w) (h : n ≤ 9223372036854775807) :
    Calls Tryz.prog 60 #[.int .i64 n] w fun e w' => e = .returned (.string ⟨(Lib.decDigits n).toArray⟩) ∧ Below w.heap.size w w' := by
  have hdig : w.cell? ⟨0, n % 10, none⟩ = some (.int .u8 (48 + ((n % 10 : Nat) : Int))) := g.dig _ (by omega)
  have hz : 0 < w.heap.size := by have := g.sz; omega
  go_enter Tryz.func60, Tryz.ntmps60
  go_wp2_with fail
  clear hdig
  go_loopw [3, 5] (fun sz av wr => ∃ (m a : Nat) (cur : Array Value) (suf : List UInt8), sz = .int .u64 m ∧ av = .int .i64 a ∧ DigInv w.heap.size n w wr m a cur suf) (fun sz _ _ => (intOf sz).toNat)
  case atStart => exact ⟨n / 10, 19, _, _, by simp, rfl, DigInv.start (by omega) rfl rfl⟩
  case round =>
    obtain ⟨m, a, cur, suf, rfl, rfl, hI⟩ := hrel
    have hle := hI.len
    have hone := hI.one
    have hmx := hI.mx
    by_cases hm : 0 < m
    · have hlt := hI.lt
      obtain ⟨b, rfl⟩ : ∃ b, a = b + 1 := by
        cases a with
        | zero => simp at hlt; omega
        | succ b => exact ⟨b, rfl⟩
      have hn := hI.step (Nat.le_refl _) hm
      have hd := (g.next hI.bel).dig (m % 10) (by omega)
      have hc := cell_of_row wr w.heap.size b cur _ _ hI.row
      obtain ⟨x, hx⟩ : ∃ x, cur[b]? = some x := ⟨cur[b]'(by rw [hI.size]; omega), Array.getElem?_eq_getElem _⟩
      rw [hx] at hc
      have hf := frozen_of_row wr w.heap.size b cur _ hI.row
      have Hn := Lib.hid hn
      have hz2 := hI.bel.size
      clear hn hI hlt hx
      go_wp2_with fail
      go_roundw
      case rel => exact ⟨m / 10, b, _, _, by simp, by go_num, Hn.out⟩
      case measure => simp [intOf]; omega
    · obtain rfl : m = 0 := by omega
      have hcv := hI.conv (20 - a)
      have hd : Lib.decDigits n = suf := by rw [hI.dig]; rfl
      have Hd := Lib.hid hd
      have Hb := Lib.hid hI.bel
      clear hd hI
      have hsl := sl20 w.heap.size a (by omega) wr
      go_wp2_with fail
      go_ret
      exact ⟨by rw [Hd.out]; rfl, Hb.out⟩

set_option maxHeartbeats 1000000 in
set_option maxRecDepth 100000 in
theorem Digits_neg (n : Nat) (w : World) (g : Glob w) (h0 : 1 ≤ n) (h : n ≤ 9223372036854775808) :
    Calls Tryz.prog 60 #[.int .i64 (-(n : Int))] w fun e w' => e = .returned (.string ⟨(45 :: Lib.decDigits n).toArray⟩) ∧ Below w.heap.size w w' := by
  have hdig : w.cell? ⟨0, n % 10, none⟩ = some (.int .u8 (48 + ((n % 10 : Nat) : Int))) := g.dig _ (by omega)
  have hz : 0 < w.heap.size := by have := g.sz; omega
  have hnw := neg_wrap n h0 h
  have hlen := decDigits_len 18 n (by rw [show (10 : Nat) ^ (18 + 1) = 10000000000000000000 from by decide]; omega)
  go_enter Tryz.func60, Tryz.ntmps60
  go_wp2_with fail
  clear hdig hnw
  go_loopw [3, 5] (fun sz av wr => ∃ (m a : Nat) (cur : Array Value) (suf : List UInt8), sz = .int .u64 m ∧ av = .int .i64 a ∧ DigInv w.heap.size n w wr m a cur suf) (fun sz _ _ => (intOf sz).toNat)
  case atStart => exact ⟨n / 10, 19, _, _, by simp, rfl, DigInv.start (by omega) rfl rfl⟩
  case round =>
    obtain ⟨m, a, cur, suf, rfl, rfl, hI⟩ := hrel
    have hle := hI.len
    have hone := hI.one
    have hmx := hI.mx
    by_cases hm : 0 < m
    · have hlt := hI.lt
      obtain ⟨b, rfl⟩ : ∃ b, a = b + 1 := by
        cases a with
        | zero => simp at hlt; omega
        | succ b => exact ⟨b, rfl⟩
      have hn := hI.step (Nat.le_refl _) hm
      have hd := (g.next hI.bel).dig (m % 10) (by omega)
      have hc := cell_of_row wr w.heap.size b cur _ _ hI.row
      obtain ⟨x, hx⟩ : ∃ x, cur[b]? = some x := ⟨cur[b]'(by rw [hI.size]; omega), Array.getElem?_eq_getElem _⟩
      rw [hx] at hc
      have hf := frozen_of_row wr w.heap.size b cur _ hI.row
      have Hn := Lib.hid hn
      have hz2 := hI.bel.size
      clear hn hI hlt hx
      go_wp2_with fail
      go_roundw
      case rel => exact ⟨m / 10, b, _, _, by simp, by go_num, Hn.out⟩
      case measure => simp [intOf]; omega
    · obtain rfl : m = 0 := by omega
      have hd : Lib.decDigits n = suf := by rw [hI.dig]; rfl
      rw [hd] at hlen
      obtain ⟨b, rfl⟩ : ∃ b, a = b + 1 := ⟨a - 1, by omega⟩
      have hcv := hI.convNeg (20 - b)
      have hsl := sl20 w.heap.size b (by omega) (wr.setCell ⟨w.heap.size, b, none⟩ (.int .u8 45))
      have hc := cell_of_row wr w.heap.size b cur _ _ hI.row
      obtain ⟨x, hx⟩ : ∃ x, cur[b]? = some x := ⟨cur[b]'(by rw [hI.size]; omega), Array.getElem?_eq_getElem _⟩
      rw [hx] at hc
      have hf := frozen_of_row wr w.heap.size b cur _ hI.row
      have Hd := Lib.hid hd
      have Hb := Lib.hid (hI.bel.setCell (p := ⟨w.heap.size, b, none⟩) (Nat.le_refl _) (.int .u8 45))
      clear hd hI hx
      go_wp2_with fail
      go_ret
      exact ⟨by rw [Hd.out]; rfl, Hb.out⟩

theorem Digits_any (n : Int) (w : World) (g : Glob w) (h0 : -9223372036854775808 ≤ n) (h1 : n ≤ 9223372036854775807) :
    Calls Tryz.prog 60 #[.int .i64 n] w fun e w' => e = .returned (.string ⟨(Lib.itoa n).toArray⟩) ∧ Below w.heap.size w w' := by
  by_cases h : n < 0
  · obtain ⟨m, rfl⟩ : ∃ m : Nat, n = -(m : Int) := ⟨n.natAbs, by omega⟩
    rw [Lib.itoa, if_pos h, show (-(m : Int)).natAbs = m by omega]
    exact Digits_neg m w g (by omega) (by omega)
  · obtain ⟨m, rfl⟩ : ∃ m : Nat, n = (m : Int) := ⟨n.toNat, by omega⟩
    rw [Lib.itoa, if_neg h, Int.toNat_natCast]
    exact Digits_pos m w g (by omega)
end Go.Proofs.YtkbmdmipdcjjcaaGreatDoor
