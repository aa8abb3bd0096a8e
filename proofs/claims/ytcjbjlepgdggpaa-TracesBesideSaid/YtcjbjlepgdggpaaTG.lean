/- Sets of at most sixteen works. -/
import Derived.Test.YtcjbjlepgdggpaaTF
import Derived.Test.YtcjbjlepgdggpaaTE
namespace Go.Proofs.Ytcjbjlepgdggpaa
open Go.RowKit Go.Shelf Go.Lib
set_option maxRecDepth 100000
set_option linter.unusedSimpArgs false
theorem u16_in (z : Int) (h : 0 ≤ z ∧ z < 2 ^ 16) : IntKind.u16.wrap z = z := by
  simp [IntKind.wrap, IntKind.bits, IntKind.signed]
  omega
theorem bits_and16 (a b : Nat) (ha : a < 2 ^ 16) (hb : b < 2 ^ 16) : bits .and .u16 (a : Int) (b : Int) = ((a &&& b : Nat) : Int) := by
  show IntKind.u16.wrap (((BitVec.ofInt 16 (a : Int) &&& BitVec.ofInt 16 (b : Int)).toNat : Nat) : Int) = _
  rw [BitVec.ofInt_natCast, BitVec.ofInt_natCast, BitVec.toNat_and, BitVec.toNat_ofNat, BitVec.toNat_ofNat, Nat.mod_eq_of_lt ha, Nat.mod_eq_of_lt hb]
  have := Nat.and_lt_two_pow a hb
  exact u16_in _ (by omega)
theorem bits_or16 (a b : Nat) (ha : a < 2 ^ 16) (hb : b < 2 ^ 16) : bits .or .u16 (a : Int) (b : Int) = ((a ||| b : Nat) : Int) := by
  show IntKind.u16.wrap (((BitVec.ofInt 16 (a : Int) ||| BitVec.ofInt 16 (b : Int)).toNat : Nat) : Int) = _
  rw [BitVec.ofInt_natCast, BitVec.ofInt_natCast, BitVec.toNat_or, BitVec.toNat_ofNat, BitVec.toNat_ofNat, Nat.mod_eq_of_lt ha, Nat.mod_eq_of_lt hb]
  have := Nat.or_lt_two_pow ha hb
  exact u16_in _ (by omega)
theorem bits_not16 (a b : Nat) : (bits .andNot .u16 (a : Int) (b : Int) == 0) = (List.range 16).all fun j => !a.testBit j || b.testBit j := by
  have e : bits .andNot .u16 (a : Int) (b : Int) = ((BitVec.ofNat 16 a &&& ~~~ BitVec.ofNat 16 b).toNat : Int) := by
    show IntKind.u16.wrap (((BitVec.ofInt 16 (a : Int) &&& ~~~ BitVec.ofInt 16 (b : Int)).toNat : Nat) : Int) = _
    rw [BitVec.ofInt_natCast, BitVec.ofInt_natCast]
    exact u16_in _ ⟨by omega, by exact_mod_cast (BitVec.isLt _)⟩
  rw [e]
  have hbit : ∀ j, j < 16 → (BitVec.ofNat 16 a &&& ~~~ BitVec.ofNat 16 b).getLsbD j = (a.testBit j && !b.testBit j) := fun j hj => by
    rw [BitVec.getLsbD_and, BitVec.getLsbD_not, BitVec.getLsbD_ofNat, BitVec.getLsbD_ofNat]
    simp [hj]
  rw [Bool.eq_iff_iff]
  simp only [beq_iff_eq, List.all_eq_true, List.mem_range, Bool.or_eq_true, Bool.not_eq_true']
  constructor
  · intro h j hj
    have hz : BitVec.ofNat 16 a &&& ~~~ BitVec.ofNat 16 b = 0#16 := BitVec.eq_of_toNat_eq (by simpa using h)
    have := hbit j hj
    rw [hz] at this
    simp at this
    cases ha : a.testBit j with
    | false => exact .inl rfl
    | true => exact .inr (this ha)
  · intro h
    have hz : BitVec.ofNat 16 a &&& ~~~ BitVec.ofNat 16 b = 0#16 := by
      apply BitVec.eq_of_getLsbD_eq
      intro j hj
      rw [hbit j hj]
      rcases h j hj with q | q <;> simp [q]
    rw [hz]
    rfl
theorem bit_test16 (m j : Nat) (hm : m < 2 ^ 16) : (bits .and .u16 ((m : Int) / 2 ^ j) 1 == 1) = m.testBit j := by
  have e : ((m : Int) / 2 ^ j) = ((m / 2 ^ j : Nat) : Int) := by push_cast; rfl
  rw [e, show (1 : Int) = ((1 : Nat) : Int) from rfl, bits_and16 _ _ (Nat.lt_of_le_of_lt (Nat.div_le_self _ _) hm) (by decide), Nat.and_one_is_mod, Nat.testBit_eq_decide_div_mod_eq]
  by_cases h : m / 2 ^ j % 2 = 1
  · rw [h]; simp
  · rw [decide_eq_false h]
    have : m / 2 ^ j % 2 = 0 := by omega
    rw [this]
    rfl
set_option maxHeartbeats 1000000 in
theorem has16_any (x i : Nat) (hx : x < 2 ^ 16) (hi : i < 16) (w : World) :
    Calls Try.prog 83 #[.int .u16 (x : Int), .int .i64 (i : Int)] w fun e w' => e = .returned (.bool (x.testBit i)) ∧ w' = w := by
  go_enter Try.func83, Try.ntmps83
  go_wp2_with fail
  go_ret
  exact ⟨boolR (bit_test16 x _ hx), rfl⟩
set_option maxHeartbeats 1000000 in
theorem with16_any (x i : Nat) (hx : x < 2 ^ 16) (hi : i < 16) (w : World) :
    Calls Try.prog 70 #[.int .u16 (x : Int), .int .i64 (i : Int)] w fun e w' => e = .returned (.int .u16 ((x ||| 1 <<< i : Nat) : Int)) ∧ w' = w := by
  have hlt : 2 ^ i < 2 ^ 16 := Nat.pow_lt_pow_right (by omega) hi
  have e2 : bits .or .u16 (x : Int) (IntKind.u16.wrap (2 ^ i)) = ((x ||| 1 <<< i : Nat) : Int) := by
    rw [show (2 : Int) ^ i = ((2 ^ i : Nat) : Int) by push_cast; rfl, u16_in _ ⟨Int.natCast_nonneg _, by exact_mod_cast hlt⟩, bits_or16 _ _ hx hlt, Nat.one_shiftLeft]
  go_enter Try.func70, Try.ntmps70
  go_wp2_with fail
  go_ret
  exact ⟨by rw [← e2]; rfl, rfl⟩
end Go.Proofs.Ytcjbjlepgdggpaa
