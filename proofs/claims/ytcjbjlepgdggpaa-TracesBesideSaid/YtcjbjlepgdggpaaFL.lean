/- isWork, edgeOf, touch; sets of works as bits. -/
import Derived.Test.YtcjbjlepgdggpaaFK
namespace Go.Proofs.Ytcjbjlepgdggpaa
open Go.RowKit Go.Shelf Go.Lib
attribute [local go_sem] Oper.semAt_some
theorem boolR {a b : Bool} (h : a = b) : Ending.returned (.bool a) = .returned (.bool b) := by rw [h]
theorem isWork_any (pr i : Int) (a : Option Addr) (n c : Nat) (w : World) :
    Calls Try.prog 84 #[.agg #[.int .i64 pr, .slice a n c], .int .i64 i] w fun e w' => e = .returned (.bool (decide (0 ≤ i ∧ i < (n : Int)))) ∧ Below w.heap.size w w' := by
  have hr0 := heap_alloc_new w (.cells #[.int .i64 pr, .slice a n c] 24)
  have c0 : (w.alloc (.cells #[.int .i64 pr, .slice a n c] 24)).cell? ⟨w.heap.size, 1, none⟩ = some (.slice a n c) := cell_of_row _ _ 1 _ _ _ hr0
  have B := below_alloc w (.cells #[.int .i64 pr, .slice a n c] 24)
  by_cases h : (0 : Int) ≤ i
  · by_cases h2 : i < (n : Int)
    · go_enter Try.func84, Try.ntmps84
      go_wp2_with fail
      go_ret
      exact ⟨by simp [h, h2], B⟩
    · go_enter Try.func84, Try.ntmps84
      go_wp2_with fail
      go_ret
      exact ⟨by simp [h2], B⟩
  · go_enter Try.func84, Try.ntmps84
    go_wp2_with fail
    go_ret
    exact ⟨boolR (by rw [decide_eq_false (show ¬ (0 : Int) ≤ i by omega), Bool.false_and]), B⟩
/-- Whether two works have a place in common. -/
def touchP (x y : Wk) : Bool := decide (x.pl - y.pl < 2) && decide (y.pl - x.pl < 2)
/-- A set of works lies here: seven words of bits. -/
def SetAt (w : World) (B off : Nat) (S : Nat → Bool) : Prop := ∀ k, k < 7 → ∃ m : Nat, m < 2 ^ 64 ∧ w.cell? ⟨B, off + k, none⟩ = some (.int .u64 (m : Int)) ∧ w.frozen? ⟨B, off + k, none⟩ = false ∧ ∀ j, j < 64 → m.testBit j = S (64 * k + j)
theorem u64_in (z : Int) (h : 0 ≤ z ∧ z < 2 ^ 64) : IntKind.u64.wrap z = z := by
  simp [IntKind.wrap, IntKind.bits, IntKind.signed]
  omega
theorem bits_and (a b : Nat) (ha : a < 2 ^ 64) (hb : b < 2 ^ 64) : bits .and .u64 (a : Int) (b : Int) = ((a &&& b : Nat) : Int) := by
  show IntKind.u64.wrap (((BitVec.ofInt 64 (a : Int) &&& BitVec.ofInt 64 (b : Int)).toNat : Nat) : Int) = _
  rw [BitVec.ofInt_natCast, BitVec.ofInt_natCast, BitVec.toNat_and, BitVec.toNat_ofNat, BitVec.toNat_ofNat, Nat.mod_eq_of_lt ha, Nat.mod_eq_of_lt hb]
  have := Nat.and_lt_two_pow a hb
  exact u64_in _ (by omega)
theorem bits_or (a b : Nat) (ha : a < 2 ^ 64) (hb : b < 2 ^ 64) : bits .or .u64 (a : Int) (b : Int) = ((a ||| b : Nat) : Int) := by
  show IntKind.u64.wrap (((BitVec.ofInt 64 (a : Int) ||| BitVec.ofInt 64 (b : Int)).toNat : Nat) : Int) = _
  rw [BitVec.ofInt_natCast, BitVec.ofInt_natCast, BitVec.toNat_or, BitVec.toNat_ofNat, BitVec.toNat_ofNat, Nat.mod_eq_of_lt ha, Nat.mod_eq_of_lt hb]
  have := Nat.or_lt_two_pow ha hb
  exact u64_in _ (by omega)
theorem bit_test (m j : Nat) (hm : m < 2 ^ 64) : (bits .and .u64 ((m : Int) / 2 ^ j) 1 == 1) = m.testBit j := by
  have e : ((m : Int) / 2 ^ j) = ((m / 2 ^ j : Nat) : Int) := by push_cast; rfl
  rw [e, show (1 : Int) = ((1 : Nat) : Int) from rfl, bits_and _ _ (Nat.lt_of_le_of_lt (Nat.div_le_self _ _) hm) (by decide), Nat.and_one_is_mod, Nat.testBit_eq_decide_div_mod_eq]
  by_cases h : m / 2 ^ j % 2 = 1
  · rw [h]; simp
  · rw [decide_eq_false h]
    have : m / 2 ^ j % 2 = 0 := by omega
    rw [this]
    rfl
set_option maxHeartbeats 1000000 in
theorem has_any (B off : Nat) (S : Nat → Bool) (i : Nat) (hi : i < 448) (w : World) (h : SetAt w B off S) :
    Calls Try.prog 85 #[.pointer (some ⟨B, off, none⟩), .int .i64 (i : Int)] w fun e w' => e = .returned (.bool (S i)) ∧ w' = w := by
  obtain ⟨m, hm, hc, _, hb⟩ := h (i / 64) (by omega)
  have hb := hb (i % 64) (Nat.mod_lt _ (by omega))
  rw [show 64 * (i / 64) + i % 64 = i by omega] at hb
  have q1 : IntKind.i64.wrap (Int.tdiv (i : Int) 64) = ((i / 64 : Nat) : Int) := by
    rw [Int.tdiv_eq_ediv_of_nonneg (by omega)]
    exact IntWalk.i64_in _ (by omega)
  go_enter Try.func85, Try.ntmps85
  go_wp2_with fail
  go_ret
  exact ⟨boolR ((bit_test m _ hm).trans hb), rfl⟩
set_option maxHeartbeats 1000000 in
theorem add_any (B off : Nat) (S : Nat → Bool) (i : Nat) (hi : i < 448) (w : World) (h : SetAt w B off S) :
    Calls Try.prog 86 #[.pointer (some ⟨B, off, none⟩), .int .i64 (i : Int)] w fun e w' => (∃ v, e = .returned v) ∧ SetAt w' B off (fun j => decide (j = i) || S j) ∧ ∃ v, w' = (w.setCell ⟨B, off + i / 64, none⟩ v).drew := by
  obtain ⟨m, hm, hc, hf, hb⟩ := h (i / 64) (by omega)
  have q1 : IntKind.i64.wrap (Int.tdiv (i : Int) 64) = ((i / 64 : Nat) : Int) := by
    rw [Int.tdiv_eq_ediv_of_nonneg (by omega)]
    exact IntWalk.i64_in _ (by omega)
  have H := Lib.hid h
  have Hb := Lib.hid hb
  clear h hb
  go_enter Try.func86, Try.ntmps86
  go_wp2_with fail
  go_region
  have e1 : IntKind.u64.wrap (2 ^ (i % 64)) = ((2 ^ (i % 64) : Nat) : Int) := by
    have h1 : 2 ^ (i % 64) < 2 ^ 64 := Nat.pow_lt_pow_right (by omega) (Nat.mod_lt _ (by omega))
    push_cast
    refine u64_in _ ⟨Int.pow_nonneg (by decide), ?_⟩
    exact_mod_cast h1
  have hlt : 2 ^ (i % 64) < 2 ^ 64 := Nat.pow_lt_pow_right (by omega) (Nat.mod_lt _ (by omega))
  rw [e1, bits_or _ _ hm hlt]
  have HS : SetAt ((w.setCell ⟨B, off + i / 64, none⟩ (.int .u64 ((m ||| 2 ^ (i % 64) : Nat) : Int))).drew) B off (fun j => decide (j = i) || S j) := fun k hk => by
    by_cases hki : k = i / 64
    · subst hki
      refine ⟨m ||| 2 ^ (i % 64), Nat.or_lt_two_pow hm hlt, ?_, ?_, fun j hj => ?_⟩
      · rw [World.cell?_drew]
        exact World.cell?_setCell_same' _ _ _ (by rw [hc]; rfl)
      · rw [World.frozen?_drew, World.frozen?_setCell]
        exact hf
      · rw [Nat.testBit_or, Hb.out j hj, Nat.testBit_two_pow, Bool.or_comm]
        congr 1
        exact decide_eq_decide.2 (by omega)
    · obtain ⟨m', h1, h2, h3, h4⟩ := H.out k hk
      refine ⟨m', h1, ?_, ?_, fun j hj => ?_⟩
      · rw [World.cell?_drew, World.cell?_setCell_other _ _ _ _ (by simp only [ne_eq, Addr.mk.injEq, true_and, and_true]; omega)]
        exact h2
      · rw [World.frozen?_drew, World.frozen?_setCell]
        exact h3
      · have : decide (64 * k + j = i) = false := decide_eq_false (by omega)
        show m'.testBit j = (decide (64 * k + j = i) || S (64 * k + j))
        rw [h4 j hj, this, Bool.false_or]
  generalize ((m ||| 2 ^ (i % 64) : Nat) : Int) = z at *
  go_end0
  exact ⟨⟨_, rfl⟩, HS, _, rfl⟩
theorem SetAt.below {w w' : World} {B off : Nat} {S : Nat → Bool} (h : SetAt w B off S) (hB : B < w.heap.size) (hb : Below w.heap.size w w') : SetAt w' B off S := fun k hk => by
  obtain ⟨m, h1, h2, h3, h4⟩ := h k hk
  exact ⟨m, h1, (hb.cell (p := ⟨B, off + k, none⟩) hB).trans h2, (hb.frozen (p := ⟨B, off + k, none⟩) hB).trans h3, h4⟩
/-- Words of bits that read as a set. -/
def SetVs (ns : List Value) (T : Nat → Bool) : Prop := ns.length = 7 ∧ ∀ k, k < 7 → ∃ m : Nat, m < 2 ^ 64 ∧ ns[k]? = some (.int .u64 (m : Int)) ∧ ∀ j, j < 64 → m.testBit j = T (64 * k + j)
theorem and_none {a b : Nat} {S T : Nat → Bool} (k : Nat) (ha : a < 2 ^ 64) (hS : ∀ j, j < 64 → a.testBit j = S (64 * k + j)) (hT : ∀ j, j < 64 → b.testBit j = T (64 * k + j)) : a &&& b = 0 ↔ ∀ j, j < 64 → (S (64 * k + j) && T (64 * k + j)) = false := by
  constructor
  · intro h j hj
    have := congrArg (fun x => x.testBit j) h
    simp only [Nat.testBit_and, Nat.zero_testBit] at this
    rw [← hS j hj, ← hT j hj]
    exact this
  · intro h
    refine Nat.eq_of_testBit_eq fun j => ?_
    rw [Nat.testBit_and, Nat.zero_testBit]
    by_cases hj : j < 64
    · rw [hS j hj, hT j hj]
      exact h j hj
    · rw [Nat.testBit_lt_two_pow (Nat.lt_of_lt_of_le ha (Nat.pow_le_pow_right (by omega) (by omega))), Bool.false_and]
end Go.Proofs.Ytcjbjlepgdggpaa
