/- isWork, edgeOf, touch; sets of works as bits. -/
import Derived.Test.YtenfeekchggioaaFK
namespace Go.Proofs.Ytenfeekchggioaa
open Go.RowKit Go.Shelf Go.Lib
attribute [local go_sem] Oper.semAt_some
theorem boolR {a b : Bool} (h : a = b) : Ending.returned (.bool a) = .returned (.bool b) := by rw [h]
theorem edgeOf_any (pr i side : Int) (u : Value) (w : World) (hp : 0 ≤ pr ∧ pr ≤ 1000) (h : 0 ≤ i ∧ i ≤ 1000) (h2 : 0 ≤ side ∧ side ≤ 1) :
    Calls Try.prog 44 #[.agg #[.int .i64 pr, u], .int .i64 i, .int .i64 side] w fun e w' => e = .returned (.int .i64 (pr + 2 * i + side)) ∧ Below w.heap.size w w' := by
  have hr0 := heap_alloc_new w (.cells #[.int .i64 pr, u] 24)
  have c0 : (w.alloc (.cells #[.int .i64 pr, u] 24)).cell? ⟨w.heap.size, 0, none⟩ = some (.int .i64 pr) := cell_of_row _ _ 0 _ _ _ hr0
  have B := below_alloc w (.cells #[.int .i64 pr, u] 24)
  have n1 : IntKind.i64.wrap (2 * i) = 2 * i := IntWalk.i64_in _ (by omega)
  have n2 : IntKind.i64.wrap (pr + 2 * i) = pr + 2 * i := IntWalk.i64_in _ (by omega)
  have n3 : IntKind.i64.wrap (pr + 2 * i + side) = pr + 2 * i + side := IntWalk.i64_in _ (by omega)
  go_enter Try.func44, Try.ntmps44
  go_wp2_with fail
  go_ret
  exact ⟨rfl, B⟩
theorem isWork_any (pr i : Int) (a : Option Addr) (n c : Nat) (w : World) :
    Calls Try.prog 58 #[.agg #[.int .i64 pr, .slice a n c], .int .i64 i] w fun e w' => e = .returned (.bool (decide (0 ≤ i ∧ i < (n : Int)))) ∧ Below w.heap.size w w' := by
  have hr0 := heap_alloc_new w (.cells #[.int .i64 pr, .slice a n c] 24)
  have c0 : (w.alloc (.cells #[.int .i64 pr, .slice a n c] 24)).cell? ⟨w.heap.size, 1, none⟩ = some (.slice a n c) := cell_of_row _ _ 1 _ _ _ hr0
  have B := below_alloc w (.cells #[.int .i64 pr, .slice a n c] 24)
  by_cases h : (0 : Int) ≤ i
  · by_cases h2 : i < (n : Int)
    · go_enter Try.func58, Try.ntmps58
      go_wp2_with fail
      go_ret
      exact ⟨by simp [h, h2], B⟩
    · go_enter Try.func58, Try.ntmps58
      go_wp2_with fail
      go_ret
      exact ⟨by simp [h2], B⟩
  · go_enter Try.func58, Try.ntmps58
    go_wp2_with fail
    go_ret
    exact ⟨boolR (by rw [decide_eq_false (show ¬ (0 : Int) ≤ i by omega), Bool.false_and]), B⟩
/-- Whether two works have a place in common. -/
def touchP (x y : Wk) : Bool := decide (x.pl - y.pl < 2) && decide (y.pl - x.pl < 2)
theorem touch_any (x y : Wk) (w : World) (hx : 0 ≤ x.pl ∧ x.pl ≤ 100) (hy : 0 ≤ y.pl ∧ y.pl ≤ 100) :
    Calls Try.prog 62 #[x.val, y.val] w fun e w' => e = .returned (.bool (touchP x y)) ∧ Below w.heap.size w w' := by
  unfold Wk.val touchP
  have B : Below w.heap.size w ((w.alloc (.cells #[.int .i64 x.kd, .int .i64 x.pl, .string x.wd] 48)).alloc (.cells #[.int .i64 y.kd, .int .i64 y.pl, .string y.wd] 48)) := (below_alloc w _).alloc (by simp) _
  have c0 : ((w.alloc (.cells #[.int .i64 x.kd, .int .i64 x.pl, .string x.wd] 48)).alloc (.cells #[.int .i64 y.kd, .int .i64 y.pl, .string y.wd] 48)).cell? ⟨w.heap.size, 1, none⟩ = some (.int .i64 x.pl) := cell_of_row _ _ 1 _ _ _ (heap_alloc2_old _ _ _)
  have c1 : ((w.alloc (.cells #[.int .i64 x.kd, .int .i64 x.pl, .string x.wd] 48)).alloc (.cells #[.int .i64 y.kd, .int .i64 y.pl, .string y.wd] 48)).cell? ⟨w.heap.size + 1, 1, none⟩ = some (.int .i64 y.pl) := cell_of_row _ _ 1 _ _ _ (heap_alloc2_new _ _ _)
  have n1 : IntKind.i64.wrap (x.pl - y.pl) = x.pl - y.pl := IntWalk.i64_in _ (by omega)
  have n2 : IntKind.i64.wrap (y.pl - x.pl) = y.pl - x.pl := IntWalk.i64_in _ (by omega)
  by_cases h : x.pl - y.pl < 2
  · by_cases h2 : y.pl - x.pl < 2
    · go_enter Try.func62, Try.ntmps62
      go_wp2_with fail
      go_ret
      exact ⟨by simp [h, h2], B⟩
    · go_enter Try.func62, Try.ntmps62
      go_wp2_with fail
      go_ret
      exact ⟨by simp [h2], B⟩
  · go_enter Try.func62, Try.ntmps62
    go_wp2_with fail
    go_ret
    exact ⟨boolR (by rw [decide_eq_false (by omega), Bool.false_and]), B⟩
/-- A set of works lies here: seven words of bits. -/
def SetAt (w : World) (B off : Nat) (S : Nat → Bool) : Prop := ∀ k, k < 7 → ∃ m : Nat, m < 2 ^ 64 ∧ w.cell? ⟨B, off + k, none⟩ = some (.int .u64 (m : Int)) ∧ w.frozen? ⟨B, off + k, none⟩ = false ∧ ∀ j, j < 64 → m.testBit j = S (64 * k + j)
theorem u64_in (z : Int) (h : 0 ≤ z ∧ z < 2 ^ 64) : IntKind.u64.wrap z = z := by
  simp [IntKind.wrap, IntKind.bits, IntKind.signed]
  omega
theorem bits_and (a b : Nat) (ha : a < 2 ^ 64) (hb : b < 2 ^ 64) : bits .and .u64 (a : Int) (b : Int) = ((a &&& b : Nat) : Int) := by
  show IntKind.u64.wrap (((BitVec.ofInt 64 (a : Int) &&& BitVec.ofInt 64 (b : Int)).toNat : Nat) : Int) = _
  rw [BitVec.ofInt_natCast, BitVec.ofInt_natCast, BitVec.toNat_and, BitVec.toNat_ofNat, BitVec.toNat_ofNat, Nat.mod_eq_of_lt ha, Nat.mod_eq_of_lt hb]
  have := Nat.and_lt_two_pow a hb
  exact u64_in _ (by omega)
theorem bits_or (a b : Nat) (ha : a < 2 ^ 64) (hb : b < 2 ^ 64) : bits .or .u64 (a : Int) (b : Int) = ((a ||| b : Nat) : Int) := by
  show IntKind.u64.wrap (((BitVec.ofInt 64 (a : Int) ||| BitVec.ofInt 64 (b : Int)).toNat : Nat) : Int) = _
  rw [BitVec.ofInt_natCast, BitVec.ofInt_natCast, BitVec.toNat_or, BitVec.toNat_ofNat, BitVec.toNat_ofNat, Nat.mod_eq_of_lt ha, Nat.mod_eq_of_lt hb]
  have := Nat.or_lt_two_pow ha hb
  exact u64_in _ (by omega)
theorem bit_test (m j : Nat) (hm : m < 2 ^ 64) : (bits .and .u64 ((m : Int) / 2 ^ j) 1 == 1) = m.testBit j := by
  have e : ((m : Int) / 2 ^ j) = ((m / 2 ^ j : Nat) : Int) := by push_cast; rfl
  rw [e, show (1 : Int) = ((1 : Nat) : Int) from rfl, bits_and _ _ (Nat.lt_of_le_of_lt (Nat.div_le_self _ _) hm) (by decide), Nat.and_one_is_mod, Nat.testBit_eq_decide_div_mod_eq]
  by_cases h : m / 2 ^ j % 2 = 1
  · rw [h]; simp
  · rw [decide_eq_false h]
    have : m / 2 ^ j % 2 = 0 := by omega
    rw [this]
    rfl
set_option maxHeartbeats 1000000 in
theorem has_any (B off : Nat) (S : Nat → Bool) (i : Nat) (hi : i < 448) (w : World) (h : SetAt w B off S) :
    Calls Try.prog 45 #[.pointer (some ⟨B, off, none⟩), .int .i64 (i : Int)] w fun e w' => e = .returned (.bool (S i)) ∧ w' = w := by
  obtain ⟨m, hm, hc, _, hb⟩ := h (i / 64) (by omega)
  have hb := hb (i % 64) (Nat.mod_lt _ (by omega))
  rw [show 64 * (i / 64) + i % 64 = i by omega] at hb
  have q1 : IntKind.i64.wrap (Int.tdiv (i : Int) 64) = ((i / 64 : Nat) : Int) := by
    rw [Int.tdiv_eq_ediv_of_nonneg (by omega)]
    exact IntWalk.i64_in _ (by omega)
  go_enter Try.func45, Try.ntmps45
  go_wp2_with fail
  go_ret
  exact ⟨boolR ((bit_test m _ hm).trans hb), rfl⟩
set_option maxHeartbeats 1000000 in
theorem add_any (B off : Nat) (S : Nat → Bool) (i : Nat) (hi : i < 448) (w : World) (h : SetAt w B off S) :
    Calls Try.prog 59 #[.pointer (some ⟨B, off, none⟩), .int .i64 (i : Int)] w fun e w' => (∃ v, e = .returned v) ∧ SetAt w' B off (fun j => decide (j = i) || S j) ∧ ∃ v, w' = (w.setCell ⟨B, off + i / 64, none⟩ v).drew := by
  obtain ⟨m, hm, hc, hf, hb⟩ := h (i / 64) (by omega)
  have q1 : IntKind.i64.wrap (Int.tdiv (i : Int) 64) = ((i / 64 : Nat) : Int) := by
    rw [Int.tdiv_eq_ediv_of_nonneg (by omega)]
    exact IntWalk.i64_in _ (by omega)
  have H := Lib.hid h
  have Hb := Lib.hid hb
  clear h hb
  go_enter Try.func59, Try.ntmps59
  go_wp2_with fail
  go_region
  have e1 : IntKind.u64.wrap (2 ^ (i % 64)) = ((2 ^ (i % 64) : Nat) : Int) := by
    have h1 : 2 ^ (i % 64) < 2 ^ 64 := Nat.pow_lt_pow_right (by omega) (Nat.mod_lt _ (by omega))
    push_cast
    refine u64_in _ ⟨Int.pow_nonneg (by decide), ?_⟩
    exact_mod_cast h1
  have hlt : 2 ^ (i % 64) < 2 ^ 64 := Nat.pow_lt_pow_right (by omega) (Nat.mod_lt _ (by omega))
  rw [e1, bits_or _ _ hm hlt]
  have HS : SetAt ((w.setCell ⟨B, off + i / 64, none⟩ (.int .u64 ((m ||| 2 ^ (i % 64) : Nat) : Int))).drew) B off (fun j => decide (j = i) || S j) := fun k hk => by
    by_cases hki : k = i / 64
    · subst hki
      refine ⟨m ||| 2 ^ (i % 64), Nat.or_lt_two_pow hm hlt, ?_, ?_, fun j hj => ?_⟩
      · rw [World.cell?_drew]
        exact World.cell?_setCell_same' _ _ _ (by rw [hc]; rfl)
      · rw [World.frozen?_drew, World.frozen?_setCell]
        exact hf
      · rw [Nat.testBit_or, Hb.out j hj, Nat.testBit_two_pow, Bool.or_comm]
        congr 1
        exact decide_eq_decide.2 (by omega)
    · obtain ⟨m', h1, h2, h3, h4⟩ := H.out k hk
      refine ⟨m', h1, ?_, ?_, fun j hj => ?_⟩
      · rw [World.cell?_drew, World.cell?_setCell_other _ _ _ _ (by simp only [ne_eq, Addr.mk.injEq, true_and, and_true]; omega)]
        exact h2
      · rw [World.frozen?_drew, World.frozen?_setCell]
        exact h3
      · have : decide (64 * k + j = i) = false := decide_eq_false (by omega)
        show m'.testBit j = (decide (64 * k + j = i) || S (64 * k + j))
        rw [h4 j hj, this, Bool.false_or]
  generalize ((m ||| 2 ^ (i % 64) : Nat) : Int) = z at *
  go_end0
  exact ⟨⟨_, rfl⟩, HS, _, rfl⟩
theorem SetAt.below {w w' : World} {B off : Nat} {S : Nat → Bool} (h : SetAt w B off S) (hB : B < w.heap.size) (hb : Below w.heap.size w w') : SetAt w' B off S := fun k hk => by
  obtain ⟨m, h1, h2, h3, h4⟩ := h k hk
  exact ⟨m, h1, (hb.cell (p := ⟨B, off + k, none⟩) hB).trans h2, (hb.frozen (p := ⟨B, off + k, none⟩) hB).trans h3, h4⟩
/-- Words of bits that read as a set. -/
def SetVs (ns : List Value) (T : Nat → Bool) : Prop := ns.length = 7 ∧ ∀ k, k < 7 → ∃ m : Nat, m < 2 ^ 64 ∧ ns[k]? = some (.int .u64 (m : Int)) ∧ ∀ j, j < 64 → m.testBit j = T (64 * k + j)
theorem and_none {a b : Nat} {S T : Nat → Bool} (k : Nat) (ha : a < 2 ^ 64) (hS : ∀ j, j < 64 → a.testBit j = S (64 * k + j)) (hT : ∀ j, j < 64 → b.testBit j = T (64 * k + j)) : a &&& b = 0 ↔ ∀ j, j < 64 → (S (64 * k + j) && T (64 * k + j)) = false := by
  constructor
  · intro h j hj
    have := congrArg (fun x => x.testBit j) h
    simp only [Nat.testBit_and, Nat.zero_testBit] at this
    rw [← hS j hj, ← hT j hj]
    exact this
  · intro h
    refine Nat.eq_of_testBit_eq fun j => ?_
    rw [Nat.testBit_and, Nat.zero_testBit]
    by_cases hj : j < 64
    · rw [hS j hj, hT j hj]
      exact h j hj
    · rw [Nat.testBit_lt_two_pow (Nat.lt_of_lt_of_le ha (Nat.pow_le_pow_right (by omega) (by omega))), Bool.false_and]
set_option maxHeartbeats 2000000 in
set_option maxRecDepth 100000 in
theorem meets_any (B off : Nat) (S T : Nat → Bool) (ns : List Value) (hT : SetVs ns T) (w : World) (hB : B < w.heap.size) (h : SetAt w B off S) :
    Calls Try.prog 61 #[.pointer (some ⟨B, off, none⟩), .agg ns.toArray] w fun e w' => e = .returned (.bool ((List.range 448).any fun j => S j && T j)) ∧ Below w.heap.size w w' := by
  obtain ⟨hl, hn⟩ := hT
  obtain ⟨n0, n1, n2, n3, n4, n5, n6, rfl⟩ : ∃ a b c d e f g, ns = [a, b, c, d, e, f, g] := by
    match ns, hl with
    | [a, b, c, d, e, f, g], _ => exact ⟨a, b, c, d, e, f, g, rfl⟩
  have HN := Lib.hid hn
  have HS := Lib.hid h
  clear hn h hl
  go_enter Try.func61, Try.ntmps61
  go_wp2_with fail
  have hr0 := heap_alloc_new w (.cells #[n0, n1, n2, n3, n4, n5, n6] 68)
  have HB0 := Lib.hid (below_alloc w (.cells #[n0, n1, n2, n3, n4, n5, n6] 68))
  generalize w.alloc (.cells #[n0, n1, n2, n3, n4, n5, n6] 68) = W0 at *
  go_loopw [8] (fun i wr => ∃ k : Nat, k ≤ 7 ∧ i = .int .i64 (k : Int) ∧ wr.heap[w.heap.size]? = some (.cells #[n0, n1, n2, n3, n4, n5, n6] 68 (0, 0)) ∧ Below w.heap.size w wr ∧ ∀ j, j < 64 * k → (S j && T j) = false) (fun i _ => 7 - (intOf i).toNat)
  case atStart => exact ⟨0, by omega, rfl, hr0, HB0.out, fun j hj => by omega⟩
  case round =>
    clear hr0 HB0
    obtain ⟨k, hk, rfl, hr, hb, hno⟩ := hrel
    have Hno := Lib.hid hno
    have Hb := Lib.hid hb
    clear hno
    by_cases hk7 : k < 7
    · obtain ⟨m, hm, hc, _, ht⟩ := (HS.out.below hB hb) k hk7
      obtain ⟨m', hm', hc', ht'⟩ := HN.out k hk7
      have c1 : wr.cell? ⟨w.heap.size, k, none⟩ = some (.int .u64 (m' : Int)) := by
        rw [cell_of_row wr _ k _ _ _ hr, List.getElem?_toArray]
        exact hc'
      have hAnd := bits_and m m' hm hm'
      have HI := Lib.hid (and_none k hm ht ht')
      have Hr := Lib.hid hr
      clear ht ht' hc' hr hb
      by_cases hz : m &&& m' = 0
      · have hz' : (((m &&& m' : Nat) : Int) == 0) = true := by rw [hz]; rfl
        have Hz := Lib.hid (HI.out.1 hz)
        have hzn : (m &&& m' : Nat) = 0 := hz
        rw [hzn] at hAnd
        clear hz HI hz' hzn
        have hki : (k : Int) < 7 := by omega
        go_wp2_with fail
        go_region
        go_wp2_with fail
        go_roundw
        case rel => exact ⟨k + 1, by omega, by go_num, Hr.out, Hb.out.drew, fun j hj => by
          by_cases h1 : j < 64 * k
          · exact Hno.out j h1
          · have := Hz.out (j - 64 * k) (by omega)
            rwa [show 64 * k + (j - 64 * k) = j by omega] at this⟩
        case measure => (simp [intOf] <;> omega)
      · have hz' : (((m &&& m' : Nat) : Int) == 0) = false := by
          rw [beq_eq_false_iff_ne]
          omega
        have Hex := Lib.hid (show ((List.range 448).any fun j => S j && T j) = true by
          rw [List.any_eq_true]
          obtain ⟨j, hj⟩ := Classical.not_forall.1 (fun h => hz (HI.out.2 h))
          obtain ⟨hj, hs⟩ := Classical.not_imp.1 hj
          exact ⟨64 * k + j, List.mem_range.2 (by omega), by simpa using hs⟩)
        have hki : (k : Int) < 7 := by omega
        generalize (m &&& m' : Nat) = q at *
        clear hz HI
        go_wp2_with fail
        go_region
        go_wp2_with fail
        go_ret
        rw [Hex.out]
        exact ⟨rfl, Hb.out.drew⟩
    · have hki : ¬ (k : Int) < 7 := by omega
      have Hex := Lib.hid (show ((List.range 448).any fun j => S j && T j) = false by
        rw [List.any_eq_false]
        intro j hj
        rw [Hno.out j (by have := List.mem_range.1 hj; omega)]
        simp)
      go_wp2_with fail
      go_ret
      rw [Hex.out]
      exact ⟨rfl, Hb.out⟩
end Go.Proofs.Ytenfeekchggioaa
