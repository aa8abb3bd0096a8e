/- Syllables: what their methods do. -/
import Derived.Test.YtmefpaoakblndaaGreatDoorVR
import Derived.Test.YtmefpaoakblndaaGreatDoorVG
import Derived.Test.YtmefpaoakblndaaGreatDoorVN
namespace Go.Proofs.YtmefpaoakblndaaGreatDoor
open Go.RowKit
def sylOf (c : UInt8) : Syl := ⟨crX c, twL c, twR c⟩
def Syl.val (s : Syl) : Value := .agg #[.int .i64 s.x, .int .i64 s.l, .int .i64 s.r]
def Syl.add (s t : Syl) : Syl := ⟨s.x + t.x, s.l + t.l, s.r + t.r⟩
def Syl.cr (s : Syl) : Bool := s.x != 0
def Syl.nil (s : Syl) : Prop := s.x = 0 ∧ s.l = 0 ∧ s.r = 0
/-- A number of crosses or twists that is small. -/
def Syl.sm (s : Syl) (n : Int) : Prop := (-n ≤ s.x ∧ s.x ≤ n) ∧ (-n ≤ s.l ∧ s.l ≤ n) ∧ -n ≤ s.r ∧ s.r ≤ n
set_option maxHeartbeats 1000000 in
set_option maxRecDepth 100000 in
theorem syllableOf_any (c : UInt8) (w : World) : Calls Tryz.prog 86 #[.int .u8 (c.toNat : Int)] w fun e w' => e = .returned (sylOf c).val ∧ Below w.heap.size w w' := by
  have CT := Lib.hid (fun W => twists_any c W)
  have CX := Lib.hid (fun W => crosses_any c W)
  unfold sylOf Syl.val
  generalize crX c = xc at *
  generalize twL c = xl at *
  generalize twR c = xr at *
  go_enter Tryz.func86, Tryz.ntmps86
  go_wp2_with fail
  refine (CT.out _).mono ?_
  rintro e w1 ⟨rfl, hw⟩
  obtain rfl := hw.symm
  clear hw
  go_wp2_with fail
  refine (CX.out _).mono ?_
  rintro e w1 ⟨rfl, hw⟩
  obtain rfl := hw.symm
  clear hw
  go_wp2_with fail
  exact bodyPost_ret (results_cell_row rfl _ _ w.heap.size 81 #[.int .i64 xc, .int .i64 xl, .int .i64 xr] (0, 0) _ rfl (heap_alloc_new _ _) Tryz.underlying81 rfl (by kernel_rfl)) rfl ⟨rfl, below_alloc w _⟩
set_option maxHeartbeats 1000000 in
theorem isCross_any (s : Syl) (w : World) : Calls Tryz.prog 87 #[s.val] w fun e w' => e = .returned (.bool s.cr) ∧ Below w.heap.size w w' := by
  unfold Syl.val Syl.cr
  go_enter Tryz.func87, Tryz.ntmps87
  go_wp2_with fail
  go_ret
  exact ⟨rfl, below_alloc w _⟩
set_option maxHeartbeats 1000000 in
set_option maxRecDepth 100000 in
theorem plus_any (s t : Syl) (hs : s.sm 100000) (ht : t.sm 100000) (w : World) : Calls Tryz.prog 88 #[s.val, t.val] w fun e w' => e = .returned (s.add t).val ∧ Below w.heap.size w w' := by
  obtain ⟨⟨h1, h2⟩, ⟨h3, h4⟩, h5, h6⟩ := hs
  obtain ⟨⟨k1, k2⟩, ⟨k3, k4⟩, k5, k6⟩ := ht
  have e1 : IntKind.i64.wrap (s.x + t.x) = s.x + t.x := IntWalk.i64_in _ (by omega)
  have e2 : IntKind.i64.wrap (s.l + t.l) = s.l + t.l := IntWalk.i64_in _ (by omega)
  have e3 : IntKind.i64.wrap (s.r + t.r) = s.r + t.r := IntWalk.i64_in _ (by omega)
  unfold Syl.add Syl.val
  go_enter Tryz.func88, Tryz.ntmps88
  go_wp2_with fail
  exact bodyPost_ret (results_cell_row rfl _ _ (w.heap.size + 1 + 1) 81 #[.int .i64 (s.x + t.x), .int .i64 (s.l + t.l), .int .i64 (s.r + t.r)] (0, 0) _ rfl (heap3_2 _ _ _ _) Tryz.underlying81 rfl (by kernel_rfl)) rfl ⟨rfl, below3 w _ _ _⟩
/-- A letter n times, or the one that undoes it. -/
def tmL (a b : UInt8) (n : Int) : List UInt8 := if n < 0 then List.replicate (-n).toNat b else List.replicate n.toNat a
theorem tmL_len (a b : UInt8) (n : Int) : ((tmL a b n).length : Int) = if n < 0 then -n else n := by
  unfold tmL; split <;> simp <;> omega
theorem rep_one (a : UInt8) (n : Nat) : Lib.repeatL [a] n = List.replicate n a := by
  induction n with
  | zero => rfl
  | succ n ih => simp [Lib.repeatL, List.replicate_succ] at *; first | exact ih | simp [ih] | (rw [ih])
set_option maxHeartbeats 1000000 in
set_option maxRecDepth 100000 in
theorem times_any (a b : UInt8) (n : Int) (hn : -100000 < n ∧ n < 100000) (w : World) : Calls Tryz.prog 90 #[.string ⟨#[a]⟩, .string ⟨#[b]⟩, .int .i64 n] w fun e w' => e = .returned (.string ⟨(tmL a b n).toArray⟩) ∧ Below w.heap.size w w' := by
  by_cases h : n < 0
  · have e : tmL a b n = List.replicate (-n).toNat b := if_pos h
    rw [e]
    obtain ⟨m, rfl⟩ : ∃ m : Nat, n = -(m : Int) := ⟨(-n).toNat, by omega⟩
    have hwn : IntKind.i64.wrap (-(-(m : Int))) = (m : Int) := by rw [Int.neg_neg]; exact IntWalk.i64_in _ (by omega)
    have hm : (-(-(m : Int))).toNat = m := by omega
    rw [hm]
    have CR : ∀ W, Calls Tryz.prog 109 #[.string ⟨#[b]⟩, .int .i64 (m : Int)] W fun e w' => e = .returned (.string ⟨(List.replicate m b).toArray⟩) ∧ Below W.heap.size W w' := fun W => by
      have := Tryz.strings_Repeat ⟨#[b]⟩ m W (by omega) (by show 1 * m ≤ _; omega)
      rw [show (⟨#[b]⟩ : ByteArray).data.toList = [b] from rfl, rep_one] at this
      exact this
    have HR := Lib.hid CR
    clear CR e hm
    go_enter Tryz.func90, Tryz.ntmps90
    go_wp2_with fail
    refine (HR.out _).mono ?_
    rintro e w1 ⟨rfl, hb⟩
    have HB := Lib.hid hb
    clear hb
    go_wp2_with fail
    go_ret
    exact ⟨rfl, HB.out⟩
  · have e : tmL a b n = List.replicate n.toNat a := if_neg h
    rw [e]
    obtain ⟨m, rfl⟩ : ∃ m : Nat, n = (m : Int) := ⟨n.toNat, by omega⟩
    rw [Int.toNat_natCast]
    have CR : ∀ W, Calls Tryz.prog 109 #[.string ⟨#[a]⟩, .int .i64 (m : Int)] W fun e w' => e = .returned (.string ⟨(List.replicate m a).toArray⟩) ∧ Below W.heap.size W w' := fun W => by
      have := Tryz.strings_Repeat ⟨#[a]⟩ m W (by omega) (by show 1 * m ≤ _; omega)
      rw [show (⟨#[a]⟩ : ByteArray).data.toList = [a] from rfl, rep_one] at this
      exact this
    have HR := Lib.hid CR
    clear CR e
    go_enter Tryz.func90, Tryz.ntmps90
    go_wp2_with fail
    refine (HR.out _).mono ?_
    rintro e w1 ⟨rfl, hb⟩
    have HB := Lib.hid hb
    clear hb
    go_wp2_with fail
    go_ret
    exact ⟨rfl, HB.out⟩
end Go.Proofs.YtmefpaoakblndaaGreatDoor
