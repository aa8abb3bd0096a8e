/- Trivial and the copy of a slice of ints walked. -/
import Derived.Test.YtnfppebcpagjpaaBV
import Derived.Laws.AppendOwn
import Derived.Lib.SliceRun
namespace Go.Proofs.Ytnfppebcpagjpaa
open Go.RowKit Go.Lib
set_option maxHeartbeats 400000 in
set_option maxRecDepth 100000 in
theorem Trivial_any (n : Int) (xs : List Int) (sa : Option Addr) (sc : Nat) (w : World) (hsc : xs.length ≤ sc) (hmx : sc ≤ maxLen) (ha : IntsAt w sa xs)
    (r : Bool) (hr0 : bothV n xs [] ≠ 0 → r = false) (hr1 : bothV n xs [] = 0 → (r = true ↔ nf n.toNat xs = nf n.toNat [])) :
    Calls Try.prog 38 #[.int .i64 n, .slice sa xs.length sc] w fun e w' => e = .returned (.tuple #[.bool r, .int .i64 (bothV n xs [])]) ∧ Below w.heap.size w w' := by
  have C := Same_any n xs [] sa none sc 0 w hsc hmx (Nat.le_refl _) (Nat.zero_le _) ha (fun k z h => by cases h) r hr0 hr1
  rw [List.length_nil] at C
  obtain ⟨v, hv⟩ : ∃ v, v = bothV n xs [] := ⟨_, rfl⟩
  rw [← hv] at C ⊢
  have HC := Lib.hid C
  clear C hr0 hr1 hv ha
  go_enter Try.func38, Try.ntmps38
  go_wp2_with fail
  refine HC.out.mono ?_
  rintro e w1 ⟨rfl, B1⟩
  go_wp2_with fail
  go_ret2
  exact ⟨rfl, B1⟩
theorem infoInt : (Try.prog.info? 3).map (fun i => (i.zero, i.size, i.bytes)) = some (some (.int .i64 0), 1, 8) := by kernel_rfl
set_option maxHeartbeats 400000 in
set_option maxRecDepth 100000 in
theorem Clone_any (b off n c : Nat) (zs : List Int) (w : World) (hn : zs.length = n) (_ : n ≤ c) (hr : w.rangeAt b off (zs.map (Value.int .i64))) (h0 : 0 < n) (h1 : n ≤ 12) :
    Calls Try.prog 73 #[.slice (some ⟨b, off, none⟩) n c] w fun e w' => ∃ v', e = .returned v' ∧ w'.ownsRow w.heap.size 3 1 v' n (zs.map (Value.int .i64)) ∧ v' ≠ .slice none 0 0 ∧ Below w.heap.size w w' := by
  obtain ⟨i0, hi, hxx⟩ := Option.map_eq_some_iff.1 infoInt
  simp only [Prod.mk.injEq] at hxx
  obtain ⟨hz0, hz1, hz2⟩ := hxx
  have q22 : ∀ (w : World) (a : Option Addr) (n c n' c' : Nat), (binOp .eql 22 (.slice a n c) (.slice none n' c')).run Try.prog w = .ok (.bool a.isNone) w := fun w a n c n' c' => Lib.run_eql_slice_nil w _ _ a n c n' c' Try.underlying22
  have A := Lib.hid hr
  clear hr
  go_enter Try.func73, Try.ntmps73
  go_wp2_with (at_builtin; refine wpList_append_own _ rfl _ _ 22 rfl w.heap.size 3 i0 (.int .i64 0) 1 8 Try.underlying22 hi hz0 hz1 hz2 rfl (by decide) _ _ _ rfl (World.ownsRow_made w #[] 0 (Nat.le_refl _) (Nat.zero_le _) rfl) ⟨b, off, none⟩ n c (zs.map (Value.int .i64)) rfl ?qc1 ?qc2 ?qc3 ?qc4 ?qc5 ?qc6 ?_)
  case qc1 => simp [hn]
  case qc2 =>
    intro j u hj
    rw [Addr.add_lit]
    refine Lib.cell?_alloc_some _ ?_
    exact A.out j u hj
  case qc3 => intro u hu; obtain ⟨x, _, rfl⟩ := List.mem_map.1 hu; rfl
  case qc4 => unfold maxLen; omega
  case qc5 => omega
  case qc6 => simp
  intro v' w1 hown hgrow hnil
  go_wp2
  go_ret
  refine ⟨v', rfl, by simpa using hown, hnil, ?_⟩
  exact ((Below.refl _ w).alloc (Nat.le_refl _) _).grown hgrow (by simp) (by intro k hk; simp [Value.ownBlock] at hk; omega)
end Go.Proofs.Ytnfppebcpagjpaa
