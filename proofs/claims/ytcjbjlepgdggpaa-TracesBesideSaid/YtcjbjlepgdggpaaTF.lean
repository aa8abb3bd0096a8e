/- A map from sets to numbers. -/
import Derived.Test.YtcjbjlepgdggpaaFA
import Derived.Maps.OwnSet
namespace Go.Proofs.Ytcjbjlepgdggpaa
open Go.RowKit Go.Lib Go.Maps Go.ChangeMaps
set_option maxRecDepth 100000
open Go.WideElems (Fit rd rg pl rd_val elemAt)
set_option linter.unusedSimpArgs false
theorem keyedM : Keyed Try.prog 78 := int_keyed Try.underlying78
theorem key_of (y : Nat) (h : y < 65536) : keyOf Try.prog 78 (.int .u16 (y : Int)) = some (.int .u16 (y : Int)) := keyOf_int_mk Try.underlying78 (by simp [Lit.wf, IntKind.min, IntKind.max, IntKind.signed, IntKind.bits]; omega)
theorem keysOf_u16 {l : Lit} (h : KeysOf Try.prog 78 l) : ∃ y : Nat, y < 65536 ∧ l = .int .u16 (y : Int) := by
  obtain ⟨v, hv⟩ := h
  simp only [keyOf, mapKey, Try.underlying78] at hv
  cases v <;> simp at hv
  rename_i q a
  obtain ⟨⟨rfl, hw⟩, rfl⟩ := hv
  simp [Lit.wf, IntKind.min, IntKind.max, IntKind.signed, IntKind.bits] at hw
  exact ⟨a.toNat, by omega, by rw [Int.toNat_of_nonneg (by omega)]⟩
theorem nodup_lenM : ∀ (n : Nat) (l : List Nat), l.Nodup → (∀ x ∈ l, x < n) → l.length ≤ n
  | 0, l, _, h => by
    cases l with
    | nil => simp
    | cons a l => exact absurd (h a (List.mem_cons_self)) (by omega)
  | n + 1, l, hd, h => by
    have h1 := nodup_lenM n (l.erase n) (hd.erase n) (fun x hx => by
      have := (List.Nodup.mem_erase_iff hd).1 hx
      have := h x this.2
      omega)
    rw [List.length_erase] at h1
    split at h1 <;> omega
def litN : Lit → Nat
  | .int _ a => a.toNat
  | _ => 0
theorem own_bound {R : Value → Option (DataW Unit × List MemPlace)} {w : World} {b N : Nat} {D : DataW Unit} (h : w.ownsMap Try.prog 78 R b N D) : w.ownsMap Try.prog 78 R b 65536 D := by
  obtain ⟨es, clock, hb, F, hs, hD⟩ := h
  refine ⟨es, clock, hb, F, ?_, hD⟩
  have h1 := fit_apart keyedM F
  have h2 := fit_keys F
  generalize hk : es.toList.map (rg Try.prog 78 R) = ks at h1 h2
  have hl : es.size = ks.length := by rw [← hk]; simp
  rw [hl]
  have h3 : (ks.map fun p => litN p.1).Nodup := by
    unfold List.Nodup
    rw [List.pairwise_map]
    refine h1.imp_of_mem fun {p q} hp hq hne e => hne ?_
    obtain ⟨a, _, ea⟩ := keysOf_u16 (h2 p hp)
    obtain ⟨c, _, ec⟩ := keysOf_u16 (h2 q hq)
    rw [ea, ec] at e ⊢
    simp [litN] at e
    rw [e]
  have := nodup_lenM 65536 _ h3 fun x hx => by
    obtain ⟨p, hp, rfl⟩ := List.mem_map.1 hx
    obtain ⟨a, ha, ea⟩ := keysOf_u16 (h2 p hp)
    rw [ea]
    simp [litN]
    exact ha
  simpa using this
/-- A map that reads so. -/
def MP (w : World) (b : Nat) (f : Nat → Option Nat) : Prop := ∃ D : DataW Unit, w.ownsMap Try.prog 78 (plainElem Try.prog 2) b 65536 D ∧
  ∀ y : Nat, y < 65536 → Maps.has D (.int .u16 (y : Int)) = (f y).isSome ∧ D.atKey (.int .u16 (y : Int)) (.lit (.int .i64 0)) = .lit (.int .i64 (((f y).getD 0 : Nat) : Int))
theorem zero64 (w : World) : (zeroValue 2).run Try.prog w = .ok (.int .i64 0) w := by kernel_rfl
theorem MP.lt {w : World} {b : Nat} {f : Nat → Option Nat} (h : MP w b f) : b < w.heap.size := let ⟨_, h1, _⟩ := h; h1.lt
theorem MP.kept {w w' : World} {b : Nat} {f : Nat → Option Nat} {row : Option Nat} (h : MP w b f) (hg : w.grownBy w' row) (hne : some b ≠ row) : MP w' b f :=
  let ⟨D, h1, h2⟩ := h
  ⟨D, h1.kept hg hne, h2⟩
theorem MP.below {w w' : World} {b B : Nat} {f : Nat → Option Nat} (h : MP w b f) (hb : Below B w w') (hB : b < B) : MP w' b f := by
  obtain ⟨D, ⟨es, clock, h1, h3⟩, h2⟩ := h
  exact ⟨D, ⟨es, clock, (hb.block b hB).trans h1, h3⟩, h2⟩
theorem MP.setCell {w : World} {b : Nat} {f : Nat → Option Nat} (h : MP w b f) {a : Addr} (ha : b ≠ a.block) (u : Value) : MP (w.setCell a u) b f :=
  let ⟨D, h1, h2⟩ := h
  ⟨D, h1.setCell ha u, h2⟩
theorem MP.look {w : World} {b : Nat} {f : Nat → Option Nat} (h : MP w b f) {y : Nat} (hy : y < 65536) :
    (Instr.lookup 80 (.map (some b)) (.int .u16 (y : Int)) true).run Try.prog w = .ok (.tuple #[.int .i64 (((f y).getD 0 : Nat) : Int), .bool (f y).isSome]) w := by
  obtain ⟨D, h1, h2⟩ := h
  obtain ⟨v, ps, hrun, hv⟩ := h1.look_ok keyedM Try.underlying80 (zero64 w) (plainElem_int Try.underlying2 (by decide)) (key_of y hy)
  obtain ⟨c, rfl, hc, _⟩ := plainElem_int_inv Try.underlying2 hv
  simp only [Prod.mk.injEq] at hc
  obtain ⟨g1, g2⟩ := h2 y hy
  rw [g2] at hc
  have e := hc.1
  injection e with e
  injection e with _ e
  rw [hrun, g1, e]
def updM (f : Nat → Option Nat) (y v : Nat) : Nat → Option Nat := fun k => if k = y then some v else f k
theorem MP.store {w : World} {b : Nat} {f : Nat → Option Nat} (h : MP w b f) {y v : Nat} (hy : y < 65536) (hv : v < 2 ^ 62) :
    ∃ w', (Instr.mapUpdate 80 (.map (some b)) (.int .u16 (y : Int)) (.int .i64 (v : Int))).run Try.prog w = .ok () w' ∧ MP w' b (updM f y v) ∧ w.mapTurned w' b := by
  obtain ⟨D, h1, h2⟩ := h
  obtain ⟨w', r1, r2, r3⟩ := h1.store keyedM Try.underlying80 (by unfold maxLen; omega) (key_of y hy) (plainElem_int (a := (v : Int)) Try.underlying2 (by simp [Lit.wf, IntKind.min, IntKind.max, IntKind.signed, IntKind.bits]; omega))
  refine ⟨w', r1, ⟨_, own_bound r2, fun k hk => ?_⟩, r3⟩
  have hM := (h1.tidy keyedM).isMap
  have hK : WideAt.IsKeyLit (.int .u16 (y : Int)) := keyedM.key (key_of y hy)
  by_cases e : k = y
  · subst e
    rw [has_put_same hM hK, atKey_put_same hM hK]
    simp [updM]
  · have hne : (Lit.int .u16 (k : Int)) ≠ .int .u16 (y : Int) := fun q => by
      injection q with _ q
      omega
    rw [has_put_other hne, atKey_put_other hne]
    simpa [updM, e] using h2 k hk
theorem MP.made (w : World) : MP (w.alloc (.map #[] 0)) w.heap.size (fun _ => none) := by
  refine ⟨.map [], (World.ownsMap_made w _ _ _).mono (Nat.zero_le _), fun y _ => ⟨rfl, rfl⟩⟩
end Go.Proofs.Ytcjbjlepgdggpaa
