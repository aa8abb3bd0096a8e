/- The law of forms walked: Word. -/
import Derived.Test.YteffdkoebigcnaaDK
namespace Go.Proofs.Yteffdkoebigcnaa
open Go.RowKit Go.Lib
theorem ints_inj {n : Nat} {x y : Pm} (hx : x.In n) (hy : y.In n) (h : ints n x = ints n y) : x = y := by
  refine Pm.ext' fun k => ?_
  by_cases hk : k < n
  · have h1 := congrArg (fun l => l[k]?) h
    simp only [ints_get _ hk] at h1
    have := Option.some.inj h1
    omega
  · rw [hx k (by omega), hy k (by omega)]
theorem map_ints_inj {n : Nat} : ∀ {X Y : List Pm}, (∀ x ∈ X, x.In n) → (∀ y ∈ Y, y.In n) → X.map (ints n) = Y.map (ints n) → X = Y
  | [], [], _, _, _ => rfl
  | [], _ :: _, _, _, h => by simp at h
  | _ :: _, [], _, _, h => by simp at h
  | x :: X, y :: Y, hx, hy, h => by
    rw [List.map_cons, List.map_cons] at h
    injection h with h1 h2
    rw [ints_inj (hx x (by simp)) (hy y (by simp)) h1, map_ints_inj (fun z hz => hx z (by simp [hz])) (fun z hz => hy z (by simp [hz])) h2]
theorem Word_bad (n p : Int) (hn : n < 1 ∨ 12 < n) (v : Value) (w : World) :
    Calls Try.prog 33 #[.int .i64 n, .int .i64 p, v] w fun e w' => e = .returned (.tuple #[.slice none 0 0, .int .i64 2]) ∧ w' = w := by
  rcases hn with h | h
  · go_enter Try.func33, Try.ntmps33
    go_wp2_with fail
    go_ret2
    exact ⟨rfl, rfl⟩
  · have h' : ¬ n < 1 := by omega
    go_enter Try.func33, Try.ntmps33
    go_wp2_with fail
    go_ret2
    exact ⟨rfl, rfl⟩
theorem refWord_bad (n p : Int) (hn : n < 1 ∨ 12 < n) (v : Value) (w : World) :
    Calls Try.prog 34 #[.int .i64 n, .int .i64 p, v] w fun e w' => e = .returned (.tuple #[.slice none 0 0, .int .i64 2]) ∧ w' = w := by
  rcases hn with h | h
  · go_enter Try.func34, Try.ntmps34
    go_wp2_with fail
    go_ret2
    exact ⟨rfl, rfl⟩
  · have h' : ¬ n < 1 := by omega
    go_enter Try.func34, Try.ntmps34
    go_wp2_with fail
    go_ret2
    exact ⟨rfl, rfl⟩
/-- Both Words return the same. -/
theorem words_both (n p : Int) (F : List (List Int)) : ∃ P : List Int → Int → Prop, (∀ L er L' er', P L er → P L' er' → L = L' ∧ er = er') ∧
    (∀ v w, FI w v F → Calls Try.prog 33 #[.int .i64 n, .int .i64 p, v] w fun e w' => ∃ v' L er, e = .returned (.tuple #[v', .int .i64 er]) ∧ IS w' v' L ∧ Below w.heap.size w w' ∧ P L er) ∧
    (∀ v w, FI w v F → Calls Try.prog 34 #[.int .i64 n, .int .i64 p, v] w fun e w' => ∃ v' L er, e = .returned (.tuple #[v', .int .i64 er]) ∧ IS w' v' L ∧ Below w.heap.size w w' ∧ P L er) := by
  by_cases hn : n < 1 ∨ 12 < n
  · refine ⟨fun L er => L = [] ∧ er = 2, fun L er L' er' h k => ⟨h.1.trans k.1.symm, h.2.trans k.2.symm⟩, fun v w _ => (Word_bad n p hn v w).mono ?_, fun v w _ => (refWord_bad n p hn v w).mono ?_⟩
    all_goals
      rintro e w' ⟨rfl, rfl⟩
      exact ⟨_, [], 2, rfl, is_nil _, Below.refl _ _, rfl, rfl⟩
  · obtain ⟨m, rfl⟩ : ∃ m : Nat, n = (m : Int) := ⟨n.toNat, by omega⟩
    refine ⟨fun L er => (er = 6 ∧ L = [] ∧ ¬ ∀ l ∈ F, PermL m l) ∨ ∃ X : List Pm, F = X.map (ints m) ∧ (∀ x ∈ X, x.In m) ∧ (L, er) = fin400 (powC m p ++ X.flatMap (least m)), fun L er L' er' h k => ?_, fun v w h => Word_any m (by omega) (by omega) p F v w h, fun v w h => refWord_any m (by omega) (by omega) p F v w h⟩
    have hno : ∀ X : List Pm, F = X.map (ints m) → (∀ x ∈ X, x.In m) → ∀ l ∈ F, PermL m l := fun X e hX l hl => by
      rw [e] at hl
      obtain ⟨x, hx, rfl⟩ := List.mem_map.1 hl
      exact pm_perm m x (hX x hx)
    rcases h with ⟨h1, h2, h3⟩ | ⟨X, h1, h2, h3⟩
    · rcases k with ⟨k1, k2, k3⟩ | ⟨Y, k1, k2, k3⟩
      · exact ⟨h2.trans k2.symm, h1.trans k1.symm⟩
      · exact absurd (hno Y k1 k2) h3
    · rcases k with ⟨k1, k2, k3⟩ | ⟨Y, k1, k2, k3⟩
      · exact absurd (hno X h1 h2) k3
      · obtain rfl : X = Y := map_ints_inj h2 k2 (h1.symm.trans k1)
        have := h3.trans k3.symm
        exact ⟨congrArg Prod.fst this, congrArg Prod.snd this⟩
end Go.Proofs.Yteffdkoebigcnaa
