/- awake walked. -/
import Derived.Test.YtnfppebcpagjpaaCA
import Derived.Laws.OwnMore
namespace Go.Proofs.Ytnfppebcpagjpaa
open Go.RowKit Go.Lib
theorem ints_lit {W : World} {g : Nat} {t : TypeId} {fr : Nat × Nat} (xs : List Int) (h : W.heap[g]? = some (.cells (xs.map (Value.int .i64)).toArray t fr)) : IntsAt W (some ⟨g, 0, none⟩) xs := fun k z hz => by
  refine ⟨g, 0, rfl, (Array.getElem?_eq_some_iff.1 h).1, ?_⟩
  rw [Nat.zero_add, cell_of_row W g k _ _ _ h]
  simp [hz]
theorem form_lit1 {W : World} {g g1 : Nat} {t t' : TypeId} {fr fr' : Nat × Nat} (l : List Int) (h1 : W.heap[g]? = some (.cells #[.slice (some ⟨g1, 0, none⟩) l.length l.length] t fr)) (h2 : W.heap[g1]? = some (.cells (l.map (Value.int .i64)).toArray t' fr')) (hl : l.length ≤ maxLen) : FormAt W (some ⟨g, 0, none⟩) [l] := fun k l' hl' => by
  rcases k with _ | k
  · obtain rfl : l = l' := by simpa using hl'
    exact ⟨g, 0, rfl, (Array.getElem?_eq_some_iff.1 h1).1, some ⟨g1, 0, none⟩, l.length, by rw [Nat.zero_add]; exact cell_of_row W g 0 _ _ _ h1, Nat.le_refl _, hl, ints_lit l h2⟩
  · simp at hl'
theorem form_of {B m : Nat} {W : World} {v : Value} {D : List Pm} {fs : List Value} (h : W.ownsRow B 22 1 v D.length fs) (hr : Rows B m W fs D) (hD : 0 < D.length) (hm : 0 < m) :
    ∃ g c, v = .slice (some ⟨g, 0, none⟩) D.length c ∧ D.length ≤ c ∧ c ≤ maxLen ∧ FormAt W (some ⟨g, 0, none⟩) (D.map (ints m)) := by
  rcases h.2 with ⟨_, h0⟩ | ⟨g, cap, cur, rfl, _, hg, h1, h2, _, _⟩
  · omega
  · refine ⟨g, cap, rfl, h1, h2, fun k l hl => ?_⟩
    rw [List.getElem?_map] at hl
    obtain ⟨x, hx, rfl⟩ := Option.map_eq_some_iff.1 hl
    obtain ⟨u, hu, ho⟩ := hr k x hx
    have hk := (List.getElem?_eq_some_iff.1 hx).1
    rcases ho.2 with ⟨_, h0⟩ | ⟨g', cap', cur', rfl, _, hg', h1', h2', _, _⟩
    · omega
    · refine ⟨g, 0, rfl, (Array.getElem?_eq_some_iff.1 hg).1, some ⟨g', 0, none⟩, cap', ?_, by rw [ints_len]; exact h1', h2', fun j z hz => ⟨g', 0, rfl, (Array.getElem?_eq_some_iff.1 hg').1, ?_⟩⟩
      · rw [Nat.zero_add, ints_len]
        exact (h.cellAt k (by omega)).trans hu
      · have hj := (List.getElem?_eq_some_iff.1 hz).1
        rw [ints_len] at hj
        rw [Nat.zero_add]
        exact (ho.cellAt j (by omega)).trans (by simp [hz])
set_option maxHeartbeats 600000 in
set_option maxRecDepth 100000 in
theorem awake_any (w : World) : Calls Try.prog 14 #[] w fun e w' => e = .returned (.bool true) ∧ Below w.heap.size w w' := by
  have c1 : bothV 3 [1, 2, 1] [2, 1, 2] = 0 := chk_121
  have c2 : bothV 3 [1, 2] [2, 1] = 0 := chk_12
  go_enter Try.func14, Try.ntmps14
  go_wp2_with fail
  refine (Same_any 3 [1, 2, 1] [2, 1, 2] (some ⟨w.heap.size, 0, none⟩) (some ⟨w.heap.size + 1, 0, none⟩) 3 3 _ (by decide) (by decide +kernel) (by decide) (by decide +kernel) (ints_lit _ (heap_alloc2_old _ _ _)) (ints_lit _ (heap_alloc2_new _ _ _)) true (fun h => absurd c1 h) (fun _ => ⟨fun _ => nf_121, fun _ => rfl⟩)).mono ?_
  rintro e w1 ⟨rfl, B1⟩
  rw [c1]
  have BW1 := Lib.hid ((((below_alloc w _).alloc (by simp) _).trans (B1.mono (((below_alloc w _).alloc (by simp) _) : Below w.heap.size w _).size)) : Below w.heap.size w w1)
  clear B1 c1
  go_wp2_with fail
  refine (Same_any 3 [1, 2] [2, 1] (some ⟨w1.heap.size, 0, none⟩) (some ⟨w1.heap.size + 1, 0, none⟩) 2 2 _ (by decide) (by decide +kernel) (by decide) (by decide +kernel) (ints_lit _ (heap_alloc2_old _ _ _)) (ints_lit _ (heap_alloc2_new _ _ _)) false (fun _ => rfl) (fun _ => ⟨fun h => (by cases h), fun h => absurd h nf_12⟩)).mono ?_
  rintro e w2 ⟨rfl, B2⟩
  rw [c2]
  have BW2 := Lib.hid (BW1.out.trans (((((below_alloc w1 _).alloc (by simp) _).trans (B2.mono (((below_alloc w1 _).alloc (by simp) _) : Below w1.heap.size w1 _).size)) : Below w1.heap.size w1 w2).mono BW1.out.size))
  clear B2 c2 BW1
  go_wp2_with fail
  have N := Normal_any 3 [-1] (some ⟨w2.heap.size, 0, none⟩) 1 (w2.alloc (.cells #[.int .i64 (-1)] 3)) (by decide) (by decide +kernel) (ints_lit _ (heap_alloc_new _ _)) chk_m1
  obtain ⟨hp1, hD⟩ := nf_m1
  rw [show (3 : Int).toNat = 3 from rfl] at N
  rw [hp1] at N
  obtain ⟨D, hDD⟩ : ∃ D, D = (nf 3 [-1]).2 := ⟨_, rfl⟩
  rw [← hDD] at N hD
  have hl : D.length = 1 := by have := congrArg List.length hD; simpa using this
  refine N.mono ?_
  rintro e w3 ⟨v, fs, rfl, O3, R3, B3⟩
  obtain ⟨g, c, rfl, hc1, hc2, F3⟩ := form_of O3 R3 (by omega) (by omega)
  rw [hD] at F3
  rw [hl] at hc1 ⊢
  have HF3 := Lib.hid F3
  have BW3 := Lib.hid (BW2.out.trans (((below_alloc w2 _).trans (B3.mono (below_alloc w2 _).size)).mono BW2.out.size))
  clear O3 R3 B3 F3 BW2 N hDD hD hl hp1
  go_wp2_with fail
  refine (sameForm_any [[2, 0, 1]] [[2, 0, 1]] true ⟨fun _ => rfl, fun _ => rfl⟩ (some ⟨g, 0, none⟩) (some ⟨w3.heap.size + 1, 0, none⟩) c 1 _ hc1 hc2 (HF3.out.below ((below_alloc w3 _).alloc (by simp) _)) (form_lit1 [2, 0, 1] (heap_alloc2_new _ _ _) (heap_alloc2_old _ _ _) (by decide +kernel))).mono ?_
  rintro e w4 ⟨rfl, B4⟩
  go_wp2_with fail
  go_ret
  exact ⟨rfl, BW3.out.trans ((((below_alloc w3 _).alloc (by simp) _).trans (B4.mono (((below_alloc w3 _).alloc (by simp) _) : Below w3.heap.size w3 _).size)).mono BW3.out.size)⟩
end Go.Proofs.Ytnfppebcpagjpaa
