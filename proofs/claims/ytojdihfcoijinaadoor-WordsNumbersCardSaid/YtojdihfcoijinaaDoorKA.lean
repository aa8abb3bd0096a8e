/- The law of the document's examples. -/
import Derived.Test.YtojdihfcoijinaaDoorQB
namespace Go.Proofs.YtojdihfcoijinaaDoor
open Go.RowKit

def kInts : List (List Int) := [[4, 4, 4, 4], [1, 2], [10, 10], [0, 0], [], [10000], [-1]]
def kTexts : List (List UInt8) := [[52, 120, 52], [49, 44, 50], [50, 120, 49, 48], [48, 44, 48], [], [], []]
theorem kList0 : listP [4, 4, 4, 4] = ([52, 120, 52], 0) := by decide +kernel
theorem kList1 : listP [1, 2] = ([49, 44, 50], 0) := by decide +kernel
theorem kList2 : listP [10, 10] = ([50, 120, 49, 48], 0) := by decide +kernel
theorem kList3 : listP [0, 0] = ([48, 44, 48], 0) := by decide +kernel
theorem kList4 : listP [] = ([], 0) := by decide +kernel
theorem kList5 : listP [10000] = ([], 7) := by decide +kernel
theorem kList6 : listP [-1] = ([], 7) := by decide +kernel
theorem kPar0 : parP [49, 44, 44, 50] = ([], 6) := by decide +kernel
theorem kPar1 : parP [51, 45, 51] = ([], 6) := by decide +kernel
theorem kPar2 : parP [49, 120, 52] = ([], 6) := by decide +kernel
theorem kPar3 : parP [49, 48, 48, 48, 48] = ([], 7) := by decide +kernel
theorem kPar4 : parP [53, 48, 49, 120, 48] = ([], 3) := by decide +kernel
theorem kUnq : refU [34, 97] = ([], 6) := by decide +kernel
theorem kSpl1 : splitSpec [97, 32, 32, 98] = ([], 6) := by decide +kernel
theorem kSpl2 : splitSpec [97, 34, 98] = ([], 6) := by decide +kernel
theorem kInt : intP [53] 9 0 = (0, 2) := by decide +kernel

theorem list_at (W w : World) (xs : List Int) (v : Value) (g : Glob w) (hs : SInt W v xs) (hb : Below W.heap.size W w) (out : List UInt8) (z : Int) (hm : xs.length ≤ 500) (ho : listP xs = (out, z)) :
    Calls Tryd.prog 20 #[v] w fun e w' => e = .returned (.tuple #[.string ⟨out.toArray⟩, .int .i64 z]) ∧ Below w.heap.size w w' := by
  obtain ⟨a, c, rfl, hx⟩ := hs.below hb
  have fin : Calls Tryd.prog 20 #[.slice a xs.length c] w (ListPost w xs) := by
    by_cases h0 : 0 < xs.length
    · obtain ⟨b, off, rfl, hb2, hc⟩ := hx h0
      exact List_rest xs b off c w g hm h0 hb2 hc
    · have : xs = [] := List.eq_nil_of_length_eq_zero (by omega)
      subst this
      exact List_empty a c w
  refine fin.mono ?_
  rintro e w' ⟨rfl, hbw⟩
  rw [ho]
  exact ⟨rfl, hbw⟩
noncomputable def kw1 (w : World) : World := (w.alloc (.cells #[.int .i64 4, .int .i64 4, .int .i64 4, .int .i64 4] 3)).alloc (.cells #[.int .i64 1, .int .i64 2] 3)
noncomputable def kw2 (w : World) : World := ((kw1 w).alloc (.cells #[.int .i64 10, .int .i64 10] 3)).alloc (.cells #[.int .i64 0, .int .i64 0] 3)
noncomputable def kw3 (w : World) : World := ((kw2 w).alloc (.cells #[.int .i64 10000] 3)).alloc (.cells #[.int .i64 (-1)] 3)
def kSl (n : Nat) : Array Value := #[.slice (some ⟨n, 0, none⟩) 4 4, .slice (some ⟨n + 1, 0, none⟩) 2 2, .slice (some ⟨n + 1 + 1, 0, none⟩) 2 2, .slice (some ⟨n + 1 + 1 + 1, 0, none⟩) 2 2, .slice none 0 0, .slice (some ⟨n + 1 + 1 + 1 + 1, 0, none⟩) 1 1, .slice (some ⟨n + 1 + 1 + 1 + 1 + 1, 0, none⟩) 1 1]
def kTx : Array Value := #[.string ⟨#[52, 120, 52]⟩, .string ⟨#[49, 44, 50]⟩, .string ⟨#[50, 120, 49, 48]⟩, .string ⟨#[48, 44, 48]⟩, .string ⟨#[]⟩, .string ⟨#[]⟩, .string ⟨#[]⟩]
noncomputable def kw (w : World) : World := ((kw3 w).alloc (.cells (kSl w.heap.size) 42)).alloc (.cells kTx 43)
theorem size_alloc (w : World) (o : Obj) : (w.alloc o).heap.size = w.heap.size + 1 := by simp
theorem kw_size (w : World) : (kw3 w).heap.size = w.heap.size + 6 ∧ (kw w).heap.size = w.heap.size + 8 := by
  simp [kw, kw3, kw2, kw1]
theorem kw_below (w : World) : Below w.heap.size w (kw w) :=
  below_on (below_on (below_on (below_on (below_on (below_on (below_on (below_alloc w _) (below_alloc _ _)) (below_alloc _ _)) (below_alloc _ _)) (below_alloc _ _)) (below_alloc _ _)) (below_alloc _ _)) (below_alloc _ _)
theorem sint_on {W w : World} {v : Value} {xs : List Int} (h : SInt W v xs) (o : Obj) (e : w = W.alloc o) : SInt w v xs := by subst e; exact h.below (below_alloc _ _)
theorem kw_s0 (w : World) : SInt (kw w) (.slice (some ⟨w.heap.size, 0, none⟩) 4 4) [4, 4, 4, 4] :=
  (((((((sint_alloc w 3 [4, 4, 4, 4] #[.int .i64 4, .int .i64 4, .int .i64 4, .int .i64 4] 4 rfl).below (below_alloc _ _)).below (below_alloc _ _)).below (below_alloc _ _)).below (below_alloc _ _)).below (below_alloc _ _)).below (below_alloc _ _)).below (below_alloc _ _)
theorem kw_s1 (w : World) : SInt (kw w) (.slice (some ⟨w.heap.size + 1, 0, none⟩) 2 2) [1, 2] := by
  have h := sint_alloc (w.alloc (.cells #[.int .i64 4, .int .i64 4, .int .i64 4, .int .i64 4] 3)) 3 [1, 2] #[.int .i64 1, .int .i64 2] 2 rfl
  rw [size_alloc] at h
  exact (((((h.below (below_alloc _ _)).below (below_alloc _ _)).below (below_alloc _ _)).below (below_alloc _ _)).below (below_alloc _ _)).below (below_alloc _ _)
theorem kw_s2 (w : World) : SInt (kw w) (.slice (some ⟨w.heap.size + 1 + 1, 0, none⟩) 2 2) [10, 10] := by
  have h := sint_alloc (kw1 w) 3 [10, 10] #[.int .i64 10, .int .i64 10] 2 rfl
  rw [show (kw1 w).heap.size = w.heap.size + 1 + 1 by simp [kw1]] at h
  exact ((((h.below (below_alloc _ _)).below (below_alloc _ _)).below (below_alloc _ _)).below (below_alloc _ _)).below (below_alloc _ _)
theorem kw_s3 (w : World) : SInt (kw w) (.slice (some ⟨w.heap.size + 1 + 1 + 1, 0, none⟩) 2 2) [0, 0] := by
  have h := sint_alloc ((kw1 w).alloc (.cells #[.int .i64 10, .int .i64 10] 3)) 3 [0, 0] #[.int .i64 0, .int .i64 0] 2 rfl
  rw [show ((kw1 w).alloc (.cells #[.int .i64 10, .int .i64 10] 3)).heap.size = w.heap.size + 1 + 1 + 1 by simp [kw1]] at h
  exact (((h.below (below_alloc _ _)).below (below_alloc _ _)).below (below_alloc _ _)).below (below_alloc _ _)
theorem kw_s5 (w : World) : SInt (kw w) (.slice (some ⟨w.heap.size + 1 + 1 + 1 + 1, 0, none⟩) 1 1) [10000] := by
  have h := sint_alloc (kw2 w) 3 [10000] #[.int .i64 10000] 1 rfl
  rw [show (kw2 w).heap.size = w.heap.size + 1 + 1 + 1 + 1 by simp [kw2, kw1]] at h
  exact ((h.below (below_alloc _ _)).below (below_alloc _ _)).below (below_alloc _ _)
theorem kw_s6 (w : World) : SInt (kw w) (.slice (some ⟨w.heap.size + 1 + 1 + 1 + 1 + 1, 0, none⟩) 1 1) [-1] := by
  have h := sint_alloc ((kw2 w).alloc (.cells #[.int .i64 10000] 3)) 3 [-1] #[.int .i64 (-1)] 1 rfl
  rw [show ((kw2 w).alloc (.cells #[.int .i64 10000] 3)).heap.size = w.heap.size + 1 + 1 + 1 + 1 + 1 by simp [kw2, kw1]] at h
  exact (h.below (below_alloc _ _)).below (below_alloc _ _)
theorem kw_sl (w : World) (k : Nat) (h : k < 7) : (kw w).cell? ⟨w.heap.size + 1 + 1 + 1 + 1 + 1 + 1, k, none⟩ = (kSl w.heap.size)[k]? := by
  have h1 := cell_alloc (kw3 w) (kSl w.heap.size) 42 k h
  rw [(kw_size w).1] at h1
  rw [← h1]
  exact (below_alloc _ _).cell (p := ⟨w.heap.size + 6, k, none⟩) (by rw [size_alloc, (kw_size w).1]; show w.heap.size + 6 < _; omega)
theorem kw_tx (w : World) (k : Nat) (h : k < 7) : (kw w).cell? ⟨w.heap.size + 1 + 1 + 1 + 1 + 1 + 1 + 1, k, none⟩ = kTx[k]? := by
  have h1 := cell_alloc ((kw3 w).alloc (.cells (kSl w.heap.size) 42)) kTx 43 k h
  rw [size_alloc, (kw_size w).1] at h1
  exact h1
/-- One round of the first loop: what is read, and what List returns. -/
theorem kw_at (w : World) (k : Nat) (h : k < 7) : ∃ (a : Option Addr) (n c : Nat) (t : List UInt8) (xs : List Int), (kw w).cell? ⟨w.heap.size + 1 + 1 + 1 + 1 + 1 + 1, k, none⟩ = some (.slice a n c) ∧
    (kw w).cell? ⟨w.heap.size + 1 + 1 + 1 + 1 + 1 + 1 + 1, k, none⟩ = some (.string ⟨t.toArray⟩) ∧ SInt (kw w) (.slice a n c) xs ∧ xs.length ≤ 500 ∧ listP xs = (t, if k < 5 then 0 else 7) := by
  have h1 := kw_sl w k h
  have h2 := kw_tx w k h
  match k, h with
  | 0, _ => exact ⟨_, _, _, _, _, h1, h2, kw_s0 w, by decide, kList0⟩
  | 1, _ => exact ⟨_, _, _, _, _, h1, h2, kw_s1 w, by decide, kList1⟩
  | 2, _ => exact ⟨_, _, _, _, _, h1, h2, kw_s2 w, by decide, kList2⟩
  | 3, _ => exact ⟨_, _, _, _, _, h1, h2, kw_s3 w, by decide, kList3⟩
  | 4, _ => exact ⟨_, _, _, _, _, h1, h2, ⟨none, 0, rfl, fun hp => by simp at hp⟩, by decide, kList4⟩
  | 5, _ => exact ⟨_, _, _, _, _, h1, h2, kw_s5 w, by decide, kList5⟩
  | 6, _ => exact ⟨_, _, _, _, _, h1, h2, kw_s6 w, by decide, kList6⟩
  | k + 7, h => omega
def kWr : Array Value := #[.string ⟨#[49, 44, 44, 50]⟩, .string ⟨#[51, 45, 51]⟩, .string ⟨#[49, 120, 52]⟩, .string ⟨#[49, 48, 48, 48, 48]⟩, .string ⟨#[53, 48, 49, 120, 48]⟩]
def kEr : Array Value := #[.int .i64 6, .int .i64 6, .int .i64 6, .int .i64 7, .int .i64 3]
noncomputable def kv (w : World) : World := (w.alloc (.cells kWr 44)).alloc (.cells kEr 45)
theorem kv_below (w : World) : Below w.heap.size w (kv w) := below_on (below_alloc w _) (below_alloc _ _)
theorem kv_size (w : World) : (kv w).heap.size = w.heap.size + 2 := by simp [kv]
/-- One round of the second loop. -/
theorem kv_at (w : World) (k : Nat) (h : k < 5) : ∃ (t : List UInt8) (z : Int), (kv w).cell? ⟨w.heap.size, k, none⟩ = some (.string ⟨t.toArray⟩) ∧ (kv w).cell? ⟨w.heap.size + 1, k, none⟩ = some (.int .i64 z) ∧ t.length ≤ 5 ∧ parP t = ([], z) := by
  have h1 := cell_alloc w kWr 44 k h
  have h2 : (kv w).cell? ⟨w.heap.size, k, none⟩ = kWr[k]? := by
    rw [← h1]
    exact (below_alloc _ _).cell (p := ⟨w.heap.size, k, none⟩) (by rw [size_alloc]; show w.heap.size < _; omega)
  have h3 : (kv w).cell? ⟨w.heap.size + 1, k, none⟩ = kEr[k]? := by
    have := cell_alloc (w.alloc (.cells kWr 44)) kEr 45 k h
    rwa [size_alloc] at this
  clear h1
  match k, h with
  | 0, _ => exact ⟨_, _, h2, h3, by decide, kPar0⟩
  | 1, _ => exact ⟨_, _, h2, h3, by decide, kPar1⟩
  | 2, _ => exact ⟨_, _, h2, h3, by decide, kPar2⟩
  | 3, _ => exact ⟨_, _, h2, h3, by decide, kPar3⟩
  | 4, _ => exact ⟨_, _, h2, h3, by decide, kPar4⟩
  | k + 5, h => omega
end Go.Proofs.YtojdihfcoijinaaDoor
