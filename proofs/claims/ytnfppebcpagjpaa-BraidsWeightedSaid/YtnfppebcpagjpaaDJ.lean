/- The program's Word walked. -/
import Derived.Test.YtnfppebcpagjpaaDI
namespace Go.Proofs.Ytnfppebcpagjpaa
open Go.RowKit Go.Lib
/-- A slice of slices of ints. -/
def FI (w : World) (v : Value) (F : List (List Int)) : Prop := ∃ a c, v = .slice a F.length c ∧ F.length ≤ c ∧ c ≤ maxLen ∧ ∀ (k : Nat) (l : List Int), F[k]? = some l → ∃ b off u, a = some ⟨b, off, none⟩ ∧ b < w.heap.size ∧ w.cell? ⟨b, off + k, none⟩ = some u ∧ IS w u l
theorem FI.below {w w' : World} {v : Value} {F : List (List Int)} (h : FI w v F) (hb : Below w.heap.size w w') : FI w' v F := by
  obtain ⟨a, c, e, h1, h2, h3⟩ := h
  refine ⟨a, c, e, h1, h2, fun k l hl => ?_⟩
  obtain ⟨b, off, u, e1, e2, e3, e4⟩ := h3 k l hl
  exact ⟨b, off, u, e1, Nat.lt_of_lt_of_le e2 hb.size, (hb.cell (p := ⟨b, off + k, none⟩) e2).trans e3, e4.below hb⟩
theorem take_moreF {α : Type} {F : List α} {k : Nat} {x : α} (h : F[k]? = some x) : F.take (k + 1) = F.take k ++ [x] := by rw [List.take_add_one, h]; rfl
def wstep (n : Nat) (D : List Int) (x : Pm) : List Int := if D.length ≤ 400 then D ++ least n x else D
def fin400 (D : List Int) : List Int × Int := if 400 < D.length then ([], 3) else (D, 0)
theorem wstep_long {n : Nat} {D : List Int} (h : 400 < D.length) : ∀ X : List Pm, X.foldl (wstep n) D = D
  | [] => rfl
  | x :: X => by
    rw [List.foldl_cons, show wstep n D x = D from if_neg (by omega)]
    exact wstep_long h X
theorem fin_fold {n : Nat} : ∀ (X : List Pm) (D : List Int), fin400 (X.foldl (wstep n) D) = fin400 (D ++ X.flatMap (least n))
  | [], D => by simp
  | x :: X, D => by
    by_cases h : D.length ≤ 400
    · rw [List.foldl_cons, show wstep n D x = D ++ least n x from if_pos h, fin_fold X, List.flatMap_cons, List.append_assoc]
    · rw [wstep_long (by omega)]
      unfold fin400
      rw [if_pos (by omega), if_pos (by rw [List.length_append]; omega)]
theorem pow_len {n : Nat} (hn : n ≤ 12) (p : Int) : (powC n p).length ≤ 401 * 66 := by
  have h := dw_len66 hn
  unfold powC
  split
  all_goals
    rw [rep_len]
    refine Nat.mul_le_mul (by omega) ?_
    first | exact h | (rw [inv_len]; exact h)
set_option maxHeartbeats 2000000 in
set_option maxRecDepth 100000 in
theorem Word_any (n : Nat) (h1 : 1 ≤ n) (hn : n ≤ 12) (p : Int) (F : List (List Int)) (v : Value) (w : World) (hv : FI w v F) :
    Calls Try.prog 33 #[.int .i64 (n : Int), .int .i64 p, v] w fun e w' => ∃ v' L er, e = .returned (.tuple #[v', .int .i64 er]) ∧ IS w' v' L ∧ Below w.heap.size w w' ∧
      ((er = 6 ∧ L = [] ∧ ¬ ∀ l ∈ F, PermL n l) ∨ ∃ X : List Pm, F = X.map (ints n) ∧ (∀ x ∈ X, x.In n) ∧ (L, er) = fin400 (powC n p ++ X.flatMap (least n))) := by
  obtain ⟨sa, sc, rfl, k1, k2, hF⟩ := hv
  unfold maxLen at k2
  have HF := Lib.hid hF
  have Hpl := Lib.hid (pow_len hn p)
  clear hF
  have m1 : ¬ (n : Int) < 1 := by omega
  have m2 : ¬ (12 : Int) < (n : Int) := by omega
  go_enter Try.func33, Try.ntmps33
  go_wp2_with fail
  refine (deltas_any n hn p w).mono ?_
  rintro e w1 ⟨v1, rfl, O1, B1⟩
  have HO1 := Lib.hid O1
  have HB1 := Lib.hid B1
  clear O1 B1
  go_wp2_with fail
  go_loopw [8, 10, 11, 12, 24] (fun vo s10 s11 s12 i wr => ∃ (k : Nat) (X : List Pm) (D : List Int), k ≤ F.length ∧ i = .int .i64 k ∧ F.take k = X.map (ints n) ∧ (∀ x ∈ X, x.In n) ∧ D = X.foldl (wstep n) (powC n p) ∧ D.length ≤ 30000 ∧
    wr.ownsRow w.heap.size 3 1 vo D.length (D.map (Value.int .i64)) ∧ Below w.heap.size w wr) (fun _ _ _ _ i _ => F.length - (intOf i).toNat)
  case atStart => exact ⟨0, [], _, Nat.zero_le _, rfl, rfl, (fun x hx => by cases hx), rfl, (show (powC n p).length ≤ 30000 by have := Hpl.out; omega), HO1.out, HB1.out⟩
  case round =>
    obtain ⟨k, X, D, hk, rfl, hX, hXi, hD, hDl, ho, hbw⟩ := hrel
    have HX := Lib.hid hX
    have HXi := Lib.hid hXi
    have HD := Lib.hid hD
    obtain ⟨ao, co, rfl⟩ := own_form ho
    have Ho := Lib.hid ho
    clear hX hXi hD ho
    by_cases hkl : k < F.length
    · obtain ⟨l, hl⟩ : ∃ l, F[k]? = some l := ⟨_, List.getElem?_eq_getElem hkl⟩
      obtain ⟨b, off, u, rfl, hb, hc, hu⟩ := HF.out k l hl
      have hcz := (hbw.cell (p := ⟨b, off + k, none⟩) hb).trans hc
      have j0 : (0 : Int) ≤ (k : Int) := by omega
      have j1 : (k : Int) < (F.length : Int) := by omega
      have Hu := Lib.hid (hu.below hbw)
      have Htk := Lib.hid (take_moreF hl)
      have Hmem := Lib.hid (List.mem_of_getElem? hl)
      clear hc hu hl
      by_cases hP : PermL n l
      · obtain ⟨x, hx, hxl⟩ := perm_pm hP
        have Hx := Lib.hid hx
        have Hxl := Lib.hid hxl
        have CS := Lib.hid (simpleOf_any n hn l true ⟨fun _ => hP, fun _ => rfl⟩ u wr Hu.out)
        clear hx hxl hP
        go_wp2_with fail
        refine CS.out.mono ?_
        rintro e w2 ⟨Fn, rfl, hFn, B2⟩
        have hFx := hFn x Hx.out Hxl.out
        rw [hFx]
        have hz2 : w.heap.size ≤ w2.heap.size := Nat.le_trans hbw.size B2.size
        have Ho2 := Lib.hid (own_below Ho.out B2)
        have Hb2 := Lib.hid (bon hbw B2)
        clear hFn hFx B2 Ho hcz
        by_cases hD4 : D.length ≤ 400
        · have hD4' : (D.length : Int) ≤ 400 := by omega
          have CL := Lib.hid (fun w => Least_any n hn x Hx.out w)
          have B3 := below_setRow (below_alloc w2 (.cells (pcF fun _ => 0) 71)) (Nat.le_refl _) (pc x)
          have hrow3 := setRow_heap (w2.alloc (.cells (pcF fun _ => 0) 71)) w2.heap.size _ (pc x) 71 _ (heap_alloc_new _ _)
          have Ho3 := Lib.hid (own_below Ho2.out B3)
          have Hb3 := Lib.hid (bon Hb2.out B3)
          clear B3 Ho2 Hb2
          go_wp2_with (first
            | (refine wpList_load_row rfl 71 (.tmp 11) rfl w2.heap.size rfl 71 (pc x) (0, 0) _ hrow3 Try.underlying71 rfl (hi59 _) ?_)
            | (refine wpList_store_row rfl 71 (.tmp 11) (.tmp 32) rfl w2.heap.size (pc x) rfl rfl 71 _ (heap_alloc_new _ _) (hi59 _) rfl (pc_one _) ?_))
          refine (CL.out _).mono ?_
          rintro e w4 ⟨v4, rfl, O4, B4⟩
          have HI4 := Lib.hid (is_own O4 rfl)
          have Ho4 := Lib.hid (own_below Ho3.out B4)
          have Hb4 := Lib.hid (bon Hb3.out B4)
          have hll := least_len Hx.out hn
          clear O4 B4 Ho3 Hb3 hrow3
          go_wp2_with (at_builtin; refine app_all (w0 := w) w.heap.size _ D (least n x) rfl _ _ rfl rfl Ho4.out _ rfl HI4.out (by omega) Hb4.out Hb4.out.size ?_; intro v5 w5 O5 B5; have HO5 := Lib.hid O5; clear O5)
          go_roundw
          case rel =>
            refine ⟨k + 1, X ++ [x], D ++ least n x, hkl, by go_num, by rw [Htk.out, HX.out, List.map_append, Hxl.out]; rfl, fun y hy => ?_, by rw [List.foldl_append, ← HD.out]; exact (if_pos hD4).symm, by rw [List.length_append]; omega, HO5.out, B5⟩
            rcases List.mem_append.1 hy with hy | hy
            · exact HXi.out y hy
            · obtain rfl : y = x := by simpa using hy
              exact Hx.out
          case measure => (simp [intOf] <;> omega)
        · have hD4' : ¬ (D.length : Int) ≤ 400 := by omega
          have B3 := below_setRow (below_alloc w2 (.cells (pcF fun _ => 0) 71)) (Nat.le_refl _) (pc x)
          go_wp2_with (refine wpList_store_row rfl 71 (.tmp 11) (.tmp 32) rfl w2.heap.size (pc x) rfl rfl 71 _ (heap_alloc_new _ _) (hi59 _) rfl (pc_one _) ?_)
          go_roundw
          case rel =>
            refine ⟨k + 1, X ++ [x], D, hkl, by go_num, by rw [Htk.out, HX.out, List.map_append, Hxl.out]; rfl, fun y hy => ?_, by rw [List.foldl_append, ← HD.out]; exact (if_neg hD4).symm, hDl, own_below Ho2.out B3, bon Hb2.out B3⟩
            rcases List.mem_append.1 hy with hy | hy
            · exact HXi.out y hy
            · obtain rfl : y = x := by simpa using hy
              exact Hx.out
          case measure => (simp [intOf] <;> omega)
      · have CS := Lib.hid (simpleOf_any n hn l false ⟨fun h => (by cases h), fun h => absurd h hP⟩ u wr Hu.out)
        have HP := Lib.hid hP
        clear hP
        go_wp2_with fail
        refine CS.out.mono ?_
        rintro e w2 ⟨Fn, rfl, _, B2⟩
        have hb2 := bon hbw B2
        clear B2
        go_wp2_with (refine wpList_store_row rfl 71 (.tmp 11) (.tmp 32) rfl w2.heap.size (pcF Fn) rfl rfl 71 _ (heap_alloc_new _ _) (hi59F _) rfl (pcF_one _) ?_)
        go_ret2
        exact ⟨_, _, _, rfl, is_nil _, below_setRow (hb2.alloc hb2.size _) hb2.size _, .inl ⟨rfl, rfl, fun h => HP.out (h l Hmem.out)⟩⟩
    · have hlt : ¬ (k : Int) < (F.length : Int) := by omega
      have he : k = F.length := by omega
      have Hfin := Lib.hid (show F = X.map (ints n) by rw [← HX.out, he, List.take_length])
      clear he
      have HI := Lib.hid (is_own Ho.out rfl)
      have Hfd := Lib.hid (fin_fold (n := n) X (powC n p))
      by_cases hD4 : 400 < D.length
      · have hD4' : (400 : Int) < (D.length : Int) := by omega
        go_wp2_with fail
        go_ret2
        refine ⟨_, _, _, rfl, is_nil _, hbw, .inr ⟨X, Hfin.out, HXi.out, ?_⟩⟩
        rw [← Hfd.out, ← HD.out]
        exact (if_pos hD4).symm
      · have hD4' : ¬ (400 : Int) < (D.length : Int) := by omega
        go_wp2_with fail
        go_ret2
        refine ⟨_, _, _, rfl, HI.out, hbw, .inr ⟨X, Hfin.out, HXi.out, ?_⟩⟩
        rw [← Hfd.out, ← HD.out]
        exact (if_neg hD4).symm
end Go.Proofs.Ytnfppebcpagjpaa
