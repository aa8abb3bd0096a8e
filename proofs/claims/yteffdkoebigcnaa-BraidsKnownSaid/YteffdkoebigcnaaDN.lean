/- The document's examples walked. -/
import Derived.Test.YteffdkoebigcnaaCX
import Derived.Test.YteffdkoebigcnaaDB
import Derived.Test.YteffdkoebigcnaaDJ
import Derived.Test.YteffdkoebigcnaaCL
namespace Go.Proofs.Yteffdkoebigcnaa
open Go.RowKit Go.Lib
theorem up1 {a b : World} {o : Obj} (B : Below (a.alloc o).heap.size (a.alloc o) b) : Below a.heap.size a b := bon (below_alloc a o) B
theorem up2 {a b : World} {o o2 : Obj} (B : Below ((a.alloc o).alloc o2).heap.size ((a.alloc o).alloc o2) b) : Below a.heap.size a b := up1 (up1 B)
theorem up3 {a b : World} {o o2 o3 : Obj} (B : Below (((a.alloc o).alloc o2).alloc o3).heap.size (((a.alloc o).alloc o2).alloc o3) b) : Below a.heap.size a b := up1 (up1 (up1 B))
theorem is_lit (W : World) (xs : List Int) (t : TypeId) (hl : xs.length < 100) : IS (W.alloc (.cells (xs.map (Value.int .i64)).toArray t)) (.slice (some ⟨W.heap.size, 0, none⟩) xs.length xs.length) xs :=
  ⟨_, _, rfl, Nat.le_refl _, by unfold maxLen; omega, (fun e => by cases e), ints_lit _ (heap_alloc_new _ _)⟩
theorem fs_lit2 (W : World) (xs ys : List Int) (t t2 : TypeId) (hx : xs.length < 100) (hy : ys.length < 100) :
    FS (((W.alloc (.cells (xs.map (Value.int .i64)).toArray t)).alloc (.cells (ys.map (Value.int .i64)).toArray t)).alloc (.cells #[.slice (some ⟨W.heap.size, 0, none⟩) xs.length xs.length, .slice (some ⟨W.heap.size + 1, 0, none⟩) ys.length ys.length] t2)) (.slice (some ⟨W.heap.size + 1 + 1, 0, none⟩) 2 2) [xs, ys] := by
  refine ⟨_, _, rfl, Nat.le_refl _, by unfold maxLen; omega, fun k l hl => ?_⟩
  have h2 := heap3_2 W (.cells (xs.map (Value.int .i64)).toArray t) (.cells (ys.map (Value.int .i64)).toArray t) (.cells #[.slice (some ⟨W.heap.size, 0, none⟩) xs.length xs.length, .slice (some ⟨W.heap.size + 1, 0, none⟩) ys.length ys.length] t2)
  rcases k with _ | _ | k
  · obtain rfl : xs = l := by simpa using hl
    exact ⟨_, 0, rfl, (Array.getElem?_eq_some_iff.1 h2).1, some ⟨W.heap.size, 0, none⟩, xs.length, by rw [Nat.zero_add]; exact cell_of_row _ _ 0 _ _ _ h2, Nat.le_refl _, by unfold maxLen; omega, ints_lit xs (heap3_0 _ _ _ _)⟩
  · obtain rfl : ys = l := by simpa using hl
    exact ⟨_, 0, rfl, (Array.getElem?_eq_some_iff.1 h2).1, some ⟨W.heap.size + 1, 0, none⟩, ys.length, by exact cell_of_row _ _ 1 _ _ _ h2, Nat.le_refl _, by unfold maxLen; omega, ints_lit ys (heap3_1 _ _ _ _)⟩
  · simp at hl
theorem fi_lit1 (W : World) (xs : List Int) (t t2 : TypeId) (hx : xs.length < 100) :
    FI ((W.alloc (.cells (xs.map (Value.int .i64)).toArray t)).alloc (.cells #[.slice (some ⟨W.heap.size, 0, none⟩) xs.length xs.length] t2)) (.slice (some ⟨W.heap.size + 1, 0, none⟩) 1 1) [xs] := by
  refine ⟨_, _, rfl, Nat.le_refl _, by unfold maxLen; omega, fun k l hl => ?_⟩
  have h1 := heap_alloc2_new W (.cells (xs.map (Value.int .i64)).toArray t) (.cells #[.slice (some ⟨W.heap.size, 0, none⟩) xs.length xs.length] t2)
  rcases k with _ | k
  · obtain rfl : xs = l := by simpa using hl
    exact ⟨_, 0, _, rfl, (Array.getElem?_eq_some_iff.1 h1).1, by rw [Nat.zero_add]; exact cell_of_row _ _ 0 _ _ _ h1, (is_lit W xs t hx).below (below_alloc _ _)⟩
  · simp at hl
theorem k_perm : permV 3 [1, 2] = [2, 0, 1] ∧ checkV 3 [1, 2] = 0 := by decide +kernel
theorem k_links : linksV 2 [1, 1] = [[0, 2], [2, 0]] ∧ checkV 2 [1, 1] = 0 := by decide +kernel
theorem k_nf1 : (nf 3 [1, 2, 1]).1 = 1 ∧ (nf 3 [1, 2, 1]).2.length = 0 ∧ checkV 3 [1, 2, 1] = 0 := by decide +kernel
theorem k_nf2 : (nf 3 [1, 1]).1 = 0 ∧ (nf 3 [1, 1]).2.map (ints 3) = [[1, 0, 2], [1, 0, 2]] ∧ checkV 3 [1, 1] = 0 := by decide +kernel
theorem k_drop : dropV 3 [1, 2, 1] 0 = ([1], 0) := by decide +kernel
theorem k_lay : layV 2 [1] 0 false = ([-1], 0) := by decide +kernel
theorem k_word : fin400 (powC 3 1 ++ [idP.pre 0].flatMap (least 3)) = ([1, 2, 1, 1], 0) := by decide +kernel
theorem k_red : redV 3 [1, 2, -2, -1, 2] = [2] ∧ checkV 3 [1, 2, -2, -1, 2] = 0 := by decide +kernel
theorem k_chk : checkV 3 [3] = 7 ∧ checkV 13 [] = 2 := by decide +kernel
theorem k_one {X : List Pm} (h : [[1, 0, 2]] = X.map (ints 3)) (hX : ∀ x ∈ X, x.In 3) : X = [idP.pre 0] := by
  match X, h, hX with
  | [], h, _ => simp at h
  | [x], h, hX =>
    have h1 : ints 3 (idP.pre 0) = ints 3 x := by
      have : [[1, 0, 2]] = [ints 3 x] := h
      have e : ints 3 (idP.pre 0) = [1, 0, 2] := by decide +kernel
      rw [e]
      exact (List.cons.inj this).1
    have hx := hX x (by simp)
    have hi : (idP.pre 0).In 3 := (idP_in 3).pre (by omega)
    congr 1
    refine Pm.ext' fun k => ?_
    by_cases hk : k < 3
    · have h2 := congrArg (fun l => l[k]?) h1
      simp only [ints_get _ hk] at h2
      have := Option.some.inj h2
      omega
    · rw [hx k (by omega), hi k (by omega)]
  | _ :: _ :: _, h, _ => simp at h
theorem word_known (v : Value) (w : World) (hv : FI w v [[1, 0, 2]]) :
    Calls Try.prog 33 #[.int .i64 3, .int .i64 1, v] w fun e w' => ∃ v', e = .returned (.tuple #[v', .int .i64 0]) ∧ IS w' v' [1, 2, 1, 1] ∧ Below w.heap.size w w' := by
  refine (Word_any 3 (by omega) (by omega) 1 [[1, 0, 2]] v w hv).mono ?_
  rintro e w' ⟨v', L, er, rfl, I, B, h | ⟨X, h1, h2, h3⟩⟩
  · refine absurd (fun l hl => ?_) h.2.2
    obtain rfl : l = [1, 0, 2] := by simpa using hl
    exact ⟨by decide, by decide, by decide⟩
  · obtain rfl := k_one h1 h2
    rw [k_word] at h3
    injection h3 with h4 h5
    subst h4 h5
    exact ⟨_, rfl, I, B⟩
theorem normal_known (xs : List Int) (p : Int) (F : List (List Int)) (hp : (nf 3 xs).1 = p) (hF : (nf 3 xs).2.map (ints 3) = F) (hc : checkV 3 xs = 0) (h0 : 0 < F.length) (v : Value) (w : World) (hv : IS w v xs) :
    Calls Try.prog 42 #[.int .i64 3, v] w fun e w' => ∃ v', e = .returned (.tuple #[.int .i64 p, v', .int .i64 0]) ∧ FS w' v' F ∧ Below w.heap.size w w' := by
  obtain ⟨sa, sc, rfl, h1, h2, _, hI⟩ := hv
  refine (Normal_any 3 xs sa sc w h1 h2 hI hc).mono ?_
  rintro e w' ⟨v', fs, rfl, O, R, B⟩
  have hn : (3 : Int).toNat = 3 := rfl
  rw [hn] at O R ⊢
  have hl : (nf 3 xs).2.length = F.length := by rw [← hF, List.length_map]
  obtain ⟨g, c, rfl, hc1, hc2, F3⟩ := form_of O R (by omega) (by omega)
  rw [hF] at F3
  rw [hl] at hc1 ⊢
  exact ⟨_, by rw [hp], ⟨_, _, rfl, hc1, hc2, F3⟩, B⟩
theorem normal_empty (xs : List Int) (p : Int) (hp : (nf 3 xs).1 = p) (hF : (nf 3 xs).2.length = 0) (hc : checkV 3 xs = 0) (v : Value) (w : World) (hv : IS w v xs) :
    Calls Try.prog 42 #[.int .i64 3, v] w fun e w' => ∃ a c, e = .returned (.tuple #[.int .i64 p, .slice a 0 c, .int .i64 0]) ∧ Below w.heap.size w w' := by
  obtain ⟨sa, sc, rfl, h1, h2, _, hI⟩ := hv
  refine (Normal_any 3 xs sa sc w h1 h2 hI hc).mono ?_
  rintro e w' ⟨v', fs, rfl, O, R, B⟩
  have hn : (3 : Int).toNat = 3 := rfl
  rw [hn] at O R ⊢
  rw [hF] at O
  obtain ⟨a, c, rfl⟩ := own_form O
  exact ⟨a, c, by rw [hp], B⟩
theorem check_known (n : Int) (xs : List Int) (c : Int) (hc : checkV n xs = c) (v : Value) (w : World) (hv : IS w v xs) :
    Calls Try.prog 17 #[.int .i64 n, v] w fun e w' => e = .returned (.int .i64 c) ∧ Below w.heap.size w w' := by
  obtain ⟨sa, sc, rfl, h1, h2, _, hI⟩ := hv
  rw [← hc]
  exact Check_any n xs sa sc w h1 h2 hI
set_option maxHeartbeats 2000000 in
set_option maxRecDepth 100000 in
theorem known_any (w : World) : Calls Try.prog 11 #[] w fun e w' => e = .returned (.bool true) ∧ Below w.heap.size w w' := by
  go_enter Try.func11, Try.ntmps11
  go_wp2_with fail
  refine (Perm_any 3 [1, 2] _ _ (is_lit _ [1, 2] _ (by decide))).mono ?_
  rintro e w1 ⟨v1, rfl, I1, B1⟩
  rw [k_perm.1] at I1
  rw [k_perm.2]
  have D1 := Lib.hid (up1 B1)
  have K1 := Lib.hid I1
  clear I1 B1
  go_wp2_with fail
  refine (Links_any 2 [1, 1] _ _ (is_lit _ [1, 1] _ (by decide))).mono ?_
  rintro e w2 ⟨v2, rfl, I2, B2⟩
  rw [k_links.1] at I2
  rw [k_links.2]
  have U := up1 B2
  have D2 := Lib.hid (bon D1.out U)
  have L1 := Lib.hid (K1.out.below U)
  have K2 := Lib.hid I2
  clear I2 B2 U D1 K1
  go_wp2_with fail
  refine (normal_empty [1, 2, 1] 1 k_nf1.1 k_nf1.2.1 k_nf1.2.2 _ _ (is_lit _ [1, 2, 1] _ (by decide))).mono ?_
  rintro e w3 ⟨a3, c3, rfl, B3⟩
  have U := up1 B3
  have D3 := Lib.hid (bon D2.out U)
  have M1 := Lib.hid (L1.out.below U)
  have L2 := Lib.hid (K2.out.below U)
  clear B3 U D2 L1 K2
  go_wp2_with fail
  refine (sameInts_is (M1.out.below (below_alloc _ _)) (is_lit _ [2, 0, 1] _ (by decide)) true ⟨fun _ => rfl, fun _ => rfl⟩).mono ?_
  rintro e w4 ⟨rfl, B4⟩
  have U := up1 B4
  have D4 := Lib.hid (bon D3.out U)
  have M2 := Lib.hid (L2.out.below U)
  clear B4 U D3 M1 L2
  go_wp2_with fail
  refine (sameForm_fs (M2.out.below (below3 _ _ _ _)) (fs_lit2 w4 [0, 2] [2, 0] _ _ (by decide) (by decide)) true ⟨fun _ => rfl, fun _ => rfl⟩).mono ?_
  rintro e w5 ⟨rfl, B5⟩
  have D5 := Lib.hid (bon D4.out (up3 B5))
  clear B5 D4 M2
  go_wp2_with fail
  refine (normal_known [1, 1] 0 [[1, 0, 2], [1, 0, 2]] k_nf2.1 k_nf2.2.1 k_nf2.2.2 (by decide) _ _ (is_lit _ [1, 1] _ (by decide))).mono ?_
  rintro e w6 ⟨v6, rfl, I6, B6⟩
  have D6 := Lib.hid (bon D5.out (up1 B6))
  have K6 := Lib.hid I6
  clear B6 I6 D5
  go_wp2_with fail
  have CD := Drop_any 3 [1, 2, 1] 0 _ _ (is_lit w6 [1, 2, 1] 3 (by decide))
  rw [k_drop] at CD
  refine CD.mono ?_
  rintro e w7 ⟨v7, rfl, I7, B7⟩
  have U := up1 B7
  have D7 := Lib.hid (bon D6.out U)
  have K7 := Lib.hid I7
  have L6 := Lib.hid (K6.out.below U)
  clear B7 I7 D6 U K6 CD
  go_wp2_with fail
  have CL := Lay_any 2 [1] 0 false _ _ (is_lit w7 [1] 3 (by decide))
  rw [k_lay] at CL
  refine CL.mono ?_
  rintro e w8 ⟨v8, rfl, I8, B8⟩
  have U := up1 B8
  have D8 := Lib.hid (bon D7.out U)
  have K8 := Lib.hid I8
  have L7 := Lib.hid (K7.out.below U)
  have M6 := Lib.hid (L6.out.below U)
  clear B8 I8 D7 U K7 L6 CL
  go_wp2_with fail
  refine (word_known _ _ (fi_lit1 w8 [1, 0, 2] _ _ (by decide))).mono ?_
  rintro e w9 ⟨v9, rfl, I9, B9⟩
  have U := up2 B9
  have D9 := Lib.hid (bon D8.out U)
  have K9 := Lib.hid I9
  have L8 := Lib.hid (K8.out.below U)
  have M7 := Lib.hid (L7.out.below U)
  have N6 := Lib.hid (M6.out.below U)
  clear B9 I9 D8 U K8 L7 M6
  go_wp2_with fail
  refine (sameForm_fs (N6.out.below (below3 _ _ _ _)) (fs_lit2 w9 [1, 0, 2] [1, 0, 2] _ _ (by decide) (by decide)) true ⟨fun _ => rfl, fun _ => rfl⟩).mono ?_
  rintro e wa ⟨rfl, Ba⟩
  have U := up3 Ba
  have Da := Lib.hid (bon D9.out U)
  have La := Lib.hid (K9.out.below U)
  have Ma := Lib.hid (L8.out.below U)
  have Na := Lib.hid (M7.out.below U)
  clear Ba D9 U K9 L8 M7 N6
  go_wp2_with fail
  refine (sameInts_is (Na.out.below (below_alloc _ _)) (is_lit _ [1] _ (by decide)) true ⟨fun _ => rfl, fun _ => rfl⟩).mono ?_
  rintro e wb ⟨rfl, Bb⟩
  have U := up1 Bb
  have Db := Lib.hid (bon Da.out U)
  have Lb := Lib.hid (La.out.below U)
  have Mb := Lib.hid (Ma.out.below U)
  clear Bb Da U La Ma Na
  go_wp2_with fail
  refine (sameInts_is (Mb.out.below (below_alloc _ _)) (is_lit _ [-1] _ (by decide)) true ⟨fun _ => rfl, fun _ => rfl⟩).mono ?_
  rintro e wc ⟨rfl, Bc⟩
  have U := up1 Bc
  have Dc := Lib.hid (bon Db.out U)
  have Lc := Lib.hid (Lb.out.below U)
  clear Bc Db U Lb Mb
  go_wp2_with fail
  refine (sameInts_is (Lc.out.below (below_alloc _ _)) (is_lit _ [1, 2, 1, 1] _ (by decide)) true ⟨fun _ => rfl, fun _ => rfl⟩).mono ?_
  rintro e wd ⟨rfl, Bd⟩
  have Dd := Lib.hid (bon Dc.out (up1 Bd))
  clear Bd Dc Lc
  go_wp2_with fail
  refine (Reduce_any 3 [1, 2, -2, -1, 2] _ _ (is_lit _ [1, 2, -2, -1, 2] _ (by decide))).mono ?_
  rintro e we ⟨ve, rfl, Ie, Be⟩
  rw [k_red.1] at Ie
  rw [k_red.2]
  have De := Lib.hid (bon Dd.out (up1 Be))
  have Ke := Lib.hid Ie
  clear Be Dd Ie
  go_wp2_with fail
  refine (sameInts_is (Ke.out.below (below_alloc _ _)) (is_lit _ [2] _ (by decide)) true ⟨fun _ => rfl, fun _ => rfl⟩).mono ?_
  rintro e wf ⟨rfl, Bf⟩
  have Df := Lib.hid (bon De.out (up1 Bf))
  clear Bf De Ke
  go_wp2_with fail
  refine (check_known 3 [3] 7 k_chk.1 _ _ (is_lit _ [3] _ (by decide))).mono ?_
  rintro e wg ⟨rfl, Bg⟩
  have Dg := Lib.hid (bon Df.out (up1 Bg))
  clear Bg Df
  go_wp2_with fail
  refine (check_known 13 [] 2 k_chk.2 _ _ (is_nil _)).mono ?_
  rintro e wh ⟨rfl, Bh⟩
  have Dh := Lib.hid (bon Dg.out Bh)
  clear Bh Dg
  go_wp2_with fail
  refine (awake_any _).mono ?_
  rintro e wi ⟨rfl, Bi⟩
  go_wp2_with fail
  go_ret
  exact ⟨rfl, bon Dh.out Bi⟩
end Go.Proofs.Yteffdkoebigcnaa
