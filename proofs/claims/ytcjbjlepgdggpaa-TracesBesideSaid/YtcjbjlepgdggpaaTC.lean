/- DeleteFunc at edges; steps. -/
import Derived.Test.YtcjbjlepgdggpaaTB
import Derived.Test.YtcjbjlepgdggpaaTP
import Derived.Deep.CutBlock
namespace Go.Proofs.Ytcjbjlepgdggpaa
open Go.RowKit Go.Shelf Go.Lib
set_option linter.unusedSimpArgs false
theorem size_setCellsE (w : World) (b : Nat) : ∀ (vs : List Value) (o : Nat), (w.setCells b o vs).heap.size = w.heap.size := by
  intro vs
  induction vs generalizing w with
  | nil => intro o; rfl
  | cons v vs ih => intro o; exact (ih (w.setCell ⟨b, o, none⟩ v) (o + 1)).trans (by simp)
theorem keep_next {X : List Ed} {k : Nat} {x : Ed} (h : X[k]? = some x) : keepE (X.take (k + 1)) = keepE (X.take k) ++ if outB x = true then [] else [x] := by
  unfold keepE
  rw [List.take_add_one, h, Option.toList_some, List.filter_append]
  congr 1
  by_cases c : outB x = true
  · rw [if_pos c]; simp [c]
  · have c' : outB x = false := by simpa using c
    rw [if_neg c]; simp [c']
theorem keep_len (X : List Ed) (k : Nat) : (keepE (X.take k)).length ≤ k := by
  unfold keepE
  exact Nat.le_trans (List.length_filter_le _ _) (by rw [List.length_take]; omega)
theorem keep_set {K X : List Ed} {x : Ed} (h : K.length < X.length) : (K ++ X.drop K.length).set K.length x = (K ++ [x]) ++ X.drop (K ++ [x]).length := by
  rw [List.length_append, List.length_singleton, List.set_append_right _ _ (Nat.le_refl _), Nat.sub_self, List.append_assoc]
  congr 1
  rw [List.drop_eq_getElem_cons h]
  rfl
theorem keep_get {K X : List Ed} {k : Nat} {x : Ed} (h : X[k]? = some x) (hk : K.length ≤ k) : (K ++ X.drop K.length)[k]? = some x := by
  rw [List.getElem?_append_right hk, List.getElem?_drop, show K.length + (k - K.length) = k by omega]
  exact h
theorem zeroE : ∀ w, (zeroValue 76).run Try.prog w = .ok (.agg #[.int .i64 0, .int .i64 0, .int .i64 0, .int .i64 0]) w := fun w => by kernel_rfl
theorem clear_run (w : World) (g o n c : Nat) (L : List Ed) (hL : ER w g L) (ho : o + n ≤ L.length) (hn : 0 < n) : ∃ vs : List Value, ∀ ty, (Builtin.clear_ #[62] ty #[.slice (some ⟨g, o * 4, none⟩) n c]).run Try.prog w = .ok (.tuple #[]) (w.setCells g (o * 4) vs) := by
  obtain ⟨m, rfl⟩ : ∃ m, n = m + 1 := ⟨n - 1, by omega⟩
  have hl : ∀ k, k < 4 * (m + 1) → ∃ u, w.cell? ⟨g, o * 4 + k, none⟩ = some u ∧ w.frozen? ⟨g, o * 4 + k, none⟩ = false := fun k hk => by
    obtain ⟨x, hx⟩ : ∃ x, L[o + k / 4]? = some x := ⟨_, List.getElem?_eq_getElem (by omega)⟩
    obtain ⟨u, hu⟩ : ∃ u, x.cs[k % 4]? = some u := ⟨_, List.getElem?_eq_getElem (by show k % 4 < 4; omega)⟩
    have := hL _ x hx _ u hu
    rw [show (o + k / 4) * 4 + k % 4 = o * 4 + k by omega] at this
    exact ⟨u, this⟩
  refine ⟨(Builtin.zeroCells #[.int .i64 0, .int .i64 0, .int .i64 0, .int .i64 0] (m + 1)).toList, fun ty => ?_⟩
  have hlen : (Builtin.zeroCells #[.int .i64 0, .int .i64 0, .int .i64 0, .int .i64 0] (m + 1)).toList.length = 4 * (m + 1) := by simp [Builtin.zeroCells]; omega
  have h1 : ∀ v ∈ (Builtin.zeroCells #[.int .i64 0, .int .i64 0, .int .i64 0, .int .i64 0] (m + 1)).toList, v.oneCell' = true := fun v hv => by
    simp only [Builtin.zeroCells, Array.toList_map, List.mem_map] at hv
    obtain ⟨i, _, rfl⟩ := hv
    have : i % 4 < 4 := Nat.mod_lt _ (by omega)
    show (#[Value.int .i64 0, .int .i64 0, .int .i64 0, .int .i64 0][i % 4]!).oneCell' = true
    generalize i % 4 = q at *
    match q, this with
    | 0, _ => rfl
    | 1, _ => rfl
    | 2, _ => rfl
    | 3, _ => rfl
  have hst := run_storeCells_cells (P := Try.prog) g (o * 4) (Builtin.zeroCells #[.int .i64 0, .int .i64 0, .int .i64 0, .int .i64 0] (m + 1)).toList 0 w
    (fun j hj => by obtain ⟨u, h, _⟩ := hl j (by omega); rw [Nat.add_zero, h]; rfl) (fun j hj => by obtain ⟨u, _, h⟩ := hl j (by omega); rw [Nat.add_zero]; exact h) h1
  simp only [Nat.add_zero] at hst
  simp [Builtin.clear_, run_underlying Try.underlying62, zeroE, hst, Value.cells]
set_option maxHeartbeats 2000000 in
set_option maxRecDepth 100000 in
theorem deleteE_any (X : List Ed) (g cap : Nat) (B : Nat) (w w0 : World) (hg : g < w.heap.size) (hB : B ≤ g) (hb0 : Below B w0 w) (hX : ER w g X) (hl : X.length ≤ 10000) (hcap : X.length ≤ cap ∧ cap ≤ maxLen) :
    Calls Try.prog 69 #[.slice (some ⟨g, 0, none⟩) X.length cap, .func (.func 68) #[] #[]] w fun e w' => ∃ v, e = .returned v ∧ ES w' v (keepE X) ∧ Below B w0 w' := by
  have CI := Lib.hid (indexE_any X g cap w hg hX hl)
  have HX := Lib.hid hX
  have HB0 := Lib.hid hb0
  clear hX hb0
  go_enter Try.func69, Try.ntmps69
  go_wp2_with fail
  refine CI.out.mono ?_
  rintro e w1 ⟨z, rfl, hz, b1⟩
  have HX1 := Lib.hid (HX.out.below hg b1)
  have HB1 := Lib.hid (HB0.out.trans (b1.mono (by omega)))
  have hg1 : g < w1.heap.size := by have := b1.size; omega
  clear b1 CI
  rcases hz with ⟨rfl, hall⟩ | ⟨i0, rfl, hi0, htk, hout⟩
  · have hk : keepE X = X := List.filter_eq_self.2 fun x hx => by rw [hall x hx]; rfl
    have HES := Lib.hid (show ES w1 (.slice (some ⟨g, 0, none⟩) X.length cap) (keepE X) by
      rw [hk]
      exact ⟨_, _, rfl, fun k x hx => ⟨g, 0, rfl, hg1, by rw [Nat.zero_add]; exact HX1.out.range hx⟩⟩)
    clear hall hk
    go_wp2_with fail
    go_ret
    exact ⟨_, rfl, HES.out, HB1.out⟩
  · have hz1 : ((i0 : Int) == -1) = false := by rw [beq_eq_false_iff_ne]; omega
    have hi1 : IntKind.i64.wrap ((i0 : Int) + 1) = ((i0 + 1 : Nat) : Int) := (IntWalk.i64_in _ (by omega)).trans (by omega)
    obtain ⟨x0, hx0⟩ : ∃ x, X[i0]? = some x := ⟨_, List.getElem?_eq_getElem hi0⟩
    have hK0 : keepE (X.take i0) = X.take i0 := List.filter_eq_self.2 fun x hx => by rw [htk x hx]; rfl
    have hK1 : keepE (X.take (i0 + 1)) = X.take i0 := by rw [keep_next hx0, if_pos (hout x0 hx0), List.append_nil, hK0]
    have HST := Lib.hid (show (keepE (X.take (i0 + 1))).length = i0 ∧ ER w1 g (keepE (X.take (i0 + 1)) ++ X.drop (keepE (X.take (i0 + 1))).length) by
      have hl0 : (X.take i0).length = i0 := by rw [List.length_take]; omega
      rw [hK1, hl0, List.take_append_drop]
      exact ⟨rfl, HX1.out⟩)
    clear hK0 hK1 hx0 htk hout
    go_wp2_with fail
    clear hi1 hz1
    go_loopw [5, 6] (fun i j wr => ∃ k : Nat, i0 < k ∧ k ≤ X.length ∧ j = .int .i64 (k : Int) ∧ i = .int .i64 ((keepE (X.take k)).length : Int) ∧ (keepE (X.take k)).length < k ∧ ER wr g (keepE (X.take k) ++ X.drop (keepE (X.take k)).length) ∧ Below B w0 wr ∧ g < wr.heap.size) (fun _ j _ => X.length - (intOf j).toNat)
    case atStart => exact ⟨i0 + 1, by omega, by omega, rfl, by rw [HST.out.1], by rw [HST.out.1]; omega, HST.out.2, HB1.out, hg1⟩
    case round =>
      clear HST HX1 HB1
      obtain ⟨k, hk0, hk, rfl, rfl, hkk, her, hb, hgr⟩ := hrel
      rename World => wr
      have HE := Lib.hid her
      have HB := Lib.hid hb
      clear her hb
      by_cases hkl : k < X.length
      · have j0 : (0 : Int) ≤ (k : Int) := by omega
        have j1 : (k : Int) < (X.length : Int) := by omega
        obtain ⟨x, hx⟩ : ∃ x, X[k]? = some x := ⟨_, List.getElem?_eq_getElem hkl⟩
        have HNX := Lib.hid (keep_next hx)
        have hr := HE.out.range (keep_get hx (Nat.le_of_lt hkk))
        have CA := Lib.hid (fun W => outB_any x W)
        have hcs : ER wr g (keepE (X.take k) ++ X.drop (keepE (X.take k)).length) := HE.out
        unfold Ed.cs at hr
        clear hx
        generalize keepE (X.take k) = K at *
        go_upto_region 8 with (refine wpList_load_mid rfl 76 (.tmp 24) rfl g (k * 4) rfl [.int .i64 x.fr, .int .i64 x.out, .int .i64 x.to, .int .i64 x.inn] _ hr Try.underlying76 rfl infoEd4 ?_)
        have h7 := heap_alloc_new wr (.cells #[.int .i64 x.fr, .int .i64 x.out, .int .i64 x.to, .int .i64 x.inn] 76)
        have b7 := below_alloc wr (.cells #[.int .i64 x.fr, .int .i64 x.out, .int .i64 x.to, .int .i64 x.inn] 76)
        have z7 : wr.heap.size < (wr.alloc (.cells #[.int .i64 x.fr, .int .i64 x.out, .int .i64 x.to, .int .i64 x.inn] 76)).heap.size := by simp
        have hE7 := Lib.hid (HE.out.below hgr b7)
        have HB7 := Lib.hid (HB.out.trans (b7.mono (by omega)))
        obtain ⟨p7, hp7⟩ : ∃ p, p = wr.heap.size := ⟨_, rfl⟩
        rw [← hp7] at h7 z7 ⊢
        generalize wr.alloc (.cells #[.int .i64 x.fr, .int .i64 x.out, .int .i64 x.to, .int .i64 x.inn] 76) = w7 at *
        have hgp : g < p7 := by omega
        have c0 := cell_of_row w7 p7 0 _ _ _ h7
        have c1 := cell_of_row w7 p7 1 _ _ _ h7
        have c2 := cell_of_row w7 p7 2 _ _ _ h7
        have c3 := cell_of_row w7 p7 3 _ _ _ h7
        simp only [List.getElem?_toArray, List.getElem?_cons_succ, List.getElem?_cons_zero] at c0 c1 c2 c3
        have H7 := Lib.hid h7
        clear b7 hp7 hr hcs h7
        by_cases ho : outB x = true
        · rw [ho] at CA HNX
          clear ho
          go_wp2_with fail
          refine (CA.out w7).mono ?_
          rintro e w8 ⟨rfl, b8⟩
          have HB8 := Lib.hid (HB7.out.trans (b8.mono (by omega)))
          have HE8 := Lib.hid (hE7.out.below (by omega) b8)
          have hg8 : g < w8.heap.size := by have := b8.size; omega
          have HN2 := Lib.hid (show keepE (X.take (k + 1)) = K by rw [HNX.out]; simp)
          clear b8 c0 c1 c2 c3
          go_wp2_with fail
          go_roundw
          case rel => exact ⟨k + 1, by omega, hkl, by go_num, by rw [HN2.out], by rw [HN2.out]; omega, by rw [HN2.out]; exact HE8.out, HB8.out, hg8⟩
          case measure => (simp [intOf] <;> omega)
        · have ho' : outB x = false := by simpa using ho
          rw [ho'] at CA HNX
          clear ho ho'
          go_wp2_with fail
          refine (CA.out w7).mono ?_
          rintro e w8 ⟨rfl, b8⟩
          have HB8 := Lib.hid (HB7.out.trans (b8.mono (by omega)))
          have hE8 := hE7.out.below (by omega) b8
          have hg8 : g < w8.heap.size := by have := b8.size; omega
          have HN2 := Lib.hid (show keepE (X.take (k + 1)) = K ++ [x] by rw [HNX.out]; simp)
          have h8 := (b8.block _ (by omega)).trans H7.out
          have hKX : K.length < X.length := by omega
          obtain ⟨y, hy⟩ : ∃ y, (K ++ X.drop K.length)[K.length]? = some y := ⟨_, keep_get (List.getElem?_eq_getElem hKX) (Nat.le_refl _)⟩
          obtain ⟨d0, f0⟩ := hE8 K.length y hy 0 _ rfl
          obtain ⟨d1, f1⟩ := hE8 K.length y hy 1 _ rfl
          obtain ⟨d2, f2⟩ := hE8 K.length y hy 2 _ rfl
          obtain ⟨d3, f3⟩ := hE8 K.length y hy 3 _ rfl
          rw [Nat.add_zero] at d0 f0
          have hS := er_set (i := K.length) hE8 x
          rw [keep_set hKX] at hS
          have HS := Lib.hid hS
          have HBS := Lib.hid ((((HB8.out.setCell (p := ⟨g, K.length * 4, none⟩) hB (.int .i64 x.fr)).setCell (p := ⟨g, K.length * 4 + 1, none⟩) hB (.int .i64 x.out)).setCell (p := ⟨g, K.length * 4 + 2, none⟩) hB (.int .i64 x.to)).setCell (p := ⟨g, K.length * 4 + 3, none⟩) hB (.int .i64 x.inn))
          clear c0 c1 c2 c3
          have c0 := cell_of_row w8 p7 0 _ _ _ h8
          have c1 := cell_of_row w8 p7 1 _ _ _ h8
          have c2 := cell_of_row w8 p7 2 _ _ _ h8
          have c3 := cell_of_row w8 p7 3 _ _ _ h8
          simp only [List.getElem?_toArray, List.getElem?_cons_succ, List.getElem?_cons_zero] at c0 c1 c2 c3
          have K0 : (0 : Int) ≤ (K.length : Int) := by omega
          have K1 : (K.length : Int) < (X.length : Int) := by omega
          clear b8 h8 hE8 hS hy
          go_wp2_with fail
          go_roundw
          case rel => exact ⟨k + 1, by omega, hkl, by go_num, by rw [HN2.out, List.length_append, List.length_singleton]; go_num, by rw [HN2.out, List.length_append, List.length_singleton]; omega, by rw [HN2.out]; exact HS.out, HBS.out, by simpa using hg8⟩
          case measure => (simp [intOf] <;> omega)
      · have j1 : ¬ (k : Int) < (X.length : Int) := by omega
        have e : k = X.length := by omega
        have hK : keepE (X.take k) = keepE X := by rw [e, List.take_length]
        rw [hK] at HE hkk ⊢
        have hKX : (keepE X).length < X.length := by omega
        obtain ⟨vs, hcl⟩ : ∃ vs : List Value, ∀ ty, (Builtin.clear_ #[62] ty #[.slice (some ⟨g, (keepE X).length * 4, none⟩) (X.length - (keepE X).length) (cap - (keepE X).length)]).run Try.prog wr = .ok (.tuple #[]) (wr.setCells g ((keepE X).length * 4) vs) := clear_run wr g (keepE X).length (X.length - (keepE X).length) _ _ HE.out (by rw [List.length_append, List.length_drop]; omega) (by omega)
        have HES := Lib.hid (show ES (wr.setCells g ((keepE X).length * 4) vs) (.slice (some ⟨g, 0, none⟩) (keepE X).length cap) (keepE X) from
          ⟨_, _, rfl, fun m x hx => ⟨g, 0, rfl, by rw [size_setCellsE]; exact hgr, fun j u hu => by
            have hm := (List.getElem?_eq_some_iff.1 hx).1
            have hj := (List.getElem?_eq_some_iff.1 hu).1
            have hj4 : j < 4 := by simpa [Ed.cs] using hj
            rw [World.cell?_setCells_out _ _ _ _ _ (fun _ _ => .inl (by simp only []; omega))]
            rw [Nat.zero_add]
            exact (HE.out m x (by rw [List.getElem?_append_left hm]; exact hx) j u hu).1⟩⟩)
        have HBE := Lib.hid (below_setCellsE HB.out hB ((keepE X).length * 4) vs)
        have q0 : (0 : Int) ≤ ((keepE X).length : Int) := by omega
        have q1 : ((keepE X).length : Int) ≤ (X.length : Int) := by omega
        have q2 : ((keepE X).length : Int) ≤ (cap : Int) := by omega
        clear hkk e hK
        generalize hKe : keepE X = K at *
        have HKE := Lib.hid hKe
        clear hKe
        go_wp2_with fail
        go_ret
        rw [HKE.out]
        exact ⟨.slice (some ⟨g, 0, none⟩) K.length cap, rfl, HES.out, HBE.out⟩
theorem indexE_nil (w : World) : Calls Try.prog 81 #[.slice none 0 0, .func (.func 68) #[] #[]] w fun e w' => e = .returned (.int .i64 (-1)) ∧ w' = w := by
  go_enter Try.func81, Try.ntmps81
  go_wp2_with fail
  go_loopw [8] (fun i wr => i = .int .i64 0 ∧ wr = w) (fun _ _ => 1)
  case atStart => exact ⟨rfl, rfl⟩
  case round =>
    obtain ⟨rfl, hw⟩ := hrel
    rename World => wr
    subst hw
    go_wp2_with fail
    go_ret
    exact ⟨rfl, rfl⟩
theorem deleteE_nil (w : World) : Calls Try.prog 69 #[.slice none 0 0, .func (.func 68) #[] #[]] w fun e w' => e = .returned (.slice none 0 0) ∧ w' = w := by
  go_enter Try.func69, Try.ntmps69
  go_wp2_with fail
  refine (indexE_nil w).mono ?_
  rintro e w1 ⟨rfl, hw⟩
  rw [hw]
  clear hw
  go_wp2_with fail
  go_ret
  exact ⟨rfl, rfl⟩
theorem edgesV_len (s : Sh) : (edgesV s).length ≤ 2000 := by
  unfold edgesV
  split
  · rename_i h
    obtain ⟨h1, h2, h3⟩ := chk_small h
    have hd : ∀ (W L : List Wk) (i : Nat), (downE W L i).length = 2 * L.length := fun W L => by
      induction L with
      | nil => intro i; rfl
      | cons y L ih => intro i; simp only [downE, List.length_cons, ih (i + 1)]; omega
    unfold edgesL
    rw [List.length_append, List.length_map, List.length_range, hd]
    have := h3.1
    omega
  · simp
/-- The edges from one work to another one. -/
def stepV (s : Sh) : List Ed := keepE (edgesV s)
set_option maxHeartbeats 2000000 in
set_option maxRecDepth 100000 in
theorem steps5_any (s : Sh) (v : Value) (w : World) (hv : SV w v s) :
    Calls Try.prog 50 #[v] w fun e w' => ∃ u, e = .returned (.tuple #[u, .int .i64 (chkS s)]) ∧ ES w' u (stepV s) ∧ Below w.heap.size w w' := by
  have HV := Lib.hid hv
  obtain ⟨u, rfl, hu⟩ := hv
  obtain ⟨ua, uc, rfl, k1, k2, _⟩ := id hu
  have CE := Lib.hid (fun W h => Edges_any s (.agg #[.int .i64 s.pr, .slice ua s.ws.length uc]) W h)
  have HSV := Lib.hid (show stepV s = keepE (edgesV s) from rfl)
  have HLN := Lib.hid (edgesV_len s)
  generalize stepV s = sv at *
  generalize edgesV s = ev at *
  generalize chkS s = z at *
  clear hu
  go_enter Try.func50, Try.ntmps50
  go_wp2_with fail
  have b0 := below_alloc w (.cells #[.int .i64 s.pr, .slice ua s.ws.length uc] 24)
  generalize w.alloc (.cells #[.int .i64 s.pr, .slice ua s.ws.length uc] 24) = w0 at *
  refine (CE.out w0 (HV.out.below b0)).mono ?_
  rintro e w1 ⟨v1, rfl, hown, hnil, b1⟩
  have HB1 := Lib.hid (bon b0 b1)
  have hz0 := b0.size
  rcases id hown.2 with ⟨e, h0⟩ | ⟨g, cap, cur, e, hB, hg, hle, hmx, hsz, htk⟩
  · have he : ev = [] := List.eq_nil_of_length_eq_zero h0
    have hvn := hnil.2 he
    subst hvn
    have HN := Lib.hid (show sv = [] by rw [HSV.out, he]; rfl)
    have hl0 : ev.length = 0 := by rw [he]; rfl
    have CD := Lib.hid (deleteE_nil w1)
    clear hown hnil b0 b1 e h0 he hl0
    go_wp2_with fail
    refine CD.out.mono ?_
    rintro e w2 ⟨rfl, hw⟩
    rw [hw]
    clear hw
    go_wp2_with fail
    go_ret2
    exact ⟨_, rfl, by rw [HN.out]; exact ⟨none, 0, rfl, fun k x hx => by cases hx⟩, HB1.out⟩
  · subst e
    have HER := Lib.hid (er_own hown)
    have CD := Lib.hid (deleteE_any ev g cap w.heap.size w1 w (Array.getElem?_eq_some_iff.1 hg).1 (by omega) HB1.out HER.out (by have := HLN.out; omega) ⟨hle, hmx⟩)
    rw [← HSV.out] at CD
    clear hown hnil hg hsz htk b0 b1
    go_wp2_with fail
    refine CD.out.mono ?_
    rintro e w2 ⟨v2, rfl, he2, b2⟩
    have HE := Lib.hid he2
    obtain ⟨xa, xc, rfl, _⟩ := he2
    have HB2 := Lib.hid b2
    clear b2
    go_wp2_with fail
    go_ret2
    exact ⟨_, rfl, HE.out, HB2.out⟩
end Go.Proofs.Ytcjbjlepgdggpaa
