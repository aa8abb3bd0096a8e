/- What holds of a sheet after exchanges. -/
import Derived.Test.YtcjbjlepgdggpaaTNB
import Derived.Test.YtcjbjlepgdggpaaTLB
import Derived.Test.YtcjbjlepgdggpaaTLD
import Derived.Test.YtcjbjlepgdggpaaTS
namespace Go.Proofs.Ytcjbjlepgdggpaa
open Go.RowKit
set_option linter.unusedSimpArgs false
set_option linter.unusedVariables false
theorem sameW_eq {x y : Wk} (h : sameW x y = true) : x = y := by
  rw [sameW_iff] at h
  obtain ⟨h1, h2, h3⟩ := h
  obtain ⟨k1, p1, w1⟩ := x
  obtain ⟨k2, p2, w2⟩ := y
  simp only at h1 h2 h3
  subst h1 h2
  have e : w1 = w2 := by
    rw [Lib.toList_data, Lib.toList_data] at h3
    obtain ⟨d1⟩ := w1
    obtain ⟨d2⟩ := w2
    congr 1
    exact Array.toList_inj.1 h3
  rw [e]
theorem chkS_perm {pr : Int} {W V : List Wk} (h : V.Perm W) : chkS ⟨pr, V⟩ = chkS ⟨pr, W⟩ := by
  unfold chkS
  simp only [h.length_eq, h.all_eq]
theorem chkS_ok {s : Sh} (h : chkS s = 0) : s.pr ≤ 24 ∧ 2 ≤ s.pr ∧ s.ws.length ≤ 400 ∧ ∀ x ∈ s.ws, shortW x = true ∧ x.fits s.pr = true ∧ speltW x = true := by
  unfold chkS at h
  split at h
  · simp at h
  · split at h
    · simp at h
    · split at h
      · simp at h
      · split at h
        · simp at h
        · split at h
          · simp at h
          · split at h
            · rename_i h1 h2 h3 h4 h5 h6
              simp only [Bool.not_eq_false, List.all_eq_true] at h3 h5 h6
              exact ⟨by omega, by omega, by omega, fun x hx => ⟨h3 x hx, h5 x hx, h6 x hx⟩⟩
            · simp at h
theorem chkS_of {s : Sh} (h1 : s.pr ≤ 24) (h2 : 2 ≤ s.pr) (h3 : s.ws.length ≤ 400) (h : ∀ x ∈ s.ws, shortW x = true ∧ x.fits s.pr = true ∧ speltW x = true) : chkS s = 0 := by
  unfold chkS
  rw [if_neg (by omega), if_neg (by omega), if_neg (by rw [Bool.not_eq_false, List.all_eq_true]; exact fun x hx => (h x hx).1), if_neg (by omega), if_neg (by rw [Bool.not_eq_false, List.all_eq_true]; exact fun x hx => (h x hx).2.1), if_pos (by rw [List.all_eq_true]; exact fun x hx => (h x hx).2.2)]
theorem doneS_LI (l : List Nat) (j : Nat) : doneS (LI l) j = inL l j := by
  unfold doneS inL LI
  rw [Bool.eq_iff_iff, decide_eq_true_eq, List.contains_iff_mem, List.mem_map]
  constructor
  · rintro ⟨a, ha, e⟩
    rw [show j = a by omega]
    exact ha
  · exact fun h => ⟨j, h, rfl⟩
/-- An order in which each work is ready at its turn. -/
theorem refOrd_of {W : List Wk} {l : List Nat} (hl : l.length = W.length) (h : ∀ j i, l[j]? = some i → Rdy W (inL (l.take j)) i ∧ i < W.length) : refOrdB W (LI l) = true := by
  unfold refOrdB
  rw [Bool.and_eq_true, decide_eq_true_eq, List.all_eq_true]
  refine ⟨by rw [LI_len, hl], fun k hk => ?_⟩
  have hkl : k < l.length := by have := List.mem_range.1 hk; rwa [LI_len] at this
  obtain ⟨i, hi⟩ : ∃ i, l[k]? = some i := ⟨_, List.getElem?_eq_getElem hkl⟩
  obtain ⟨h1, h2⟩ := h k i hi
  unfold goodAt
  rw [LI_at hi]
  have e : (LI l).take k = LI (l.take k) := by unfold LI; rw [List.map_take]
  simp only [Int.toNat_natCast, e]
  rw [Bool.and_eq_true, Bool.and_eq_true, Bool.and_eq_true, decide_eq_true_eq, decide_eq_true_eq, List.all_eq_true]
  refine ⟨⟨⟨by omega, by omega⟩, by rw [doneS_LI, h1.1]; rfl⟩, fun a ha => ?_⟩
  rw [doneS_LI, Bool.or_eq_true, Bool.not_eq_true']
  cases ht : tchN W a i with
  | false => exact .inl rfl
  | true => exact .inr (h1.2 a (List.mem_range.1 ha) ht)
theorem reo_of {s : Sh} {l : List Nat} (hc : chkS s = 0) (hl : l.length = s.ws.length) (h : ∀ j i, l[j]? = some i → Rdy s.ws (inL (l.take j)) i ∧ i < s.ws.length) : reoE s (LI l) = 0 ∧ reoS s (LI l) = ⟨s.pr, l.map (wkN s.ws)⟩ := by
  have e : reoE s (LI l) = 0 := by
    unfold reoE
    rw [if_neg (by rw [hc]; simp), ord_eq, refOrd_of hl h, if_pos rfl]
  refine ⟨e, ?_⟩
  unfold reoS
  rw [if_pos e]
  congr 1
  unfold reoL LI
  rw [List.map_map]
  rfl
theorem leastTo_take (W : List Wk) : ∀ (m j : Nat), m ≤ W.length → j ≤ m → (leastTo W m).take j = leastTo W j
  | 0, j, _, hj => by rw [show j = 0 by omega]; rfl
  | m + 1, j, hm, hj => by
    by_cases e : j = m + 1
    · subst e
      rw [List.take_of_length_le (by rw [(leastTo_clo W (m + 1) hm).1]; exact Nat.le_refl _)]
    · rw [leastTo, List.take_append_of_le_length (by rw [(leastTo_clo W m (by omega)).1]; omega)]
      exact leastTo_take W m j (by omega) (by omega)
theorem leastTo_rdy {W : List Wk} {j i : Nat} (h : (leastTo W W.length)[j]? = some i) : Rdy W (inL ((leastTo W W.length).take j)) i ∧ i < W.length := by
  have hl := (leastTo_clo W W.length (Nat.le_refl _)).1
  have hj : j < W.length := by have := (List.getElem?_eq_some_iff.1 h).1; rwa [hl] at this
  rw [leastTo_take W _ j (Nat.le_refl _) (by omega)]
  obtain ⟨a, h1, h2, h3⟩ := least_best (W := W) (k := j) hj
  have e := leastTo_take W W.length (j + 1) (Nat.le_refl _) (by omega)
  have h4 : (leastTo W (j + 1))[j]? = some i := by rw [← e, List.getElem?_take_of_lt (by omega)]; exact h
  rw [least_next h1, List.getElem?_append_right (by rw [(leastTo_clo W j (by omega)).1]; exact Nat.le_refl _), (leastTo_clo W j (by omega)).1, Nat.sub_self] at h4
  simp at h4
  subst h4
  exact ⟨h3, h2⟩
theorem OkL.works {W V : List Wk} {l : List Nat} (h : OkL W V l) : l.map (wkN W) = V := by
  apply List.ext_getElem?
  intro j
  rw [List.getElem?_map]
  by_cases hj : j < W.length
  · obtain ⟨i, hi, _, hs⟩ := h.get hj
    rw [hi, wkN_some (show j < V.length by rw [h.vlen]; exact hj), ← sameW_eq hs]
    rfl
  · rw [List.getElem?_eq_none (by rw [h.len]; omega), List.getElem?_eq_none (by rw [h.vlen]; omega)]; rfl
/-- The other kind. -/
def otherW (x : Wk) : Wk := if x.kd = 2 then ⟨1, x.pl, ⟨#[67]⟩⟩ else ⟨2, x.pl, ⟨#[]⟩⟩
theorem other_ok {x : Wk} {pr : Int} (h : x.fits pr = true) : shortW (otherW x) = true ∧ (otherW x).fits pr = true ∧ speltW (otherW x) = true ∧ (otherW x).kd ≠ x.kd := by
  unfold Wk.fits at h
  simp only [Bool.and_eq_true, decide_eq_true_eq] at h
  unfold otherW
  by_cases e : x.kd = 2
  · rw [if_pos e]
    refine ⟨(by decide +kernel : shortW ⟨1, 0, ⟨#[67]⟩⟩ = true), ?_, (by decide +kernel : speltW ⟨1, 0, ⟨#[67]⟩⟩ = true), by simp only; omega⟩
    unfold Wk.fits
    simp [h.1.1, h.1.2]
  · rw [if_neg e]
    refine ⟨(by decide +kernel : shortW ⟨2, 0, ⟨#[]⟩⟩ = true), ?_, (by decide +kernel : speltW ⟨2, 0, ⟨#[]⟩⟩ = true), by simp only; omega⟩
    unfold Wk.fits
    simp [h.1.1, h.1.2, ByteArray.size]
/-- All that the law of exchanges asks. -/
structure ExF (a b : Sh) (ml pl ql cl dl : List Int) : Prop where
  cb : chkS b = 0
  len : b.ws.length = a.ws.length
  sm : smB a b = true ∧ smE a b = 0 ∧ mE a b = 0
  mlen : ml.length = a.ws.length
  reo : reoE a ml = 0 ∧ reoS a ml = b
  plen : pl.length = a.ws.length ∧ ql.length = a.ws.length
  reo2 : reoE a pl = 0 ∧ reoE b ql = 0 ∧ reoS a pl = reoS b ql
  llen : cl.length = a.ws.length ∧ dl.length = a.ws.length
  lev : ∀ k, k < a.ws.length → ∃ (i : Nat) (z : Int), i < a.ws.length ∧ ml[k]? = some (i : Int) ∧ dl[k]? = some z ∧ cl[i]? = some z
  oth : ∀ (k : Nat) (x : Wk), b.ws[k]? = some x → smB a ⟨a.pr, b.ws.set k (otherW x)⟩ = false ∧ smE a ⟨a.pr, b.ws.set k (otherW x)⟩ = 0
theorem lsV_get {s : Sh} (h : chkS s = 0) : lsV s = LI (leastTo s.ws s.ws.length) := lsV_ok h
theorem exF (a : Sh) (zs : List Nat) (hc : chkS a = 0) : ExF a ⟨a.pr, exL a.ws zs⟩ (matchL a ⟨a.pr, exL a.ws zs⟩) (lsV a) (lsV ⟨a.pr, exL a.ws zs⟩) (lvV a) (lvV ⟨a.pr, exL a.ws zs⟩) := by
  obtain ⟨l, hO⟩ := exL_ok zs a.ws _ (okL_refl a.ws)
  have hperm := exL_perm zs a.ws
  have hcb : chkS ⟨a.pr, exL a.ws zs⟩ = 0 := by rw [chkS_perm hperm]; exact hc
  generalize hV : exL a.ws zs = V at *
  have hm := hO.whole
  have hne : ¬ (a.pr ≠ (⟨a.pr, V⟩ : Sh).pr ∨ a.ws.length ≠ (⟨a.pr, V⟩ : Sh).ws.length) := by
    simp only [ne_eq, not_true_eq_false, false_or, Classical.not_not]
    exact hO.vlen.symm
  obtain ⟨m1, m2⟩ := mE_5 (a := a) (b := ⟨a.pr, V⟩) hc hcb hne hm
  have hpl : ∀ i, i < a.ws.length → 0 ≤ (wkN a.ws i).pl := fun i hi => ((chk_small hc).2.2.2 _ (List.mem_of_getElem? (wkN_some hi))).1
  have hls := hO.least hpl a.ws.length (Nat.le_refl _)
  have r1 := reo_of (l := l) hc hO.len (fun j i hj => (hO.ok j i hj).2)
  have r2 := reo_of (l := leastTo a.ws a.ws.length) hc (leastTo_clo a.ws _ (Nat.le_refl _)).1 (fun j i hj => leastTo_rdy hj)
  have r3 := reo_of (s := ⟨a.pr, V⟩) (l := leastTo V V.length) hcb (leastTo_clo V _ (Nat.le_refl _)).1 (fun j i hj => leastTo_rdy hj)
  refine ⟨hcb, hO.vlen, ⟨by unfold smB; rw [m1]; rfl, by unfold smE; rw [m1]; rfl, m1⟩, by rw [m2, LI_len, hO.len], ⟨by rw [m2]; exact r1.1, by rw [m2, r1.2, hO.works]⟩,
    ⟨by rw [lsV_ok hc, LI_len, (leastTo_clo a.ws _ (Nat.le_refl _)).1], by rw [lsV_ok hcb, LI_len, (leastTo_clo _ _ (Nat.le_refl _)).1]; exact hO.vlen⟩, ⟨by rw [lsV_ok hc]; exact r2.1, by rw [lsV_ok hcb]; exact r3.1, ?_⟩, ⟨lvV_len hc, by rw [lvV_len hcb]; exact hO.vlen⟩, fun k hk => ?_, fun k x hx => ?_⟩
  · rw [lsV_ok hc, lsV_ok hcb, r2.2, r3.2]
    congr 1
    rw [hls, ← hO.vlen, List.map_map]
    apply List.map_congr_left
    intro q hq
    have hqV := (leastTo_clo V V.length (Nat.le_refl _)).2.2 q hq
    obtain ⟨i, hi, _, hs⟩ := hO.get (show q < a.ws.length by rw [← hO.vlen]; exact hqV)
    simp only [Function.comp]
    rw [atL_get hi, sameW_eq hs]
  · obtain ⟨i, hi, hiW, _⟩ := hO.get hk
    refine ⟨i, (lv V k : Int), hiW, by rw [m2]; exact LI_at hi, ?_, ?_⟩
    · rw [lvV_ok hcb]
      exact LI_at (lvL_get V _ k (by rw [hO.vlen]; exact hk))
    · rw [lvV_ok hc, hO.level (k + 1) k i (by omega) hi]
      exact LI_at (lvL_get a.ws _ i hiW)
  · simp only at hx
    obtain ⟨c1, c2, c3, c4⟩ := chkS_ok hcb
    simp only at c1 c2 c3 c4
    obtain ⟨o1, o2, o3, o4⟩ := other_ok ((c4 x (List.mem_of_getElem? hx)).2.1)
    have hc' : chkS ⟨a.pr, V.set k (otherW x)⟩ = 0 := chkS_of c1 c2 (by simp only [List.length_set]; exact c3) fun u hu => by
      rcases List.mem_or_eq_of_mem_set hu with q | q
      · exact c4 u q
      · rw [q]; exact ⟨o1, o2, o3⟩
    have hn := hO.changed hx o4
    obtain ⟨n1, _⟩ := mE_4 (a := a) (b := ⟨a.pr, V.set k (otherW x)⟩) hc hc' hn
    have e4 : mE a ⟨a.pr, V.set k (otherW x)⟩ = 4 := by
      by_cases h3 : a.pr ≠ (⟨a.pr, V.set k (otherW x)⟩ : Sh).pr ∨ a.ws.length ≠ (⟨a.pr, V.set k (otherW x)⟩ : Sh).ws.length
      · exact (mE_3 hc hc' h3).1
      · exact n1
    exact ⟨by unfold smB; rw [e4]; rfl, by unfold smE; rw [e4]; rfl⟩
/-- The calls of the law of exchanges. -/
structure ExC (a : Sh) (V : List Wk) (ml pl ql cl dl : List Int) (CW : List Wk) : Prop where
  len : V.length = a.ws.length
  fit : ∀ x ∈ V, x.fits a.pr = true
  mlen : ml.length = a.ws.length
  llen : cl.length = a.ws.length ∧ dl.length = a.ws.length
  lev : ∀ k, k < a.ws.length → ∃ (i : Nat) (z : Int), i < a.ws.length ∧ ml[k]? = some (i : Int) ∧ dl[k]? = some z ∧ cl[i]? = some z
  same : ∀ (u v : Value) (W : World), WS W u a.ws → WS W v V → Calls Try.prog 15 #[.agg #[.int .i64 a.pr, u], .agg #[.int .i64 a.pr, v]] W fun e w' => e = .returned (.tuple #[.bool true, .int .i64 0]) ∧ Below W.heap.size W w'
  mat : ∀ (u v : Value) (W : World), WS W u a.ws → WS W v V → Calls Try.prog 17 #[.agg #[.int .i64 a.pr, u], .agg #[.int .i64 a.pr, v]] W fun e w' => ∃ lv, e = .returned (.tuple #[lv, .int .i64 0]) ∧ IS w' lv ml ∧ Below W.heap.size W w'
  reo : ∀ (u dv : Value) (W : World), WS W u a.ws → IS W dv ml → Calls Try.prog 36 #[.agg #[.int .i64 a.pr, u], dv] W fun e w' => ∃ x, e = .returned (.tuple #[.agg #[.int .i64 a.pr, x], .int .i64 0]) ∧ WS w' x V ∧ Below W.heap.size W w'
  lsa : ∀ (u : Value) (W : World), WS W u a.ws → Calls Try.prog 20 #[.agg #[.int .i64 a.pr, u]] W fun e w' => ∃ lv, e = .returned (.tuple #[lv, .int .i64 0]) ∧ IS w' lv pl ∧ Below W.heap.size W w'
  lsb : ∀ (u : Value) (W : World), WS W u V → Calls Try.prog 20 #[.agg #[.int .i64 a.pr, u]] W fun e w' => ∃ lv, e = .returned (.tuple #[lv, .int .i64 0]) ∧ IS w' lv ql ∧ Below W.heap.size W w'
  rea : ∀ (u dv : Value) (W : World), WS W u a.ws → IS W dv pl → Calls Try.prog 36 #[.agg #[.int .i64 a.pr, u], dv] W fun e w' => ∃ x, e = .returned (.tuple #[.agg #[.int .i64 a.pr, x], .int .i64 0]) ∧ WS w' x CW ∧ Below W.heap.size W w'
  reb : ∀ (u dv : Value) (W : World), WS W u V → IS W dv ql → Calls Try.prog 36 #[.agg #[.int .i64 a.pr, u], dv] W fun e w' => ∃ x, e = .returned (.tuple #[.agg #[.int .i64 a.pr, x], .int .i64 0]) ∧ WS w' x CW ∧ Below W.heap.size W w'
  lva : ∀ (u : Value) (W : World), WS W u a.ws → Calls Try.prog 22 #[.agg #[.int .i64 a.pr, u]] W fun e w' => ∃ lv, e = .returned (.tuple #[lv, .int .i64 0]) ∧ IS w' lv cl ∧ Below W.heap.size W w'
  lvb : ∀ (u : Value) (W : World), WS W u V → Calls Try.prog 22 #[.agg #[.int .i64 a.pr, u]] W fun e w' => ∃ lv, e = .returned (.tuple #[lv, .int .i64 0]) ∧ IS w' lv dl ∧ Below W.heap.size W w'
  eqb : ∀ (u v : Value) (W : World), WS W u V → WS W v V → Calls Try.prog 37 #[.agg #[.int .i64 a.pr, u], .agg #[.int .i64 a.pr, v]] W fun e w' => e = .returned (.bool true) ∧ Below W.heap.size W w'
  eqc : ∀ (u v : Value) (W : World), WS W u CW → WS W v CW → Calls Try.prog 37 #[.agg #[.int .i64 a.pr, u], .agg #[.int .i64 a.pr, v]] W fun e w' => e = .returned (.bool true) ∧ Below W.heap.size W w'
  oth : ∀ (k : Nat) (x : Wk), V[k]? = some x → ∀ (u v : Value) (W : World), WS W u a.ws → WS W v (V.set k (otherW x)) → Calls Try.prog 15 #[.agg #[.int .i64 a.pr, u], .agg #[.int .i64 a.pr, v]] W fun e w' => e = .returned (.tuple #[.bool false, .int .i64 0]) ∧ Below W.heap.size W w'
theorem exC (a : Sh) (zs : List Nat) (hc : chkS a = 0) : ∃ ml pl ql cl dl CW, ExC a (exL a.ws zs) ml pl ql cl dl CW := by
  have h := exF a zs hc
  have h4 := (chkS_ok hc).2.2.1
  generalize exL a.ws zs = V at *
  have hb : ∀ x ∈ V, x.fits a.pr = true := fun x hx => ((chkS_ok h.cb).2.2.2 x hx).2.1
  have hpr : (reoS a (lsV a)).pr = a.pr := by unfold reoS; rw [if_pos h.reo2.1]
  refine ⟨matchL a ⟨a.pr, V⟩, lsV a, lsV ⟨a.pr, V⟩, lvV a, lvV ⟨a.pr, V⟩, (reoS a (lsV a)).ws, h.len, hb, h.mlen, h.llen, h.lev, fun u v W hu hv => ?_, fun u v W hu hv => ?_, fun u dv W hu hd => ?_, fun u W hu => ?_, fun u W hu => ?_, fun u dv W hu hd => ?_, fun u dv W hu hd => ?_, fun u W hu => ?_, fun u W hu => ?_, fun u v W hu hv => ?_, fun u v W hu hv => ?_, fun k x hx u v W hu hv => ?_⟩
  · have g := Same_any a ⟨a.pr, V⟩ u v W hu hv
    rw [h.sm.1, h.sm.2.1] at g
    exact g
  · refine (Match_any a ⟨a.pr, V⟩ u v W hu hv).mono ?_
    rintro e w' ⟨lv, rfl, ho, hb⟩
    exact ⟨lv, by rw [h.sm.2.2], is_own ho rfl, hb⟩
  · refine (refReorder_any a (.agg #[.int .i64 a.pr, u]) _ dv W ⟨u, rfl, hu⟩ hd (by rw [h.mlen]; omega)).mono ?_
    rintro e w' ⟨x, rfl, hx, hb⟩
    rw [h.reo.2] at hx
    obtain ⟨x', rfl, hx⟩ := hx
    exact ⟨x', by rw [h.reo.1], hx, hb⟩
  · refine (Least_any a u W hu).mono ?_
    rintro e w' ⟨lv, rfl, ho, hb⟩
    exact ⟨lv, by rw [hc], ho, hb⟩
  · refine (Least_any ⟨a.pr, V⟩ u W hu).mono ?_
    rintro e w' ⟨lv, rfl, ho, hb⟩
    exact ⟨lv, by rw [h.cb], ho, hb⟩
  · refine (refReorder_any a (.agg #[.int .i64 a.pr, u]) _ dv W ⟨u, rfl, hu⟩ hd (by rw [h.plen.1]; omega)).mono ?_
    rintro e w' ⟨x, rfl, hx, hb⟩
    obtain ⟨x', rfl, hx⟩ := hx
    exact ⟨x', by rw [h.reo2.1, hpr], hx, hb⟩
  · refine (refReorder_any ⟨a.pr, V⟩ (.agg #[.int .i64 a.pr, u]) _ dv W ⟨u, rfl, hu⟩ hd (by rw [h.plen.2]; omega)).mono ?_
    rintro e w' ⟨x, rfl, hx, hb⟩
    rw [← h.reo2.2.2] at hx
    obtain ⟨x', rfl, hx⟩ := hx
    exact ⟨x', by rw [h.reo2.2.1, hpr], hx, hb⟩
  · refine (Levels_any a _ W ⟨u, rfl, hu⟩).mono ?_
    rintro e w' ⟨lv, rfl, ho, hb⟩
    exact ⟨lv, by rw [hc], ho, hb⟩
  · refine (Levels_any ⟨a.pr, V⟩ _ W ⟨u, rfl, hu⟩).mono ?_
    rintro e w' ⟨lv, rfl, ho, hb⟩
    exact ⟨lv, by rw [h.cb], ho, hb⟩
  · exact same4_yes ⟨a.pr, V⟩ _ _ W ⟨u, rfl, hu⟩ ⟨v, rfl, hv⟩ (by rw [h.len]; omega)
  · rw [← hpr]
    exact same4_yes (reoS a (lsV a)) _ _ W ⟨u, rfl, hu⟩ ⟨v, rfl, hv⟩ (by
      unfold reoS
      rw [if_pos h.reo2.1]
      simp only [reoL_len, h.plen.1]
      omega)
  · obtain ⟨o1, o2⟩ := h.oth k x hx
    have g := Same_any a ⟨a.pr, V.set k (otherW x)⟩ u v W hu hv
    rw [o1, o2] at g
    exact g
end Go.Proofs.Ytcjbjlepgdggpaa
