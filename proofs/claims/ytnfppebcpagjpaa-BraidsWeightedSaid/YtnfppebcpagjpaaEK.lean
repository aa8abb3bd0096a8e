/- The law's shaped and weighted, and the law of weighted forms, walked. -/
import Derived.Test.YtnfppebcpagjpaaCS
import Derived.Test.YtnfppebcpagjpaaEN
import Derived.Test.YtnfppebcpagjpaaDJ
import Derived.Test.YtnfppebcpagjpaaCL
namespace Go.Proofs.Ytnfppebcpagjpaa
open Go.RowKit Go.Lib
theorem not_id {n : Nat} {x : Pm} (hx : x.In n) (h : x ≠ idP) : ¬ ∀ i, i < n → x.f i = i := fun k => h (Pm.ext' fun i => by
  by_cases hi : i < n
  · exact k i hi
  · exact hx i (by omega))
theorem not_dl {n : Nat} {x : Pm} (hx : x.In n) (h : x ≠ dl n) : ¬ ∀ i, i < n → x.f i = n - 1 - i := fun k => h (Pm.ext' fun i => by
  by_cases hi : i < n
  · rw [k i hi]; exact (rev_lt hi).symm
  · rw [hx i (by omega)]; exact (rev_ge (by omega)).symm)
set_option maxHeartbeats 2000000 in
set_option maxRecDepth 100000 in
theorem shaped_any (n : Nat) (h1 : 1 ≤ n) (hn : n ≤ 12) (x : Pm) (hx : x.In n) (hi : x ≠ idP) (hd : x ≠ dl n) (v : Value) (w : World) (hv : IS w v (ints n x)) :
    Calls Try.prog 43 #[.int .i64 (n : Int), v] w fun e w' => e = .returned (.bool true) ∧ Below w.heap.size w w' := by
  obtain ⟨sa, sc, rfl, _, _, _, hI⟩ := hv
  rw [ints_len]
  have HI := Lib.hid hI
  have Hx := Lib.hid hx
  have Hni := Lib.hid (not_id hx hi)
  have Hnd := Lib.hid (not_dl hx hd)
  have hmk := fun W => mk_bools n hn W
  obtain ⟨M, hM⟩ : ∃ M, M = madeCells #[Value.bool false] n := ⟨_, rfl⟩
  have hMs : M.size = n := by rw [hM]; exact size_madeCells _ _
  have hMat : ∀ j, j < n → M[j]? = some (.bool false) := fun j hj => by rw [hM]; exact made_one _ _ _ hj
  rw [← hM] at hmk
  have HMs := Lib.hid hMs
  have HMat := Lib.hid hMat
  clear hI hM hMs hMat hx hi hd
  go_enter Try.func43, Try.ntmps43
  go_wp2_with fail
  clear hmk
  go_loopw [6, 7, 8] (fun kv rv i wr => ∃ (k : Nat) (K R : Bool) (cur : Array Value), k ≤ n ∧ i = .int .i64 k ∧ kv = .bool K ∧ rv = .bool R ∧ (K = true ↔ ∀ i, i < k → x.f i = i) ∧ (R = true ↔ ∀ i, i < k → x.f i = n - 1 - i) ∧ wr.heap[w.heap.size]? = some (.cells cur 4 (0, 0)) ∧ cur.size = n ∧ (∀ j, j < n → cur[j]? = some (.bool (decide (x.g j < k)))) ∧ Below w.heap.size w wr) (fun _ _ i _ => n - (intOf i).toNat)
  case atStart => exact ⟨0, true, true, M, Nat.zero_le _, rfl, rfl, rfl, ⟨fun _ i h => by omega, fun _ => rfl⟩, ⟨fun _ i h => by omega, fun _ => rfl⟩, heap_alloc_new w _, HMs.out, fun j hj => by rw [HMat.out j hj]; simp, below_alloc w _⟩
  case round =>
    obtain ⟨k, K, R, cur, hk, rfl, rfl, rfl, hK, hR, hrow, hcs, hcur, hbw⟩ := hrel
    have Hcs := Lib.hid hcs
    have Hcur := Lib.hid hcur
    have HK := Lib.hid hK
    have HR := Lib.hid hR
    clear hcs hcur hK hR
    by_cases hkl : k < n
    · obtain ⟨b, off, rfl, hb, hc⟩ := HI.out k _ (ints_get x hkl)
      have hcx := (hbw.cell (p := ⟨b, off + k, none⟩) hb).trans hc
      have hfl := Hx.out.lt hkl
      have k0 : (0 : Int) ≤ (k : Int) := by omega
      have k1 : (k : Int) < (n : Int) := by omega
      obtain ⟨q, hq⟩ : ∃ q, q = x.f k := ⟨_, rfl⟩
      have hgq : x.g q = k := by rw [hq, x.gf]
      rw [← hq] at hcx hfl
      have hcq := (cell_of_row wr w.heap.size q cur _ _ hrow).trans (Hcur.out q hfl)
      rw [hgq, decide_eq_false (Nat.lt_irrefl k)] at hcq
      have hfz := frozen_of_row wr w.heap.size q cur _ hrow
      have Hset := Lib.hid (heap_setCell_same wr w.heap.size q cur 4 (.bool true) hrow)
      have HB := Lib.hid (hbw.setCell (p := ⟨w.heap.size, q, none⟩) (Nat.le_refl _) (.bool true))
      have hcx2 := (HB.out.cell (p := ⟨b, off + k, none⟩) hb).trans hc
      rw [← hq] at hcx2
      have q0 : (0 : Int) ≤ (q : Int) := by omega
      have q1 : (q : Int) < (n : Int) := by omega
      have q2 : ¬ (q : Int) < 0 := by omega
      have q3 : ¬ (n : Int) ≤ (q : Int) := by omega
      have n1 : IntKind.i64.wrap ((n : Int) - 1) = (n : Int) - 1 := IntWalk.i64_in _ (by omega)
      have n2 : IntKind.i64.wrap ((n : Int) - 1 - (k : Int)) = (n : Int) - 1 - (k : Int) := IntWalk.i64_in _ (by omega)
      have Hq := Lib.hid hq
      have Hgq := Lib.hid hgq
      have hnext : ∀ j, j < n → (cur.setIfInBounds q (.bool true))[j]? = some (.bool (decide (x.g j < k + 1))) := fun j hj => by
        rw [Array.getElem?_setIfInBounds]
        by_cases e : q = j
        · subst e
          rw [if_pos rfl, if_pos (by rw [Hcs.out]; exact hfl), Hgq.out, decide_eq_true (Nat.lt_succ_self k)]
        · rw [if_neg e, Hcur.out j hj]
          congr 2
          refine decide_eq_decide.2 ⟨fun h => by omega, fun h => ?_⟩
          rcases Nat.lt_or_ge (x.g j) k with h2 | h2
          · exact h2
          · exfalso
            apply e
            rw [Hq.out, ← x.fg j]
            congr 1
            omega
      have Hnext := Lib.hid hnext
      clear hc hrow hq hgq hnext hbw
      rcases K with _ | _
      · rcases R with _ | _
        · go_wp2_with fail
          go_roundw
          case rel =>
            refine ⟨k + 1, false, false, _, hkl, by go_num, rfl, rfl, ?_, ?_, Hset.out, by rw [Array.size_setIfInBounds]; exact Hcs.out, Hnext.out, HB.out⟩
            · exact ⟨fun h => (by cases h), fun h => by have := HK.out.2 (fun i hi => h i (by omega)); cases this⟩
            · exact ⟨fun h => (by cases h), fun h => by have := HR.out.2 (fun i hi => h i (by omega)); cases this⟩
          case measure => (simp [intOf] <;> omega)
        · go_wp2_with fail
          go_roundw
          case rel =>
            refine ⟨k + 1, false, _, _, hkl, by go_num, rfl, rfl, ?_, ?_, Hset.out, by rw [Array.size_setIfInBounds]; exact Hcs.out, Hnext.out, HB.out⟩
            · exact ⟨fun h => (by cases h), fun h => by have := HK.out.2 (fun i hi => h i (by omega)); cases this⟩
            · refine ⟨fun h i hi => ?_, fun h => ?_⟩
              · have hq' := Hq.out
                rcases Nat.lt_succ_iff_lt_or_eq.1 hi with h2 | h2
                · exact HR.out.1 rfl i h2
                · subst h2
                  simp at h
                  omega
              · have h2 := h k (by omega)
                have hq' := Hq.out
                simp
                omega
          case measure => (simp [intOf] <;> omega)
      · rcases R with _ | _
        · go_wp2_with fail
          go_roundw
          case rel =>
            refine ⟨k + 1, _, false, _, hkl, by go_num, rfl, rfl, ?_, ?_, Hset.out, by rw [Array.size_setIfInBounds]; exact Hcs.out, Hnext.out, HB.out⟩
            · refine ⟨fun h i hi => ?_, fun h => ?_⟩
              · have hq' := Hq.out
                rcases Nat.lt_succ_iff_lt_or_eq.1 hi with h2 | h2
                · exact HK.out.1 rfl i h2
                · subst h2
                  simp at h
                  omega
              · have h2 := h k (by omega)
                have hq' := Hq.out
                simp
                omega
            · exact ⟨fun h => (by cases h), fun h => by have := HR.out.2 (fun i hi => h i (by omega)); cases this⟩
          case measure => (simp [intOf] <;> omega)
        · go_wp2_with fail
          go_roundw
          case rel =>
            refine ⟨k + 1, _, _, _, hkl, by go_num, rfl, rfl, ?_, ?_, Hset.out, by rw [Array.size_setIfInBounds]; exact Hcs.out, Hnext.out, HB.out⟩
            · refine ⟨fun h i hi => ?_, fun h => ?_⟩
              · have hq' := Hq.out
                rcases Nat.lt_succ_iff_lt_or_eq.1 hi with h2 | h2
                · exact HK.out.1 rfl i h2
                · subst h2
                  simp at h
                  omega
              · have h2 := h k (by omega)
                have hq' := Hq.out
                simp
                omega
            · refine ⟨fun h i hi => ?_, fun h => ?_⟩
              · have hq' := Hq.out
                rcases Nat.lt_succ_iff_lt_or_eq.1 hi with h2 | h2
                · exact HR.out.1 rfl i h2
                · subst h2
                  simp at h
                  omega
              · have h2 := h k (by omega)
                have hq' := Hq.out
                simp
                omega
          case measure => (simp [intOf] <;> omega)
    · have e : k = n := by omega
      subst e
      have k1 : ¬ (k : Int) < (k : Int) := by omega
      have eK : K = false := by
        rcases K with _ | _
        · rfl
        · exact absurd (HK.out.1 rfl) Hni.out
      have eR : R = false := by
        rcases R with _ | _
        · rfl
        · exact absurd (HR.out.1 rfl) Hnd.out
      subst eK
      subst eR
      clear hrow
      go_wp2_with fail
      go_ret
      exact ⟨rfl, hbw⟩
set_option maxHeartbeats 2000000 in
set_option maxRecDepth 100000 in
theorem weighted_any (n : Nat) (h1 : 1 ≤ n) (hn : n ≤ 12) (a c : Pm) (ha : a.In n) (hc : c.In n) (hnp : NP n a c) (u v : Value) (w : World) (hu : IS w u (ints n a)) (hv : IS w v (ints n c)) :
    Calls Try.prog 44 #[u, v] w fun e w' => e = .returned (.bool true) ∧ Below w.heap.size w w' := by
  obtain ⟨sa, sc, rfl, _, _, _, hI⟩ := hu
  obtain ⟨sb, sd, rfl, _, _, _, kI⟩ := hv
  rw [ints_len, ints_len]
  have HI := Lib.hid hI
  have KI := Lib.hid kI
  have Ha := Lib.hid ha
  have Hc := Lib.hid hc
  have Hnp := Lib.hid hnp
  have hmk := fun W => mk_full n (by omega) W
  have HO := Lib.hid (own_full n w.heap.size (by omega) w (Nat.le_refl _))
  have HB := Lib.hid (below_alloc w (.cells (madeCells #[.int .i64 0] n) 3))
  clear hI kI ha hc hnp
  go_enter Try.func44, Try.ntmps44
  go_wp2_with fail
  clear hmk
  go_loopw [6] (fun i wr => ∃ (k : Nat) (R : List Value), k ≤ n ∧ i = .int .i64 k ∧ R.length = n ∧ (∀ j, j < k → R[a.f j]? = some (.int .i64 (j : Int))) ∧ wr.ownsRow w.heap.size 3 1 (.slice (some ⟨w.heap.size, 0, none⟩) n n) n R ∧ Below w.heap.size w wr) (fun i _ => n - (intOf i).toNat)
  case atStart => exact ⟨0, _, Nat.zero_le _, rfl, by simp [size_madeCells], fun j h => by omega, HO.out, HB.out⟩
  case round =>
    obtain ⟨k, R, hk, rfl, hRl, hR, hown, hbw⟩ := hrel
    have HR := Lib.hid hR
    have HRl := Lib.hid hRl
    clear hR hRl
    by_cases hkl : k < n
    · obtain ⟨b, off, rfl, hb, hc⟩ := HI.out k _ (ints_get a hkl)
      have hcx := (hbw.cell (p := ⟨b, off + k, none⟩) hb).trans hc
      have hfl := Ha.out.lt hkl
      have Hnext := Lib.hid (fill_next Ha.out hkl HRl.out HR.out)
      obtain ⟨R0, hR0⟩ : ∃ y, R[a.f k]? = some y := ⟨_, List.getElem?_eq_getElem (by rw [HRl.out]; exact hfl)⟩
      have cp := (hown.cellAt (a.f k) (by omega)).trans hR0
      have fp := hown.frozenAt (a.f k)
      have hst := Lib.hid (hown.stored (a.f k) (.int .i64 (k : Int))).1
      have hB2 := Lib.hid (hbw.setCell (p := ⟨w.heap.size, a.f k, none⟩) (Nat.le_refl _) (.int .i64 (k : Int)))
      have p0 : (0 : Int) ≤ (a.f k : Int) := by omega
      have p1 : (a.f k : Int) < (n : Int) := by omega
      have k0 : (0 : Int) ≤ (k : Int) := by omega
      have k1 : (k : Int) < (n : Int) := by omega
      clear hown hbw hc hR0
      go_wp2_with fail
      go_roundw
      case rel => exact ⟨k + 1, _, hkl, by go_num, by rw [List.length_set]; exact HRl.out, Hnext.out, hst.out, hB2.out⟩
      case measure => (simp [intOf] <;> omega)
    · have k1 : ¬ (k : Int) < (n : Int) := by omega
      have e := fill_all Ha.out HRl.out (fun j h => HR.out j (by omega))
      rw [e] at hown
      have Hown := Lib.hid hown
      clear hown e
      go_wp2_with fail
      rename World => wq
      go_loopw [7] (fun i wr => ∃ (k : Nat), k + 1 ≤ n ∧ i = .int .i64 ((k : Int) + 1) ∧ wr.ownsRow w.heap.size 3 1 (.slice (some ⟨w.heap.size, 0, none⟩) n n) n ((ints n a.inv).map (Value.int .i64)) ∧ Below w.heap.size w wr) (fun i _ => n - (intOf i).toNat)
      case atStart => exact ⟨0, h1, rfl, Hown.out, hbw⟩
      case round =>
        obtain ⟨q, hq, rfl, hown, hbw⟩ := hrel
        by_cases hql : q + 1 < n
        · obtain ⟨b, off, rfl, hb, hc0⟩ := KI.out q _ (ints_get c (show q < n by omega))
          obtain ⟨b', off', e, hb', hc1⟩ := KI.out (q + 1) _ (ints_get c hql)
          cases e
          have cx0 := (hbw.cell (p := ⟨b, off + q, none⟩) hb).trans hc0
          have cx1 := (hbw.cell (p := ⟨b, off + (q + 1), none⟩) hb).trans hc1
          have cf0 : wr.cell? ⟨w.heap.size, q, none⟩ = some (.int .i64 (a.g q : Int)) := by rw [hown.cellAt q (by omega), List.getElem?_map, ints_get a.inv (show q < n by omega)]; rfl
          have cf1 : wr.cell? ⟨w.heap.size, q + 1, none⟩ = some (.int .i64 (a.g (q + 1) : Int)) := by rw [hown.cellAt (q + 1) (by omega), List.getElem?_map, ints_get a.inv hql]; rfl
          have hnp2 := Hnp.out q hql
          unfold Pm.beg Pm.fin at hnp2
          have q0 : (0 : Int) ≤ (q : Int) := by omega
          have q1 : (q : Int) < (n : Int) := by omega
          have q2 : (0 : Int) ≤ (q : Int) + 1 := by omega
          have q3 : (q : Int) + 1 < (n : Int) := by omega
          have q4 : ((q : Int) + 1).toNat = q + 1 := by omega
          have q5 : IntKind.i64.wrap (q : Int) = (q : Int) := IntWalk.i64_in _ (by omega)
          have Hown := Lib.hid hown
          have HBw := Lib.hid hbw
          by_cases hbg : c.f (q + 1) < c.f q
          · have g1 : (c.f (q + 1) : Int) < (c.f q : Int) := by omega
            have g2 : ¬ (a.g q : Int) < (a.g (q + 1) : Int) := by have := hnp2 hbg; omega
            clear hown hbw hc0 hc1 hnp2
            go_wp2_with fail
            go_quiet (fail)
            go_wp2_with fail
            go_roundw
            case rel => exact ⟨q + 1, hql, by go_num, own_below Hown.out (below_drewN (Below.refl _ _) _), below_drewN HBw.out _⟩
            case measure => (simp [intOf] <;> omega)
          · have g1 : ¬ (c.f (q + 1) : Int) < (c.f q : Int) := by omega
            clear hown hbw hc0 hc1 hnp2
            go_wp2_with fail
            go_quiet (fail)
            go_wp2_with fail
            go_roundw
            case rel => exact ⟨q + 1, hql, by go_num, own_below Hown.out (below_drewN (Below.refl _ _) _), below_drewN HBw.out _⟩
            case measure => (simp [intOf] <;> omega)
        · have q3 : ¬ (q : Int) + 1 < (n : Int) := by omega
          clear hown
          go_wp2_with fail
          go_ret
          exact ⟨rfl, hbw⟩
open Go.RowKit Go.Lib
theorem ints_inj' {n : Nat} {x y : Pm} (hx : x.In n) (hy : y.In n) (h : ints n x = ints n y) : x = y := Pm.ext' fun j => by
  by_cases hj : j < n
  · have := (ints_get x hj).symm.trans ((congrArg (·[j]?) h).trans (ints_get y hj))
    have := Option.some.inj this
    omega
  · rw [hx j (by omega), hy j (by omega)]
theorem map_ints_inj' {n : Nat} : ∀ {X Y : List Pm}, (∀ x ∈ X, x.In n) → (∀ y ∈ Y, y.In n) → X.map (ints n) = Y.map (ints n) → X = Y
  | [], [], _, _, _ => rfl
  | [], _ :: _, _, _, h => by cases h
  | _ :: _, [], _, _, h => by cases h
  | x :: X, y :: Y, hX, hY, h => by
    simp only [List.map_cons, List.cons.injEq] at h
    rw [ints_inj' (hX x (by simp)) (hY y (by simp)) h.1, map_ints_inj' (fun a ha => hX a (by simp [ha])) (fun a ha => hY a (by simp [ha])) h.2]
/-- A row of such rows reads as lists. -/
theorem rows_fi {B B' m : Nat} {w : World} {v : Value} {fs : List Value} {D : List Pm} (h : w.ownsRow B 22 1 v D.length fs) (hr : Rows B' m w fs D) : FI w v (D.map (ints m)) := by
  rcases h.2 with ⟨rfl, h0⟩ | ⟨g, cap, cur, rfl, _, hg, h1, h2, _, _⟩
  · have : D = [] := List.eq_nil_of_length_eq_zero (by omega)
    subst this
    exact ⟨none, 0, rfl, Nat.le_refl _, Nat.zero_le _, fun k l h => by cases h⟩
  · refine ⟨some ⟨g, 0, none⟩, cap, by rw [List.length_map], by rw [List.length_map]; exact h1, h2, fun k l hl => ?_⟩
    rw [List.getElem?_map] at hl
    obtain ⟨x, hx, rfl⟩ := Option.map_eq_some_iff.1 hl
    obtain ⟨u, hu, ho⟩ := hr k x hx
    have hk := (List.getElem?_eq_some_iff.1 hx).1
    exact ⟨g, 0, u, rfl, (Array.getElem?_eq_some_iff.1 hg).1, by rw [Nat.zero_add, h.cellAt k (by omega), hu], is_own ho (ints_len m x)⟩
theorem rows_fs {B m : Nat} {w : World} {v : Value} {fs : List Value} {D : List Pm} (h : w.ownsRow B 22 1 v D.length fs) (hr : Rows B m w fs D) (hm : 0 < m) : FS w v (D.map (ints m)) := by
  by_cases hD : 0 < D.length
  · obtain ⟨g, c, e, h1, h2, h3⟩ := form_of h hr hD hm
    exact ⟨_, c, by rw [e, List.length_map], by rw [List.length_map]; exact h1, h2, h3⟩
  · have : D = [] := List.eq_nil_of_length_eq_zero (by omega)
    subst this
    rcases h.2 with ⟨rfl, _⟩ | ⟨g, cap, cur, rfl, _, hg, h1, h2, _, _⟩
    · exact fs_nil w
    · exact ⟨_, cap, rfl, h1, h2, fun k l h => by cases h⟩
/-- The word of the normal form is the same braid. -/
theorem form_word {n : Nat} (h1 : 1 ≤ n) {w : List Int} (hw : Word n w) (hl : w.length ≤ 120) : Word n (powC n (nf n w).1 ++ (nf n w).2.flatMap (least n)) ∧ Eqv n w (powC n (nf n w).1 ++ (nf n w).2.flatMap (least n)) := by
  have hle := nf_le w hw
  have e : powC n (nf n w).1 = powW n (nf n w).1 := by
    unfold powC powW
    split
    · rw [show min (nf n w).1.natAbs 401 = (-(nf n w).1).toNat by omega]
    · rw [show min (nf n w).1.natAbs 401 = (nf n w).1.toNat by omega]
  rw [e]
  by_cases h2 : 2 ≤ n
  · obtain ⟨f1, f2⟩ := nf_form h2 hw
    exact ⟨f1, nf_eqv h2 hw f1 f2.symm⟩
  · obtain rfl : n = 1 := by omega
    obtain rfl := word_one hw
    have e0 : powW 1 (nf 1 []).1 ++ (nf 1 []).2.flatMap (least 1) = [] := by decide +kernel
    rw [e0]
    exact ⟨hw, .refl _⟩
/-- The factors of a normal form. -/
theorem form_mid {n : Nat} (h1 : 1 ≤ n) {w : List Int} (hw : Word n w) {k : Nat} {x : Pm} (h : (nf n w).2[k]? = some x) : x.In n ∧ x ≠ idP ∧ x ≠ dl n ∧ ∀ y, (nf n w).2[k + 1]? = some y → y.In n ∧ NP n x y := by
  have hle := nf_le w hw
  have hin := hle.2.2.2
  by_cases h2 : 2 ≤ n
  · have hN := nf_isN h2 w hw
    have hm := hN.mids x (List.mem_of_getElem? h)
    refine ⟨hin x (List.mem_of_getElem? h), hm.1, hm.2, fun y hy => ⟨hin y (List.mem_of_getElem? hy), ?_⟩⟩
    have hc := hN.chain
    generalize (nf n w).2 = D at *
    have : ∀ (D : List Pm) (k : Nat), Chain n D → D[k]? = some x → D[k + 1]? = some y → NP n x y := by
      intro D
      induction D with
      | nil => intro k _ h; cases h
      | cons a D ih =>
        intro k hc hx hy
        cases k with
        | zero =>
          cases D with
          | nil => simp at hy
          | cons b D =>
            simp at hx hy
            subst hx; subst hy
            exact hc.1
        | succ k =>
          simp at hx hy
          exact ih k hc.tail hx hy
    exact this D k hc h hy
  · obtain rfl : n = 1 := by omega
    obtain rfl := word_one hw
    have e0 : (nf 1 []).2 = [] := by simp [nf]
    rw [e0] at h
    cases h
set_option maxHeartbeats 1000000 in
set_option maxRecDepth 100000 in
theorem heavy_any (sa : Option Addr) (n sc : Nat) (w : World) (r : Bool) (hr : r = true ↔ (120 < n ∧ n ≤ 400) ∨ 1000 < n) :
    Calls Try.prog 35 #[.slice sa n sc] w fun e w' => e = .returned (.bool r) ∧ w' = w := by
  have Hr := Lib.hid hr
  clear hr
  by_cases a : 120 < n
  · have a' : (120 : Int) < (n : Int) := by omega
    by_cases b : n ≤ 400
    · have b' : (n : Int) ≤ 400 := by omega
      have e : r = true := Hr.out.2 (.inl ⟨a, b⟩)
      subst e
      go_enter Try.func35, Try.ntmps35
      go_wp2_with fail
      go_ret
      exact ⟨rfl, rfl⟩
    · have b' : ¬ (n : Int) ≤ 400 := by omega
      by_cases c : 1000 < n
      · have c' : (1000 : Int) < (n : Int) := by omega
        have e : r = true := Hr.out.2 (.inr c)
        subst e
        go_enter Try.func35, Try.ntmps35
        go_wp2_with fail
        go_ret
        exact ⟨rfl, rfl⟩
      · have c' : ¬ (1000 : Int) < (n : Int) := by omega
        have e : r = false := by
          rcases r with _ | _
          · rfl
          · have := Hr.out.1 rfl; omega
        subst e
        go_enter Try.func35, Try.ntmps35
        go_wp2_with fail
        go_ret
        exact ⟨rfl, rfl⟩
  · have a' : ¬ (120 : Int) < (n : Int) := by omega
    have c' : ¬ (1000 : Int) < (n : Int) := by omega
    have e : r = false := by
      rcases r with _ | _
      · rfl
      · have := Hr.out.1 rfl; omega
    subst e
    go_enter Try.func35, Try.ntmps35
    go_wp2_with fail
    go_ret
    exact ⟨rfl, rfl⟩
theorem entSh (args : Array Value) (w : World) : (callFunc 43 args).run Try.prog w = .ok (.enter 43 args) w := enter_of Try.func43 (by decide +kernel) (by intro h; cases h) args w
theorem entWe (args : Array Value) (w : World) : (callFunc 44 args).run Try.prog w = .ok (.enter 44 args) w := enter_of Try.func44 (by decide +kernel) (by intro h; cases h) args w
attribute [local irreducible] wpQuiet
set_option maxHeartbeats 4000000 in
set_option maxRecDepth 100000 in
theorem wlaw_ok (m : Nat) (m1 : 1 ≤ m) (m2 : m ≤ 12) (xs : List Int) (hl : xs.length ≤ 120) (hx : Word m xs) (v : Value) (w : World) (hv : IS w v xs) :
    Calls Try.prog 8 #[.int .i64 (m : Int), v] w fun e w' => e = .returned (.bool true) ∧ Below w.heap.size w w' := by
  have Hv := Lib.hid hv
  obtain ⟨sa, sc, rfl, h1, h2, _, hI⟩ := hv
  have hc0 := checkV_of m1 m2 (show xs.length ≤ 400 by omega) hx
  have CK := Lib.hid (refCheck_any m xs sa sc w hI h1 h2)
  rw [hc0] at CK
  have CN := Lib.hid (fun w h => Normal_any m xs sa sc w h1 h2 h hc0)
  have CA := Lib.hid (fun w h => refAct_any m m1 m2 xs hx (by omega) (.slice sa xs.length sc) w h)
  have CH := Lib.hid (heavy_any sa xs.length sc w false ⟨fun h => (by cases h), fun h => (by omega)⟩)
  have HI := Lib.hid hI
  have Hx := Lib.hid hx
  have Hle := Lib.hid (nf_le xs hx)
  have Hmid := Lib.hid (fun k x h => form_mid m1 hx (k := k) (x := x) h)
  have Hfw := Lib.hid (form_word m1 hx hl)
  rw [Int.toNat_natCast] at CN
  obtain ⟨p, D, hpd⟩ : ∃ p D, nf m xs = (p, D) := ⟨_, _, rfl⟩
  rw [hpd] at CN Hle Hmid Hfw
  have Hpd := Lib.hid hpd
  clear hI hx hc0 hpd h1 h2
  dsimp only at CN Hle Hmid Hfw
  go_enter Try.func8, Try.ntmps8
  go_wp2_with fail
  refine CH.out.mono ?_
  rintro e w0 ⟨rfl, rfl⟩
  go_wp2_with fail
  refine CK.out.mono ?_
  rintro e w1 ⟨rfl, B1⟩
  have HB1 := Lib.hid B1
  clear B1 CH CK
  go_wp2_with fail
  refine (CN.out w1 (HI.out.below HB1.out)).mono ?_
  rintro e w2 ⟨vl, fs, rfl, O2, R2, B2⟩
  have HO2 := Lib.hid O2
  have HR2 := Lib.hid R2
  have HB2 := Lib.hid (bon HB1.out B2)
  obtain ⟨al, cl, rfl⟩ := own_form O2
  clear O2 R2 B2 CN
  go_wp2_with fail
  go_loopw [8] (fun i wr => ∃ k : Nat, k ≤ D.length ∧ i = .int .i64 k ∧ Below w2.heap.size w2 wr) (fun i _ => D.length - (intOf i).toNat)
  case atStart => exact ⟨0, Nat.zero_le _, rfl, Below.refl _ _⟩
  case round =>
    obtain ⟨k, hk, rfl, hbw⟩ := hrel
    by_cases hkl : k < D.length
    · obtain ⟨x, hx⟩ : ∃ x, D[k]? = some x := ⟨_, List.getElem?_eq_getElem hkl⟩
      obtain ⟨xin, xid, xdl, xnp⟩ := Hmid.out k x hx
      obtain ⟨u, hu, ho⟩ := HR2.out k x hx
      obtain ⟨gl, cap, e0⟩ := own_pos HO2.out (by omega)
      obtain ⟨rfl, rfl⟩ : al = some ⟨gl, 0, none⟩ ∧ cl = cap := by cases e0; exact ⟨rfl, rfl⟩
      clear e0
      obtain ⟨ua, uc, rfl⟩ := own_form ho
      have cu := (HO2.out.cellAt k (by omega)).trans hu
      have hgl := (HO2.out.lt gl rfl).2
      have Hou := Lib.hid ho
      have CS := Lib.hid (fun W (h : Below w2.heap.size w2 W) => shaped_any m m1 m2 x xin xid xdl (.slice ua m uc) W (is_own (own_below Hou.out h) (ints_len m x)))
      have k0 : (0 : Int) ≤ (k : Int) := by omega
      have k1 : (k : Int) < (D.length : Int) := by omega
      have Hhx := Lib.hid hx
      have Hxin := Lib.hid xin
      have HBw := Lib.hid hbw
      have hlg := Hle.out.1
      clear hx xnp hbw ho hu xid xdl xin
      rcases k with _ | k
      · go_wp2_with fail
        refine wp_region_class (fun w' => Below w2.heap.size w2 w') 23 (by kernel_rfl) (by kernel_rfl) HBw.out.drew ?_
        simp only [List.take_succ_cons, List.take_zero, List.drop_succ_cons, List.drop_zero]
        refine quiet_move rfl _ rfl ?_
        simp only [Act.put, List.setIfInBounds_toArray, List.set_cons_zero, List.set_cons_succ]
        refine quiet_move rfl _ rfl ?_
        simp only [Act.put, List.setIfInBounds_toArray, List.set_cons_zero, List.set_cons_succ]
        refine quiet_move rfl _ rfl ?_
        simp only [Act.put, List.setIfInBounds_toArray, List.set_cons_zero, List.set_cons_succ]
        refine quiet_still rfl (.pointer (some ⟨gl, 0, none⟩)) (fun w _ => by go_simp) ?_
        simp only [Act.put, List.setIfInBounds_toArray, List.set_cons_zero, List.set_cons_succ]
        refine quiet_load1 rfl _ _ rfl ⟨gl, 0, none⟩ rfl (.slice ua m uc) (load_ints _ _) (fun _ h => (h.cell (p := ⟨gl, 0, none⟩) hgl).trans cu) ?_
        simp only [Act.put, List.setIfInBounds_toArray, List.set_cons_zero, List.set_cons_succ]
        refine quiet_call rfl 43 _ _ rfl entSh (.bool true) (fun wc h => (CS.out wc h).mono fun e w' ⟨he, hb⟩ => ⟨he, h.trans (hb.mono h.size)⟩) ?_
        simp only [Act.put, List.setIfInBounds_toArray, List.set_cons_zero, List.set_cons_succ]
        refine quiet_still rfl (.bool false) (fun w _ => by go_simp) ?_
        simp only [Act.put, List.setIfInBounds_toArray, List.set_cons_zero, List.set_cons_succ]
        refine quiet_moveV rfl _ rfl (.bool false) rfl ?_
        simp only [Act.put, List.setIfInBounds_toArray, List.set_cons_zero, List.set_cons_succ]
        refine quietW_moveV (by kernel_rfl) _ rfl _ rfl ?_
        simp only [Act.put, List.setIfInBounds_toArray, List.set_cons_zero, List.set_cons_succ]
        refine quietW_still (by kernel_rfl) (.bool false) (fun w _ => by go_simp) ?_
        simp only [Act.put, List.setIfInBounds_toArray, List.set_cons_zero, List.set_cons_succ]
        refine quietW_moveV (by kernel_rfl) _ rfl _ rfl ?_
        simp only [Act.put, List.setIfInBounds_toArray, List.set_cons_zero, List.set_cons_succ]
        refine quiet_skip (by kernel_rfl) ?_
        simp only [Act.put, List.setIfInBounds_toArray, List.set_cons_zero, List.set_cons_succ]
        refine quiet_skip (by kernel_rfl) ?_
        simp only [Act.put, List.setIfInBounds_toArray, List.set_cons_zero, List.set_cons_succ]
        refine quiet_skip (by kernel_rfl) ?_
        simp only [Act.put, List.setIfInBounds_toArray, List.set_cons_zero, List.set_cons_succ]
        refine quiet_skip (by kernel_rfl) ?_
        simp only [Act.put, List.setIfInBounds_toArray, List.set_cons_zero, List.set_cons_succ]
        refine quiet_skip (by kernel_rfl) ?_
        simp only [Act.put, List.setIfInBounds_toArray, List.set_cons_zero, List.set_cons_succ]
        refine quiet_skip (by kernel_rfl) ?_
        simp only [Act.put, List.setIfInBounds_toArray, List.set_cons_zero, List.set_cons_succ]
        refine quiet_skip (by kernel_rfl) ?_
        simp only [Act.put, List.setIfInBounds_toArray, List.set_cons_zero, List.set_cons_succ]
        refine quiet_skip (by kernel_rfl) ?_
        simp only [Act.put, List.setIfInBounds_toArray, List.set_cons_zero, List.set_cons_succ]
        refine quiet_skip (by kernel_rfl) ?_
        simp only [Act.put, List.setIfInBounds_toArray, List.set_cons_zero, List.set_cons_succ]
        refine quiet_skip (by kernel_rfl) ?_
        simp only [Act.put, List.setIfInBounds_toArray, List.set_cons_zero, List.set_cons_succ]
        refine quiet_skip (by kernel_rfl) ?_
        simp only [Act.put, List.setIfInBounds_toArray, List.set_cons_zero, List.set_cons_succ]
        refine quietW_still (by kernel_rfl) (.bool false) (fun w _ => by go_simp) ?_
        simp only [Act.put, List.setIfInBounds_toArray, List.set_cons_zero, List.set_cons_succ]
        refine wpQuiet_nil fun w4 h4 => ?_
        go_wp2_with fail
        go_roundw
        case rel => exact ⟨1, by omega, by go_num, h4⟩
        case measure => (simp [intOf] <;> omega)
      · obtain ⟨y, hy⟩ : ∃ y, D[k]? = some y := ⟨_, List.getElem?_eq_getElem (by omega)⟩
        obtain ⟨yin, _, _, ynp⟩ := Hmid.out k y hy
        obtain ⟨uy, huy, hoy⟩ := HR2.out k y hy
        obtain ⟨ya, yc, rfl⟩ := own_form hoy
        have cy := (HO2.out.cellAt k (by omega)).trans huy
        have hnp := (ynp x Hhx.out).2
        have Hoy := Lib.hid hoy
        have CW := Lib.hid (fun W (h : Below w2.heap.size w2 W) => weighted_any m m1 m2 y x yin Hxin.out hnp (.slice ya m yc) (.slice ua m uc) W (is_own (own_below Hoy.out h) (ints_len m y)) (is_own (own_below Hou.out h) (ints_len m x)))
        have q0 : (0 : Int) ≤ (k : Int) := by omega
        have q6 : ¬ (k : Int) + 1 < 0 := by omega
        have q7 : (0 : Int) ≤ (k : Int) + 1 := by omega
        have q8 : (k : Int) + 1 < (D.length : Int) := by omega
        have q1 : (k : Int) < (D.length : Int) := by omega
        have q2 : (0 : Int) < ((k + 1 : Nat) : Int) := by omega
        have q3 : IntKind.i64.wrap (((k + 1 : Nat) : Int) - 1) = (k : Int) := by rw [show (((k + 1 : Nat) : Int) - 1) = (k : Int) by omega]; exact IntWalk.i64_in _ (by omega)
        have q4 : IntKind.i64.wrap ((k : Int) + 1 - 1) = (k : Int) := by rw [show (k : Int) + 1 - 1 = (k : Int) by omega]; exact IntWalk.i64_in _ (by omega)
        have q5 : IntKind.i64.wrap (k : Int) = (k : Int) := IntWalk.i64_in _ (by omega)
        clear hy huy hoy ynp hnp yin
        go_wp2_with fail
        refine wp_region_class (fun w' => Below w2.heap.size w2 w') 23 (by kernel_rfl) (by kernel_rfl) HBw.out.drew ?_
        simp only [List.take_succ_cons, List.take_zero, List.drop_succ_cons, List.drop_zero]
        refine quiet_move rfl _ rfl ?_
        simp only [Act.put, List.setIfInBounds_toArray, List.set_cons_zero, List.set_cons_succ]
        refine quiet_move rfl _ rfl ?_
        simp only [Act.put, List.setIfInBounds_toArray, List.set_cons_zero, List.set_cons_succ]
        refine quiet_move rfl _ rfl ?_
        simp only [Act.put, List.setIfInBounds_toArray, List.set_cons_zero, List.set_cons_succ]
        refine quiet_still rfl (.pointer (some ⟨gl, (k + 1), none⟩)) (fun w _ => by go_simp) ?_
        simp only [Act.put, List.setIfInBounds_toArray, List.set_cons_zero, List.set_cons_succ]
        refine quiet_load1 rfl _ _ rfl ⟨gl, (k + 1), none⟩ rfl (.slice ua m uc) (load_ints _ _) (fun _ h => (h.cell (p := ⟨gl, (k + 1), none⟩) hgl).trans cu) ?_
        simp only [Act.put, List.setIfInBounds_toArray, List.set_cons_zero, List.set_cons_succ]
        refine quiet_call rfl 43 _ _ rfl entSh (.bool true) (fun wc h => (CS.out wc h).mono fun e w' ⟨he, hb⟩ => ⟨he, h.trans (hb.mono h.size)⟩) ?_
        simp only [Act.put, List.setIfInBounds_toArray, List.set_cons_zero, List.set_cons_succ]
        refine quiet_still rfl (.bool false) (fun w _ => by go_simp) ?_
        simp only [Act.put, List.setIfInBounds_toArray, List.set_cons_zero, List.set_cons_succ]
        refine quiet_moveV rfl _ rfl (.bool false) rfl ?_
        simp only [Act.put, List.setIfInBounds_toArray, List.set_cons_zero, List.set_cons_succ]
        refine quietW_moveV (by kernel_rfl) _ rfl _ rfl ?_
        simp only [Act.put, List.setIfInBounds_toArray, List.set_cons_zero, List.set_cons_succ]
        refine quietW_still (by kernel_rfl) (.bool true) (fun w _ => by go_simp) ?_
        simp only [Act.put, List.setIfInBounds_toArray, List.set_cons_zero, List.set_cons_succ]
        refine quietW_moveV (by kernel_rfl) _ rfl _ rfl ?_
        simp only [Act.put, List.setIfInBounds_toArray, List.set_cons_zero, List.set_cons_succ]
        refine quietW_moveV (by kernel_rfl) _ rfl _ rfl ?_
        simp only [Act.put, List.setIfInBounds_toArray, List.set_cons_zero, List.set_cons_succ]
        refine quietW_moveV (by kernel_rfl) _ rfl _ rfl ?_
        simp only [Act.put, List.setIfInBounds_toArray, List.set_cons_zero, List.set_cons_succ]
        refine quietW_still (by kernel_rfl) (.int .i64 (k : Int)) (fun w _ => by go_simp) ?_
        simp only [Act.put, List.setIfInBounds_toArray, List.set_cons_zero, List.set_cons_succ]
        refine quietW_still (by kernel_rfl) (.pointer (some ⟨gl, k, none⟩)) (fun w _ => by go_simp) ?_
        simp only [Act.put, List.setIfInBounds_toArray, List.set_cons_zero, List.set_cons_succ]
        refine quietW_load1 (by kernel_rfl) _ _ rfl ⟨gl, k, none⟩ rfl (.slice ya m yc) (load_ints _ _) (fun _ h => (h.cell (p := ⟨gl, k, none⟩) hgl).trans cy) ?_
        simp only [Act.put, List.setIfInBounds_toArray, List.set_cons_zero, List.set_cons_succ]
        refine quietW_moveV (by kernel_rfl) _ rfl _ rfl ?_
        simp only [Act.put, List.setIfInBounds_toArray, List.set_cons_zero, List.set_cons_succ]
        refine quietW_moveV (by kernel_rfl) _ rfl _ rfl ?_
        simp only [Act.put, List.setIfInBounds_toArray, List.set_cons_zero, List.set_cons_succ]
        refine quietW_still (by kernel_rfl) (.pointer (some ⟨gl, k + 1, none⟩)) (fun w _ => by go_simp) ?_
        simp only [Act.put, List.setIfInBounds_toArray, List.set_cons_zero, List.set_cons_succ]
        refine quietW_load1 (by kernel_rfl) _ _ rfl ⟨gl, k + 1, none⟩ rfl (.slice ua m uc) (load_ints _ _) (fun _ h => (h.cell (p := ⟨gl, k + 1, none⟩) hgl).trans cu) ?_
        simp only [Act.put, List.setIfInBounds_toArray, List.set_cons_zero, List.set_cons_succ]
        refine quietW_call (by kernel_rfl) 44 _ _ rfl entWe (.bool true) (fun wc h => (CW.out wc h).mono fun e w' ⟨he, hb⟩ => ⟨he, h.trans (hb.mono h.size)⟩) ?_
        simp only [Act.put, List.setIfInBounds_toArray, List.set_cons_zero, List.set_cons_succ]
        refine quietW_still (by kernel_rfl) (.bool false) (fun w _ => by go_simp) ?_
        simp only [Act.put, List.setIfInBounds_toArray, List.set_cons_zero, List.set_cons_succ]
        refine quietW_still (by kernel_rfl) (.bool false) (fun w _ => by go_simp) ?_
        simp only [Act.put, List.setIfInBounds_toArray, List.set_cons_zero, List.set_cons_succ]
        refine wpQuiet_nil fun w4 h4 => ?_
        go_wp2_with fail
        go_roundw
        case rel => exact ⟨k + 1 + 1, by omega, by go_num, h4⟩
        case measure => (simp [intOf] <;> omega)
    · have e : k = D.length := by omega
      subst e
      have k1 : ¬ (D.length : Int) < (D.length : Int) := by omega
      have HFI := Lib.hid (rows_fi (own_below HO2.out hbw) (HR2.out.below hbw))
      have HFS := Lib.hid (rows_fs (own_below HO2.out hbw) (HR2.out.below hbw) (by omega))
      have HBw := Lib.hid (bon HB2.out hbw)
      clear hbw HO2 HR2
      go_wp2_with fail
      refine (Word_any m m1 m2 p (D.map (ints m)) _ wr HFI.out).mono ?_
      rintro e w3 ⟨v3, L, er, rfl, I3, B3, hcase⟩
      have hin := Hle.out.2.2.2
      have hL : (L, er) = fin400 (powC m p ++ D.flatMap (least m)) := by
        rcases hcase with ⟨_, _, hn⟩ | ⟨X, hX1, hX2, hX3⟩
        · exact absurd (fun l hl => by
            obtain ⟨x, hx, rfl⟩ := List.mem_map.1 hl
            exact pm_perm m x (hin x hx)) hn
        · rw [map_ints_inj' hin hX2 hX1]
          exact hX3
      obtain ⟨N, hN⟩ : ∃ N, N = powC m p ++ D.flatMap (least m) := ⟨_, rfl⟩
      rw [← hN] at hL Hfw
      have HB3 := Lib.hid (bon HBw.out B3)
      have HF3 := Lib.hid (HFS.out.below B3)
      have HI3 := Lib.hid I3
      unfold fin400 at hL
      clear hcase hin hN B3 I3 HFS HFI
      by_cases hlen : 400 < N.length
      · rw [if_pos hlen] at hL
        simp only [Prod.mk.injEq] at hL
        obtain ⟨rfl, rfl⟩ := hL
        go_wp2_with fail
        refine (awake_any _).mono ?_
        rintro e w4 ⟨rfl, b4⟩
        go_wp2_with fail
        go_ret
        exact ⟨rfl, bon HB3.out b4⟩
      · rw [if_neg hlen] at hL
        simp only [Prod.mk.injEq] at hL
        obtain ⟨rfl, rfl⟩ := hL
        obtain ⟨wL, eL⟩ := Hfw.out
        have hnf : nf m L = (p, D) := ((nf_eq_iff m1 Hx.out wL).2 eL).symm.trans Hpd.out
        have hcL := checkV_of m1 m2 (show L.length ≤ 400 by omega) wL
        obtain ⟨a3, c3, rfl, l1, l2, _, l4⟩ := HI3.out
        have CN3 := Lib.hid (Normal_any m L a3 c3 w3 l1 l2 l4 hcL)
        rw [Int.toNat_natCast, hnf] at CN3
        dsimp only at CN3
        have CA3 := Lib.hid (fun w h => refAct_any m m1 m2 L wL (by omega) (.slice a3 L.length c3) w h)
        have hact := act_sound Hx.out eL
        have HeL := Lib.hid hact
        clear hnf hcL l1 l2 l4 wL eL hact
        go_wp2_with fail
        refine CN3.out.mono ?_
        rintro e w4 ⟨v4, fs4, rfl, O4, R4, B4⟩
        have HF4 := Lib.hid (rows_fs O4 R4 (by omega))
        have HF3' := Lib.hid (HF3.out.below B4)
        have HB4 := Lib.hid (bon HB3.out B4)
        have HI4 := Lib.hid (HI3.out.below B4)
        clear O4 R4 B4 CN3 HF3 HI3
        go_wp2_with fail
        refine (sameForm_fs HF3'.out HF4.out true ⟨fun _ => rfl, fun _ => rfl⟩).mono ?_
        rintro e w5 ⟨rfl, B5⟩
        have HB5 := Lib.hid (bon HB4.out B5)
        have HI5 := Lib.hid (HI4.out.below B5)
        clear B5
        go_wp2_with fail
        cases ha : actV m xs with
        | none =>
          rw [ha] at CA
          clear ha
          refine (CA.out w5 (Hv.out.below HB5.out)).mono ?_
          rintro e w6 ⟨v6, rfl, F6, B6⟩
          have HB6 := Lib.hid (bon HB5.out B6)
          have HI6 := Lib.hid (HI5.out.below B6)
          go_wp2_with fail
          refine (CA3.out w6 HI6.out).mono ?_
          rintro e w7 ⟨v7, rfl, F7, B7⟩
          have HB7 := Lib.hid (bon HB6.out B7)
          go_wp2_with fail
          refine (awake_any _).mono ?_
          rintro e w8 ⟨rfl, b8⟩
          go_wp2_with fail
          go_ret
          exact ⟨rfl, bon HB7.out b8⟩
        | some G =>
          rw [ha] at CA
          refine (CA.out w5 (Hv.out.below HB5.out)).mono ?_
          rintro e w6 ⟨v6, rfl, F6, B6⟩
          have HB6 := Lib.hid (bon HB5.out B6)
          have HI6 := Lib.hid (HI5.out.below B6)
          have HG := Lib.hid (actV_some ha).1
          clear ha
          go_wp2_with fail
          cases hb : actV m L with
          | none =>
            rw [hb] at CA3
            clear hb
            refine (CA3.out w6 HI6.out).mono ?_
            rintro e w7 ⟨v7, rfl, F7, B7⟩
            have HB7 := Lib.hid (bon HB6.out B7)
            go_wp2_with fail
            refine (awake_any _).mono ?_
            rintro e w8 ⟨rfl, b8⟩
            go_wp2_with fail
            go_ret
            exact ⟨rfl, bon HB7.out b8⟩
          | some H =>
            rw [hb] at CA3
            have HH := Lib.hid (actV_some hb).1
            clear hb
            refine (CA3.out w6 HI6.out).mono ?_
            rintro e w7 ⟨v7, rfl, F7, B7⟩
            have HB7 := Lib.hid (bon HB6.out B7)
            have F6' := Lib.hid (F6.below B7)
            have hGH : G = H := by rw [HG.out, HH.out, HeL.out]
            have HGH := Lib.hid hGH
            clear hGH
            go_wp2_with fail
            refine (sameForm_fs F6'.out F7 true ⟨fun _ => HGH.out, fun _ => rfl⟩).mono ?_
            rintro e w8 ⟨rfl, B8⟩
            have HB8 := Lib.hid (bon HB7.out B8)
            go_wp2_with fail
            refine (awake_any _).mono ?_
            rintro e w9 ⟨rfl, b9⟩
            go_wp2_with fail
            go_ret
            exact ⟨rfl, bon HB8.out b9⟩
set_option maxHeartbeats 1000000 in
set_option maxRecDepth 100000 in
theorem wlaw_any (n : Int) (xs : List Int) (v : Value) (w : World) (_ : (Lit.int .i64 n).wf = true) (hv : IS w v xs) (_ : ∀ z ∈ xs, -9223372036854775808 ≤ z ∧ z ≤ 9223372036854775807) :
    Calls Try.prog 8 #[.int .i64 n, v] w fun e w' => e = .returned (.bool true) ∧ Below w.heap.size w w' := by
  have Hv := Lib.hid hv
  obtain ⟨sa, sc, rfl, h1, h2, _, hI⟩ := hv
  have hlm : xs.length < 2 ^ 64 := by unfold maxLen at h2; omega
  by_cases hh : (120 < xs.length ∧ xs.length ≤ 400) ∨ 1000 < xs.length
  · have CH := Lib.hid (heavy_any sa xs.length sc w true ⟨fun _ => hh, fun _ => rfl⟩)
    clear hI
    go_enter Try.func8, Try.ntmps8
    go_wp2_with fail
    refine CH.out.mono ?_
    rintro e w0 ⟨rfl, rfl⟩
    go_wp2_with fail
    refine (awake_any _).mono ?_
    rintro e w1 ⟨rfl, B1⟩
    go_wp2_with fail
    go_ret
    exact ⟨rfl, B1⟩
  · by_cases hc : checkV n xs = 0
    · obtain ⟨m, rfl, m1, m2, lx, wx⟩ := checkV_ok hc
      exact wlaw_ok m m1 m2 xs (by omega) wx _ w Hv.out
    · have CH := Lib.hid (heavy_any sa xs.length sc w false ⟨fun h => (by cases h), fun h => absurd h hh⟩)
      have CK := Lib.hid (refCheck_any n xs sa sc w hI h1 h2)
      obtain ⟨c, hcv⟩ : ∃ c, c = checkV n xs := ⟨_, rfl⟩
      rw [← hcv] at CK hc
      clear hI hcv
      go_enter Try.func8, Try.ntmps8
      go_wp2_with fail
      refine CH.out.mono ?_
      rintro e w0 ⟨rfl, rfl⟩
      go_wp2_with fail
      refine CK.out.mono ?_
      rintro e w1 ⟨rfl, B1⟩
      go_wp2_with fail
      refine (awake_any _).mono ?_
      rintro e w2 ⟨rfl, B2⟩
      go_wp2_with fail
      go_ret
      exact ⟨rfl, bon B1 B2⟩
end Go.Proofs.Ytnfppebcpagjpaa
