/- The law of closed sets. -/
import Derived.Test.YtenfeekchggioaaPP
import Derived.Test.YtenfeekchggioaaPT
import Derived.Deep.CutRange
namespace Go.Proofs.Ytenfeekchggioaa
open Go.RowKit Go.Shelf
set_option linter.unusedSimpArgs false
attribute [local irreducible] wpQuiet
theorem bef_trans {W : List Wk} {a b : Nat} : ∀ (m c : Nat), c ≤ m → c < W.length → befN W c b = true → befN W b a = true → befN W c a = true
  | 0, c, hm, hc, h, _ => by
    obtain ⟨k, h1, _⟩ := (bef_iff hc).1 h
    omega
  | m + 1, c, hm, hc, h, h2 => by
    obtain ⟨k, h1, h3, h4⟩ := (bef_iff hc).1 h
    refine (bef_iff hc).2 ⟨k, h1, h3, .inr ?_⟩
    rcases h4 with rfl | h4
    · exact h2
    · exact bef_trans m k (by omega) (by omega) h4 h2
/-- A list of numbers that is a chain. -/
theorem ch_list {W : List Wk} {a : Nat} : ∀ {c : List Nat}, Ch W a c → c.reverse[0]? = some a ∧ c.reverse[c.length - 1]? = some (hdN c) ∧ (∀ z ∈ c, z ≤ hdN c) ∧ ∀ (i : Nat) (x y : Nat), c.reverse[i]? = some x → c.reverse[i + 1]? = some y → x < y ∧ tchN W x y = true
  | [], h => h.elim
  | [y], h => by
    have h : y = a := h
    subst h
    refine ⟨rfl, rfl, fun z hz => by rw [List.mem_singleton] at hz; subst hz; exact Nat.le_refl _, fun i x z h1 h2 => ?_⟩
    have := (List.getElem?_eq_some_iff.1 h2).1
    simp at this
  | x :: y :: r, h => by
    obtain ⟨h1, h2, h3, h4⟩ := ch_list h.2.2
    have hl : (y :: r).reverse.length = r.length + 1 := by simp
    have e : (x :: y :: r).reverse = (y :: r).reverse ++ [x] := List.reverse_cons
    rw [e]
    refine ⟨?_, ?_, fun z hz => ?_, fun i u v g1 g2 => ?_⟩
    · rw [List.getElem?_append_left (by omega)]; exact h1
    · rw [List.getElem?_append_right (by simp)]
      simp [hdN]
    · rcases List.mem_cons.1 hz with rfl | hz
      · exact Nat.le_refl _
      · have := h3 z hz
        have h5 : y < x := h.1
        have h6 : hdN (y :: r) = y := rfl
        show z ≤ x
        omega
    · by_cases q : i + 1 < r.length + 1
      · rw [List.getElem?_append_left (by omega)] at g1 g2
        exact h4 i u v g1 g2
      · have hi := (List.getElem?_eq_some_iff.1 g2).1
        rw [List.length_append, hl, List.length_singleton] at hi
        have e2 : i = r.length := by omega
        subst e2
        rw [List.getElem?_append_left (by omega)] at g1
        rw [List.getElem?_append_right (by omega), hl, Nat.sub_self] at g2
        simp only [List.getElem?_cons_zero, Option.some.injEq] at g2
        subst g2
        have h2' : (y :: r).reverse[r.length]? = some y := h2
        rw [h2'] at g1
        cases g1
        exact ⟨h.1, h.2.1⟩
/-- What the law asks of a chain. -/
structure ChOk (W : List Wk) (a b : Nat) (L : List Int) : Prop where
  rng : ∀ (i : Nat) z, L[i]? = some z → 0 ≤ z ∧ z < (W.length : Int)
  step : ∀ (i : Nat) (x y : Nat), L[i]? = some (x : Int) → L[i + 1]? = some (y : Int) → x < y ∧ ∀ u v, W[x]? = some u → W[y]? = some v → touchP u v = true
  first : L[0]? = some (a : Int)
  last : L[L.length - 1]? = some (b : Int)
  len : 2 ≤ L.length
theorem chOk_of {W : List Wk} {a b : Nat} (hab : a < b) (hb : b < W.length) {c : List Nat} (h : Ch W a c) (e : hdN c = b) : ChOk W a b (c.reverse.map fun (i : Nat) => (i : Int)) := by
  obtain ⟨h1, h2, h3, h4⟩ := ch_list h
  refine ⟨fun i z hz => ?_, fun i x y hx hy => ?_, ?_, ?_, ?_⟩
  · have hm := List.mem_of_getElem? hz
    obtain ⟨k, hk, rfl⟩ := List.mem_map.1 hm
    have := h3 k (List.mem_reverse.1 hk)
    omega
  · rw [List.getElem?_map] at hx hy
    obtain ⟨x', hx', e1⟩ := Option.map_eq_some_iff.1 hx
    obtain ⟨y', hy', e2⟩ := Option.map_eq_some_iff.1 hy
    have e1 : x' = x := by omega
    have e2 : y' = y := by omega
    subst e1 e2
    obtain ⟨g1, g2⟩ := h4 i _ _ hx' hy'
    refine ⟨g1, fun u v hu hv => ?_⟩
    unfold tchN at g2
    rwa [wkN_get hu, wkN_get hv] at g2
  · rw [List.getElem?_map, h1]; rfl
  · rw [List.length_map, List.length_reverse, List.getElem?_map, h2, e]; rfl
  · rw [List.length_map, List.length_reverse]
    match c, h with
    | [], h => exact h.elim
    | [y], h =>
      have h : y = a := h
      have e : y = b := e
      omega
    | x :: y :: r, _ => simp
/-- A list with a number put in at its place: how far it is, and whether the number is in. -/
def insStep (r : Int) (s : List Int × Bool) (z : Int) : List Int × Bool := if (!s.2 && decide (r < z)) = true then (s.1 ++ [r] ++ [z], true) else (s.1 ++ [z], s.2)
def insTo (r : Int) (ds : List Int) (k : Nat) : List Int × Bool := (ds.take k).foldl (insStep r) ([], false)
def insL (r : Int) (ds : List Int) : List Int := if (insTo r ds ds.length).2 = true then (insTo r ds ds.length).1 else (insTo r ds ds.length).1 ++ [r]
theorem insTo_next {r : Int} {ds : List Int} {k : Nat} {z : Int} (h : ds[k]? = some z) : insTo r ds (k + 1) = insStep r (insTo r ds k) z := by
  unfold insTo
  rw [List.take_add_one, h, List.foldl_append]
  rfl
theorem insTo_len (r : Int) (ds : List Int) : ∀ k, (insTo r ds k).1.length ≤ 2 * k
  | 0 => by simp [insTo]
  | k + 1 => by
    by_cases hk : k < ds.length
    · rw [insTo_next (List.getElem?_eq_getElem hk)]
      have := insTo_len r ds k
      unfold insStep
      split <;> simp <;> omega
    · have e : insTo r ds (k + 1) = insTo r ds k := by
        unfold insTo
        rw [List.take_of_length_le (by omega), List.take_of_length_le (by omega)]
      rw [e]
      have := insTo_len r ds k
      omega
structure InsInv (n : Nat) (r : Int) (ds : List Int) (k : Nat) (s : List Int × Bool) : Prop where
  pair : s.1.Pairwise (· < ·)
  mem : ∀ z, z ∈ s.1 ↔ (s.2 = true ∧ z = r) ∨ z ∈ ds.take k
  big : s.2 = true → ∃ z ∈ ds.take k, r < z
  small : s.2 = false → ∀ z ∈ ds.take k, z < r
theorem ins_inv {n : Nat} {r : Int} {ds : List Int} (h : OkDone n ds) (hr : r ∉ ds) : ∀ k, k ≤ ds.length → InsInv n r ds k (insTo r ds k)
  | 0, _ => ⟨by simp [insTo], fun z => by simp [insTo], fun h => by simp [insTo] at h, fun _ z hz => by simp at hz⟩
  | k + 1, hk => by
    obtain ⟨z, hz⟩ : ∃ z, ds[k]? = some z := ⟨_, List.getElem?_eq_getElem (by omega)⟩
    have ih := ins_inv h hr k (by omega)
    have hlt : ∀ y ∈ ds.take k, y < z := fun y hy => by
      obtain ⟨j, hj⟩ := List.mem_iff_getElem?.1 hy
      have hjk := (List.getElem?_eq_some_iff.1 hj).1
      rw [List.length_take] at hjk
      rw [List.getElem?_take_of_lt (by omega)] at hj
      exact okDone_lt h (k - j - 1) j y z hj (by rw [show j + (k - j - 1) + 1 = k by omega]; exact hz)
    have hzr : z ≠ r := fun e => hr (e ▸ List.mem_of_getElem? hz)
    have ht : ds.take (k + 1) = ds.take k ++ [z] := by rw [List.take_add_one, hz]; rfl
    rw [insTo_next hz]
    generalize insTo r ds k = s at *
    obtain ⟨m, p⟩ := s
    unfold insStep
    cases p with
    | true =>
      simp only [Bool.not_true, Bool.false_and, Bool.false_eq_true, if_false]
      obtain ⟨y, hy, hry⟩ := ih.big rfl
      refine ⟨?_, fun x => ?_, fun _ => ⟨y, by rw [ht]; exact List.mem_append_left _ hy, hry⟩, fun h => by cases h⟩
      · rw [List.pairwise_append]
        refine ⟨ih.pair, by simp, fun x hx y' hy' => ?_⟩
        rw [List.mem_singleton] at hy'
        subst hy'
        rcases (ih.mem x).1 hx with ⟨_, rfl⟩ | hx
        · have := hlt y hy
          omega
        · exact hlt x hx
      · rw [ht, List.mem_append, List.mem_append, List.mem_singleton]
        have hm := ih.mem x
        simp only at hm
        rw [hm]
        simp only [true_and]
        exact or_assoc
    | false =>
      have hm := ih.mem
      simp only [Bool.false_eq_true, false_and, false_or] at hm
      have hsm := ih.small rfl
      by_cases q : r < z
      · simp only [Bool.not_false, Bool.true_and, decide_eq_true q, if_true]
        refine ⟨?_, fun x => ?_, fun _ => ⟨z, by rw [ht]; simp, q⟩, fun h => by cases h⟩
        · rw [List.append_assoc, List.pairwise_append]
          refine ⟨ih.pair, by simp [q], fun x hx y' hy' => ?_⟩
          have hx := (hm x).1 hx
          have := hsm x hx
          simp at hy'
          rcases hy' with rfl | rfl <;> omega
        · rw [ht]
          simp only [List.mem_append, List.mem_singleton, hm, true_and]
          constructor
          · rintro ((h | h) | h)
            · exact .inr (.inl h)
            · exact .inl h
            · exact .inr (.inr h)
          · rintro (h | h | h)
            · exact .inl (.inr h)
            · exact .inl (.inl h)
            · exact .inr h
      · rw [decide_eq_false q]
        simp only [Bool.not_false, Bool.and_false, Bool.false_eq_true, if_false]
        refine ⟨?_, fun x => ?_, (fun h => by cases h), fun _ x hx => ?_⟩
        · rw [List.pairwise_append]
          refine ⟨ih.pair, by simp, fun x hx y' hy' => ?_⟩
          rw [List.mem_singleton] at hy'
          subst hy'
          exact hlt x ((hm x).1 hx)
        · rw [ht]
          simp only [List.mem_append, List.mem_singleton, hm, Bool.false_eq_true, false_and, false_or]
        · rw [ht, List.mem_append, List.mem_singleton] at hx
          rcases hx with hx | rfl
          · exact hsm x hx
          · omega
theorem ins_ok {n : Nat} {r : Nat} {ds : List Int} (h : OkDone n ds) (hr : doneS ds r = false) (hrn : r < n) : OkDone n (insL (r : Int) ds) ∧ doneS (insL (r : Int) ds) = fun j => decide (j = r) || doneS ds j := by
  have hr' : (r : Int) ∉ ds := of_decide_eq_false hr
  have hi := ins_inv h hr' ds.length (Nat.le_refl _)
  have ht : ds.take ds.length = ds := List.take_length
  have hmem : ∀ z, z ∈ insL (r : Int) ds ↔ z = (r : Int) ∨ z ∈ ds := fun z => by
    unfold insL
    cases hp : (insTo (r : Int) ds ds.length).2 with
    | true =>
      rw [if_pos rfl, hi.mem z, ht, hp]
      simp
    | false =>
      rw [if_neg (by decide), List.mem_append, List.mem_singleton, hi.mem z, ht, hp]
      simp only [Bool.false_eq_true, false_and, false_or]
      exact or_comm
  refine ⟨okDone_of (fun z hz => ?_) ?_, ?_⟩
  · rcases (hmem z).1 hz with rfl | hz
    · omega
    · exact okDone_mem h z hz
  · unfold insL
    cases hp : (insTo (r : Int) ds ds.length).2 with
    | true => rw [if_pos rfl]; exact hi.pair
    | false =>
      rw [if_neg (by decide), List.pairwise_append]
      refine ⟨hi.pair, by simp, fun x hx y hy => ?_⟩
      rw [List.mem_singleton] at hy
      subst hy
      have hx := (hi.mem x).1 hx
      rw [hp, ht] at hx
      simp only [Bool.false_eq_true, false_and, false_or] at hx
      exact hi.small hp x (by rw [ht]; exact hx)
  · funext j
    rw [Bool.eq_iff_iff]
    unfold doneS
    rw [decide_eq_true_iff, hmem]
    simp only [Bool.or_eq_true, decide_eq_true_eq]
    constructor
    · rintro (h | h)
      · exact .inl (by omega)
      · exact .inr h
    · rintro (h | h)
      · exact .inl (by omega)
      · exact .inr h
theorem load_u16 (ad : Addr) (v : Value) (w : World) (h : w.cell? ad = some v) : (Instr.loadAt 49 (.pointer (some ad))).run Try.prog w = .ok v w := by
  simp [Instr.loadAt, Instr.sureAddr, loadVar, go_sem, Try.isAgg49, h]
/-- The chain that Chain returns. -/
structure ChV (s : Sh) (a b : Nat) (ab : Bool) (L : List Int) (e : Int) : Prop where
  yes : ab = true → e = 0 ∧ a < b ∧ ChOk s.ws a b L
  no : ab = false → e = 4 ∧ L = []
theorem chV_of {s : Sh} {a b : Nat} (h : chkS s = 0) (ha : a < s.ws.length) (hb : b < s.ws.length) : chainE s (a : Int) (b : Int) = 0 ∧ befV s (a : Int) (b : Int) = befN s.ws b a ∧ ChV s a b (befN s.ws b a) (chainV s (a : Int) (b : Int)) (chainE2 s (a : Int) (b : Int)) := by
  have he : chainE s (a : Int) (b : Int) = 0 := chainE_ok h (by omega)
  have hbv : befV s (a : Int) (b : Int) = befN s.ws b a := by unfold befV; rw [if_pos he]; rfl
  have hcv : chainV s (a : Int) (b : Int) = chainL s.ws a b := by unfold chainV; rw [if_pos he]; rfl
  refine ⟨he, hbv, ⟨fun q => ?_, fun q => ?_⟩⟩
  · obtain ⟨hab, c, c1, c2⟩ := (bef_ch b b (Nat.le_refl _) hb).1 q
    rcases chainL_cases hab hb with ⟨hn, _⟩ | ⟨c', hl, e⟩
    · exact absurd c2 (hn c c1)
    · have hk := chOk_of hab hb hl.1 hl.2.1
      rw [hcv, e]
      refine ⟨?_, hab, hk⟩
      unfold chainE2
      rw [if_neg, he]
      rw [hcv, e]
      have := hk.len
      omega
  · have hl : chainL s.ws a b = [] := by
      have := chainL_len (a := a) hb
      rw [q] at this
      have := of_decide_eq_false this
      exact List.eq_nil_of_length_eq_zero (by omega)
    rw [hcv, hl]
    refine ⟨?_, rfl⟩
    unfold chainE2
    rw [if_pos ⟨he, by rw [hcv, hl]; rfl⟩]
theorem bef_lt' {W : List Wk} {a b : Nat} (hb : b < W.length) (h : befN W b a = true) : a < b := bef_lt b b (Nat.le_refl _) hb h
theorem bef_tr {W : List Wk} {a b c : Nat} (hc : c < W.length) (h1 : befN W b a = true) (h2 : befN W c b = true) : befN W c a = true := bef_trans c c (Nat.le_refl _) hc h2 h1
theorem rdV_mem {s : Sh} {ds : List Int} {z : Int} (h : z ∈ rdV s ds) : ∃ r : Nat, z = (r : Int) ∧ r < s.ws.length ∧ progE s ds = 0 ∧ progE s (insL (r : Int) ds) = 0 := by
  unfold rdV at h
  by_cases hp : progE s ds = 0
  · rw [if_pos hp] at h
    obtain ⟨i, hi, rfl⟩ := List.mem_map.1 h
    obtain ⟨h1, h2⟩ := List.mem_filter.1 hi
    have h1 := List.mem_range.1 h1
    obtain ⟨c1, c2, c3⟩ := prog_clo hp
    obtain ⟨r1, r2⟩ := ready_pre c3 h1 h2
    obtain ⟨i1, i2⟩ := ins_ok c2 r1 h1
    exact ⟨i, rfl, h1, hp, clo_prog c1 i1 (by rw [i2]; exact clo_step c3 r2)⟩
  · rw [if_neg hp] at h
    cases h
set_option maxRecDepth 100000 in
set_option maxHeartbeats 16000000 in
theorem closes_row (s : Sh) (xa xb xc : Nat) (ds : List Int) (v dv : Value) (w : World) (hv : SV w v s) (_ : (Lit.int .i64 s.pr).wf = true) (hxa : xa < 65536) (hxb : xb < 65536) (hxc : xc < 65536) (hd : IS w dv ds) (_ : ∀ z ∈ ds, -9223372036854775808 ≤ z ∧ z ≤ 9223372036854775807) : Calls Try.prog 8 #[v, .agg #[.int .u16 (xa : Int), .int .u16 (xb : Int), .int .u16 (xc : Int)], dv] w fun e w' => e = .returned (.bool true) ∧ Below w.heap.size w w' := by
  have HV := Lib.hid hv
  have HD := Lib.hid hd
  obtain ⟨u, rfl, hu⟩ := hv
  obtain ⟨ua, uc, rfl, _, _, hU⟩ := id hu
  obtain ⟨sa, sc, rfl, q1, q2, _, hI⟩ := id hd
  have HUU := Lib.hid hU
  have HIS := Lib.hid hI
  have CF := Lib.hid (fun W h => Far_any s (.agg #[.int .i64 s.pr, .slice ua s.ws.length uc]) W h)
  have CK := Lib.hid (fun W h => refCheck4_any s (.agg #[.int .i64 s.pr, .slice ua s.ws.length uc]) W h)
  have CS := Lib.hid (fun W => shown_any W)
  clear hu hU hI hd
  go_enter Try.func8, Try.ntmps8
  go_wp2_with fail
  have h0' := heap_alloc_new w (.cells #[.int .i64 s.pr, .slice ua s.ws.length uc] 24)
  have b0' := below_alloc w (.cells #[.int .i64 s.pr, .slice ua s.ws.length uc] 24)
  have z0' : (w.alloc (.cells #[.int .i64 s.pr, .slice ua s.ws.length uc] 24)).heap.size = w.heap.size + 1 := by simp
  have ha := heap_alloc_new (w.alloc (.cells #[.int .i64 s.pr, .slice ua s.ws.length uc] 24)) (.cells #[.int .u16 (xa : Int), .int .u16 (xb : Int), .int .u16 (xc : Int)] 50)
  have bb := below_alloc (w.alloc (.cells #[.int .i64 s.pr, .slice ua s.ws.length uc] 24)) (.cells #[.int .u16 (xa : Int), .int .u16 (xb : Int), .int .u16 (xc : Int)] 50)
  rw [z0'] at ha
  have h0 := (bb.block w.heap.size (by omega)).trans h0'
  have b0 := bon b0' bb
  have z0 : ((w.alloc (.cells #[.int .i64 s.pr, .slice ua s.ws.length uc] 24)).alloc (.cells #[.int .u16 (xa : Int), .int .u16 (xb : Int), .int .u16 (xc : Int)] 50)).heap.size = w.heap.size + 2 := by simp
  clear h0' b0' z0' bb
  generalize (w.alloc (.cells #[.int .i64 s.pr, .slice ua s.ws.length uc] 24)).alloc (.cells #[.int .u16 (xa : Int), .int .u16 (xb : Int), .int .u16 (xc : Int)] 50) = w0 at *
  refine (CF.out w0 (HV.out.below b0)).mono ?_
  rintro e w1 ⟨rfl, b1⟩
  have H1 := Lib.hid ((b1.block _ (by omega)).trans h0)
  have HA1 := Lib.hid ((b1.block _ (by omega)).trans ha)
  have HB1 := Lib.hid (bon b0 b1)
  have HZ1 := Lib.hid (show w.heap.size + 2 ≤ w1.heap.size by have := b1.size; omega)
  clear h0 ha b0 z0 b1 CF
  by_cases hf : farB s = true
  · rw [hf]
    clear hf
    go_wp2_with fail
    refine (CS.out _).mono ?_
    rintro e w2 ⟨rfl, b2⟩
    have HB2 := Lib.hid (bon HB1.out b2)
    clear b2
    go_wp2_with fail
    go_ret
    exact ⟨rfl, HB2.out⟩
  have hf' : farB s = false := by simpa using hf
  rw [hf']
  clear hf hf'
  by_cases hl : 1000 < ds.length
  · have l1 : (1000 : Int) < (ds.length : Int) := by omega
    clear hl
    go_wp2_with fail
    refine (CS.out _).mono ?_
    rintro e w2 ⟨rfl, b2⟩
    have HB2 := Lib.hid (bon HB1.out b2)
    clear b2
    go_wp2_with fail
    go_ret
    exact ⟨rfl, HB2.out⟩
  have l1 : ¬ (1000 : Int) < (ds.length : Int) := by omega
  have g0 : w1.cell? ⟨w.heap.size, 0, none⟩ = some (.int .i64 s.pr) := cell_of_row w1 _ 0 _ _ _ H1.out
  have g1 : w1.cell? ⟨w.heap.size, 1, none⟩ = some (.slice ua s.ws.length uc) := cell_of_row w1 _ 1 _ _ _ H1.out
  go_wp2_with fail
  refine (CK.out w1 (HV.out.below HB1.out)).mono ?_
  rintro e w2 ⟨rfl, b2⟩
  have H2 := Lib.hid ((b2.block _ (by have := HZ1.out; omega)).trans H1.out)
  have HA2 := Lib.hid ((b2.block _ (by have := HZ1.out; omega)).trans HA1.out)
  have HB2 := Lib.hid (bon HB1.out b2)
  have HZ2 := Lib.hid (Nat.le_trans HZ1.out b2.size)
  clear b2 g0 g1 CK
  by_cases hc : chkS s = 0
  · have HC := Lib.hid hc
    have HSM := Lib.hid (chk_small hc)
    have hw4 : s.ws.length ≤ 400 := HSM.out.2.2.1
    rw [hc]
    clear hc
    have g0 : w2.cell? ⟨w.heap.size, 0, none⟩ = some (.int .i64 s.pr) := cell_of_row w2 _ 0 _ _ _ H2.out
    have g1 : w2.cell? ⟨w.heap.size, 1, none⟩ = some (.slice ua s.ws.length uc) := cell_of_row w2 _ 1 _ _ _ H2.out
    by_cases hn : s.ws.length = 0
    · have hn0 : ((s.ws.length : Int) == 0) = true := by rw [beq_iff_eq]; omega
      clear hn
      go_wp2_with fail
      refine (CS.out _).mono ?_
      rintro e w2 ⟨rfl, b2⟩
      have HB2 := Lib.hid (bon HB2.out b2)
      clear b2
      go_wp2_with fail
      go_ret
      exact ⟨rfl, HB2.out⟩
    have hn0 : ((s.ws.length : Int) == 0) = false := by rw [beq_eq_false_iff_ne]; omega
    have hnz : ¬ (s.ws.length : Int) = 0 := by omega
    have hnl : ¬ s.ws = [] := fun e => hn (by rw [e]; rfl)
    obtain ⟨a, ha⟩ : ∃ a, a = xa % s.ws.length := ⟨_, rfl⟩
    obtain ⟨b, hb⟩ : ∃ b, b = xb % s.ws.length := ⟨_, rfl⟩
    obtain ⟨c, hc⟩ : ∃ c, c = xc % s.ws.length := ⟨_, rfl⟩
    have hal : a < s.ws.length := by rw [ha]; exact Nat.mod_lt _ (by omega)
    have hbl : b < s.ws.length := by rw [hb]; exact Nat.mod_lt _ (by omega)
    have hcl : c < s.ws.length := by rw [hc]; exact Nat.mod_lt _ (by omega)
    have wa : IntKind.i64.wrap (xa : Int) = (xa : Int) := IntWalk.i64_in _ (by omega)
    have wb : IntKind.i64.wrap (xb : Int) = (xb : Int) := IntWalk.i64_in _ (by omega)
    have wc : IntKind.i64.wrap (xc : Int) = (xc : Int) := IntWalk.i64_in _ (by omega)
    have va : ((xa : Int)).tmod (s.ws.length : Int) = (a : Int) := by rw [ha]; rfl
    have vb : ((xb : Int)).tmod (s.ws.length : Int) = (b : Int) := by rw [hb]; rfl
    have vc : ((xc : Int)).tmod (s.ws.length : Int) = (c : Int) := by rw [hc]; rfl
    have ua' : IntKind.i64.wrap (a : Int) = (a : Int) := IntWalk.i64_in _ (by omega)
    have ub' : IntKind.i64.wrap (b : Int) = (b : Int) := IntWalk.i64_in _ (by omega)
    have uc' : IntKind.i64.wrap (c : Int) = (c : Int) := IntWalk.i64_in _ (by omega)
    have y0 : w2.cell? ⟨w.heap.size + 1, 0, none⟩ = some (.int .u16 (xa : Int)) := cell_of_row w2 _ 0 _ _ _ HA2.out
    have y1 : w2.cell? ⟨w.heap.size + 1, 1, none⟩ = some (.int .u16 (xb : Int)) := cell_of_row w2 _ 1 _ _ _ HA2.out
    have y2 : w2.cell? ⟨w.heap.size + 1, 2, none⟩ = some (.int .u16 (xc : Int)) := cell_of_row w2 _ 2 _ _ _ HA2.out
    have hz2 : w.heap.size + 1 < w2.heap.size := by have := HZ2.out; omega
    clear ha hb hc hn
    go_wp2_with fail
    refine wp_region_class (fun w' => Below w2.heap.size w2 w') 17 (by kernel_rfl) (by kernel_rfl) (Below.refl _ w2).drew ?_
    simp only [List.take_succ_cons, List.take_zero, List.drop_succ_cons, List.drop_zero]
    refine quiet_still rfl (.pointer (some ⟨w.heap.size + 1, 0, none⟩)) (fun w _ => by go_simp) ?_
    simp only [Act.put, List.setIfInBounds_toArray, List.set_cons_zero, List.set_cons_succ]
    refine quiet_load1 rfl _ _ rfl ⟨w.heap.size + 1, 0, none⟩ rfl (.int .u16 (xa : Int)) (load_u16 _ _) (fun _ h => (h.cell (p := ⟨w.heap.size + 1, 0, none⟩) hz2).trans y0) ?_
    simp only [Act.put, List.setIfInBounds_toArray, List.set_cons_zero, List.set_cons_succ]
    refine quiet_still rfl (.int .i64 (xa : Int)) (fun w _ => by go_simp) ?_
    simp only [Act.put, List.setIfInBounds_toArray, List.set_cons_zero, List.set_cons_succ]
    refine quiet_moveV rfl _ rfl (.int .i64 (s.ws.length : Int)) rfl ?_
    simp only [Act.put, List.setIfInBounds_toArray, List.set_cons_zero, List.set_cons_succ]
    refine quiet_still rfl (.int .i64 (a : Int)) (fun w _ => by go_simp; first | done | exact hnl) ?_
    simp only [Act.put, List.setIfInBounds_toArray, List.set_cons_zero, List.set_cons_succ]
    refine quiet_still rfl (.pointer (some ⟨w.heap.size + 1, 1, none⟩)) (fun w _ => by go_simp) ?_
    simp only [Act.put, List.setIfInBounds_toArray, List.set_cons_zero, List.set_cons_succ]
    refine quiet_load1 rfl _ _ rfl ⟨w.heap.size + 1, 1, none⟩ rfl (.int .u16 (xb : Int)) (load_u16 _ _) (fun _ h => (h.cell (p := ⟨w.heap.size + 1, 1, none⟩) hz2).trans y1) ?_
    simp only [Act.put, List.setIfInBounds_toArray, List.set_cons_zero, List.set_cons_succ]
    refine quiet_still rfl (.int .i64 (xb : Int)) (fun w _ => by go_simp) ?_
    simp only [Act.put, List.setIfInBounds_toArray, List.set_cons_zero, List.set_cons_succ]
    refine quiet_moveV rfl _ rfl (.int .i64 (s.ws.length : Int)) rfl ?_
    simp only [Act.put, List.setIfInBounds_toArray, List.set_cons_zero, List.set_cons_succ]
    refine quiet_still rfl (.int .i64 (b : Int)) (fun w _ => by go_simp; first | done | exact hnl) ?_
    simp only [Act.put, List.setIfInBounds_toArray, List.set_cons_zero, List.set_cons_succ]
    refine quiet_still rfl (.pointer (some ⟨w.heap.size + 1, 2, none⟩)) (fun w _ => by go_simp) ?_
    simp only [Act.put, List.setIfInBounds_toArray, List.set_cons_zero, List.set_cons_succ]
    refine quiet_load1 rfl _ _ rfl ⟨w.heap.size + 1, 2, none⟩ rfl (.int .u16 (xc : Int)) (load_u16 _ _) (fun _ h => (h.cell (p := ⟨w.heap.size + 1, 2, none⟩) hz2).trans y2) ?_
    simp only [Act.put, List.setIfInBounds_toArray, List.set_cons_zero, List.set_cons_succ]
    refine quiet_still rfl (.int .i64 (xc : Int)) (fun w _ => by go_simp) ?_
    simp only [Act.put, List.setIfInBounds_toArray, List.set_cons_zero, List.set_cons_succ]
    refine quiet_moveV rfl _ rfl (.int .i64 (s.ws.length : Int)) rfl ?_
    simp only [Act.put, List.setIfInBounds_toArray, List.set_cons_zero, List.set_cons_succ]
    refine quiet_still rfl (.int .i64 (c : Int)) (fun w _ => by go_simp; first | done | exact hnl) ?_
    simp only [Act.put, List.setIfInBounds_toArray, List.set_cons_zero, List.set_cons_succ]
    refine quiet_still rfl (.int .i64 (a : Int)) (fun w _ => by go_simp) ?_
    simp only [Act.put, List.setIfInBounds_toArray, List.set_cons_zero, List.set_cons_succ]
    refine quiet_still rfl (.int .i64 (b : Int)) (fun w _ => by go_simp) ?_
    simp only [Act.put, List.setIfInBounds_toArray, List.set_cons_zero, List.set_cons_succ]
    unfold wpQuiet
    intro wq hb
    clear g0 g1 y0 y1 y2 hz2 va vb vc wa wb wc ua' ub' uc' hnz hn0 hnl
    have HB3 := Lib.hid (HB2.out.trans (hb.mono (by have := HZ2.out; omega)))
    have H3 := Lib.hid ((hb.block _ (by have := HZ2.out; omega)).trans H2.out)
    have HZ3 := Lib.hid (Nat.le_trans HZ2.out hb.size)
    clear hb
    obtain ⟨v1, v2, v3⟩ := chV_of HC.out hal hbl
    obtain ⟨v4, v5, _⟩ := chV_of HC.out hbl hcl
    obtain ⟨v6, v7, _⟩ := chV_of HC.out hal hcl
    have C1 := Lib.hid (fun W h => Before_v s (.agg #[.int .i64 s.pr, .slice ua s.ws.length uc]) (a : Int) (b : Int) W h)
    have C2 := Lib.hid (fun W h => Before_v s (.agg #[.int .i64 s.pr, .slice ua s.ws.length uc]) (b : Int) (c : Int) W h)
    have C3 := Lib.hid (fun W h => Before_v s (.agg #[.int .i64 s.pr, .slice ua s.ws.length uc]) (a : Int) (c : Int) W h)
    have C4 := Lib.hid (fun W h => Chain_any s (.agg #[.int .i64 s.pr, .slice ua s.ws.length uc]) (a : Int) (b : Int) W h)
    rw [v1, v2] at C1
    rw [v4, v5] at C2
    rw [v6, v7] at C3
    have HCV := Lib.hid v3
    have HLL := Lib.hid (chainV_len s (a : Int) (b : Int))
    have HTR := Lib.hid (show befN s.ws b a = true → befN s.ws c b = true → befN s.ws c a = true from fun h1 h2 => bef_tr hcl h1 h2)
    have HLT := Lib.hid (show befN s.ws b a = true → a < b from fun h => bef_lt' hbl h)
    clear v1 v2 v3 v4 v5 v6 v7
    generalize befN s.ws b a = ab at *
    generalize befN s.ws c b = bc at *
    generalize befN s.ws c a = ac at *
    generalize chainV s (a : Int) (b : Int) = L at *
    generalize chainE2 s (a : Int) (b : Int) = ce at *
    have g0 : wq.cell? ⟨w.heap.size, 0, none⟩ = some (.int .i64 s.pr) := cell_of_row wq _ 0 _ _ _ H3.out
    have g1 : wq.cell? ⟨w.heap.size, 1, none⟩ = some (.slice ua s.ws.length uc) := cell_of_row wq _ 1 _ _ _ H3.out
    go_wp2_with fail
    refine (C1.out wq (HV.out.below HB3.out)).mono ?_
    rintro e w4 ⟨rfl, b2⟩
    have H4 := Lib.hid ((b2.block _ (by have := HZ3.out; omega)).trans H3.out)
    have HB4 := Lib.hid (bon HB3.out b2)
    have HZ4 := Lib.hid (Nat.le_trans HZ3.out b2.size)
    clear b2 g0 g1
    have g0 : w4.cell? ⟨w.heap.size, 0, none⟩ = some (.int .i64 s.pr) := cell_of_row w4 _ 0 _ _ _ H4.out
    have g1 : w4.cell? ⟨w.heap.size, 1, none⟩ = some (.slice ua s.ws.length uc) := cell_of_row w4 _ 1 _ _ _ H4.out
    go_wp2_with fail
    refine (C2.out w4 (HV.out.below HB4.out)).mono ?_
    rintro e w5 ⟨rfl, b2⟩
    have H5 := Lib.hid ((b2.block _ (by have := HZ4.out; omega)).trans H4.out)
    have HB5 := Lib.hid (bon HB4.out b2)
    have HZ5 := Lib.hid (Nat.le_trans HZ4.out b2.size)
    clear b2 g0 g1
    have g0 : w5.cell? ⟨w.heap.size, 0, none⟩ = some (.int .i64 s.pr) := cell_of_row w5 _ 0 _ _ _ H5.out
    have g1 : w5.cell? ⟨w.heap.size, 1, none⟩ = some (.slice ua s.ws.length uc) := cell_of_row w5 _ 1 _ _ _ H5.out
    go_wp2_with fail
    refine (C3.out w5 (HV.out.below HB5.out)).mono ?_
    rintro e w6 ⟨rfl, b2⟩
    have H6 := Lib.hid ((b2.block _ (by have := HZ5.out; omega)).trans H5.out)
    have HB6 := Lib.hid (bon HB5.out b2)
    have HZ6 := Lib.hid (Nat.le_trans HZ5.out b2.size)
    clear b2 g0 g1 C1 C2 C3
    go_upto_region 8 with fail
    go_cut [109] from 82 to 108 (fun t wc => t = .bool false ∧ wc = w6)
    case first =>
      cases ab <;> cases bc <;> cases ac
      all_goals
        first
        | (exfalso; exact absurd (HTR.out rfl rfl) (by decide))
        | (try have hlt := HLT.out rfl
           try have hlt2 : ¬ (b : Int) ≤ (a : Int) := by omega
           go_wp2_with fail
           go_meet
           exact ⟨rfl, rfl⟩)
    case rest =>
      obtain ⟨rfl, hwc⟩ := hcut
      rw [hwc]
      clear hwc
      have g0 : w6.cell? ⟨w.heap.size, 0, none⟩ = some (.int .i64 s.pr) := cell_of_row w6 _ 0 _ _ _ H6.out
      have g1 : w6.cell? ⟨w.heap.size, 1, none⟩ = some (.slice ua s.ws.length uc) := cell_of_row w6 _ 1 _ _ _ H6.out
      go_wp2_with fail
      refine (C4.out w6 (HV.out.below HB6.out)).mono ?_
      rintro e w7 ⟨u7, rfl, hi7, b2⟩
      obtain ⟨ra, rc, rfl, _, _, _, hI7⟩ := hi7
      have HLI := Lib.hid hI7
      have H7 := Lib.hid ((b2.block _ (by have := HZ6.out; omega)).trans H6.out)
      have HB7 := Lib.hid (bon HB6.out b2)
      have HZ7 := Lib.hid (Nat.le_trans HZ6.out b2.size)
      clear b2 g0 g1 hI7 C4
      go_upto_region 11 with fail
      go_cut [129] from 117 to 128 (fun t wc => t = .bool false ∧ wc = w7)
      case first =>
        cases ab
        · obtain ⟨e1, e2⟩ := HCV.out.no rfl
          subst e1 e2
          go_wp2_with fail
          go_meet
          exact ⟨rfl, rfl⟩
        · obtain ⟨e1, _, _⟩ := HCV.out.yes rfl
          subst e1
          go_wp2_with fail
          go_meet
          exact ⟨rfl, rfl⟩
      case rest =>
        obtain ⟨rfl, hwc⟩ := hcut
        rw [hwc]
        clear hwc
        go_wp2_with fail
        go_loopw [18] (fun x wr => ∃ k : Nat, k ≤ L.length ∧ x = .int .i64 (k : Int) ∧ Below w7.heap.size w7 wr) (fun x _ => L.length - (intOf x).toNat)
        case atStart => exact ⟨0, Nat.zero_le _, rfl, Below.refl _ _⟩
        case round =>
          obtain ⟨k, hk, rfl, hbr⟩ := hrel
          rename World => wr
          have HBR := Lib.hid hbr
          clear hbr
          by_cases hkl : k < L.length
          · have k1 : (k : Int) < (L.length : Int) := by omega
            have k0 : (0 : Int) ≤ (k : Int) := by omega
            have HCO := Lib.hid (show ChOk s.ws a b L by
              have hcv := HCV.out
              cases ab
              · have := (hcv.no rfl).2
                rw [this] at hkl
                simp at hkl
              · exact (hcv.yes rfl).2.2)
            obtain ⟨z, hz⟩ : ∃ z, L[k]? = some z := ⟨_, List.getElem?_eq_getElem hkl⟩
            have hzr := HCO.out.rng k z hz
            obtain ⟨i, rfl⟩ : ∃ i : Nat, z = (i : Int) := ⟨z.toNat, by omega⟩
            obtain ⟨rb, ro, rfl, hrb, hcz⟩ := HLI.out k _ hz
            have hrbx : rb < wr.heap.size := by have := HBR.out.size; omega
            have cz : wr.cell? ⟨rb, ro + k, none⟩ = some (.int .i64 (i : Int)) := (HBR.out.cell (p := ⟨rb, ro + k, none⟩) hrb).trans hcz
            have i0 : ¬ (i : Int) < 0 := by omega
            have i1 : ¬ (s.ws.length : Int) ≤ (i : Int) := by omega
            have hll : L.length ≤ 1000 := HLL.out
            by_cases hk0 : k = 0
            · have kz : ¬ (0 : Int) < (k : Int) := by omega
              clear hz hcz hzr hk0
              go_wp2_with fail
              refine wp_region_class (fun w' => Below wr.heap.size wr w') 49 (by kernel_rfl) (by kernel_rfl) (Below.refl _ wr).drew ?_
              simp only [List.take_succ_cons, List.take_zero, List.drop_succ_cons, List.drop_zero]
              refine quiet_moveV rfl _ rfl (.slice (some ⟨rb, ro, none⟩) L.length rc) rfl ?_
              simp only [Act.put, List.setIfInBounds_toArray, List.set_cons_zero, List.set_cons_succ]
              refine quiet_moveV rfl _ rfl (.int .i64 (k : Int)) rfl ?_
              simp only [Act.put, List.setIfInBounds_toArray, List.set_cons_zero, List.set_cons_succ]
              refine quiet_still rfl (.pointer (some ⟨rb, ro + k, none⟩)) (fun w _ => by go_simp) ?_
              simp only [Act.put, List.setIfInBounds_toArray, List.set_cons_zero, List.set_cons_succ]
              refine quiet_load1 rfl _ _ rfl ⟨rb, ro + k, none⟩ rfl (.int .i64 (i : Int)) (load_int _ _) (fun _ h => (h.cell (p := ⟨rb, ro + k, none⟩) hrbx).trans cz) ?_
              simp only [Act.put, List.setIfInBounds_toArray, List.set_cons_zero, List.set_cons_succ]
              refine quiet_still rfl (.bool false) (fun w _ => by go_simp) ?_
              simp only [Act.put, List.setIfInBounds_toArray, List.set_cons_zero, List.set_cons_succ]
              refine quiet_moveV rfl _ rfl (.bool false) rfl ?_
              simp only [Act.put, List.setIfInBounds_toArray, List.set_cons_zero, List.set_cons_succ]
              refine quietW_moveV (by kernel_rfl) _ rfl (.slice (some ⟨rb, ro, none⟩) L.length rc) rfl ?_
              simp only [Act.put, List.setIfInBounds_toArray, List.set_cons_zero, List.set_cons_succ]
              refine quietW_moveV (by kernel_rfl) _ rfl (.int .i64 (k : Int)) rfl ?_
              simp only [Act.put, List.setIfInBounds_toArray, List.set_cons_zero, List.set_cons_succ]
              refine quietW_still (by kernel_rfl) (.pointer (some ⟨rb, ro + k, none⟩)) (fun w _ => by go_simp) ?_
              simp only [Act.put, List.setIfInBounds_toArray, List.set_cons_zero, List.set_cons_succ]
              refine quietW_load1 (by kernel_rfl) _ _ rfl ⟨rb, ro + k, none⟩ rfl (.int .i64 (i : Int)) (load_int _ _) (fun _ h => (h.cell (p := ⟨rb, ro + k, none⟩) hrbx).trans cz) ?_
              simp only [Act.put, List.setIfInBounds_toArray, List.set_cons_zero, List.set_cons_succ]
              refine quietW_moveV (by kernel_rfl) _ rfl (.int .i64 (s.ws.length : Int)) rfl ?_
              simp only [Act.put, List.setIfInBounds_toArray, List.set_cons_zero, List.set_cons_succ]
              refine quietW_still (by kernel_rfl) (.bool false) (fun w _ => by go_simp; first | done | omega) ?_
              simp only [Act.put, List.setIfInBounds_toArray, List.set_cons_zero, List.set_cons_succ]
              refine quiet_still rfl (.bool false) (fun w _ => by go_simp) ?_
              simp only [Act.put, List.setIfInBounds_toArray, List.set_cons_zero, List.set_cons_succ]
              refine quiet_moveV rfl _ rfl (.bool false) rfl ?_
              simp only [Act.put, List.setIfInBounds_toArray, List.set_cons_zero, List.set_cons_succ]
              refine quietW_moveV (by kernel_rfl) _ rfl (.int .i64 (k : Int)) rfl ?_
              simp only [Act.put, List.setIfInBounds_toArray, List.set_cons_zero, List.set_cons_succ]
              refine quietW_still (by kernel_rfl) (.bool false) (fun w _ => by go_simp; first | done | omega) ?_
              simp only [Act.put, List.setIfInBounds_toArray, List.set_cons_zero, List.set_cons_succ]
              refine quietW_moveV (by kernel_rfl) _ rfl (.bool false) rfl ?_
              simp only [Act.put, List.setIfInBounds_toArray, List.set_cons_zero, List.set_cons_succ]
              refine quiet_skip (by kernel_rfl) ?_
              simp only [Act.put, List.setIfInBounds_toArray, List.set_cons_zero, List.set_cons_succ]
              refine quiet_skip (by kernel_rfl) ?_
              simp only [Act.put, List.setIfInBounds_toArray, List.set_cons_zero, List.set_cons_succ]
              refine quiet_skip (by kernel_rfl) ?_
              simp only [Act.put, List.setIfInBounds_toArray, List.set_cons_zero, List.set_cons_succ]
              refine quiet_skip (by kernel_rfl) ?_
              simp only [Act.put, List.setIfInBounds_toArray, List.set_cons_zero, List.set_cons_succ]
              refine quiet_skip (by kernel_rfl) ?_
              simp only [Act.put, List.setIfInBounds_toArray, List.set_cons_zero, List.set_cons_succ]
              refine quiet_skip (by kernel_rfl) ?_
              simp only [Act.put, List.setIfInBounds_toArray, List.set_cons_zero, List.set_cons_succ]
              refine quiet_skip (by kernel_rfl) ?_
              simp only [Act.put, List.setIfInBounds_toArray, List.set_cons_zero, List.set_cons_succ]
              refine quiet_skip (by kernel_rfl) ?_
              simp only [Act.put, List.setIfInBounds_toArray, List.set_cons_zero, List.set_cons_succ]
              refine quiet_skip (by kernel_rfl) ?_
              simp only [Act.put, List.setIfInBounds_toArray, List.set_cons_zero, List.set_cons_succ]
              refine quiet_skip (by kernel_rfl) ?_
              simp only [Act.put, List.setIfInBounds_toArray, List.set_cons_zero, List.set_cons_succ]
              refine quiet_skip (by kernel_rfl) ?_
              simp only [Act.put, List.setIfInBounds_toArray, List.set_cons_zero, List.set_cons_succ]
              refine quiet_skip (by kernel_rfl) ?_
              simp only [Act.put, List.setIfInBounds_toArray, List.set_cons_zero, List.set_cons_succ]
              refine quiet_skip (by kernel_rfl) ?_
              simp only [Act.put, List.setIfInBounds_toArray, List.set_cons_zero, List.set_cons_succ]
              refine quiet_skip (by kernel_rfl) ?_
              simp only [Act.put, List.setIfInBounds_toArray, List.set_cons_zero, List.set_cons_succ]
              refine quiet_skip (by kernel_rfl) ?_
              simp only [Act.put, List.setIfInBounds_toArray, List.set_cons_zero, List.set_cons_succ]
              refine quiet_skip (by kernel_rfl) ?_
              simp only [Act.put, List.setIfInBounds_toArray, List.set_cons_zero, List.set_cons_succ]
              refine quiet_skip (by kernel_rfl) ?_
              simp only [Act.put, List.setIfInBounds_toArray, List.set_cons_zero, List.set_cons_succ]
              refine quiet_skip (by kernel_rfl) ?_
              simp only [Act.put, List.setIfInBounds_toArray, List.set_cons_zero, List.set_cons_succ]
              refine quiet_skip (by kernel_rfl) ?_
              simp only [Act.put, List.setIfInBounds_toArray, List.set_cons_zero, List.set_cons_succ]
              refine quiet_skip (by kernel_rfl) ?_
              simp only [Act.put, List.setIfInBounds_toArray, List.set_cons_zero, List.set_cons_succ]
              refine quiet_skip (by kernel_rfl) ?_
              simp only [Act.put, List.setIfInBounds_toArray, List.set_cons_zero, List.set_cons_succ]
              refine quiet_skip (by kernel_rfl) ?_
              simp only [Act.put, List.setIfInBounds_toArray, List.set_cons_zero, List.set_cons_succ]
              refine quiet_skip (by kernel_rfl) ?_
              simp only [Act.put, List.setIfInBounds_toArray, List.set_cons_zero, List.set_cons_succ]
              refine quiet_skip (by kernel_rfl) ?_
              simp only [Act.put, List.setIfInBounds_toArray, List.set_cons_zero, List.set_cons_succ]
              refine quiet_skip (by kernel_rfl) ?_
              simp only [Act.put, List.setIfInBounds_toArray, List.set_cons_zero, List.set_cons_succ]
              refine quiet_skip (by kernel_rfl) ?_
              simp only [Act.put, List.setIfInBounds_toArray, List.set_cons_zero, List.set_cons_succ]
              refine quiet_skip (by kernel_rfl) ?_
              simp only [Act.put, List.setIfInBounds_toArray, List.set_cons_zero, List.set_cons_succ]
              refine quiet_skip (by kernel_rfl) ?_
              simp only [Act.put, List.setIfInBounds_toArray, List.set_cons_zero, List.set_cons_succ]
              refine quiet_skip (by kernel_rfl) ?_
              simp only [Act.put, List.setIfInBounds_toArray, List.set_cons_zero, List.set_cons_succ]
              refine quiet_skip (by kernel_rfl) ?_
              simp only [Act.put, List.setIfInBounds_toArray, List.set_cons_zero, List.set_cons_succ]
              refine quiet_skip (by kernel_rfl) ?_
              simp only [Act.put, List.setIfInBounds_toArray, List.set_cons_zero, List.set_cons_succ]
              refine quietW_still (by kernel_rfl) (.bool false) (fun w _ => by go_simp) ?_
              simp only [Act.put, List.setIfInBounds_toArray, List.set_cons_zero, List.set_cons_succ]
              unfold wpQuiet
              intro wq2 hb
              have HBQ := Lib.hid (HBR.out.trans (hb.mono HBR.out.size))
              clear hb cz kz
              go_wp2_with fail
              go_roundw
              case rel => exact ⟨k + 1, hkl, by go_num, HBQ.out⟩
              case measure => (simp [intOf] <;> omega)
            · have kz : (0 : Int) < (k : Int) := by omega
              obtain ⟨m, hm⟩ : ∃ m, k = m + 1 := ⟨k - 1, by omega⟩
              have hkm : (k : Int) - 1 = (m : Int) := by omega
              have hwm : IntKind.i64.wrap (m : Int) = (m : Int) := IntWalk.i64_in _ (by omega)
              have m0 : (0 : Int) ≤ (m : Int) := by omega
              have m1 : (m : Int) < (L.length : Int) := by omega
              obtain ⟨z2, hz2⟩ : ∃ z2, L[m]? = some z2 := ⟨_, List.getElem?_eq_getElem (by omega)⟩
              have hzr2 := HCO.out.rng m z2 hz2
              obtain ⟨j, rfl⟩ : ∃ i : Nat, z2 = (i : Int) := ⟨z2.toNat, by omega⟩
              obtain ⟨rb', ro', e', _, hcz2⟩ := HLI.out m _ hz2
              cases e'
              have cz2 : wr.cell? ⟨rb, ro + m, none⟩ = some (.int .i64 (j : Int)) := (HBR.out.cell (p := ⟨rb, ro + m, none⟩) hrb).trans hcz2
              obtain ⟨hji, htc⟩ := HCO.out.step m j i hz2 (by rw [← hm]; exact hz)
              have hji' : ¬ (i : Int) ≤ (j : Int) := by omega
              obtain ⟨y1, hy1⟩ : ∃ y1, s.ws[i]? = some y1 := ⟨_, List.getElem?_eq_getElem (by omega)⟩
              obtain ⟨y2, hy2⟩ : ∃ y2, s.ws[j]? = some y2 := ⟨_, List.getElem?_eq_getElem (by omega)⟩
              have hp1 := HSM.out.2.2.2 y1 (List.mem_of_getElem? hy1)
              have hp2 := HSM.out.2.2.2 y2 (List.mem_of_getElem? hy2)
              have CT := Lib.hid (fun W => refTouch_any y2 y1 W hp2 hp1)
              rw [htc y2 y1 hy2 hy1] at CT
              have hwx : Below w.heap.size w wr := HB7.out.trans (HBR.out.mono (by have := HZ7.out; omega))
              obtain ⟨wb, wo, rfl, hwb, hr1, _⟩ := HUU.out i y1 hy1
              obtain ⟨wb', wo', e', _, hr2, _⟩ := HUU.out j y2 hy2
              cases e'
              have RGy1 := Lib.hid (range_below3 hr1 hwb hwx)
              have RGy2 := Lib.hid (range_below3 hr2 hwb hwx)
              have hzx : w.heap.size < wr.heap.size := by have := HBR.out.size; have := HZ7.out; omega
              have hwbx : wb < wr.heap.size := by omega
              have hx0 := (HBR.out.block _ (by have := HZ7.out; omega)).trans H7.out
              have g1 : wr.cell? ⟨w.heap.size, 1, none⟩ = some (.slice (some ⟨wb, wo, none⟩) s.ws.length uc) := cell_of_row wr _ 1 _ _ _ hx0
              have n1 : (i : Int) < (s.ws.length : Int) := by omega
              have n2 : (j : Int) < (s.ws.length : Int) := by omega
              have n10 : (0 : Int) ≤ (i : Int) := by omega
              have n20 : (0 : Int) ≤ (j : Int) := by omega
              clear hz hcz hzr hk0 hz2 hzr2 hcz2 hy1 hy2 hp1 hp2 htc hr1 hr2 hx0 hwx hji hm
              go_wp2_with fail
              refine wp_region_class (fun w' => Below wr.heap.size wr w') 49 (by kernel_rfl) (by kernel_rfl) (Below.refl _ wr).drew ?_
              simp only [List.take_succ_cons, List.take_zero, List.drop_succ_cons, List.drop_zero]
              refine quiet_moveV rfl _ rfl (.slice (some ⟨rb, ro, none⟩) L.length rc) rfl ?_
              simp only [Act.put, List.setIfInBounds_toArray, List.set_cons_zero, List.set_cons_succ]
              refine quiet_moveV rfl _ rfl (.int .i64 (k : Int)) rfl ?_
              simp only [Act.put, List.setIfInBounds_toArray, List.set_cons_zero, List.set_cons_succ]
              refine quiet_still rfl (.pointer (some ⟨rb, ro + k, none⟩)) (fun w _ => by go_simp) ?_
              simp only [Act.put, List.setIfInBounds_toArray, List.set_cons_zero, List.set_cons_succ]
              refine quiet_load1 rfl _ _ rfl ⟨rb, ro + k, none⟩ rfl (.int .i64 (i : Int)) (load_int _ _) (fun _ h => (h.cell (p := ⟨rb, ro + k, none⟩) hrbx).trans cz) ?_
              simp only [Act.put, List.setIfInBounds_toArray, List.set_cons_zero, List.set_cons_succ]
              refine quiet_still rfl (.bool false) (fun w _ => by go_simp) ?_
              simp only [Act.put, List.setIfInBounds_toArray, List.set_cons_zero, List.set_cons_succ]
              refine quiet_moveV rfl _ rfl (.bool false) rfl ?_
              simp only [Act.put, List.setIfInBounds_toArray, List.set_cons_zero, List.set_cons_succ]
              refine quietW_moveV (by kernel_rfl) _ rfl (.slice (some ⟨rb, ro, none⟩) L.length rc) rfl ?_
              simp only [Act.put, List.setIfInBounds_toArray, List.set_cons_zero, List.set_cons_succ]
              refine quietW_moveV (by kernel_rfl) _ rfl (.int .i64 (k : Int)) rfl ?_
              simp only [Act.put, List.setIfInBounds_toArray, List.set_cons_zero, List.set_cons_succ]
              refine quietW_still (by kernel_rfl) (.pointer (some ⟨rb, ro + k, none⟩)) (fun w _ => by go_simp) ?_
              simp only [Act.put, List.setIfInBounds_toArray, List.set_cons_zero, List.set_cons_succ]
              refine quietW_load1 (by kernel_rfl) _ _ rfl ⟨rb, ro + k, none⟩ rfl (.int .i64 (i : Int)) (load_int _ _) (fun _ h => (h.cell (p := ⟨rb, ro + k, none⟩) hrbx).trans cz) ?_
              simp only [Act.put, List.setIfInBounds_toArray, List.set_cons_zero, List.set_cons_succ]
              refine quietW_moveV (by kernel_rfl) _ rfl (.int .i64 (s.ws.length : Int)) rfl ?_
              simp only [Act.put, List.setIfInBounds_toArray, List.set_cons_zero, List.set_cons_succ]
              refine quietW_still (by kernel_rfl) (.bool false) (fun w _ => by go_simp; first | done | omega) ?_
              simp only [Act.put, List.setIfInBounds_toArray, List.set_cons_zero, List.set_cons_succ]
              refine quiet_still rfl (.bool false) (fun w _ => by go_simp) ?_
              simp only [Act.put, List.setIfInBounds_toArray, List.set_cons_zero, List.set_cons_succ]
              refine quiet_moveV rfl _ rfl (.bool false) rfl ?_
              simp only [Act.put, List.setIfInBounds_toArray, List.set_cons_zero, List.set_cons_succ]
              refine quietW_moveV (by kernel_rfl) _ rfl (.int .i64 (k : Int)) rfl ?_
              simp only [Act.put, List.setIfInBounds_toArray, List.set_cons_zero, List.set_cons_succ]
              refine quietW_still (by kernel_rfl) (.bool true) (fun w _ => by go_simp; first | done | omega) ?_
              simp only [Act.put, List.setIfInBounds_toArray, List.set_cons_zero, List.set_cons_succ]
              refine quietW_moveV (by kernel_rfl) _ rfl (.bool true) rfl ?_
              simp only [Act.put, List.setIfInBounds_toArray, List.set_cons_zero, List.set_cons_succ]
              refine quietW_moveV (by kernel_rfl) _ rfl (.slice (some ⟨rb, ro, none⟩) L.length rc) rfl ?_
              simp only [Act.put, List.setIfInBounds_toArray, List.set_cons_zero, List.set_cons_succ]
              refine quietW_moveV (by kernel_rfl) _ rfl (.int .i64 (k : Int)) rfl ?_
              simp only [Act.put, List.setIfInBounds_toArray, List.set_cons_zero, List.set_cons_succ]
              refine quietW_still (by kernel_rfl) (.int .i64 (m : Int)) (fun w _ => by go_simp; first | done | exact hkm | rw [hkm]) ?_
              simp only [Act.put, List.setIfInBounds_toArray, List.set_cons_zero, List.set_cons_succ]
              refine quietW_still (by kernel_rfl) (.pointer (some ⟨rb, ro + m, none⟩)) (fun w _ => by go_simp) ?_
              simp only [Act.put, List.setIfInBounds_toArray, List.set_cons_zero, List.set_cons_succ]
              refine quietW_load1 (by kernel_rfl) _ _ rfl ⟨rb, ro + m, none⟩ rfl (.int .i64 (j : Int)) (load_int _ _) (fun _ h => (h.cell (p := ⟨rb, ro + m, none⟩) hrbx).trans cz2) ?_
              simp only [Act.put, List.setIfInBounds_toArray, List.set_cons_zero, List.set_cons_succ]
              refine quietW_moveV (by kernel_rfl) _ rfl (.slice (some ⟨rb, ro, none⟩) L.length rc) rfl ?_
              simp only [Act.put, List.setIfInBounds_toArray, List.set_cons_zero, List.set_cons_succ]
              refine quietW_moveV (by kernel_rfl) _ rfl (.int .i64 (k : Int)) rfl ?_
              simp only [Act.put, List.setIfInBounds_toArray, List.set_cons_zero, List.set_cons_succ]
              refine quietW_still (by kernel_rfl) (.pointer (some ⟨rb, ro + k, none⟩)) (fun w _ => by go_simp) ?_
              simp only [Act.put, List.setIfInBounds_toArray, List.set_cons_zero, List.set_cons_succ]
              refine quietW_load1 (by kernel_rfl) _ _ rfl ⟨rb, ro + k, none⟩ rfl (.int .i64 (i : Int)) (load_int _ _) (fun _ h => (h.cell (p := ⟨rb, ro + k, none⟩) hrbx).trans cz) ?_
              simp only [Act.put, List.setIfInBounds_toArray, List.set_cons_zero, List.set_cons_succ]
              refine quietW_still (by kernel_rfl) (.bool false) (fun w _ => by go_simp; first | done | omega) ?_
              simp only [Act.put, List.setIfInBounds_toArray, List.set_cons_zero, List.set_cons_succ]
              refine quietW_moveV (by kernel_rfl) _ rfl (.bool false) rfl ?_
              simp only [Act.put, List.setIfInBounds_toArray, List.set_cons_zero, List.set_cons_succ]
              refine quietW_still (by kernel_rfl) (.pointer (some ⟨w.heap.size, 1, none⟩)) (fun w _ => by go_simp) ?_
              simp only [Act.put, List.setIfInBounds_toArray, List.set_cons_zero, List.set_cons_succ]
              refine quietW_load1 (by kernel_rfl) _ _ rfl ⟨w.heap.size, 1, none⟩ rfl (.slice (some ⟨wb, wo, none⟩) s.ws.length uc) (load_ws _ _) (fun _ h => (h.cell (p := ⟨w.heap.size, 1, none⟩) hzx).trans g1) ?_
              simp only [Act.put, List.setIfInBounds_toArray, List.set_cons_zero, List.set_cons_succ]
              refine quietW_moveV (by kernel_rfl) _ rfl (.slice (some ⟨rb, ro, none⟩) L.length rc) rfl ?_
              simp only [Act.put, List.setIfInBounds_toArray, List.set_cons_zero, List.set_cons_succ]
              refine quietW_moveV (by kernel_rfl) _ rfl (.int .i64 (k : Int)) rfl ?_
              simp only [Act.put, List.setIfInBounds_toArray, List.set_cons_zero, List.set_cons_succ]
              refine quietW_still (by kernel_rfl) (.int .i64 (m : Int)) (fun w _ => by go_simp; first | done | exact hkm | rw [hkm]) ?_
              simp only [Act.put, List.setIfInBounds_toArray, List.set_cons_zero, List.set_cons_succ]
              refine quietW_still (by kernel_rfl) (.pointer (some ⟨rb, ro + m, none⟩)) (fun w _ => by go_simp) ?_
              simp only [Act.put, List.setIfInBounds_toArray, List.set_cons_zero, List.set_cons_succ]
              refine quietW_load1 (by kernel_rfl) _ _ rfl ⟨rb, ro + m, none⟩ rfl (.int .i64 (j : Int)) (load_int _ _) (fun _ h => (h.cell (p := ⟨rb, ro + m, none⟩) hrbx).trans cz2) ?_
              simp only [Act.put, List.setIfInBounds_toArray, List.set_cons_zero, List.set_cons_succ]
              refine quietW_still (by kernel_rfl) (.pointer (some ⟨wb, wo + j * 3, none⟩)) (fun w _ => by go_simp) ?_
              simp only [Act.put, List.setIfInBounds_toArray, List.set_cons_zero, List.set_cons_succ]
              refine quietW_load_mid (by kernel_rfl) _ _ rfl wb (wo + j * 3) rfl [.int .i64 y2.kd, .int .i64 y2.pl, .string y2.wd] _ (fun W h => range_below3 RGy2.out hwbx h) Try.underlying48 rfl (by kernel_rfl) ?_
              simp only [Act.put, List.setIfInBounds_toArray, List.set_cons_zero, List.set_cons_succ]
              refine quietW_still (by kernel_rfl) (.pointer (some ⟨w.heap.size, 1, none⟩)) (fun w _ => by go_simp) ?_
              simp only [Act.put, List.setIfInBounds_toArray, List.set_cons_zero, List.set_cons_succ]
              refine quietW_load1 (by kernel_rfl) _ _ rfl ⟨w.heap.size, 1, none⟩ rfl (.slice (some ⟨wb, wo, none⟩) s.ws.length uc) (load_ws _ _) (fun _ h => (h.cell (p := ⟨w.heap.size, 1, none⟩) hzx).trans g1) ?_
              simp only [Act.put, List.setIfInBounds_toArray, List.set_cons_zero, List.set_cons_succ]
              refine quietW_moveV (by kernel_rfl) _ rfl (.slice (some ⟨rb, ro, none⟩) L.length rc) rfl ?_
              simp only [Act.put, List.setIfInBounds_toArray, List.set_cons_zero, List.set_cons_succ]
              refine quietW_moveV (by kernel_rfl) _ rfl (.int .i64 (k : Int)) rfl ?_
              simp only [Act.put, List.setIfInBounds_toArray, List.set_cons_zero, List.set_cons_succ]
              refine quietW_still (by kernel_rfl) (.pointer (some ⟨rb, ro + k, none⟩)) (fun w _ => by go_simp) ?_
              simp only [Act.put, List.setIfInBounds_toArray, List.set_cons_zero, List.set_cons_succ]
              refine quietW_load1 (by kernel_rfl) _ _ rfl ⟨rb, ro + k, none⟩ rfl (.int .i64 (i : Int)) (load_int _ _) (fun _ h => (h.cell (p := ⟨rb, ro + k, none⟩) hrbx).trans cz) ?_
              simp only [Act.put, List.setIfInBounds_toArray, List.set_cons_zero, List.set_cons_succ]
              refine quietW_still (by kernel_rfl) (.pointer (some ⟨wb, wo + i * 3, none⟩)) (fun w _ => by go_simp) ?_
              simp only [Act.put, List.setIfInBounds_toArray, List.set_cons_zero, List.set_cons_succ]
              refine quietW_load_mid (by kernel_rfl) _ _ rfl wb (wo + i * 3) rfl [.int .i64 y1.kd, .int .i64 y1.pl, .string y1.wd] _ (fun W h => range_below3 RGy1.out hwbx h) Try.underlying48 rfl (by kernel_rfl) ?_
              simp only [Act.put, List.setIfInBounds_toArray, List.set_cons_zero, List.set_cons_succ]
              refine quietW_call (by kernel_rfl) 30 _ _ rfl (enter_of Try.func30 (by decide) (by intro h; cases h)) _ (fun W h => (CT.out W).mono fun e w' ⟨he, hw⟩ => ⟨he, h.trans (hw.mono h.size)⟩) ?_
              simp only [Act.put, List.setIfInBounds_toArray, List.set_cons_zero, List.set_cons_succ]
              refine quietW_still (by kernel_rfl) (.bool false) (fun w _ => by go_simp) ?_
              simp only [Act.put, List.setIfInBounds_toArray, List.set_cons_zero, List.set_cons_succ]
              refine quietW_still (by kernel_rfl) (.bool false) (fun w _ => by go_simp) ?_
              simp only [Act.put, List.setIfInBounds_toArray, List.set_cons_zero, List.set_cons_succ]
              refine quietW_still (by kernel_rfl) (.bool false) (fun w _ => by go_simp) ?_
              simp only [Act.put, List.setIfInBounds_toArray, List.set_cons_zero, List.set_cons_succ]
              unfold wpQuiet
              intro wq2 hb
              have HBQ := Lib.hid (HBR.out.trans (hb.mono HBR.out.size))
              clear hb cz cz2 kz g1 hkm hwm hji'
              go_wp2_with fail
              go_roundw
              case rel => exact ⟨k + 1, hkl, by go_num, HBQ.out⟩
              case measure => (simp [intOf] <;> omega)
          · have k1 : ¬ (k : Int) < (L.length : Int) := by omega
            clear hkl hk
            have hz7r : w.heap.size < wr.heap.size := by have := HBR.out.size; have := HZ7.out; omega
            have HR0 := Lib.hid ((HBR.out.block _ (by have := HZ7.out; omega)).trans H7.out)
            have HBE := Lib.hid (HB7.out.trans (HBR.out.mono (by have := HZ7.out; omega)))
            go_upto_region 18 with fail
            go_cut [209] from 186 to 208 (fun t wc => t = .bool false ∧ wc = wr)
            case first =>
              cases ab
              · obtain ⟨e1, e2⟩ := HCV.out.no rfl
                subst e1 e2
                go_wp2_with fail
                go_meet
                exact ⟨rfl, rfl⟩
              · obtain ⟨e1, _, hok⟩ := HCV.out.yes rfl
                subst e1
                have l2 := hok.len
                have c2' : ¬ (L.length : Int) < 2 := by omega
                obtain ⟨rb, ro, rfl, hrb, hcf⟩ := HLI.out 0 _ hok.first
                obtain ⟨rb', ro', e', _, hcl⟩ := HLI.out _ _ hok.last
                cases e'
                have cf : wr.cell? ⟨rb, ro, none⟩ = some (.int .i64 (a : Int)) := (HBR.out.cell (p := ⟨rb, ro + 0, none⟩) hrb).trans hcf
                have clst : wr.cell? ⟨rb, ro + (L.length - 1), none⟩ = some (.int .i64 (b : Int)) := (HBR.out.cell (p := ⟨rb, ro + (L.length - 1), none⟩) hrb).trans hcl
                obtain ⟨t, ht⟩ : ∃ t, t = L.length - 1 := ⟨_, rfl⟩
                rw [← ht] at clst
                have htl : (L.length : Int) - 1 = (t : Int) := by omega
                have t0 : (0 : Int) ≤ (t : Int) := by omega
                have t1 : (t : Int) < (L.length : Int) := by omega
                have hll : L.length ≤ 1000 := HLL.out
                have tw : IntKind.i64.wrap (t : Int) = (t : Int) := IntWalk.i64_in _ (by omega)
                have lpos : (0 : Int) < (L.length : Int) := by omega
                clear hcf hcl hok ht
                go_wp2_with fail
                go_meet
                exact ⟨rfl, rfl⟩
            case rest =>
              obtain ⟨rfl, hwc⟩ := hcut
              rw [hwc]
              clear hwc k1
              have C5 := Lib.hid (fun W h1 h2 => Ready_v s (.agg #[.int .i64 s.pr, .slice ua s.ws.length uc]) ds (.slice sa ds.length sc) W h1 h2 (by omega))
              have HRM := Lib.hid (fun z h => rdV_mem (s := s) (ds := ds) (z := z) h)
              have HRL := Lib.hid (rdV_len s ds)
              generalize rdV s ds = R at *
              have g0 : wr.cell? ⟨w.heap.size, 0, none⟩ = some (.int .i64 s.pr) := cell_of_row wr _ 0 _ _ _ HR0.out
              have g1 : wr.cell? ⟨w.heap.size, 1, none⟩ = some (.slice ua s.ws.length uc) := cell_of_row wr _ 1 _ _ _ HR0.out
              clear hl
              go_wp2_with fail
              refine (C5.out wr (HV.out.below HBE.out) (HD.out.below HBE.out)).mono ?_
              rintro e w8 ⟨u8, rfl, hi8, b2⟩
              obtain ⟨pa, pc, rfl, _, _, _, hI8⟩ := hi8
              have HPI := Lib.hid hI8
              have H8 := Lib.hid ((b2.block _ hz7r).trans HR0.out)
              have HB8 := Lib.hid (bon HBE.out b2)
              have HZ8 := Lib.hid (show w.heap.size < w8.heap.size by have := b2.size; omega)
              clear b2 g0 g1 hI8 C5
              go_wp2_with fail
              go_loopw [20] (fun x wx => ∃ k : Nat, k ≤ R.length ∧ x = .int .i64 (k : Int) ∧ Below w8.heap.size w8 wx) (fun x _ => R.length - (intOf x).toNat)
              case atStart => exact ⟨0, Nat.zero_le _, rfl, Below.refl _ _⟩
              case round =>
                obtain ⟨k, hk, rfl, hbx⟩ := hrel
                rename World => wx
                have HBX := Lib.hid hbx
                have HBW := Lib.hid (HB8.out.trans (hbx.mono (Nat.le_of_lt HZ8.out)))
                clear hbx
                have hrl : R.length ≤ 1000 := HRL.out
                by_cases hkl : k < R.length ∧ k < 5
                · have k1 : (k : Int) < (R.length : Int) := by omega
                  have k5 : (k : Int) < 5 := by omega
                  have k0 : (0 : Int) ≤ (k : Int) := by omega
                  obtain ⟨z, hz⟩ : ∃ z, R[k]? = some z := ⟨_, List.getElem?_eq_getElem hkl.1⟩
                  obtain ⟨i, rfl, hil, hpe, hpm⟩ := HRM.out z (List.mem_of_getElem? hz)
                  obtain ⟨rb, ro, rfl, hrb, hcz⟩ := HPI.out k _ hz
                  have HPE := Lib.hid hpe
                  have HPM := Lib.hid hpm
                  have HRB := Lib.hid hrb
                  have HCZ := Lib.hid hcz
                  have hkr : k < R.length := hkl.1
                  have HOZ := Lib.hid (show wx.ownsRow wx.heap.size 3 1 (.slice none 0 0) (insTo (i : Int) ds 0).1.length ((insTo (i : Int) ds 0).1.map (Value.int .i64)) from World.ownsRow_nil _ _ _ _)
                  clear hz hpe hpm hcz hrb hkl
                  go_wp2_with fail
                  go_loopw [21, 22, 23] (fun vo p x wy => ∃ m : Nat, m ≤ ds.length ∧ x = .int .i64 (m : Int) ∧ p = .bool (insTo (i : Int) ds m).2 ∧ wy.ownsRow wx.heap.size 3 1 vo (insTo (i : Int) ds m).1.length ((insTo (i : Int) ds m).1.map (Value.int .i64)) ∧ Below wx.heap.size wx wy) (fun _ _ x _ => ds.length - (intOf x).toNat)
                  case atStart => exact ⟨0, Nat.zero_le _, rfl, rfl, HOZ.out, Below.refl _ _⟩
                  case round =>
                    clear HOZ
                    obtain ⟨m, hm, rfl, rfl, hown, hby⟩ := hrel
                    rename World => wy
                    obtain ⟨aw, cw, ev⟩ := own_form hown
                    subst ev
                    have HOW := Lib.hid hown
                    have HBY := Lib.hid hby
                    have HLN := Lib.hid (insTo_len (i : Int) ds m)
                    have hry : rb < wy.heap.size := by have := HRB.out; have := HBX.out.size; have := hby.size; omega
                    have cz : wy.cell? ⟨rb, ro + k, none⟩ = some (.int .i64 (i : Int)) := ((HBX.out.trans (hby.mono HBX.out.size)).cell (p := ⟨rb, ro + k, none⟩) HRB.out).trans HCZ.out
                    have HWY := Lib.hid (HBW.out.trans (hby.mono (by have := HBW.out.size; omega)))
                    clear hown hby
                    by_cases hml : m < ds.length
                    · have m1 : (m : Int) < (ds.length : Int) := by omega
                      have m0 : (0 : Int) ≤ (m : Int) := by omega
                      obtain ⟨y, hy⟩ : ∃ y, ds[m]? = some y := ⟨_, List.getElem?_eq_getElem hml⟩
                      obtain ⟨b, off, rfl, hbl, hcy⟩ := HIS.out m y hy
                      have HBL := Lib.hid hbl
                      have HCY := Lib.hid hcy
                      have hby : b < wy.heap.size := by have := HWY.out.size; omega
                      have cy : wy.cell? ⟨b, off + m, none⟩ = some (.int .i64 y) := (HWY.out.cell (p := ⟨b, off + m, none⟩) hbl).trans hcy
                      have HNX := Lib.hid (insTo_next (r := (i : Int)) hy)
                      generalize insTo (i : Int) ds m = st at *
                      obtain ⟨sl, sp⟩ := st
                      simp only at HOW HLN ⊢
                      clear hcy hy hbl
                      cases sp
                      · obtain ⟨l0, hl⟩ : ∃ l0, l0 = decide ((i : Int) < y) := ⟨_, rfl⟩
                        have hl0 : decide ((i : Int) < y) = l0 := hl.symm
                        have HIN0 := Lib.hid (show insStep (i : Int) (sl, false) y = if l0 = true then (sl ++ [(i : Int)] ++ [y], true) else (sl ++ [y], false) by unfold insStep; rw [hl0]; rfl)
                        clear hl
                        go_wp2_with fail
                        refine wp_region_class (fun w' => Below wy.heap.size wy w') 12 (by kernel_rfl) (by kernel_rfl) (Below.refl _ wy).drew ?_
                        simp only [List.take_succ_cons, List.take_zero, List.drop_succ_cons, List.drop_zero]
                        refine quiet_moveV rfl _ rfl (.bool false) rfl ?_
                        simp only [Act.put, List.setIfInBounds_toArray, List.set_cons_zero, List.set_cons_succ]
                        refine quiet_still rfl (.bool true) (fun w _ => by go_simp) ?_
                        simp only [Act.put, List.setIfInBounds_toArray, List.set_cons_zero, List.set_cons_succ]
                        refine quiet_moveV rfl _ rfl (.bool true) rfl ?_
                        simp only [Act.put, List.setIfInBounds_toArray, List.set_cons_zero, List.set_cons_succ]
                        refine quietW_moveV (by kernel_rfl) _ rfl (.slice (some ⟨b, off, none⟩) ds.length sc) rfl ?_
                        simp only [Act.put, List.setIfInBounds_toArray, List.set_cons_zero, List.set_cons_succ]
                        refine quietW_moveV (by kernel_rfl) _ rfl (.int .i64 (m : Int)) rfl ?_
                        simp only [Act.put, List.setIfInBounds_toArray, List.set_cons_zero, List.set_cons_succ]
                        refine quietW_still (by kernel_rfl) (.pointer (some ⟨b, off + m, none⟩)) (fun w _ => by go_simp) ?_
                        simp only [Act.put, List.setIfInBounds_toArray, List.set_cons_zero, List.set_cons_succ]
                        refine quietW_load1 (by kernel_rfl) _ _ rfl ⟨b, off + m, none⟩ rfl (.int .i64 y) (load_int _ _) (fun _ h => (h.cell (p := ⟨b, off + m, none⟩) hby).trans cy) ?_
                        simp only [Act.put, List.setIfInBounds_toArray, List.set_cons_zero, List.set_cons_succ]
                        refine quietW_moveV (by kernel_rfl) _ rfl (.slice (some ⟨rb, ro, none⟩) R.length pc) rfl ?_
                        simp only [Act.put, List.setIfInBounds_toArray, List.set_cons_zero, List.set_cons_succ]
                        refine quietW_moveV (by kernel_rfl) _ rfl (.int .i64 (k : Int)) rfl ?_
                        simp only [Act.put, List.setIfInBounds_toArray, List.set_cons_zero, List.set_cons_succ]
                        refine quietW_still (by kernel_rfl) (.pointer (some ⟨rb, ro + k, none⟩)) (fun w _ => by go_simp) ?_
                        simp only [Act.put, List.setIfInBounds_toArray, List.set_cons_zero, List.set_cons_succ]
                        refine quietW_load1 (by kernel_rfl) _ _ rfl ⟨rb, ro + k, none⟩ rfl (.int .i64 (i : Int)) (load_int _ _) (fun _ h => (h.cell (p := ⟨rb, ro + k, none⟩) hry).trans cz) ?_
                        simp only [Act.put, List.setIfInBounds_toArray, List.set_cons_zero, List.set_cons_succ]
                        refine quietW_still (by kernel_rfl) (.bool l0) (fun w _ => by go_simp; first | done | exact hl0 | rw [hl0]) ?_
                        simp only [Act.put, List.setIfInBounds_toArray, List.set_cons_zero, List.set_cons_succ]
                        unfold wpQuiet
                        intro wq3 hb
                        clear hl0
                        have HBQ := Lib.hid (HBY.out.trans (hb.mono HBY.out.size))
                        have HOQ := Lib.hid (own_below HOW.out hb)
                        have cy := (hb.cell (p := ⟨b, off + m, none⟩) hby).trans cy
                        have cz := (hb.cell (p := ⟨rb, ro + k, none⟩) hry).trans cz
                        have HZQ := Lib.hid HBQ.out.size
                        clear hb
                        cases l0
                        · have HNE := Lib.hid (show insTo (i : Int) ds (m + 1) = (sl ++ [y], false) by rw [HNX.out, HIN0.out]; rfl)
                          go_wp2_with (at_builtin; refine app_one (w0 := wx) wx.heap.size _ sl y rfl _ _ rfl rfl HOQ.out rfl (by have := HLN.out; omega) HBQ.out HZQ.out ?_; intro ga cap1 w9 hown1 hb1)
                          have HO1 := Lib.hid hown1
                          have HBB := Lib.hid hb1
                          clear hown1 hb1
                          go_wp2_with fail
                          go_roundw
                          case rel => exact ⟨m + 1, hml, by go_num, by rw [HNE.out], by rw [HNE.out, List.length_append]; exact HO1.out, HBB.out⟩
                          case measure => (simp [intOf] <;> omega)
                        · have HNE := Lib.hid (show insTo (i : Int) ds (m + 1) = (sl ++ [(i : Int)] ++ [y], true) by rw [HNX.out, HIN0.out]; rfl)
                          go_upto_region 32 with (at_builtin; refine app_one (w0 := wx) wx.heap.size _ sl (i : Int) rfl _ _ rfl rfl HOQ.out rfl (by have := HLN.out; omega) HBQ.out HZQ.out ?_; intro ga cap1 w9 hown1 hb1)
                          have HO1 := Lib.hid hown1
                          have HBB := Lib.hid hb1
                          have HZB := Lib.hid hb1.size
                          have cy9 : w9.cell? ⟨b, off + m, none⟩ = some (.int .i64 y) := ((HBW.out.trans (hb1.mono (by have := HBW.out.size; omega))).cell (p := ⟨b, off + m, none⟩) HBL.out).trans HCY.out
                          have hlen9 : (sl ++ [(i : Int)]).length = sl.length + 1 := by simp
                          have HO9 := Lib.hid (show w9.ownsRow wx.heap.size 3 1 (.slice (some ⟨ga, 0, none⟩) (sl.length + 1) cap1) (sl ++ [(i : Int)]).length ((sl ++ [(i : Int)]).map (Value.int .i64)) by rw [hlen9]; exact hown1)
                          clear hown1 hb1 hlen9
                          go_wp2_with (at_builtin; refine app_one (w0 := wx) wx.heap.size _ (sl ++ [(i : Int)]) y rfl _ _ rfl rfl HO9.out rfl (by have := HLN.out; simp; omega) HBB.out HZB.out ?_; intro ga2 cap2 w10 hown2 hb2)
                          have hlen9 : (sl ++ [(i : Int)]).length = sl.length + 1 := by simp
                          rw [hlen9] at hown2
                          have HO2 := Lib.hid hown2
                          clear hlen9
                          have HBB2 := Lib.hid hb2
                          clear hown2 hb2
                          go_wp2_with fail
                          go_roundw
                          case rel => exact ⟨m + 1, hml, by go_num, by rw [HNE.out], by rw [HNE.out, show ((sl ++ [(i : Int)] ++ [y], true) : List Int × Bool).1.length = sl.length + 1 + 1 by simp]; exact HO2.out, HBB2.out⟩
                          case measure => (simp [intOf] <;> omega)
                      · have HNE := Lib.hid (show insTo (i : Int) ds (m + 1) = (sl ++ [y], true) by rw [HNX.out]; rfl)
                        go_wp2_with fail
                        refine wp_region_class (fun w' => Below wy.heap.size wy w') 12 (by kernel_rfl) (by kernel_rfl) (Below.refl _ wy).drew ?_
                        simp only [List.take_succ_cons, List.take_zero, List.drop_succ_cons, List.drop_zero]
                        refine quiet_moveV rfl _ rfl (.bool true) rfl ?_
                        simp only [Act.put, List.setIfInBounds_toArray, List.set_cons_zero, List.set_cons_succ]
                        refine quiet_still rfl (.bool false) (fun w _ => by go_simp) ?_
                        simp only [Act.put, List.setIfInBounds_toArray, List.set_cons_zero, List.set_cons_succ]
                        refine quiet_moveV rfl _ rfl (.bool false) rfl ?_
                        simp only [Act.put, List.setIfInBounds_toArray, List.set_cons_zero, List.set_cons_succ]
                        refine quiet_skip (by kernel_rfl) ?_
                        simp only [Act.put, List.setIfInBounds_toArray, List.set_cons_zero, List.set_cons_succ]
                        refine quiet_skip (by kernel_rfl) ?_
                        simp only [Act.put, List.setIfInBounds_toArray, List.set_cons_zero, List.set_cons_succ]
                        refine quiet_skip (by kernel_rfl) ?_
                        simp only [Act.put, List.setIfInBounds_toArray, List.set_cons_zero, List.set_cons_succ]
                        refine quiet_skip (by kernel_rfl) ?_
                        simp only [Act.put, List.setIfInBounds_toArray, List.set_cons_zero, List.set_cons_succ]
                        refine quiet_skip (by kernel_rfl) ?_
                        simp only [Act.put, List.setIfInBounds_toArray, List.set_cons_zero, List.set_cons_succ]
                        refine quiet_skip (by kernel_rfl) ?_
                        simp only [Act.put, List.setIfInBounds_toArray, List.set_cons_zero, List.set_cons_succ]
                        refine quiet_skip (by kernel_rfl) ?_
                        simp only [Act.put, List.setIfInBounds_toArray, List.set_cons_zero, List.set_cons_succ]
                        refine quiet_skip (by kernel_rfl) ?_
                        simp only [Act.put, List.setIfInBounds_toArray, List.set_cons_zero, List.set_cons_succ]
                        refine quiet_skip (by kernel_rfl) ?_
                        simp only [Act.put, List.setIfInBounds_toArray, List.set_cons_zero, List.set_cons_succ]
                        unfold wpQuiet
                        intro wq3 hb
                        have HBQ := Lib.hid (HBY.out.trans (hb.mono HBY.out.size))
                        have HOQ := Lib.hid (own_below HOW.out hb)
                        have cy := (hb.cell (p := ⟨b, off + m, none⟩) hby).trans cy
                        have HZQ := Lib.hid HBQ.out.size
                        clear hb
                        go_wp2_with (at_builtin; refine app_one (w0 := wx) wx.heap.size _ sl y rfl _ _ rfl rfl HOQ.out rfl (by have := HLN.out; omega) HBQ.out HZQ.out ?_; intro ga cap1 w9 hown1 hb1)
                        have HO1 := Lib.hid hown1
                        have HBB := Lib.hid hb1
                        clear hown1 hb1
                        go_wp2_with fail
                        go_roundw
                        case rel => exact ⟨m + 1, hml, by go_num, by rw [HNE.out], by rw [HNE.out, List.length_append]; exact HO1.out, HBB.out⟩
                        case measure => (simp [intOf] <;> omega)
                    · have m1 : ¬ (m : Int) < (ds.length : Int) := by omega
                      have e : m = ds.length := by omega
                      subst e
                      have HIL := Lib.hid (show insL (i : Int) ds = if (insTo (i : Int) ds ds.length).2 = true then (insTo (i : Int) ds ds.length).1 else (insTo (i : Int) ds ds.length).1 ++ [(i : Int)] from rfl)
                      generalize insTo (i : Int) ds ds.length = st at *
                      obtain ⟨sl, sp⟩ := st
                      simp only at HOW HLN HIL ⊢
                      have HZY := Lib.hid HBY.out.size
                      cases sp
                      · have HIE := Lib.hid (show insL (i : Int) ds = sl ++ [(i : Int)] by rw [HIL.out]; rfl)
                        go_upto_region 35 with (at_builtin; refine app_one (w0 := wx) wx.heap.size _ sl (i : Int) rfl _ _ rfl rfl HOW.out rfl (by have := HLN.out; omega) HBY.out HZY.out ?_; intro ga cap1 w9 hown1 hb1)
                        have HO1 := Lib.hid hown1
                        have HBB := Lib.hid hb1
                        clear hown1 hb1 cz
                        have HIX := Lib.hid (show IS w9 (.slice (some ⟨ga, 0, none⟩) (insL (i : Int) ds).length cap1) (insL (i : Int) ds) by rw [HIE.out, List.length_append]; exact is_own HO1.out (by simp))
                        have elen : sl.length + 1 = (insL (i : Int) ds).length := by rw [HIE.out]; simp
                        rw [elen]
                        clear elen
                        have HB9 := Lib.hid (HBW.out.trans (HBB.out.mono (by have := HBW.out.size; omega)))
                        have HR9 := Lib.hid ((HBX.out.trans (HBB.out.mono HBX.out.size)))
                        have H9 := Lib.hid ((HR9.out.block _ HZ8.out).trans H8.out)
                        have hilen : (insL (i : Int) ds).length ≤ 100000 := by rw [HIE.out]; have := HLN.out; simp; omega
                        have C6 := Lib.hid (fun W h1 h2 => Line_v s (.agg #[.int .i64 s.pr, .slice ua s.ws.length uc]) (insL (i : Int) ds) (.slice (some ⟨ga, 0, none⟩) (insL (i : Int) ds).length cap1) W h1 h2 hilen)
                        rw [HPM.out] at C6
                        clear hilen
                        generalize insL (i : Int) ds = more at *
                        have g0 : w9.cell? ⟨w.heap.size, 0, none⟩ = some (.int .i64 s.pr) := cell_of_row w9 _ 0 _ _ _ H9.out
                        have g1 : w9.cell? ⟨w.heap.size, 1, none⟩ = some (.slice ua s.ws.length uc) := cell_of_row w9 _ 1 _ _ _ H9.out
                        go_wp2_with fail
                        refine (C6.out w9 (HV.out.below HB9.out) HIX.out).mono ?_
                        rintro e w11 ⟨u11, rfl, hi11, b2⟩
                        have HB11 := Lib.hid (Below.trans HR9.out (b2.mono HR9.out.size))
                        clear b2 g0 g1 hi11
                        have hpe0 : (progE s ds != 0) = false := by rw [bne_eq_false_iff_eq]; exact HPE.out
                        go_wp2_with fail
                        go_roundw
                        case rel => exact ⟨k + 1, hkr, by go_num, HB11.out⟩
                        case measure => (simp [intOf] <;> omega)
                      · have HIE := Lib.hid (show insL (i : Int) ds = sl by rw [HIL.out]; rfl)
                        have HBB := Lib.hid HBY.out
                        have HIX := Lib.hid (show IS wy (.slice aw (insL (i : Int) ds).length cw) (insL (i : Int) ds) by rw [HIE.out]; exact is_own HOW.out rfl)
                        have elen : sl.length = (insL (i : Int) ds).length := by rw [HIE.out]
                        go_upto_region 35 with fail
                        rw [elen]
                        clear elen cz
                        have HB9 := Lib.hid (HBW.out.trans (HBB.out.mono (by have := HBW.out.size; omega)))
                        have HR9 := Lib.hid ((HBX.out.trans (HBB.out.mono HBX.out.size)))
                        have H9 := Lib.hid ((HR9.out.block _ HZ8.out).trans H8.out)
                        have hilen : (insL (i : Int) ds).length ≤ 100000 := by rw [HIE.out]; have := HLN.out; simp; omega
                        have C6 := Lib.hid (fun W h1 h2 => Line_v s (.agg #[.int .i64 s.pr, .slice ua s.ws.length uc]) (insL (i : Int) ds) (.slice aw (insL (i : Int) ds).length cw) W h1 h2 hilen)
                        rw [HPM.out] at C6
                        clear hilen
                        generalize insL (i : Int) ds = more at *
                        have g0 : wy.cell? ⟨w.heap.size, 0, none⟩ = some (.int .i64 s.pr) := cell_of_row wy _ 0 _ _ _ H9.out
                        have g1 : wy.cell? ⟨w.heap.size, 1, none⟩ = some (.slice ua s.ws.length uc) := cell_of_row wy _ 1 _ _ _ H9.out
                        go_wp2_with fail
                        refine (C6.out wy (HV.out.below HB9.out) HIX.out).mono ?_
                        rintro e w11 ⟨u11, rfl, hi11, b2⟩
                        have HB11 := Lib.hid (Below.trans HR9.out (b2.mono HR9.out.size))
                        clear b2 g0 g1 hi11
                        have hpe0 : (progE s ds != 0) = false := by rw [bne_eq_false_iff_eq]; exact HPE.out
                        go_wp2_with fail
                        go_roundw
                        case rel => exact ⟨k + 1, hkr, by go_num, HB11.out⟩
                        case measure => (simp [intOf] <;> omega)
                · have k1 : ¬ (k : Int) < (R.length : Int) ∨ ((k : Int) < (R.length : Int) ∧ ¬ (k : Int) < 5) := by omega
                  clear hkl
                  rcases k1 with k1 | ⟨k1, k5⟩
                  · go_wp2_with fail
                    refine (CS.out _).mono ?_
                    rintro e w2 ⟨rfl, b2⟩
                    have HB2 := Lib.hid (bon HBW.out b2)
                    clear b2
                    go_wp2_with fail
                    go_ret
                    exact ⟨rfl, HB2.out⟩
                  · go_wp2_with fail
                    refine (CS.out _).mono ?_
                    rintro e w2 ⟨rfl, b2⟩
                    have HB2 := Lib.hid (bon HBW.out b2)
                    clear b2
                    go_wp2_with fail
                    go_ret
                    exact ⟨rfl, HB2.out⟩
  · have hq : (chkS s != 0) = true := by rw [bne_iff_ne]; exact hc
    clear hc
    go_wp2_with fail
    refine (CS.out _).mono ?_
    rintro e w2 ⟨rfl, b2⟩
    have HB2 := Lib.hid (bon HB2.out b2)
    clear b2
    go_wp2_with fail
    go_ret
    exact ⟨rfl, HB2.out⟩
end Go.Proofs.Ytenfeekchggioaa
