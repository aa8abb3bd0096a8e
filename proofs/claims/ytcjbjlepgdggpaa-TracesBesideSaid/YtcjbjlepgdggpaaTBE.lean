/- How many orders two sheets beside each other have. -/
import Derived.Test.YtcjbjlepgdggpaaTNA
import Derived.Test.YtcjbjlepgdggpaaTBD
namespace Go.Proofs.Ytcjbjlepgdggpaa
set_option linter.unusedSimpArgs false
set_option linter.unusedVariables false
/-- In how many orders so many works can be done, when those of D are done. -/
def cnt (W : List Wk) : Nat → (Nat → Bool) → Nat
  | 0, _ => 1
  | p + 1, D => ((List.range W.length).map fun i => if rdyB W D i = true then cnt W p (fun j => decide (j = i) || D j) else 0).sum
theorem all_congr_range {n : Nat} {f g : Nat → Bool} (h : ∀ a, a < n → f a = g a) : (List.range n).all f = (List.range n).all g := by
  rw [Bool.eq_iff_iff, List.all_eq_true, List.all_eq_true]
  constructor
  · intro q a ha; rw [← h a (List.mem_range.1 ha)]; exact q a ha
  · intro q a ha; rw [h a (List.mem_range.1 ha)]; exact q a ha
theorem rdyB_congr {W : List Wk} {D E : Nat → Bool} {i : Nat} (h : ∀ a, a < W.length → D a = E a) (hi : i < W.length) : rdyB W D i = rdyB W E i := by
  unfold rdyB
  rw [h i hi, all_congr_range fun a ha => by rw [h a (by omega)]]
theorem cnt_congr {W : List Wk} : ∀ (p : Nat) {D E : Nat → Bool}, (∀ a, a < W.length → D a = E a) → cnt W p D = cnt W p E
  | 0, D, E, _ => rfl
  | p + 1, D, E, h => by
    unfold cnt
    refine sum_congr fun i hi => ?_
    rw [rdyB_congr h (List.mem_range.1 hi)]
    split
    · exact cnt_congr p fun a ha => by rw [h a ha]
    · rfl
/-- The works of l are done, so many are left. -/
structure Dn (n : Nat) (D : Nat → Bool) (l : List Nat) (p : Nat) : Prop where
  nd : l.Nodup
  mem : ∀ i ∈ l, i < n
  len : l.length + p = n
  eq : ∀ i, i < n → D i = inL l i
theorem Dn.step {n p i : Nat} {D : Nat → Bool} {l : List Nat} (h : Dn n D l (p + 1)) (hi : i < n) (hD : D i = false) : Dn n (fun j => decide (j = i) || D j) (l ++ [i]) p := by
  have hl : i ∉ l := by
    rw [h.eq i hi] at hD
    exact inL_not.1 hD
  refine ⟨?_, fun j hj => ?_, by rw [List.length_append, List.length_singleton]; have := h.len; omega, fun j hj => ?_⟩
  · rw [List.nodup_append]
    exact ⟨h.nd, by simp, fun a ha b hb e => by simp at hb; subst hb e; exact hl ha⟩
  · rcases List.mem_append.1 hj with q | q
    · exact h.mem j q
    · simp at q; omega
  · rw [inL_snoc, h.eq j hj]
theorem Dn.full {n : Nat} {D : Nat → Bool} {l : List Nat} (h : Dn n D l 0) {i : Nat} (hi : i < n) : D i = true := by
  rw [h.eq i hi, inL_iff]
  exact mem_all h.nd h.mem (by have := h.len; omega) i hi
theorem Dn.out {n p : Nat} {D E : Nat → Bool} {l : List Nat} (h : Dn n D l p) (he : ∀ i, i < n → E i = D i) : Dn n E l p := ⟨h.nd, h.mem, h.len, fun i hi => by rw [he i hi]; exact h.eq i hi⟩
theorem rdyB_done {W : List Wk} {D : Nat → Bool} {i : Nat} (h : rdyB W D i = true) : D i = false := (rdyB_iff.1 h).1
theorem cnt_pos {W : List Wk} : ∀ (p : Nat) {D : Nat → Bool} {l : List Nat}, Dn W.length D l p → 1 ≤ cnt W p D
  | 0, _, _, _ => Nat.le_refl _
  | p + 1, D, l, h => by
    obtain ⟨i, hi, hr⟩ := rdy_some (W := W) (l := l) (by have := h.len; omega)
    have hr' : rdyB W D i = true := by rw [rdyB_congr h.eq hi]; exact rdyB_iff.2 hr
    have ih := cnt_pos p (h.step hi (rdyB_done hr'))
    have key : ∀ (L : List Nat) (f : Nat → Nat), i ∈ L → f i ≤ (L.map f).sum := fun L f => by
      induction L with
      | nil => intro hm; cases hm
      | cons a L ih2 =>
        intro hm
        rw [List.map_cons, List.sum_cons]
        rcases List.mem_cons.1 hm with rfl | hm
        · omega
        · have := ih2 hm; omega
    have := key (List.range W.length) (fun i => if rdyB W D i = true then cnt W p (fun j => decide (j = i) || D j) else 0) (List.mem_range.2 hi)
    simp only [hr', if_true] at this
    unfold cnt
    omega
theorem whole_bit {n i : Nat} (hi : i < n) : (wholeN n).testBit i = true := by
  unfold wholeN
  rw [Nat.testBit_two_pow_sub_one]
  simpa using hi
theorem ordC_cnt {W : List Wk} : ∀ (p x : Nat) (l : List Nat), Dn W.length x.testBit l p → x < 2 ^ W.length → ordC W.length (rdyR W) p x = cnt W p x.testBit
  | 0, x, l, h, hx => by
    have e : x = wholeN W.length := by
      apply Nat.eq_of_testBit_eq
      intro i
      by_cases hi : i < W.length
      · rw [h.full hi, whole_bit hi]
      · rw [Nat.testBit_lt_two_pow (Nat.lt_of_lt_of_le hx (Nat.pow_le_pow_right (by omega) (by omega)))]
        unfold wholeN
        rw [Nat.testBit_two_pow_sub_one]
        simp; omega
    unfold ordC
    rw [if_pos e]
    rfl
  | p + 1, x, l, h, hx => by
    have hne : x ≠ wholeN W.length := fun e => by
      obtain ⟨i, hi, hr⟩ := rdy_some (W := W) (l := l) (by have := h.len; omega)
      have := h.eq i hi
      rw [hr.1, e, whole_bit hi] at this
      cases this
    unfold ordC cnt
    rw [if_neg hne]
    refine sum_congr fun i hi => ?_
    have hi := List.mem_range.1 hi
    rw [show rdyR W x i = rdyB W x.testBit i by unfold rdyR; rw [decide_eq_true hi, Bool.true_and]]
    cases hr : rdyB W x.testBit i with
    | false => rfl
    | true =>
      simp only [if_true]
      have hs := h.step hi (rdyB_done hr)
      have e : (x ||| 1 <<< i).testBit = fun j => decide (j = i) || x.testBit j := by
        funext j
        exact testBit_or x i j
      rw [← e] at hs
      rw [ordC_cnt p _ _ hs (Nat.or_lt_two_pow hx (by rw [Nat.one_shiftLeft]; exact Nat.pow_lt_pow_right (by omega) hi)), e]
def ch : Nat → Nat → Nat
  | _, 0 => 1
  | 0, _ + 1 => 0
  | n + 1, k + 1 => ch n k + ch n (k + 1)
theorem ch_0 (n : Nat) : ch n 0 = 1 := by cases n <;> rfl
theorem ch_big : ∀ (n k : Nat), n < k → ch n k = 0
  | 0, 0, h => by omega
  | 0, k + 1, _ => rfl
  | n + 1, 0, h => by omega
  | n + 1, k + 1, h => by rw [ch, ch_big n k (by omega), ch_big n (k + 1) (by omega)]
theorem ch_self : ∀ (n : Nat), ch n n = 1
  | 0 => rfl
  | n + 1 => by rw [ch, ch_self n, ch_big n (n + 1) (by omega)]
theorem ch_mul : ∀ (n k : Nat), ch (n + 1) (k + 1) * (k + 1) = (n + 1) * ch n k
  | 0, 0 => rfl
  | 0, k + 1 => by rw [ch_big _ _ (by omega), ch_big 0 (k + 1) (by omega)]; simp
  | n + 1, 0 => by
    have := ch_mul n 0
    rw [ch_0] at this ⊢
    rw [ch, ch_0]
    omega
  | n + 1, k + 1 => by
    have h1 := ch_mul n k
    have h2 := ch_mul n (k + 1)
    rw [ch]
    have e : (ch (n + 1) (k + 1) + ch (n + 1) (k + 1 + 1)) * (k + 1 + 1) = ch (n + 1) (k + 1) * (k + 1) + ch (n + 1) (k + 1) + ch (n + 1) (k + 1 + 1) * (k + 1 + 1) := by
      rw [Nat.add_mul, Nat.mul_succ (ch (n + 1) (k + 1)) (k + 1)]
    rw [e, h1, h2]
    have e2 : (n + 1 + 1) * ch (n + 1) (k + 1) = (n + 1) * (ch n k + ch n (k + 1)) + ch (n + 1) (k + 1) := by
      rw [Nat.succ_mul]
      rw [show ch (n + 1) (k + 1) = ch n k + ch n (k + 1) from rfl]
    rw [e2, Nat.mul_add]
    omega
theorem ch_pos : ∀ (n k : Nat), k ≤ n → 1 ≤ ch n k
  | n, 0, _ => by rw [ch_0]; exact Nat.le_refl _
  | 0, k + 1, h => by omega
  | n + 1, k + 1, h => by have := ch_pos n k (by omega); rw [ch]; omega
/-- The works of one sheet so many places to the right. -/
def shW (A : Int) (V : List Wk) : List Wk := V.map fun y => ⟨y.kd, y.pl + A, y.wd⟩
theorem wkN_left {W V : List Wk} {a : Nat} (h : a < W.length) : wkN (W ++ V) a = wkN W a := by
  unfold wkN
  rw [List.getElem?_append_left h]
theorem wkN_right {W V : List Wk} {A : Int} {b : Nat} (h : b < V.length) : wkN (W ++ shW A V) (W.length + b) = ⟨(wkN V b).kd, (wkN V b).pl + A, (wkN V b).wd⟩ := by
  unfold wkN shW
  rw [List.getElem?_append_right (by omega), Nat.add_sub_cancel_left, List.getElem?_map, List.getElem?_eq_getElem h]
  rfl
theorem rdyB_left {W V : List Wk} {A : Int} {D : Nat → Bool} {i : Nat} (hi : i < W.length) : rdyB (W ++ shW A V) D i = rdyB W D i := by
  unfold rdyB
  rw [all_congr_range fun a ha => by
    show (D a || !tchN (W ++ shW A V) a i) = (D a || !tchN W a i)
    unfold tchN
    rw [wkN_left hi, wkN_left (by omega : a < W.length)]]
theorem rdyB_right {W V : List Wk} {A : Int} {D : Nat → Bool} {j : Nat} (hW : ∀ i, i < W.length → (wkN W i).pl ≤ A - 2) (hV : ∀ j, j < V.length → 0 ≤ (wkN V j).pl) (hj : j < V.length) : rdyB (W ++ shW A V) D (W.length + j) = rdyB V (fun k => D (W.length + k)) j := by
  unfold rdyB
  rw [Bool.eq_iff_iff]
  simp only [Bool.and_eq_true, List.all_eq_true, List.mem_range, Bool.or_eq_true, Bool.not_eq_true']
  constructor
  · rintro ⟨h1, h2⟩
    refine ⟨h1, fun a ha => ?_⟩
    have := h2 (W.length + a) (by omega)
    unfold tchN at this ⊢
    rw [wkN_right hj, wkN_right (by omega : a < V.length)] at this
    unfold touchP at this ⊢
    simp only at this
    rw [show (wkN V a).pl + A - ((wkN V j).pl + A) = (wkN V a).pl - (wkN V j).pl by omega, show (wkN V j).pl + A - ((wkN V a).pl + A) = (wkN V j).pl - (wkN V a).pl by omega] at this
    exact this
  · rintro ⟨h1, h2⟩
    refine ⟨h1, fun a ha => ?_⟩
    by_cases c : a < W.length
    · right
      unfold tchN
      rw [wkN_right hj, wkN_left c]
      unfold touchP
      have := hW a c
      have := hV j hj
      simp only [Bool.and_eq_false_iff, decide_eq_false_iff_not]
      right
      omega
    · obtain ⟨b, rfl⟩ : ∃ b, a = W.length + b := ⟨a - W.length, by omega⟩
      have := h2 b (by omega)
      unfold tchN at this ⊢
      rw [wkN_right hj, wkN_right (by omega : b < V.length)]
      unfold touchP at this ⊢
      simp only
      rw [show (wkN V b).pl + A - ((wkN V j).pl + A) = (wkN V b).pl - (wkN V j).pl by omega, show (wkN V j).pl + A - ((wkN V b).pl + A) = (wkN V j).pl - (wkN V b).pl by omega]
      exact this
theorem sum_mul {α : Type} (c : Nat) (f : α → Nat) : ∀ (l : List α), (l.map fun a => c * f a).sum = c * (l.map f).sum
  | [] => rfl
  | a :: l => by rw [List.map_cons, List.sum_cons, sum_mul c f l, List.map_cons, List.sum_cons, Nat.mul_add]
/-- Side by side: the ways to choose, times both. -/
theorem cnt_beside {W V : List Wk} {A : Int} (hW : ∀ i, i < W.length → (wkN W i).pl ≤ A - 2) (hV : ∀ j, j < V.length → 0 ≤ (wkN V j).pl) : ∀ (s p q : Nat) (D : Nat → Bool) (lA lB : List Nat), p + q = s → Dn W.length D lA p → Dn V.length (fun k => D (W.length + k)) lB q →
    cnt (W ++ shW A V) s D = ch s q * (cnt W p D * cnt V q (fun k => D (W.length + k)))
  | 0, p, q, D, lA, lB, hs, _, _ => by
    obtain rfl : p = 0 := by omega
    obtain rfl : q = 0 := by omega
    rfl
  | s + 1, p, q, D, lA, lB, hs, hA, hB => by
    have hl : (W ++ shW A V).length = W.length + V.length := by simp [shW]
    have left : ((List.range W.length).map fun i => if rdyB (W ++ shW A V) D i = true then cnt (W ++ shW A V) s (fun j => decide (j = i) || D j) else 0).sum = if p = 0 then 0 else ch s q * (cnt W p D * cnt V q (fun k => D (W.length + k))) := by
      cases p with
      | zero =>
        rw [if_pos rfl]
        refine sum_zero fun i hi => ?_
        rw [rdyB_left (List.mem_range.1 hi), if_neg]
        intro h
        have := rdyB_done h
        rw [hA.full (List.mem_range.1 hi)] at this
        cases this
      | succ p =>
        rw [if_neg (by omega)]
        have e : cnt W (p + 1) D = ((List.range W.length).map fun i => if rdyB W D i = true then cnt W p (fun j => decide (j = i) || D j) else 0).sum := rfl
        rw [e, Nat.mul_comm (List.sum _) (cnt V q _), ← Nat.mul_assoc, ← sum_mul]
        refine sum_congr fun i hi => ?_
        have hi := List.mem_range.1 hi
        rw [rdyB_left hi]
        cases hr : rdyB W D i with
        | false => simp
        | true =>
          simp only [if_true]
          have hst := hA.step hi (rdyB_done hr)
          have hB' : Dn V.length (fun k => (fun j => decide (j = i) || D j) (W.length + k)) lB q := hB.out fun k hk => by
            have : ¬ W.length + k = i := by omega
            simp [this]
          rw [cnt_beside hW hV s p q _ _ lB (by omega) hst hB']
          rw [cnt_congr q (E := fun k => D (W.length + k)) fun k hk => by
            have : ¬ W.length + k = i := by omega
            simp [this]]
          rw [Nat.mul_comm (cnt W p _) (cnt V q _), Nat.mul_assoc]
    have right : ((List.range V.length).map fun j => if rdyB (W ++ shW A V) D (W.length + j) = true then cnt (W ++ shW A V) s (fun k => decide (k = W.length + j) || D k) else 0).sum = if q = 0 then 0 else ch s (q - 1) * (cnt W p D * cnt V q (fun k => D (W.length + k))) := by
      cases q with
      | zero =>
        rw [if_pos rfl]
        refine sum_zero fun j hj => ?_
        have hj := List.mem_range.1 hj
        rw [rdyB_right hW hV hj, if_neg]
        intro h
        have := rdyB_done h
        rw [hB.full hj] at this
        cases this
      | succ q =>
        rw [if_neg (by omega), Nat.add_sub_cancel]
        have e : cnt V (q + 1) (fun k => D (W.length + k)) = ((List.range V.length).map fun i => if rdyB V (fun k => D (W.length + k)) i = true then cnt V q (fun j => decide (j = i) || D (W.length + j)) else 0).sum := rfl
        rw [e, ← Nat.mul_assoc, ← sum_mul]
        refine sum_congr fun j hj => ?_
        have hj := List.mem_range.1 hj
        rw [rdyB_right hW hV hj]
        cases hr : rdyB V (fun k => D (W.length + k)) j with
        | false => simp
        | true =>
          simp only [if_true]
          have hst := hB.step hj (rdyB_done (D := fun k => D (W.length + k)) hr)
          have hA' : Dn W.length (fun k => decide (k = W.length + j) || D k) lA p := hA.out fun i hi => by
            have : ¬ i = W.length + j := by omega
            simp [this]
          have hB' : Dn V.length (fun k => (fun k => decide (k = W.length + j) || D k) (W.length + k)) (lB ++ [j]) q := hst.out fun k hk => by simp
          rw [cnt_beside hW hV s p q _ lA _ (by omega) hA' hB']
          rw [cnt_congr p (E := D) fun i hi => by
            have : ¬ i = W.length + j := by omega
            simp [this]]
          rw [cnt_congr q (D := fun k => decide (W.length + k = W.length + j) || D (W.length + k)) (E := fun k => decide (k = j) || D (W.length + k)) fun k hk => by simp]
          rw [Nat.mul_assoc]
    have e0 : cnt (W ++ shW A V) (s + 1) D = ((List.range (W ++ shW A V).length).map fun i => if rdyB (W ++ shW A V) D i = true then cnt (W ++ shW A V) s (fun j => decide (j = i) || D j) else 0).sum := rfl
    rw [e0, hl, List.range_add, List.map_append, List.sum_append, List.map_map, left]
    have right' : (List.map ((fun i => if rdyB (W ++ shW A V) D i = true then cnt (W ++ shW A V) s (fun j => decide (j = i) || D j) else 0) ∘ fun x => W.length + x) (List.range V.length)).sum = _ := right
    rw [right']
    generalize cnt W p D * cnt V q (fun k => D (W.length + k)) = T
    cases p with
    | zero =>
      obtain rfl : q = s + 1 := by omega
      rw [if_pos rfl, if_neg (by omega), Nat.add_sub_cancel, ch_self, ch_self]
      omega
    | succ p =>
      rw [if_neg (by omega)]
      cases q with
      | zero => rw [if_pos rfl, ch_0, ch_0]; omega
      | succ q =>
        rw [if_neg (by omega), Nat.add_sub_cancel, ch, Nat.add_mul]
        omega
def nOrd (W : List Wk) : Nat := cnt W W.length fun _ => false
theorem dn_0 (n : Nat) : Dn n (fun _ => false) [] n := ⟨List.nodup_nil, (fun i hi => by cases hi), by simp, fun i _ => rfl⟩
theorem ordN_cnt (W : List Wk) : ordN W.length (rdyR W) 0 = nOrd W := by
  have e : (0 : Nat).testBit = fun _ => false := by funext i; simp
  have h := ordC_cnt (W := W) W.length 0 [] (by rw [e]; exact dn_0 _) (Nat.two_pow_pos _)
  unfold ordN nOrd
  rw [h, e]
theorem nOrd_pos (W : List Wk) : 1 ≤ nOrd W := cnt_pos _ (dn_0 _)
theorem nOrd_le {W : List Wk} (h : W.length ≤ 12) : nOrd W ≤ 479001600 := by
  rw [← ordN_cnt]
  unfold ordN
  refine Nat.le_trans (ordC_fact (rdyR_lt W) W.length 0 (miss_le _ _)) (Nat.le_trans (fact_mono h) (Nat.le_of_eq (by simp [fact])))
theorem nOrd_beside {W V : List Wk} {A : Int} (hW : ∀ x ∈ W, x.pl ≤ A - 2) (hV : ∀ x ∈ V, 0 ≤ x.pl) : nOrd (W ++ shW A V) = ch (W.length + V.length) V.length * (nOrd W * nOrd V) := by
  unfold nOrd
  rw [show (W ++ shW A V).length = W.length + V.length by simp [shW]]
  exact cnt_beside (fun i hi => hW _ (List.mem_of_getElem? (wkN_some hi))) (fun j hj => hV _ (List.mem_of_getElem? (wkN_some hj))) _ _ _ _ [] [] rfl (dn_0 _) (dn_0 _)
theorem ord_of {s : Sh} (hc : chkS s = 0) (hl : s.ws.length ≤ 12) : cntE s = 0 ∧ ordV s = (nOrd s.ws : Int) := by
  have e : ordN s.ws.length (rdyM s.ws.length (frs (stepV s))) 0 = nOrd s.ws := by
    rw [stepV_ok hc, ordN_same (by omega) (clo_zero _), ordN_cnt]
  have h0 : cntE s = 0 := by
    unfold cntE
    rw [if_neg (by rw [hc]; simp), if_neg (by omega), e, if_neg (by have := nOrd_le hl; omega)]
  refine ⟨h0, ?_⟩
  unfold ordV
  rw [if_pos h0, e]
theorem ch_le : ∀ (n k : Nat), ch n k ≤ 2 ^ n
  | n, 0 => by rw [ch_0]; exact Nat.two_pow_pos n
  | 0, k + 1 => by rw [ch]; exact Nat.zero_le _
  | n + 1, k + 1 => by
    have h1 := ch_le n k
    have h2 := ch_le n (k + 1)
    rw [ch, Nat.pow_succ]
    omega
end Go.Proofs.Ytcjbjlepgdggpaa
