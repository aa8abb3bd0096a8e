/- Closed sets, works that are ready, lines: theory. -/
import Derived.Test.YtenfeekchggioaaOX
import Derived.Test.YtenfeekchggioaaOU
import Derived.Test.YtenfeekchggioaaFW
namespace Go.Proofs.Ytenfeekchggioaa
open Go.RowKit Go.Shelf
set_option linter.unusedSimpArgs false
theorem wait_char {pr : Nat} {W : List Wk} {ds : List Int} {b : Nat} (h : waitS ds (stepsL pr W) b = true) : ∃ a, a < b ∧ b < W.length ∧ tchN W a b = true ∧ doneS ds a = false := by
  unfold waitS at h
  obtain ⟨e, he, h2⟩ := List.any_eq_true.1 h
  obtain ⟨i, j, h3, h4, h5, h6, h7⟩ := step_char he
  simp only [Bool.and_eq_true, Bool.not_eq_true', decide_eq_true_eq, h3, h4, Int.toNat_natCast] at h2
  obtain ⟨h8, rfl⟩ := h2
  exact ⟨i, h5, h6, h7, h8⟩
theorem wait_mk {pr : Nat} {W : List Wk} {ds : List Int} {a c : Nat} {e : Ed} (he : e ∈ stepsL pr W) (hf : e.fr = (a : Int)) (ht : e.to = (c : Int)) (ha : doneS ds a = false) : waitS ds (stepsL pr W) c = true := by
  unfold waitS
  refine List.any_eq_true.2 ⟨e, he, ?_⟩
  rw [hf, ht]
  simp [ha]
/-- Where nothing that is done waits, what is not done makes the works that touch it wait. -/
theorem wait_to {pr : Nat} {W : List Wk} {ds : List Int} {b : Nat} (hb : b < W.length) (P : Prop) (hP : ∀ c, doneS ds c = true → waitS ds (stepsL pr W) c = true → c < b → P) : ∀ (m a : Nat), b ≤ a + m → a < b → tchN W a b = true → doneS ds a = false → P ∨ waitS ds (stepsL pr W) b = true
  | 0, a, h1, h2, _, _ => by omega
  | m + 1, a, h1, h2, ht, ha => by
    obtain ⟨c, g1, g2, g3, e, he, hf, hto⟩ := step_to (pr := pr) h2 hb ht
    have hw := wait_mk he hf hto ha
    by_cases hcb : c = b
    · subst hcb; exact .inr hw
    · by_cases hd : doneS ds c = true
      · exact .inl (hP c hd hw (by omega))
      · rcases g3 with e | g3
        · exact absurd e hcb
        · exact wait_to hb P hP m c (by omega) (by omega) g3 (by simpa using hd)
theorem wait_of {pr : Nat} {W : List Wk} {ds : List Int} (hC : Clo W (doneS ds)) {a b : Nat} (hab : a < b) (hb : b < W.length) (ht : tchN W a b = true) (ha : doneS ds a = false) : waitS ds (stepsL pr W) b = true := by
  rcases wait_to (pr := pr) (ds := ds) hb False (fun c h1 h2 h3 => by
    obtain ⟨a', g1, g2, g3, g4⟩ := wait_char h2
    have := hC c a' h1 g2 g1 g3
    rw [g4] at this
    cases this) b a (by omega) hab ht ha with h | h
  · exact h.elim
  · exact h
theorem clo_wait (pr : Nat) (W : List Wk) (ds : List Int) (hn : W.length ≤ 448) : ((List.range 448).any fun j => doneS ds j && waitS ds (stepsL pr W) j) = false ↔ Clo W (doneS ds) := by
  constructor
  · intro h
    have h' : ∀ j, j < 448 → doneS ds j = true → waitS ds (stepsL pr W) j = true → False := fun j hj h1 h2 => by
      have := List.any_eq_false.1 h j (List.mem_range.2 hj)
      rw [h1, h2] at this
      exact this rfl
    intro a b h1 h2 h3 h4
    by_cases hb : doneS ds b = true
    · exact hb
    · exfalso
      rcases wait_to (pr := pr) (ds := ds) h2 False (fun c g1 g2 g3 => h' c (by omega) g1 g2) a b (by omega) h3 h4 (by simpa using hb) with h | h
      · exact h
      · exact h' a (by omega) h1 h
  · intro hC
    rw [List.any_eq_false]
    intro j _ h
    rw [Bool.and_eq_true] at h
    obtain ⟨a, g1, g2, g3, g4⟩ := wait_char h.2
    have := hC j a h.1 g2 g1 g3
    rw [g4] at this
    cases this
/-- Is work a before work b? -/
def befN (W : List Wk) (b a : Nat) : Bool := (((rowsL W W.length)[b]?).getD fun _ => false) a
theorem rows_get (W : List Wk) : ∀ (n b : Nat), b < n → (rowsL W n)[b]? = some (rowOf W (rowsL W b) b b)
  | 0, b, h => by omega
  | n + 1, b, h => by
    rw [rowsL]
    by_cases e : b = n
    · subst e
      rw [List.getElem?_append_right (by rw [rowsL_len]; exact Nat.le_refl _), rowsL_len]
      simp
    · rw [List.getElem?_append_left (by rw [rowsL_len]; omega)]
      exact rows_get W n b (by omega)
theorem bef_iff {W : List Wk} {b a : Nat} (hb : b < W.length) : befN W b a = true ↔ ∃ k, k < b ∧ tchN W k b = true ∧ (a = k ∨ befN W k a = true) := by
  unfold befN
  rw [rows_get W W.length b hb]
  show rowOf W (rowsL W b) b b a = true ↔ _
  unfold rowOf
  rw [List.any_eq_true]
  have hk : ∀ k, k < b → ((rowsL W b)[k]?).getD (fun _ => false) = ((rowsL W W.length)[k]?).getD (fun _ => false) := fun k hk => by
    rw [rows_get W b k hk, rows_get W W.length k (by omega)]
  constructor
  · rintro ⟨k, h1, h2⟩
    have h1 := List.mem_range.1 h1
    rw [hk k h1] at h2
    simp only [Bool.and_eq_true, Bool.or_eq_true, decide_eq_true_eq] at h2
    exact ⟨k, h1, h2⟩
  · rintro ⟨k, h1, h2⟩
    refine ⟨k, List.mem_range.2 h1, ?_⟩
    rw [hk k h1]
    simp only [Bool.and_eq_true, Bool.or_eq_true, decide_eq_true_eq]
    exact h2
theorem bef_lt {W : List Wk} {a : Nat} : ∀ (m b : Nat), b ≤ m → b < W.length → befN W b a = true → a < b
  | 0, b, hm, hb, h => by
    obtain ⟨k, h1, _⟩ := (bef_iff hb).1 h
    omega
  | m + 1, b, hm, hb, h => by
    obtain ⟨k, h1, h2, h3⟩ := (bef_iff hb).1 h
    rcases h3 with rfl | h3
    · exact h1
    · have := bef_lt m k (by omega) (by omega) h3
      omega
theorem clo_bef {W : List Wk} {D : Nat → Bool} (hC : Clo W D) {a : Nat} : ∀ (m b : Nat), b ≤ m → b < W.length → D b = true → befN W b a = true → D a = true
  | 0, b, hm, hb, hd, h => by
    obtain ⟨k, h1, _⟩ := (bef_iff hb).1 h
    omega
  | m + 1, b, hm, hb, hd, h => by
    obtain ⟨k, h1, h2, h3⟩ := (bef_iff hb).1 h
    have hk := hC b k hd hb h1 h2
    rcases h3 with rfl | h3
    · exact hk
    · exact clo_bef hC m k (by omega) (by omega) hk h3
def badN (W : List Wk) (ds : List Int) (b a : Nat) : Bool := (doneS ds b && befN W b a) && !doneS ds a
def badAny (W : List Wk) (ds : List Int) : Bool := (List.range W.length).any fun b => (List.range b).any fun a => badN W ds b a
theorem clo_bad (W : List Wk) (ds : List Int) : badAny W ds = false ↔ Clo W (doneS ds) := by
  constructor
  · intro h a b h1 h2 h3 h4
    have := List.any_eq_false.1 h a (List.mem_range.2 h2)
    have := List.any_eq_false.1 (by simpa using this : ((List.range a).any fun c => badN W ds a c) = false) b (List.mem_range.2 h3)
    unfold badN at this
    rw [h1, (bef_iff h2).2 ⟨b, h3, h4, .inl rfl⟩] at this
    simpa using this
  · intro hC
    unfold badAny
    rw [List.any_eq_false]
    intro b hb h
    obtain ⟨a, ha, h2⟩ := List.any_eq_true.1 h
    unfold badN at h2
    simp only [Bool.and_eq_true, Bool.not_eq_true'] at h2
    have := clo_bef hC b b (Nat.le_refl _) (List.mem_range.1 hb) h2.1.1 h2.1.2
    rw [h2.2] at this
    cases this
open Classical in
/-- The error of Closed. -/
noncomputable def clE (s : Sh) (ds : List Int) : Int := if chkS s ≠ 0 then chkS s else if ¬ OkDone s.ws.length ds then 2 else if badAny s.ws ds = true then 4 else 0
theorem clE_err {s : Sh} {ds : List Int} (h : chkS s ≠ 0) : clE s ds = chkS s := by unfold clE; rw [if_pos h]
theorem clE_bad {s : Sh} {ds : List Int} (h : chkS s = 0) (hb : ¬ OkDone s.ws.length ds) : clE s ds = 2 := by unfold clE; rw [if_neg (by simp [h]), if_pos hb]
theorem clE_four {s : Sh} {ds : List Int} (h : chkS s = 0) (hb : OkDone s.ws.length ds) {b a : Nat} (h1 : b < s.ws.length) (h2 : a < b) (h3 : badN s.ws ds b a = true) : clE s ds = 4 := by
  unfold clE badAny
  rw [if_neg (by simp [h]), if_neg (by simp [hb]), if_pos]
  exact List.any_eq_true.2 ⟨b, List.mem_range.2 h1, List.any_eq_true.2 ⟨a, List.mem_range.2 h2, h3⟩⟩
theorem clE_ok {s : Sh} {ds : List Int} (h : chkS s = 0) (hb : OkDone s.ws.length ds) (h3 : ∀ b a, b < s.ws.length → a < b → badN s.ws ds b a = false) : clE s ds = 0 := by
  unfold clE badAny
  rw [if_neg (by simp [h]), if_neg (by simp [hb]), if_neg]
  intro e
  obtain ⟨b, hb, e2⟩ := List.any_eq_true.1 e
  obtain ⟨a, ha, e3⟩ := List.any_eq_true.1 e2
  rw [h3 b a (List.mem_range.1 hb) (List.mem_range.1 ha)] at e3
  cases e3
theorem bef_get {W : List Wk} {b : Nat} {R : Nat → Bool} (h : (rowsL W W.length)[b]? = some R) (a : Nat) : befN W b a = R a := by unfold befN; rw [h]; rfl
theorem clE_eq (s : Sh) (ds : List Int) : clE s ds = progE s ds := by
  by_cases h : chkS s = 0
  · by_cases hb : OkDone s.ws.length ds
    · have hn := (chk_small h).2.2.1
      have e : badAny s.ws ds = ((List.range 448).any fun j => doneS ds j && waitS ds (stepsL s.pr.toNat s.ws) j) := by
        rw [Bool.eq_iff_iff]
        have h1 := clo_bad s.ws ds
        have h2 := clo_wait s.pr.toNat s.ws ds (by omega)
        have h3 := h1.trans h2.symm
        constructor
        · intro g
          cases q : ((List.range 448).any fun j => doneS ds j && waitS ds (stepsL s.pr.toNat s.ws) j) with
          | true => rfl
          | false => rw [h3.2 q] at g; cases g
        · intro g
          cases q : badAny s.ws ds with
          | true => rfl
          | false => rw [h3.1 q] at g; cases g
      unfold clE progE
      rw [e]
    · rw [clE_bad h hb, progE_bad h hb]
  · rw [clE_err h, progE_err h]
theorem prog_clo {s : Sh} {ds : List Int} (h : progE s ds = 0) : chkS s = 0 ∧ OkDone s.ws.length ds ∧ Clo s.ws (doneS ds) := by
  obtain ⟨h1, h2, h3⟩ := progE_zero h
  exact ⟨h1, h2, (clo_wait s.pr.toNat s.ws ds (by have := (chk_small h1).2.2.1; omega)).1 h3⟩
theorem clo_prog {s : Sh} {ds : List Int} (h1 : chkS s = 0) (h2 : OkDone s.ws.length ds) (h3 : Clo s.ws (doneS ds)) : progE s ds = 0 :=
  progE_ok h1 h2 ((clo_wait s.pr.toNat s.ws ds (by have := (chk_small h1).2.2.1; omega)).2 h3)
/-- Ready, as the reference says it. -/
def refReadyP (W : List Wk) (ds : List Int) (b : Nat) : Bool := !doneS ds b && (List.range b).all fun a => doneS ds a || !befN W b a
def refReadyTo (W : List Wk) (ds : List Int) (k : Nat) : List Int := ((List.range k).filter (refReadyP W ds)).map fun (i : Nat) => (i : Int)
theorem ready_eq {pr : Nat} {W : List Wk} {ds : List Int} (hC : Clo W (doneS ds)) {b : Nat} (hb : b < W.length) : readyP pr W ds b = refReadyP W ds b := by
  unfold readyP refReadyP
  congr 1
  rw [Bool.eq_iff_iff]
  constructor
  · intro h
    have h : waitS ds (stepsL pr W) b = false := by simpa using h
    rw [List.all_eq_true]
    intro a ha
    by_cases hd : doneS ds a = true
    · rw [hd]; rfl
    · by_cases hf : befN W b a = true
      · exfalso
        obtain ⟨k, h1, h2, h3⟩ := (bef_iff hb).1 hf
        have hk : doneS ds k = false := by
          rcases h3 with rfl | h3
          · simpa using hd
          · rw [Bool.eq_false_iff]
            intro e
            exact hd (clo_bef hC k k (Nat.le_refl _) (by omega) e h3)
        rw [wait_of hC h1 hb h2 hk] at h
        cases h
      · have hf : befN W b a = false := by simpa using hf
        rw [hf]; simp
  · intro h
    rw [List.all_eq_true] at h
    rw [Bool.not_eq_true', Bool.eq_false_iff]
    intro e
    obtain ⟨a, g1, g2, g3, g4⟩ := wait_char e
    have := h a (List.mem_range.2 g1)
    rw [g4, (bef_iff hb).2 ⟨a, g1, g3, .inl rfl⟩] at this
    cases this
theorem readyL_eq {pr : Nat} {W : List Wk} {ds : List Int} (hC : Clo W (doneS ds)) : readyL pr W ds = refReadyTo W ds W.length := by
  unfold readyL readyTo refReadyTo
  congr 1
  exact List.filter_congr fun b hb => ready_eq hC (List.mem_range.1 hb)
/-- The line, as the reference says it. -/
def takesB (x : Wk) (p : Nat) : Bool := decide (0 ≤ (p : Int) - x.pl) && decide ((p : Int) - x.pl < 2)
def refAt (pr : Nat) (W : List Wk) (p : Nat) (ds : List Int) : Int := ds.foldl (fun at' z => if takesB (wkN W z.toNat) p = true then (pr : Int) + 2 * z + p - (wkN W z.toNat).pl else at') (p : Int)
theorem refAt_next (pr : Nat) (W : List Wk) (p : Nat) (ds : List Int) (k : Nat) (z : Int) (h : ds[k]? = some z) : refAt pr W p (ds.take (k + 1)) = if takesB (wkN W z.toNat) p = true then (pr : Int) + 2 * z + p - (wkN W z.toNat).pl else refAt pr W p (ds.take k) := by
  unfold refAt
  rw [List.take_add_one, h, List.foldl_append]
  rfl
theorem side_at {pr : Nat} {W : List Wk} {l : List Int} {k : Nat} {x : Wk} (hl : l.length = pr) (hx : W[k]? = some x) (h0 : 0 ≤ x.pl) {p : Nat} (hp : p < pr) : (sideL pr W l k 2)[p]? = if x.takes p then some ((pr + 2 * k + (p - x.pl.toNat) : Nat) : Int) else l[p]? := by
  have ha := at_eq hx
  have hti : x.takes p ↔ (0 ≤ (p : Int) - x.pl ∧ (p : Int) - x.pl < 2) := Iff.rfl
  unfold sideL
  rw [if_neg (by omega), if_neg (by omega), ha, List.getElem?_set, List.getElem?_set]
  simp only [List.length_set]
  by_cases c1 : x.pl.toNat + 1 = p
  · rw [if_pos c1, if_pos (by omega), if_pos (hti.2 (by omega))]
    congr 1
    omega
  · rw [if_neg c1]
    by_cases c2 : x.pl.toNat = p
    · rw [if_pos c2, if_pos (by omega), if_pos (hti.2 (by omega))]
      congr 1
      omega
    · rw [if_neg c2, if_neg (fun h => by have := hti.1 h; omega)]
theorem takes_b {x : Wk} {p : Nat} : takesB x p = true ↔ x.takes p := by
  unfold takesB Wk.takes
  simp
theorem line_ref {pr : Nat} {W : List Wk} {ds : List Int} (hr : ∀ z ∈ ds, 0 ≤ z ∧ z < (W.length : Int)) (hf : ∀ x ∈ W, 0 ≤ x.pl) {p : Nat} (hp : p < pr) : ∀ k, k ≤ ds.length → (lineL pr W (ds.take k))[p]? = some (refAt pr W p (ds.take k))
  | 0, _ => by
    rw [List.take_zero]
    show (line0 pr)[p]? = some (p : Int)
    unfold line0
    rw [List.getElem?_map, List.getElem?_range hp]
    rfl
  | k + 1, hk => by
    obtain ⟨z, hz⟩ : ∃ z, ds[k]? = some z := ⟨_, List.getElem?_eq_getElem (by omega)⟩
    have hzr := hr z (List.mem_of_getElem? hz)
    obtain ⟨i, rfl⟩ : ∃ i : Nat, z = (i : Int) := ⟨z.toNat, by omega⟩
    obtain ⟨x, hx⟩ : ∃ x, W[i]? = some x := ⟨_, List.getElem?_eq_getElem (by omega)⟩
    rw [lineL_next pr W ds k _ hz, refAt_next pr W p ds k _ hz]
    have h0 := hf x (List.mem_of_getElem? hx)
    show (sideL pr W _ (i : Int).toNat 2)[p]? = _
    rw [Int.toNat_natCast, side_at (lineL_len pr W _) hx h0 hp, wkN_get hx]
    by_cases ht : x.takes p
    · rw [if_pos ht, if_pos (takes_b.2 ht)]
      unfold Wk.takes at ht
      congr 1
      omega
    · rw [if_neg ht, if_neg (fun h => ht (takes_b.1 h))]
      exact line_ref hr hf hp k (by omega)
def refLineTo (pr : Nat) (W : List Wk) (ds : List Int) (k : Nat) : List Int := (List.range k).map fun p => refAt pr W p ds
theorem line_eq {pr : Nat} {W : List Wk} {ds : List Int} (hr : ∀ z ∈ ds, 0 ≤ z ∧ z < (W.length : Int)) (hf : ∀ x ∈ W, 0 ≤ x.pl) : lineL pr W ds = refLineTo pr W ds pr := by
  apply List.ext_getElem?
  intro p
  unfold refLineTo
  by_cases hp : p < pr
  · have := line_ref (ds := ds) hr hf hp ds.length (Nat.le_refl _)
    rw [List.take_length] at this
    rw [this, List.getElem?_map, List.getElem?_range hp]
    rfl
  · rw [List.getElem?_eq_none (by rw [lineL_len]; omega), List.getElem?_eq_none (by simp; omega)]
theorem okDone_mem {n : Nat} {ds : List Int} (h : OkDone n ds) : ∀ z ∈ ds, 0 ≤ z ∧ z < (n : Int) := fun z hz => by
  obtain ⟨k, hk⟩ := List.mem_iff_getElem?.1 hz
  exact (h k z hk).1
theorem okDone_lt {n : Nat} {ds : List Int} (h : OkDone n ds) : ∀ (d i : Nat) (x y : Int), ds[i]? = some x → ds[i + d + 1]? = some y → x < y
  | 0, i, x, y, hx, hy => (h _ y hy).2 x (by omega) hx
  | d + 1, i, x, y, hx, hy => by
    obtain ⟨z, hz⟩ : ∃ z, ds[i + d + 1]? = some z := ⟨_, List.getElem?_eq_getElem (by have := (List.getElem?_eq_some_iff.1 hy).1; omega)⟩
    have h1 := okDone_lt h d i x z hx hz
    have h2 := (h _ y hy).2 z (by omega) hz
    omega
theorem okDone_of {n : Nat} {ds : List Int} (h1 : ∀ z ∈ ds, 0 ≤ z ∧ z < (n : Int)) (h2 : ds.Pairwise (· < ·)) : OkDone n ds := fun k i hk => by
  refine ⟨h1 i (List.mem_of_getElem? hk), fun y h0 hy => ?_⟩
  obtain ⟨a1, a2⟩ := List.getElem?_eq_some_iff.1 hk
  obtain ⟨b1, b2⟩ := List.getElem?_eq_some_iff.1 hy
  rw [← a2, ← b2]
  exact List.pairwise_iff_getElem.1 h2 _ _ b1 a1 (by omega)
theorem okDone_pair {n : Nat} {ds : List Int} (h : OkDone n ds) : ds.Pairwise (· < ·) := by
  rw [List.pairwise_iff_getElem]
  intro i j hi hj hij
  have := okDone_lt h (j - i - 1) i ds[i] ds[j] (List.getElem?_eq_getElem hi) (by rw [show i + (j - i - 1) + 1 = j by omega]; exact List.getElem?_eq_getElem hj)
  exact this
theorem line_step2 {pr : Nat} {W : List Wk} {D : Nat → Bool} {l : List Int} {k : Nat} {x : Wk} (hI : LineInv pr W D l) (hQ : ∀ b, k < b → D b = true → tchN W k b = false) (hx : W[k]? = some x) (h0 : 0 ≤ x.pl) :
    LineInv pr W (fun j => decide (j = k) || D j) (sideL pr W l k 2) := by
  refine ⟨by rw [sideL_len]; exact hI.len, fun p hp => ?_⟩
  have get := side_at (W := W) hI.len hx h0 hp
  by_cases ht : x.takes p
  · right
    rw [if_pos ht] at get
    have htt := ht
    unfold Wk.takes at htt
    refine ⟨k, x, p - x.pl.toNat, hx, by simp, by omega, get, by omega, fun b y hb hy hDb hty => ?_⟩
    have hDb' : D b = true := by
      have : ¬ b = k := by omega
      simpa [this] using hDb
    have := hQ b hb hDb'
    rw [tch_of hx hy ht hty] at this
    cases this
  · rw [if_neg ht] at get
    have nk : ∀ b y, W[b]? = some y → (decide (b = k) || D b) = true → y.takes p → D b = true := fun b y hy hDb hty => by
      by_cases e : b = k
      · subst e
        rw [hx] at hy
        cases hy
        exact absurd hty ht
      · simpa [e] using hDb
    rcases hI.spot p hp with ⟨h1, h2⟩ | ⟨a, y, i, h1, h2, h3, h4, h5, h6⟩
    · exact .inl ⟨get.trans h1, fun b y hy hDb hty => h2 b y hy (nk b y hy hDb hty) hty⟩
    · exact .inr ⟨a, y, i, h1, by rw [h2]; simp, h3, get.trans h4, h5, fun b y' hb hy hDb hty => h6 b y' hb hy (nk b y' hy hDb hty) hty⟩
/-- The line of a rising list. -/
theorem line_rise {pr : Nat} {W : List Wk} {ds : List Int} (h : OkDone W.length ds) (hf : ∀ x ∈ W, 0 ≤ x.pl) : ∀ k, k ≤ ds.length → LineInv pr W (doneS (ds.take k)) (lineL pr W (ds.take k))
  | 0, _ => by
    rw [List.take_zero, doneS_nil]
    exact lineInv_0 pr W
  | k + 1, hk => by
    obtain ⟨z, hz⟩ : ∃ z, ds[k]? = some z := ⟨_, List.getElem?_eq_getElem (by omega)⟩
    have hzr := (h k z hz).1
    obtain ⟨i, rfl⟩ : ∃ i : Nat, z = (i : Int) := ⟨z.toNat, by omega⟩
    obtain ⟨x, hx⟩ : ∃ x, W[i]? = some x := ⟨_, List.getElem?_eq_getElem (by omega)⟩
    rw [lineL_next pr W ds k _ hz, ← doneS_snoc ds k i hz]
    refine line_step2 (line_rise h hf k (by omega)) (fun b hb hD => ?_) hx (hf x (List.mem_of_getElem? hx))
    exfalso
    unfold doneS at hD
    obtain ⟨j, hj⟩ := List.mem_iff_getElem?.1 (of_decide_eq_true hD)
    obtain ⟨j1, _⟩ := List.getElem?_eq_some_iff.1 hj
    rw [List.length_take] at j1
    rw [List.getElem?_take_of_lt (by omega)] at hj
    have := okDone_lt h (k - j - 1) j _ _ hj (by rw [show j + (k - j - 1) + 1 = k by omega]; exact hz)
    omega
theorem line_uniq {pr : Nat} {W : List Wk} {D : Nat → Bool} {l l' : List Int} (h : LineInv pr W D l) (h' : LineInv pr W D l') : l = l' := by
  apply List.ext_getElem?
  intro p
  by_cases hp : p < pr
  · rcases h.spot p hp with ⟨h1, h2⟩ | ⟨a, x, i, h1, h2, h3, h4, h5, h6⟩
    · rcases h'.spot p hp with ⟨g1, _⟩ | ⟨b, y, j, g1, g2, g3, g4, g5, g6⟩
      · rw [h1, g1]
      · exact absurd (show y.takes p by unfold Wk.takes; omega) (h2 b y g1 g2)
    · have hx : x.takes p := by unfold Wk.takes; omega
      rcases h'.spot p hp with ⟨_, g2⟩ | ⟨b, y, j, g1, g2, g3, g4, g5, g6⟩
      · exact absurd hx (g2 a x h1 h2)
      · have hy : y.takes p := by unfold Wk.takes; omega
        have e : a = b := by
          rcases Nat.lt_trichotomy a b with c | c | c
          · exact absurd hy (h6 b y c g1 g2)
          · exact c
          · exact absurd hx (g6 a x c h1 h2)
        subst e
        rw [h1] at g1
        cases g1
        rw [h4, g4, show i = j by omega]
  · rw [List.getElem?_eq_none (by rw [h.len]; omega), List.getElem?_eq_none (by rw [h'.len]; omega)]
theorem doneS_lt {n : Nat} {ds : List Int} (h : OkDone n ds) {j : Nat} (hj : doneS ds j = true) : j < n := by
  have := okDone_mem h _ (of_decide_eq_true hj)
  omega
/-- A work that is ready is done as well. -/
theorem ready_pre {pr : Nat} {W : List Wk} {ds : List Int} {w : Nat} (hC : Clo W (doneS ds)) (hw : w < W.length) (hr : readyP pr W ds w = true) : doneS ds w = false ∧ ∀ a, a < w → tchN W a w = true → doneS ds a = true := by
  unfold readyP at hr
  simp only [Bool.and_eq_true, Bool.not_eq_true'] at hr
  refine ⟨hr.1, fun a ha ht => ?_⟩
  by_cases hd : doneS ds a = true
  · exact hd
  · have := wait_of (pr := pr) hC ha hw ht (by simpa using hd)
    rw [hr.2] at this
    cases this
theorem ready_more {s : Sh} {ds more : List Int} {w : Nat} (h : progE s ds = 0) (hw : w < s.ws.length) (hr : readyP s.pr.toNat s.ws ds w = true) (h2 : OkDone s.ws.length more) (h3 : doneS more = fun j => decide (j = w) || doneS ds j) :
    progE s more = 0 ∧ lineL s.pr.toNat s.ws more = sideL s.pr.toNat s.ws (lineL s.pr.toNat s.ws ds) w 2 ∧ ∀ b, b ≠ w → readyP s.pr.toNat s.ws ds b = true → readyP s.pr.toNat s.ws more b = true := by
  obtain ⟨c1, c2, c3⟩ := prog_clo h
  obtain ⟨r1, r2⟩ := ready_pre c3 hw hr
  have hC : Clo s.ws (doneS more) := by rw [h3]; exact clo_step c3 r2
  have hf : ∀ x ∈ s.ws, 0 ≤ x.pl := fun x hx => ((chk_small c1).2.2.2 x hx).1
  obtain ⟨x, hx⟩ : ∃ x, s.ws[w]? = some x := ⟨_, List.getElem?_eq_getElem hw⟩
  refine ⟨clo_prog c1 h2 hC, ?_, fun b hb hrb => ?_⟩
  · have a1 := line_rise (pr := s.pr.toNat) c2 hf ds.length (Nat.le_refl _)
    have a2 := line_rise (pr := s.pr.toNat) h2 hf more.length (Nat.le_refl _)
    rw [List.take_length] at a1 a2
    refine line_uniq a2 ?_
    rw [h3]
    refine line_step2 a1 (fun b hb hD => ?_) hx (hf x (List.mem_of_getElem? hx))
    rw [Bool.eq_false_iff]
    intro ht
    have := c3 b w hD (doneS_lt c2 hD) hb ht
    rw [r1] at this
    cases this
  · unfold readyP at hrb ⊢
    simp only [Bool.and_eq_true, Bool.not_eq_true'] at hrb ⊢
    refine ⟨by rw [h3]; simp [hb, hrb.1], ?_⟩
    rw [Bool.eq_false_iff]
    intro e
    obtain ⟨a, g1, g2, g3, g4⟩ := wait_char e
    have g4' : doneS ds a = false := by
      rw [h3] at g4
      simp only [Bool.or_eq_false_iff] at g4
      exact g4.2
    have := wait_of (pr := s.pr.toNat) c3 g1 g2 g3 g4'
    rw [hrb.2] at this
    cases this
theorem ready_apart {pr : Nat} {W : List Wk} {ds : List Int} {a b : Nat} (hC : Clo W (doneS ds)) (hb : b < W.length) (hab : a < b) (ha : readyP pr W ds a = true) (hr : readyP pr W ds b = true) : tchN W a b = false := by
  rw [Bool.eq_false_iff]
  intro ht
  have h1 := (ready_pre hC (by omega) ha).1
  have := (ready_pre hC hb hr).2 a hab ht
  rw [h1] at this
  cases this
/-- Something is ready unless all is done. -/
theorem ready_some {pr : Nat} {W : List Wk} {ds : List Int} : ∀ (m : Nat), m ≤ W.length → (∃ j, j < m ∧ doneS ds j = false) → ∃ i, i < W.length ∧ readyP pr W ds i = true
  | 0, _, ⟨j, h, _⟩ => by omega
  | m + 1, hm, h => by
    by_cases q : ∃ j, j < m ∧ doneS ds j = false
    · exact ready_some m (by omega) q
    · obtain ⟨j, h1, h2⟩ := h
      have e : j = m := by
        by_cases c : j < m
        · exact absurd ⟨j, c, h2⟩ q
        · omega
      subst e
      refine ⟨j, hm, ?_⟩
      unfold readyP
      simp only [Bool.and_eq_true, Bool.not_eq_true']
      refine ⟨h2, ?_⟩
      rw [Bool.eq_false_iff]
      intro e
      obtain ⟨a, g1, g2, g3, g4⟩ := wait_char e
      exact q ⟨a, g1, g4⟩
theorem ready_none {pr : Nat} {W : List Wk} {ds : List Int} (hd : OkDone W.length ds) : (readyL pr W ds).length = 0 ↔ ds.length = W.length := by
  have hp := okDone_pair hd
  have hnd : (ds.map Int.toNat).Nodup := by
    unfold List.Nodup
    rw [List.pairwise_map]
    refine List.Pairwise.imp_of_mem (fun {a b} ha hb hab => ?_) hp
    have := okDone_mem hd a ha
    have := okDone_mem hd b hb
    omega
  have hlt : ∀ x ∈ ds.map Int.toNat, x < W.length := fun x hx => by
    obtain ⟨z, hz, rfl⟩ := List.mem_map.1 hx
    have := okDone_mem hd z hz
    omega
  have hle : ds.length ≤ W.length := by
    have := nodup_len W.length _ hnd hlt
    simpa using this
  constructor
  · intro h
    rcases Nat.lt_or_ge ds.length W.length with c | c
    · exfalso
      have : ∃ j, j < W.length ∧ doneS ds j = false := by
        rcases Classical.em (∃ j, j < W.length ∧ doneS ds j = false) with q | q
        · exact q
        · exfalso
          have hall : ∀ j, j < W.length → j ∈ ds.map Int.toNat := fun j hj => by
            have : doneS ds j = true := by
              cases e : doneS ds j with
              | true => rfl
              | false => exact absurd ⟨j, hj, e⟩ q
            exact List.mem_map.2 ⟨(j : Int), of_decide_eq_true this, by simp⟩
          have h1 : (List.range W.length).length ≤ (ds.map Int.toNat).length := List.Nodup.length_le_of_subset List.nodup_range (fun x hx => hall x (List.mem_range.1 hx))
          simp at h1
          omega
      obtain ⟨i, h1, h2⟩ := ready_some (pr := pr) W.length (Nat.le_refl _) this
      have : (i : Int) ∈ readyL pr W ds := List.mem_map.2 ⟨i, List.mem_filter.2 ⟨List.mem_range.2 h1, h2⟩, rfl⟩
      rw [List.eq_nil_of_length_eq_zero h] at this
      cases this
    · omega
  · intro h
    rcases Nat.eq_zero_or_pos (readyL pr W ds).length with c | c
    · exact c
    · exfalso
      obtain ⟨z, hz⟩ : ∃ z, z ∈ readyL pr W ds := ⟨_, List.getElem_mem c⟩
      obtain ⟨i, hi, rfl⟩ := List.mem_map.1 hz
      obtain ⟨h1, h2⟩ := List.mem_filter.1 hi
      unfold readyP at h2
      simp only [Bool.and_eq_true, Bool.not_eq_true'] at h2
      have hn : i ∉ ds.map Int.toNat := fun hm => by
        obtain ⟨z, hz, e⟩ := List.mem_map.1 hm
        have := okDone_mem hd z hz
        have e2 : z = (i : Int) := by omega
        subst e2
        have : doneS ds i = true := decide_eq_true hz
        rw [h2.1] at this
        cases this
      have := nodup_len W.length (i :: ds.map Int.toNat) (List.nodup_cons.2 ⟨hn, hnd⟩) (fun x hx => by
        rcases List.mem_cons.1 hx with rfl | hx
        · exact List.mem_range.1 h1
        · exact hlt x hx)
      simp at this
      omega
end Go.Proofs.Ytenfeekchggioaa
