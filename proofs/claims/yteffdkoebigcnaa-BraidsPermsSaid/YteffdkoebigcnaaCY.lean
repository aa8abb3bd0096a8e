/- Plain theory: what is dropped of a laid strand is what is dropped of the word; where strands end. No program is walked here. -/
import Derived.Test.YteffdkoebigcnaaCX
namespace Go.Proofs.Yteffdkoebigcnaa
/-- Where a strand that lies in a place ends. -/
def gw (p : Nat) (ws : List Int) : Nat := ws.foldl (fun p z => sw (num z) p) p
theorem gw_snoc (p : Nat) (ws : List Int) (z : Int) : gw p (ws ++ [z]) = sw (num z) (gw p ws) := by simp [gw]
theorem gw_app (p : Nat) (a b : List Int) : gw p (a ++ b) = gw (gw p a) b := by simp [gw]
theorem gw_line (ws : List Int) (i : Nat) : (lineP ws).g i = gw i ws := by
  induction ws using snoc_ind with
  | h0 => rfl
  | h1 l a ih =>
    rw [lineP_snoc, gw_snoc]
    show sw (num a) ((lineP l).g i) = _
    rw [ih]
def rel (s i : Nat) : Nat := if i < s then i else i - 1
def unrel (e q : Nat) : Nat := if q < e then q else q + 1
theorem unrel_rel {e p : Nat} (h : p ≠ e) : unrel e (rel e p) = p := by
  unfold unrel rel
  repeat' split
  all_goals omega
theorem num_ltr (above : Bool) (p : Nat) : num (ltr above (p + 1)) = p := by unfold num ltr; split <;> omega
theorem ltr_letter {n p : Nat} (above : Bool) (h : p + 1 < n) : Letter n (ltr above (p + 1)) := by
  unfold ltr
  split
  · exact ⟨by omega, by omega, by omega⟩
  · exact ⟨by omega, by omega, by omega⟩
theorem dropS_fold (ws : List Int) (x : List Int × Nat) (z : Int) : (ws ++ [z]).foldl dropS x = dropS (ws.foldl dropS x) z := by simp
theorem up_drop (s : Nat) (above : Bool) (o : List Int) : ∀ k, ((List.range k).map fun j => ltr above (s + 1 + j)).foldl dropS (o, s) = (o, s + k)
  | 0 => rfl
  | k + 1 => by
    rw [List.range_succ, List.map_append, List.map_cons, List.map_nil, dropS_fold, up_drop s above o k]
    have e : num (ltr above (s + 1 + k)) = s + k := by rw [show s + 1 + k = (s + k) + 1 by omega]; exact num_ltr above _
    unfold dropS
    rw [e]
    simp only [true_or, if_true, sw_l]
    rfl
theorem up_gw (s : Nat) (above : Bool) (i : Nat) (hi : i ≠ s) : ∀ k, gw i ((List.range k).map fun j => ltr above (s + 1 + j)) = if s < i ∧ i ≤ s + k then i - 1 else i
  | 0 => by rw [if_neg (by omega)]; rfl
  | k + 1 => by
    rw [List.range_succ, List.map_append, List.map_cons, List.map_nil, gw_snoc, up_gw s above i hi k]
    have e : num (ltr above (s + 1 + k)) = s + k := by rw [show s + 1 + k = (s + k) + 1 by omega]; exact num_ltr above _
    rw [e]
    unfold sw
    repeat' split
    all_goals omega
theorem down_drop (n : Nat) (above : Bool) (o : List Int) : ∀ k, k ≤ n - 1 → ((List.range k).map fun j => ltr above (n - 1 - j)).foldl dropS (o, n - 1) = (o, n - 1 - k)
  | 0, _ => rfl
  | k + 1, h => by
    rw [List.range_succ, List.map_append, List.map_cons, List.map_nil, dropS_fold, down_drop n above o k (by omega)]
    obtain ⟨p, hp⟩ : ∃ p, n - 1 - k = p + 1 := ⟨n - 1 - k - 1, by omega⟩
    have e2 : n - 1 - (k + 1) = p := by omega
    rw [hp, e2]
    unfold dropS
    rw [num_ltr]
    simp only [or_true, if_true, sw_r]
theorem down_gw (n : Nat) (above : Bool) (q : Nat) (hq : q + 1 < n) : ∀ k, k ≤ n - 1 → gw q ((List.range k).map fun j => ltr above (n - 1 - j)) = if n - 1 - k ≤ q then q + 1 else q
  | 0, _ => by rw [if_neg (by omega)]; rfl
  | k + 1, h => by
    rw [List.range_succ, List.map_append, List.map_cons, List.map_nil, gw_snoc, down_gw n above q hq k (by omega)]
    obtain ⟨p, hp⟩ : ∃ p, n - 1 - k = p + 1 := ⟨n - 1 - k - 1, by omega⟩
    have e2 : n - 1 - (k + 1) = p := by omega
    rw [hp, e2, num_ltr]
    unfold sw
    repeat' split
    all_goals omega
theorem mid_drop {n : Nat} (ws : List Int) : Word (n - 1) ws → ∀ o, ws.foldl dropS (o, n - 1) = (o ++ ws, n - 1) := by
  induction ws using snoc_ind with
  | h0 => intro _ o; simp
  | h1 l a ih =>
    intro h o
    rw [dropS_fold, ih h.left o]
    have hn := num_lt (h a (by simp))
    unfold dropS
    simp only
    rw [if_neg (by omega), if_neg (by omega), sw_o (by omega) (by omega), List.append_assoc]
theorem num_less {z : Int} (_ : 0 < num z) : num (z - sgn z) = num z - 1 := by
  unfold num at *
  unfold sgn
  split <;> omega
theorem drop_word {n s : Nat} (hs : s < n) (ws : List Int) : Word n ws → Word (n - 1) (dropW s ws).1 := by
  induction ws using snoc_ind with
  | h0 => intro _ z hz; simp [dropW] at hz
  | h1 l a ih =>
    intro h
    have hl := ih h.left
    have hq := dropW_lt hs l h.left
    have ha := h a (by simp)
    have hn := num_lt ha
    have e : dropW s (l ++ [a]) = dropS (dropW s l) a := by simp [dropW]
    rw [e]
    unfold dropS
    simp only
    split
    · exact hl
    · split
      · refine hl.app (Word.one ?_)
        unfold num at *
        obtain ⟨a1, a2, a3⟩ := ha
        unfold sgn
        split
        · exact ⟨by omega, by omega, by omega⟩
        · exact ⟨by omega, by omega, by omega⟩
      · refine hl.app (Word.one ?_)
        unfold num at *
        obtain ⟨a1, a2, a3⟩ := ha
        exact ⟨by omega, by omega, by omega⟩
theorem drop_lay {n s : Nat} (hs : s < n) (above : Bool) (ws : List Int) (hw : Word n ws) : dropW s (layW n ws s above) = dropW s ws := by
  have h1 : (layP n s above).foldl dropS ([], s) = ([], n - 1) := by
    unfold layP
    rw [up_drop, show s + (n - 1 - s) = n - 1 by omega]
  have he := dropW_lt hs ws hw
  have h3 : ∀ o, (layQ n (dropW s ws).2 above).foldl dropS (o, n - 1) = (o, (dropW s ws).2) := fun o => by
    unfold layQ
    rw [down_drop n _ o _ (by omega)]
    congr 1
    omega
  unfold layW
  show (layP n s above ++ (dropW s ws).1 ++ layQ n (dropW s ws).2 above).foldl dropS ([], s) = _
  rw [List.foldl_append, List.foldl_append, h1, mid_drop _ (drop_word hs ws hw), List.nil_append, h3]
theorem gw_inj {p q : Nat} (ws : List Int) (h : gw p ws = gw q ws) : p = q := by
  rw [← gw_line, ← gw_line] at h
  exact (lineP ws).ginj h
theorem gw_drop {s i : Nat} (hi : i ≠ s) (ws : List Int) : (∀ z ∈ ws, z ≠ 0) → gw (rel s i) (dropW s ws).1 = rel (gw s ws) (gw i ws) := by
  induction ws using snoc_ind with
  | h0 => intro _; rfl
  | h1 l a ih =>
    intro h0
    have ih := ih (fun z hz => h0 z (by simp [hz]))
    have hq : (dropW s l).2 = gw s l := by rw [drop_at, gw_line]
    have hne : gw i l ≠ gw s l := fun e => hi (gw_inj l e)
    have e : dropW s (l ++ [a]) = dropS (dropW s l) a := by simp [dropW]
    rw [e, gw_snoc, gw_snoc]
    unfold dropS
    simp only
    rw [hq]
    generalize gw s l = q at *
    generalize gw i l = p at *
    obtain ⟨k, hk⟩ : ∃ k, k = num a := ⟨_, rfl⟩
    by_cases c1 : q = k ∨ q = k + 1
    · rw [← hk, if_pos c1, ih]
      unfold rel sw
      repeat' split
      all_goals omega
    · by_cases c2 : q < k + 1
      · have hnl := num_less (z := a) (by omega)
        rw [← hk, if_neg c1, if_pos c2, gw_snoc, hnl, ih, ← hk]
        unfold rel sw
        repeat' split
        all_goals omega
      · rw [← hk, if_neg c1, if_neg c2, gw_snoc, ih, ← hk]
        unfold rel sw
        repeat' split
        all_goals omega
theorem lay_word {n s : Nat} (hs : s < n) (above : Bool) (ws : List Int) (hw : Word n ws) : Word n (layW n ws s above) := by
  have he := dropW_lt hs ws hw
  unfold layW
  refine (Word.app (fun z hz => ?_) (fun z hz => ?_)).app (fun z hz => ?_)
  · obtain ⟨j, hj, rfl⟩ := List.mem_map.1 hz
    have := List.mem_range.1 hj
    rw [show s + 1 + j = (s + j) + 1 by omega]
    exact ltr_letter above (by omega)
  · have := drop_word hs ws hw z hz
    exact ⟨this.1, by omega, by omega⟩
  · obtain ⟨j, hj, rfl⟩ := List.mem_map.1 hz
    have := List.mem_range.1 hj
    obtain ⟨p, hp⟩ : ∃ p, n - 1 - j = p + 1 := ⟨n - 1 - j - 1, by omega⟩
    rw [hp]
    exact ltr_letter _ (by omega)
theorem lay_gw {n s : Nat} (hs : s < n) (above : Bool) (ws : List Int) (hw : Word n ws) {i : Nat} (hi : i < n) : gw i (layW n ws s above) = gw i ws := by
  by_cases e : i = s
  · subst e
    rw [← gw_line, ← gw_line, ← drop_at, ← drop_at, drop_lay hs above ws hw]
  · have hz : ∀ z ∈ ws, z ≠ 0 := fun z h => (hw z h).1
    have hd := gw_drop e ws hz
    have hq : (dropW s ws).2 = gw s ws := by rw [drop_at, gw_line]
    have he := dropW_lt hs ws hw
    have hgi : gw i ws < n := by rw [← gw_line]; exact (lineP_in ws hw).glt hi
    have hne : gw i ws ≠ gw s ws := fun e' => e (gw_inj ws e')
    unfold layW layP layQ
    rw [gw_app, gw_app, up_gw s above i e]
    have e1 : (if s < i ∧ i ≤ s + (n - 1 - s) then i - 1 else i) = rel s i := by
      unfold rel
      repeat' split
      all_goals omega
    rw [e1, hd, hq]
    rw [hq] at he
    have hr : rel (gw s ws) (gw i ws) + 1 < n := by unfold rel; split <;> omega
    rw [down_gw n _ _ hr _ (by omega)]
    have e2 : (if n - 1 - (n - 1 - gw s ws) ≤ rel (gw s ws) (gw i ws) then rel (gw s ws) (gw i ws) + 1 else rel (gw s ws) (gw i ws)) = unrel (gw s ws) (rel (gw s ws) (gw i ws)) := by
      unfold unrel
      repeat' split
      all_goals omega
    rw [e2, unrel_rel hne]
theorem lay_perm {n s : Nat} (hs : s < n) (above : Bool) (ws : List Int) (hw : Word n ws) : permL n (layW n ws s above) = permL n ws := by
  unfold permL ints
  refine List.map_congr_left fun i hi => ?_
  show ((lineP _).g i : Int) = ((lineP ws).g i : Int)
  rw [gw_line, gw_line, lay_gw hs above ws hw (List.mem_range.1 hi)]
end Go.Proofs.Yteffdkoebigcnaa
