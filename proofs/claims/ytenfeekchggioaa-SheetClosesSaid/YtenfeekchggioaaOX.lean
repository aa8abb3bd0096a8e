/- The reference's rows: which works are before which. -/
import Derived.Test.YtenfeekchggioaaOS
namespace Go.Proofs.Ytenfeekchggioaa
open Go.RowKit Go.Shelf
set_option linter.unusedSimpArgs false
attribute [local irreducible] wpQuiet
theorem infoBools : (Try.prog.info? 75).map (fun i => (i.zero, i.size, i.bytes)) = some (some (.slice none 0 0), 1, 24) := by kernel_rfl
/-- A row of the table: which works are before work b, works under A looked at. -/
def rowOf (W : List Wk) (L : List (Nat → Bool)) (b A : Nat) (a : Nat) : Bool := (List.range A).any fun k => tchN W k b && (decide (a = k) || ((L[k]?).getD fun _ => false) a)
def rowsL (W : List Wk) : Nat → List (Nat → Bool)
  | 0 => []
  | n + 1 => rowsL W n ++ [rowOf W (rowsL W n) n n]
theorem rowsL_len (W : List Wk) : ∀ n, (rowsL W n).length = n
  | 0 => rfl
  | n + 1 => by rw [rowsL, List.length_append, rowsL_len W n]; rfl
theorem rowOf_next (W : List Wk) (L : List (Nat → Bool)) (b A : Nat) : rowOf W L b (A + 1) = fun a => rowOf W L b A a || (tchN W A b && (decide (a = A) || ((L[A]?).getD fun _ => false) a)) := by
  funext a
  unfold rowOf
  rw [List.range_succ, List.any_append]
  simp
theorem rowOf_lt {W : List Wk} {L : List (Nat → Bool)} {b A a : Nat} (hL : ∀ (k : Nat) R, L[k]? = some R → R a = true → a < k) (h : rowOf W L b A a = true) : a < A := by
  unfold rowOf at h
  obtain ⟨k, hk, h2⟩ := List.any_eq_true.1 h
  have hk := List.mem_range.1 hk
  simp only [Bool.and_eq_true, Bool.or_eq_true, decide_eq_true_eq] at h2
  rcases h2.2 with e | e
  · omega
  · cases hR : L[k]? with
    | none => rw [hR] at e; cases e
    | some R =>
      rw [hR] at e
      have := hL k R hR e
      omega
theorem rowsL_lt (W : List Wk) (a : Nat) : ∀ (n k : Nat) R, (rowsL W n)[k]? = some R → R a = true → a < k
  | 0, k, R, h, _ => by simp [rowsL] at h
  | n + 1, k, R, h, hR => by
    rw [rowsL] at h
    by_cases hk : k < n
    · rw [List.getElem?_append_left (by rw [rowsL_len]; exact hk)] at h
      exact rowsL_lt W a n k R h hR
    · have e : k = n := by
        have := (List.getElem?_eq_some_iff.1 h).1
        rw [List.length_append, rowsL_len] at this
        simp at this
        omega
      subst e
      rw [List.getElem?_append_right (by rw [rowsL_len]; exact Nat.le_refl _), rowsL_len] at h
      simp at h
      rw [← h] at hR
      exact rowOf_lt (rowsL_lt W a k) hR
/-- Own rows of Booleans, one for each work. -/
def BRows (B n : Nat) (w : World) (fs : List Value) (D : List (Nat → Bool)) : Prop := ∀ (k : Nat) A, D[k]? = some A → ∃ g, fs[k]? = some (.slice (some ⟨g, 0, none⟩) n n) ∧ BO B w g n A
theorem BRows.below {B n : Nat} {w w' : World} {fs : List Value} {D : List (Nat → Bool)} (h : BRows B n w fs D) (hb : Below w.heap.size w w') : BRows B n w' fs D := fun k A hA => by
  obtain ⟨g, hg, ho⟩ := h k A hA
  exact ⟨g, hg, ho.below hb⟩
theorem BRows.grown {B B' n m : Nat} {w w' : World} {fs xs : List Value} {D : List (Nat → Bool)} {v : Value} (h : BRows B n w fs D) (hv : w.ownsRow B' 75 1 v m xs) (hg : w.grownBy w' v.ownBlock) : BRows B n w' fs D := fun k A hA => by
  obtain ⟨g, he, ho⟩ := h k A hA
  exact ⟨g, he, World.ownsRow.kept ho hg (own_apart ho hv (by decide))⟩
theorem BRows.snoc {B n g : Nat} {w : World} {fs : List Value} {D : List (Nat → Bool)} {A : Nat → Bool} (h : BRows B n w fs D) (hl : fs.length = D.length) (hu : BO B w g n A) : BRows B n w (fs ++ [.slice (some ⟨g, 0, none⟩) n n]) (D ++ [A]) := fun k y hy => by
  rcases Nat.lt_or_ge k D.length with hk | hk
  · rw [List.getElem?_append_left hk] at hy
    obtain ⟨v, hv, ho⟩ := h k y hy
    exact ⟨v, by rw [List.getElem?_append_left (by omega)]; exact hv, ho⟩
  · rw [List.getElem?_append_right hk] at hy
    obtain rfl : k = D.length := by
      rcases Nat.eq_zero_or_pos (k - D.length) with h0 | h0
      · omega
      · rw [List.getElem?_eq_none (by simp; omega)] at hy; cases hy
    simp at hy
    subst hy
    exact ⟨g, by rw [List.getElem?_append_right (by omega), hl]; simp, hu⟩
/-- A store into another block leaves an own row as it is. -/
theorem own_other {w : World} {B k n : Nat} {e : TypeId} {v : Value} {xs : List Value} (h : w.ownsRow B e k v n xs) {p : Addr} (x : Value) (hne : v.ownBlock ≠ some p.block) : (w.setCell p x).ownsRow B e k v n xs := by
  obtain ⟨hl, hh⟩ := h
  refine ⟨hl, ?_⟩
  rcases hh with h0 | ⟨g2, cap, cur, e2, hB, hg2, h1⟩
  · exact .inl h0
  · refine .inr ⟨g2, cap, cur, e2, hB, (heap_setCell_other _ _ _ _ (fun h => hne ?_)).trans hg2, h1⟩
    rw [e2]
    show some g2 = _
    rw [h]
theorem bo_setv {B g n : Nat} {w : World} {A : Nat → Bool} (h : BO B w g n A) (i : Nat) (x : Bool) : BO B (w.setCell ⟨g, i, none⟩ (.bool x)) g n (fun j => if j = i then x else A j) := by
  have := (World.ownsRow.stored h i (.bool x)).1
  unfold BO
  have e : (blC n A).set i (.bool x) = blC n (fun j => if j = i then x else A j) := by
    apply List.ext_getElem?
    intro j
    rw [List.getElem?_set]
    by_cases c : i = j
    · subst c
      rw [if_pos rfl, blC_len]
      by_cases h : i < n
      · rw [if_pos h, blC_get _ _ h, if_pos rfl]
      · rw [if_neg h, List.getElem?_eq_none (by rw [blC_len]; omega)]
    · rw [if_neg c]
      by_cases h : j < n
      · rw [blC_get _ _ h, blC_get _ _ h, if_neg (fun e => c e.symm)]
      · rw [List.getElem?_eq_none (by rw [blC_len]; omega), List.getElem?_eq_none (by rw [blC_len]; omega)]
  rw [← e]
  exact this
theorem BRows.other {B n : Nat} {w : World} {fs : List Value} {D : List (Nat → Bool)} (h : BRows B n w fs D) {p : Addr} (x : Value) (hne : ∀ (k g : Nat), fs[k]? = some (.slice (some ⟨g, 0, none⟩) n n) → g ≠ p.block) : BRows B n (w.setCell p x) fs D := fun k A hA => by
  obtain ⟨g, hg, ho⟩ := h k A hA
  exact ⟨g, hg, own_other ho x (by show some g ≠ some p.block; intro e; exact hne k g hg (Option.some.inj e))⟩
/-- append(v, u), u a row. -/
theorem app_br {ops : Array Oper} {rest : List Oper} {o : Oper} {a : Act} {Q : Exit → Act → World → Prop} {w w0 : World} (B : Nat) (v : Value) (fs : List Value) (u : Value)
    (hgd : o.guard = none) (s y : Operand) (ho : o.op = .call { callee := .builtin .append, args := #[s, y], argTypes := #[76, 76] }) (hs : a.eval s = v)
    (hown : w.ownsRow B 75 1 v fs.length fs) (hu : u.oneCell' = true) (hy : a.eval y = .slice (some ⟨w.heap.size, 0, none⟩) 1 1) (hl : fs.length < 100000) (hb : Below B w0 w) (hB : B ≤ w.heap.size)
    (h : ∀ v' w', w'.ownsRow B 75 1 v' (fs.length + 1) (fs ++ [u]) → Below B w0 w' → (w.alloc (.cells #[u] 75)).grownBy w' v.ownBlock → wpList Try.prog ops Q rest (a.put o.dst v') w') :
    wpList Try.prog ops Q (o :: rest) a (w.alloc (.cells #[u] 75)) := by
  obtain ⟨i0, hi, hz0, hz1, hz2⟩ := info_parts infoBools
  refine wpList_append_own _ hgd s y 76 ho B 75 i0 (.slice none 0 0) 1 24 Try.underlying76 hi hz0 hz1 hz2 rfl (by decide) v _ _ hs (hown.alloc _) ⟨w.heap.size, 0, none⟩ 1 1 [u] hy rfl (cell_one_new _ _ _) (by simpa using hu) (by unfold maxLen; omega) (by omega) (by simp; omega) ?_
  intro v' w' hown' hgrow _
  exact h v' w' hown' (Below.grown (hb.alloc hB _) hgrow (by simp; omega) fun k e => (hown.lt k e).1) hgrow
set_option maxRecDepth 100000 in
set_option maxHeartbeats 4000000 in
theorem refRows_any (s : Sh) (v : Value) (w : World) (hv : SV w v s) (hc : chkS s = 0) :
    Calls Try.prog 46 #[v] w fun e w' => ∃ vo fs B, e = .returned vo ∧ w'.ownsRow B 75 1 vo s.ws.length fs ∧ BRows B s.ws.length w' fs (rowsL s.ws s.ws.length) ∧ Below w.heap.size w w' := by
  obtain ⟨u, rfl, hu⟩ := hv
  obtain ⟨ua, uc, rfl, k1, k2, hU⟩ := id hu
  have HU := Lib.hid hU
  obtain ⟨s1, s2, hsm⟩ := chk_small hc
  have HSM := Lib.hid hsm
  have hw4 : s.ws.length ≤ 400 := hsm.1
  clear hU hu hc hsm
  obtain ⟨n, hn⟩ : ∃ n, n = s.ws.length := ⟨_, rfl⟩
  have HNL := Lib.hid hn
  rw [← hn] at k1 hw4 ⊢
  clear hn
  go_enter Try.func46, Try.ntmps46
  have h0 := heap_alloc_new w (.cells #[.int .i64 s.pr, .slice ua n uc] 24)
  have b0 := below_alloc w (.cells #[.int .i64 s.pr, .slice ua n uc] 24)
  have z0 : (w.alloc (.cells #[.int .i64 s.pr, .slice ua n uc] 24)).heap.size = w.heap.size + 1 := by simp
  go_upto_region 2 with fail
  obtain ⟨B, hB⟩ : ∃ B, B = w.heap.size + 1 := ⟨_, rfl⟩
  rw [← hB] at z0
  have hwB : w.heap.size < B := by omega
  generalize w.alloc (.cells #[.int .i64 s.pr, .slice ua n uc] 24) = w0 at *
  have H0 := Lib.hid h0
  have HB0 := Lib.hid b0
  have HZ0 := Lib.hid (show B ≤ w0.heap.size by omega)
  have HOZ := Lib.hid (show w0.ownsRow B 75 1 (.slice none 0 0) 0 [] from World.ownsRow_nil _ _ _ _)
  clear h0 b0 z0 hB
  go_wp2_with fail
  go_loopw [3, 4] (fun vo i wr => ∃ (b : Nat) (fs : List Value), b ≤ n ∧ i = .int .i64 (b : Int) ∧ wr.ownsRow B 75 1 vo b fs ∧ BRows B n wr fs (rowsL s.ws b) ∧ fs.length = b ∧ Below B w0 wr) (fun _ i _ => n - (intOf i).toNat)
  case atStart => exact ⟨0, [], Nat.zero_le _, rfl, HOZ.out, (fun k A h => by cases h), rfl, Below.refl _ _⟩
  case round =>
    clear HOZ
    obtain ⟨b, fs, hb, rfl, hown, hrows, hfl, hbw⟩ := hrel
    rename World => wr
    obtain ⟨av, cv, ev⟩ := own_form hown
    subst ev
    have HO := Lib.hid hown
    have HR := Lib.hid hrows
    have HBW := Lib.hid hbw
    have HFL := Lib.hid hfl
    have hBr : B ≤ wr.heap.size := Nat.le_trans HZ0.out hbw.size
    have HX0 := Lib.hid ((hbw.block _ hwB).trans H0.out)
    clear hown hrows hbw hfl
    have g1 : wr.cell? ⟨w.heap.size, 1, none⟩ = some (.slice ua n uc) := cell_of_row wr _ 1 _ _ _ HX0.out
    by_cases hbn : b < n
    · have b1 : (b : Int) < (n : Int) := by omega
      have hmk := fun W => mk_boolsN n (by omega) W
      have hbo := bo_made n B (by omega) wr hBr
      have hba := below_alloc wr (.cells (madeCells #[.bool false] n) 4)
      go_upto_region 6 with fail
      obtain ⟨g, hg⟩ : ∃ g, g = wr.heap.size := ⟨_, rfl⟩
      have hng : ∀ (k g' : Nat), fs[k]? = some (.slice (some ⟨g', 0, none⟩) n n) → k < b → g' < wr.heap.size := fun k g' he hk => by
        obtain ⟨A, hA⟩ : ∃ A, (rowsL s.ws b)[k]? = some A := ⟨_, List.getElem?_eq_getElem (by rw [rowsL_len]; exact hk)⟩
        obtain ⟨g2, h2, h3⟩ := HR.out k A hA
        rw [he] at h2
        cases h2
        exact (World.ownsRow.lt h3 _ rfl).2
      have hvg : (Value.slice av b cv).ownBlock ≠ some wr.heap.size := fun e => by
        have := (World.ownsRow.lt HO.out _ e).2
        omega
      rw [← hg] at hbo hng hvg ⊢
      have HNG := Lib.hid (show ∀ (k g' : Nat), fs[k]? = some (.slice (some ⟨g', 0, none⟩) n n) → g' ≠ g from fun k g' he => by
        have hk := (List.getElem?_eq_some_iff.1 he).1
        rw [HFL.out] at hk
        have := hng k g' he hk
        omega)
      have HVG := Lib.hid hvg
      have HO1 := Lib.hid (own_below HO.out hba)
      have HR1 := Lib.hid (HR.out.below hba)
      have HB1 := Lib.hid (HBW.out.trans (hba.mono hBr))
      have HF0 := Lib.hid (show rowOf s.ws (rowsL s.ws b) b 0 = fun _ => false from rfl)
      have HBO := Lib.hid hbo
      clear hmk hba hg hng hvg hbo HO HR HBW HX0 g1 hBr
      generalize wr.alloc (.cells (madeCells #[.bool false] n) 4) = w1 at *
      go_wp2_with fail
      go_loopw [6] (fun i wx => ∃ a : Nat, a ≤ b ∧ i = .int .i64 (a : Int) ∧ BO B wx g n (rowOf s.ws (rowsL s.ws b) b a) ∧ wx.ownsRow B 75 1 (.slice av b cv) b fs ∧ BRows B n wx fs (rowsL s.ws b) ∧ Below B w0 wx) (fun i _ => b - (intOf i).toNat)
      case atStart => exact ⟨0, Nat.zero_le _, rfl, by rw [HF0.out]; exact HBO.out, HO1.out, HR1.out, HB1.out⟩
      case round =>
        clear HBO HO1 HR1 HB1 HF0
        obtain ⟨a, ha, rfl, hbo, hown, hrows, hbw⟩ := hrel
        rename World => wx
        have HBO := Lib.hid hbo
        have HO := Lib.hid hown
        have HR := Lib.hid hrows
        have HBW := Lib.hid hbw
        have hx0 := (hbw.block _ hwB).trans H0.out
        have hzx : w.heap.size < wx.heap.size := (Array.getElem?_eq_some_iff.1 hx0).1
        have g1 : wx.cell? ⟨w.heap.size, 1, none⟩ = some (.slice ua n uc) := cell_of_row wx _ 1 _ _ _ hx0
        clear hbo hown hrows hbw hx0
        by_cases hab : a < b
        · have a0 : (a : Int) < (b : Int) := by omega
          have a00 : (0 : Int) ≤ (a : Int) := by omega
          have b00 : (0 : Int) ≤ (b : Int) := by omega
          have b01 : (b : Int) < (n : Int) := by omega
          have a01 : (a : Int) < (n : Int) := by omega
          obtain ⟨y1, hy1⟩ : ∃ y1, s.ws[a]? = some y1 := ⟨_, List.getElem?_eq_getElem (by have := HNL.out; omega)⟩
          obtain ⟨y2, hy2⟩ : ∃ y2, s.ws[b]? = some y2 := ⟨_, List.getElem?_eq_getElem (by have := HNL.out; omega)⟩
          have hp1 := HSM.out.2 y1 (List.mem_of_getElem? hy1)
          have hp2 := HSM.out.2 y2 (List.mem_of_getElem? hy2)
          have htc : tchN s.ws a b = touchP y1 y2 := by unfold tchN; rw [wkN_get hy1, wkN_get hy2]
          obtain ⟨b1', off1, rfl, hb1, hr1, _⟩ := HU.out a y1 hy1
          obtain ⟨b2', off2, e', _, hr2, _⟩ := HU.out b y2 hy2
          cases e'
          have hBx := HB0.out.trans (HBW.out.mono (Nat.le_of_lt hwB))
          have RGy1 := Lib.hid (range_below3 hr1 hb1 hBx)
          have RGy2 := Lib.hid (range_below3 hr2 hb1 hBx)
          have hb1x : b1' < wx.heap.size := by have := hBx.size; omega
          have CT := Lib.hid (fun W => refTouch_any y1 y2 W hp1 hp2)
          obtain ⟨R, hR⟩ : ∃ R, (rowsL s.ws b)[a]? = some R := ⟨_, List.getElem?_eq_getElem (by rw [rowsL_len]; exact hab)⟩
          obtain ⟨ga, hga, _⟩ := HR.out a R hR
          have HNXT := Lib.hid (show rowOf s.ws (rowsL s.ws b) b (a + 1) = fun j => rowOf s.ws (rowsL s.ws b) b a j || (touchP y1 y2 && (decide (j = a) || R j)) by rw [rowOf_next, htc, hR]; rfl)
          have HRL := Lib.hid (fun j => rowsL_lt s.ws j b a R hR)
          have HRA := Lib.hid hR
          have HGA := Lib.hid hga
          clear hy1 hy2 hp1 hp2 hr1 hr2 htc hR hga hBx
          generalize rowOf s.ws (rowsL s.ws b) b a = F at *
          go_wp2_with fail
          by_cases ht : touchP y1 y2 = true
          · rw [ht] at CT HNXT
            clear ht
            refine wp_region_class (fun w' => Below wx.heap.size wx w') 10 (by kernel_rfl) (by kernel_rfl) (Below.refl _ wx).drew ?_
            simp only [List.take_succ_cons, List.take_zero, List.drop_succ_cons, List.drop_zero]
            refine quiet_still rfl (.pointer (some ⟨w.heap.size, 1, none⟩)) (fun w _ => by go_simp) ?_
            simp only [Act.put, List.setIfInBounds_toArray, List.set_cons_zero, List.set_cons_succ]
            refine quiet_load1 rfl _ _ rfl ⟨w.heap.size, 1, none⟩ rfl (.slice (some ⟨b1', off1, none⟩) n uc) (load_ws _ _) (fun _ h => (h.cell (p := ⟨w.heap.size, 1, none⟩) hzx).trans g1) ?_
            simp only [Act.put, List.setIfInBounds_toArray, List.set_cons_zero, List.set_cons_succ]
            refine quiet_moveV rfl _ rfl (.int .i64 (a : Int)) rfl ?_
            simp only [Act.put, List.setIfInBounds_toArray, List.set_cons_zero, List.set_cons_succ]
            refine quiet_still rfl (.pointer (some ⟨b1', off1 + a * 3, none⟩)) (fun w _ => by go_simp) ?_
            simp only [Act.put, List.setIfInBounds_toArray, List.set_cons_zero, List.set_cons_succ]
            refine quiet_load_mid rfl _ _ rfl b1' (off1 + a * 3) rfl [.int .i64 y1.kd, .int .i64 y1.pl, .string y1.wd] _ (fun W h => range_below3 RGy1.out hb1x h) Try.underlying48 rfl (by kernel_rfl) ?_
            simp only [Act.put, List.setIfInBounds_toArray, List.set_cons_zero, List.set_cons_succ]
            refine quiet_still rfl (.pointer (some ⟨w.heap.size, 1, none⟩)) (fun w _ => by go_simp) ?_
            simp only [Act.put, List.setIfInBounds_toArray, List.set_cons_zero, List.set_cons_succ]
            refine quiet_load1 rfl _ _ rfl ⟨w.heap.size, 1, none⟩ rfl (.slice (some ⟨b1', off1, none⟩) n uc) (load_ws _ _) (fun _ h => (h.cell (p := ⟨w.heap.size, 1, none⟩) hzx).trans g1) ?_
            simp only [Act.put, List.setIfInBounds_toArray, List.set_cons_zero, List.set_cons_succ]
            refine quiet_moveV rfl _ rfl (.int .i64 (b : Int)) rfl ?_
            simp only [Act.put, List.setIfInBounds_toArray, List.set_cons_zero, List.set_cons_succ]
            refine quiet_still rfl (.pointer (some ⟨b1', off1 + b * 3, none⟩)) (fun w _ => by go_simp) ?_
            simp only [Act.put, List.setIfInBounds_toArray, List.set_cons_zero, List.set_cons_succ]
            refine quiet_load_mid rfl _ _ rfl b1' (off1 + b * 3) rfl [.int .i64 y2.kd, .int .i64 y2.pl, .string y2.wd] _ (fun W h => range_below3 RGy2.out hb1x h) Try.underlying48 rfl (by kernel_rfl) ?_
            simp only [Act.put, List.setIfInBounds_toArray, List.set_cons_zero, List.set_cons_succ]
            unfold wpQuiet
            intro wp hb
            go_wp2_with fail
            refine (CT.out _).mono ?_
            rintro e wq ⟨rfl, hbq⟩
            have hb : Below wx.heap.size wx wq := hb.trans (hbq.mono hb.size)
            clear hbq
            obtain ⟨go, hgo⟩ : ∃ go, av = some ⟨go, 0, none⟩ := by
              rcases HO.out.2 with ⟨_, h0⟩ | ⟨go, cap, cur, e, _⟩
              · omega
              · cases e
                exact ⟨go, rfl⟩
            subst hgo
            have hgB := HBO.out.ge
            have han : a < n := by omega
            have HQ1 := Lib.hid (HBO.out.below hb)
            have HQ2 := Lib.hid (own_below HO.out hb)
            have HQ3 := Lib.hid (HR.out.below hb)
            have HQ4 := Lib.hid (HBW.out.trans (hb.mono (Nat.le_trans HZ0.out HBW.out.size)))
            have ci := HQ1.out.cell han
            have fi := HQ1.out.frozen a
            have S1 := Lib.hid (bo_setv HQ1.out a true)
            have S2 := Lib.hid (own_other HQ2.out (p := ⟨g, a, none⟩) (.bool true) HVG.out)
            have S3 := Lib.hid (HQ3.out.other (p := ⟨g, a, none⟩) (.bool true) HNG.out)
            have S4 := Lib.hid (HQ4.out.setCell (p := ⟨g, a, none⟩) hgB (.bool true))
            have HF2 := Lib.hid (show rowOf s.ws (rowsL s.ws b) b (a + 1) = fun j => (if j = a then true else F j) || (decide (j < a) && R j) by
              rw [HNXT.out]
              funext j
              by_cases e : j = a
              · rw [if_pos e, decide_eq_true e]; simp
              · rw [if_neg e, decide_eq_false e]
                by_cases hR : R j = true
                · rw [hR, decide_eq_true (HRL.out j hR)]; simp
                · simp [show R j = false by simpa using hR])
            have HST := Lib.hid (show (fun j => if j = a then true else F j) = fun j => (if j = a then true else F j) || (decide (j < 0) && R j) by funext j; simp)
            clear hb g1 HQ1 HQ2 HQ3 HQ4
            go_upto_region 11 with fail
            generalize wq.setCell ⟨g, a, none⟩ (.bool true) = w2 at *
            clear ci fi
            go_wp2_with fail
            go_loopw [7] (fun i wc => ∃ c : Nat, c ≤ a ∧ i = .int .i64 (c : Int) ∧ BO B wc g n (fun j => (if j = a then true else F j) || (decide (j < c) && R j)) ∧ wc.ownsRow B 75 1 (.slice (some ⟨go, 0, none⟩) b cv) b fs ∧ BRows B n wc fs (rowsL s.ws b) ∧ Below B w0 wc) (fun i _ => a - (intOf i).toNat)
            case atStart => exact ⟨0, Nat.zero_le _, rfl, by rw [← HST.out]; exact S1.out, S2.out, S3.out, S4.out⟩
            case round =>
              clear S1 S2 S3 S4 HST
              obtain ⟨c, hc, rfl, hbo, hown, hrows, hbw⟩ := hrel
              rename World => wc
              have T1 := Lib.hid hbo
              have T2 := Lib.hid hown
              have T3 := Lib.hid hrows
              have T4 := Lib.hid hbw
              clear hbo hown hrows hbw
              by_cases hca : c < a
              · have c0 : (c : Int) < (a : Int) := by omega
                have c1 : (0 : Int) ≤ (c : Int) := by omega
                have c2 : (c : Int) < (n : Int) := by omega
                have hcn : c < n := by omega
                have gc0 := T1.out.cell hcn
                have gc : wc.cell? ⟨g, c, none⟩ = some (.bool (F c)) := by rw [gc0]; simp [show ¬ c = a by omega]
                have fc := T1.out.frozen c
                clear gc0
                by_cases hF : F c = true
                · rw [hF] at gc
                  have S1 := Lib.hid (bo_setv T1.out c true)
                  have S2 := Lib.hid (own_other T2.out (p := ⟨g, c, none⟩) (.bool true) HVG.out)
                  have S3 := Lib.hid (T3.out.other (p := ⟨g, c, none⟩) (.bool true) HNG.out)
                  have S4 := Lib.hid (T4.out.setCell (p := ⟨g, c, none⟩) hgB (.bool true))
                  have HE := Lib.hid (show (fun j => if j = c then true else (if j = a then true else F j) || (decide (j < c) && R j)) = fun j => (if j = a then true else F j) || (decide (j < c + 1) && R j) by
                    funext j
                    by_cases e : j = c
                    · subst e; rw [if_pos rfl, if_neg (by omega), hF]; rfl
                    · rw [if_neg e, show decide (j < c + 1) = decide (j < c) by rw [decide_eq_decide]; omega])
                  rw [HE.out] at S1
                  clear hF HE
                  go_wp2_with fail
                  go_roundw
                  case rel => exact ⟨c + 1, hca, by go_num, S1.out, S2.out, S3.out, S4.out⟩
                  case measure => (simp [intOf] <;> omega)
                · have hF' : F c = false := by simpa using hF
                  rw [hF'] at gc
                  obtain ⟨ga2, he2, hba⟩ := T3.out a R HRA.out
                  rw [HGA.out] at he2
                  cases he2
                  have gr : wc.cell? ⟨ga, c, none⟩ = some (.bool (R c)) := BO.cell hba hcn
                  have go1 : wc.cell? ⟨go, a, none⟩ = some (.slice (some ⟨ga, 0, none⟩) n n) := (World.ownsRow.cellAt T2.out a (by omega)).trans HGA.out
                  have S1 := Lib.hid (bo_setv T1.out c (R c))
                  have S2 := Lib.hid (own_other T2.out (p := ⟨g, c, none⟩) (.bool (R c)) HVG.out)
                  have S3 := Lib.hid (T3.out.other (p := ⟨g, c, none⟩) (.bool (R c)) HNG.out)
                  have S4 := Lib.hid (T4.out.setCell (p := ⟨g, c, none⟩) hgB (.bool (R c)))
                  have HE := Lib.hid (show (fun j => if j = c then R c else (if j = a then true else F j) || (decide (j < c) && R j)) = fun j => (if j = a then true else F j) || (decide (j < c + 1) && R j) by
                    funext j
                    by_cases e : j = c
                    · subst e; rw [if_pos rfl, if_neg (by omega), hF', decide_eq_true (by omega)]; simp
                    · rw [if_neg e, show decide (j < c + 1) = decide (j < c) by rw [decide_eq_decide]; omega])
                  rw [HE.out] at S1
                  generalize R c = rc at *
                  clear hF hF' HE hba
                  go_wp2_with fail
                  go_roundw
                  case rel => exact ⟨c + 1, hca, by go_num, S1.out, S2.out, S3.out, S4.out⟩
                  case measure => (simp [intOf] <;> omega)
              · have c0 : ¬ (c : Int) < (a : Int) := by omega
                have e : c = a := by omega
                subst e
                go_wp2_with fail
                go_roundw
                case rel => exact ⟨c + 1, hab, by go_num, by rw [HF2.out]; exact T1.out, T2.out, T3.out, T4.out⟩
                case measure => (simp [intOf] <;> omega)
          · have ht' : touchP y1 y2 = false := by simpa using ht
            rw [ht'] at CT HNXT
            have HF2 := Lib.hid (show rowOf s.ws (rowsL s.ws b) b (a + 1) = F by rw [HNXT.out]; funext j; simp)
            clear ht ht'
            refine wp_region_class (fun w' => Below wx.heap.size wx w') 10 (by kernel_rfl) (by kernel_rfl) (Below.refl _ wx).drew ?_
            simp only [List.take_succ_cons, List.take_zero, List.drop_succ_cons, List.drop_zero]
            refine quiet_still rfl (.pointer (some ⟨w.heap.size, 1, none⟩)) (fun w _ => by go_simp) ?_
            simp only [Act.put, List.setIfInBounds_toArray, List.set_cons_zero, List.set_cons_succ]
            refine quiet_load1 rfl _ _ rfl ⟨w.heap.size, 1, none⟩ rfl (.slice (some ⟨b1', off1, none⟩) n uc) (load_ws _ _) (fun _ h => (h.cell (p := ⟨w.heap.size, 1, none⟩) hzx).trans g1) ?_
            simp only [Act.put, List.setIfInBounds_toArray, List.set_cons_zero, List.set_cons_succ]
            refine quiet_moveV rfl _ rfl (.int .i64 (a : Int)) rfl ?_
            simp only [Act.put, List.setIfInBounds_toArray, List.set_cons_zero, List.set_cons_succ]
            refine quiet_still rfl (.pointer (some ⟨b1', off1 + a * 3, none⟩)) (fun w _ => by go_simp) ?_
            simp only [Act.put, List.setIfInBounds_toArray, List.set_cons_zero, List.set_cons_succ]
            refine quiet_load_mid rfl _ _ rfl b1' (off1 + a * 3) rfl [.int .i64 y1.kd, .int .i64 y1.pl, .string y1.wd] _ (fun W h => range_below3 RGy1.out hb1x h) Try.underlying48 rfl (by kernel_rfl) ?_
            simp only [Act.put, List.setIfInBounds_toArray, List.set_cons_zero, List.set_cons_succ]
            refine quiet_still rfl (.pointer (some ⟨w.heap.size, 1, none⟩)) (fun w _ => by go_simp) ?_
            simp only [Act.put, List.setIfInBounds_toArray, List.set_cons_zero, List.set_cons_succ]
            refine quiet_load1 rfl _ _ rfl ⟨w.heap.size, 1, none⟩ rfl (.slice (some ⟨b1', off1, none⟩) n uc) (load_ws _ _) (fun _ h => (h.cell (p := ⟨w.heap.size, 1, none⟩) hzx).trans g1) ?_
            simp only [Act.put, List.setIfInBounds_toArray, List.set_cons_zero, List.set_cons_succ]
            refine quiet_moveV rfl _ rfl (.int .i64 (b : Int)) rfl ?_
            simp only [Act.put, List.setIfInBounds_toArray, List.set_cons_zero, List.set_cons_succ]
            refine quiet_still rfl (.pointer (some ⟨b1', off1 + b * 3, none⟩)) (fun w _ => by go_simp) ?_
            simp only [Act.put, List.setIfInBounds_toArray, List.set_cons_zero, List.set_cons_succ]
            refine quiet_load_mid rfl _ _ rfl b1' (off1 + b * 3) rfl [.int .i64 y2.kd, .int .i64 y2.pl, .string y2.wd] _ (fun W h => range_below3 RGy2.out hb1x h) Try.underlying48 rfl (by kernel_rfl) ?_
            simp only [Act.put, List.setIfInBounds_toArray, List.set_cons_zero, List.set_cons_succ]
            unfold wpQuiet
            intro wp hb
            go_wp2_with fail
            refine (CT.out _).mono ?_
            rintro e wq ⟨rfl, hbq⟩
            have hb : Below wx.heap.size wx wq := hb.trans (hbq.mono hb.size)
            clear hbq
            have HQ1 := Lib.hid (HBO.out.below hb)
            have HQ2 := Lib.hid (own_below HO.out hb)
            have HQ3 := Lib.hid (HR.out.below hb)
            have HQ4 := Lib.hid (HBW.out.trans (hb.mono (Nat.le_trans HZ0.out HBW.out.size)))
            clear hb g1
            go_wp2_with fail
            go_roundw
            case rel => exact ⟨a + 1, hab, by go_num, by rw [HF2.out]; exact HQ1.out, HQ2.out, HQ3.out, HQ4.out⟩
            case measure => (simp [intOf] <;> omega)
        · have a0 : ¬ (a : Int) < (b : Int) := by omega
          have e : a = b := by omega
          subst e
          have HBx := Lib.hid (Nat.le_trans HZ0.out HBW.out.size)
          have HLR := Lib.hid (rowsL_len s.ws a)
          clear g1 hab
          go_wp2_with (at_builtin; refine app_br (w0 := wx) B _ fs (.slice (some ⟨g, 0, none⟩) n n) rfl _ _ rfl rfl (by rw [HFL.out]; exact HO.out) rfl rfl (by rw [HFL.out]; omega) (Below.refl _ _) HBx.out ?_; intro v8 w8 hown8 hb8 hg8)
          rw [HFL.out] at hown8
          obtain ⟨a8, c8, hv8⟩ := own_form hown8
          subst hv8
          have ha8 := below_alloc wx (.cells #[.slice (some ⟨g, 0, none⟩) n n] 75)
          have S2 := Lib.hid (show BRows B n w8 (fs ++ [.slice (some ⟨g, 0, none⟩) n n]) (rowsL s.ws (a + 1)) from BRows.snoc ((HR.out.below ha8).grown (own_below HO.out ha8) hg8) (by rw [HFL.out, HLR.out]) (World.ownsRow.kept (HBO.out.below ha8) hg8 (own_apart (HBO.out.below ha8) (own_below HO.out ha8) (by decide))))
          have S1 := Lib.hid hown8
          have S3 := Lib.hid (HBW.out.trans hb8)
          have S4 := Lib.hid (show (fs ++ [Value.slice (some ⟨g, 0, none⟩) n n]).length = a + 1 by rw [List.length_append, HFL.out]; rfl)
          clear ha8 hown8 hg8 hb8
          go_wp2_with fail
          go_roundw
          case rel => exact ⟨a + 1, _, hbn, by go_num, S1.out, S2.out, S4.out, S3.out⟩
          case measure => (simp [intOf] <;> omega)
    · have b1 : ¬ (b : Int) < (n : Int) := by omega
      have e : b = n := by omega
      subst e
      go_wp2_with fail
      go_ret
      exact ⟨_, rfl, fs, B, HO.out, HR.out, HB0.out.trans (HBW.out.mono (Nat.le_of_lt hwB))⟩
end Go.Proofs.Ytenfeekchggioaa
