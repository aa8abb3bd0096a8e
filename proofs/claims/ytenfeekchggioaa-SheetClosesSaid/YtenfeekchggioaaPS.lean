/- The reference's Chain. -/
import Derived.Test.YtenfeekchggioaaPR
namespace Go.Proofs.Ytenfeekchggioaa
open Go.RowKit Go.Shelf
set_option linter.unusedSimpArgs false
attribute [local irreducible] wpQuiet
def nuC (n : Nat) (F : Nat → Nat) : List Value := (List.range n).map fun (j : Nat) => .int .i64 (F j : Int)
theorem nuC_len (n : Nat) (F : Nat → Nat) : (nuC n F).length = n := by simp [nuC]
theorem nuC_get (n : Nat) (F : Nat → Nat) {j : Nat} (h : j < n) : (nuC n F)[j]? = some (.int .i64 (F j : Int)) := by simp [nuC, h]
theorem nuC_set (n : Nat) (F : Nat → Nat) (i x : Nat) : (nuC n F).set i (.int .i64 (x : Int)) = nuC n (fun j => if j = i then x else F j) := by
  apply List.ext_getElem?
  intro j
  rw [List.getElem?_set]
  by_cases c : i = j
  · subst c
    rw [if_pos rfl, nuC_len]
    by_cases h : i < n
    · rw [if_pos h, nuC_get _ _ h, if_pos rfl]
    · rw [if_neg h, List.getElem?_eq_none (by rw [nuC_len]; omega)]
  · rw [if_neg c]
    by_cases h : j < n
    · rw [nuC_get _ _ h, nuC_get _ _ h, if_neg (fun e => c e.symm)]
    · rw [List.getElem?_eq_none (by rw [nuC_len]; omega), List.getElem?_eq_none (by rw [nuC_len]; omega)]
theorem nuC_made (n : Nat) : (madeCells #[.int .i64 0] n).toList = nuC n (fun _ => 0) := by
  apply List.ext_getElem?
  intro j
  by_cases h : j < n
  · rw [Array.getElem?_toList, made_one _ _ _ h, nuC_get _ _ h]
    rfl
  · rw [List.getElem?_eq_none (by simp [madeCells]; omega), List.getElem?_eq_none (by rw [nuC_len]; omega)]
/-- An own row of numbers. -/
def NO (B : Nat) (w : World) (g n : Nat) (F : Nat → Nat) : Prop := w.ownsRow B 3 1 (.slice (some ⟨g, 0, none⟩) n n) n (nuC n F)
theorem no_made (n B : Nat) (hn : n < 100000) (W : World) (hB : B ≤ W.heap.size) : NO B (W.alloc (.cells (madeCells #[.int .i64 0] n) 3)) W.heap.size n (fun _ => 0) := by
  unfold NO
  rw [← nuC_made]
  exact World.ownsRow_lit W _ n hB (by unfold maxLen; omega) (by rw [size_madeCells]; omega)
theorem NO.below {B g n : Nat} {w w' : World} {F : Nat → Nat} (h : NO B w g n F) (hb : Below w.heap.size w w') : NO B w' g n F := own_below h hb
theorem NO.cell {B g n : Nat} {w : World} {F : Nat → Nat} (h : NO B w g n F) {j : Nat} (hj : j < n) : w.cell? ⟨g, j, none⟩ = some (.int .i64 (F j : Int)) := by
  have := World.ownsRow.cellAt h j (by omega)
  rwa [nuC_get _ _ hj] at this
theorem NO.frozen {B g n : Nat} {w : World} {F : Nat → Nat} (h : NO B w g n F) (j : Nat) : w.frozen? ⟨g, j, none⟩ = false := World.ownsRow.frozenAt h j
theorem NO.set {B g n : Nat} {w : World} {F : Nat → Nat} (h : NO B w g n F) (i x : Nat) : NO B (w.setCell ⟨g, i, none⟩ (.int .i64 (x : Int))) g n (fun j => if j = i then x else F j) := by
  unfold NO
  rw [← nuC_set]
  exact (World.ownsRow.stored h i (.int .i64 (x : Int))).1
theorem NO.lt {B g n : Nat} {w : World} {F : Nat → Nat} (h : NO B w g n F) : g < w.heap.size := (World.ownsRow.lt h _ rfl).2
theorem inF_le (W : List Wk) (b : Nat) (F : Nat → Nat) (i M : Nat) (hF : ∀ k, F k ≤ M) : ∀ n, inF W b F i n ≤ M + 1
  | 0 => by show 0 ≤ _; omega
  | n + 1 => by
    show stepF W b F i (i + 1 + n) (inF W b F i n) ≤ M + 1
    unfold stepF
    have := inF_le W b F i M hF n
    have := hF (i + 1 + n)
    split <;> omega
theorem tabF_le (W : List Wk) (b : Nat) : ∀ n k, tabF W b n k ≤ n
  | 0, _ => Nat.le_refl _
  | n + 1, k => by
    show (if k = b - 1 - n then _ else _) ≤ n + 1
    split
    · exact inF_le W b _ _ n (tabF_le W b n) _
    · have := tabF_le W b n k; omega
/-- The table while work i is looked at, m others looked at. -/
def midF (W : List Wk) (b : Nat) (F : Nat → Nat) (i m : Nat) : Nat → Nat := fun j => if j = i then inF W b F i m else F j
theorem midF_0 {W : List Wk} {b i : Nat} {F : Nat → Nat} (h : F i = 0) : midF W b F i 0 = F := by
  funext j
  unfold midF
  by_cases e : j = i
  · subst e; rw [if_pos rfl, h]; rfl
  · rw [if_neg e]
theorem midF_next {W : List Wk} {b : Nat} {F : Nat → Nat} {i m v' : Nat} (h : inF W b F i (m + 1) = v') : (fun j => if j = i then v' else midF W b F i m j) = midF W b F i (m + 1) := by
  funext j
  unfold midF
  by_cases e : j = i
  · rw [if_pos e, if_pos e, h]
  · rw [if_neg e, if_neg e, if_neg e]
theorem midF_same {W : List Wk} {b : Nat} {F : Nat → Nat} {i m : Nat} (h : inF W b F i (m + 1) = inF W b F i m) : midF W b F i (m + 1) = midF W b F i m := by
  funext j
  unfold midF
  rw [h]
theorem midF_end {W : List Wk} {b d : Nat} (hd : d < b) : midF W b (tabF W b d) (b - 1 - d) (b - (b - 1 - d)) = tabF W b (d + 1) := by
  funext j
  unfold midF
  show _ = if j = b - 1 - d then _ else _
  rw [show b - (b - 1 - d) = d + 1 by omega]
/-- The list of the reference, as far as it is. -/
def backL (y : Nat) (P : List Nat) : List Int := (y :: P).reverse.map fun (i : Nat) => (i : Int)
theorem backL_cons (x y : Nat) (P : List Nat) : backL x (y :: P) = backL y P ++ [(x : Int)] := by unfold backL; simp
theorem Ch.bound {W : List Wk} {a : Nat} : ∀ {c : List Nat}, Ch W a c → c.length + a ≤ hdN c + 1
  | [], h => h.elim
  | [y], h => by have h : y = a := h; subst h; show 1 + y ≤ y + 1; omega
  | x :: y :: r, h => by
    have h1 := Ch.bound h.2.2
    have h2 : y < x := h.1
    simp only [List.length_cons, hdN, List.headD_cons] at h1 ⊢
    omega
theorem chainL_cases {W : List Wk} {a b : Nat} (hab : a < b) (hb : b < W.length) : (NoCh W a b ∧ chainL W a b = []) ∨ ∃ c, Least W a b c ∧ chainL W a b = c.reverse.map fun (i : Nat) => (i : Int) := by
  have hf := chainR_found hab hb
  unfold chainL
  cases hc : chainR W a b with
  | none => rw [hc] at hf; exact .inl ⟨hf, rfl⟩
  | some c => rw [hc] at hf; exact .inr ⟨c, hf, rfl⟩
set_option maxRecDepth 100000 in
set_option maxHeartbeats 16000000 in
theorem refChain_any (s : Sh) (v : Value) (a b : Int) (w : World) (hv : SV w v s) :
    Calls Try.prog 25 #[v, .int .i64 a, .int .i64 b] w fun e w' => ∃ u, e = .returned (.tuple #[u, .int .i64 (chainE2 s a b)]) ∧ IS w' u (chainV s a b) ∧ Below w.heap.size w w' := by
  have HV := Lib.hid hv
  obtain ⟨u, rfl, hu⟩ := hv
  obtain ⟨ua, uc, rfl, k1, k2, hU⟩ := id hu
  have HU := Lib.hid hU
  have CT := Lib.hid (fun W h => refTwo_any s (.agg #[.int .i64 s.pr, .slice ua s.ws.length uc]) a b W h)
  have HCV := Lib.hid (show chainV s a b = if chainE s a b = 0 then chainL s.ws a.toNat b.toNat else [] from rfl)
  have HCE := Lib.hid (show chainE2 s a b = if chainE s a b = 0 ∧ (chainV s a b).length = 0 then 4 else chainE s a b from rfl)
  have HEZ := Lib.hid (@chainE_zero s a b)
  generalize chainE2 s a b = c2 at *
  generalize chainV s a b = cv at *
  generalize chainE s a b = ce at *
  clear hU hu
  go_enter Try.func25, Try.ntmps25
  go_wp2_with fail
  have h0 := heap_alloc_new w (.cells #[.int .i64 s.pr, .slice ua s.ws.length uc] 24)
  have b0 := below_alloc w (.cells #[.int .i64 s.pr, .slice ua s.ws.length uc] 24)
  have z0 : (w.alloc (.cells #[.int .i64 s.pr, .slice ua s.ws.length uc] 24)).heap.size = w.heap.size + 1 := by simp
  generalize w.alloc (.cells #[.int .i64 s.pr, .slice ua s.ws.length uc] 24) = w0 at *
  refine (CT.out w0 (HV.out.below b0)).mono ?_
  rintro e w1 ⟨rfl, b1⟩
  have h1 := (b1.block _ (by omega)).trans h0
  have H1 := Lib.hid h1
  have HB1 := Lib.hid (bon b0 b1)
  have hz1 : w.heap.size < w1.heap.size := by have := b1.size; omega
  clear h0 b0 z0 b1 CT
  by_cases q : ce = 0
  · subst q
    obtain ⟨hc, ⟨ha0, ha1⟩, hb0, hb1⟩ := HEZ.out rfl
    obtain ⟨na, rfl⟩ : ∃ i : Nat, a = (i : Int) := ⟨a.toNat, by omega⟩
    obtain ⟨nb, rfl⟩ : ∃ j : Nat, b = (j : Int) := ⟨b.toNat, by omega⟩
    have HSM := Lib.hid (chk_small hc).2.2
    have hw4 : s.ws.length ≤ 400 := HSM.out.1
    have HCV2 := Lib.hid (show cv = chainL s.ws na nb by have := HCV.out; simpa using this)
    have HCE2 := Lib.hid (show c2 = if cv.length = 0 then 4 else 0 by have := HCE.out; simpa using this)
    have g1 : w1.cell? ⟨w.heap.size, 1, none⟩ = some (.slice ua s.ws.length uc) := cell_of_row w1 _ 1 _ _ _ h1
    have hmk := fun W => mk_full s.ws.length (by omega) W
    have hbo := no_made s.ws.length w1.heap.size (by omega) w1 (Nat.le_refl _)
    have hba := below_alloc w1 (.cells (madeCells #[.int .i64 0] s.ws.length) 3)
    have nb1 : IntKind.i64.wrap ((nb : Int) - 1) = (nb : Int) - 1 := IntWalk.i64_in _ (by omega)
    have hnb : nb < s.ws.length := by omega
    have hna : na < s.ws.length := by omega
    clear hc HCV HCE HEZ h1 ha0 hb0
    go_upto_region 5 with fail
    obtain ⟨g, hg⟩ : ∃ g, g = w1.heap.size := ⟨_, rfl⟩
    rw [← hg] at hbo hba hz1 ⊢
    have HG1 := Lib.hid (show g ≤ w1.heap.size by omega)
    generalize w1.alloc (.cells (madeCells #[.int .i64 0] s.ws.length) 3) = w2 at *
    have HBO := Lib.hid hbo
    have HBA := Lib.hid hba
    have HF0 := Lib.hid (show tabF s.ws nb 0 = fun _ => 0 from rfl)
    clear hmk hbo hba hg g1
    go_wp2_with fail
    clear nb1
    go_loopw [10] (fun i wr => ∃ d : Nat, d ≤ nb - na ∧ i = .int .i64 ((nb : Int) - 1 - (d : Int)) ∧ NO g wr g s.ws.length (tabF s.ws nb d) ∧ Below g w1 wr) (fun i _ => (intOf i + 1 - (na : Int)).toNat)
    case atStart => exact ⟨0, Nat.zero_le _, by simp, by rw [HF0.out]; exact HBO.out, HBA.out⟩
    case round =>
      clear HBO HBA HF0
      obtain ⟨d, hd, rfl, hno, hbw⟩ := hrel
      rename World => wr
      have HNO := Lib.hid hno
      have HB1W := Lib.hid hbw
      have HBW := Lib.hid (HB1.out.trans (hbw.mono (Nat.le_of_lt hz1)))
      have HXW := Lib.hid ((hbw.block _ hz1).trans H1.out)
      clear hno hbw
      by_cases hdn : d < nb - na
      · have d1 : (na : Int) ≤ (nb : Int) - 1 - (d : Int) := by omega
        obtain ⟨i, hi⟩ : ∃ i : Nat, i = nb - 1 - d := ⟨_, rfl⟩
        have hii : (nb : Int) - 1 - (d : Int) = (i : Int) := by omega
        have hib : i < nb := by omega
        have i1 : IntKind.i64.wrap ((i : Int) + 1) = (i : Int) + 1 := IntWalk.i64_in _ (by omega)
        have i2 : IntKind.i64.wrap ((i : Int) - 1) = (nb : Int) - 1 - ((d + 1 : Nat) : Int) := (IntWalk.i64_in _ (by omega)).trans (by omega)
        have HTL := Lib.hid (fun k => tabF_le s.ws nb d k)
        have HT0 := Lib.hid ((tabF_spec s.ws nb d (by omega)).2 i (by omega))
        have HTE := Lib.hid (midF_end (W := s.ws) (b := nb) (d := d) (by omega))
        rw [← hi] at HTE
        have hdb : d < nb := by omega
        have HDI := Lib.hid hi
        have HII := Lib.hid hii
        rw [hii] at d1
        clear hi
        generalize tabF s.ws nb d = F at *
        have HN0 := Lib.hid (show NO g wr g s.ws.length (midF s.ws nb F i 0) by rw [midF_0 HT0.out]; exact HNO.out)
        rw [hii]
        clear hii HNO
        go_wp2_with fail
        go_loopw [11] (fun k wx => ∃ m : Nat, m ≤ nb - i ∧ k = .int .i64 (((i + 1 + m : Nat)) : Int) ∧ NO g wx g s.ws.length (midF s.ws nb F i m) ∧ Below g w1 wx) (fun k _ => (nb + 1) - (intOf k).toNat)
        case atStart => exact ⟨0, Nat.zero_le _, by simp, HN0.out, HB1W.out⟩
        case round =>
          clear HN0
          obtain ⟨m, hm, rfl, hno, hbx⟩ := hrel
          rename World => wx
          have HNO := Lib.hid hno
          have HB1X := Lib.hid hbx
          have hwx := HB1.out.trans (hbx.mono (Nat.le_of_lt hz1))
          have HWX := Lib.hid hwx
          have hx0 := (hbx.block _ hz1).trans H1.out
          clear hbx
          obtain ⟨k, hk⟩ : ∃ k : Nat, k = i + 1 + m := ⟨_, rfl⟩
          rw [← hk]
          have HK := Lib.hid hk
          have hki : i < k := by omega
          by_cases hmn : m < nb - i
          · have k1' : (k : Int) ≤ (nb : Int) := by omega
            have k2' : (k : Int) < (s.ws.length : Int) := by omega
            have k0' : (0 : Int) ≤ (k : Int) := by omega
            have i0' : (0 : Int) ≤ (i : Int) := by omega
            have i1' : (i : Int) < (s.ws.length : Int) := by omega
            have HSF := Lib.hid (show inF s.ws nb F i (m + 1) = stepF s.ws nb F i k (inF s.ws nb F i m) by rw [HK.out]; rfl)
            have ck : wx.cell? ⟨g, k, none⟩ = some (.int .i64 (F k : Int)) := by
              have := hno.cell (show k < s.ws.length by omega)
              rwa [show midF s.ws nb F i m k = F k by unfold midF; rw [if_neg (by omega)]] at this
            have ci : wx.cell? ⟨g, i, none⟩ = some (.int .i64 (inF s.ws nb F i m : Int)) := by
              have := hno.cell (show i < s.ws.length by omega)
              rwa [show midF s.ws nb F i m i = inF s.ws nb F i m by unfold midF; rw [if_pos rfl]] at this
            have hVB := inF_le s.ws nb F i d HTL.out m
            have hFB := HTL.out k
            have HMS := Lib.hid (fun h => midF_same (W := s.ws) (b := nb) (F := F) (i := i) (m := m) h)
            have HMN := Lib.hid (fun v' h => midF_next (W := s.ws) (b := nb) (F := F) (i := i) (m := m) (v' := v') h)
            obtain ⟨y1, hy1⟩ : ∃ y1, s.ws[i]? = some y1 := ⟨_, List.getElem?_eq_getElem (by omega)⟩
            obtain ⟨y2, hy2⟩ : ∃ y2, s.ws[k]? = some y2 := ⟨_, List.getElem?_eq_getElem (by omega)⟩
            have hp1 := HSM.out.2 y1 (List.mem_of_getElem? hy1)
            have hp2 := HSM.out.2 y2 (List.mem_of_getElem? hy2)
            have htc : tchN s.ws i k = touchP y1 y2 := by unfold tchN; rw [wkN_get hy1, wkN_get hy2]
            obtain ⟨wb, wo, rfl, hwb, hr1, _⟩ := HU.out i y1 hy1
            obtain ⟨wb', wo', e', _, hr2, _⟩ := HU.out k y2 hy2
            cases e'
            have RGy1 := Lib.hid (range_below3 hr1 hwb hwx)
            have RGy2 := Lib.hid (range_below3 hr2 hwb hwx)
            have CT := Lib.hid (fun W => refTouch_any y1 y2 W hp1 hp2)
            have hzx : w.heap.size < wx.heap.size := (Array.getElem?_eq_some_iff.1 hx0).1
            have hgx : g < wx.heap.size := hno.lt
            have hwbx : wb < wx.heap.size := by have := hwx.size; omega
            have g1 : wx.cell? ⟨w.heap.size, 1, none⟩ = some (.slice (some ⟨wb, wo, none⟩) s.ws.length uc) := cell_of_row wx _ 1 _ _ _ hx0
            have hF1 : IntKind.i64.wrap ((F k : Int) + 1) = (F k : Int) + 1 := IntWalk.i64_in _ (by omega)
            have HSF2 := Lib.hid (show inF s.ws nb F i (m + 1) = if (touchP y1 y2 && (decide (k = nb) || decide (0 < F k)) && (decide (inF s.ws nb F i m = 0) || decide (F k + 1 < inF s.ws nb F i m))) = true then F k + 1 else inF s.ws nb F i m by rw [HSF.out]; unfold stepF; rw [htc])
            clear hy1 hy2 hp1 hp2 htc hr1 hr2 hx0 hwx hno HSF hk
            generalize inF s.ws nb F i m = V at *
            go_wp2_with fail
            by_cases ht : touchP y1 y2 = true
            · rw [ht] at CT
              by_cases hkb : k = nb
              · have hkbb : ((k : Int) == (nb : Int)) = true := by rw [beq_iff_eq]; omega
                have hcond : (touchP y1 y2 && (decide (k = nb) || decide (0 < F k))) = true := by rw [ht, decide_eq_true hkb]; rfl
                clear hkb
                by_cases hv0 : V = 0
                · have HIN := Lib.hid (show inF s.ws nb F i (m + 1) = F k + 1 by rw [HSF2.out, hcond, decide_eq_true hv0]; rfl)
                  clear hcond ht
                  refine wp_region_class (fun w' => Below wx.heap.size wx w') 41 (by kernel_rfl) (by kernel_rfl) (Below.refl _ wx).drew ?_
                  simp only [List.take_succ_cons, List.take_zero, List.drop_succ_cons, List.drop_zero]
                  refine quiet_still rfl (.pointer (some ⟨w.heap.size, 1, none⟩)) (fun w _ => by go_simp) ?_
                  simp only [Act.put, List.setIfInBounds_toArray, List.set_cons_zero, List.set_cons_succ]
                  refine quiet_load1 rfl _ _ rfl ⟨w.heap.size, 1, none⟩ rfl (.slice (some ⟨wb, wo, none⟩) s.ws.length uc) (load_ws _ _) (fun _ h => (h.cell (p := ⟨w.heap.size, 1, none⟩) hzx).trans g1) ?_
                  simp only [Act.put, List.setIfInBounds_toArray, List.set_cons_zero, List.set_cons_succ]
                  refine quiet_moveV rfl _ rfl (.int .i64 (i : Int)) rfl ?_
                  simp only [Act.put, List.setIfInBounds_toArray, List.set_cons_zero, List.set_cons_succ]
                  refine quiet_still rfl (.pointer (some ⟨wb, wo + i * 3, none⟩)) (fun w _ => by go_simp) ?_
                  simp only [Act.put, List.setIfInBounds_toArray, List.set_cons_zero, List.set_cons_succ]
                  refine quiet_load_mid rfl _ _ rfl wb (wo + i * 3) rfl [.int .i64 y1.kd, .int .i64 y1.pl, .string y1.wd] _ (fun W h => range_below3 RGy1.out hwbx h) Try.underlying48 rfl (by kernel_rfl) ?_
                  simp only [Act.put, List.setIfInBounds_toArray, List.set_cons_zero, List.set_cons_succ]
                  refine quiet_still rfl (.pointer (some ⟨w.heap.size, 1, none⟩)) (fun w _ => by go_simp) ?_
                  simp only [Act.put, List.setIfInBounds_toArray, List.set_cons_zero, List.set_cons_succ]
                  refine quiet_load1 rfl _ _ rfl ⟨w.heap.size, 1, none⟩ rfl (.slice (some ⟨wb, wo, none⟩) s.ws.length uc) (load_ws _ _) (fun _ h => (h.cell (p := ⟨w.heap.size, 1, none⟩) hzx).trans g1) ?_
                  simp only [Act.put, List.setIfInBounds_toArray, List.set_cons_zero, List.set_cons_succ]
                  refine quiet_moveV rfl _ rfl (.int .i64 (k : Int)) rfl ?_
                  simp only [Act.put, List.setIfInBounds_toArray, List.set_cons_zero, List.set_cons_succ]
                  refine quiet_still rfl (.pointer (some ⟨wb, wo + k * 3, none⟩)) (fun w _ => by go_simp) ?_
                  simp only [Act.put, List.setIfInBounds_toArray, List.set_cons_zero, List.set_cons_succ]
                  refine quiet_load_mid rfl _ _ rfl wb (wo + k * 3) rfl [.int .i64 y2.kd, .int .i64 y2.pl, .string y2.wd] _ (fun W h => range_below3 RGy2.out hwbx h) Try.underlying48 rfl (by kernel_rfl) ?_
                  simp only [Act.put, List.setIfInBounds_toArray, List.set_cons_zero, List.set_cons_succ]
                  refine quiet_call rfl 30 _ _ rfl (enter_of Try.func30 (by decide) (by intro h; cases h)) _ (fun W h => (CT.out W).mono fun e w' ⟨he, hw⟩ => ⟨he, h.trans (hw.mono h.size)⟩) ?_
                  simp only [Act.put, List.setIfInBounds_toArray, List.set_cons_zero, List.set_cons_succ]
                  refine quiet_moveV rfl _ rfl (.bool true) rfl ?_
                  simp only [Act.put, List.setIfInBounds_toArray, List.set_cons_zero, List.set_cons_succ]
                  refine quietW_moveV (by kernel_rfl) _ rfl (.int .i64 (k : Int)) rfl ?_
                  simp only [Act.put, List.setIfInBounds_toArray, List.set_cons_zero, List.set_cons_succ]
                  refine quietW_moveV (by kernel_rfl) _ rfl (.int .i64 (nb : Int)) rfl ?_
                  simp only [Act.put, List.setIfInBounds_toArray, List.set_cons_zero, List.set_cons_succ]
                  refine quietW_still (by kernel_rfl) (.bool true) (fun w _ => by go_simp; first | done | exact hkbb | rw [hkbb]) ?_
                  simp only [Act.put, List.setIfInBounds_toArray, List.set_cons_zero, List.set_cons_succ]
                  refine quietW_moveV (by kernel_rfl) _ rfl (.bool true) rfl ?_
                  simp only [Act.put, List.setIfInBounds_toArray, List.set_cons_zero, List.set_cons_succ]
                  refine quiet_skip (by kernel_rfl) ?_
                  simp only [Act.put, List.setIfInBounds_toArray, List.set_cons_zero, List.set_cons_succ]
                  refine quiet_skip (by kernel_rfl) ?_
                  simp only [Act.put, List.setIfInBounds_toArray, List.set_cons_zero, List.set_cons_succ]
                  refine quiet_skip (by kernel_rfl) ?_
                  simp only [Act.put, List.setIfInBounds_toArray, List.set_cons_zero, List.set_cons_succ]
                  refine quiet_skip (by kernel_rfl) ?_
                  simp only [Act.put, List.setIfInBounds_toArray, List.set_cons_zero, List.set_cons_succ]
                  refine quiet_skip (by kernel_rfl) ?_
                  simp only [Act.put, List.setIfInBounds_toArray, List.set_cons_zero, List.set_cons_succ]
                  refine quietW_still (by kernel_rfl) (.bool true) (fun w _ => by go_simp) ?_
                  simp only [Act.put, List.setIfInBounds_toArray, List.set_cons_zero, List.set_cons_succ]
                  refine quiet_still rfl (.bool true) (fun w _ => by go_simp) ?_
                  simp only [Act.put, List.setIfInBounds_toArray, List.set_cons_zero, List.set_cons_succ]
                  refine quiet_moveV rfl _ rfl (.bool true) rfl ?_
                  simp only [Act.put, List.setIfInBounds_toArray, List.set_cons_zero, List.set_cons_succ]
                  refine quietW_moveV (by kernel_rfl) _ rfl (.slice (some ⟨g, 0, none⟩) s.ws.length s.ws.length) rfl ?_
                  simp only [Act.put, List.setIfInBounds_toArray, List.set_cons_zero, List.set_cons_succ]
                  refine quietW_moveV (by kernel_rfl) _ rfl (.int .i64 (i : Int)) rfl ?_
                  simp only [Act.put, List.setIfInBounds_toArray, List.set_cons_zero, List.set_cons_succ]
                  refine quietW_still (by kernel_rfl) (.pointer (some ⟨g, i, none⟩)) (fun w _ => by go_simp) ?_
                  simp only [Act.put, List.setIfInBounds_toArray, List.set_cons_zero, List.set_cons_succ]
                  refine quietW_load1 (by kernel_rfl) _ _ rfl ⟨g, i, none⟩ rfl (.int .i64 (V : Int)) (load_int _ _) (fun _ h => (h.cell (p := ⟨g, i, none⟩) hgx).trans ci) ?_
                  simp only [Act.put, List.setIfInBounds_toArray, List.set_cons_zero, List.set_cons_succ]
                  refine quietW_still (by kernel_rfl) (.bool true) (fun w _ => by go_simp; first | done | omega) ?_
                  simp only [Act.put, List.setIfInBounds_toArray, List.set_cons_zero, List.set_cons_succ]
                  refine quietW_moveV (by kernel_rfl) _ rfl (.bool true) rfl ?_
                  simp only [Act.put, List.setIfInBounds_toArray, List.set_cons_zero, List.set_cons_succ]
                  refine quiet_skip (by kernel_rfl) ?_
                  simp only [Act.put, List.setIfInBounds_toArray, List.set_cons_zero, List.set_cons_succ]
                  refine quiet_skip (by kernel_rfl) ?_
                  simp only [Act.put, List.setIfInBounds_toArray, List.set_cons_zero, List.set_cons_succ]
                  refine quiet_skip (by kernel_rfl) ?_
                  simp only [Act.put, List.setIfInBounds_toArray, List.set_cons_zero, List.set_cons_succ]
                  refine quiet_skip (by kernel_rfl) ?_
                  simp only [Act.put, List.setIfInBounds_toArray, List.set_cons_zero, List.set_cons_succ]
                  refine quiet_skip (by kernel_rfl) ?_
                  simp only [Act.put, List.setIfInBounds_toArray, List.set_cons_zero, List.set_cons_succ]
                  refine quiet_skip (by kernel_rfl) ?_
                  simp only [Act.put, List.setIfInBounds_toArray, List.set_cons_zero, List.set_cons_succ]
                  refine quiet_skip (by kernel_rfl) ?_
                  simp only [Act.put, List.setIfInBounds_toArray, List.set_cons_zero, List.set_cons_succ]
                  refine quiet_skip (by kernel_rfl) ?_
                  simp only [Act.put, List.setIfInBounds_toArray, List.set_cons_zero, List.set_cons_succ]
                  refine quiet_skip (by kernel_rfl) ?_
                  simp only [Act.put, List.setIfInBounds_toArray, List.set_cons_zero, List.set_cons_succ]
                  refine quiet_skip (by kernel_rfl) ?_
                  simp only [Act.put, List.setIfInBounds_toArray, List.set_cons_zero, List.set_cons_succ]
                  refine quietW_still (by kernel_rfl) (.bool true) (fun w _ => by go_simp) ?_
                  simp only [Act.put, List.setIfInBounds_toArray, List.set_cons_zero, List.set_cons_succ]
                  unfold wpQuiet
                  intro wq hb
                  have HNQ := Lib.hid (HNO.out.below hb)
                  have HSS := HNQ.out.set i (F k + 1)
                  rw [HMN.out _ HIN.out] at HSS
                  have HN2 := Lib.hid HSS
                  have HBQ := HB1X.out.trans (hb.mono (Nat.le_of_lt hgx))
                  have HBS := Lib.hid (show Below g w1 (wq.setCell ⟨g, i, none⟩ (.int .i64 (((F k + 1 : Nat)) : Int))) from HBQ.setCell (p := ⟨g, i, none⟩) (Nat.le_refl _) _)
                  have ck2 := (hb.cell (p := ⟨g, k, none⟩) hgx).trans ck
                  have ci2 := (hb.cell (p := ⟨g, i, none⟩) hgx).trans ci
                  have fi := HNQ.out.frozen i
                  have hF2 : ((F k : Int) + 1) = ((F k + 1 : Nat) : Int) := by omega
                  rw [hF2] at hF1
                  clear g1 ck ci hb HSS HBQ hF2
                  go_wp2_with fail
                  go_roundw
                  case rel => exact ⟨m + 1, hmn, by rw [HK.out]; go_num, HN2.out, HBS.out⟩
                  case measure => (simp [intOf] <;> omega)
                · obtain ⟨l0, hl⟩ : ∃ l0, l0 = decide (F k + 1 < V) := ⟨_, rfl⟩
                  have hl0 : decide ((F k : Int) + 1 < (V : Int)) = l0 := by rw [hl, Bool.eq_iff_iff]; simp; omega
                  have HIN0 := Lib.hid (show inF s.ws nb F i (m + 1) = if l0 = true then F k + 1 else V by rw [HSF2.out, hcond, decide_eq_false hv0, hl]; rfl)
                  clear hcond ht hl
                  refine wp_region_class (fun w' => Below wx.heap.size wx w') 41 (by kernel_rfl) (by kernel_rfl) (Below.refl _ wx).drew ?_
                  simp only [List.take_succ_cons, List.take_zero, List.drop_succ_cons, List.drop_zero]
                  refine quiet_still rfl (.pointer (some ⟨w.heap.size, 1, none⟩)) (fun w _ => by go_simp) ?_
                  simp only [Act.put, List.setIfInBounds_toArray, List.set_cons_zero, List.set_cons_succ]
                  refine quiet_load1 rfl _ _ rfl ⟨w.heap.size, 1, none⟩ rfl (.slice (some ⟨wb, wo, none⟩) s.ws.length uc) (load_ws _ _) (fun _ h => (h.cell (p := ⟨w.heap.size, 1, none⟩) hzx).trans g1) ?_
                  simp only [Act.put, List.setIfInBounds_toArray, List.set_cons_zero, List.set_cons_succ]
                  refine quiet_moveV rfl _ rfl (.int .i64 (i : Int)) rfl ?_
                  simp only [Act.put, List.setIfInBounds_toArray, List.set_cons_zero, List.set_cons_succ]
                  refine quiet_still rfl (.pointer (some ⟨wb, wo + i * 3, none⟩)) (fun w _ => by go_simp) ?_
                  simp only [Act.put, List.setIfInBounds_toArray, List.set_cons_zero, List.set_cons_succ]
                  refine quiet_load_mid rfl _ _ rfl wb (wo + i * 3) rfl [.int .i64 y1.kd, .int .i64 y1.pl, .string y1.wd] _ (fun W h => range_below3 RGy1.out hwbx h) Try.underlying48 rfl (by kernel_rfl) ?_
                  simp only [Act.put, List.setIfInBounds_toArray, List.set_cons_zero, List.set_cons_succ]
                  refine quiet_still rfl (.pointer (some ⟨w.heap.size, 1, none⟩)) (fun w _ => by go_simp) ?_
                  simp only [Act.put, List.setIfInBounds_toArray, List.set_cons_zero, List.set_cons_succ]
                  refine quiet_load1 rfl _ _ rfl ⟨w.heap.size, 1, none⟩ rfl (.slice (some ⟨wb, wo, none⟩) s.ws.length uc) (load_ws _ _) (fun _ h => (h.cell (p := ⟨w.heap.size, 1, none⟩) hzx).trans g1) ?_
                  simp only [Act.put, List.setIfInBounds_toArray, List.set_cons_zero, List.set_cons_succ]
                  refine quiet_moveV rfl _ rfl (.int .i64 (k : Int)) rfl ?_
                  simp only [Act.put, List.setIfInBounds_toArray, List.set_cons_zero, List.set_cons_succ]
                  refine quiet_still rfl (.pointer (some ⟨wb, wo + k * 3, none⟩)) (fun w _ => by go_simp) ?_
                  simp only [Act.put, List.setIfInBounds_toArray, List.set_cons_zero, List.set_cons_succ]
                  refine quiet_load_mid rfl _ _ rfl wb (wo + k * 3) rfl [.int .i64 y2.kd, .int .i64 y2.pl, .string y2.wd] _ (fun W h => range_below3 RGy2.out hwbx h) Try.underlying48 rfl (by kernel_rfl) ?_
                  simp only [Act.put, List.setIfInBounds_toArray, List.set_cons_zero, List.set_cons_succ]
                  refine quiet_call rfl 30 _ _ rfl (enter_of Try.func30 (by decide) (by intro h; cases h)) _ (fun W h => (CT.out W).mono fun e w' ⟨he, hw⟩ => ⟨he, h.trans (hw.mono h.size)⟩) ?_
                  simp only [Act.put, List.setIfInBounds_toArray, List.set_cons_zero, List.set_cons_succ]
                  refine quiet_moveV rfl _ rfl (.bool true) rfl ?_
                  simp only [Act.put, List.setIfInBounds_toArray, List.set_cons_zero, List.set_cons_succ]
                  refine quietW_moveV (by kernel_rfl) _ rfl (.int .i64 (k : Int)) rfl ?_
                  simp only [Act.put, List.setIfInBounds_toArray, List.set_cons_zero, List.set_cons_succ]
                  refine quietW_moveV (by kernel_rfl) _ rfl (.int .i64 (nb : Int)) rfl ?_
                  simp only [Act.put, List.setIfInBounds_toArray, List.set_cons_zero, List.set_cons_succ]
                  refine quietW_still (by kernel_rfl) (.bool true) (fun w _ => by go_simp; first | done | exact hkbb | rw [hkbb]) ?_
                  simp only [Act.put, List.setIfInBounds_toArray, List.set_cons_zero, List.set_cons_succ]
                  refine quietW_moveV (by kernel_rfl) _ rfl (.bool true) rfl ?_
                  simp only [Act.put, List.setIfInBounds_toArray, List.set_cons_zero, List.set_cons_succ]
                  refine quiet_skip (by kernel_rfl) ?_
                  simp only [Act.put, List.setIfInBounds_toArray, List.set_cons_zero, List.set_cons_succ]
                  refine quiet_skip (by kernel_rfl) ?_
                  simp only [Act.put, List.setIfInBounds_toArray, List.set_cons_zero, List.set_cons_succ]
                  refine quiet_skip (by kernel_rfl) ?_
                  simp only [Act.put, List.setIfInBounds_toArray, List.set_cons_zero, List.set_cons_succ]
                  refine quiet_skip (by kernel_rfl) ?_
                  simp only [Act.put, List.setIfInBounds_toArray, List.set_cons_zero, List.set_cons_succ]
                  refine quiet_skip (by kernel_rfl) ?_
                  simp only [Act.put, List.setIfInBounds_toArray, List.set_cons_zero, List.set_cons_succ]
                  refine quietW_still (by kernel_rfl) (.bool true) (fun w _ => by go_simp) ?_
                  simp only [Act.put, List.setIfInBounds_toArray, List.set_cons_zero, List.set_cons_succ]
                  refine quiet_still rfl (.bool true) (fun w _ => by go_simp) ?_
                  simp only [Act.put, List.setIfInBounds_toArray, List.set_cons_zero, List.set_cons_succ]
                  refine quiet_moveV rfl _ rfl (.bool true) rfl ?_
                  simp only [Act.put, List.setIfInBounds_toArray, List.set_cons_zero, List.set_cons_succ]
                  refine quietW_moveV (by kernel_rfl) _ rfl (.slice (some ⟨g, 0, none⟩) s.ws.length s.ws.length) rfl ?_
                  simp only [Act.put, List.setIfInBounds_toArray, List.set_cons_zero, List.set_cons_succ]
                  refine quietW_moveV (by kernel_rfl) _ rfl (.int .i64 (i : Int)) rfl ?_
                  simp only [Act.put, List.setIfInBounds_toArray, List.set_cons_zero, List.set_cons_succ]
                  refine quietW_still (by kernel_rfl) (.pointer (some ⟨g, i, none⟩)) (fun w _ => by go_simp) ?_
                  simp only [Act.put, List.setIfInBounds_toArray, List.set_cons_zero, List.set_cons_succ]
                  refine quietW_load1 (by kernel_rfl) _ _ rfl ⟨g, i, none⟩ rfl (.int .i64 (V : Int)) (load_int _ _) (fun _ h => (h.cell (p := ⟨g, i, none⟩) hgx).trans ci) ?_
                  simp only [Act.put, List.setIfInBounds_toArray, List.set_cons_zero, List.set_cons_succ]
                  refine quietW_still (by kernel_rfl) (.bool false) (fun w _ => by go_simp; first | done | omega) ?_
                  simp only [Act.put, List.setIfInBounds_toArray, List.set_cons_zero, List.set_cons_succ]
                  refine quietW_moveV (by kernel_rfl) _ rfl (.bool false) rfl ?_
                  simp only [Act.put, List.setIfInBounds_toArray, List.set_cons_zero, List.set_cons_succ]
                  refine quietW_moveV (by kernel_rfl) _ rfl (.slice (some ⟨g, 0, none⟩) s.ws.length s.ws.length) rfl ?_
                  simp only [Act.put, List.setIfInBounds_toArray, List.set_cons_zero, List.set_cons_succ]
                  refine quietW_moveV (by kernel_rfl) _ rfl (.int .i64 (k : Int)) rfl ?_
                  simp only [Act.put, List.setIfInBounds_toArray, List.set_cons_zero, List.set_cons_succ]
                  refine quietW_still (by kernel_rfl) (.pointer (some ⟨g, k, none⟩)) (fun w _ => by go_simp) ?_
                  simp only [Act.put, List.setIfInBounds_toArray, List.set_cons_zero, List.set_cons_succ]
                  refine quietW_load1 (by kernel_rfl) _ _ rfl ⟨g, k, none⟩ rfl (.int .i64 (F k : Int)) (load_int _ _) (fun _ h => (h.cell (p := ⟨g, k, none⟩) hgx).trans ck) ?_
                  simp only [Act.put, List.setIfInBounds_toArray, List.set_cons_zero, List.set_cons_succ]
                  refine quietW_still (by kernel_rfl) (.int .i64 ((F k : Int) + 1)) (fun w _ => by go_simp; first | done | exact hF1) ?_
                  simp only [Act.put, List.setIfInBounds_toArray, List.set_cons_zero, List.set_cons_succ]
                  refine quietW_moveV (by kernel_rfl) _ rfl (.slice (some ⟨g, 0, none⟩) s.ws.length s.ws.length) rfl ?_
                  simp only [Act.put, List.setIfInBounds_toArray, List.set_cons_zero, List.set_cons_succ]
                  refine quietW_moveV (by kernel_rfl) _ rfl (.int .i64 (i : Int)) rfl ?_
                  simp only [Act.put, List.setIfInBounds_toArray, List.set_cons_zero, List.set_cons_succ]
                  refine quietW_still (by kernel_rfl) (.pointer (some ⟨g, i, none⟩)) (fun w _ => by go_simp) ?_
                  simp only [Act.put, List.setIfInBounds_toArray, List.set_cons_zero, List.set_cons_succ]
                  refine quietW_load1 (by kernel_rfl) _ _ rfl ⟨g, i, none⟩ rfl (.int .i64 (V : Int)) (load_int _ _) (fun _ h => (h.cell (p := ⟨g, i, none⟩) hgx).trans ci) ?_
                  simp only [Act.put, List.setIfInBounds_toArray, List.set_cons_zero, List.set_cons_succ]
                  refine quietW_still (by kernel_rfl) (.bool l0) (fun w _ => by go_simp; first | done | rw [hl0] | simp [hl0]) ?_
                  simp only [Act.put, List.setIfInBounds_toArray, List.set_cons_zero, List.set_cons_succ]
                  refine quietW_still (by kernel_rfl) (.bool l0) (fun w _ => by go_simp) ?_
                  simp only [Act.put, List.setIfInBounds_toArray, List.set_cons_zero, List.set_cons_succ]
                  unfold wpQuiet
                  intro wq hb
                  clear hl0
                  cases l0
                  · have HIN := Lib.hid (show inF s.ws nb F i (m + 1) = V by rw [HIN0.out]; rfl)
                    clear g1 ck ci
                    have HN2 := Lib.hid (show NO g wq g s.ws.length (midF s.ws nb F i (m + 1)) by rw [HMS.out HIN.out]; exact HNO.out.below hb)
                    have HBQ := Lib.hid (HB1X.out.trans (hb.mono (Nat.le_of_lt hgx)))
                    clear hb
                    go_wp2_with fail
                    go_roundw
                    case rel => exact ⟨m + 1, hmn, by rw [HK.out]; go_num, HN2.out, HBQ.out⟩
                    case measure => (simp [intOf] <;> omega)
                  · have HIN := Lib.hid (show inF s.ws nb F i (m + 1) = F k + 1 by rw [HIN0.out]; rfl)
                    have HNQ := Lib.hid (HNO.out.below hb)
                    have HSS := HNQ.out.set i (F k + 1)
                    rw [HMN.out _ HIN.out] at HSS
                    have HN2 := Lib.hid HSS
                    have HBQ := HB1X.out.trans (hb.mono (Nat.le_of_lt hgx))
                    have HBS := Lib.hid (show Below g w1 (wq.setCell ⟨g, i, none⟩ (.int .i64 (((F k + 1 : Nat)) : Int))) from HBQ.setCell (p := ⟨g, i, none⟩) (Nat.le_refl _) _)
                    have ck2 := (hb.cell (p := ⟨g, k, none⟩) hgx).trans ck
                    have ci2 := (hb.cell (p := ⟨g, i, none⟩) hgx).trans ci
                    have fi := HNQ.out.frozen i
                    have hF2 : ((F k : Int) + 1) = ((F k + 1 : Nat) : Int) := by omega
                    rw [hF2] at hF1
                    clear g1 ck ci hb HSS HBQ hF2
                    go_wp2_with fail
                    go_roundw
                    case rel => exact ⟨m + 1, hmn, by rw [HK.out]; go_num, HN2.out, HBS.out⟩
                    case measure => (simp [intOf] <;> omega)
              · have hkbb : ((k : Int) == (nb : Int)) = false := by rw [beq_eq_false_iff_ne]; omega
                by_cases hf0 : 0 < F k
                · have hcond : (touchP y1 y2 && (decide (k = nb) || decide (0 < F k))) = true := by rw [ht, decide_eq_true hf0, Bool.or_true]; rfl
                  clear hkb
                  by_cases hv0 : V = 0
                  · have HIN := Lib.hid (show inF s.ws nb F i (m + 1) = F k + 1 by rw [HSF2.out, hcond, decide_eq_true hv0]; rfl)
                    clear hcond ht
                    refine wp_region_class (fun w' => Below wx.heap.size wx w') 41 (by kernel_rfl) (by kernel_rfl) (Below.refl _ wx).drew ?_
                    simp only [List.take_succ_cons, List.take_zero, List.drop_succ_cons, List.drop_zero]
                    refine quiet_still rfl (.pointer (some ⟨w.heap.size, 1, none⟩)) (fun w _ => by go_simp) ?_
                    simp only [Act.put, List.setIfInBounds_toArray, List.set_cons_zero, List.set_cons_succ]
                    refine quiet_load1 rfl _ _ rfl ⟨w.heap.size, 1, none⟩ rfl (.slice (some ⟨wb, wo, none⟩) s.ws.length uc) (load_ws _ _) (fun _ h => (h.cell (p := ⟨w.heap.size, 1, none⟩) hzx).trans g1) ?_
                    simp only [Act.put, List.setIfInBounds_toArray, List.set_cons_zero, List.set_cons_succ]
                    refine quiet_moveV rfl _ rfl (.int .i64 (i : Int)) rfl ?_
                    simp only [Act.put, List.setIfInBounds_toArray, List.set_cons_zero, List.set_cons_succ]
                    refine quiet_still rfl (.pointer (some ⟨wb, wo + i * 3, none⟩)) (fun w _ => by go_simp) ?_
                    simp only [Act.put, List.setIfInBounds_toArray, List.set_cons_zero, List.set_cons_succ]
                    refine quiet_load_mid rfl _ _ rfl wb (wo + i * 3) rfl [.int .i64 y1.kd, .int .i64 y1.pl, .string y1.wd] _ (fun W h => range_below3 RGy1.out hwbx h) Try.underlying48 rfl (by kernel_rfl) ?_
                    simp only [Act.put, List.setIfInBounds_toArray, List.set_cons_zero, List.set_cons_succ]
                    refine quiet_still rfl (.pointer (some ⟨w.heap.size, 1, none⟩)) (fun w _ => by go_simp) ?_
                    simp only [Act.put, List.setIfInBounds_toArray, List.set_cons_zero, List.set_cons_succ]
                    refine quiet_load1 rfl _ _ rfl ⟨w.heap.size, 1, none⟩ rfl (.slice (some ⟨wb, wo, none⟩) s.ws.length uc) (load_ws _ _) (fun _ h => (h.cell (p := ⟨w.heap.size, 1, none⟩) hzx).trans g1) ?_
                    simp only [Act.put, List.setIfInBounds_toArray, List.set_cons_zero, List.set_cons_succ]
                    refine quiet_moveV rfl _ rfl (.int .i64 (k : Int)) rfl ?_
                    simp only [Act.put, List.setIfInBounds_toArray, List.set_cons_zero, List.set_cons_succ]
                    refine quiet_still rfl (.pointer (some ⟨wb, wo + k * 3, none⟩)) (fun w _ => by go_simp) ?_
                    simp only [Act.put, List.setIfInBounds_toArray, List.set_cons_zero, List.set_cons_succ]
                    refine quiet_load_mid rfl _ _ rfl wb (wo + k * 3) rfl [.int .i64 y2.kd, .int .i64 y2.pl, .string y2.wd] _ (fun W h => range_below3 RGy2.out hwbx h) Try.underlying48 rfl (by kernel_rfl) ?_
                    simp only [Act.put, List.setIfInBounds_toArray, List.set_cons_zero, List.set_cons_succ]
                    refine quiet_call rfl 30 _ _ rfl (enter_of Try.func30 (by decide) (by intro h; cases h)) _ (fun W h => (CT.out W).mono fun e w' ⟨he, hw⟩ => ⟨he, h.trans (hw.mono h.size)⟩) ?_
                    simp only [Act.put, List.setIfInBounds_toArray, List.set_cons_zero, List.set_cons_succ]
                    refine quiet_moveV rfl _ rfl (.bool true) rfl ?_
                    simp only [Act.put, List.setIfInBounds_toArray, List.set_cons_zero, List.set_cons_succ]
                    refine quietW_moveV (by kernel_rfl) _ rfl (.int .i64 (k : Int)) rfl ?_
                    simp only [Act.put, List.setIfInBounds_toArray, List.set_cons_zero, List.set_cons_succ]
                    refine quietW_moveV (by kernel_rfl) _ rfl (.int .i64 (nb : Int)) rfl ?_
                    simp only [Act.put, List.setIfInBounds_toArray, List.set_cons_zero, List.set_cons_succ]
                    refine quietW_still (by kernel_rfl) (.bool false) (fun w _ => by go_simp; first | done | exact hkbb | rw [hkbb]) ?_
                    simp only [Act.put, List.setIfInBounds_toArray, List.set_cons_zero, List.set_cons_succ]
                    refine quietW_moveV (by kernel_rfl) _ rfl (.bool false) rfl ?_
                    simp only [Act.put, List.setIfInBounds_toArray, List.set_cons_zero, List.set_cons_succ]
                    refine quietW_moveV (by kernel_rfl) _ rfl (.slice (some ⟨g, 0, none⟩) s.ws.length s.ws.length) rfl ?_
                    simp only [Act.put, List.setIfInBounds_toArray, List.set_cons_zero, List.set_cons_succ]
                    refine quietW_moveV (by kernel_rfl) _ rfl (.int .i64 (k : Int)) rfl ?_
                    simp only [Act.put, List.setIfInBounds_toArray, List.set_cons_zero, List.set_cons_succ]
                    refine quietW_still (by kernel_rfl) (.pointer (some ⟨g, k, none⟩)) (fun w _ => by go_simp) ?_
                    simp only [Act.put, List.setIfInBounds_toArray, List.set_cons_zero, List.set_cons_succ]
                    refine quietW_load1 (by kernel_rfl) _ _ rfl ⟨g, k, none⟩ rfl (.int .i64 (F k : Int)) (load_int _ _) (fun _ h => (h.cell (p := ⟨g, k, none⟩) hgx).trans ck) ?_
                    simp only [Act.put, List.setIfInBounds_toArray, List.set_cons_zero, List.set_cons_succ]
                    refine quietW_still (by kernel_rfl) (.bool true) (fun w _ => by go_simp; first | done | omega) ?_
                    simp only [Act.put, List.setIfInBounds_toArray, List.set_cons_zero, List.set_cons_succ]
                    refine quietW_still (by kernel_rfl) (.bool true) (fun w _ => by go_simp) ?_
                    simp only [Act.put, List.setIfInBounds_toArray, List.set_cons_zero, List.set_cons_succ]
                    refine quiet_still rfl (.bool true) (fun w _ => by go_simp) ?_
                    simp only [Act.put, List.setIfInBounds_toArray, List.set_cons_zero, List.set_cons_succ]
                    refine quiet_moveV rfl _ rfl (.bool true) rfl ?_
                    simp only [Act.put, List.setIfInBounds_toArray, List.set_cons_zero, List.set_cons_succ]
                    refine quietW_moveV (by kernel_rfl) _ rfl (.slice (some ⟨g, 0, none⟩) s.ws.length s.ws.length) rfl ?_
                    simp only [Act.put, List.setIfInBounds_toArray, List.set_cons_zero, List.set_cons_succ]
                    refine quietW_moveV (by kernel_rfl) _ rfl (.int .i64 (i : Int)) rfl ?_
                    simp only [Act.put, List.setIfInBounds_toArray, List.set_cons_zero, List.set_cons_succ]
                    refine quietW_still (by kernel_rfl) (.pointer (some ⟨g, i, none⟩)) (fun w _ => by go_simp) ?_
                    simp only [Act.put, List.setIfInBounds_toArray, List.set_cons_zero, List.set_cons_succ]
                    refine quietW_load1 (by kernel_rfl) _ _ rfl ⟨g, i, none⟩ rfl (.int .i64 (V : Int)) (load_int _ _) (fun _ h => (h.cell (p := ⟨g, i, none⟩) hgx).trans ci) ?_
                    simp only [Act.put, List.setIfInBounds_toArray, List.set_cons_zero, List.set_cons_succ]
                    refine quietW_still (by kernel_rfl) (.bool true) (fun w _ => by go_simp; first | done | omega) ?_
                    simp only [Act.put, List.setIfInBounds_toArray, List.set_cons_zero, List.set_cons_succ]
                    refine quietW_moveV (by kernel_rfl) _ rfl (.bool true) rfl ?_
                    simp only [Act.put, List.setIfInBounds_toArray, List.set_cons_zero, List.set_cons_succ]
                    refine quiet_skip (by kernel_rfl) ?_
                    simp only [Act.put, List.setIfInBounds_toArray, List.set_cons_zero, List.set_cons_succ]
                    refine quiet_skip (by kernel_rfl) ?_
                    simp only [Act.put, List.setIfInBounds_toArray, List.set_cons_zero, List.set_cons_succ]
                    refine quiet_skip (by kernel_rfl) ?_
                    simp only [Act.put, List.setIfInBounds_toArray, List.set_cons_zero, List.set_cons_succ]
                    refine quiet_skip (by kernel_rfl) ?_
                    simp only [Act.put, List.setIfInBounds_toArray, List.set_cons_zero, List.set_cons_succ]
                    refine quiet_skip (by kernel_rfl) ?_
                    simp only [Act.put, List.setIfInBounds_toArray, List.set_cons_zero, List.set_cons_succ]
                    refine quiet_skip (by kernel_rfl) ?_
                    simp only [Act.put, List.setIfInBounds_toArray, List.set_cons_zero, List.set_cons_succ]
                    refine quiet_skip (by kernel_rfl) ?_
                    simp only [Act.put, List.setIfInBounds_toArray, List.set_cons_zero, List.set_cons_succ]
                    refine quiet_skip (by kernel_rfl) ?_
                    simp only [Act.put, List.setIfInBounds_toArray, List.set_cons_zero, List.set_cons_succ]
                    refine quiet_skip (by kernel_rfl) ?_
                    simp only [Act.put, List.setIfInBounds_toArray, List.set_cons_zero, List.set_cons_succ]
                    refine quiet_skip (by kernel_rfl) ?_
                    simp only [Act.put, List.setIfInBounds_toArray, List.set_cons_zero, List.set_cons_succ]
                    refine quietW_still (by kernel_rfl) (.bool true) (fun w _ => by go_simp) ?_
                    simp only [Act.put, List.setIfInBounds_toArray, List.set_cons_zero, List.set_cons_succ]
                    unfold wpQuiet
                    intro wq hb
                    have HNQ := Lib.hid (HNO.out.below hb)
                    have HSS := HNQ.out.set i (F k + 1)
                    rw [HMN.out _ HIN.out] at HSS
                    have HN2 := Lib.hid HSS
                    have HBQ := HB1X.out.trans (hb.mono (Nat.le_of_lt hgx))
                    have HBS := Lib.hid (show Below g w1 (wq.setCell ⟨g, i, none⟩ (.int .i64 (((F k + 1 : Nat)) : Int))) from HBQ.setCell (p := ⟨g, i, none⟩) (Nat.le_refl _) _)
                    have ck2 := (hb.cell (p := ⟨g, k, none⟩) hgx).trans ck
                    have ci2 := (hb.cell (p := ⟨g, i, none⟩) hgx).trans ci
                    have fi := HNQ.out.frozen i
                    have hF2 : ((F k : Int) + 1) = ((F k + 1 : Nat) : Int) := by omega
                    rw [hF2] at hF1
                    clear g1 ck ci hb HSS HBQ hF2
                    go_wp2_with fail
                    go_roundw
                    case rel => exact ⟨m + 1, hmn, by rw [HK.out]; go_num, HN2.out, HBS.out⟩
                    case measure => (simp [intOf] <;> omega)
                  · obtain ⟨l0, hl⟩ : ∃ l0, l0 = decide (F k + 1 < V) := ⟨_, rfl⟩
                    have hl0 : decide ((F k : Int) + 1 < (V : Int)) = l0 := by rw [hl, Bool.eq_iff_iff]; simp; omega
                    have HIN0 := Lib.hid (show inF s.ws nb F i (m + 1) = if l0 = true then F k + 1 else V by rw [HSF2.out, hcond, decide_eq_false hv0, hl]; rfl)
                    clear hcond ht hl
                    refine wp_region_class (fun w' => Below wx.heap.size wx w') 41 (by kernel_rfl) (by kernel_rfl) (Below.refl _ wx).drew ?_
                    simp only [List.take_succ_cons, List.take_zero, List.drop_succ_cons, List.drop_zero]
                    refine quiet_still rfl (.pointer (some ⟨w.heap.size, 1, none⟩)) (fun w _ => by go_simp) ?_
                    simp only [Act.put, List.setIfInBounds_toArray, List.set_cons_zero, List.set_cons_succ]
                    refine quiet_load1 rfl _ _ rfl ⟨w.heap.size, 1, none⟩ rfl (.slice (some ⟨wb, wo, none⟩) s.ws.length uc) (load_ws _ _) (fun _ h => (h.cell (p := ⟨w.heap.size, 1, none⟩) hzx).trans g1) ?_
                    simp only [Act.put, List.setIfInBounds_toArray, List.set_cons_zero, List.set_cons_succ]
                    refine quiet_moveV rfl _ rfl (.int .i64 (i : Int)) rfl ?_
                    simp only [Act.put, List.setIfInBounds_toArray, List.set_cons_zero, List.set_cons_succ]
                    refine quiet_still rfl (.pointer (some ⟨wb, wo + i * 3, none⟩)) (fun w _ => by go_simp) ?_
                    simp only [Act.put, List.setIfInBounds_toArray, List.set_cons_zero, List.set_cons_succ]
                    refine quiet_load_mid rfl _ _ rfl wb (wo + i * 3) rfl [.int .i64 y1.kd, .int .i64 y1.pl, .string y1.wd] _ (fun W h => range_below3 RGy1.out hwbx h) Try.underlying48 rfl (by kernel_rfl) ?_
                    simp only [Act.put, List.setIfInBounds_toArray, List.set_cons_zero, List.set_cons_succ]
                    refine quiet_still rfl (.pointer (some ⟨w.heap.size, 1, none⟩)) (fun w _ => by go_simp) ?_
                    simp only [Act.put, List.setIfInBounds_toArray, List.set_cons_zero, List.set_cons_succ]
                    refine quiet_load1 rfl _ _ rfl ⟨w.heap.size, 1, none⟩ rfl (.slice (some ⟨wb, wo, none⟩) s.ws.length uc) (load_ws _ _) (fun _ h => (h.cell (p := ⟨w.heap.size, 1, none⟩) hzx).trans g1) ?_
                    simp only [Act.put, List.setIfInBounds_toArray, List.set_cons_zero, List.set_cons_succ]
                    refine quiet_moveV rfl _ rfl (.int .i64 (k : Int)) rfl ?_
                    simp only [Act.put, List.setIfInBounds_toArray, List.set_cons_zero, List.set_cons_succ]
                    refine quiet_still rfl (.pointer (some ⟨wb, wo + k * 3, none⟩)) (fun w _ => by go_simp) ?_
                    simp only [Act.put, List.setIfInBounds_toArray, List.set_cons_zero, List.set_cons_succ]
                    refine quiet_load_mid rfl _ _ rfl wb (wo + k * 3) rfl [.int .i64 y2.kd, .int .i64 y2.pl, .string y2.wd] _ (fun W h => range_below3 RGy2.out hwbx h) Try.underlying48 rfl (by kernel_rfl) ?_
                    simp only [Act.put, List.setIfInBounds_toArray, List.set_cons_zero, List.set_cons_succ]
                    refine quiet_call rfl 30 _ _ rfl (enter_of Try.func30 (by decide) (by intro h; cases h)) _ (fun W h => (CT.out W).mono fun e w' ⟨he, hw⟩ => ⟨he, h.trans (hw.mono h.size)⟩) ?_
                    simp only [Act.put, List.setIfInBounds_toArray, List.set_cons_zero, List.set_cons_succ]
                    refine quiet_moveV rfl _ rfl (.bool true) rfl ?_
                    simp only [Act.put, List.setIfInBounds_toArray, List.set_cons_zero, List.set_cons_succ]
                    refine quietW_moveV (by kernel_rfl) _ rfl (.int .i64 (k : Int)) rfl ?_
                    simp only [Act.put, List.setIfInBounds_toArray, List.set_cons_zero, List.set_cons_succ]
                    refine quietW_moveV (by kernel_rfl) _ rfl (.int .i64 (nb : Int)) rfl ?_
                    simp only [Act.put, List.setIfInBounds_toArray, List.set_cons_zero, List.set_cons_succ]
                    refine quietW_still (by kernel_rfl) (.bool false) (fun w _ => by go_simp; first | done | exact hkbb | rw [hkbb]) ?_
                    simp only [Act.put, List.setIfInBounds_toArray, List.set_cons_zero, List.set_cons_succ]
                    refine quietW_moveV (by kernel_rfl) _ rfl (.bool false) rfl ?_
                    simp only [Act.put, List.setIfInBounds_toArray, List.set_cons_zero, List.set_cons_succ]
                    refine quietW_moveV (by kernel_rfl) _ rfl (.slice (some ⟨g, 0, none⟩) s.ws.length s.ws.length) rfl ?_
                    simp only [Act.put, List.setIfInBounds_toArray, List.set_cons_zero, List.set_cons_succ]
                    refine quietW_moveV (by kernel_rfl) _ rfl (.int .i64 (k : Int)) rfl ?_
                    simp only [Act.put, List.setIfInBounds_toArray, List.set_cons_zero, List.set_cons_succ]
                    refine quietW_still (by kernel_rfl) (.pointer (some ⟨g, k, none⟩)) (fun w _ => by go_simp) ?_
                    simp only [Act.put, List.setIfInBounds_toArray, List.set_cons_zero, List.set_cons_succ]
                    refine quietW_load1 (by kernel_rfl) _ _ rfl ⟨g, k, none⟩ rfl (.int .i64 (F k : Int)) (load_int _ _) (fun _ h => (h.cell (p := ⟨g, k, none⟩) hgx).trans ck) ?_
                    simp only [Act.put, List.setIfInBounds_toArray, List.set_cons_zero, List.set_cons_succ]
                    refine quietW_still (by kernel_rfl) (.bool true) (fun w _ => by go_simp; first | done | omega) ?_
                    simp only [Act.put, List.setIfInBounds_toArray, List.set_cons_zero, List.set_cons_succ]
                    refine quietW_still (by kernel_rfl) (.bool true) (fun w _ => by go_simp) ?_
                    simp only [Act.put, List.setIfInBounds_toArray, List.set_cons_zero, List.set_cons_succ]
                    refine quiet_still rfl (.bool true) (fun w _ => by go_simp) ?_
                    simp only [Act.put, List.setIfInBounds_toArray, List.set_cons_zero, List.set_cons_succ]
                    refine quiet_moveV rfl _ rfl (.bool true) rfl ?_
                    simp only [Act.put, List.setIfInBounds_toArray, List.set_cons_zero, List.set_cons_succ]
                    refine quietW_moveV (by kernel_rfl) _ rfl (.slice (some ⟨g, 0, none⟩) s.ws.length s.ws.length) rfl ?_
                    simp only [Act.put, List.setIfInBounds_toArray, List.set_cons_zero, List.set_cons_succ]
                    refine quietW_moveV (by kernel_rfl) _ rfl (.int .i64 (i : Int)) rfl ?_
                    simp only [Act.put, List.setIfInBounds_toArray, List.set_cons_zero, List.set_cons_succ]
                    refine quietW_still (by kernel_rfl) (.pointer (some ⟨g, i, none⟩)) (fun w _ => by go_simp) ?_
                    simp only [Act.put, List.setIfInBounds_toArray, List.set_cons_zero, List.set_cons_succ]
                    refine quietW_load1 (by kernel_rfl) _ _ rfl ⟨g, i, none⟩ rfl (.int .i64 (V : Int)) (load_int _ _) (fun _ h => (h.cell (p := ⟨g, i, none⟩) hgx).trans ci) ?_
                    simp only [Act.put, List.setIfInBounds_toArray, List.set_cons_zero, List.set_cons_succ]
                    refine quietW_still (by kernel_rfl) (.bool false) (fun w _ => by go_simp; first | done | omega) ?_
                    simp only [Act.put, List.setIfInBounds_toArray, List.set_cons_zero, List.set_cons_succ]
                    refine quietW_moveV (by kernel_rfl) _ rfl (.bool false) rfl ?_
                    simp only [Act.put, List.setIfInBounds_toArray, List.set_cons_zero, List.set_cons_succ]
                    refine quietW_moveV (by kernel_rfl) _ rfl (.slice (some ⟨g, 0, none⟩) s.ws.length s.ws.length) rfl ?_
                    simp only [Act.put, List.setIfInBounds_toArray, List.set_cons_zero, List.set_cons_succ]
                    refine quietW_moveV (by kernel_rfl) _ rfl (.int .i64 (k : Int)) rfl ?_
                    simp only [Act.put, List.setIfInBounds_toArray, List.set_cons_zero, List.set_cons_succ]
                    refine quietW_still (by kernel_rfl) (.pointer (some ⟨g, k, none⟩)) (fun w _ => by go_simp) ?_
                    simp only [Act.put, List.setIfInBounds_toArray, List.set_cons_zero, List.set_cons_succ]
                    refine quietW_load1 (by kernel_rfl) _ _ rfl ⟨g, k, none⟩ rfl (.int .i64 (F k : Int)) (load_int _ _) (fun _ h => (h.cell (p := ⟨g, k, none⟩) hgx).trans ck) ?_
                    simp only [Act.put, List.setIfInBounds_toArray, List.set_cons_zero, List.set_cons_succ]
                    refine quietW_still (by kernel_rfl) (.int .i64 ((F k : Int) + 1)) (fun w _ => by go_simp; first | done | exact hF1) ?_
                    simp only [Act.put, List.setIfInBounds_toArray, List.set_cons_zero, List.set_cons_succ]
                    refine quietW_moveV (by kernel_rfl) _ rfl (.slice (some ⟨g, 0, none⟩) s.ws.length s.ws.length) rfl ?_
                    simp only [Act.put, List.setIfInBounds_toArray, List.set_cons_zero, List.set_cons_succ]
                    refine quietW_moveV (by kernel_rfl) _ rfl (.int .i64 (i : Int)) rfl ?_
                    simp only [Act.put, List.setIfInBounds_toArray, List.set_cons_zero, List.set_cons_succ]
                    refine quietW_still (by kernel_rfl) (.pointer (some ⟨g, i, none⟩)) (fun w _ => by go_simp) ?_
                    simp only [Act.put, List.setIfInBounds_toArray, List.set_cons_zero, List.set_cons_succ]
                    refine quietW_load1 (by kernel_rfl) _ _ rfl ⟨g, i, none⟩ rfl (.int .i64 (V : Int)) (load_int _ _) (fun _ h => (h.cell (p := ⟨g, i, none⟩) hgx).trans ci) ?_
                    simp only [Act.put, List.setIfInBounds_toArray, List.set_cons_zero, List.set_cons_succ]
                    refine quietW_still (by kernel_rfl) (.bool l0) (fun w _ => by go_simp; first | done | rw [hl0] | simp [hl0]) ?_
                    simp only [Act.put, List.setIfInBounds_toArray, List.set_cons_zero, List.set_cons_succ]
                    refine quietW_still (by kernel_rfl) (.bool l0) (fun w _ => by go_simp) ?_
                    simp only [Act.put, List.setIfInBounds_toArray, List.set_cons_zero, List.set_cons_succ]
                    unfold wpQuiet
                    intro wq hb
                    clear hl0
                    cases l0
                    · have HIN := Lib.hid (show inF s.ws nb F i (m + 1) = V by rw [HIN0.out]; rfl)
                      clear g1 ck ci
                      have HN2 := Lib.hid (show NO g wq g s.ws.length (midF s.ws nb F i (m + 1)) by rw [HMS.out HIN.out]; exact HNO.out.below hb)
                      have HBQ := Lib.hid (HB1X.out.trans (hb.mono (Nat.le_of_lt hgx)))
                      clear hb
                      go_wp2_with fail
                      go_roundw
                      case rel => exact ⟨m + 1, hmn, by rw [HK.out]; go_num, HN2.out, HBQ.out⟩
                      case measure => (simp [intOf] <;> omega)
                    · have HIN := Lib.hid (show inF s.ws nb F i (m + 1) = F k + 1 by rw [HIN0.out]; rfl)
                      have HNQ := Lib.hid (HNO.out.below hb)
                      have HSS := HNQ.out.set i (F k + 1)
                      rw [HMN.out _ HIN.out] at HSS
                      have HN2 := Lib.hid HSS
                      have HBQ := HB1X.out.trans (hb.mono (Nat.le_of_lt hgx))
                      have HBS := Lib.hid (show Below g w1 (wq.setCell ⟨g, i, none⟩ (.int .i64 (((F k + 1 : Nat)) : Int))) from HBQ.setCell (p := ⟨g, i, none⟩) (Nat.le_refl _) _)
                      have ck2 := (hb.cell (p := ⟨g, k, none⟩) hgx).trans ck
                      have ci2 := (hb.cell (p := ⟨g, i, none⟩) hgx).trans ci
                      have fi := HNQ.out.frozen i
                      have hF2 : ((F k : Int) + 1) = ((F k + 1 : Nat) : Int) := by omega
                      rw [hF2] at hF1
                      clear g1 ck ci hb HSS HBQ hF2
                      go_wp2_with fail
                      go_roundw
                      case rel => exact ⟨m + 1, hmn, by rw [HK.out]; go_num, HN2.out, HBS.out⟩
                      case measure => (simp [intOf] <;> omega)
                · have HIN := Lib.hid (show inF s.ws nb F i (m + 1) = V by rw [HSF2.out, decide_eq_false hkb, decide_eq_false hf0, Bool.or_false, Bool.and_false, Bool.false_and, if_neg (by decide)])
                  clear hkb ht
                  refine wp_region_class (fun w' => Below wx.heap.size wx w') 41 (by kernel_rfl) (by kernel_rfl) (Below.refl _ wx).drew ?_
                  simp only [List.take_succ_cons, List.take_zero, List.drop_succ_cons, List.drop_zero]
                  refine quiet_still rfl (.pointer (some ⟨w.heap.size, 1, none⟩)) (fun w _ => by go_simp) ?_
                  simp only [Act.put, List.setIfInBounds_toArray, List.set_cons_zero, List.set_cons_succ]
                  refine quiet_load1 rfl _ _ rfl ⟨w.heap.size, 1, none⟩ rfl (.slice (some ⟨wb, wo, none⟩) s.ws.length uc) (load_ws _ _) (fun _ h => (h.cell (p := ⟨w.heap.size, 1, none⟩) hzx).trans g1) ?_
                  simp only [Act.put, List.setIfInBounds_toArray, List.set_cons_zero, List.set_cons_succ]
                  refine quiet_moveV rfl _ rfl (.int .i64 (i : Int)) rfl ?_
                  simp only [Act.put, List.setIfInBounds_toArray, List.set_cons_zero, List.set_cons_succ]
                  refine quiet_still rfl (.pointer (some ⟨wb, wo + i * 3, none⟩)) (fun w _ => by go_simp) ?_
                  simp only [Act.put, List.setIfInBounds_toArray, List.set_cons_zero, List.set_cons_succ]
                  refine quiet_load_mid rfl _ _ rfl wb (wo + i * 3) rfl [.int .i64 y1.kd, .int .i64 y1.pl, .string y1.wd] _ (fun W h => range_below3 RGy1.out hwbx h) Try.underlying48 rfl (by kernel_rfl) ?_
                  simp only [Act.put, List.setIfInBounds_toArray, List.set_cons_zero, List.set_cons_succ]
                  refine quiet_still rfl (.pointer (some ⟨w.heap.size, 1, none⟩)) (fun w _ => by go_simp) ?_
                  simp only [Act.put, List.setIfInBounds_toArray, List.set_cons_zero, List.set_cons_succ]
                  refine quiet_load1 rfl _ _ rfl ⟨w.heap.size, 1, none⟩ rfl (.slice (some ⟨wb, wo, none⟩) s.ws.length uc) (load_ws _ _) (fun _ h => (h.cell (p := ⟨w.heap.size, 1, none⟩) hzx).trans g1) ?_
                  simp only [Act.put, List.setIfInBounds_toArray, List.set_cons_zero, List.set_cons_succ]
                  refine quiet_moveV rfl _ rfl (.int .i64 (k : Int)) rfl ?_
                  simp only [Act.put, List.setIfInBounds_toArray, List.set_cons_zero, List.set_cons_succ]
                  refine quiet_still rfl (.pointer (some ⟨wb, wo + k * 3, none⟩)) (fun w _ => by go_simp) ?_
                  simp only [Act.put, List.setIfInBounds_toArray, List.set_cons_zero, List.set_cons_succ]
                  refine quiet_load_mid rfl _ _ rfl wb (wo + k * 3) rfl [.int .i64 y2.kd, .int .i64 y2.pl, .string y2.wd] _ (fun W h => range_below3 RGy2.out hwbx h) Try.underlying48 rfl (by kernel_rfl) ?_
                  simp only [Act.put, List.setIfInBounds_toArray, List.set_cons_zero, List.set_cons_succ]
                  refine quiet_call rfl 30 _ _ rfl (enter_of Try.func30 (by decide) (by intro h; cases h)) _ (fun W h => (CT.out W).mono fun e w' ⟨he, hw⟩ => ⟨he, h.trans (hw.mono h.size)⟩) ?_
                  simp only [Act.put, List.setIfInBounds_toArray, List.set_cons_zero, List.set_cons_succ]
                  refine quiet_moveV rfl _ rfl (.bool true) rfl ?_
                  simp only [Act.put, List.setIfInBounds_toArray, List.set_cons_zero, List.set_cons_succ]
                  refine quietW_moveV (by kernel_rfl) _ rfl (.int .i64 (k : Int)) rfl ?_
                  simp only [Act.put, List.setIfInBounds_toArray, List.set_cons_zero, List.set_cons_succ]
                  refine quietW_moveV (by kernel_rfl) _ rfl (.int .i64 (nb : Int)) rfl ?_
                  simp only [Act.put, List.setIfInBounds_toArray, List.set_cons_zero, List.set_cons_succ]
                  refine quietW_still (by kernel_rfl) (.bool false) (fun w _ => by go_simp; first | done | exact hkbb | rw [hkbb]) ?_
                  simp only [Act.put, List.setIfInBounds_toArray, List.set_cons_zero, List.set_cons_succ]
                  refine quietW_moveV (by kernel_rfl) _ rfl (.bool false) rfl ?_
                  simp only [Act.put, List.setIfInBounds_toArray, List.set_cons_zero, List.set_cons_succ]
                  refine quietW_moveV (by kernel_rfl) _ rfl (.slice (some ⟨g, 0, none⟩) s.ws.length s.ws.length) rfl ?_
                  simp only [Act.put, List.setIfInBounds_toArray, List.set_cons_zero, List.set_cons_succ]
                  refine quietW_moveV (by kernel_rfl) _ rfl (.int .i64 (k : Int)) rfl ?_
                  simp only [Act.put, List.setIfInBounds_toArray, List.set_cons_zero, List.set_cons_succ]
                  refine quietW_still (by kernel_rfl) (.pointer (some ⟨g, k, none⟩)) (fun w _ => by go_simp) ?_
                  simp only [Act.put, List.setIfInBounds_toArray, List.set_cons_zero, List.set_cons_succ]
                  refine quietW_load1 (by kernel_rfl) _ _ rfl ⟨g, k, none⟩ rfl (.int .i64 (F k : Int)) (load_int _ _) (fun _ h => (h.cell (p := ⟨g, k, none⟩) hgx).trans ck) ?_
                  simp only [Act.put, List.setIfInBounds_toArray, List.set_cons_zero, List.set_cons_succ]
                  refine quietW_still (by kernel_rfl) (.bool false) (fun w _ => by go_simp; first | done | omega) ?_
                  simp only [Act.put, List.setIfInBounds_toArray, List.set_cons_zero, List.set_cons_succ]
                  refine quietW_still (by kernel_rfl) (.bool false) (fun w _ => by go_simp) ?_
                  simp only [Act.put, List.setIfInBounds_toArray, List.set_cons_zero, List.set_cons_succ]
                  refine quiet_still rfl (.bool false) (fun w _ => by go_simp) ?_
                  simp only [Act.put, List.setIfInBounds_toArray, List.set_cons_zero, List.set_cons_succ]
                  refine quiet_moveV rfl _ rfl (.bool false) rfl ?_
                  simp only [Act.put, List.setIfInBounds_toArray, List.set_cons_zero, List.set_cons_succ]
                  refine quiet_skip (by kernel_rfl) ?_
                  simp only [Act.put, List.setIfInBounds_toArray, List.set_cons_zero, List.set_cons_succ]
                  refine quiet_skip (by kernel_rfl) ?_
                  simp only [Act.put, List.setIfInBounds_toArray, List.set_cons_zero, List.set_cons_succ]
                  refine quiet_skip (by kernel_rfl) ?_
                  simp only [Act.put, List.setIfInBounds_toArray, List.set_cons_zero, List.set_cons_succ]
                  refine quiet_skip (by kernel_rfl) ?_
                  simp only [Act.put, List.setIfInBounds_toArray, List.set_cons_zero, List.set_cons_succ]
                  refine quiet_skip (by kernel_rfl) ?_
                  simp only [Act.put, List.setIfInBounds_toArray, List.set_cons_zero, List.set_cons_succ]
                  refine quiet_skip (by kernel_rfl) ?_
                  simp only [Act.put, List.setIfInBounds_toArray, List.set_cons_zero, List.set_cons_succ]
                  refine quiet_skip (by kernel_rfl) ?_
                  simp only [Act.put, List.setIfInBounds_toArray, List.set_cons_zero, List.set_cons_succ]
                  refine quiet_skip (by kernel_rfl) ?_
                  simp only [Act.put, List.setIfInBounds_toArray, List.set_cons_zero, List.set_cons_succ]
                  refine quiet_skip (by kernel_rfl) ?_
                  simp only [Act.put, List.setIfInBounds_toArray, List.set_cons_zero, List.set_cons_succ]
                  refine quiet_skip (by kernel_rfl) ?_
                  simp only [Act.put, List.setIfInBounds_toArray, List.set_cons_zero, List.set_cons_succ]
                  refine quiet_skip (by kernel_rfl) ?_
                  simp only [Act.put, List.setIfInBounds_toArray, List.set_cons_zero, List.set_cons_succ]
                  refine quiet_skip (by kernel_rfl) ?_
                  simp only [Act.put, List.setIfInBounds_toArray, List.set_cons_zero, List.set_cons_succ]
                  refine quiet_skip (by kernel_rfl) ?_
                  simp only [Act.put, List.setIfInBounds_toArray, List.set_cons_zero, List.set_cons_succ]
                  refine quiet_skip (by kernel_rfl) ?_
                  simp only [Act.put, List.setIfInBounds_toArray, List.set_cons_zero, List.set_cons_succ]
                  refine quiet_skip (by kernel_rfl) ?_
                  simp only [Act.put, List.setIfInBounds_toArray, List.set_cons_zero, List.set_cons_succ]
                  refine quiet_skip (by kernel_rfl) ?_
                  simp only [Act.put, List.setIfInBounds_toArray, List.set_cons_zero, List.set_cons_succ]
                  refine quiet_skip (by kernel_rfl) ?_
                  simp only [Act.put, List.setIfInBounds_toArray, List.set_cons_zero, List.set_cons_succ]
                  unfold wpQuiet
                  intro wq hb
                  clear g1 ck ci
                  have HN2 := Lib.hid (show NO g wq g s.ws.length (midF s.ws nb F i (m + 1)) by rw [HMS.out HIN.out]; exact HNO.out.below hb)
                  have HBQ := Lib.hid (HB1X.out.trans (hb.mono (Nat.le_of_lt hgx)))
                  clear hb
                  go_wp2_with fail
                  go_roundw
                  case rel => exact ⟨m + 1, hmn, by rw [HK.out]; go_num, HN2.out, HBQ.out⟩
                  case measure => (simp [intOf] <;> omega)
            · have ht' : touchP y1 y2 = false := by simpa using ht
              rw [ht'] at CT
              have HIN := Lib.hid (show inF s.ws nb F i (m + 1) = V by rw [HSF2.out, ht', Bool.false_and, Bool.false_and, if_neg (by decide)])
              clear ht ht'
              refine wp_region_class (fun w' => Below wx.heap.size wx w') 41 (by kernel_rfl) (by kernel_rfl) (Below.refl _ wx).drew ?_
              simp only [List.take_succ_cons, List.take_zero, List.drop_succ_cons, List.drop_zero]
              refine quiet_still rfl (.pointer (some ⟨w.heap.size, 1, none⟩)) (fun w _ => by go_simp) ?_
              simp only [Act.put, List.setIfInBounds_toArray, List.set_cons_zero, List.set_cons_succ]
              refine quiet_load1 rfl _ _ rfl ⟨w.heap.size, 1, none⟩ rfl (.slice (some ⟨wb, wo, none⟩) s.ws.length uc) (load_ws _ _) (fun _ h => (h.cell (p := ⟨w.heap.size, 1, none⟩) hzx).trans g1) ?_
              simp only [Act.put, List.setIfInBounds_toArray, List.set_cons_zero, List.set_cons_succ]
              refine quiet_moveV rfl _ rfl (.int .i64 (i : Int)) rfl ?_
              simp only [Act.put, List.setIfInBounds_toArray, List.set_cons_zero, List.set_cons_succ]
              refine quiet_still rfl (.pointer (some ⟨wb, wo + i * 3, none⟩)) (fun w _ => by go_simp) ?_
              simp only [Act.put, List.setIfInBounds_toArray, List.set_cons_zero, List.set_cons_succ]
              refine quiet_load_mid rfl _ _ rfl wb (wo + i * 3) rfl [.int .i64 y1.kd, .int .i64 y1.pl, .string y1.wd] _ (fun W h => range_below3 RGy1.out hwbx h) Try.underlying48 rfl (by kernel_rfl) ?_
              simp only [Act.put, List.setIfInBounds_toArray, List.set_cons_zero, List.set_cons_succ]
              refine quiet_still rfl (.pointer (some ⟨w.heap.size, 1, none⟩)) (fun w _ => by go_simp) ?_
              simp only [Act.put, List.setIfInBounds_toArray, List.set_cons_zero, List.set_cons_succ]
              refine quiet_load1 rfl _ _ rfl ⟨w.heap.size, 1, none⟩ rfl (.slice (some ⟨wb, wo, none⟩) s.ws.length uc) (load_ws _ _) (fun _ h => (h.cell (p := ⟨w.heap.size, 1, none⟩) hzx).trans g1) ?_
              simp only [Act.put, List.setIfInBounds_toArray, List.set_cons_zero, List.set_cons_succ]
              refine quiet_moveV rfl _ rfl (.int .i64 (k : Int)) rfl ?_
              simp only [Act.put, List.setIfInBounds_toArray, List.set_cons_zero, List.set_cons_succ]
              refine quiet_still rfl (.pointer (some ⟨wb, wo + k * 3, none⟩)) (fun w _ => by go_simp) ?_
              simp only [Act.put, List.setIfInBounds_toArray, List.set_cons_zero, List.set_cons_succ]
              refine quiet_load_mid rfl _ _ rfl wb (wo + k * 3) rfl [.int .i64 y2.kd, .int .i64 y2.pl, .string y2.wd] _ (fun W h => range_below3 RGy2.out hwbx h) Try.underlying48 rfl (by kernel_rfl) ?_
              simp only [Act.put, List.setIfInBounds_toArray, List.set_cons_zero, List.set_cons_succ]
              refine quiet_call rfl 30 _ _ rfl (enter_of Try.func30 (by decide) (by intro h; cases h)) _ (fun W h => (CT.out W).mono fun e w' ⟨he, hw⟩ => ⟨he, h.trans (hw.mono h.size)⟩) ?_
              simp only [Act.put, List.setIfInBounds_toArray, List.set_cons_zero, List.set_cons_succ]
              refine quiet_moveV rfl _ rfl (.bool false) rfl ?_
              simp only [Act.put, List.setIfInBounds_toArray, List.set_cons_zero, List.set_cons_succ]
              refine quiet_skip (by kernel_rfl) ?_
              simp only [Act.put, List.setIfInBounds_toArray, List.set_cons_zero, List.set_cons_succ]
              refine quiet_skip (by kernel_rfl) ?_
              simp only [Act.put, List.setIfInBounds_toArray, List.set_cons_zero, List.set_cons_succ]
              refine quiet_skip (by kernel_rfl) ?_
              simp only [Act.put, List.setIfInBounds_toArray, List.set_cons_zero, List.set_cons_succ]
              refine quiet_skip (by kernel_rfl) ?_
              simp only [Act.put, List.setIfInBounds_toArray, List.set_cons_zero, List.set_cons_succ]
              refine quiet_skip (by kernel_rfl) ?_
              simp only [Act.put, List.setIfInBounds_toArray, List.set_cons_zero, List.set_cons_succ]
              refine quiet_skip (by kernel_rfl) ?_
              simp only [Act.put, List.setIfInBounds_toArray, List.set_cons_zero, List.set_cons_succ]
              refine quiet_skip (by kernel_rfl) ?_
              simp only [Act.put, List.setIfInBounds_toArray, List.set_cons_zero, List.set_cons_succ]
              refine quiet_skip (by kernel_rfl) ?_
              simp only [Act.put, List.setIfInBounds_toArray, List.set_cons_zero, List.set_cons_succ]
              refine quiet_skip (by kernel_rfl) ?_
              simp only [Act.put, List.setIfInBounds_toArray, List.set_cons_zero, List.set_cons_succ]
              refine quiet_skip (by kernel_rfl) ?_
              simp only [Act.put, List.setIfInBounds_toArray, List.set_cons_zero, List.set_cons_succ]
              refine quiet_still rfl (.bool false) (fun w _ => by go_simp) ?_
              simp only [Act.put, List.setIfInBounds_toArray, List.set_cons_zero, List.set_cons_succ]
              refine quiet_moveV rfl _ rfl (.bool false) rfl ?_
              simp only [Act.put, List.setIfInBounds_toArray, List.set_cons_zero, List.set_cons_succ]
              refine quiet_skip (by kernel_rfl) ?_
              simp only [Act.put, List.setIfInBounds_toArray, List.set_cons_zero, List.set_cons_succ]
              refine quiet_skip (by kernel_rfl) ?_
              simp only [Act.put, List.setIfInBounds_toArray, List.set_cons_zero, List.set_cons_succ]
              refine quiet_skip (by kernel_rfl) ?_
              simp only [Act.put, List.setIfInBounds_toArray, List.set_cons_zero, List.set_cons_succ]
              refine quiet_skip (by kernel_rfl) ?_
              simp only [Act.put, List.setIfInBounds_toArray, List.set_cons_zero, List.set_cons_succ]
              refine quiet_skip (by kernel_rfl) ?_
              simp only [Act.put, List.setIfInBounds_toArray, List.set_cons_zero, List.set_cons_succ]
              refine quiet_skip (by kernel_rfl) ?_
              simp only [Act.put, List.setIfInBounds_toArray, List.set_cons_zero, List.set_cons_succ]
              refine quiet_skip (by kernel_rfl) ?_
              simp only [Act.put, List.setIfInBounds_toArray, List.set_cons_zero, List.set_cons_succ]
              refine quiet_skip (by kernel_rfl) ?_
              simp only [Act.put, List.setIfInBounds_toArray, List.set_cons_zero, List.set_cons_succ]
              refine quiet_skip (by kernel_rfl) ?_
              simp only [Act.put, List.setIfInBounds_toArray, List.set_cons_zero, List.set_cons_succ]
              refine quiet_skip (by kernel_rfl) ?_
              simp only [Act.put, List.setIfInBounds_toArray, List.set_cons_zero, List.set_cons_succ]
              refine quiet_skip (by kernel_rfl) ?_
              simp only [Act.put, List.setIfInBounds_toArray, List.set_cons_zero, List.set_cons_succ]
              refine quiet_skip (by kernel_rfl) ?_
              simp only [Act.put, List.setIfInBounds_toArray, List.set_cons_zero, List.set_cons_succ]
              refine quiet_skip (by kernel_rfl) ?_
              simp only [Act.put, List.setIfInBounds_toArray, List.set_cons_zero, List.set_cons_succ]
              refine quiet_skip (by kernel_rfl) ?_
              simp only [Act.put, List.setIfInBounds_toArray, List.set_cons_zero, List.set_cons_succ]
              refine quiet_skip (by kernel_rfl) ?_
              simp only [Act.put, List.setIfInBounds_toArray, List.set_cons_zero, List.set_cons_succ]
              refine quiet_skip (by kernel_rfl) ?_
              simp only [Act.put, List.setIfInBounds_toArray, List.set_cons_zero, List.set_cons_succ]
              refine quiet_skip (by kernel_rfl) ?_
              simp only [Act.put, List.setIfInBounds_toArray, List.set_cons_zero, List.set_cons_succ]
              unfold wpQuiet
              intro wq hb
              clear g1 ck ci
              have HN2 := Lib.hid (show NO g wq g s.ws.length (midF s.ws nb F i (m + 1)) by rw [HMS.out HIN.out]; exact HNO.out.below hb)
              have HBQ := Lib.hid (HB1X.out.trans (hb.mono (Nat.le_of_lt hgx)))
              clear hb
              go_wp2_with fail
              go_roundw
              case rel => exact ⟨m + 1, hmn, by rw [HK.out]; go_num, HN2.out, HBQ.out⟩
              case measure => (simp [intOf] <;> omega)
          · have k1' : ¬ (k : Int) ≤ (nb : Int) := by omega
            have e : m = nb - i := by omega
            have HN2 := Lib.hid (show NO g wx g s.ws.length (tabF s.ws nb (d + 1)) by rw [← HTE.out, ← e]; exact HNO.out)
            clear e hk
            go_wp2_with fail
            go_roundw
            case rel => exact ⟨d + 1, hdn, rfl, HN2.out, HB1X.out⟩
            case measure => (have := HDI.out; simp [intOf] <;> omega)
      · have d1 : ¬ (na : Int) ≤ (nb : Int) - 1 - (d : Int) := by omega
        have HSP := Lib.hid (show (∀ k, na ≤ k → k < nb → Dist s.ws nb k (tabF s.ws nb d k)) ∧ tabF s.ws nb d nb = 0 from ⟨fun k h1 h2 => (tabF_spec s.ws nb d (by omega)).1 k (by omega) h2, (tabF_spec s.ws nb d (by omega)).2 nb (.inr (Nat.le_refl _))⟩)
        have HTL := Lib.hid (fun k => tabF_le s.ws nb d k)
        have hd4 : d ≤ 400 := by omega
        clear hdn hd
        generalize tabF s.ws nb d = F at *
        by_cases hab : nb ≤ na
        · have hab1 : (nb : Int) ≤ (na : Int) := by omega
          have e1 : cv = [] := by rw [HCV2.out]; unfold chainL; rw [chainR_none hab]; rfl
          have e2 : c2 = 4 := by rw [HCE2.out, e1]; rfl
          subst e1 e2
          go_wp2_with fail
          go_ret2
          exact ⟨_, rfl, is_nil _, HBW.out⟩
        have hab1 : ¬ (nb : Int) ≤ (na : Int) := by omega
        have ca := HNO.out.cell hna
        have na0 : (0 : Int) ≤ (na : Int) := by omega
        have na1 : (na : Int) < (s.ws.length : Int) := by omega
        have hlc := chainL_cases (W := s.ws) (a := na) (b := nb) (by omega) hnb
        by_cases hf : F na = 0
        · rw [hf] at ca
          have e1 : cv = [] := by
            rw [HCV2.out]
            rcases hlc with ⟨_, h⟩ | ⟨c, h, _⟩
            · exact h
            · rcases HSP.out.1 na (Nat.le_refl _) (by omega) with ⟨_, h2⟩ | ⟨h2, _⟩
              · exact absurd h.2.1 (h2 c h.1)
              · omega
          have e2 : c2 = 4 := by rw [HCE2.out, e1]; rfl
          subst e1 e2
          clear hlc hf
          go_wp2_with fail
          go_ret2
          exact ⟨_, rfl, is_nil _, HBW.out⟩
        obtain ⟨c, hc1, hc2⟩ : ∃ c, Least s.ws na nb c ∧ chainL s.ws na nb = c.reverse.map fun (i : Nat) => (i : Int) := by
          rcases hlc with ⟨h, _⟩ | h
          · exfalso
            rcases HSP.out.1 na (Nat.le_refl _) (by omega) with ⟨h2, _⟩ | ⟨_, ⟨c, c1, c2', _⟩, _⟩
            · omega
            · exact h c c1 c2'
          · exact h
        have HLE := Lib.hid hc1
        have HCC := Lib.hid (HCV2.out.trans hc2)
        have e2 : c2 = 0 := by
          rw [HCE2.out, if_neg]
          rw [HCC.out, List.length_map, List.length_reverse]
          have := hc1.1.ne
          omega
        have hfa : ((F na : Int) == 0) = false := by rw [beq_eq_false_iff_ne]; omega
        obtain ⟨D0, hD0⟩ := hc1.1.last
        have HD0 := Lib.hid hD0
        have HG := Lib.hid (fun (x y : Nat) (D P : List Nat) (h : c = D ++ x :: y :: P) => greedy (F := F) (by rw [← h]; exact HLE.out) (fun k h1 h2 => HSP.out.1 k h1 h2) HSP.out.2)
        subst e2
        have hown0 := World.ownsRow_lit (base := wr.heap.size) (size := 1) wr #[.int .i64 (na : Int)] (e := 3) 1 (Nat.le_refl _) (by unfold maxLen; omega) rfl
        have HOWN := Lib.hid (show (wr.alloc (.cells #[.int .i64 (na : Int)] 3)).ownsRow wr.heap.size 3 1 (.slice (some ⟨wr.heap.size, 0, none⟩) 1 1) (backL na []).length ((backL na []).map (Value.int .i64)) from hown0)
        have HBAL := Lib.hid (below_alloc wr (.cells #[.int .i64 (na : Int)] 3))
        have HZR := Lib.hid (show w.heap.size < wr.heap.size from (Array.getElem?_eq_some_iff.1 HXW.out).1)
        have HZB := Lib.hid (show wr.heap.size ≤ (wr.alloc (.cells #[.int .i64 (na : Int)] 3)).heap.size by simp)
        clear hown0 hlc hc1 hc2 hD0 hf
        go_wp2_with fail
        generalize wr.alloc (.cells #[.int .i64 (na : Int)] 3) = wa at *
        clear ca hfa
        go_loopw [12, 13] (fun vo at' wx => ∃ (D P : List Nat) (y : Nat), c = D ++ y :: P ∧ at' = .int .i64 (y : Int) ∧ wx.ownsRow wr.heap.size 3 1 vo (backL y P).length ((backL y P).map (Value.int .i64)) ∧ Below wr.heap.size wr wx) (fun _ at' _ => nb - (intOf at').toNat)
        case atStart => exact ⟨D0, [], na, HD0.out, rfl, HOWN.out, HBAL.out⟩
        case round =>
          clear HOWN HBAL HZB HD0
          obtain ⟨D, P, y, hcD, rfl, hown, hbx⟩ := hrel
          rename World => wx
          obtain ⟨aw, cw, hw9⟩ := own_form hown
          subst hw9
          have HOW := Lib.hid hown
          have HBX := Lib.hid hbx
          have HCD := Lib.hid hcD
          have HNX := Lib.hid (HNO.out.below hbx)
          have HLO := Lib.hid (show Ch s.ws y (D ++ [y]) ∧ hdN (D ++ [y]) = nb by
            have h1 := HLE.out.1
            rw [hcD] at h1
            obtain ⟨_, l2, l3⟩ := Ch.lower h1
            exact ⟨l2, by rw [l3, ← hcD]; exact HLE.out.2.1⟩)
          have hyb : y ≤ nb := by have := HLO.out.1.ge; rw [HLO.out.2] at this; exact this
          have hya : na ≤ y := by
            have h1 := HLE.out.1
            rw [hcD] at h1
            exact (Ch.lower h1).1.ge
          have HPL := Lib.hid (show (backL y P).length ≤ 1000 by
            have h1 := HLE.out.1
            rw [hcD] at h1
            have h2 := (Ch.lower h1).1.bound
            have h3 : hdN (y :: P) = y := rfl
            rw [h3] at h2
            unfold backL
            rw [List.length_map, List.length_reverse]
            omega)
          clear hown hbx hcD
          by_cases hy : y = nb
          · have hyn : ((y : Int) != (nb : Int)) = false := by rw [bne_eq_false_iff_eq]; omega
            have hD : D = [] := by
              have := HLO.out.1.eq_hd (by rw [HLO.out.2]; exact hy.symm)
              cases D with
              | nil => rfl
              | cons z D => simp at this
            have HEQ := Lib.hid (show backL y P = cv by rw [HCC.out, HCD.out, hD]; rfl)
            rw [HEQ.out] at HOW ⊢
            have HIS := Lib.hid (is_own HOW.out rfl)
            have HBE := Lib.hid (HBW.out.trans (HBX.out.mono (Nat.le_of_lt HZR.out)))
            clear hy hD
            go_wp2_with fail
            go_ret2
            exact ⟨_, rfl, HIS.out, HBE.out⟩
          have hyn : ((y : Int) != (nb : Int)) = true := by rw [bne_iff_ne]; omega
          obtain ⟨D', x, hDx⟩ : ∃ D' x, D = D' ++ [x] := by
            rcases List.eq_nil_or_concat D with h | ⟨D', x, h⟩
            · exfalso
              have := HLO.out.2
              rw [h] at this
              exact hy this
            · exact ⟨D', x, by rw [h, List.concat_eq_append]⟩
          have HCX := Lib.hid (show c = D' ++ x :: y :: P by rw [HCD.out, hDx, List.append_assoc]; rfl)
          obtain ⟨hg1, hyx, hxb, hg2⟩ := HG.out x y D' P HCX.out
          have HGX := Lib.hid hg1
          have HGN := Lib.hid hg2
          have y1w : IntKind.i64.wrap ((y : Int) + 1) = ((y + 1 : Nat) : Int) := (IntWalk.i64_in _ (by omega)).trans (by omega)
          clear hg1 hg2 hDx hy
          go_wp2_with fail
          clear y1w
          go_loopw [13, 14] (fun at' k wz => ∃ k' : Nat, k = .int .i64 (k' : Int) ∧ at' = .int .i64 (y : Int) ∧ y < k' ∧ k' ≤ x ∧ Below wx.heap.size wx wz) (fun _ k _ => (nb + 1) - (intOf k).toNat)
          case atStart => exact ⟨y + 1, rfl, rfl, by omega, by omega, Below.refl _ _⟩
          case round =>
            obtain ⟨k, rfl, rfl, hyk, hkx, hbz⟩ := hrel
            rename World => wz
            have HBZ := Lib.hid hbz
            have HB0 := Lib.hid (Below.trans HBX.out (hbz.mono HBX.out.size))
            have hno := HNX.out.below hbz
            have hbb := HBW.out.trans (HB0.out.mono (Nat.le_of_lt HZR.out))
            have HBB := Lib.hid hbb
            have k1' : (k : Int) ≤ (nb : Int) := by omega
            have k2' : (k : Int) < (s.ws.length : Int) := by omega
            have k0' : (0 : Int) ≤ (k : Int) := by omega
            have i0' : (0 : Int) ≤ (y : Int) := by omega
            have i1' : (y : Int) < (s.ws.length : Int) := by omega
            have ck := hno.cell (show k < s.ws.length by omega)
            have cy := hno.cell (show y < s.ws.length by omega)
            have hFy := HTL.out y
            have hFk := HTL.out k
            obtain ⟨y1, hy1⟩ : ∃ y1, s.ws[y]? = some y1 := ⟨_, List.getElem?_eq_getElem (by omega)⟩
            obtain ⟨y2, hy2⟩ : ∃ y2, s.ws[k]? = some y2 := ⟨_, List.getElem?_eq_getElem (by omega)⟩
            have hp1 := HSM.out.2 y1 (List.mem_of_getElem? hy1)
            have hp2 := HSM.out.2 y2 (List.mem_of_getElem? hy2)
            have htc : tchN s.ws y k = touchP y1 y2 := by unfold tchN; rw [wkN_get hy1, wkN_get hy2]
            obtain ⟨wb, wo, rfl, hwb, hr1, _⟩ := HU.out y y1 hy1
            obtain ⟨wb', wo', e', _, hr2, _⟩ := HU.out k y2 hy2
            cases e'
            have RGy1 := Lib.hid (range_below3 hr1 hwb hbb)
            have RGy2 := Lib.hid (range_below3 hr2 hwb hbb)
            have CT := Lib.hid (fun W => refTouch_any y1 y2 W hp1 hp2)
            have hx0 := (HB0.out.block _ HZR.out).trans HXW.out
            have hzx : w.heap.size < wz.heap.size := (Array.getElem?_eq_some_iff.1 hx0).1
            have hgx : g < wz.heap.size := hno.lt
            have hwbx : wb < wz.heap.size := by have := hbb.size; omega
            have g1 : wz.cell? ⟨w.heap.size, 1, none⟩ = some (.slice (some ⟨wb, wo, none⟩) s.ws.length uc) := cell_of_row wz _ 1 _ _ _ hx0
            have hF1 : IntKind.i64.wrap ((F y : Int) - 1) = (F y : Int) - 1 := IntWalk.i64_in _ (by omega)
            have HGB := Lib.hid (show goB s.ws nb F y k = (touchP y1 y2 && decide (F k + 1 = F y) && (decide (k = nb) || decide (0 < F k))) by unfold goB; rw [htc])
            clear hy1 hy2 hp1 hp2 htc hr1 hr2 hx0 hbb hbz hno
            go_wp2_with fail
            by_cases hkq : k = x
            · have hgk := HGB.out
              rw [hkq] at hgk
              rw [HGX.out] at hgk
              rw [← hkq] at hgk
              replace hgk := hgk.symm
              simp only [Bool.and_eq_true, Bool.or_eq_true, decide_eq_true_eq] at hgk
              obtain ⟨⟨ht, hq1⟩, hor⟩ := hgk
              have hqq : ((F k : Int) == (F y : Int) - 1) = true := by rw [beq_iff_eq]; omega
              have HKX := Lib.hid hkq
              rw [ht] at CT
              by_cases hkb : k = nb
              · have hkbb : ((k : Int) == (nb : Int)) = true := by rw [beq_iff_eq]; omega
                clear ht hq1 hor hkb hkq
                refine wp_region_class (fun w' => Below wz.heap.size wz w') 34 (by kernel_rfl) (by kernel_rfl) (Below.refl _ wz).drew ?_
                simp only [List.take_succ_cons, List.take_zero, List.drop_succ_cons, List.drop_zero]
                refine quiet_still rfl (.pointer (some ⟨w.heap.size, 1, none⟩)) (fun w _ => by go_simp) ?_
                simp only [Act.put, List.setIfInBounds_toArray, List.set_cons_zero, List.set_cons_succ]
                refine quiet_load1 rfl _ _ rfl ⟨w.heap.size, 1, none⟩ rfl (.slice (some ⟨wb, wo, none⟩) s.ws.length uc) (load_ws _ _) (fun _ h => (h.cell (p := ⟨w.heap.size, 1, none⟩) hzx).trans g1) ?_
                simp only [Act.put, List.setIfInBounds_toArray, List.set_cons_zero, List.set_cons_succ]
                refine quiet_moveV rfl _ rfl (.int .i64 (y : Int)) rfl ?_
                simp only [Act.put, List.setIfInBounds_toArray, List.set_cons_zero, List.set_cons_succ]
                refine quiet_still rfl (.pointer (some ⟨wb, wo + y * 3, none⟩)) (fun w _ => by go_simp) ?_
                simp only [Act.put, List.setIfInBounds_toArray, List.set_cons_zero, List.set_cons_succ]
                refine quiet_load_mid rfl _ _ rfl wb (wo + y * 3) rfl [.int .i64 y1.kd, .int .i64 y1.pl, .string y1.wd] _ (fun W h => range_below3 RGy1.out hwbx h) Try.underlying48 rfl (by kernel_rfl) ?_
                simp only [Act.put, List.setIfInBounds_toArray, List.set_cons_zero, List.set_cons_succ]
                refine quiet_still rfl (.pointer (some ⟨w.heap.size, 1, none⟩)) (fun w _ => by go_simp) ?_
                simp only [Act.put, List.setIfInBounds_toArray, List.set_cons_zero, List.set_cons_succ]
                refine quiet_load1 rfl _ _ rfl ⟨w.heap.size, 1, none⟩ rfl (.slice (some ⟨wb, wo, none⟩) s.ws.length uc) (load_ws _ _) (fun _ h => (h.cell (p := ⟨w.heap.size, 1, none⟩) hzx).trans g1) ?_
                simp only [Act.put, List.setIfInBounds_toArray, List.set_cons_zero, List.set_cons_succ]
                refine quiet_moveV rfl _ rfl (.int .i64 (k : Int)) rfl ?_
                simp only [Act.put, List.setIfInBounds_toArray, List.set_cons_zero, List.set_cons_succ]
                refine quiet_still rfl (.pointer (some ⟨wb, wo + k * 3, none⟩)) (fun w _ => by go_simp) ?_
                simp only [Act.put, List.setIfInBounds_toArray, List.set_cons_zero, List.set_cons_succ]
                refine quiet_load_mid rfl _ _ rfl wb (wo + k * 3) rfl [.int .i64 y2.kd, .int .i64 y2.pl, .string y2.wd] _ (fun W h => range_below3 RGy2.out hwbx h) Try.underlying48 rfl (by kernel_rfl) ?_
                simp only [Act.put, List.setIfInBounds_toArray, List.set_cons_zero, List.set_cons_succ]
                refine quiet_call rfl 30 _ _ rfl (enter_of Try.func30 (by decide) (by intro h; cases h)) _ (fun W h => (CT.out W).mono fun e w' ⟨he, hw⟩ => ⟨he, h.trans (hw.mono h.size)⟩) ?_
                simp only [Act.put, List.setIfInBounds_toArray, List.set_cons_zero, List.set_cons_succ]
                refine quiet_moveV rfl _ rfl (.bool true) rfl ?_
                simp only [Act.put, List.setIfInBounds_toArray, List.set_cons_zero, List.set_cons_succ]
                refine quietW_moveV (by kernel_rfl) _ rfl (.slice (some ⟨g, 0, none⟩) s.ws.length s.ws.length) rfl ?_
                simp only [Act.put, List.setIfInBounds_toArray, List.set_cons_zero, List.set_cons_succ]
                refine quietW_moveV (by kernel_rfl) _ rfl (.int .i64 (k : Int)) rfl ?_
                simp only [Act.put, List.setIfInBounds_toArray, List.set_cons_zero, List.set_cons_succ]
                refine quietW_still (by kernel_rfl) (.pointer (some ⟨g, k, none⟩)) (fun w _ => by go_simp) ?_
                simp only [Act.put, List.setIfInBounds_toArray, List.set_cons_zero, List.set_cons_succ]
                refine quietW_load1 (by kernel_rfl) _ _ rfl ⟨g, k, none⟩ rfl (.int .i64 (F k : Int)) (load_int _ _) (fun _ h => (h.cell (p := ⟨g, k, none⟩) hgx).trans ck) ?_
                simp only [Act.put, List.setIfInBounds_toArray, List.set_cons_zero, List.set_cons_succ]
                refine quietW_moveV (by kernel_rfl) _ rfl (.slice (some ⟨g, 0, none⟩) s.ws.length s.ws.length) rfl ?_
                simp only [Act.put, List.setIfInBounds_toArray, List.set_cons_zero, List.set_cons_succ]
                refine quietW_moveV (by kernel_rfl) _ rfl (.int .i64 (y : Int)) rfl ?_
                simp only [Act.put, List.setIfInBounds_toArray, List.set_cons_zero, List.set_cons_succ]
                refine quietW_still (by kernel_rfl) (.pointer (some ⟨g, y, none⟩)) (fun w _ => by go_simp) ?_
                simp only [Act.put, List.setIfInBounds_toArray, List.set_cons_zero, List.set_cons_succ]
                refine quietW_load1 (by kernel_rfl) _ _ rfl ⟨g, y, none⟩ rfl (.int .i64 (F y : Int)) (load_int _ _) (fun _ h => (h.cell (p := ⟨g, y, none⟩) hgx).trans cy) ?_
                simp only [Act.put, List.setIfInBounds_toArray, List.set_cons_zero, List.set_cons_succ]
                refine quietW_still (by kernel_rfl) (.int .i64 ((F y : Int) - 1)) (fun w _ => by go_simp; first | done | exact hF1) ?_
                simp only [Act.put, List.setIfInBounds_toArray, List.set_cons_zero, List.set_cons_succ]
                refine quietW_still (by kernel_rfl) (.bool true) (fun w _ => by go_simp; first | done | exact hqq | rw [hqq]) ?_
                simp only [Act.put, List.setIfInBounds_toArray, List.set_cons_zero, List.set_cons_succ]
                refine quiet_still rfl (.bool true) (fun w _ => by go_simp) ?_
                simp only [Act.put, List.setIfInBounds_toArray, List.set_cons_zero, List.set_cons_succ]
                refine quiet_moveV rfl _ rfl (.bool true) rfl ?_
                simp only [Act.put, List.setIfInBounds_toArray, List.set_cons_zero, List.set_cons_succ]
                refine quietW_moveV (by kernel_rfl) _ rfl (.int .i64 (k : Int)) rfl ?_
                simp only [Act.put, List.setIfInBounds_toArray, List.set_cons_zero, List.set_cons_succ]
                refine quietW_moveV (by kernel_rfl) _ rfl (.int .i64 (nb : Int)) rfl ?_
                simp only [Act.put, List.setIfInBounds_toArray, List.set_cons_zero, List.set_cons_succ]
                refine quietW_still (by kernel_rfl) (.bool true) (fun w _ => by go_simp; first | done | exact hkbb | rw [hkbb]) ?_
                simp only [Act.put, List.setIfInBounds_toArray, List.set_cons_zero, List.set_cons_succ]
                refine quietW_moveV (by kernel_rfl) _ rfl (.bool true) rfl ?_
                simp only [Act.put, List.setIfInBounds_toArray, List.set_cons_zero, List.set_cons_succ]
                refine quiet_skip (by kernel_rfl) ?_
                simp only [Act.put, List.setIfInBounds_toArray, List.set_cons_zero, List.set_cons_succ]
                refine quiet_skip (by kernel_rfl) ?_
                simp only [Act.put, List.setIfInBounds_toArray, List.set_cons_zero, List.set_cons_succ]
                refine quiet_skip (by kernel_rfl) ?_
                simp only [Act.put, List.setIfInBounds_toArray, List.set_cons_zero, List.set_cons_succ]
                refine quiet_skip (by kernel_rfl) ?_
                simp only [Act.put, List.setIfInBounds_toArray, List.set_cons_zero, List.set_cons_succ]
                refine quiet_skip (by kernel_rfl) ?_
                simp only [Act.put, List.setIfInBounds_toArray, List.set_cons_zero, List.set_cons_succ]
                refine quietW_still (by kernel_rfl) (.bool true) (fun w _ => by go_simp) ?_
                simp only [Act.put, List.setIfInBounds_toArray, List.set_cons_zero, List.set_cons_succ]
                unfold wpQuiet
                intro wq hb
                have HBQ := Lib.hid (HB0.out.trans (hb.mono HB0.out.size))
                have HOQ := Lib.hid (own_below (own_below HOW.out HBZ.out) hb)
                have HNB := Lib.hid (backL_cons k y P)
                have HZQ := Lib.hid HBQ.out.size
                have HKN := Lib.hid (show c = D' ++ k :: y :: P by rw [HKX.out]; exact HCX.out)
                clear hb g1 ck cy hqq hkbb
                generalize backL y P = L at *
                go_wp2_with (at_builtin; refine app_one (w0 := wr) wr.heap.size _ L (k : Int) rfl _ _ rfl rfl HOQ.out rfl (by have := HPL.out; omega) HBQ.out HZQ.out ?_; intro ga cap1 w4 hown1 hb1)
                have HO1 := Lib.hid hown1
                have HBQ1 := Lib.hid hb1
                clear hown1 hb1
                go_wp2_with fail
                go_roundw
                case rel => exact ⟨D', y :: P, k, HKN.out, rfl, by rw [HNB.out, List.length_append]; exact HO1.out, HBQ1.out⟩
                case measure => (simp [intOf] <;> omega)
              · have hkbb : ((k : Int) == (nb : Int)) = false := by rw [beq_eq_false_iff_ne]; omega
                have hf0 : 0 < F k := by omega
                clear ht hq1 hor hkb hkq
                refine wp_region_class (fun w' => Below wz.heap.size wz w') 34 (by kernel_rfl) (by kernel_rfl) (Below.refl _ wz).drew ?_
                simp only [List.take_succ_cons, List.take_zero, List.drop_succ_cons, List.drop_zero]
                refine quiet_still rfl (.pointer (some ⟨w.heap.size, 1, none⟩)) (fun w _ => by go_simp) ?_
                simp only [Act.put, List.setIfInBounds_toArray, List.set_cons_zero, List.set_cons_succ]
                refine quiet_load1 rfl _ _ rfl ⟨w.heap.size, 1, none⟩ rfl (.slice (some ⟨wb, wo, none⟩) s.ws.length uc) (load_ws _ _) (fun _ h => (h.cell (p := ⟨w.heap.size, 1, none⟩) hzx).trans g1) ?_
                simp only [Act.put, List.setIfInBounds_toArray, List.set_cons_zero, List.set_cons_succ]
                refine quiet_moveV rfl _ rfl (.int .i64 (y : Int)) rfl ?_
                simp only [Act.put, List.setIfInBounds_toArray, List.set_cons_zero, List.set_cons_succ]
                refine quiet_still rfl (.pointer (some ⟨wb, wo + y * 3, none⟩)) (fun w _ => by go_simp) ?_
                simp only [Act.put, List.setIfInBounds_toArray, List.set_cons_zero, List.set_cons_succ]
                refine quiet_load_mid rfl _ _ rfl wb (wo + y * 3) rfl [.int .i64 y1.kd, .int .i64 y1.pl, .string y1.wd] _ (fun W h => range_below3 RGy1.out hwbx h) Try.underlying48 rfl (by kernel_rfl) ?_
                simp only [Act.put, List.setIfInBounds_toArray, List.set_cons_zero, List.set_cons_succ]
                refine quiet_still rfl (.pointer (some ⟨w.heap.size, 1, none⟩)) (fun w _ => by go_simp) ?_
                simp only [Act.put, List.setIfInBounds_toArray, List.set_cons_zero, List.set_cons_succ]
                refine quiet_load1 rfl _ _ rfl ⟨w.heap.size, 1, none⟩ rfl (.slice (some ⟨wb, wo, none⟩) s.ws.length uc) (load_ws _ _) (fun _ h => (h.cell (p := ⟨w.heap.size, 1, none⟩) hzx).trans g1) ?_
                simp only [Act.put, List.setIfInBounds_toArray, List.set_cons_zero, List.set_cons_succ]
                refine quiet_moveV rfl _ rfl (.int .i64 (k : Int)) rfl ?_
                simp only [Act.put, List.setIfInBounds_toArray, List.set_cons_zero, List.set_cons_succ]
                refine quiet_still rfl (.pointer (some ⟨wb, wo + k * 3, none⟩)) (fun w _ => by go_simp) ?_
                simp only [Act.put, List.setIfInBounds_toArray, List.set_cons_zero, List.set_cons_succ]
                refine quiet_load_mid rfl _ _ rfl wb (wo + k * 3) rfl [.int .i64 y2.kd, .int .i64 y2.pl, .string y2.wd] _ (fun W h => range_below3 RGy2.out hwbx h) Try.underlying48 rfl (by kernel_rfl) ?_
                simp only [Act.put, List.setIfInBounds_toArray, List.set_cons_zero, List.set_cons_succ]
                refine quiet_call rfl 30 _ _ rfl (enter_of Try.func30 (by decide) (by intro h; cases h)) _ (fun W h => (CT.out W).mono fun e w' ⟨he, hw⟩ => ⟨he, h.trans (hw.mono h.size)⟩) ?_
                simp only [Act.put, List.setIfInBounds_toArray, List.set_cons_zero, List.set_cons_succ]
                refine quiet_moveV rfl _ rfl (.bool true) rfl ?_
                simp only [Act.put, List.setIfInBounds_toArray, List.set_cons_zero, List.set_cons_succ]
                refine quietW_moveV (by kernel_rfl) _ rfl (.slice (some ⟨g, 0, none⟩) s.ws.length s.ws.length) rfl ?_
                simp only [Act.put, List.setIfInBounds_toArray, List.set_cons_zero, List.set_cons_succ]
                refine quietW_moveV (by kernel_rfl) _ rfl (.int .i64 (k : Int)) rfl ?_
                simp only [Act.put, List.setIfInBounds_toArray, List.set_cons_zero, List.set_cons_succ]
                refine quietW_still (by kernel_rfl) (.pointer (some ⟨g, k, none⟩)) (fun w _ => by go_simp) ?_
                simp only [Act.put, List.setIfInBounds_toArray, List.set_cons_zero, List.set_cons_succ]
                refine quietW_load1 (by kernel_rfl) _ _ rfl ⟨g, k, none⟩ rfl (.int .i64 (F k : Int)) (load_int _ _) (fun _ h => (h.cell (p := ⟨g, k, none⟩) hgx).trans ck) ?_
                simp only [Act.put, List.setIfInBounds_toArray, List.set_cons_zero, List.set_cons_succ]
                refine quietW_moveV (by kernel_rfl) _ rfl (.slice (some ⟨g, 0, none⟩) s.ws.length s.ws.length) rfl ?_
                simp only [Act.put, List.setIfInBounds_toArray, List.set_cons_zero, List.set_cons_succ]
                refine quietW_moveV (by kernel_rfl) _ rfl (.int .i64 (y : Int)) rfl ?_
                simp only [Act.put, List.setIfInBounds_toArray, List.set_cons_zero, List.set_cons_succ]
                refine quietW_still (by kernel_rfl) (.pointer (some ⟨g, y, none⟩)) (fun w _ => by go_simp) ?_
                simp only [Act.put, List.setIfInBounds_toArray, List.set_cons_zero, List.set_cons_succ]
                refine quietW_load1 (by kernel_rfl) _ _ rfl ⟨g, y, none⟩ rfl (.int .i64 (F y : Int)) (load_int _ _) (fun _ h => (h.cell (p := ⟨g, y, none⟩) hgx).trans cy) ?_
                simp only [Act.put, List.setIfInBounds_toArray, List.set_cons_zero, List.set_cons_succ]
                refine quietW_still (by kernel_rfl) (.int .i64 ((F y : Int) - 1)) (fun w _ => by go_simp; first | done | exact hF1) ?_
                simp only [Act.put, List.setIfInBounds_toArray, List.set_cons_zero, List.set_cons_succ]
                refine quietW_still (by kernel_rfl) (.bool true) (fun w _ => by go_simp; first | done | exact hqq | rw [hqq]) ?_
                simp only [Act.put, List.setIfInBounds_toArray, List.set_cons_zero, List.set_cons_succ]
                refine quiet_still rfl (.bool true) (fun w _ => by go_simp) ?_
                simp only [Act.put, List.setIfInBounds_toArray, List.set_cons_zero, List.set_cons_succ]
                refine quiet_moveV rfl _ rfl (.bool true) rfl ?_
                simp only [Act.put, List.setIfInBounds_toArray, List.set_cons_zero, List.set_cons_succ]
                refine quietW_moveV (by kernel_rfl) _ rfl (.int .i64 (k : Int)) rfl ?_
                simp only [Act.put, List.setIfInBounds_toArray, List.set_cons_zero, List.set_cons_succ]
                refine quietW_moveV (by kernel_rfl) _ rfl (.int .i64 (nb : Int)) rfl ?_
                simp only [Act.put, List.setIfInBounds_toArray, List.set_cons_zero, List.set_cons_succ]
                refine quietW_still (by kernel_rfl) (.bool false) (fun w _ => by go_simp; first | done | exact hkbb | rw [hkbb]) ?_
                simp only [Act.put, List.setIfInBounds_toArray, List.set_cons_zero, List.set_cons_succ]
                refine quietW_moveV (by kernel_rfl) _ rfl (.bool false) rfl ?_
                simp only [Act.put, List.setIfInBounds_toArray, List.set_cons_zero, List.set_cons_succ]
                refine quietW_moveV (by kernel_rfl) _ rfl (.slice (some ⟨g, 0, none⟩) s.ws.length s.ws.length) rfl ?_
                simp only [Act.put, List.setIfInBounds_toArray, List.set_cons_zero, List.set_cons_succ]
                refine quietW_moveV (by kernel_rfl) _ rfl (.int .i64 (k : Int)) rfl ?_
                simp only [Act.put, List.setIfInBounds_toArray, List.set_cons_zero, List.set_cons_succ]
                refine quietW_still (by kernel_rfl) (.pointer (some ⟨g, k, none⟩)) (fun w _ => by go_simp) ?_
                simp only [Act.put, List.setIfInBounds_toArray, List.set_cons_zero, List.set_cons_succ]
                refine quietW_load1 (by kernel_rfl) _ _ rfl ⟨g, k, none⟩ rfl (.int .i64 (F k : Int)) (load_int _ _) (fun _ h => (h.cell (p := ⟨g, k, none⟩) hgx).trans ck) ?_
                simp only [Act.put, List.setIfInBounds_toArray, List.set_cons_zero, List.set_cons_succ]
                refine quietW_still (by kernel_rfl) (.bool true) (fun w _ => by go_simp; first | done | omega) ?_
                simp only [Act.put, List.setIfInBounds_toArray, List.set_cons_zero, List.set_cons_succ]
                refine quietW_still (by kernel_rfl) (.bool true) (fun w _ => by go_simp) ?_
                simp only [Act.put, List.setIfInBounds_toArray, List.set_cons_zero, List.set_cons_succ]
                unfold wpQuiet
                intro wq hb
                have HBQ := Lib.hid (HB0.out.trans (hb.mono HB0.out.size))
                have HOQ := Lib.hid (own_below (own_below HOW.out HBZ.out) hb)
                have HNB := Lib.hid (backL_cons k y P)
                have HZQ := Lib.hid HBQ.out.size
                have HKN := Lib.hid (show c = D' ++ k :: y :: P by rw [HKX.out]; exact HCX.out)
                clear hb g1 ck cy hqq hkbb
                generalize backL y P = L at *
                go_wp2_with (at_builtin; refine app_one (w0 := wr) wr.heap.size _ L (k : Int) rfl _ _ rfl rfl HOQ.out rfl (by have := HPL.out; omega) HBQ.out HZQ.out ?_; intro ga cap1 w4 hown1 hb1)
                have HO1 := Lib.hid hown1
                have HBQ1 := Lib.hid hb1
                clear hown1 hb1
                go_wp2_with fail
                go_roundw
                case rel => exact ⟨D', y :: P, k, HKN.out, rfl, by rw [HNB.out, List.length_append]; exact HO1.out, HBQ1.out⟩
                case measure => (simp [intOf] <;> omega)
            · have hgk := HGN.out k hyk (by omega)
              rw [HGB.out] at hgk
              by_cases ht : touchP y1 y2 = true
              · rw [ht] at CT hgk
                by_cases hq1 : F k + 1 = F y
                · have hqq : ((F k : Int) == (F y : Int) - 1) = true := by rw [beq_iff_eq]; omega
                  have hkb : ¬ k = nb := by omega
                  have hkbb : ((k : Int) == (nb : Int)) = false := by rw [beq_eq_false_iff_ne]; omega
                  have hf0 : ¬ 0 < F k := by
                    rw [decide_eq_true hq1, decide_eq_false hkb] at hgk
                    simpa using hgk
                  clear hgk ht hq1 hkb
                  refine wp_region_class (fun w' => Below wz.heap.size wz w') 34 (by kernel_rfl) (by kernel_rfl) (Below.refl _ wz).drew ?_
                  simp only [List.take_succ_cons, List.take_zero, List.drop_succ_cons, List.drop_zero]
                  refine quiet_still rfl (.pointer (some ⟨w.heap.size, 1, none⟩)) (fun w _ => by go_simp) ?_
                  simp only [Act.put, List.setIfInBounds_toArray, List.set_cons_zero, List.set_cons_succ]
                  refine quiet_load1 rfl _ _ rfl ⟨w.heap.size, 1, none⟩ rfl (.slice (some ⟨wb, wo, none⟩) s.ws.length uc) (load_ws _ _) (fun _ h => (h.cell (p := ⟨w.heap.size, 1, none⟩) hzx).trans g1) ?_
                  simp only [Act.put, List.setIfInBounds_toArray, List.set_cons_zero, List.set_cons_succ]
                  refine quiet_moveV rfl _ rfl (.int .i64 (y : Int)) rfl ?_
                  simp only [Act.put, List.setIfInBounds_toArray, List.set_cons_zero, List.set_cons_succ]
                  refine quiet_still rfl (.pointer (some ⟨wb, wo + y * 3, none⟩)) (fun w _ => by go_simp) ?_
                  simp only [Act.put, List.setIfInBounds_toArray, List.set_cons_zero, List.set_cons_succ]
                  refine quiet_load_mid rfl _ _ rfl wb (wo + y * 3) rfl [.int .i64 y1.kd, .int .i64 y1.pl, .string y1.wd] _ (fun W h => range_below3 RGy1.out hwbx h) Try.underlying48 rfl (by kernel_rfl) ?_
                  simp only [Act.put, List.setIfInBounds_toArray, List.set_cons_zero, List.set_cons_succ]
                  refine quiet_still rfl (.pointer (some ⟨w.heap.size, 1, none⟩)) (fun w _ => by go_simp) ?_
                  simp only [Act.put, List.setIfInBounds_toArray, List.set_cons_zero, List.set_cons_succ]
                  refine quiet_load1 rfl _ _ rfl ⟨w.heap.size, 1, none⟩ rfl (.slice (some ⟨wb, wo, none⟩) s.ws.length uc) (load_ws _ _) (fun _ h => (h.cell (p := ⟨w.heap.size, 1, none⟩) hzx).trans g1) ?_
                  simp only [Act.put, List.setIfInBounds_toArray, List.set_cons_zero, List.set_cons_succ]
                  refine quiet_moveV rfl _ rfl (.int .i64 (k : Int)) rfl ?_
                  simp only [Act.put, List.setIfInBounds_toArray, List.set_cons_zero, List.set_cons_succ]
                  refine quiet_still rfl (.pointer (some ⟨wb, wo + k * 3, none⟩)) (fun w _ => by go_simp) ?_
                  simp only [Act.put, List.setIfInBounds_toArray, List.set_cons_zero, List.set_cons_succ]
                  refine quiet_load_mid rfl _ _ rfl wb (wo + k * 3) rfl [.int .i64 y2.kd, .int .i64 y2.pl, .string y2.wd] _ (fun W h => range_below3 RGy2.out hwbx h) Try.underlying48 rfl (by kernel_rfl) ?_
                  simp only [Act.put, List.setIfInBounds_toArray, List.set_cons_zero, List.set_cons_succ]
                  refine quiet_call rfl 30 _ _ rfl (enter_of Try.func30 (by decide) (by intro h; cases h)) _ (fun W h => (CT.out W).mono fun e w' ⟨he, hw⟩ => ⟨he, h.trans (hw.mono h.size)⟩) ?_
                  simp only [Act.put, List.setIfInBounds_toArray, List.set_cons_zero, List.set_cons_succ]
                  refine quiet_moveV rfl _ rfl (.bool true) rfl ?_
                  simp only [Act.put, List.setIfInBounds_toArray, List.set_cons_zero, List.set_cons_succ]
                  refine quietW_moveV (by kernel_rfl) _ rfl (.slice (some ⟨g, 0, none⟩) s.ws.length s.ws.length) rfl ?_
                  simp only [Act.put, List.setIfInBounds_toArray, List.set_cons_zero, List.set_cons_succ]
                  refine quietW_moveV (by kernel_rfl) _ rfl (.int .i64 (k : Int)) rfl ?_
                  simp only [Act.put, List.setIfInBounds_toArray, List.set_cons_zero, List.set_cons_succ]
                  refine quietW_still (by kernel_rfl) (.pointer (some ⟨g, k, none⟩)) (fun w _ => by go_simp) ?_
                  simp only [Act.put, List.setIfInBounds_toArray, List.set_cons_zero, List.set_cons_succ]
                  refine quietW_load1 (by kernel_rfl) _ _ rfl ⟨g, k, none⟩ rfl (.int .i64 (F k : Int)) (load_int _ _) (fun _ h => (h.cell (p := ⟨g, k, none⟩) hgx).trans ck) ?_
                  simp only [Act.put, List.setIfInBounds_toArray, List.set_cons_zero, List.set_cons_succ]
                  refine quietW_moveV (by kernel_rfl) _ rfl (.slice (some ⟨g, 0, none⟩) s.ws.length s.ws.length) rfl ?_
                  simp only [Act.put, List.setIfInBounds_toArray, List.set_cons_zero, List.set_cons_succ]
                  refine quietW_moveV (by kernel_rfl) _ rfl (.int .i64 (y : Int)) rfl ?_
                  simp only [Act.put, List.setIfInBounds_toArray, List.set_cons_zero, List.set_cons_succ]
                  refine quietW_still (by kernel_rfl) (.pointer (some ⟨g, y, none⟩)) (fun w _ => by go_simp) ?_
                  simp only [Act.put, List.setIfInBounds_toArray, List.set_cons_zero, List.set_cons_succ]
                  refine quietW_load1 (by kernel_rfl) _ _ rfl ⟨g, y, none⟩ rfl (.int .i64 (F y : Int)) (load_int _ _) (fun _ h => (h.cell (p := ⟨g, y, none⟩) hgx).trans cy) ?_
                  simp only [Act.put, List.setIfInBounds_toArray, List.set_cons_zero, List.set_cons_succ]
                  refine quietW_still (by kernel_rfl) (.int .i64 ((F y : Int) - 1)) (fun w _ => by go_simp; first | done | exact hF1) ?_
                  simp only [Act.put, List.setIfInBounds_toArray, List.set_cons_zero, List.set_cons_succ]
                  refine quietW_still (by kernel_rfl) (.bool true) (fun w _ => by go_simp; first | done | exact hqq | rw [hqq]) ?_
                  simp only [Act.put, List.setIfInBounds_toArray, List.set_cons_zero, List.set_cons_succ]
                  refine quiet_still rfl (.bool true) (fun w _ => by go_simp) ?_
                  simp only [Act.put, List.setIfInBounds_toArray, List.set_cons_zero, List.set_cons_succ]
                  refine quiet_moveV rfl _ rfl (.bool true) rfl ?_
                  simp only [Act.put, List.setIfInBounds_toArray, List.set_cons_zero, List.set_cons_succ]
                  refine quietW_moveV (by kernel_rfl) _ rfl (.int .i64 (k : Int)) rfl ?_
                  simp only [Act.put, List.setIfInBounds_toArray, List.set_cons_zero, List.set_cons_succ]
                  refine quietW_moveV (by kernel_rfl) _ rfl (.int .i64 (nb : Int)) rfl ?_
                  simp only [Act.put, List.setIfInBounds_toArray, List.set_cons_zero, List.set_cons_succ]
                  refine quietW_still (by kernel_rfl) (.bool false) (fun w _ => by go_simp; first | done | exact hkbb | rw [hkbb]) ?_
                  simp only [Act.put, List.setIfInBounds_toArray, List.set_cons_zero, List.set_cons_succ]
                  refine quietW_moveV (by kernel_rfl) _ rfl (.bool false) rfl ?_
                  simp only [Act.put, List.setIfInBounds_toArray, List.set_cons_zero, List.set_cons_succ]
                  refine quietW_moveV (by kernel_rfl) _ rfl (.slice (some ⟨g, 0, none⟩) s.ws.length s.ws.length) rfl ?_
                  simp only [Act.put, List.setIfInBounds_toArray, List.set_cons_zero, List.set_cons_succ]
                  refine quietW_moveV (by kernel_rfl) _ rfl (.int .i64 (k : Int)) rfl ?_
                  simp only [Act.put, List.setIfInBounds_toArray, List.set_cons_zero, List.set_cons_succ]
                  refine quietW_still (by kernel_rfl) (.pointer (some ⟨g, k, none⟩)) (fun w _ => by go_simp) ?_
                  simp only [Act.put, List.setIfInBounds_toArray, List.set_cons_zero, List.set_cons_succ]
                  refine quietW_load1 (by kernel_rfl) _ _ rfl ⟨g, k, none⟩ rfl (.int .i64 (F k : Int)) (load_int _ _) (fun _ h => (h.cell (p := ⟨g, k, none⟩) hgx).trans ck) ?_
                  simp only [Act.put, List.setIfInBounds_toArray, List.set_cons_zero, List.set_cons_succ]
                  refine quietW_still (by kernel_rfl) (.bool false) (fun w _ => by go_simp; first | done | omega) ?_
                  simp only [Act.put, List.setIfInBounds_toArray, List.set_cons_zero, List.set_cons_succ]
                  refine quietW_still (by kernel_rfl) (.bool false) (fun w _ => by go_simp) ?_
                  simp only [Act.put, List.setIfInBounds_toArray, List.set_cons_zero, List.set_cons_succ]
                  unfold wpQuiet
                  intro wq hb
                  have HBQ := Lib.hid (HBZ.out.trans (hb.mono HBZ.out.size))
                  have k1w : IntKind.i64.wrap ((k : Int) + 1) = ((k + 1 : Nat) : Int) := (IntWalk.i64_in _ (by omega)).trans (by omega)
                  clear hb g1 ck cy
                  go_wp2_with fail
                  go_roundw
                  case rel => exact ⟨k + 1, rfl, rfl, by omega, by omega, HBQ.out⟩
                  case measure => (simp [intOf] <;> omega)
                · have hqq : ((F k : Int) == (F y : Int) - 1) = false := by rw [beq_eq_false_iff_ne]; omega
                  clear hgk ht hq1
                  refine wp_region_class (fun w' => Below wz.heap.size wz w') 34 (by kernel_rfl) (by kernel_rfl) (Below.refl _ wz).drew ?_
                  simp only [List.take_succ_cons, List.take_zero, List.drop_succ_cons, List.drop_zero]
                  refine quiet_still rfl (.pointer (some ⟨w.heap.size, 1, none⟩)) (fun w _ => by go_simp) ?_
                  simp only [Act.put, List.setIfInBounds_toArray, List.set_cons_zero, List.set_cons_succ]
                  refine quiet_load1 rfl _ _ rfl ⟨w.heap.size, 1, none⟩ rfl (.slice (some ⟨wb, wo, none⟩) s.ws.length uc) (load_ws _ _) (fun _ h => (h.cell (p := ⟨w.heap.size, 1, none⟩) hzx).trans g1) ?_
                  simp only [Act.put, List.setIfInBounds_toArray, List.set_cons_zero, List.set_cons_succ]
                  refine quiet_moveV rfl _ rfl (.int .i64 (y : Int)) rfl ?_
                  simp only [Act.put, List.setIfInBounds_toArray, List.set_cons_zero, List.set_cons_succ]
                  refine quiet_still rfl (.pointer (some ⟨wb, wo + y * 3, none⟩)) (fun w _ => by go_simp) ?_
                  simp only [Act.put, List.setIfInBounds_toArray, List.set_cons_zero, List.set_cons_succ]
                  refine quiet_load_mid rfl _ _ rfl wb (wo + y * 3) rfl [.int .i64 y1.kd, .int .i64 y1.pl, .string y1.wd] _ (fun W h => range_below3 RGy1.out hwbx h) Try.underlying48 rfl (by kernel_rfl) ?_
                  simp only [Act.put, List.setIfInBounds_toArray, List.set_cons_zero, List.set_cons_succ]
                  refine quiet_still rfl (.pointer (some ⟨w.heap.size, 1, none⟩)) (fun w _ => by go_simp) ?_
                  simp only [Act.put, List.setIfInBounds_toArray, List.set_cons_zero, List.set_cons_succ]
                  refine quiet_load1 rfl _ _ rfl ⟨w.heap.size, 1, none⟩ rfl (.slice (some ⟨wb, wo, none⟩) s.ws.length uc) (load_ws _ _) (fun _ h => (h.cell (p := ⟨w.heap.size, 1, none⟩) hzx).trans g1) ?_
                  simp only [Act.put, List.setIfInBounds_toArray, List.set_cons_zero, List.set_cons_succ]
                  refine quiet_moveV rfl _ rfl (.int .i64 (k : Int)) rfl ?_
                  simp only [Act.put, List.setIfInBounds_toArray, List.set_cons_zero, List.set_cons_succ]
                  refine quiet_still rfl (.pointer (some ⟨wb, wo + k * 3, none⟩)) (fun w _ => by go_simp) ?_
                  simp only [Act.put, List.setIfInBounds_toArray, List.set_cons_zero, List.set_cons_succ]
                  refine quiet_load_mid rfl _ _ rfl wb (wo + k * 3) rfl [.int .i64 y2.kd, .int .i64 y2.pl, .string y2.wd] _ (fun W h => range_below3 RGy2.out hwbx h) Try.underlying48 rfl (by kernel_rfl) ?_
                  simp only [Act.put, List.setIfInBounds_toArray, List.set_cons_zero, List.set_cons_succ]
                  refine quiet_call rfl 30 _ _ rfl (enter_of Try.func30 (by decide) (by intro h; cases h)) _ (fun W h => (CT.out W).mono fun e w' ⟨he, hw⟩ => ⟨he, h.trans (hw.mono h.size)⟩) ?_
                  simp only [Act.put, List.setIfInBounds_toArray, List.set_cons_zero, List.set_cons_succ]
                  refine quiet_moveV rfl _ rfl (.bool true) rfl ?_
                  simp only [Act.put, List.setIfInBounds_toArray, List.set_cons_zero, List.set_cons_succ]
                  refine quietW_moveV (by kernel_rfl) _ rfl (.slice (some ⟨g, 0, none⟩) s.ws.length s.ws.length) rfl ?_
                  simp only [Act.put, List.setIfInBounds_toArray, List.set_cons_zero, List.set_cons_succ]
                  refine quietW_moveV (by kernel_rfl) _ rfl (.int .i64 (k : Int)) rfl ?_
                  simp only [Act.put, List.setIfInBounds_toArray, List.set_cons_zero, List.set_cons_succ]
                  refine quietW_still (by kernel_rfl) (.pointer (some ⟨g, k, none⟩)) (fun w _ => by go_simp) ?_
                  simp only [Act.put, List.setIfInBounds_toArray, List.set_cons_zero, List.set_cons_succ]
                  refine quietW_load1 (by kernel_rfl) _ _ rfl ⟨g, k, none⟩ rfl (.int .i64 (F k : Int)) (load_int _ _) (fun _ h => (h.cell (p := ⟨g, k, none⟩) hgx).trans ck) ?_
                  simp only [Act.put, List.setIfInBounds_toArray, List.set_cons_zero, List.set_cons_succ]
                  refine quietW_moveV (by kernel_rfl) _ rfl (.slice (some ⟨g, 0, none⟩) s.ws.length s.ws.length) rfl ?_
                  simp only [Act.put, List.setIfInBounds_toArray, List.set_cons_zero, List.set_cons_succ]
                  refine quietW_moveV (by kernel_rfl) _ rfl (.int .i64 (y : Int)) rfl ?_
                  simp only [Act.put, List.setIfInBounds_toArray, List.set_cons_zero, List.set_cons_succ]
                  refine quietW_still (by kernel_rfl) (.pointer (some ⟨g, y, none⟩)) (fun w _ => by go_simp) ?_
                  simp only [Act.put, List.setIfInBounds_toArray, List.set_cons_zero, List.set_cons_succ]
                  refine quietW_load1 (by kernel_rfl) _ _ rfl ⟨g, y, none⟩ rfl (.int .i64 (F y : Int)) (load_int _ _) (fun _ h => (h.cell (p := ⟨g, y, none⟩) hgx).trans cy) ?_
                  simp only [Act.put, List.setIfInBounds_toArray, List.set_cons_zero, List.set_cons_succ]
                  refine quietW_still (by kernel_rfl) (.int .i64 ((F y : Int) - 1)) (fun w _ => by go_simp; first | done | exact hF1) ?_
                  simp only [Act.put, List.setIfInBounds_toArray, List.set_cons_zero, List.set_cons_succ]
                  refine quietW_still (by kernel_rfl) (.bool false) (fun w _ => by go_simp; first | done | exact hqq | rw [hqq]) ?_
                  simp only [Act.put, List.setIfInBounds_toArray, List.set_cons_zero, List.set_cons_succ]
                  refine quiet_still rfl (.bool false) (fun w _ => by go_simp) ?_
                  simp only [Act.put, List.setIfInBounds_toArray, List.set_cons_zero, List.set_cons_succ]
                  refine quiet_moveV rfl _ rfl (.bool false) rfl ?_
                  simp only [Act.put, List.setIfInBounds_toArray, List.set_cons_zero, List.set_cons_succ]
                  refine quiet_skip (by kernel_rfl) ?_
                  simp only [Act.put, List.setIfInBounds_toArray, List.set_cons_zero, List.set_cons_succ]
                  refine quiet_skip (by kernel_rfl) ?_
                  simp only [Act.put, List.setIfInBounds_toArray, List.set_cons_zero, List.set_cons_succ]
                  refine quiet_skip (by kernel_rfl) ?_
                  simp only [Act.put, List.setIfInBounds_toArray, List.set_cons_zero, List.set_cons_succ]
                  refine quiet_skip (by kernel_rfl) ?_
                  simp only [Act.put, List.setIfInBounds_toArray, List.set_cons_zero, List.set_cons_succ]
                  refine quiet_skip (by kernel_rfl) ?_
                  simp only [Act.put, List.setIfInBounds_toArray, List.set_cons_zero, List.set_cons_succ]
                  refine quiet_skip (by kernel_rfl) ?_
                  simp only [Act.put, List.setIfInBounds_toArray, List.set_cons_zero, List.set_cons_succ]
                  refine quiet_skip (by kernel_rfl) ?_
                  simp only [Act.put, List.setIfInBounds_toArray, List.set_cons_zero, List.set_cons_succ]
                  refine quiet_skip (by kernel_rfl) ?_
                  simp only [Act.put, List.setIfInBounds_toArray, List.set_cons_zero, List.set_cons_succ]
                  refine quiet_skip (by kernel_rfl) ?_
                  simp only [Act.put, List.setIfInBounds_toArray, List.set_cons_zero, List.set_cons_succ]
                  refine quiet_skip (by kernel_rfl) ?_
                  simp only [Act.put, List.setIfInBounds_toArray, List.set_cons_zero, List.set_cons_succ]
                  unfold wpQuiet
                  intro wq hb
                  have HBQ := Lib.hid (HBZ.out.trans (hb.mono HBZ.out.size))
                  have k1w : IntKind.i64.wrap ((k : Int) + 1) = ((k + 1 : Nat) : Int) := (IntWalk.i64_in _ (by omega)).trans (by omega)
                  clear hb g1 ck cy
                  go_wp2_with fail
                  go_roundw
                  case rel => exact ⟨k + 1, rfl, rfl, by omega, by omega, HBQ.out⟩
                  case measure => (simp [intOf] <;> omega)
              · have ht' : touchP y1 y2 = false := by simpa using ht
                rw [ht'] at CT
                clear hgk ht ht'
                refine wp_region_class (fun w' => Below wz.heap.size wz w') 34 (by kernel_rfl) (by kernel_rfl) (Below.refl _ wz).drew ?_
                simp only [List.take_succ_cons, List.take_zero, List.drop_succ_cons, List.drop_zero]
                refine quiet_still rfl (.pointer (some ⟨w.heap.size, 1, none⟩)) (fun w _ => by go_simp) ?_
                simp only [Act.put, List.setIfInBounds_toArray, List.set_cons_zero, List.set_cons_succ]
                refine quiet_load1 rfl _ _ rfl ⟨w.heap.size, 1, none⟩ rfl (.slice (some ⟨wb, wo, none⟩) s.ws.length uc) (load_ws _ _) (fun _ h => (h.cell (p := ⟨w.heap.size, 1, none⟩) hzx).trans g1) ?_
                simp only [Act.put, List.setIfInBounds_toArray, List.set_cons_zero, List.set_cons_succ]
                refine quiet_moveV rfl _ rfl (.int .i64 (y : Int)) rfl ?_
                simp only [Act.put, List.setIfInBounds_toArray, List.set_cons_zero, List.set_cons_succ]
                refine quiet_still rfl (.pointer (some ⟨wb, wo + y * 3, none⟩)) (fun w _ => by go_simp) ?_
                simp only [Act.put, List.setIfInBounds_toArray, List.set_cons_zero, List.set_cons_succ]
                refine quiet_load_mid rfl _ _ rfl wb (wo + y * 3) rfl [.int .i64 y1.kd, .int .i64 y1.pl, .string y1.wd] _ (fun W h => range_below3 RGy1.out hwbx h) Try.underlying48 rfl (by kernel_rfl) ?_
                simp only [Act.put, List.setIfInBounds_toArray, List.set_cons_zero, List.set_cons_succ]
                refine quiet_still rfl (.pointer (some ⟨w.heap.size, 1, none⟩)) (fun w _ => by go_simp) ?_
                simp only [Act.put, List.setIfInBounds_toArray, List.set_cons_zero, List.set_cons_succ]
                refine quiet_load1 rfl _ _ rfl ⟨w.heap.size, 1, none⟩ rfl (.slice (some ⟨wb, wo, none⟩) s.ws.length uc) (load_ws _ _) (fun _ h => (h.cell (p := ⟨w.heap.size, 1, none⟩) hzx).trans g1) ?_
                simp only [Act.put, List.setIfInBounds_toArray, List.set_cons_zero, List.set_cons_succ]
                refine quiet_moveV rfl _ rfl (.int .i64 (k : Int)) rfl ?_
                simp only [Act.put, List.setIfInBounds_toArray, List.set_cons_zero, List.set_cons_succ]
                refine quiet_still rfl (.pointer (some ⟨wb, wo + k * 3, none⟩)) (fun w _ => by go_simp) ?_
                simp only [Act.put, List.setIfInBounds_toArray, List.set_cons_zero, List.set_cons_succ]
                refine quiet_load_mid rfl _ _ rfl wb (wo + k * 3) rfl [.int .i64 y2.kd, .int .i64 y2.pl, .string y2.wd] _ (fun W h => range_below3 RGy2.out hwbx h) Try.underlying48 rfl (by kernel_rfl) ?_
                simp only [Act.put, List.setIfInBounds_toArray, List.set_cons_zero, List.set_cons_succ]
                refine quiet_call rfl 30 _ _ rfl (enter_of Try.func30 (by decide) (by intro h; cases h)) _ (fun W h => (CT.out W).mono fun e w' ⟨he, hw⟩ => ⟨he, h.trans (hw.mono h.size)⟩) ?_
                simp only [Act.put, List.setIfInBounds_toArray, List.set_cons_zero, List.set_cons_succ]
                refine quiet_moveV rfl _ rfl (.bool false) rfl ?_
                simp only [Act.put, List.setIfInBounds_toArray, List.set_cons_zero, List.set_cons_succ]
                refine quiet_skip (by kernel_rfl) ?_
                simp only [Act.put, List.setIfInBounds_toArray, List.set_cons_zero, List.set_cons_succ]
                refine quiet_skip (by kernel_rfl) ?_
                simp only [Act.put, List.setIfInBounds_toArray, List.set_cons_zero, List.set_cons_succ]
                refine quiet_skip (by kernel_rfl) ?_
                simp only [Act.put, List.setIfInBounds_toArray, List.set_cons_zero, List.set_cons_succ]
                refine quiet_skip (by kernel_rfl) ?_
                simp only [Act.put, List.setIfInBounds_toArray, List.set_cons_zero, List.set_cons_succ]
                refine quiet_skip (by kernel_rfl) ?_
                simp only [Act.put, List.setIfInBounds_toArray, List.set_cons_zero, List.set_cons_succ]
                refine quiet_skip (by kernel_rfl) ?_
                simp only [Act.put, List.setIfInBounds_toArray, List.set_cons_zero, List.set_cons_succ]
                refine quiet_skip (by kernel_rfl) ?_
                simp only [Act.put, List.setIfInBounds_toArray, List.set_cons_zero, List.set_cons_succ]
                refine quiet_skip (by kernel_rfl) ?_
                simp only [Act.put, List.setIfInBounds_toArray, List.set_cons_zero, List.set_cons_succ]
                refine quiet_skip (by kernel_rfl) ?_
                simp only [Act.put, List.setIfInBounds_toArray, List.set_cons_zero, List.set_cons_succ]
                refine quiet_skip (by kernel_rfl) ?_
                simp only [Act.put, List.setIfInBounds_toArray, List.set_cons_zero, List.set_cons_succ]
                refine quiet_still rfl (.bool false) (fun w _ => by go_simp) ?_
                simp only [Act.put, List.setIfInBounds_toArray, List.set_cons_zero, List.set_cons_succ]
                refine quiet_moveV rfl _ rfl (.bool false) rfl ?_
                simp only [Act.put, List.setIfInBounds_toArray, List.set_cons_zero, List.set_cons_succ]
                refine quiet_skip (by kernel_rfl) ?_
                simp only [Act.put, List.setIfInBounds_toArray, List.set_cons_zero, List.set_cons_succ]
                refine quiet_skip (by kernel_rfl) ?_
                simp only [Act.put, List.setIfInBounds_toArray, List.set_cons_zero, List.set_cons_succ]
                refine quiet_skip (by kernel_rfl) ?_
                simp only [Act.put, List.setIfInBounds_toArray, List.set_cons_zero, List.set_cons_succ]
                refine quiet_skip (by kernel_rfl) ?_
                simp only [Act.put, List.setIfInBounds_toArray, List.set_cons_zero, List.set_cons_succ]
                refine quiet_skip (by kernel_rfl) ?_
                simp only [Act.put, List.setIfInBounds_toArray, List.set_cons_zero, List.set_cons_succ]
                refine quiet_skip (by kernel_rfl) ?_
                simp only [Act.put, List.setIfInBounds_toArray, List.set_cons_zero, List.set_cons_succ]
                refine quiet_skip (by kernel_rfl) ?_
                simp only [Act.put, List.setIfInBounds_toArray, List.set_cons_zero, List.set_cons_succ]
                refine quiet_skip (by kernel_rfl) ?_
                simp only [Act.put, List.setIfInBounds_toArray, List.set_cons_zero, List.set_cons_succ]
                refine quiet_skip (by kernel_rfl) ?_
                simp only [Act.put, List.setIfInBounds_toArray, List.set_cons_zero, List.set_cons_succ]
                refine quiet_skip (by kernel_rfl) ?_
                simp only [Act.put, List.setIfInBounds_toArray, List.set_cons_zero, List.set_cons_succ]
                unfold wpQuiet
                intro wq hb
                have HBQ := Lib.hid (HBZ.out.trans (hb.mono HBZ.out.size))
                have k1w : IntKind.i64.wrap ((k : Int) + 1) = ((k + 1 : Nat) : Int) := (IntWalk.i64_in _ (by omega)).trans (by omega)
                clear hb g1 ck cy
                go_wp2_with fail
                go_roundw
                case rel => exact ⟨k + 1, rfl, rfl, by omega, by omega, HBQ.out⟩
                case measure => (simp [intOf] <;> omega)
  · have hq : (ce != 0) = true := by rw [bne_iff_ne]; exact q
    have e : cv = [] := by rw [HCV.out, if_neg q]
    have e2 : c2 = ce := by rw [HCE.out, if_neg (fun h => q h.1)]
    subst e e2
    go_wp2_with fail
    go_ret2
    exact ⟨_, rfl, is_nil _, HB1.out⟩
end Go.Proofs.Ytenfeekchggioaa
