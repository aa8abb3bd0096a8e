/- Match and Same. -/
import Derived.Test.YtcjbjlepgdggpaaTO
namespace Go.Proofs.Ytcjbjlepgdggpaa
open Go.RowKit Go.Shelf Go.Lib
set_option maxRecDepth 100000
set_option linter.unusedSimpArgs false
attribute [local irreducible] wpQuiet
theorem mk_ints (n : Nat) (hn : n < 100000) (W : World) : (Instr.makeSlice 30 (.int .i64 0) (.int .i64 (n : Int))).run Try.prog W = .ok (.slice (some ⟨W.heap.size, 0, none⟩) 0 n) (W.alloc (.cells (madeCells #[.int .i64 0] n) 3)) := by
  obtain ⟨i0, hi, hz0, hz1, hz2⟩ := info_parts infoInt
  have h := run_make (P := Try.prog) W 30 3 i0 (.int .i64 0) Try.underlying30 hi hz0 .i64 .i64 0 (n : Int) (by omega) (by omega) (by rw [hz2]; omega) (by omega)
  rw [hz1] at h
  simp at h
  exact h
theorem own_mk (n B : Nat) (hn : n < 100000) (W : World) (hB : B ≤ W.heap.size) : (W.alloc (.cells (madeCells #[.int .i64 0] n) 3)).ownsRow B 3 1 (.slice (some ⟨W.heap.size, 0, none⟩) 0 n) 0 [] :=
  World.ownsRow_made W _ n hB (by unfold maxLen; omega) (by rw [size_madeCells]; simp)
theorem eqWk (a b c d : Int) (t1 t2 : ByteArray) (w : World) :
    (Op.equalIn 10000 51 (.agg #[.int .i64 a, .int .i64 b, .string t1]) (.agg #[.int .i64 c, .int .i64 d, .string t2])).run Try.prog w = .ok (a == c && (b == d && t1.toList == t2.toList)) w := by
  have hS : Try.prog.underlying 51 = some (.struct (Try.prog.fieldsOf 51)) := by kernel_rfl
  have hp : Try.prog.stoodInHeld 51 = false := by kernel_rfl
  rw [show (10000 : Nat) = 9999 + 1 from rfl, run_equalIn_agg w 9999 51 _ _ hS hp]
  simp only [Program.fieldsOf, Try.underlying51]
  go_simp
  by_cases h1 : a = c <;> by_cases h2 : b = d <;> by_cases h3 : t1.toList = t2.toList <;> simp [h1, h2, h3]
@[go_sem] theorem guardWk (op : BinOp) (x y : Operand) (xs ys : Array Value) (w : World) : (eqGuard op 51 x y (.agg xs) (.agg ys)).run Try.prog w = .ok () w := run_eqGuard_agg w op _ x y xs ys (by kernel_rfl)
theorem eqSame (x y : Wk) (w : World) : (Op.equalIn 10000 51 (.agg #[.int .i64 x.kd, .int .i64 x.pl, .string x.wd]) (.agg #[.int .i64 y.kd, .int .i64 y.pl, .string y.wd])).run Try.prog w = .ok (sameW x y) w := by
  rw [eqWk]
  congr 1
  rw [Bool.eq_iff_iff, sameW_iff]
  simp
def LI (l : List Nat) : List Int := l.map fun (i : Nat) => (i : Int)
theorem LI_snoc (l : List Nat) (i : Nat) : LI (l ++ [i]) = LI l ++ [(i : Int)] := by simp [LI]
theorem LI_len (l : List Nat) : (LI l).length = l.length := by simp [LI]
/-- The error of two sheets. -/
def mE (a b : Sh) : Int := if chkS a ≠ 0 then chkS a else if chkS b ≠ 0 then chkS b else if a.pr ≠ b.pr ∨ a.ws.length ≠ b.ws.length then 4 else if matchTo a.ws b.ws b.ws.length = none then 4 else 0
def matchL (a b : Sh) : List Int := if mE a b = 0 then LI ((matchTo a.ws b.ws b.ws.length).getD []) else []
theorem mE_1 {a b : Sh} (h : chkS a ≠ 0) : mE a b = chkS a ∧ matchL a b = [] := by
  have : mE a b = chkS a := by unfold mE; rw [if_pos h]
  exact ⟨this, by unfold matchL; rw [if_neg (by rw [this]; exact h)]⟩
theorem mE_2 {a b : Sh} (h : chkS a = 0) (h2 : chkS b ≠ 0) : mE a b = chkS b ∧ matchL a b = [] := by
  have : mE a b = chkS b := by unfold mE; rw [if_neg (by simp [h]), if_pos h2]
  exact ⟨this, by unfold matchL; rw [if_neg (by rw [this]; exact h2)]⟩
theorem mE_3 {a b : Sh} (h : chkS a = 0) (h2 : chkS b = 0) (h3 : a.pr ≠ b.pr ∨ a.ws.length ≠ b.ws.length) : mE a b = 4 ∧ matchL a b = [] := by
  have : mE a b = 4 := by unfold mE; rw [if_neg (by simp [h]), if_neg (by simp [h2]), if_pos h3]
  exact ⟨this, by unfold matchL; rw [if_neg (by rw [this]; decide)]⟩
theorem mE_4 {a b : Sh} (h : chkS a = 0) (h2 : chkS b = 0) (h4 : matchTo a.ws b.ws b.ws.length = none) : mE a b = 4 ∧ matchL a b = [] := by
  have : mE a b = 4 := by
    unfold mE
    rw [if_neg (by simp [h]), if_neg (by simp [h2])]
    split <;> first | rfl | rw [if_pos h4]
  exact ⟨this, by unfold matchL; rw [if_neg (by rw [this]; decide)]⟩
theorem mE_5 {a b : Sh} {l : List Nat} (h : chkS a = 0) (h2 : chkS b = 0) (h3 : ¬ (a.pr ≠ b.pr ∨ a.ws.length ≠ b.ws.length)) (h4 : matchTo a.ws b.ws b.ws.length = some l) : mE a b = 0 ∧ matchL a b = LI l := by
  have : mE a b = 0 := by unfold mE; rw [if_neg (by simp [h]), if_neg (by simp [h2]), if_neg h3, if_neg (by simp [h4])]
  exact ⟨this, by unfold matchL; rw [if_pos this, h4]; rfl⟩
theorem chk_fits {s : Sh} (h : chkS s = 0) : ∀ x ∈ s.ws, 0 ≤ x.pl ∧ x.pl ≤ s.pr - 2 := by
  unfold chkS at h
  split at h
  · cases h
  · split at h
    · cases h
    · split at h
      · cases h
      · split at h
        · cases h
        · split at h
          · cases h
          · rename_i hf
            have hf' : s.ws.all (fun x => x.fits s.pr) = true := by simpa using hf
            intro x hx
            have := List.all_eq_true.1 hf' x hx
            unfold Wk.fits at this
            simp at this
            exact ⟨this.1.1, this.1.2⟩
/-- The front, when these works are done. -/
def FrI (w : World) (fb : Nat) (a : Sh) (u ev : Value) (l : List Nat) : Prop := ∃ X, FRT w fb a.pr u ev X ∧ ∀ p, p < a.pr.toNat → ∃ z, X[p]? = some z ∧ NX a.ws (inL l) p z
theorem FrI.below {w w' : World} {fb B : Nat} {a : Sh} {u ev : Value} {l : List Nat} (h : FrI w fb a u ev l) (hb : Below B w w') (hB : fb < B) : FrI w' fb a u ev l :=
  let ⟨X, h1, h2⟩ := h
  ⟨X, h1.below hb hB, h2⟩
theorem FrI.lt {w : World} {fb : Nat} {a : Sh} {u ev : Value} {l : List Nat} (h : FrI w fb a u ev l) : fb < w.heap.size := let ⟨_, h1, _⟩ := h; h1.lt
/-- What the front becomes. -/
theorem fr_do {W : List Wk} {l : List Nat} {i p prn : Nat} {x : Wk} {X : List Int} (hC : Clo W (inL l)) (hx : W[i]? = some x) (hr : Rdy W (inL l) i) (hp : x.pl = (p : Int)) (hl : X.length = 24) (hpn : prn ≤ 24) (hX : ∀ q, q < prn → ∃ z, X[q]? = some z ∧ NX W (inL l) q z) :
    ∀ q, q < prn → ∃ z, ((X.set p (sideE W i x 0).to).set (p + 1) (sideE W i x 1).to)[q]? = some z ∧ NX W (inL (l ++ [i])) q z := fun q hq => by
  rw [inL_snoc, List.getElem?_set, List.getElem?_set, List.length_set]
  by_cases c1 : p + 1 = q
  · subst c1
    rw [if_pos rfl, if_pos (by omega)]
    exact ⟨_, rfl, nx_do hC hx hr.1 hr.2 (by omega) (by rw [hp]; omega)⟩
  · rw [if_neg c1]
    by_cases c2 : p = q
    · subst c2
      rw [if_pos rfl, if_pos (by omega)]
      exact ⟨_, rfl, nx_do hC hx hr.1 hr.2 (by omega) (by rw [hp]; omega)⟩
    · rw [if_neg c2]
      obtain ⟨z, h1, h2⟩ := hX q hq
      exact ⟨z, h1, nx_keep hx (by unfold Wk.takes; omega) h2⟩
theorem FRT.cast {w : World} {b : Nat} {pr pr' : Int} {u ev : Value} {X : List Int} (h : FRT w b pr u ev X) (e : pr = pr') : FRT w b pr' u ev X := e ▸ h
set_option maxHeartbeats 4000000 in
set_option maxRecDepth 100000 in
theorem Match_any (a b : Sh) (u v : Value) (w : World) (hu : WS w u a.ws) (hv : WS w v b.ws) :
    Calls Try.prog 17 #[.agg #[.int .i64 a.pr, u], .agg #[.int .i64 b.pr, v]] w fun e w' => ∃ lv, e = .returned (.tuple #[lv, .int .i64 (mE a b)]) ∧ w'.ownsRow w.heap.size 3 1 lv (matchL a b).length ((matchL a b).map (Value.int .i64)) ∧ Below w.heap.size w w' := by
  have HU := Lib.hid hu
  have HV := Lib.hid hv
  have HNIL := Lib.hid (fun (W : World) => (show W.ownsRow w.heap.size 3 1 (.slice none 0 0) ([] : List Int).length (([] : List Int).map (Value.int .i64)) from ⟨rfl, .inl ⟨rfl, rfl⟩⟩))
  obtain ⟨ua, uc, rfl, k1, k2, _⟩ := id hu
  obtain ⟨va, vc, rfl, k3, k4, _⟩ := id hv
  have CF := Lib.hid (fun W h => frontOf_any a (.slice ua a.ws.length uc) W h)
  have CC := Lib.hid (fun W h => check_any b (.agg #[.int .i64 b.pr, .slice va b.ws.length vc]) W h)
  have M1 := Lib.hid (@mE_1 a b)
  have M2 := Lib.hid (@mE_2 a b)
  have M3 := Lib.hid (@mE_3 a b)
  have M4 := Lib.hid (@mE_4 a b)
  have M5 := Lib.hid (fun l => @mE_5 a b l)
  have HSA := Lib.hid (@chk_small a)
  have HSB := Lib.hid (@chk_small b)
  have HFB := Lib.hid (@chk_fits b)
  have HFA := Lib.hid (@chk_fits a)
  generalize matchL a b = ml at *
  generalize mE a b = me at *
  generalize chkS a = za at *
  generalize chkS b = zb at *
  clear hu hv
  go_enter Try.func17, Try.ntmps17
  go_wp2_with fail
  have B0 : Below w.heap.size w ((w.alloc (.cells #[.int .i64 a.pr, .slice ua a.ws.length uc] 24)).alloc (.cells #[.int .i64 b.pr, .slice va b.ws.length vc] 24)) := (below_alloc _ _).alloc (by simp) _
  have h0 := heap_alloc2_old w (.cells #[.int .i64 a.pr, .slice ua a.ws.length uc] 24) (.cells #[.int .i64 b.pr, .slice va b.ws.length vc] 24)
  have h1 := heap_alloc2_new w (.cells #[.int .i64 a.pr, .slice ua a.ws.length uc] 24) (.cells #[.int .i64 b.pr, .slice va b.ws.length vc] 24)
  have hz0 : ((w.alloc (.cells #[.int .i64 a.pr, .slice ua a.ws.length uc] 24)).alloc (.cells #[.int .i64 b.pr, .slice va b.ws.length vc] 24)).heap.size = w.heap.size + 2 := by simp
  generalize (w.alloc (.cells #[.int .i64 a.pr, .slice ua a.ws.length uc] 24)).alloc (.cells #[.int .i64 b.pr, .slice va b.ws.length vc] 24) = W0 at *
  refine (CF.out W0 (HU.out.below B0)).mono ?_
  rintro e w1 ⟨cs, rfl, hcl, hco, b1, hok⟩
  have H0 := Lib.hid (hb_below b1 h0 (by omega))
  have H1 := Lib.hid (hb_below b1 h1 (by omega))
  have HB1 := Lib.hid (bon B0 b1)
  have HZ1 := Lib.hid (show w.heap.size + 2 ≤ w1.heap.size by have := b1.size; omega)
  have HCL := Lib.hid hcl
  have HCO := Lib.hid hco
  have HOK := Lib.hid hok
  have HZ0 := Lib.hid hz0
  have q2 := heap_alloc_new w1 (.cells #[.int .i64 0, .slice none 0 0, .slice none 0 0, .int .i64 0, .int .i64 0, .int .i64 0, .int .i64 0, .int .i64 0, .int .i64 0, .int .i64 0, .int .i64 0, .int .i64 0, .int .i64 0, .int .i64 0, .int .i64 0, .int .i64 0, .int .i64 0, .int .i64 0, .int .i64 0, .int .i64 0, .int .i64 0, .int .i64 0, .int .i64 0, .int .i64 0, .int .i64 0, .int .i64 0, .int .i64 0] 65)
  have HI := Lib.hid (infoFr hcl)
  have HH := Lib.hid (show (#[.int .i64 0, .slice none 0 0, .slice none 0 0, .int .i64 0, .int .i64 0, .int .i64 0, .int .i64 0, .int .i64 0, .int .i64 0, .int .i64 0, .int .i64 0, .int .i64 0, .int .i64 0, .int .i64 0, .int .i64 0, .int .i64 0, .int .i64 0, .int .i64 0, .int .i64 0, .int .i64 0, .int .i64 0, .int .i64 0, .int .i64 0, .int .i64 0, .int .i64 0, .int .i64 0, .int .i64 0] : Array Value).size = cs.toArray.size by rw [show cs.toArray.size = 27 by rw [List.size_toArray]; exact hcl]; rfl)
  clear CF B0 h0 h1 b1 hcl hco hok hz0
  by_cases hza : za = 0
  · subst hza
    go_upto_region 2 with (first | (refine store_row rfl 65 (.tmp 6) (.tmp 17) rfl w1.heap.size cs.toArray rfl rfl 65 _ q2 HI.out HH.out HCO.out ?_; intro w2 h2 kk2 z2 b2))
    have hb2 := b2 w1.heap.size w1 (below_alloc w1 (.cells #[.int .i64 0, .slice none 0 0, .slice none 0 0, .int .i64 0, .int .i64 0, .int .i64 0, .int .i64 0, .int .i64 0, .int .i64 0, .int .i64 0, .int .i64 0, .int .i64 0, .int .i64 0, .int .i64 0, .int .i64 0, .int .i64 0, .int .i64 0, .int .i64 0, .int .i64 0, .int .i64 0, .int .i64 0, .int .i64 0, .int .i64 0, .int .i64 0, .int .i64 0, .int .i64 0, .int .i64 0] 65)) (Nat.le_refl _)
    have H02 := Lib.hid (hb_below hb2 H0.out (by have := HZ1.out; omega))
    have H12 := Lib.hid (hb_below hb2 H1.out (by have := HZ1.out; omega))
    obtain ⟨g, cap, X0, rfl, hX24, hES, hg0, hg1, hX0⟩ := HOK.out (by trivial)
    have HES := Lib.hid (hES.below hb2)
    have HB2 := Lib.hid (bon HB1.out hb2)
    have HC2 := Lib.hid hb2
    have HFR := Lib.hid (show FrI w2 w1.heap.size a (.slice ua a.ws.length uc) (.slice (some ⟨g, 0, none⟩) (edgesL a.pr.toNat a.ws).length cap) [] from ⟨X0, ⟨h2, hX24⟩, fun p hp => ⟨_, hX0 p hp, by
      have := nx_0 a.ws p
      have e : inL [] = fun _ => false := by funext j; rfl
      rw [e]
      exact this⟩⟩)
    have hz2 : w2.heap.size = w1.heap.size + 1 := by rw [z2]; simp
    have HG := Lib.hid (show g < w1.heap.size from hg1)
    clear q2 h2 kk2 z2 b2 hb2 hES hg0 hg1 hX0 hX24 HI HH HCO HCL HOK
    have ca0 : w2.cell? ⟨w.heap.size, 0, none⟩ = some (.int .i64 a.pr) := cell_of_row w2 _ 0 _ _ _ H02.out
    have ca1 : w2.cell? ⟨w.heap.size, 1, none⟩ = some (.slice ua a.ws.length uc) := cell_of_row w2 _ 1 _ _ _ H02.out
    have cb0 : w2.cell? ⟨w.heap.size + 1, 0, none⟩ = some (.int .i64 b.pr) := cell_of_row w2 _ 0 _ _ _ H12.out
    have cb1 : w2.cell? ⟨w.heap.size + 1, 1, none⟩ = some (.slice va b.ws.length vc) := cell_of_row w2 _ 1 _ _ _ H12.out
    go_wp2_with fail
    refine (CC.out w2 (HV.out.below HB2.out |> fun h => ⟨_, rfl, h⟩)).mono ?_
    rintro e w3 ⟨rfl, b3⟩
    have H03 := Lib.hid (hb_below b3 H02.out (by have := HZ1.out; omega))
    have H13 := Lib.hid (hb_below b3 H12.out (by have := HZ1.out; omega))
    have HES3 := Lib.hid (HES.out.below b3)
    have HFR3 := Lib.hid (HFR.out.below b3 (by omega))
    have HB3 := Lib.hid (bon HB2.out b3)
    have HC3 := Lib.hid (HC2.out.trans (b3.mono (by omega)))
    have hz3 := b3.size
    clear ca0 ca1 cb0 cb1
    have ca0 : w3.cell? ⟨w.heap.size, 0, none⟩ = some (.int .i64 a.pr) := cell_of_row w3 _ 0 _ _ _ H03.out
    have ca1 : w3.cell? ⟨w.heap.size, 1, none⟩ = some (.slice ua a.ws.length uc) := cell_of_row w3 _ 1 _ _ _ H03.out
    have cb0 : w3.cell? ⟨w.heap.size + 1, 0, none⟩ = some (.int .i64 b.pr) := cell_of_row w3 _ 0 _ _ _ H13.out
    have cb1 : w3.cell? ⟨w.heap.size + 1, 1, none⟩ = some (.slice va b.ws.length vc) := cell_of_row w3 _ 1 _ _ _ H13.out
    clear b3 H02 H12 HES HFR HB2 CC
    by_cases hzb : zb = 0
    · subst hzb
      by_cases h7 : a.pr ≠ b.pr ∨ a.ws.length ≠ b.ws.length
      · obtain ⟨rfl, rfl⟩ := M3.out (by trivial) (by trivial) h7
        by_cases hpr : a.pr = b.pr
        · have hln : ¬ a.ws.length = b.ws.length := by
            rcases h7 with h | h
            · exact absurd hpr h
            · exact h
          have e1 : (a.pr != b.pr) = false := by rw [bne_eq_false_iff_eq]; exact hpr
          have e2 : ((a.ws.length : Int) != (b.ws.length : Int)) = true := by rw [bne_iff_ne]; omega
          clear h7
          go_wp2_with fail
          go_ret2
          exact ⟨_, rfl, HNIL.out _, HB3.out⟩
        · have e1 : (a.pr != b.pr) = true := by rw [bne_iff_ne]; exact hpr
          clear h7
          go_wp2_with fail
          go_ret2
          exact ⟨_, rfl, HNIL.out _, HB3.out⟩
      · obtain ⟨hpr, hln⟩ : a.pr = b.pr ∧ a.ws.length = b.ws.length := by
          constructor
          · exact Classical.byContradiction fun h => h7 (.inl h)
          · exact Classical.byContradiction fun h => h7 (.inr h)
        have HLN := Lib.hid hln
        have HPR := Lib.hid hpr
        have e1 : (a.pr != b.pr) = false := by rw [bne_eq_false_iff_eq]; exact hpr
        have e2 : ((a.ws.length : Int) != (b.ws.length : Int)) = false := by rw [bne_eq_false_iff_eq]; omega
        have M4' := Lib.hid (fun h => M4.out (by trivial) (by trivial) h)
        have M5' := Lib.hid (fun l h => M5.out l (by trivial) (by trivial) h7 h)
        obtain ⟨pa1, pa2, pa3⟩ := HSA.out (by trivial)
        obtain ⟨pb1, pb2, pb3⟩ := HSB.out (by trivial)
        have HFB' := Lib.hid (HFB.out (by trivial))
        have hn4 := pb3.1
        have HPA := Lib.hid (show a.pr = ((a.pr.toNat : Nat) : Int) by omega)
        have hmk := mk_ints b.ws.length (by omega) w3
        obtain ⟨w4, hw4⟩ : ∃ w4, w4 = w3.alloc (.cells (madeCells #[.int .i64 0] b.ws.length) 3) := ⟨_, rfl⟩
        have B4 := below_alloc w3 (.cells (madeCells #[.int .i64 0] b.ws.length) 3)
        have o4 := own_mk b.ws.length w3.heap.size (by omega) w3 (Nat.le_refl _)
        rw [← hw4] at hmk B4 o4
        have H04 := Lib.hid (hb_below B4 H03.out (by have := HZ1.out; omega))
        have H14 := Lib.hid (hb_below B4 H13.out (by have := HZ1.out; omega))
        have HES4 := Lib.hid (HES3.out.below B4)
        have HFR4 := Lib.hid (HFR3.out.below B4 (by omega))
        have HB4 := Lib.hid (bon HB3.out B4)
        have HC4 := Lib.hid (HC3.out.trans (B4.mono (by omega)))
        have HO4 := Lib.hid o4
        have hz4 := B4.size
        have cb4 : w4.cell? ⟨w.heap.size + 1, 1, none⟩ = some (.slice va b.ws.length vc) := cell_of_row w4 _ 1 _ _ _ H14.out
        clear hw4 B4 o4 H03 H13 HES3 HFR3 M1 M2 M3 M4 M5 HSA HSB HFB hpr hln h7 pa3 pb3
        go_wp2_with fail
        clear e1 e2 ca0 ca1 cb0 cb1 cb4 hmk
        go_loopw [9, 11, 12, 13, 48] (fun ov _ _ _ i wr => ∃ (k : Nat) (l : List Nat), k ≤ b.ws.length ∧ i = .int .i64 (k : Int) ∧ matchTo a.ws b.ws k = some l ∧ wr.ownsRow w3.heap.size 3 1 ov (LI l).length ((LI l).map (Value.int .i64)) ∧
          FrI wr w1.heap.size a (.slice ua a.ws.length uc) (.slice (some ⟨g, 0, none⟩) (edgesL a.pr.toNat a.ws).length cap) l ∧ Below w1.heap.size w4 wr) (fun _ _ _ _ i _ => b.ws.length - (intOf i).toNat)
        case atStart => exact ⟨0, [], Nat.zero_le _, rfl, rfl, HO4.out, HFR4.out, Below.refl _ _⟩
        case round =>
          clear HO4 HFR4
          obtain ⟨k, l, hk, rfl, hml, how, hfr, hbr⟩ := hrel
          rename World => wr
          have HML := Lib.hid hml
          have HOW := Lib.hid how
          have HFR := Lib.hid hfr
          have HBR := Lib.hid hbr
          have hzr := hbr.size
          have hCl := matchTo_clo hml
          have HCL := Lib.hid hCl
          obtain ⟨oa, oc, rfl⟩ := own_form how
          clear hml how hfr hbr hCl
          by_cases hkl : k < b.ws.length
          · have j0 : (0 : Int) ≤ (k : Int) := by omega
            have j1 : (k : Int) < (b.ws.length : Int) := by omega
            obtain ⟨y, hy⟩ : ∃ y, b.ws[k]? = some y := ⟨_, List.getElem?_eq_getElem hkl⟩
            have HNX := Lib.hid (matchTo_next HML.out hy)
            obtain ⟨y0, y1⟩ := HFB'.out y (List.mem_of_getElem? hy)
            have hvw : WS w1 (.slice va b.ws.length vc) b.ws := HV.out.below HB1.out
            obtain ⟨vb, vo, rfl, hvb, hvr⟩ := ws_get hvw hy
            obtain ⟨yk, yp, yw⟩ := y
            obtain ⟨p, hp⟩ : ∃ p : Nat, yp = (p : Int) := ⟨yp.toNat, by simp only at y0; omega⟩
            subst hp
            simp only at y0 y1
            have hpp : p + 1 < a.pr.toNat := by have := HPR.out; omega
            unfold Wk.cs at hvr
            simp only at hvr
            have HR := Lib.hid (range_below3 hvr hvb (HC4.out.trans (HBR.out)))
            have hvb1 := hvb
            have hHZ := HZ1.out
            clear hvr hvw hy
            go_upto_region 13 with (refine wpList_load_mid rfl 51 (.tmp 50) rfl vb (vo + k * 3) rfl [.int .i64 yk, .int .i64 (p : Int), .string yw] _ HR.out Try.underlying51 rfl (by kernel_rfl) ?_)
            have b6 := below_alloc wr (.cells #[.int .i64 yk, .int .i64 (p : Int), .string yw] 51)
            have h6 := heap_alloc_new wr (.cells #[.int .i64 yk, .int .i64 (p : Int), .string yw] 51)
            have z6 : (wr.alloc (.cells #[.int .i64 yk, .int .i64 (p : Int), .string yw] 51)).heap.size = wr.heap.size + 1 := by simp
            generalize wr.alloc (.cells #[.int .i64 yk, .int .i64 (p : Int), .string yw] 51) = w6 at *
            have d1 : w6.cell? ⟨wr.heap.size, 1, none⟩ = some (.int .i64 (p : Int)) := cell_of_row w6 _ 1 _ _ _ h6
            obtain ⟨X, hX1, hX2⟩ := HFR.out
            obtain ⟨z0, hz0', n0⟩ := hX2 p (by omega)
            obtain ⟨z1, hz1', n1⟩ := hX2 (p + 1) hpp
            have hfl := HFR.out.lt
            have CR := Lib.hid (rdF_any w1.heap.size p a.pr _ _ X z0 z1 w6 (hX1.below b6 (by omega)) hz0' hz1')
            have HX1 := Lib.hid hX1
            have HX2 := Lib.hid hX2
            clear hX1 hX2 hz0' hz1'
            go_wp2_with fail
            refine CR.out.mono ?_
            rintro e w7 ⟨rfl, b7⟩
            have hb67 : Below wr.heap.size wr w7 := b6.trans (b7.mono (by omega))
            have HY7 := Lib.hid (hb_below b7 h6 (by omega))
            have HB67 := Lib.hid hb67
            have hz7 := b7.size
            obtain ⟨w6s, hw6s⟩ : ∃ q, q = wr.heap.size := ⟨_, rfl⟩
            rw [← hw6s] at HY7 ⊢
            have HW6 := Lib.hid hw6s
            have hlt6 : w6s < w7.heap.size := by omega
            clear b6 b7 h6 d1 CR hw6s hb67
            cases hrd : rdV z0 z1
            · have hno : matchTo a.ws b.ws (k + 1) = none := by
                rw [HNX.out, findR_none fun i x hx hs hr => nx_not n0 n1 (by
                  unfold rdV at hrd
                  by_cases c : z0 = -1
                  · exact .inl c
                  · right
                    intro e
                    rw [e] at hrd
                    have : (z1 != -1) = true := by rw [bne_iff_ne, ← e]; exact c
                    simp [this] at hrd) i x hx (sameW_pl hs) hr]
                rfl
              obtain ⟨rfl, rfl⟩ := M4'.out (matchTo_late hno hkl)
              clear hno
              go_wp2_with fail
              refine wp_region_class (fun w' => Below w7.heap.size w7 w') 10 (by kernel_rfl) (by kernel_rfl) (Below.refl _ w7).drew ?_
              simp only [List.take_succ_cons, List.take_zero, List.drop_succ_cons, List.drop_zero]
              refine quiet_moveV rfl _ rfl (.bool false) rfl ?_
              simp only [Act.put, List.setIfInBounds_toArray, List.set_cons_zero, List.set_cons_succ]
              refine quiet_still rfl (.bool true) (fun w _ => by go_simp) ?_
              simp only [Act.put, List.setIfInBounds_toArray, List.set_cons_zero, List.set_cons_succ]
              refine quiet_moveV rfl _ rfl (.bool true) rfl ?_
              simp only [Act.put, List.setIfInBounds_toArray, List.set_cons_zero, List.set_cons_succ]
              refine quiet_skip (by kernel_rfl) ?_
              simp only [Act.put, List.setIfInBounds_toArray, List.set_cons_zero, List.set_cons_succ]
              refine quiet_skip (by kernel_rfl) ?_
              simp only [Act.put, List.setIfInBounds_toArray, List.set_cons_zero, List.set_cons_succ]
              refine quiet_skip (by kernel_rfl) ?_
              simp only [Act.put, List.setIfInBounds_toArray, List.set_cons_zero, List.set_cons_succ]
              refine quiet_skip (by kernel_rfl) ?_
              simp only [Act.put, List.setIfInBounds_toArray, List.set_cons_zero, List.set_cons_succ]
              refine quiet_skip (by kernel_rfl) ?_
              simp only [Act.put, List.setIfInBounds_toArray, List.set_cons_zero, List.set_cons_succ]
              refine quiet_skip (by kernel_rfl) ?_
              simp only [Act.put, List.setIfInBounds_toArray, List.set_cons_zero, List.set_cons_succ]
              refine quiet_skip (by kernel_rfl) ?_
              simp only [Act.put, List.setIfInBounds_toArray, List.set_cons_zero, List.set_cons_succ]
              unfold wpQuiet
              intro w8 hb
              have HBF := Lib.hid (show Below w.heap.size w w8 from HB4.out.trans ((HBR.out.trans ((HB67.out.trans (hb.mono (by omega))).mono (by omega))).mono (by omega)))
              clear hb
              go_wp2_with fail
              go_ret2
              exact ⟨_, rfl, HNIL.out _, HBF.out⟩
            · obtain ⟨ez, ez2⟩ : z0 ≠ -1 ∧ z0 = z1 := by
                unfold rdV at hrd
                simpa using hrd
              subst ez2
              obtain ⟨i, x, rfl, hx, hxp, hr⟩ := nx_ready n0 n1 ez
              have hiW := (List.getElem?_eq_some_iff.1 hx).1
              have HX := Lib.hid hx
              have HRD := Lib.hid hr
              have HXP := Lib.hid hxp
              have HA1 := Lib.hid (HU.out.below HB1.out)
              obtain ⟨wb, wo, rfl, hwb1, hwr⟩ := ws_get HA1.out hx
              have hb17 : Below w1.heap.size w1 w7 := HC4.out.trans (HBR.out.trans (HB67.out.mono (by omega)))
              have HA7 := Lib.hid (HA1.out.below hb17)
              have RA7 := Lib.hid (range_below3 hwr hwb1 hb17)
              have hwb : wb < w7.heap.size := by have := hb17.size; omega
              have H07 := Lib.hid (hb_below hb17 H0.out (by omega))
              have CA7 := Lib.hid (cell_of_row w7 w.heap.size 1 _ _ _ H07.out)
              have hwlt : w.heap.size < w7.heap.size := by have := hb17.size; omega
              have j4 : (0 : Int) ≤ (i : Int) := by omega
              have j5 : (i : Int) < (a.ws.length : Int) := by omega
              have HB17 := Lib.hid hb17
              clear hx hr hxp hwr hb17 n0 n1 ez hrd
              by_cases hs : sameW x ⟨yk, (p : Int), yw⟩ = true
              · have he2 : ∀ W, (Op.equalIn 10000 51 (.agg #[.int .i64 x.kd, .int .i64 x.pl, .string x.wd]) (.agg #[.int .i64 yk, .int .i64 (p : Int), .string yw])).run Try.prog W = .ok true W := fun W => (eqSame x ⟨yk, (p : Int), yw⟩ W).trans (by rw [hs])
                have hst : matchTo a.ws b.ws (k + 1) = some (l ++ [i]) := by
                  rw [HNX.out, findR_eq HX.out hs HRD.out]
                  rfl
                have HST := Lib.hid hst
                clear hst
                go_wp2_with fail
                refine wp_region_class (fun w' => Below w7.heap.size w7 w') 10 (by kernel_rfl) (by kernel_rfl) (Below.refl _ w7).drew ?_
                simp only [List.take_succ_cons, List.take_zero, List.drop_succ_cons, List.drop_zero]
                refine quiet_moveV rfl _ rfl (.bool true) rfl ?_
                simp only [Act.put, List.setIfInBounds_toArray, List.set_cons_zero, List.set_cons_succ]
                refine quiet_still rfl (.bool false) (fun w _ => by go_simp) ?_
                simp only [Act.put, List.setIfInBounds_toArray, List.set_cons_zero, List.set_cons_succ]
                refine quiet_moveV rfl _ rfl (.bool false) rfl ?_
                simp only [Act.put, List.setIfInBounds_toArray, List.set_cons_zero, List.set_cons_succ]
                refine quietW_still (by kernel_rfl) (.pointer (some ⟨w.heap.size, 1, none⟩)) (fun w _ => by go_simp) ?_
                simp only [Act.put, List.setIfInBounds_toArray, List.set_cons_zero, List.set_cons_succ]
                refine quietW_load1 (by kernel_rfl) _ _ rfl ⟨w.heap.size, 1, none⟩ rfl (.slice (some ⟨wb, wo, none⟩) a.ws.length uc) (load_ws _ _) (fun _ h => (h.cell (p := ⟨w.heap.size, 1, none⟩) hwlt).trans CA7.out) ?_
                simp only [Act.put, List.setIfInBounds_toArray, List.set_cons_zero, List.set_cons_succ]
                refine quietW_moveV (by kernel_rfl) _ rfl (.int .i64 (i : Int)) rfl ?_
                simp only [Act.put, List.setIfInBounds_toArray, List.set_cons_zero, List.set_cons_succ]
                refine quietW_still (by kernel_rfl) (.pointer (some ⟨wb, wo + i * 3, none⟩)) (fun w _ => by go_simp) ?_
                simp only [Act.put, List.setIfInBounds_toArray, List.set_cons_zero, List.set_cons_succ]
                refine quietW_load_mid (by kernel_rfl) _ _ rfl wb (wo + i * 3) rfl [.int .i64 x.kd, .int .i64 x.pl, .string x.wd] _ (fun V h => range_below3 RA7.out hwb h) Try.underlying51 rfl (by kernel_rfl) ?_
                simp only [Act.put, List.setIfInBounds_toArray, List.set_cons_zero, List.set_cons_succ]
                refine quietW_load_mid (by kernel_rfl) _ _ rfl w6s 0 rfl [.int .i64 yk, .int .i64 (p : Int), .string yw] _ (fun V h => range_of_heap (hb_below h HY7.out hlt6)) Try.underlying51 rfl (by kernel_rfl) ?_
                simp only [Act.put, List.setIfInBounds_toArray, List.set_cons_zero, List.set_cons_succ]
                refine quietW_still (by kernel_rfl) (.bool false) (fun w _ => by have := he2; go_simp) ?_
                simp only [Act.put, List.setIfInBounds_toArray, List.set_cons_zero, List.set_cons_succ]
                unfold wpQuiet
                intro w8 hb
                have hb18 : Below w1.heap.size w1 w8 := HB17.out.trans (hb.mono (by omega))
                have HFR8 : FRT w8 w1.heap.size a.pr (.slice (some ⟨wb, wo, none⟩) a.ws.length uc) (.slice (some ⟨g, 0, none⟩) (edgesL a.pr.toNat a.ws).length cap) X := (HX1.out.below HB67.out (by omega)).below hb (by omega)
                have HES8 : ES w8 (.slice (some ⟨g, 0, none⟩) (edgesL a.pr.toNat a.ws).length cap) (edgesL a.pr.toNat a.ws) := by
                  have e1 := HES4.out
                  obtain ⟨a', c', e', h4⟩ := e1
                  cases e'
                  refine ⟨_, _, rfl, fun kk xx hxx => ?_⟩
                  obtain ⟨b', off, e2, hlt, hr⟩ := h4 kk xx hxx
                  cases e2
                  have hgz := HG.out
                  refine ⟨_, _, rfl, by have := hb18.size; omega, fun jj vv hj => ?_⟩
                  exact ((HBR.out.trans ((HB67.out.trans (hb.mono (by omega))).mono (by omega))).cell (p := ⟨g, 0 + kk * 4 + jj, none⟩) hgz).trans (hr jj vv hj)
                have hprn : a.pr.toNat ≤ 24 := by omega
                have CD := Lib.hid (doF_any w1.heap.size i p a.pr.toNat a.ws (edgesL a.pr.toNat a.ws) (some ⟨wb, wo, none⟩) (some ⟨g, 0, none⟩) uc cap X x (sideE a.ws i x 0) (sideE a.ws i x 1) w8 (HFR8.cast HPA.out) (HA7.out.below hb) HES8 HX.out HXP.out (by omega)
                  (by have := side_get a.pr.toNat a.ws i 0 x (by omega) HX.out; simpa using this) (side_get a.pr.toNat a.ws i 1 x (by omega) HX.out) (fun b' off e => by cases e; have := HG.out; omega) (by have := HLN.out; omega) (by omega))
                have HO8 := Lib.hid (own_below (own_below HOW.out HB67.out) hb)
                have HB18 := Lib.hid hb18
                have hz8 := hb.size
                have HB48 := Lib.hid (show Below w1.heap.size w4 w8 from HBR.out.trans ((HB67.out.trans (hb.mono (by omega))).mono (by omega)))
                clear HFR8 HES8 hb hb18 he2 hs
                go_wp2_with fail
                refine CD.out.mono ?_
                rintro e w9 ⟨⟨v9, rfl⟩, hf9, hg9⟩
                have HF9 := Lib.hid (show FrI w9 w1.heap.size a (.slice (some ⟨wb, wo, none⟩) a.ws.length uc) (.slice (some ⟨g, 0, none⟩) (edgesL a.pr.toNat a.ws).length cap) (l ++ [i]) from ⟨_, hf9.cast HPA.out.symm, fr_do HCL.out.1 HX.out HRD.out HXP.out HX1.out.2 hprn HX2.out⟩)
                have HO9 := Lib.hid (HO8.out.kept hg9 (by
                  rcases HO8.out.2 with ⟨e, _⟩ | ⟨g', cap', cur, e, hB', _⟩
                  · rw [e]; exact .inl rfl
                  · rw [e]; right; simp only [Value.ownBlock, ne_eq, Option.some.injEq]; omega))
                have HB49 := Lib.hid (Below.grown HB48.out hg9 (by have := HB48.out.size; omega) (fun kk e => by cases e; exact Nat.le_refl _))
                have hz9 := hg9.size
                have HZX := Lib.hid (show w3.heap.size ≤ w9.heap.size by omega)
                have HLL := Lib.hid (show (LI l).length < 100000 by rw [LI_len, HCL.out.2.1]; omega)
                clear hf9 hg9 CD HO8 HB48 HX1 HX2
                go_wp2_with (at_builtin; refine app_one (w0 := w9) w3.heap.size _ (LI l) (i : Int) rfl _ _ rfl rfl HO9.out rfl HLL.out (Below.refl _ _) HZX.out ?_; intro g1 cap1 wA hown1 hb1)
                have HOA := Lib.hid hown1
                have HFA := Lib.hid (HF9.out.below hb1 (by omega))
                have HBA := Lib.hid (HB49.out.trans (hb1.mono (by omega)))
                clear hown1 hb1
                go_wp2_with fail
                go_roundw
                case rel => exact ⟨k + 1, l ++ [i], hkl, by go_num, HST.out, by rw [LI_snoc, List.length_append]; exact HOA.out, HFA.out, HBA.out⟩
                case measure => (simp [intOf] <;> omega)
              · have hs' : sameW x ⟨yk, (p : Int), yw⟩ = false := by simpa using hs
                have he2 : ∀ W, (Op.equalIn 10000 51 (.agg #[.int .i64 x.kd, .int .i64 x.pl, .string x.wd]) (.agg #[.int .i64 yk, .int .i64 (p : Int), .string yw])).run Try.prog W = .ok false W := fun W => (eqSame x ⟨yk, (p : Int), yw⟩ W).trans (by rw [hs'])
                have hno : matchTo a.ws b.ws (k + 1) = none := by
                  rw [HNX.out, findR_none fun j x' hx' hsj hrj => by
                    have hpj := sameW_pl hsj
                    have e := rdy_uniq (p := p) HX.out hx' HRD.out hrj (by unfold Wk.takes; rw [HXP.out]; omega) (by unfold Wk.takes; rw [hpj]; simp only []; omega)
                    subst e
                    rw [HX.out] at hx'
                    cases hx'
                    exact hs hsj]
                  rfl
                obtain ⟨rfl, rfl⟩ := M4'.out (matchTo_late hno hkl)
                clear hno
                go_wp2_with fail
                refine wp_region_class (fun w' => Below w7.heap.size w7 w') 10 (by kernel_rfl) (by kernel_rfl) (Below.refl _ w7).drew ?_
                simp only [List.take_succ_cons, List.take_zero, List.drop_succ_cons, List.drop_zero]
                refine quiet_moveV rfl _ rfl (.bool true) rfl ?_
                simp only [Act.put, List.setIfInBounds_toArray, List.set_cons_zero, List.set_cons_succ]
                refine quiet_still rfl (.bool false) (fun w _ => by go_simp) ?_
                simp only [Act.put, List.setIfInBounds_toArray, List.set_cons_zero, List.set_cons_succ]
                refine quiet_moveV rfl _ rfl (.bool false) rfl ?_
                simp only [Act.put, List.setIfInBounds_toArray, List.set_cons_zero, List.set_cons_succ]
                refine quietW_still (by kernel_rfl) (.pointer (some ⟨w.heap.size, 1, none⟩)) (fun w _ => by go_simp) ?_
                simp only [Act.put, List.setIfInBounds_toArray, List.set_cons_zero, List.set_cons_succ]
                refine quietW_load1 (by kernel_rfl) _ _ rfl ⟨w.heap.size, 1, none⟩ rfl (.slice (some ⟨wb, wo, none⟩) a.ws.length uc) (load_ws _ _) (fun _ h => (h.cell (p := ⟨w.heap.size, 1, none⟩) hwlt).trans CA7.out) ?_
                simp only [Act.put, List.setIfInBounds_toArray, List.set_cons_zero, List.set_cons_succ]
                refine quietW_moveV (by kernel_rfl) _ rfl (.int .i64 (i : Int)) rfl ?_
                simp only [Act.put, List.setIfInBounds_toArray, List.set_cons_zero, List.set_cons_succ]
                refine quietW_still (by kernel_rfl) (.pointer (some ⟨wb, wo + i * 3, none⟩)) (fun w _ => by go_simp) ?_
                simp only [Act.put, List.setIfInBounds_toArray, List.set_cons_zero, List.set_cons_succ]
                refine quietW_load_mid (by kernel_rfl) _ _ rfl wb (wo + i * 3) rfl [.int .i64 x.kd, .int .i64 x.pl, .string x.wd] _ (fun V h => range_below3 RA7.out hwb h) Try.underlying51 rfl (by kernel_rfl) ?_
                simp only [Act.put, List.setIfInBounds_toArray, List.set_cons_zero, List.set_cons_succ]
                refine quietW_load_mid (by kernel_rfl) _ _ rfl w6s 0 rfl [.int .i64 yk, .int .i64 (p : Int), .string yw] _ (fun V h => range_of_heap (hb_below h HY7.out hlt6)) Try.underlying51 rfl (by kernel_rfl) ?_
                simp only [Act.put, List.setIfInBounds_toArray, List.set_cons_zero, List.set_cons_succ]
                refine quietW_still (by kernel_rfl) (.bool true) (fun w _ => by have := he2; go_simp) ?_
                simp only [Act.put, List.setIfInBounds_toArray, List.set_cons_zero, List.set_cons_succ]
                unfold wpQuiet
                intro w8 hb
                have HBF := Lib.hid (show Below w.heap.size w w8 from HB4.out.trans ((HBR.out.trans ((HB67.out.trans (hb.mono (by omega))).mono (by omega))).mono (by omega)))
                clear hb
                go_wp2_with fail
                go_ret2
                exact ⟨_, rfl, HNIL.out _, HBF.out⟩
          · have j1 : ¬ (k : Int) < (b.ws.length : Int) := by omega
            have e : k = b.ws.length := by omega
            subst e
            obtain ⟨rfl, rfl⟩ := M5'.out l HML.out
            go_wp2_with fail
            go_ret2
            exact ⟨_, rfl, own_mono HOW.out (by have := HB3.out.size; omega), HB4.out.trans (HBR.out.mono (by have := HZ1.out; omega))⟩
    · obtain ⟨rfl, rfl⟩ := M2.out (by trivial) hzb
      have hz : (me == 0) = false := beq_eq_false_iff_ne.2 hzb
      go_wp2_with fail
      go_ret2
      exact ⟨_, rfl, HNIL.out _, HB3.out⟩
  · obtain ⟨rfl, rfl⟩ := M1.out hza
    have hz : (me == 0) = false := beq_eq_false_iff_ne.2 hza
    go_upto_region 2 with (first | (refine store_row rfl 65 (.tmp 6) (.tmp 17) rfl w1.heap.size cs.toArray rfl rfl 65 _ q2 HI.out HH.out HCO.out ?_; intro w2 h2 kk2 z2 b2))
    have hb2 := b2 w1.heap.size w1 (below_alloc w1 (.cells #[.int .i64 0, .slice none 0 0, .slice none 0 0, .int .i64 0, .int .i64 0, .int .i64 0, .int .i64 0, .int .i64 0, .int .i64 0, .int .i64 0, .int .i64 0, .int .i64 0, .int .i64 0, .int .i64 0, .int .i64 0, .int .i64 0, .int .i64 0, .int .i64 0, .int .i64 0, .int .i64 0, .int .i64 0, .int .i64 0, .int .i64 0, .int .i64 0, .int .i64 0, .int .i64 0, .int .i64 0] 65)) (Nat.le_refl _)
    have HB2 := Lib.hid (bon HB1.out hb2)
    clear q2 h2 kk2 z2 b2 hb2
    go_wp2_with fail
    go_ret2
    exact ⟨_, rfl, HNIL.out _, HB2.out⟩
end Go.Proofs.Ytcjbjlepgdggpaa
