/- The law of sheets beside each other. -/
import Derived.Test.YtcjbjlepgdggpaaTBE
import Derived.Test.YtcjbjlepgdggpaaTNC
import Derived.Test.YtcjbjlepgdggpaaTW
namespace Go.Proofs.Ytcjbjlepgdggpaa
open Go.RowKit Go.Shelf Go.Lib
set_option maxRecDepth 100000
set_option linter.unusedSimpArgs false
set_option linter.unusedVariables false
attribute [local irreducible] wpQuiet
theorem shW_next {A : Int} {V : List Wk} {j : Nat} {y : Wk} (h : V[j]? = some y) : shW A (V.take (j + 1)) = shW A (V.take j) ++ [⟨y.kd, y.pl + A, y.wd⟩] := by
  unfold shW
  rw [List.take_add_one, h]
  simp
theorem chk_beside {a b : Sh} (ha : chkS a = 0) (hb : chkS b = 0) (hp : a.pr + b.pr ≤ 24) (hl : a.ws.length + b.ws.length ≤ 12) : chkS ⟨a.pr + b.pr, a.ws ++ shW a.pr b.ws⟩ = 0 := by
  obtain ⟨a1, a2, a3, a4⟩ := chkS_ok ha
  obtain ⟨b1, b2, b3, b4⟩ := chkS_ok hb
  refine chkS_of hp (by simp only; omega) (by simp [shW]; omega) fun x hx => ?_
  have fit : ∀ {x : Wk} {p : Int}, x.fits p = true → 0 ≤ x.pl ∧ x.pl ≤ p - 2 ∧ (x.kd = 1 ∨ (x.kd = 2 ∧ x.wd.size = 0)) := fun {x p} h => by
    unfold Wk.fits at h
    simp only [Bool.and_eq_true, Bool.or_eq_true, decide_eq_true_eq] at h
    exact ⟨h.1.1, h.1.2, h.2⟩
  have mk : ∀ {x : Wk} {p : Int}, 0 ≤ x.pl → x.pl ≤ p - 2 → (x.kd = 1 ∨ (x.kd = 2 ∧ x.wd.size = 0)) → x.fits p = true := fun {x p} h1 h2 h3 => by
    unfold Wk.fits
    simp only [Bool.and_eq_true, Bool.or_eq_true, decide_eq_true_eq]
    exact ⟨⟨h1, h2⟩, h3⟩
  rcases List.mem_append.1 hx with q | q
  · obtain ⟨s1, s2, s3⟩ := a4 x q
    obtain ⟨f1, f2, f3⟩ := fit s2
    exact ⟨s1, mk f1 (by simp only; omega) f3, s3⟩
  · unfold shW at q
    obtain ⟨y, hy, rfl⟩ := List.mem_map.1 q
    obtain ⟨s1, s2, s3⟩ := b4 y hy
    obtain ⟨f1, f2, f3⟩ := fit s2
    exact ⟨s1, mk (by simp only; omega) (by simp only; omega) f3, s3⟩
/-- The calls of the law of sheets beside each other. -/
structure ExB (a b : Sh) (N M : Nat) : Prop where
  n1 : 1 ≤ N ∧ N ≤ 479001600
  m1 : 1 ≤ M ∧ M ≤ 479001600
  t1 : ch (a.ws.length + b.ws.length) b.ws.length * (N * M) ≤ 479001600
  oa : ∀ (u : Value) (W : World), WS W u a.ws → Calls Try.prog 26 #[.agg #[.int .i64 a.pr, u]] W fun e w' => e = .returned (.tuple #[.int .i64 (N : Int), .int .i64 0]) ∧ Below W.heap.size W w'
  ob : ∀ (u : Value) (W : World), WS W u b.ws → Calls Try.prog 26 #[.agg #[.int .i64 b.pr, u]] W fun e w' => e = .returned (.tuple #[.int .i64 (M : Int), .int .i64 0]) ∧ Below W.heap.size W w'
  os : ∀ (u : Value) (W : World), WS W u (a.ws ++ shW a.pr b.ws) → Calls Try.prog 26 #[.agg #[.int .i64 (a.pr + b.pr), u]] W fun e w' => e = .returned (.tuple #[.int .i64 ((ch (a.ws.length + b.ws.length) b.ws.length * (N * M) : Nat) : Int), .int .i64 0]) ∧ Below W.heap.size W w'
theorem exB {a b : Sh} (ha : chkS a = 0) (hb : chkS b = 0) (hp : a.pr + b.pr ≤ 24) (hl : a.ws.length + b.ws.length ≤ 12) : ExB a b (nOrd a.ws) (nOrd b.ws) := by
  have hs := chk_beside ha hb hp hl
  have ls : (a.ws ++ shW a.pr b.ws).length ≤ 12 := by simp [shW]; omega
  have e := nOrd_beside (W := a.ws) (V := b.ws) (A := a.pr) (fun x hx => (chk_fits ha x hx).2) (fun x hx => (chk_fits hb x hx).1)
  obtain ⟨a1, a2⟩ := ord_of ha (by omega)
  obtain ⟨b1, b2⟩ := ord_of hb (by omega)
  obtain ⟨s1, s2⟩ := ord_of hs ls
  refine ⟨⟨nOrd_pos _, nOrd_le (by omega)⟩, ⟨nOrd_pos _, nOrd_le (by omega)⟩, by rw [← e]; exact nOrd_le ls, fun u W hu => ?_, fun u W hu => ?_, fun u W hu => ?_⟩
  · have h := Orders_any a _ W ⟨u, rfl, hu⟩
    rw [a1, a2] at h
    exact h
  · have h := Orders_any b _ W ⟨u, rfl, hu⟩
    rw [b1, b2] at h
    exact h
  · have h := Orders_any ⟨a.pr + b.pr, a.ws ++ shW a.pr b.ws⟩ _ W ⟨u, rfl, hu⟩
    rw [s1, s2] at h
    simp only at h
    rw [e] at h
    exact h
theorem ch_step {n i : Nat} (hi : 1 ≤ i) : ch (n + (i - 1)) (i - 1) * (n + i) / i = ch (n + i) i := by
  obtain ⟨k, rfl⟩ : ∃ k, i = k + 1 := ⟨i - 1, by omega⟩
  rw [Nat.add_sub_cancel]
  have h := ch_mul (n + k) k
  rw [show n + (k + 1) = n + k + 1 by omega, Nat.mul_comm (ch (n + k) k), ← h, Nat.mul_div_cancel _ (by omega)]
/-- append(v, x), x a work, with what other blocks keep. -/
theorem app_wkG {ops : Array Oper} {rest : List Oper} {o : Oper} {a : Act} {Q : Exit → Act → World → Prop} {w w0 : World} (B : Nat) (v : Value) (W : List Wk) (x : Wk)
    (hgd : o.guard = none) (s y : Operand) (ho : o.op = .call { callee := .builtin .append, args := #[s, y], argTypes := #[22, 22] }) (hs : a.eval s = v)
    (hown : WO B w v W) (hy : a.eval y = .slice (some ⟨w.heap.size, 0, none⟩) 1 1) (hl : W.length < 100000) (hb : Below B w0 w) (hB : B ≤ w.heap.size)
    (h : ∀ v' w', WO B w' v' (W ++ [x]) → Below B w0 w' → (∀ (k : Nat) (vs : Array Value), w.heap[k]? = some (.cells vs 24 (0, 0)) → w'.heap[k]? = some (.cells vs 24 (0, 0))) → wpList Try.prog ops Q rest (a.put o.dst v') w') :
    wpList Try.prog ops Q (o :: rest) a (w.alloc (.cells #[.int .i64 x.kd, .int .i64 x.pl, .string x.wd] 51)) := by
  obtain ⟨i0, hi, hz0, hz1, hz2⟩ := info_parts infoWk3
  refine wpList_append_own _ hgd s y 22 ho B 51 i0 (.agg #[.int .i64 0, .int .i64 0, .string ⟨#[]⟩]) 3 32 Try.underlying22 hi hz0 hz1 hz2 rfl (by decide) v _ _ hs (hown.alloc _) ⟨w.heap.size, 0, none⟩ 1 1 (wl x) hy rfl ?_ ?_ (by unfold maxLen; omega) (by omega) (by simp; omega) ?_
  · intro j u hu
    have hj := (List.getElem?_eq_some_iff.1 hu).1
    rw [wl_len] at hj
    rw [Addr.add_mid, Nat.zero_add, World.cell?_alloc_new, ← Array.getElem?_toList]
    exact hu
  · intro u hu
    exact wfl_one [x] u (by simpa [wfl] using hu)
  · intro v' w' hown' hgrow _
    refine h v' w' ?_ (Below.grown (hb.alloc hB _) hgrow (by simp; omega) fun k e => (hown.lt k e).1) fun k vs hk => ?_
    · unfold WO
      rw [wfl_app, List.length_append, List.length_singleton]
      simpa [wfl] using hown'
    · have hlt := (Array.getElem?_eq_some_iff.1 hk).1
      have hk' := (Below.heap_alloc w (.cells #[.int .i64 x.kd, .int .i64 x.pl, .string x.wd] 51) k hlt).trans hk
      rw [hgrow.block k (Array.getElem?_eq_some_iff.1 hk').1 fun e => ?_]
      · exact hk'
      · rcases hown.2 with ⟨rfl, _⟩ | ⟨g2, cap, cur, rfl, _, hg2, _⟩
        · cases e
        · have e2 : k = g2 := by injection e
          subst e2
          rw [hk] at hg2
          cases hg2
set_option maxHeartbeats 16000000 in
theorem beside_law (a b : Sh) (ua va : Option Addr) (uc vc : Nat) (w : World) (hu : WS w (.slice ua a.ws.length uc) a.ws) (h0 : ua = none → uc = 0) (hv : WS w (.slice va b.ws.length vc) b.ws) (hwa : -9223372036854775808 ≤ a.pr ∧ a.pr ≤ 9223372036854775807) (hwb : -9223372036854775808 ≤ b.pr ∧ b.pr ≤ 9223372036854775807) :
    Calls Try.prog 12 #[.agg #[.int .i64 a.pr, .slice ua a.ws.length uc], .agg #[.int .i64 b.pr, .slice va b.ws.length vc]] w fun e w' => e = .returned (.bool true) ∧ Below w.heap.size w w' := by
  have HU := Lib.hid hu
  have HV := Lib.hid hv
  have HV0 := Lib.hid hv
  have HC0 := Lib.hid (show ∀ n c, Value.slice ua a.ws.length uc = .slice none n c → c = 0 from fun n c e => by cases e; exact h0 rfl)
  have HWD := Lib.hid hu.sizes
  have HWE := Lib.hid hv.sizes
  have CA := Lib.hid (fun W => awake_any W)
  have CK := Lib.hid (fun W h => refCheck4_any a (.agg #[.int .i64 a.pr, .slice ua a.ws.length uc]) W h)
  have CL := Lib.hid (fun W h => refCheck4_any b (.agg #[.int .i64 b.pr, .slice va b.ws.length vc]) W h)
  have HEX := Lib.hid (@exB a b)
  have HPA := Lib.hid (@chkS_ok a)
  have HPB := Lib.hid (@chkS_ok b)
  have HFB := Lib.hid (@chk_fits b)
  have hl4 : a.ws.length ≤ maxLen ∧ b.ws.length ≤ maxLen := by
    obtain ⟨_, _, e1, q1, q2, _⟩ := hu
    obtain ⟨_, _, e2, q3, q4, _⟩ := hv
    injection e1 with e11 e12 e13
    injection e2 with e21 e22 e23
    exact ⟨by omega, by omega⟩
  clear hu hv h0
  go_enter Try.func12, Try.ntmps12
  go_wp2_with fail
  have B0 : Below w.heap.size w ((w.alloc (.cells #[.int .i64 a.pr, .slice ua a.ws.length uc] 24)).alloc (.cells #[.int .i64 b.pr, .slice va b.ws.length vc] 24)) := (below_alloc _ _).alloc (by simp) _
  have i0 := heap_alloc2_old w (.cells #[.int .i64 a.pr, .slice ua a.ws.length uc] 24) (.cells #[.int .i64 b.pr, .slice va b.ws.length vc] 24)
  have i1 := heap_alloc2_new w (.cells #[.int .i64 a.pr, .slice ua a.ws.length uc] 24) (.cells #[.int .i64 b.pr, .slice va b.ws.length vc] 24)
  have hz0 : w.heap.size + 2 ≤ ((w.alloc (.cells #[.int .i64 a.pr, .slice ua a.ws.length uc] 24)).alloc (.cells #[.int .i64 b.pr, .slice va b.ws.length vc] 24)).heap.size := by simp
  generalize (w.alloc (.cells #[.int .i64 a.pr, .slice ua a.ws.length uc] 24)).alloc (.cells #[.int .i64 b.pr, .slice va b.ws.length vc] 24) = w0 at *
  have HB := Lib.hid B0
  have HA := Lib.hid (show w0.heap[w.heap.size]? = some (.cells #[.int .i64 a.pr, .slice ua a.ws.length uc] 24 (0, 0)) from i0)
  have HBB := Lib.hid (show w0.heap[(w.heap.size + 1)]? = some (.cells #[.int .i64 b.pr, .slice va b.ws.length vc] 24 (0, 0)) from i1)
  clear i0 i1 B0
  have cA0 : w0.cell? ⟨w.heap.size, 0, none⟩ = some (.int .i64 a.pr) := cell_of_row w0 _ 0 _ _ _ HA.out
  have cA1 : w0.cell? ⟨w.heap.size, 1, none⟩ = some (.slice ua a.ws.length uc) := cell_of_row w0 _ 1 _ _ _ HA.out
  have cBB0 : w0.cell? ⟨(w.heap.size + 1), 0, none⟩ = some (.int .i64 b.pr) := cell_of_row w0 _ 0 _ _ _ HBB.out
  have cBB1 : w0.cell? ⟨(w.heap.size + 1), 1, none⟩ = some (.slice va b.ws.length vc) := cell_of_row w0 _ 1 _ _ _ HBB.out
  replace HU := Lib.hid (HU.out.below HB.out)
  replace HV := Lib.hid (HV.out.below HB.out)
  refine (CK.out w0 ⟨_, rfl, HU.out⟩).mono ?_
  rintro e w1 ⟨rfl, b1⟩
  replace HA := Lib.hid (hb_below b1 HA.out (by omega))
  replace HBB := Lib.hid (hb_below b1 HBB.out (by omega))
  have hzw1 : w0.heap.size ≤ w1.heap.size := b1.size
  replace HU := Lib.hid (HU.out.below b1)
  replace HV := Lib.hid (HV.out.below b1)
  replace HB := Lib.hid (bon HB.out b1)
  clear b1
  clear cA0 cA1 cBB0 cBB1
  have cA0 : w1.cell? ⟨w.heap.size, 0, none⟩ = some (.int .i64 a.pr) := cell_of_row w1 _ 0 _ _ _ HA.out
  have cA1 : w1.cell? ⟨w.heap.size, 1, none⟩ = some (.slice ua a.ws.length uc) := cell_of_row w1 _ 1 _ _ _ HA.out
  have cBB0 : w1.cell? ⟨(w.heap.size + 1), 0, none⟩ = some (.int .i64 b.pr) := cell_of_row w1 _ 0 _ _ _ HBB.out
  have cBB1 : w1.cell? ⟨(w.heap.size + 1), 1, none⟩ = some (.slice va b.ws.length vc) := cell_of_row w1 _ 1 _ _ _ HBB.out
  by_cases hck : chkS a = 0
  · have hck' : (chkS a == 0) = true := beq_iff_eq.2 hck
    go_wp2_with fail
    refine (CL.out w1 ⟨_, rfl, HV.out⟩).mono ?_
    rintro e w2 ⟨rfl, b2⟩
    replace HA := Lib.hid (hb_below b2 HA.out (by omega))
    replace HBB := Lib.hid (hb_below b2 HBB.out (by omega))
    have hzw2 : w1.heap.size ≤ w2.heap.size := b2.size
    replace HU := Lib.hid (HU.out.below b2)
    replace HV := Lib.hid (HV.out.below b2)
    replace HB := Lib.hid (bon HB.out b2)
    clear b2
    clear cA0 cA1 cBB0 cBB1
    have cA0 : w2.cell? ⟨w.heap.size, 0, none⟩ = some (.int .i64 a.pr) := cell_of_row w2 _ 0 _ _ _ HA.out
    have cA1 : w2.cell? ⟨w.heap.size, 1, none⟩ = some (.slice ua a.ws.length uc) := cell_of_row w2 _ 1 _ _ _ HA.out
    have cBB0 : w2.cell? ⟨(w.heap.size + 1), 0, none⟩ = some (.int .i64 b.pr) := cell_of_row w2 _ 0 _ _ _ HBB.out
    have cBB1 : w2.cell? ⟨(w.heap.size + 1), 1, none⟩ = some (.slice va b.ws.length vc) := cell_of_row w2 _ 1 _ _ _ HBB.out
    by_cases hcb : chkS b = 0
    · have hcb' : (chkS b == 0) = true := beq_iff_eq.2 hcb
      have pa := HPA.out hck
      have pb := HPB.out hcb
      have pa1 := pa.1
      have pa2 := pa.2.1
      have pa3 := pa.2.2.1
      have pb1 := pb.1
      have pb2 := pb.2.1
      have pb3 := pb.2.2.1
      clear pa pb
      by_cases hn12 : a.ws.length + b.ws.length ≤ 12
      · have k1 : ¬ (12 : Int) < (a.ws.length : Int) + (b.ws.length : Int) := by omega
        by_cases hp24 : a.pr + b.pr ≤ 24
        · have k2 : ¬ (24 : Int) < a.pr + b.pr := by omega
          have HX := Lib.hid (HEX.out hck hcb hp24 hn12)
          generalize nOrd a.ws = N at *
          generalize nOrd b.ws = M at *
          have HFX := Lib.hid (HFB.out hcb)
          have HPQ := Lib.hid (show IntKind.i64.wrap (a.pr + b.pr) = a.pr + b.pr from IntWalk.i64_in _ (by omega))
          go_upto_region 3 with fail
          clear k1 k2 hck' hcb'
          go_cut [5] from 43 to 52 (fun t wc => ∃ (bx : Nat) (v : Value), t = .pointer (some ⟨bx, 0, none⟩) ∧ w2.heap.size ≤ bx ∧ wc.heap[bx]? = some (.cells #[.int .i64 (a.pr + b.pr), v] 24 (0, 0)) ∧ WO w2.heap.size wc v a.ws ∧ Below w2.heap.size w2 wc)
          case first =>
            refine wp_region_held (S := fun V => Below w2.heap.size w2 V) (by kernel_rfl) ?_
            have D0 : Below w2.heap.size w2 ({ w2 with drawn := w2.drawn + 1 }) := (Below.refl _ w2).drew
            have hD0 : ({ w2 with drawn := w2.drawn + 1 } : World).heap.size = w2.heap.size := rfl
            generalize ({ w2 with drawn := w2.drawn + 1 } : World) = WD at *
            refine held_takeX (i := 0) rfl (by kernel_rfl) (by kernel_rfl) (by kernel_rfl) (.pointer (some ⟨w.heap.size, 0, none⟩)) (fun _ _ _ h => h) D0 rfl (fun w _ => by go_simp) ?_
            simp only [Act.put, List.getElem_toArray, List.getElem_cons_succ, List.getElem_cons_zero, List.setIfInBounds_toArray, List.set_cons_zero, List.set_cons_succ]
            refine held_loadX (i := 1) rfl (by kernel_rfl) (by kernel_rfl) (by kernel_rfl) (.int .i64 a.pr) (fun _ _ _ h => h) D0 rfl _ _ rfl ⟨w.heap.size, 0, none⟩ rfl (fun w' h => load_int _ _ _ h) (fun V h => (h.cell (p := ⟨w.heap.size, 0, none⟩) (by simp; omega)).trans cA0) ?_
            simp only [Act.put, List.getElem_toArray, List.getElem_cons_succ, List.getElem_cons_zero, List.setIfInBounds_toArray, List.set_cons_zero, List.set_cons_succ]
            refine held_takeX (i := 2) rfl (by kernel_rfl) (by kernel_rfl) (by kernel_rfl) (.pointer (some ⟨w.heap.size + 1, 0, none⟩)) (fun _ _ _ h => h) D0 rfl (fun w _ => by go_simp) ?_
            simp only [Act.put, List.getElem_toArray, List.getElem_cons_succ, List.getElem_cons_zero, List.setIfInBounds_toArray, List.set_cons_zero, List.set_cons_succ]
            refine held_loadX (i := 3) rfl (by kernel_rfl) (by kernel_rfl) (by kernel_rfl) (.int .i64 b.pr) (fun _ _ _ h => h) D0 rfl _ _ rfl ⟨w.heap.size + 1, 0, none⟩ rfl (fun w' h => load_int _ _ _ h) (fun V h => (h.cell (p := ⟨w.heap.size + 1, 0, none⟩) (by simp; omega)).trans cBB0) ?_
            simp only [Act.put, List.getElem_toArray, List.getElem_cons_succ, List.getElem_cons_zero, List.setIfInBounds_toArray, List.set_cons_zero, List.set_cons_succ]
            refine held_takeX (i := 4) rfl (by kernel_rfl) (by kernel_rfl) (by kernel_rfl) (.int .i64 (a.pr + b.pr)) (fun _ _ _ h => h) D0 rfl (fun w _ => by have := HPQ.out; go_simp) ?_
            simp only [Act.put, List.getElem_toArray, List.getElem_cons_succ, List.getElem_cons_zero, List.setIfInBounds_toArray, List.set_cons_zero, List.set_cons_succ]
            refine held_takeX (i := 6) rfl (by kernel_rfl) (by kernel_rfl) (by kernel_rfl) (.pointer (some ⟨w.heap.size, 1, none⟩)) (fun _ _ _ h => h) D0 rfl (fun w _ => by go_simp) ?_
            simp only [Act.put, List.getElem_toArray, List.getElem_cons_succ, List.getElem_cons_zero, List.setIfInBounds_toArray, List.set_cons_zero, List.set_cons_succ]
            refine held_loadX (i := 7) rfl (by kernel_rfl) (by kernel_rfl) (by kernel_rfl) (.slice ua a.ws.length uc) (fun _ _ _ h => h) D0 rfl _ _ rfl ⟨w.heap.size, 1, none⟩ rfl (fun w' h => load_ws _ _ _ h) (fun V h => (h.cell (p := ⟨w.heap.size, 1, none⟩) (by simp; omega)).trans cA1) ?_
            simp only [Act.put, List.getElem_toArray, List.getElem_cons_succ, List.getElem_cons_zero, List.setIfInBounds_toArray, List.set_cons_zero, List.set_cons_succ]
            have hWD : w2.heap.size ≤ WD.heap.size := by omega
            refine wpAnyH_all (rs := [5, 10]) (by kernel_rfl) (by simp) fun jj hjj => ?_
            rcases (by simpa using hjj : jj = 5 ∨ jj = 10) with rfl | rfl
            · refine op_runX (i := 5) rfl rfl (.slice (some ⟨WD.heap.size, 0, none⟩) 0 0) (WD.alloc (.cells #[] 51)) (by go_simp) ⟨D0.alloc hWD _, ?_⟩
              simp only [Act.put, List.getElem_toArray, List.getElem_cons_succ, List.getElem_cons_zero, List.setIfInBounds_toArray, List.set_cons_zero, List.set_cons_succ]
              have Dqw1 := D0.alloc hWD (.cells #[] 51)
              have hnqw1 := heap_alloc_new WD (.cells #[] 51)
              have hbqw1 := below_alloc WD (.cells #[] 51)
              have hzqw1 : WD.heap.size < (WD.alloc (.cells #[] 51)).heap.size := by simp
              generalize WD.alloc (.cells #[] 51) = qw1 at *
              refine wpAnyH_all (rs := [8, 10]) (by kernel_rfl) (by simp) fun jj hjj => ?_
              rcases (by simpa using hjj : jj = 8 ∨ jj = 10) with rfl | rfl
              · refine op_wp (i := 8) rfl rfl (wp_dup (w0 := w2) w2.heap.size a.ws _ _ rfl WD.heap.size rfl hnqw1 (by omega) _ rfl Dqw1 (fun hb => HU.out.below hb) HC0.out (by omega) ?_)
                intro v6 qw6 O6 B6 K6 hz6
                obtain ⟨a6, c6, e6⟩ := own_form O6.out
                subst e6
                refine ⟨B6.out, ?_⟩
                simp only [Act.put, List.getElem_toArray, List.getElem_cons_succ, List.getElem_cons_zero, List.setIfInBounds_toArray, List.set_cons_zero, List.set_cons_succ]
                refine held_takeX (i := 9) rfl (by kernel_rfl) (by kernel_rfl) (by kernel_rfl) (.agg #[.int .i64 (a.pr + b.pr), .slice a6 a.ws.length c6]) (fun _ _ _ h => h) B6.out rfl (fun w _ => by go_simp) ?_
                simp only [Act.put, List.getElem_toArray, List.getElem_cons_succ, List.getElem_cons_zero, List.setIfInBounds_toArray, List.set_cons_zero, List.set_cons_succ]
                refine held_runY (i := 10) (by kernel_rfl) rfl rfl (.pointer (some ⟨qw6.heap.size, 0, none⟩)) (qw6.alloc (.cells #[.int .i64 0, .slice none 0 0] 24)) (by go_simp) (B6.out.alloc (by omega) _) ?_
                simp only [Act.put, List.getElem_toArray, List.getElem_cons_succ, List.getElem_cons_zero, List.setIfInBounds_toArray, List.set_cons_zero, List.set_cons_succ]
                have Dqw7 := B6.out.alloc (by omega) (.cells #[.int .i64 0, .slice none 0 0] 24)
                have hnqw7 := heap_alloc_new qw6 (.cells #[.int .i64 0, .slice none 0 0] 24)
                have hbqw7 := below_alloc qw6 (.cells #[.int .i64 0, .slice none 0 0] 24)
                have hzqw7 : qw6.heap.size < (qw6.alloc (.cells #[.int .i64 0, .slice none 0 0] 24)).heap.size := by simp
                generalize qw6.alloc (.cells #[.int .i64 0, .slice none 0 0] 24) = qw7 at *
                refine held_storeRow (i := 11) (by kernel_rfl) rfl rfl _ _ _ rfl (qw6.heap.size) _ rfl rfl _ _ (hnqw7) infoSh2 rfl (by kernel_rfl) ?_
                intro wF hF1 hF2 hF3 hF4
                refine ⟨hF4 _ _ Dqw7 (by omega), ?_⟩
                simp only [Act.put, List.getElem_toArray, List.getElem_cons_succ, List.getElem_cons_zero, List.setIfInBounds_toArray, List.set_cons_zero, List.set_cons_succ]
                refine wpAnyH_done (by kernel_rfl) ?_ _
                go_wp2_with fail
                go_meet
                exact ⟨qw6.heap.size, _, rfl, by omega, hF1, (wo_other (WO.below O6.out hbqw7) (hnqw7) hF2), hF4 _ _ Dqw7 (by omega)⟩
              · refine op_runX (i := 10) rfl rfl (.pointer (some ⟨qw1.heap.size, 0, none⟩)) (qw1.alloc (.cells #[.int .i64 0, .slice none 0 0] 24)) (by go_simp) ⟨Dqw1.alloc (by omega) _, ?_⟩
                simp only [Act.put, List.getElem_toArray, List.getElem_cons_succ, List.getElem_cons_zero, List.setIfInBounds_toArray, List.set_cons_zero, List.set_cons_succ]
                have Dqw2 := Dqw1.alloc (by omega) (.cells #[.int .i64 0, .slice none 0 0] 24)
                have hnqw2 := heap_alloc_new qw1 (.cells #[.int .i64 0, .slice none 0 0] 24)
                have hbqw2 := below_alloc qw1 (.cells #[.int .i64 0, .slice none 0 0] 24)
                have hzqw2 : qw1.heap.size < (qw1.alloc (.cells #[.int .i64 0, .slice none 0 0] 24)).heap.size := by simp
                generalize qw1.alloc (.cells #[.int .i64 0, .slice none 0 0] 24) = qw2 at *
                have hl2 := (hbqw2.block WD.heap.size hzqw1).trans hnqw1
                refine wpAnyH_all (rs := [8]) (by kernel_rfl) (by simp) fun jj hjj => ?_
                obtain rfl : jj = 8 := by simpa using hjj
                refine op_wp (i := 8) rfl rfl (wp_dup (w0 := w2) w2.heap.size a.ws _ _ rfl WD.heap.size rfl hl2 (by omega) _ rfl Dqw2 (fun hb => HU.out.below hb) HC0.out (by omega) ?_)
                intro v6 qw6 O6 B6 K6 hz6
                obtain ⟨a6, c6, e6⟩ := own_form O6.out
                subst e6
                refine ⟨B6.out, ?_⟩
                simp only [Act.put, List.getElem_toArray, List.getElem_cons_succ, List.getElem_cons_zero, List.setIfInBounds_toArray, List.set_cons_zero, List.set_cons_succ]
                refine held_takeX (i := 9) rfl (by kernel_rfl) (by kernel_rfl) (by kernel_rfl) (.agg #[.int .i64 (a.pr + b.pr), .slice a6 a.ws.length c6]) (fun _ _ _ h => h) B6.out rfl (fun w _ => by go_simp) ?_
                simp only [Act.put, List.getElem_toArray, List.getElem_cons_succ, List.getElem_cons_zero, List.setIfInBounds_toArray, List.set_cons_zero, List.set_cons_succ]
                refine held_storeRow (i := 11) (by kernel_rfl) rfl rfl _ _ _ rfl (qw1.heap.size) _ rfl rfl _ _ (K6.out _ _ hnqw2 (by omega)) infoSh2 rfl (by kernel_rfl) ?_
                intro wF hF1 hF2 hF3 hF4
                refine ⟨hF4 _ _ B6.out (by omega), ?_⟩
                simp only [Act.put, List.getElem_toArray, List.getElem_cons_succ, List.getElem_cons_zero, List.setIfInBounds_toArray, List.set_cons_zero, List.set_cons_succ]
                refine wpAnyH_done (by kernel_rfl) ?_ _
                go_wp2_with fail
                go_meet
                exact ⟨qw1.heap.size, _, rfl, by omega, hF1, (wo_other O6.out (K6.out _ _ hnqw2 (by omega)) hF2), hF4 _ _ B6.out (by omega)⟩
            · refine op_runX (i := 10) rfl rfl (.pointer (some ⟨WD.heap.size, 0, none⟩)) (WD.alloc (.cells #[.int .i64 0, .slice none 0 0] 24)) (by go_simp) ⟨D0.alloc hWD _, ?_⟩
              simp only [Act.put, List.getElem_toArray, List.getElem_cons_succ, List.getElem_cons_zero, List.setIfInBounds_toArray, List.set_cons_zero, List.set_cons_succ]
              have Dqw1 := D0.alloc hWD (.cells #[.int .i64 0, .slice none 0 0] 24)
              have hnqw1 := heap_alloc_new WD (.cells #[.int .i64 0, .slice none 0 0] 24)
              have hbqw1 := below_alloc WD (.cells #[.int .i64 0, .slice none 0 0] 24)
              have hzqw1 : WD.heap.size < (WD.alloc (.cells #[.int .i64 0, .slice none 0 0] 24)).heap.size := by simp
              generalize WD.alloc (.cells #[.int .i64 0, .slice none 0 0] 24) = qw1 at *
              refine held_runY (i := 5) (by kernel_rfl) rfl rfl (.slice (some ⟨qw1.heap.size, 0, none⟩) 0 0) (qw1.alloc (.cells #[] 51)) (by go_simp) (Dqw1.alloc (by omega) _) ?_
              simp only [Act.put, List.getElem_toArray, List.getElem_cons_succ, List.getElem_cons_zero, List.setIfInBounds_toArray, List.set_cons_zero, List.set_cons_succ]
              have Dqw2 := Dqw1.alloc (by omega) (.cells #[] 51)
              have hnqw2 := heap_alloc_new qw1 (.cells #[] 51)
              have hbqw2 := below_alloc qw1 (.cells #[] 51)
              have hzqw2 : qw1.heap.size < (qw1.alloc (.cells #[] 51)).heap.size := by simp
              generalize qw1.alloc (.cells #[] 51) = qw2 at *
              have hx2 := (hbqw2.block WD.heap.size hzqw1).trans hnqw1
              refine wpAnyH_all (rs := [8]) (by kernel_rfl) (by simp) fun jj hjj => ?_
              obtain rfl : jj = 8 := by simpa using hjj
              refine op_wp (i := 8) rfl rfl (wp_dup (w0 := w2) w2.heap.size a.ws _ _ rfl qw1.heap.size rfl hnqw2 (by omega) _ rfl Dqw2 (fun hb => HU.out.below hb) HC0.out (by omega) ?_)
              intro v6 qw6 O6 B6 K6 hz6
              obtain ⟨a6, c6, e6⟩ := own_form O6.out
              subst e6
              refine ⟨B6.out, ?_⟩
              simp only [Act.put, List.getElem_toArray, List.getElem_cons_succ, List.getElem_cons_zero, List.setIfInBounds_toArray, List.set_cons_zero, List.set_cons_succ]
              refine held_takeX (i := 9) rfl (by kernel_rfl) (by kernel_rfl) (by kernel_rfl) (.agg #[.int .i64 (a.pr + b.pr), .slice a6 a.ws.length c6]) (fun _ _ _ h => h) B6.out rfl (fun w _ => by go_simp) ?_
              simp only [Act.put, List.getElem_toArray, List.getElem_cons_succ, List.getElem_cons_zero, List.setIfInBounds_toArray, List.set_cons_zero, List.set_cons_succ]
              refine held_storeRow (i := 11) (by kernel_rfl) rfl rfl _ _ _ rfl (WD.heap.size) _ rfl rfl _ _ (K6.out _ _ hx2 (by omega)) infoSh2 rfl (by kernel_rfl) ?_
              intro wF hF1 hF2 hF3 hF4
              refine ⟨hF4 _ _ B6.out (by omega), ?_⟩
              simp only [Act.put, List.getElem_toArray, List.getElem_cons_succ, List.getElem_cons_zero, List.setIfInBounds_toArray, List.set_cons_zero, List.set_cons_succ]
              refine wpAnyH_done (by kernel_rfl) ?_ _
              go_wp2_with fail
              go_meet
              exact ⟨WD.heap.size, _, rfl, by omega, hF1, (wo_other O6.out (K6.out _ _ hx2 (by omega)) hF2), hF4 _ _ B6.out (by omega)⟩
          case rest =>
            obtain ⟨bx, xv, rfl, hbx, hxb, hwo, b3⟩ := hcut
            rename World => w3
            have HXB := Lib.hid hxb
            have HWO := Lib.hid hwo
            have hbx3 : bx < w3.heap.size := (Array.getElem?_eq_some_iff.1 hxb).1
            have HB23 := Lib.hid b3
            have HB2 := Lib.hid HB.out
            have HA2 := Lib.hid HA.out
            have HBB2 := Lib.hid HBB.out
            have HU2 := Lib.hid HU.out
            clear hxb hwo b3 HU HV HA HBB HB cA0 cA1 cBB0 cBB1
            have hz2 : w.heap.size + 2 ≤ w2.heap.size := by omega
            have cBB1 : w3.cell? ⟨w.heap.size + 1, 1, none⟩ = some (.slice va b.ws.length vc) := cell_of_row w3 _ 1 _ _ _ (hb_below HB23.out HBB2.out (by omega))
            go_upto_region 5 with fail
            clear cBB1
            go_loopw [6, 7] (fun iv _ wr => ∃ (j : Nat) (xv : Value), j ≤ b.ws.length ∧ iv = .int .i64 (j : Int) ∧ wr.heap[bx]? = some (.cells #[.int .i64 (a.pr + b.pr), xv] 24 (0, 0)) ∧ WO w2.heap.size wr xv (a.ws ++ shW a.pr (b.ws.take j)) ∧ Below w2.heap.size w2 wr) (fun iv _ _ => b.ws.length - (intOf iv).toNat)
            case atStart => exact ⟨0, xv, Nat.zero_le _, rfl, HXB.out, by rw [List.take_zero, show shW a.pr [] = [] from rfl, List.append_nil]; exact HWO.out, HB23.out⟩
            case round =>
              obtain ⟨j, xv, hj, rfl, hxb, hwo, hbr⟩ := hrel
              rename World => wr
              have hll : (a.ws ++ shW a.pr (b.ws.take j)).length < 1000 := by simp [shW]; omega
              generalize hLe : a.ws ++ shW a.pr (b.ws.take j) = L at *
              have HLE := Lib.hid hLe
              clear hLe
              obtain ⟨xa, xc, rfl⟩ := own_form hwo
              clear HXB HWO HB23
              have HXB := Lib.hid hxb
              have HWO := Lib.hid hwo
              have HBR := Lib.hid hbr
              have hzr := hbr.size
              have hbxr : bx < wr.heap.size := (Array.getElem?_eq_some_iff.1 hxb).1
              clear hxb hwo hbr
              have cBB1 : wr.cell? ⟨w.heap.size + 1, 1, none⟩ = some (.slice va b.ws.length vc) := cell_of_row wr _ 1 _ _ _ (hb_below HBR.out HBB2.out (by omega))
              by_cases hjl : j < b.ws.length
              · have j0 : (0 : Int) ≤ (j : Int) := by omega
                have j1 : (j : Int) < (b.ws.length : Int) := by omega
                obtain ⟨y, hy⟩ : ∃ y, b.ws[j]? = some y := ⟨_, List.getElem?_eq_getElem hjl⟩
                obtain ⟨vb, vo, rfl, hvb, hr0⟩ := ws_get HV0.out hy
                have HBW := Lib.hid (HB2.out.trans (HBR.out.mono (by omega)))
                have hr := range_below3 hr0 hvb HBW.out
                have HNX := Lib.hid (show a.ws ++ shW a.pr (b.ws.take (j + 1)) = L ++ [⟨y.kd, y.pl + a.pr, y.wd⟩] by rw [shW_next hy, ← List.append_assoc, HLE.out])
                have hfy := HFX.out y (List.mem_of_getElem? hy)
                have hys := HWE.out y (List.mem_of_getElem? hy)
                have HS1 := Lib.hid (show IntKind.i64.wrap (y.pl + a.pr) = y.pl + a.pr from IntWalk.i64_in _ (by omega))
                have cA0 : wr.cell? ⟨w.heap.size, 0, none⟩ = some (.int .i64 a.pr) := cell_of_row wr _ 0 _ _ _ (hb_below HBR.out HA2.out (by omega))
                have y0 := hr 0 _ rfl
                have y1 := hr 1 _ rfl
                have y2 := hr 2 _ rfl
                rw [Nat.add_zero] at y0
                clear hr hr0 hy
                go_upto_region 8 with fail
                have b4 := below_alloc wr (.cells #[.int .i64 y.kd, .int .i64 y.pl, .string y.wd] 51)
                have i4 := heap_alloc_new wr (.cells #[.int .i64 y.kd, .int .i64 y.pl, .string y.wd] 51)
                have hz4 : wr.heap.size < (wr.alloc (.cells #[.int .i64 y.kd, .int .i64 y.pl, .string y.wd] 51)).heap.size := by simp
                generalize wr.alloc (.cells #[.int .i64 y.kd, .int .i64 y.pl, .string y.wd] 51) = w4 at *
                have cA0' : w4.cell? ⟨w.heap.size, 0, none⟩ = some (.int .i64 a.pr) := (b4.cell (p := ⟨w.heap.size, 0, none⟩) (by simp; omega)).trans cA0
                have x1 : w4.cell? ⟨wr.heap.size, 1, none⟩ = some (.int .i64 y.pl) := cell_of_row w4 _ 1 _ _ _ i4
                have f1 : w4.frozen? ⟨wr.heap.size, 1, none⟩ = false := frozen_of_row w4 _ 1 _ _ i4
                have hs1 := HS1.out
                have b5 : Below wr.heap.size wr (w4.setCell ⟨wr.heap.size, 1, none⟩ (.int .i64 (y.pl + a.pr))) := b4.setCell (p := ⟨wr.heap.size, 1, none⟩) (Nat.le_refl _) _
                have i5 : (w4.setCell ⟨wr.heap.size, 1, none⟩ (.int .i64 (y.pl + a.pr))).heap[wr.heap.size]? = some (.cells #[.int .i64 y.kd, .int .i64 (y.pl + a.pr), .string y.wd] 51 (0, 0)) := heap_setCell_same _ _ _ _ _ _ i4
                have hz5 : wr.heap.size < (w4.setCell ⟨wr.heap.size, 1, none⟩ (.int .i64 (y.pl + a.pr))).heap.size := by simp; omega
                clear cA0 y0 y1 y2 cBB1
                go_upto_region 9 with fail
                clear x1 f1 hs1 cA0' b4 i4
                generalize w4.setCell ⟨wr.heap.size, 1, none⟩ (.int .i64 (y.pl + a.pr)) = w5 at *
                have HWO5 := Lib.hid (WO.below HWO.out b5)
                have HXB5 := Lib.hid (hb_below b5 HXB.out hbxr)
                have HBR5 := Lib.hid (HBR.out.trans (b5.mono (by omega)))
                have z0 : w5.cell? ⟨wr.heap.size, 0, none⟩ = some (.int .i64 y.kd) := cell_of_row w5 _ 0 _ _ _ i5
                have z1 : w5.cell? ⟨wr.heap.size, 1, none⟩ = some (.int .i64 (y.pl + a.pr)) := cell_of_row w5 _ 1 _ _ _ i5
                have z2 : w5.cell? ⟨wr.heap.size, 2, none⟩ = some (.string y.wd) := cell_of_row w5 _ 2 _ _ _ i5
                have d1 := cell_of_row w5 _ 1 _ _ _ HXB5.out
                have hbx5 : w2.heap.size ≤ w5.heap.size := by omega
                clear b5 i5 HWO HXB HBR
                go_wp2_with (at_builtin; go_loud (refine app_wkG (w := w5) (w0 := w2) w2.heap.size _ _ ⟨y.kd, y.pl + a.pr, y.wd⟩ rfl _ _ rfl rfl HWO5.out rfl (by omega) HBR5.out hbx5 ?_); intro v6 w6 O6 B6 K6; obtain ⟨a6, c6, e6⟩ := own_form O6; rw [List.length_append, List.length_singleton] at e6; subst e6; have X6 := K6 _ _ HXB5.out; have xd := cell_of_row w6 _ 1 _ _ _ X6; have xf := frozen_of_row w6 _ 1 _ _ X6)
                have HXF := Lib.hid (show (w6.setCell ⟨bx, 1, none⟩ (.slice a6 (L.length + 1) c6)).heap[bx]? = some (.cells #[.int .i64 (a.pr + b.pr), .slice a6 (L.length + 1) c6] 24 (0, 0)) from heap_setCell_same _ _ _ _ _ _ X6)
                have HWF := Lib.hid (wo_other (w' := w6.setCell ⟨bx, 1, none⟩ (.slice a6 (L.length + 1) c6)) O6 X6 (fun k ob h hn => (heap_setCell_other _ _ _ _ hn).trans h))
                have HBF := Lib.hid (B6.setCell (p := ⟨bx, 1, none⟩) (by simp; omega) (.slice a6 (L.length + 1) c6))
                go_roundw
                case rel => exact ⟨j + 1, _, by omega, by go_num, HXF.out, by rw [HNX.out]; exact HWF.out, HBF.out⟩
                case measure => (simp [intOf] <;> omega)
              · have j1 : ¬ (j : Int) < (b.ws.length : Int) := by omega
                have HLW := Lib.hid (show L = a.ws ++ shW a.pr b.ws by rw [← HLE.out, List.take_of_length_le (by omega)])
                have HWS := Lib.hid (ws_own HWO.out (fun x hx => by
                  rw [HLW.out] at hx
                  rcases List.mem_append.1 hx with q | q
                  · exact HWD.out x q
                  · unfold shW at q
                    obtain ⟨y, hy, rfl⟩ := List.mem_map.1 q
                    exact HWE.out y hy))
                replace HWS := Lib.hid ((show ∀ L' : List Wk, L = L' → WS wr (.slice xa L.length xc) L' from fun L' e => by subst e; exact HWS.out) _ HLW.out)
                have HUR := Lib.hid (HU2.out.below HBR.out)
                have HVR := Lib.hid (HV0.out.below (HB2.out.trans (HBR.out.mono (by omega))))
                have HB := Lib.hid (HB2.out.trans (HBR.out.mono (by omega)))
                have HA := Lib.hid (hb_below HBR.out HA2.out (by omega))
                have HBB := Lib.hid (hb_below HBR.out HBB2.out (by omega))
                have HCC := Lib.hid HXB.out
                clear cBB1 HXB HWO HBR HU2 HA2 HBB2 HB2 HLE
                have cA0 : wr.cell? ⟨w.heap.size, 0, none⟩ = some (.int .i64 a.pr) := cell_of_row wr _ 0 _ _ _ HA.out
                have cA1 : wr.cell? ⟨w.heap.size, 1, none⟩ = some (.slice ua a.ws.length uc) := cell_of_row wr _ 1 _ _ _ HA.out
                have cBB0 : wr.cell? ⟨(w.heap.size + 1), 0, none⟩ = some (.int .i64 b.pr) := cell_of_row wr _ 0 _ _ _ HBB.out
                have cBB1 : wr.cell? ⟨(w.heap.size + 1), 1, none⟩ = some (.slice va b.ws.length vc) := cell_of_row wr _ 1 _ _ _ HBB.out
                have cCC0 : wr.cell? ⟨bx, 0, none⟩ = some (.int .i64 (a.pr + b.pr)) := cell_of_row wr _ 0 _ _ _ HCC.out
                have cCC1 : wr.cell? ⟨bx, 1, none⟩ = some (.slice xa L.length xc) := cell_of_row wr _ 1 _ _ _ HCC.out
                go_wp2_with fail
                refine (HX.out.oa _ wr HUR.out).mono ?_
                rintro e w5 ⟨rfl, b5⟩
                replace HA := Lib.hid (hb_below b5 HA.out (by omega))
                replace HBB := Lib.hid (hb_below b5 HBB.out (by omega))
                replace HCC := Lib.hid (hb_below b5 HCC.out (by omega))
                have hzw5 : wr.heap.size ≤ w5.heap.size := b5.size
                replace HUR := Lib.hid (HUR.out.below b5)
                replace HVR := Lib.hid (HVR.out.below b5)
                replace HWS := Lib.hid (HWS.out.below b5)
                replace HB := Lib.hid (bon HB.out b5)
                clear b5
                clear cA0 cA1 cBB0 cBB1 cCC0 cCC1
                have cA0 : w5.cell? ⟨w.heap.size, 0, none⟩ = some (.int .i64 a.pr) := cell_of_row w5 _ 0 _ _ _ HA.out
                have cA1 : w5.cell? ⟨w.heap.size, 1, none⟩ = some (.slice ua a.ws.length uc) := cell_of_row w5 _ 1 _ _ _ HA.out
                have cBB0 : w5.cell? ⟨(w.heap.size + 1), 0, none⟩ = some (.int .i64 b.pr) := cell_of_row w5 _ 0 _ _ _ HBB.out
                have cBB1 : w5.cell? ⟨(w.heap.size + 1), 1, none⟩ = some (.slice va b.ws.length vc) := cell_of_row w5 _ 1 _ _ _ HBB.out
                have cCC0 : w5.cell? ⟨bx, 0, none⟩ = some (.int .i64 (a.pr + b.pr)) := cell_of_row w5 _ 0 _ _ _ HCC.out
                have cCC1 : w5.cell? ⟨bx, 1, none⟩ = some (.slice xa L.length xc) := cell_of_row w5 _ 1 _ _ _ HCC.out
                go_wp2_with fail
                refine (HX.out.ob _ w5 HVR.out).mono ?_
                rintro e w6 ⟨rfl, b6⟩
                replace HA := Lib.hid (hb_below b6 HA.out (by omega))
                replace HBB := Lib.hid (hb_below b6 HBB.out (by omega))
                replace HCC := Lib.hid (hb_below b6 HCC.out (by omega))
                have hzw6 : w5.heap.size ≤ w6.heap.size := b6.size
                replace HUR := Lib.hid (HUR.out.below b6)
                replace HVR := Lib.hid (HVR.out.below b6)
                replace HWS := Lib.hid (HWS.out.below b6)
                replace HB := Lib.hid (bon HB.out b6)
                clear b6
                clear cA0 cA1 cBB0 cBB1 cCC0 cCC1
                have cA0 : w6.cell? ⟨w.heap.size, 0, none⟩ = some (.int .i64 a.pr) := cell_of_row w6 _ 0 _ _ _ HA.out
                have cA1 : w6.cell? ⟨w.heap.size, 1, none⟩ = some (.slice ua a.ws.length uc) := cell_of_row w6 _ 1 _ _ _ HA.out
                have cBB0 : w6.cell? ⟨(w.heap.size + 1), 0, none⟩ = some (.int .i64 b.pr) := cell_of_row w6 _ 0 _ _ _ HBB.out
                have cBB1 : w6.cell? ⟨(w.heap.size + 1), 1, none⟩ = some (.slice va b.ws.length vc) := cell_of_row w6 _ 1 _ _ _ HBB.out
                have cCC0 : w6.cell? ⟨bx, 0, none⟩ = some (.int .i64 (a.pr + b.pr)) := cell_of_row w6 _ 0 _ _ _ HCC.out
                have cCC1 : w6.cell? ⟨bx, 1, none⟩ = some (.slice xa L.length xc) := cell_of_row w6 _ 1 _ _ _ HCC.out
                have COS := Lib.hid (HX.out.os)
                have HTT := HX.out.t1
                generalize hT : ch (a.ws.length + b.ws.length) b.ws.length * (N * M) = T at COS HTT
                have HTQ := Lib.hid hT
                clear hT
                go_wp2_with fail
                refine (COS.out _ w6 HWS.out).mono ?_
                rintro e w7 ⟨rfl, b7⟩
                have hn1 := HX.out.n1
                have hm1 := HX.out.m1
                replace HA := Lib.hid (hb_below b7 HA.out (by omega))
                replace HBB := Lib.hid (hb_below b7 HBB.out (by omega))
                replace HCC := Lib.hid (hb_below b7 HCC.out (by omega))
                have hzw7 : w6.heap.size ≤ w7.heap.size := b7.size
                replace HUR := Lib.hid (HUR.out.below b7)
                replace HVR := Lib.hid (HVR.out.below b7)
                replace HWS := Lib.hid (HWS.out.below b7)
                replace HB := Lib.hid (bon HB.out b7)
                clear b7
                clear cA0 cA1 cBB0 cBB1 cCC0 cCC1
                have cA0 : w7.cell? ⟨w.heap.size, 0, none⟩ = some (.int .i64 a.pr) := cell_of_row w7 _ 0 _ _ _ HA.out
                have cA1 : w7.cell? ⟨w.heap.size, 1, none⟩ = some (.slice ua a.ws.length uc) := cell_of_row w7 _ 1 _ _ _ HA.out
                have cBB0 : w7.cell? ⟨(w.heap.size + 1), 0, none⟩ = some (.int .i64 b.pr) := cell_of_row w7 _ 0 _ _ _ HBB.out
                have cBB1 : w7.cell? ⟨(w.heap.size + 1), 1, none⟩ = some (.slice va b.ws.length vc) := cell_of_row w7 _ 1 _ _ _ HBB.out
                have cCC0 : w7.cell? ⟨bx, 0, none⟩ = some (.int .i64 (a.pr + b.pr)) := cell_of_row w7 _ 0 _ _ _ HCC.out
                have cCC1 : w7.cell? ⟨bx, 1, none⟩ = some (.slice xa L.length xc) := cell_of_row w7 _ 1 _ _ _ HCC.out
                have u1 : ¬ (N : Int) < 1 := by omega
                have u2 : ¬ (M : Int) < 1 := by omega
                have u3 : ¬ (1000000000 : Int) < (N : Int) := by omega
                have u4 : ¬ (1000000000 : Int) < (M : Int) := by omega
                go_upto_region 17 with fail
                clear HUR HVR HWS HCC cCC0 cCC1 HX COS u1 u2 u3 u4
                go_loopw [14, 15] (fun cv iv wq => ∃ i : Nat, 1 ≤ i ∧ i ≤ b.ws.length + 1 ∧ cv = .int .i64 (ch (a.ws.length + (i - 1)) (i - 1) : Int) ∧ iv = .int .i64 (i : Int) ∧ Below w7.heap.size w7 wq) (fun _ iv _ => b.ws.length + 1 - (intOf iv).toNat)
                case atStart => exact ⟨1, Nat.le_refl _, by omega, by rw [Nat.sub_self, ch_0]; rfl, rfl, Below.refl _ _⟩
                case round =>
                  obtain ⟨i, hi1, hi2, rfl, rfl, hbq⟩ := hrel
                  rename World => wq
                  have HBQ := Lib.hid hbq
                  have hzq := hbq.size
                  clear hbq cA0 cA1 cBB0 cBB1
                  have cA1 : wq.cell? ⟨w.heap.size, 1, none⟩ = some (.slice ua a.ws.length uc) := cell_of_row wq _ 1 _ _ _ (hb_below HBQ.out HA.out (by omega))
                  have cBB1 : wq.cell? ⟨w.heap.size + 1, 1, none⟩ = some (.slice va b.ws.length vc) := cell_of_row wq _ 1 _ _ _ (hb_below HBQ.out HBB.out (by omega))
                  by_cases him : i ≤ b.ws.length
                  · have j1 : (i : Int) ≤ (b.ws.length : Int) := by omega
                    have HST := Lib.hid (ch_step (n := a.ws.length) hi1)
                    have hcl : ch (a.ws.length + (i - 1)) (i - 1) ≤ 4096 := Nat.le_trans (ch_le _ _) (Nat.le_trans (Nat.pow_le_pow_right (by omega) (by omega : a.ws.length + (i - 1) ≤ 12)) (by decide))
                    generalize ch (a.ws.length + (i - 1)) (i - 1) = c at *
                    have hcl2 : ch (a.ws.length + i) i ≤ 4096 := Nat.le_trans (ch_le _ _) (Nat.le_trans (Nat.pow_le_pow_right (by omega) (by omega : a.ws.length + i ≤ 12)) (by decide))
                    have HN2 := Lib.hid (show ch (a.ws.length + (i + 1 - 1)) (i + 1 - 1) = ch (a.ws.length + i) i by rw [Nat.add_sub_cancel])
                    generalize ch (a.ws.length + i) i = c' at *
                    have hpr : c * (a.ws.length + i) ≤ 4096 * 13 := Nat.mul_le_mul hcl (by omega)
                    have r1 : IntKind.i64.wrap ((c : Int) * ((a.ws.length : Int) + (i : Int))) = (c : Int) * ((a.ws.length : Int) + (i : Int)) := IntWalk.i64_in _ (by rw [show (c : Int) * ((a.ws.length : Int) + (i : Int)) = ((c * (a.ws.length + i) : Nat) : Int) by rw [Int.natCast_mul, Int.natCast_add]]; omega)
                    have r2 : Int.tdiv ((c : Int) * ((a.ws.length : Int) + (i : Int))) (i : Int) = (c' : Int) := by rw [show (c : Int) * ((a.ws.length : Int) + (i : Int)) = ((c * (a.ws.length + i) : Nat) : Int) by rw [Int.natCast_mul, Int.natCast_add], ← Int.ofNat_tdiv, HST.out]
                    have r3 : ¬ (i : Int) = 0 := by omega
                    have r4 : IntKind.i64.wrap (c' : Int) = (c' : Int) := IntWalk.i64_in _ (by omega)
                    clear hpr
                    go_wp2_with fail
                    go_roundw
                    case rel => exact ⟨i + 1, by omega, by omega, by rw [HN2.out], by go_num, HBQ.out⟩
                    case measure => (simp [intOf] <;> omega)
                  · have j1 : ¬ (i : Int) ≤ (b.ws.length : Int) := by omega
                    obtain rfl : i = b.ws.length + 1 := by omega
                    rw [Nat.add_sub_cancel]
                    have hcp : 1 ≤ ch (a.ws.length + b.ws.length) b.ws.length := ch_pos _ _ (by omega)
                    generalize ch (a.ws.length + b.ws.length) b.ws.length = c at *
                    have HPP := Lib.hid (show ∃ P, P = N * M from ⟨_, rfl⟩)
                    generalize hPe : N * M = P at *
                    have hPT : c * P = T := HTQ.out
                    have hPl : P ≤ 479001600 := Nat.le_trans (Nat.le_mul_of_pos_left _ hcp) (hPT ▸ HTT)
                    have hcT : c ≤ 479001600 := Nat.le_trans (Nat.le_mul_of_pos_right _ (by rw [← hPe]; exact Nat.mul_pos hn1.1 hm1.1)) (hPT ▸ HTT)
                    have s1 : Int.tmod (T : Int) (c : Int) = 0 := by rw [← Int.ofNat_tmod, ← hPT, Nat.mul_mod_right]; rfl
                    have s2 : Int.tdiv (T : Int) (c : Int) = (P : Int) := by rw [← Int.ofNat_tdiv, ← hPT, Nat.mul_div_cancel_left _ hcp]
                    have s3 : Int.tmod (P : Int) (N : Int) = 0 := by rw [← Int.ofNat_tmod, ← hPe, Nat.mul_mod_right]; rfl
                    have s4 : Int.tdiv (P : Int) (N : Int) = (M : Int) := by rw [← Int.ofNat_tdiv, ← hPe, Nat.mul_div_cancel_left _ hn1.1]
                    have s5 : ¬ (c : Int) = 0 := by omega
                    have s6 : ¬ (N : Int) = 0 := by omega
                    have s7 : IntKind.i64.wrap (P : Int) = (P : Int) := IntWalk.i64_in _ (by omega)
                    have s8 : IntKind.i64.wrap (M : Int) = (M : Int) := IntWalk.i64_in _ (by omega)
                    have HB := Lib.hid (HB.out.trans (HBQ.out.mono (by have := HB.out.size; omega)))
                    clear hPT hPe HPP HTQ
                    go_wp2_with fail
                    refine (CA.out _).mono ?_
                    rintro e wz ⟨rfl, bz⟩
                    have HBZ := Lib.hid (bon HB.out bz)
                    clear bz
                    go_wp2_with fail
                    go_ret
                    exact ⟨rfl, HBZ.out⟩
        · have k2 : (24 : Int) < a.pr + b.pr := by omega
          go_wp2_with fail
          refine (CA.out _).mono ?_
          rintro e wz ⟨rfl, bz⟩
          have HBZ := Lib.hid (bon HB.out bz)
          clear bz
          go_wp2_with fail
          go_ret
          exact ⟨rfl, HBZ.out⟩
      · have k1 : (12 : Int) < (a.ws.length : Int) + (b.ws.length : Int) := by omega
        go_wp2_with fail
        refine (CA.out _).mono ?_
        rintro e wz ⟨rfl, bz⟩
        have HBZ := Lib.hid (bon HB.out bz)
        clear bz
        go_wp2_with fail
        go_ret
        exact ⟨rfl, HBZ.out⟩
    · have hcb' : (chkS b == 0) = false := beq_eq_false_iff_ne.2 hcb
      go_wp2_with fail
      refine (CA.out _).mono ?_
      rintro e wz ⟨rfl, bz⟩
      have HBZ := Lib.hid (bon HB.out bz)
      clear bz
      go_wp2_with fail
      go_ret
      exact ⟨rfl, HBZ.out⟩
  · have hck' : (chkS a == 0) = false := beq_eq_false_iff_ne.2 hck
    go_wp2_with fail
    refine (CA.out _).mono ?_
    rintro e wz ⟨rfl, bz⟩
    have HBZ := Lib.hid (bon HB.out bz)
    clear bz
    go_wp2_with fail
    go_ret
    exact ⟨rfl, HBZ.out⟩
end Go.Proofs.Ytcjbjlepgdggpaa
