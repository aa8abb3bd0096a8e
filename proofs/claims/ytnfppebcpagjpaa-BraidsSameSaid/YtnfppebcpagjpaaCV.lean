/- Lay: the program's and the reference's walked. -/
import Derived.Test.YtnfppebcpagjpaaCU
namespace Go.Proofs.Ytnfppebcpagjpaa
open Go.RowKit Go.Lib
/-- A letter with its sign. -/
def ltr (above : Bool) (p : Nat) : Int := if above then (p : Int) else -(p : Int)
def layP (n s : Nat) (above : Bool) : List Int := (List.range (n - 1 - s)).map fun j => ltr above (s + 1 + j)
def layQ (n e : Nat) (above : Bool) : List Int := (List.range (n - 1 - e)).map fun j => ltr (!above) (n - 1 - j)
theorem layP_len (n s : Nat) (above : Bool) : (layP n s above).length = n - 1 - s := by simp [layP]
theorem layQ_len (n e : Nat) (above : Bool) : (layQ n e above).length = n - 1 - e := by simp [layQ]
theorem layP_get {n s j : Nat} {above : Bool} (h : j < n - 1 - s) : (layP n s above)[j]? = some (ltr above (s + 1 + j)) := by simp [layP, h]
theorem layQ_get {n e j : Nat} {above : Bool} (h : j < n - 1 - e) : (layQ n e above)[j]? = some (ltr (!above) (n - 1 - j)) := by simp [layQ, h]
/-- A word with a strand laid above or below. -/
def layW (n : Nat) (ws : List Int) (s : Nat) (above : Bool) : List Int := layP n s above ++ (dropW s ws).1 ++ layQ n (dropW s ws).2 above
theorem layW_len (n : Nat) (ws : List Int) (s : Nat) (above : Bool) : (layW n ws s above).length = n - 1 - s + (dropW s ws).1.length + (n - 1 - (dropW s ws).2) := by
  unfold layW
  rw [List.length_append, List.length_append, layP_len, layQ_len]
theorem drop_at (s : Nat) (ws : List Int) : (dropW s ws).2 = (lineP ws).g s := by
  induction ws using snoc_ind with
  | h0 => rfl
  | h1 l a ih =>
    have e : dropW s (l ++ [a]) = dropS (dropW s l) a := by simp [dropW]
    rw [e, lineP_snoc]
    show sw (num a) (dropW s l).2 = sw (num a) ((lineP l).g s)
    rw [ih]
def layV (n : Int) (ws : List Int) (s : Int) (above : Bool) : List Int × Int :=
  if strandV n ws s = 0 then (if 400 < (layW n.toNat ws s.toNat above).length then ([], 3) else (layW n.toNat ws s.toNat above, 0)) else ([], strandV n ws s)
set_option maxHeartbeats 2000000 in
set_option maxRecDepth 100000 in
theorem Lay_true (m s : Nat) (hs : s < m) (m1 : 1 ≤ m) (m2 : m ≤ 12) (ws : List Int) (hl : ws.length ≤ 400) (hw : Word m ws) (h0 : strandV m ws s = 0) (v : Value) (w : World) (hv : IS w v ws) :
    Calls Try.prog 31 #[.int .i64 (m : Int), v, .int .i64 (s : Int), .bool true] w fun e w' => ∃ v', e = .returned (.tuple #[v', .int .i64 (layV m ws s true).2]) ∧ IS w' v' (layV m ws s true).1 ∧ Below w.heap.size w w' := by
  have Hv := Lib.hid hv
  have CK := Lib.hid (checkStrand_any m ws s v w hv)
  rw [h0] at CK
  unfold layV
  rw [h0, if_pos rfl, Int.toNat_natCast, Int.toNat_natCast]
  have hll := layW_len m ws s true
  have hel := dropW_lt hs ws hw
  have hdl := dropW_len ws s
  have Hw := Lib.hid hw
  have CW := Lib.hid (fun w1 (B : Below w.heap.size w w1) => without_any m m2 s hs ws Hw.out hl v w1 (Hv.out.below B))
  have HL := Lib.hid (show layW m ws s true = layP m s true ++ (dropW s ws).1 ++ layQ m (dropW s ws).2 true from rfl)
  obtain ⟨O, hO⟩ : ∃ O, O = (dropW s ws).1 := ⟨_, rfl⟩
  obtain ⟨e, he⟩ : ∃ e, e = (dropW s ws).2 := ⟨_, rfl⟩
  rw [← hO, ← he] at CW HL hll
  rw [← hO] at hdl
  rw [← he] at hel
  generalize layW m ws s true = LW at HL hll ⊢
  have n1 : IntKind.i64.wrap ((m : Int) - 1) = ((m - 1 : Nat) : Int) := num_in (by omega) (by omega)
  have n2 : IntKind.i64.wrap (((m - 1 : Nat) : Int) - (s : Int)) = ((m - 1 - s : Nat) : Int) := num_in (by omega) (by omega)
  have n3 : IntKind.i64.wrap (((m - 1 - s : Nat) : Int) + (O.length : Int)) = ((m - 1 - s : Nat) : Int) + (O.length : Int) := IntWalk.i64_in _ (by omega)
  have n4 : IntKind.i64.wrap (((m - 1 - s : Nat) : Int) + (O.length : Int) + (m : Int)) = ((m - 1 - s : Nat) : Int) + (O.length : Int) + (m : Int) := IntWalk.i64_in _ (by omega)
  have n5 : IntKind.i64.wrap (((m - 1 - s : Nat) : Int) + (O.length : Int) + (m : Int) - 1) = ((m - 1 - s : Nat) : Int) + (O.length : Int) + (m : Int) - 1 := IntWalk.i64_in _ (by omega)
  have n6 : IntKind.i64.wrap (((m - 1 - s : Nat) : Int) + (O.length : Int) + (m : Int) - 1 - (e : Int)) = ((m - 1 - s : Nat) : Int) + (O.length : Int) + (m : Int) - 1 - (e : Int) := IntWalk.i64_in _ (by omega)
  clear hv h0 hw hO he
  by_cases hlong : 400 < LW.length
  · rw [if_pos hlong]
    have hlong' : (400 : Int) < ((m - 1 - s : Nat) : Int) + (O.length : Int) + (m : Int) - 1 - (e : Int) := by omega
    clear hll
    go_enter Try.func31, Try.ntmps31
    go_wp2_with fail
    refine CK.out.mono ?_
    rintro e w1 ⟨rfl, B1⟩
    go_wp2_with fail
    refine (CW.out w1 B1).mono ?_
    rintro e w2 ⟨v2, rfl, O2, B2⟩
    obtain ⟨ao, co, rfl⟩ := own_form O2
    clear O2
    go_wp2_with fail
    go_ret2
    exact ⟨.slice none 0 0, rfl, is_nil _, bon B1 B2⟩
  · rw [if_neg hlong]
    have hlong' : ¬ (400 : Int) < ((m - 1 - s : Nat) : Int) + (O.length : Int) + (m : Int) - 1 - (e : Int) := by omega
    have hmk : ∀ W : World, (Instr.makeSlice 22 (.int .i64 0) (.int .i64 400)).run Try.prog W = .ok (.slice (some ⟨W.heap.size, 0, none⟩) 0 400) (W.alloc (.cells (madeCells #[.int .i64 0] 400) 3)) := fun W => mk_ints 400 (by omega) W
    clear hll
    go_enter Try.func31, Try.ntmps31
    go_wp2_with fail
    refine CK.out.mono ?_
    rintro e w1 ⟨rfl, B1⟩
    go_wp2_with fail
    refine (CW.out w1 B1).mono ?_
    rintro e w2 ⟨v2, rfl, O2, B2⟩
    obtain ⟨ao, co, rfl⟩ := own_form O2
    have HI2 := Lib.hid (is_own O2 rfl)
    have HB2 := Lib.hid (bon B1 B2)
    have HOW := Lib.hid (own_mk 400 w2.heap.size (by omega) w2 (Nat.le_refl _))
    have HBW := Lib.hid (below_alloc w2 (.cells (madeCells #[.int .i64 0] 400) 3))
    clear O2 B1 B2 CW CK
    go_wp2_with fail
    clear hmk n2 n3 n4 n5 n6
    go_loopw [14, 15] (fun vo i wr => ∃ (k p : Nat) (D : List Int), k ≤ m - 1 - s ∧ p = s + 1 + k ∧ D.length = k ∧ i = .int .i64 p ∧ D = (layP m s true).take k ∧ wr.ownsRow w2.heap.size 3 1 vo D.length (D.map (Value.int .i64)) ∧ Below w2.heap.size w2 wr) (fun _ i _ => m - (intOf i).toNat)
    case atStart => exact ⟨0, s + 1, [], Nat.zero_le _, rfl, rfl, by go_num, rfl, HOW.out, HBW.out⟩
    case round =>
      obtain ⟨k, p, D, hk, hp, hdk, rfl, hD, hown, hbw⟩ := hrel
      have Hown := Lib.hid hown
      have HD := Lib.hid hD
      have Hdk := Lib.hid hdk
      have Hp := Lib.hid hp
      have hbs := hbw.size
      by_cases hkl : p < m
      · have hkl' : (p : Int) < (m : Int) := by omega
        have q1 : IntKind.i64.wrap (p : Int) = (p : Int) := num_in rfl (by omega)
        have q2 : IntKind.i64.wrap (-(p : Int)) = -(p : Int) := IntWalk.i64_in _ (by omega)
        have Hnext := Lib.hid (take_more (layP_get (n := m) (s := s) (j := k) (above := true) (by omega)))
        rw [← hp] at Hnext
        clear hown hD hdk hp
        go_wp2_with (at_builtin; refine app_one (w0 := w2) w2.heap.size _ D ((p : Int)) rfl _ _ rfl rfl Hown.out rfl (by have := Hdk.out; omega) hbw hbs ?_; intro g cap w3 hown1 hb1)
        have HO1 := Lib.hid hown1
        clear hown1
        go_wp2_with fail
        go_roundw
        case rel => exact ⟨k + 1, p + 1, D ++ [(p : Int)], by have := Hp.out; omega, by have := Hp.out; omega, by rw [List.length_append, Hdk.out]; rfl, by go_num, by rw [Hnext.out, HD.out]; rfl, by rw [List.length_append]; exact HO1.out, hb1⟩
        case measure => (simp [intOf] <;> omega)
      · have hkl' : ¬ (p : Int) < (m : Int) := by omega
        rw [List.take_of_length_le (by rw [layP_len]; omega)] at hD
        have HDE := Lib.hid hD
        have hdl1 : D.length ≤ 12 := by omega
        have HI3 := Lib.hid (HI2.out.below hbw)
        have HB0 := Lib.hid hbw
        clear HD hown hD hdk hp Hdk HI2
        go_wp2_with (at_builtin; refine app_all (w0 := w2) w2.heap.size _ D O rfl _ _ rfl rfl Hown.out _ rfl HI3.out (by omega) HB0.out HB0.out.size ?_; intro v3 w3 hown3 hb3)
        have HO3 := Lib.hid hown3
        have HB3 := Lib.hid hb3
        clear hown3 hb3 Hown HI3 HB0 hbw hbs
        go_wp2_with fail
        go_loopw [14, 16] (fun vo i wr => ∃ (k : Nat) (E : List Int), k ≤ m - 1 - e ∧ E.length = (D ++ O).length + k ∧ i = .int .i64 ((m - 1 - k : Nat) : Int) ∧ E = D ++ O ++ (layQ m e true).take k ∧ wr.ownsRow w2.heap.size 3 1 vo E.length (E.map (Value.int .i64)) ∧ Below w2.heap.size w2 wr) (fun _ i _ => (intOf i).toNat)
        case atStart => exact ⟨0, D ++ O, Nat.zero_le _, rfl, rfl, by simp, HO3.out, HB3.out⟩
        case round =>
          obtain ⟨k, E, hk, hek, rfl, hE, hown, hbw⟩ := hrel
          have Hown := Lib.hid hown
          have HE := Lib.hid hE
          have Hek := Lib.hid hek
          have hbs := hbw.size
          have hel1 : E.length ≤ 500 := by rw [hek, List.length_append]; omega
          by_cases hkl : k < m - 1 - e
          · obtain ⟨p, hp⟩ : ∃ p, p = m - 1 - k := ⟨_, rfl⟩
            have Hnext := Lib.hid (take_more (layQ_get (n := m) (e := e) (j := k) (above := true) hkl))
            rw [← hp] at Hnext ⊢
            have hpe : (e : Int) < (p : Int) := by omega
            have q1 : IntKind.i64.wrap (p : Int) = (p : Int) := num_in rfl (by omega)
            have q2 : IntKind.i64.wrap (-(p : Int)) = -(p : Int) := IntWalk.i64_in _ (by omega)
            have q3 : IntKind.i64.wrap ((p : Int) - 1) = ((m - 1 - (k + 1) : Nat) : Int) := num_in (by omega) (by omega)
            have hp0 : m - 1 - (k + 1) < p := by omega
            clear hown hE hek hp
            go_wp2_with (at_builtin; refine app_one (w0 := w2) w2.heap.size _ E (-(p : Int)) rfl _ _ rfl rfl Hown.out rfl (by omega) hbw hbs ?_; intro g cap w4 hown1 hb1)
            have HO1 := Lib.hid hown1
            clear hown1
            go_wp2_with fail
            go_roundw
            case rel => exact ⟨k + 1, E ++ [-(p : Int)], hkl, by rw [List.length_append, Hek.out]; rfl, rfl, by rw [Hnext.out, HE.out]; simp [ltr], by rw [List.length_append]; exact HO1.out, hb1⟩
            case measure => (simp [intOf] <;> omega)
          · have hpe : ¬ (e : Int) < ((m - 1 - k : Nat) : Int) := by omega
            rw [List.take_of_length_le (by rw [layQ_len]; omega), HDE.out, ← HL.out] at hE
            rw [hE] at hown
            have HF := Lib.hid (is_own hown rfl)
            clear Hown HE hown hE hek Hek
            go_wp2_with fail
            go_ret2
            exact ⟨_, rfl, HF.out, bon HB2.out hbw⟩
set_option maxHeartbeats 2000000 in
set_option maxRecDepth 100000 in
theorem Lay_false (m s : Nat) (hs : s < m) (m1 : 1 ≤ m) (m2 : m ≤ 12) (ws : List Int) (hl : ws.length ≤ 400) (hw : Word m ws) (h0 : strandV m ws s = 0) (v : Value) (w : World) (hv : IS w v ws) :
    Calls Try.prog 31 #[.int .i64 (m : Int), v, .int .i64 (s : Int), .bool false] w fun e w' => ∃ v', e = .returned (.tuple #[v', .int .i64 (layV m ws s false).2]) ∧ IS w' v' (layV m ws s false).1 ∧ Below w.heap.size w w' := by
  have Hv := Lib.hid hv
  have CK := Lib.hid (checkStrand_any m ws s v w hv)
  rw [h0] at CK
  unfold layV
  rw [h0, if_pos rfl, Int.toNat_natCast, Int.toNat_natCast]
  have hll := layW_len m ws s false
  have hel := dropW_lt hs ws hw
  have hdl := dropW_len ws s
  have Hw := Lib.hid hw
  have CW := Lib.hid (fun w1 (B : Below w.heap.size w w1) => without_any m m2 s hs ws Hw.out hl v w1 (Hv.out.below B))
  have HL := Lib.hid (show layW m ws s false = layP m s false ++ (dropW s ws).1 ++ layQ m (dropW s ws).2 false from rfl)
  obtain ⟨O, hO⟩ : ∃ O, O = (dropW s ws).1 := ⟨_, rfl⟩
  obtain ⟨e, he⟩ : ∃ e, e = (dropW s ws).2 := ⟨_, rfl⟩
  rw [← hO, ← he] at CW HL hll
  rw [← hO] at hdl
  rw [← he] at hel
  generalize layW m ws s false = LW at HL hll ⊢
  have n1 : IntKind.i64.wrap ((m : Int) - 1) = ((m - 1 : Nat) : Int) := num_in (by omega) (by omega)
  have n2 : IntKind.i64.wrap (((m - 1 : Nat) : Int) - (s : Int)) = ((m - 1 - s : Nat) : Int) := num_in (by omega) (by omega)
  have n3 : IntKind.i64.wrap (((m - 1 - s : Nat) : Int) + (O.length : Int)) = ((m - 1 - s : Nat) : Int) + (O.length : Int) := IntWalk.i64_in _ (by omega)
  have n4 : IntKind.i64.wrap (((m - 1 - s : Nat) : Int) + (O.length : Int) + (m : Int)) = ((m - 1 - s : Nat) : Int) + (O.length : Int) + (m : Int) := IntWalk.i64_in _ (by omega)
  have n5 : IntKind.i64.wrap (((m - 1 - s : Nat) : Int) + (O.length : Int) + (m : Int) - 1) = ((m - 1 - s : Nat) : Int) + (O.length : Int) + (m : Int) - 1 := IntWalk.i64_in _ (by omega)
  have n6 : IntKind.i64.wrap (((m - 1 - s : Nat) : Int) + (O.length : Int) + (m : Int) - 1 - (e : Int)) = ((m - 1 - s : Nat) : Int) + (O.length : Int) + (m : Int) - 1 - (e : Int) := IntWalk.i64_in _ (by omega)
  clear hv h0 hw hO he
  by_cases hlong : 400 < LW.length
  · rw [if_pos hlong]
    have hlong' : (400 : Int) < ((m - 1 - s : Nat) : Int) + (O.length : Int) + (m : Int) - 1 - (e : Int) := by omega
    clear hll
    go_enter Try.func31, Try.ntmps31
    go_wp2_with fail
    refine CK.out.mono ?_
    rintro e w1 ⟨rfl, B1⟩
    go_wp2_with fail
    refine (CW.out w1 B1).mono ?_
    rintro e w2 ⟨v2, rfl, O2, B2⟩
    obtain ⟨ao, co, rfl⟩ := own_form O2
    clear O2
    go_wp2_with fail
    go_ret2
    exact ⟨.slice none 0 0, rfl, is_nil _, bon B1 B2⟩
  · rw [if_neg hlong]
    have hlong' : ¬ (400 : Int) < ((m - 1 - s : Nat) : Int) + (O.length : Int) + (m : Int) - 1 - (e : Int) := by omega
    have hmk : ∀ W : World, (Instr.makeSlice 22 (.int .i64 0) (.int .i64 400)).run Try.prog W = .ok (.slice (some ⟨W.heap.size, 0, none⟩) 0 400) (W.alloc (.cells (madeCells #[.int .i64 0] 400) 3)) := fun W => mk_ints 400 (by omega) W
    clear hll
    go_enter Try.func31, Try.ntmps31
    go_wp2_with fail
    refine CK.out.mono ?_
    rintro e w1 ⟨rfl, B1⟩
    go_wp2_with fail
    refine (CW.out w1 B1).mono ?_
    rintro e w2 ⟨v2, rfl, O2, B2⟩
    obtain ⟨ao, co, rfl⟩ := own_form O2
    have HI2 := Lib.hid (is_own O2 rfl)
    have HB2 := Lib.hid (bon B1 B2)
    have HOW := Lib.hid (own_mk 400 w2.heap.size (by omega) w2 (Nat.le_refl _))
    have HBW := Lib.hid (below_alloc w2 (.cells (madeCells #[.int .i64 0] 400) 3))
    clear O2 B1 B2 CW CK
    go_wp2_with fail
    clear hmk n2 n3 n4 n5 n6
    go_loopw [14, 15] (fun vo i wr => ∃ (k p : Nat) (D : List Int), k ≤ m - 1 - s ∧ p = s + 1 + k ∧ D.length = k ∧ i = .int .i64 p ∧ D = (layP m s false).take k ∧ wr.ownsRow w2.heap.size 3 1 vo D.length (D.map (Value.int .i64)) ∧ Below w2.heap.size w2 wr) (fun _ i _ => m - (intOf i).toNat)
    case atStart => exact ⟨0, s + 1, [], Nat.zero_le _, rfl, rfl, by go_num, rfl, HOW.out, HBW.out⟩
    case round =>
      obtain ⟨k, p, D, hk, hp, hdk, rfl, hD, hown, hbw⟩ := hrel
      have Hown := Lib.hid hown
      have HD := Lib.hid hD
      have Hdk := Lib.hid hdk
      have Hp := Lib.hid hp
      have hbs := hbw.size
      by_cases hkl : p < m
      · have hkl' : (p : Int) < (m : Int) := by omega
        have q1 : IntKind.i64.wrap (p : Int) = (p : Int) := num_in rfl (by omega)
        have q2 : IntKind.i64.wrap (-(p : Int)) = -(p : Int) := IntWalk.i64_in _ (by omega)
        have Hnext := Lib.hid (take_more (layP_get (n := m) (s := s) (j := k) (above := false) (by omega)))
        rw [← hp] at Hnext
        clear hown hD hdk hp
        go_wp2_with (at_builtin; refine app_one (w0 := w2) w2.heap.size _ D (-(p : Int)) rfl _ _ rfl rfl Hown.out rfl (by have := Hdk.out; omega) hbw hbs ?_; intro g cap w3 hown1 hb1)
        have HO1 := Lib.hid hown1
        clear hown1
        go_wp2_with fail
        go_roundw
        case rel => exact ⟨k + 1, p + 1, D ++ [-(p : Int)], by have := Hp.out; omega, by have := Hp.out; omega, by rw [List.length_append, Hdk.out]; rfl, by go_num, by rw [Hnext.out, HD.out]; rfl, by rw [List.length_append]; exact HO1.out, hb1⟩
        case measure => (simp [intOf] <;> omega)
      · have hkl' : ¬ (p : Int) < (m : Int) := by omega
        rw [List.take_of_length_le (by rw [layP_len]; omega)] at hD
        have HDE := Lib.hid hD
        have hdl1 : D.length ≤ 12 := by omega
        have HI3 := Lib.hid (HI2.out.below hbw)
        have HB0 := Lib.hid hbw
        clear HD hown hD hdk hp Hdk HI2
        go_wp2_with (at_builtin; refine app_all (w0 := w2) w2.heap.size _ D O rfl _ _ rfl rfl Hown.out _ rfl HI3.out (by omega) HB0.out HB0.out.size ?_; intro v3 w3 hown3 hb3)
        have HO3 := Lib.hid hown3
        have HB3 := Lib.hid hb3
        clear hown3 hb3 Hown HI3 HB0 hbw hbs
        go_wp2_with fail
        go_loopw [14, 16] (fun vo i wr => ∃ (k : Nat) (E : List Int), k ≤ m - 1 - e ∧ E.length = (D ++ O).length + k ∧ i = .int .i64 ((m - 1 - k : Nat) : Int) ∧ E = D ++ O ++ (layQ m e false).take k ∧ wr.ownsRow w2.heap.size 3 1 vo E.length (E.map (Value.int .i64)) ∧ Below w2.heap.size w2 wr) (fun _ i _ => (intOf i).toNat)
        case atStart => exact ⟨0, D ++ O, Nat.zero_le _, rfl, rfl, by simp, HO3.out, HB3.out⟩
        case round =>
          obtain ⟨k, E, hk, hek, rfl, hE, hown, hbw⟩ := hrel
          have Hown := Lib.hid hown
          have HE := Lib.hid hE
          have Hek := Lib.hid hek
          have hbs := hbw.size
          have hel1 : E.length ≤ 500 := by rw [hek, List.length_append]; omega
          by_cases hkl : k < m - 1 - e
          · obtain ⟨p, hp⟩ : ∃ p, p = m - 1 - k := ⟨_, rfl⟩
            have Hnext := Lib.hid (take_more (layQ_get (n := m) (e := e) (j := k) (above := false) hkl))
            rw [← hp] at Hnext ⊢
            have hpe : (e : Int) < (p : Int) := by omega
            have q1 : IntKind.i64.wrap (p : Int) = (p : Int) := num_in rfl (by omega)
            have q2 : IntKind.i64.wrap (-(p : Int)) = -(p : Int) := IntWalk.i64_in _ (by omega)
            have q3 : IntKind.i64.wrap ((p : Int) - 1) = ((m - 1 - (k + 1) : Nat) : Int) := num_in (by omega) (by omega)
            have hp0 : m - 1 - (k + 1) < p := by omega
            clear hown hE hek hp
            go_wp2_with (at_builtin; refine app_one (w0 := w2) w2.heap.size _ E ((p : Int)) rfl _ _ rfl rfl Hown.out rfl (by omega) hbw hbs ?_; intro g cap w4 hown1 hb1)
            have HO1 := Lib.hid hown1
            clear hown1
            go_wp2_with fail
            go_roundw
            case rel => exact ⟨k + 1, E ++ [(p : Int)], hkl, by rw [List.length_append, Hek.out]; rfl, rfl, by rw [Hnext.out, HE.out]; simp [ltr], by rw [List.length_append]; exact HO1.out, hb1⟩
            case measure => (simp [intOf] <;> omega)
          · have hpe : ¬ (e : Int) < ((m - 1 - k : Nat) : Int) := by omega
            rw [List.take_of_length_le (by rw [layQ_len]; omega), HDE.out, ← HL.out] at hE
            rw [hE] at hown
            have HF := Lib.hid (is_own hown rfl)
            clear Hown HE hown hE hek Hek
            go_wp2_with fail
            go_ret2
            exact ⟨_, rfl, HF.out, bon HB2.out hbw⟩
end Go.Proofs.Ytnfppebcpagjpaa
