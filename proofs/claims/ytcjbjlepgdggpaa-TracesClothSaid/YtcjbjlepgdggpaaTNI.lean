/- Taken over: VA VB. -/
import Derived.Test.YtcjbjlepgdggpaaTNH

namespace Go.Proofs.Ytcjbjlepgdggpaa
section
open Go.RowKit Go.Lib
def crX (c : UInt8) : Int := if c = 67 then 1 else if c = 99 then -1 else 0
def twL (c : UInt8) : Int := if c = 84 ∨ c = 76 then 1 else if c = 116 ∨ c = 108 then -1 else 0
def twR (c : UInt8) : Int := if c = 84 ∨ c = 82 then 1 else if c = 116 ∨ c = 114 then -1 else 0
def cndC (c : UInt8) : List Int := [2 * crX c, -twL c, -3 * twR c]
def crL (c : UInt8) : List Int := (cndC c).filter (· ≠ 0)
def crW (l : List UInt8) : List Int := l.flatMap crL
theorem byte_all {p : UInt8 → Bool} (h : (List.range 256).all (fun n => p (UInt8.ofNat n)) = true) (c : UInt8) : p c = true := by
  have := List.all_eq_true.1 h c.toNat (List.mem_range.2 c.toNat_lt)
  simpa using this
theorem crL_len (c : UInt8) : (crL c).length ≤ 2 := by
  have := byte_all (p := fun c => decide ((crL c).length ≤ 2)) (by decide +kernel) c
  simpa using this
theorem crW_len (l : List UInt8) : (crW l).length ≤ 2 * l.length := by
  induction l with
  | nil => simp [crW]
  | cons c l ih => have := crL_len c; simp only [crW, List.flatMap_cons, List.length_append, List.length_cons] at ih ⊢; omega
theorem crW_take {l : List UInt8} {k : Nat} {c : UInt8} (h : l[k]? = some c) : crW (l.take (k + 1)) = crW (l.take k) ++ crL c := by
  rw [List.take_add_one, h]; simp [crW]
theorem is_lit (W : World) (xs : List Int) (t : TypeId) (hl : xs.length < 100) : IS (W.alloc (.cells (xs.map (Value.int .i64)).toArray t)) (.slice (some ⟨W.heap.size, 0, none⟩) xs.length xs.length) xs :=
  ⟨_, _, rfl, Nat.le_refl _, by unfold maxLen; omega, (fun e => by cases e), fun k z hk => ⟨W.heap.size, 0, rfl, by simp, by
    rw [Lib.cell_of_heap (heap_alloc_new W _), Nat.zero_add]
    simp [hk]⟩⟩
theorem u8_ne {c d : UInt8} (h : ¬ c = d) : ((c.toNat : Int) == (d.toNat : Int)) = false := by
  rw [beq_eq_false_iff_ne]
  intro e
  exact h (UInt8.toNat_inj.1 (by exact_mod_cast e))
set_option maxHeartbeats 400000 in
set_option maxRecDepth 100000 in
theorem refcrossing_any (c : UInt8) (w : World) :
    Calls Try.prog 89 #[.int .u8 (c.toNat : Int)] w fun e w' => ∃ v, e = .returned v ∧ IS w' v (crL c) ∧ Below w.heap.size w w' := by
  by_cases h67 : c = 67
  · subst h67
    go_enter Try.func89, Try.ntmps89
    go_wp2_with fail
    go_ret
    exact ⟨_, rfl, is_lit w [2] 3 (by decide), below_alloc w _⟩
  by_cases h76 : c = 76
  · subst h76
    go_enter Try.func89, Try.ntmps89
    go_wp2_with fail
    go_ret
    exact ⟨_, rfl, is_lit w [-1] 3 (by decide), below_alloc w _⟩
  by_cases h82 : c = 82
  · subst h82
    go_enter Try.func89, Try.ntmps89
    go_wp2_with fail
    go_ret
    exact ⟨_, rfl, is_lit w [-3] 3 (by decide), below_alloc w _⟩
  by_cases h84 : c = 84
  · subst h84
    go_enter Try.func89, Try.ntmps89
    go_wp2_with fail
    go_ret
    exact ⟨_, rfl, is_lit w [-1, -3] 3 (by decide), below_alloc w _⟩
  by_cases h99 : c = 99
  · subst h99
    go_enter Try.func89, Try.ntmps89
    go_wp2_with fail
    go_ret
    exact ⟨_, rfl, is_lit w [-2] 3 (by decide), below_alloc w _⟩
  by_cases h108 : c = 108
  · subst h108
    go_enter Try.func89, Try.ntmps89
    go_wp2_with fail
    go_ret
    exact ⟨_, rfl, is_lit w [1] 3 (by decide), below_alloc w _⟩
  by_cases h114 : c = 114
  · subst h114
    go_enter Try.func89, Try.ntmps89
    go_wp2_with fail
    go_ret
    exact ⟨_, rfl, is_lit w [3] 3 (by decide), below_alloc w _⟩
  by_cases h116 : c = 116
  · subst h116
    go_enter Try.func89, Try.ntmps89
    go_wp2_with fail
    go_ret
    exact ⟨_, rfl, is_lit w [1, 3] 3 (by decide), below_alloc w _⟩
  have e67 : ((c.toNat : Int) == 67) = false := u8_ne h67
  have e76 : ((c.toNat : Int) == 76) = false := u8_ne h76
  have e82 : ((c.toNat : Int) == 82) = false := u8_ne h82
  have e84 : ((c.toNat : Int) == 84) = false := u8_ne h84
  have e99 : ((c.toNat : Int) == 99) = false := u8_ne h99
  have e108 : ((c.toNat : Int) == 108) = false := u8_ne h108
  have e114 : ((c.toNat : Int) == 114) = false := u8_ne h114
  have e116 : ((c.toNat : Int) == 116) = false := u8_ne h116
  have z : crL c = [] := by simp [crL, cndC, crX, twL, twR, h67, h76, h82, h84, h99, h108, h114, h116]
  rw [z]
  clear z
  go_enter Try.func89, Try.ntmps89
  go_wp2_with fail
  go_ret
  exact ⟨_, rfl, is_nil w, Below.refl _ w⟩
end
section
open Go.RowKit Go.Lib
theorem tw_rng (c : UInt8) : (-1 ≤ crX c ∧ crX c ≤ 1) ∧ (-1 ≤ twL c ∧ twL c ≤ 1) ∧ (-1 ≤ twR c ∧ twR c ≤ 1) := by
  have := byte_all (p := fun c => decide ((-1 ≤ crX c ∧ crX c ≤ 1) ∧ (-1 ≤ twL c ∧ twL c ≤ 1) ∧ (-1 ≤ twR c ∧ twR c ≤ 1))) (by decide +kernel) c
  simpa using this
theorem byte_get {s : ByteArray} {k : Nat} (h : k < s.size) : s.data.toList[k]? = some s[k] := by
  have h1 : k < s.data.toList.length := by simpa using h
  rw [List.getElem?_eq_getElem h1]; rfl
set_option maxHeartbeats 1000000 in
set_option maxRecDepth 100000 in
theorem refcrossings_any (s : ByteArray) (hs : s.size ≤ 1000) (w : World) :
    Calls Try.prog 75 #[.string s] w fun e w' => ∃ v, e = .returned v ∧ w'.ownsRow w.heap.size 3 1 v (crW s.data.toList).length ((crW s.data.toList).map (Value.int .i64)) ∧ Below w.heap.size w w' := by
  go_enter Try.func75, Try.ntmps75
  go_wp2_with fail
  go_loopw [3, 4] (fun vo i wr => ∃ (k : Nat) (D : List Int), k ≤ s.size ∧ i = .int .i64 k ∧ D = crW (s.data.toList.take k) ∧ wr.ownsRow w.heap.size 3 1 vo D.length (D.map (Value.int .i64)) ∧ Below w.heap.size w wr) (fun _ i _ => s.size - (intOf i).toNat)
  case atStart => exact ⟨0, [], Nat.zero_le _, rfl, by simp [crW], World.ownsRow_nil _ _ _ _, Below.refl _ w⟩
  case round =>
    obtain ⟨k, D, hk, rfl, hD, hown, hbw⟩ := hrel
    have Hown := Lib.hid hown
    have HD := Lib.hid hD
    have hdl : D.length ≤ 2 * s.size := by
      rw [hD]
      have := crW_len (s.data.toList.take k)
      rw [List.length_take] at this
      omega
    clear hown hD
    have hbs := hbw.size
    by_cases hkl : k < s.size
    · have k0 : (0 : Int) ≤ (k : Int) := by omega
      have k1 : (k : Int) < (s.size : Int) := by omega
      have CX := Lib.hid (fun W => refcrossing_any s[k] W)
      have hcl := crL_len s[k]
      have Hn := Lib.hid (show crW (s.data.toList.take (k + 1)) = D ++ crL s[k] by rw [crW_take (byte_get hkl), ← HD.out])
      generalize crL s[k] = X at *
      go_wp2_with fail
      refine (CX.out _).mono ?_
      rintro e w1 ⟨u, rfl, hu, hb1⟩
      have HU := Lib.hid hu
      have HB1 := Lib.hid (hbw.trans (hb1.mono hbs))
      have hbs1 := HB1.out.size
      have Hown1 := Lib.hid (own_below Hown.out hb1)
      clear hu hb1 Hown
      go_wp2_with (at_builtin; refine app_all (w0 := w) w.heap.size _ D X rfl _ _ rfl rfl Hown1.out u rfl HU.out (by omega) HB1.out hbs1 ?_; intro v' w2 hown2 hb2)
      have HO1 := Lib.hid hown2
      clear hown2
      go_wp2_with fail
      go_roundw
      case rel => exact ⟨k + 1, D ++ X, hkl, by go_num, Hn.out.symm, HO1.out, hb2⟩
      case measure => (simp [intOf] <;> omega)
    · have e : k = s.size := by omega
      subst e
      have k1 : ¬ (s.size : Int) < (s.size : Int) := by omega
      have Hf := Hown.out
      rw [HD.out, List.take_of_length_le (by simp)] at Hf
      have HF := Lib.hid Hf
      clear Hf Hown
      go_wp2_with fail
      go_ret
      exact ⟨_, rfl, HF.out, hbw⟩
end
section
open Go.RowKit Go.Shelf Go.Lib
set_option maxHeartbeats 1000000 in
set_option maxRecDepth 100000 in
/-- Crossings of a word that is spelt as it must be. -/
theorem refCrossings3_any (s : ByteArray) (hs : stV s = 0) (w : World) :
    Calls Try.prog 61 #[.string s] w fun e w' => ∃ lv, e = .returned (.tuple #[lv, .int .i64 0]) ∧ w'.ownsRow w.heap.size 3 1 lv (crW s.data.toList).length ((crW s.data.toList).map (Value.int .i64)) ∧ Below w.heap.size w w' := by
  have h16 : s.size ≤ 16 := by
    unfold stV at hs
    split at hs
    · simp at hs
    · omega
  have C1 := Lib.hid (fun W => refCheck3_any s W)
  have C2 := Lib.hid (fun W => refcrossings_any s (by omega) W)
  rw [hs] at C1
  go_enter Try.func61, Try.ntmps61
  go_wp2_with fail
  refine (C1.out w).mono ?_
  rintro e w1 ⟨rfl, hw⟩
  rw [hw]
  clear hw
  go_wp2_with fail
  refine (C2.out w).mono ?_
  rintro e w2 ⟨v, rfl, ho, hb⟩
  have HI := Lib.hid ho
  have HB := Lib.hid hb
  clear ho hb
  go_wp2_with fail
  go_ret2
  exact ⟨v, rfl, HI.out, HB.out⟩
theorem crL_ok (c : UInt8) : ∀ z ∈ crL c, 1 ≤ z.natAbs ∧ z.natAbs ≤ 3 := fun z hz => by
  unfold crL at hz
  rw [List.mem_filter] at hz
  obtain ⟨h1, h2⟩ := hz
  obtain ⟨t1, t2, t3⟩ := tw_rng c
  unfold cndC at h1
  simp at h1 h2
  omega
theorem crW_ok (l : List UInt8) : okZ (crW l) := fun z hz => by
  unfold crW at hz
  obtain ⟨c, _, hc⟩ := List.mem_flatMap.1 hz
  exact crL_ok c z hc
end
end Go.Proofs.Ytcjbjlepgdggpaa
