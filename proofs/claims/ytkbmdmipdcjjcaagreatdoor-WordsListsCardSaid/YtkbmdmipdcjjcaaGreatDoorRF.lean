/- The reference's texts. -/
import Derived.Test.YtkbmdmipdcjjcaaGreatDoorRE
import Derived.IntWalk
namespace Go.Proofs.YtkbmdmipdcjjcaaGreatDoor
open Go.RowKit

def upT (ys : List Int) (k : Nat) : Bool := decide (∀ j, j < k → ys.getD j 0 = ys.getD 0 0 + (j : Int))
def eqT (ys : List Int) (k : Nat) : Bool := decide (∀ j, j < k → ys.getD j 0 = ys.getD 0 0)
theorem upT_one (ys : List Int) : upT ys 1 = true := by
  unfold upT
  apply decide_eq_true
  intro j hj
  obtain rfl : j = 0 := by omega
  simp
theorem eqT_one (ys : List Int) : eqT ys 1 = true := by
  unfold eqT
  apply decide_eq_true
  intro j hj
  obtain rfl : j = 0 := by omega
  rfl
theorem upT_succ (ys : List Int) (k : Nat) : upT ys (k + 1) = (upT ys k && (ys.getD k 0 == ys.getD 0 0 + (k : Int))) := by
  unfold upT
  rw [Bool.eq_iff_iff]
  simp only [decide_eq_true_eq, Bool.and_eq_true, beq_iff_eq]
  constructor
  · intro h
    exact ⟨fun j hj => h j (by omega), h k (by omega)⟩
  · rintro ⟨h1, h2⟩ j hj
    by_cases e : j = k
    · rw [e]; exact h2
    · exact h1 j (by omega)
theorem eqT_succ (ys : List Int) (k : Nat) : eqT ys (k + 1) = (eqT ys k && (ys.getD k 0 == ys.getD 0 0)) := by
  unfold eqT
  rw [Bool.eq_iff_iff]
  simp only [decide_eq_true_eq, Bool.and_eq_true, beq_iff_eq]
  constructor
  · intro h
    exact ⟨fun j hj => h j (by omega), h k (by omega)⟩
  · rintro ⟨h1, h2⟩ j hj
    by_cases e : j = k
    · rw [e]; exact h2
    · exact h1 j (by omega)
theorem below_wide2 {w a b : World} (h : Below w.heap.size w a) (k : Below a.heap.size a b) : Below w.heap.size w b := below_on h k
/-- The text of just these numbers, m of them behind the first one. -/
def txO (ys : List Int) (m : Nat) : Option ByteArray :=
  if m = 0 then some (numS (ys.getD 0 0)) else if upT ys (m + 1) then some (numS (ys.getD 0 0) ++ ⟨#[45]⟩ ++ numS (ys.getD m 0))
  else if eqT ys (m + 1) then some (numS ((m : Int) + 1) ++ ⟨#[120]⟩ ++ numS (ys.getD 0 0)) else none
def TextsPost (w : World) (o : Option ByteArray) (e : Ending) (w' : World) : Prop :=
  Below w.heap.size w w' ∧ ((o = none ∧ e = .returned (.slice none 0 0)) ∨ ∃ (t : ByteArray) (g : Nat), o = some t ∧ e = .returned (.slice (some ⟨g, 0, none⟩) 1 1) ∧ w.heap.size ≤ g ∧ g < w'.heap.size ∧ w'.cell? ⟨g, 0, none⟩ = some (.string t))
theorem tx_new {w w1 : World} {o : Option ByteArray} {t : ByteArray} (ho : o = some t) (hb : Below w.heap.size w w1) :
    TextsPost w o (.returned (.slice (some ⟨w1.heap.size, 0, none⟩) 1 1)) (w1.alloc (.cells #[.string t] 9)) :=
  ⟨hb.alloc hb.size _, Or.inr ⟨t, _, ho, rfl, hb.size, by simp, cell_alloc w1 #[.string t] 9 0 (by simp)⟩⟩
theorem numS_any (z : Int) (w : World) (h0 : 0 ≤ z) (h1 : z ≤ 9999) : Calls Tryz.prog 26 #[.int .i64 z] w fun e w' => e = .returned (.string (numS z)) ∧ Below w.heap.size w w' :=
  refDigits_any z w (by omega) (by omega)

set_option maxHeartbeats 1000000 in
set_option maxRecDepth 100000 in
theorem texts_one (ys : List Int) (b off cap : Nat) (w : World) (hy : 0 ≤ ys.getD 0 0 ∧ ys.getD 0 0 ≤ 9999) (hb : b < w.heap.size)
    (hc : w.cell? ⟨b, off, none⟩ = some (.int .i64 (ys.getD 0 0))) :
    Calls Tryz.prog 21 #[.slice (some ⟨b, off, none⟩) 1 cap] w (TextsPost w (txO ys 0)) := by
  have ho : txO ys 0 = some (numS (ys.getD 0 0)) := rfl
  rw [ho]
  generalize ys.getD 0 0 = z at *
  have HD := Lib.hid (fun w => numS_any z w hy.1 hy.2)
  have C0 := Lib.hid hc
  clear ho
  have bs := Below.refl w.heap.size w
  have hw1 : IntKind.i64.wrap ((1 : Int) - 1) = 0 := by decide
  have hw2 : IntKind.i64.wrap (0 : Int) = 0 := by decide
  go_enter Tryz.func21, Tryz.ntmps21
  go_wp2_with fail
  go_region_held3 (fun w' => w'.cell? ⟨b, off, none⟩ = some (.int .i64 z) ∧ Below w.heap.size w w') (first | (go_split_ands; refine ⟨?_, ?_⟩ <;> (first | assumption | (simp only [go_sem]; assumption) | (simp; assumption) | (refine Below.drew ?_; assumption) | (refine below_drewN ?_ _; assumption))) | go_keep)
    (first
      | (go_at_call 26; refine (HD.out _).mono ?_; rintro e w2 ⟨rfl, hbD⟩
         have hSB : Below w.heap.size w w2 := below_on (by first | assumption | (refine Below.drew ?_; assumption) | (refine below_drewN ?_ _; assumption)) hbD
         have hSC := (hSB.cell (p := ⟨b, off, none⟩) hb).trans C0.out))
  all_goals go_wp2_with fail
  all_goals go_ret
  all_goals exact tx_new rfl (by assumption)

set_option maxHeartbeats 4000000 in
set_option maxRecDepth 100000 in
theorem texts_more (ys : List Int) (m b off cap : Nat) (w : World) (hm : 1 ≤ m) (hm5 : m ≤ 500) (hy : ∀ j, 0 ≤ ys.getD j 0 ∧ ys.getD j 0 ≤ 9999) (hb : b < w.heap.size)
    (hc : ∀ j, j < m + 1 → w.cell? ⟨b, off + j, none⟩ = some (.int .i64 (ys.getD j 0))) :
    Calls Tryz.prog 21 #[.slice (some ⟨b, off, none⟩) (m + 1) cap] w (TextsPost w (txO ys m)) := by
  have ho : txO ys m = if upT ys (m + 1) then some (numS (ys.getD 0 0) ++ ⟨#[45]⟩ ++ numS (ys.getD m 0)) else if eqT ys (m + 1) then some (numS ((m : Int) + 1) ++ ⟨#[120]⟩ ++ numS (ys.getD 0 0)) else none := by
    unfold txO; rw [if_neg (by omega)]
  rw [ho]
  have hc0 := hc 0 (by omega)
  rw [Nat.add_zero] at hc0
  have hcm := hc m (by omega)
  have Hc := Lib.hid hc
  have C0 := Lib.hid hc0
  have Cm := Lib.hid hcm
  have hy0 := hy 0
  have hym := hy m
  have s0 := numS_size (ys.getD 0 0) (by omega) (by omega)
  have sm := numS_size (ys.getD m 0) (by omega) (by omega)
  have sn := numS_size ((m : Int) + 1) (by omega) (by omega)
  have s45 : (ByteArray.mk #[45]).size = 1 := rfl
  have s120 : (ByteArray.mk #[120]).size = 1 := rfl
  have HD0 := Lib.hid (fun w => numS_any (ys.getD 0 0) w hy0.1 hy0.2)
  have HDm := Lib.hid (fun w => numS_any (ys.getD m 0) w hym.1 hym.2)
  have HDn := Lib.hid (fun w => numS_any ((m : Int) + 1) w (by omega) (by omega))
  have Hy := Lib.hid hy
  obtain ⟨z, hz⟩ : ∃ z, ys.getD 0 0 = z := ⟨_, rfl⟩
  obtain ⟨y, hzy⟩ : ∃ z, ys.getD m 0 = z := ⟨_, rfl⟩
  rw [hz] at hc0 s0 hy0 HD0 C0 ⊢
  rw [hzy] at hcm sm hym HDm Cm ⊢
  have Hz := Lib.hid hz
  obtain ⟨O, hO⟩ : ∃ O, (if upT ys (m + 1) then some (numS z ++ ⟨#[45]⟩ ++ numS y) else if eqT ys (m + 1) then some (numS ((m : Int) + 1) ++ ⟨#[120]⟩ ++ numS z) else none) = O := ⟨_, rfl⟩
  rw [hO]
  have HO := Lib.hid hO
  clear ho hc hy hz hzy hO
  obtain ⟨n, hn⟩ : ∃ n, m + 1 = n := ⟨_, rfl⟩
  rw [hn]
  have hnm : (n : Int) = (m : Int) + 1 := by omega
  have b0 : (0 : Int) < (n : Int) := by omega
  have b1 : (m : Int) < (n : Int) := by omega
  have b2 : (0 : Int) ≤ (m : Int) := by omega
  have b3 : 0 < n := by omega
  have b4 : ((n : Int) == 1) = false := by rw [beq_eq_false_iff_ne]; omega
  have hw : IntKind.i64.wrap ((n : Int) - 1) = (m : Int) := by rw [IntWalk.i64_in _ (by omega)]; omega
  have Hnm := Lib.hid hnm
  clear hnm
  have bs := Below.refl w.heap.size w
  go_enter Tryz.func21, Tryz.ntmps21
  go_wp2_with fail
  go_region_held3 (fun w' => w'.cell? ⟨b, off, none⟩ = some (.int .i64 z) ∧ w'.cell? ⟨b, off + m, none⟩ = some (.int .i64 y) ∧ Below w.heap.size w w') (first | (go_split_ands; refine ⟨?_, ?_, ?_⟩ <;> (first | assumption | (simp only [go_sem]; assumption) | (simp; assumption) | (refine Below.drew ?_; assumption) | (refine below_drewN ?_ _; assumption))) | go_keep)
    (first
      | (go_at_call_of 26 (Value.int .i64 z); refine (HD0.out _).mono ?_; rintro e w2 ⟨rfl, hbD⟩
         have hSB : Below w.heap.size w w2 := below_on (by first | assumption | (refine Below.drew ?_; assumption) | (refine below_drewN ?_ _; assumption)) hbD
         have hSC := (hSB.cell (p := ⟨b, off, none⟩) hb).trans C0.out
         have hSM := (hSB.cell (p := ⟨b, off + m, none⟩) hb).trans Cm.out)
      | (go_at_call_of 26 (Value.int .i64 y); refine (HDm.out _).mono ?_; rintro e w2 ⟨rfl, hbD⟩
         have hSB : Below w.heap.size w w2 := below_on (by first | assumption | (refine Below.drew ?_; assumption) | (refine below_drewN ?_ _; assumption)) hbD
         have hSC := (hSB.cell (p := ⟨b, off, none⟩) hb).trans C0.out
         have hSM := (hSB.cell (p := ⟨b, off + m, none⟩) hb).trans Cm.out))
  have hSBw : Below w.heap.size w w2 := by assumption
  clear hcm hc0
  go_wp2_with fail
  go_loopw [5, 6, 7] (fun u a i wr => ∃ k : Nat, 1 ≤ k ∧ k ≤ n ∧ i = .int .i64 k ∧ u = .bool (upT ys k) ∧ a = .bool (eqT ys k) ∧ Below w.heap.size w wr) (fun _ _ i _ => n - (intOf i).toNat)
  case atStart => exact ⟨1, Nat.le_refl _, by omega, rfl, by rw [upT_one], by rw [eqT_one], hSBw⟩
  case round =>
    obtain ⟨k, hk1, hk, rfl, rfl, rfl, hbr⟩ := hrel
    by_cases hkl : k < n
    · have c0 := (hbr.cell (p := ⟨b, off, none⟩) hb).trans C0.out
      have ck := (hbr.cell (p := ⟨b, off + k, none⟩) hb).trans (Hc.out k (by omega))
      have hu := upT_succ ys k
      have he := eqT_succ ys k
      have hyk := Hy.out k
      rw [Hz.out] at hu he
      generalize ys.getD k 0 = x at *
      obtain ⟨t1, ht1⟩ : ∃ t, (x == z + (k : Int)) = t := ⟨_, rfl⟩
      obtain ⟨t2, ht2⟩ : ∃ t, (x == z) = t := ⟨_, rfl⟩
      rw [ht1] at hu
      rw [ht2] at he
      have Hu := Lib.hid hu
      have He := Lib.hid he
      clear hu he
      generalize upT ys k = U at *
      generalize eqT ys k = A at *
      have n0 : (0 : Int) ≤ (k : Int) := by omega
      have n1 : (k : Int) < (n : Int) := by omega
      have hws : IntKind.i64.wrap (z + (k : Int)) = z + (k : Int) := by rw [IntWalk.i64_in _ (by omega)]
      clear hw
      cases U <;> cases A
      all_goals
        go_wp2_with fail
        go_quiet (fail)
        go_wp2_with fail
        go_quiet (fail)
        clear hws ht1 ht2 c0 ck
        go_wp2_with fail
        go_roundw
      all_goals first
        | (refine ⟨k + 1, by omega, by omega, by go_num, by rw [Hu.out]; rfl, by rw [He.out]; rfl, ?_⟩; first | assumption | exact below_drewN (below_drewN hbr _) _ | exact below_drewN hbr _)
        | (simp [intOf]; omega)
    · have hkn : k = n := by omega
      subst hkn
      have hO := HO.out
      rw [hn] at hO
      have hfin : ∀ t w1, O = some t → Below w.heap.size w w1 → TextsPost w O (.returned (.slice (some ⟨w1.heap.size, 0, none⟩) 1 1)) (w1.alloc (.cells #[.string t] 9)) := fun t w1 h1 h2 => tx_new h1 h2
      have hnil : O = none → TextsPost w O (.returned (.slice none 0 0)) wr := fun h => ⟨hbr, Or.inl ⟨h, rfl⟩⟩
      have Hfin := Lib.hid hfin
      have Hnil := Lib.hid hnil
      have HDk := Lib.hid (show ∀ w, Calls Tryz.prog 26 #[.int .i64 (k : Int)] w fun e w' => e = .returned (.string (numS ((m : Int) + 1))) ∧ Below w.heap.size w w' by rw [Hnm.out]; exact HDn.out)
      generalize upT ys k = U at *
      generalize eqT ys k = A at *
      cases U with
      | true =>
        have Ho := Lib.hid (show O = some (numS z ++ ⟨#[45]⟩ ++ numS y) by rw [← hO]; rfl)
        clear hO hfin hnil hw
        have s1 : (numS z ++ ⟨#[45]⟩).size ≤ 22 := by rw [ByteArray.size_append]; omega
        go_wp2_with fail
        go_ret
        exact Hfin.out _ _ Ho.out hbr
      | false =>
        cases A with
        | true =>
          have Ho := Lib.hid (show O = some (numS ((m : Int) + 1) ++ ⟨#[120]⟩ ++ numS z) by rw [← hO]; rfl)
          clear hO hfin hnil hw
          have s1 : (numS ((m : Int) + 1) ++ ⟨#[120]⟩).size ≤ 22 := by rw [ByteArray.size_append]; omega
          go_wp2_with fail
          refine (HDk.out _).mono ?_
          rintro e w3 ⟨rfl, hb3⟩
          generalize numS ((m : Int) + 1) = D at *
          go_wp2_with fail
          go_ret
          exact Hfin.out _ _ Ho.out (below_wide2 hbr hb3)
        | false =>
          have Ho := Lib.hid (show O = none by rw [← hO]; rfl)
          clear hO hfin hnil hw
          go_wp2_with fail
          go_ret
          exact Hnil.out Ho.out
end Go.Proofs.YtkbmdmipdcjjcaaGreatDoor
