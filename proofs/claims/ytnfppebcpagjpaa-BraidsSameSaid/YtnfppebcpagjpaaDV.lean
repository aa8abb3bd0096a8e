/- The reference's without and flat walked. -/
import Derived.Test.YtnfppebcpagjpaaDU
namespace Go.Proofs.Ytnfppebcpagjpaa
open Go.RowKit Go.Lib
set_option maxHeartbeats 1000000 in
set_option maxRecDepth 100000 in
theorem refwith_any (n : Nat) (h1 : 1 ≤ n) (hn : n ≤ 12) (q : Nat) (hq : q + 1 < n) (w : World) :
    Calls Try.prog 86 #[.int .i64 (n : Int), .int .i64 ((q : Int) + 1)] w fun e w' => ∃ v', e = .returned v' ∧ OP w' w.heap.size n v' ((dl n).post q) ∧ Below w.heap.size w w' := by
  go_enter Try.func86, Try.ntmps86
  go_wp2_with fail
  refine (refline_any n hn w).mono ?_
  rintro e w2 ⟨v2, rfl, O2, B2⟩
  obtain ⟨g2, c2, rfl⟩ := own_pos O2 (by omega)
  have HO2 := Lib.hid O2
  have Hb2 := Lib.hid B2
  clear O2 B2
  go_wp2_with fail
  go_loopw [6] (fun i wr => ∃ k : Nat, k ≤ n ∧ i = .int .i64 k ∧ wr.ownsRow w.heap.size 3 1 (.slice (some ⟨g2, 0, none⟩) n c2) n ((dlk n k).map (Value.int .i64)) ∧ Below w.heap.size w wr) (fun i _ => n - (intOf i).toNat)
  case atStart => exact ⟨0, Nat.zero_le _, rfl, by rw [dlk_zero]; exact HO2.out, Hb2.out⟩
  case round =>
    obtain ⟨k, hk, rfl, hown, hbw⟩ := hrel
    rename World => wr
    by_cases hkn : k < n
    · have hg2 := hown.lt g2 rfl
      have n1 : IntKind.i64.wrap ((n : Int) - 1) = ((n - 1 : Nat) : Int) := num_in (by omega) (by omega)
      have n2 : IntKind.i64.wrap (((n - 1 : Nat) : Int) - (k : Int)) = ((n - 1 - k : Nat) : Int) := num_in (by omega) (by omega)
      have k0 : (0 : Int) ≤ (k : Int) := by omega
      have k1 : (k : Int) < (n : Int) := by omega
      have ck := hown.cellAt k (by omega)
      rw [List.getElem?_map, dlk, List.getElem?_map, List.getElem?_range hkn] at ck
      simp only [Option.map_some] at ck
      have fk := hown.frozenAt k
      have hst := (hown.stored k (.int .i64 ((n - 1 - k : Nat) : Int))).1
      rw [dlk_set hkn] at hst
      have Hst := Lib.hid hst
      have Hb := Lib.hid (hbw.setCell (p := ⟨g2, k, none⟩) hg2.1 (.int .i64 ((n - 1 - k : Nat) : Int)))
      clear hown hst hbw hg2
      go_wp2_with fail
      go_roundw
      case rel => exact ⟨k + 1, hkn, by go_num, Hst.out, Hb.out⟩
      case measure => (simp [intOf] <;> omega)
    · have e : k = n := by omega
      have k1 : ¬ (k : Int) < (n : Int) := by omega
      rw [e, dlk_all] at hown
      have hI := Lib.hid (is_own hown (ints_len n (dl n)))
      have Hbw := Lib.hid hbw
      clear hown hbw e
      go_wp2_with fail
      refine (refafter_any n h1 hn (dl n) q hq _ wr hI.out).mono ?_
      rintro e w3 ⟨v3, rfl, O3, B3⟩
      have HO3 := Lib.hid (own_mono O3 Hbw.out.size)
      have Hb3 := Lib.hid (bon Hbw.out B3)
      clear O3 B3
      go_wp2_with fail
      go_ret
      exact ⟨_, rfl, HO3.out, Hb3.out⟩
set_option maxHeartbeats 1000000 in
set_option maxRecDepth 100000 in
theorem refflat_any (n : Nat) (h1 : 1 ≤ n) (hn : n ≤ 12) (x : Pm) (hx : x.In n) (way : Int) (hw : way = 1 ∨ way = -1) (r : Bool) (hr : r = true ↔ ∀ i, i + 1 < n → (x.f (i + 1) : Int) = (x.f i : Int) + way) (v : Value) (w : World) (hv : IS w v (ints n x)) :
    Calls Try.prog 88 #[v, .int .i64 way] w fun e w' => e = .returned (.bool r) ∧ Below w.heap.size w w' := by
  obtain ⟨sa, sc, rfl, k1, k2, _, hI⟩ := hv
  unfold maxLen at k2
  rw [ints_len] at k1 ⊢
  have HI := Lib.hid hI
  have Hr := Lib.hid hr
  have Hx := Lib.hid hx
  clear hI hr hx
  go_enter Try.func88, Try.ntmps88
  go_wp2_with fail
  go_loopw [5] (fun i wr => ∃ j : Nat, j + 1 ≤ n ∧ i = .int .i64 ((j : Int) + 1) ∧ (∀ k, k < j → (x.f (k + 1) : Int) = (x.f k : Int) + way) ∧ Below w.heap.size w wr) (fun i _ => n + 1 - (intOf i).toNat)
  case atStart => exact ⟨0, h1, rfl, fun k hk => by omega, Below.refl _ _⟩
  case round =>
    obtain ⟨j, hj, rfl, hall, hbw⟩ := hrel
    have Hall := Lib.hid hall
    clear hall
    by_cases hjn : j + 1 < n
    · have j0 : (0 : Int) ≤ (j : Int) := by omega
      have j1 : (j : Int) + 1 < (n : Int) := by omega
      have j2 : (j : Int) < (n : Int) := by omega
      have j3 : (0 : Int) ≤ (j : Int) + 1 := by omega
      have j4 : ((j : Int) + 1).toNat = j + 1 := by omega
      have n0 : IntKind.i64.wrap ((j : Int) + 1 - 1) = (j : Int) := num_in (by omega) (by omega)
      obtain ⟨b, off, rfl, hb, hc⟩ := HI.out j _ (ints_get x (by omega))
      obtain ⟨b', off', hbb, hb', hc'⟩ := HI.out (j + 1) _ (ints_get x hjn)
      cases hbb
      have e0 := (hbw.cell (p := ⟨b, off + j, none⟩) hb).trans hc
      have e1 := (hbw.cell (p := ⟨b, off + (j + 1), none⟩) hb).trans hc'
      have l0 := Hx.out.lt (show j < n by omega)
      have l1 := Hx.out.lt hjn
      have z1 : IntKind.i64.wrap ((x.f j : Int) + way) = (x.f j : Int) + way := IntWalk.i64_in _ (by omega)
      by_cases hq : (x.f (j + 1) : Int) = (x.f j : Int) + way
      · have hq' : ((x.f (j + 1) : Int) == (x.f j : Int) + way) = true := by simpa using hq
        have Hq := Lib.hid hq
        clear hq hc hc'
        go_wp2_with fail
        go_quiet (fail)
        go_wp2_with fail
        go_roundw
        case rel => exact ⟨j + 1, hjn, by go_num, fun k hk => by
          by_cases e : k = j
          · subst e; exact Hq.out
          · exact Hall.out k (by omega), below_drewN hbw _⟩
        case measure => (simp [intOf] <;> omega)
      · have hq' : ((x.f (j + 1) : Int) == (x.f j : Int) + way) = false := by simpa using hq
        have Hrf := Lib.hid (show r = false from by
          rcases r with _ | _
          · rfl
          · exact absurd (Hr.out.1 rfl j hjn) hq)
        clear hq hc hc'
        go_wp2_with fail
        go_quiet (fail)
        go_wp2_with fail
        go_ret
        exact ⟨by rw [Hrf.out]; rfl, below_drewN hbw _⟩
    · have j1 : ¬ (j : Int) + 1 < (n : Int) := by omega
      have Hrt := Lib.hid (Hr.out.2 (fun i hi => Hall.out i (by omega)))
      go_wp2_with fail
      go_ret
      exact ⟨by rw [Hrt.out]; rfl, hbw⟩
end Go.Proofs.Ytnfppebcpagjpaa
