/- within, cmp.Or, and the tests of validity of the program. -/
import Derived.Test.YtehpgmhilcoalaaDoorGD
namespace Go.Proofs.YtehpgmhilcoalaaDoor
open Go.RowKit Go.Lib
set_option linter.unusedSimpArgs false
theorem intsAt_lit (w : World) (xs : List Int) (T : TypeId) : IntsAt (w.alloc (.cells (xs.map (Value.int .i64)).toArray T)) (some ⟨w.heap.size, 0, none⟩) xs := fun k z hz =>
  ⟨w.heap.size, 0, rfl, by simp, by
    rw [Nat.zero_add, cell_of_row _ _ k _ _ _ (heap_alloc_new w _), List.getElem?_toArray, List.getElem?_map, hz]
    rfl⟩
set_option maxHeartbeats 400000 in
theorem within_any (lim : Int) (hl : 0 ≤ lim ∧ lim ≤ 1000000) (xs : List Int) (a : Option Addr) (c : Nat) (w : World) (h1 : xs.length ≤ c) (h2 : c ≤ maxLen) (hI : IntsAt w a xs) :
    Calls Tryd.prog 81 #[.int .i64 lim, .slice a xs.length c] w fun e w' => e = .returned (.bool (xs.all (inB (-lim) lim))) ∧ w' = w := by
  have HI := Lib.hid hI
  have hw : IntKind.i64.wrap (-lim) = -lim := IntWalk.i64_in _ (by omega)
  unfold maxLen at h2
  obtain ⟨r, hr⟩ : ∃ r, r = xs.all (inB (-lim) lim) := ⟨_, rfl⟩
  rw [← hr]
  have Hr := Lib.hid hr
  clear hI hr
  go_enter Tryd.func81, Tryd.ntmps81
  go_wp2_with fail
  go_loop [9] (fun i => ∃ k : Nat, k ≤ xs.length ∧ i = .int .i64 k ∧ (∀ y ∈ xs.take k, inB (-lim) lim y = true)) (fun i => xs.length - (intOf i).toNat)
  case atStart => exact ⟨0, Nat.zero_le _, rfl, fun y hy => by simp at hy⟩
  case round =>
    obtain ⟨k, hk, rfl, hall⟩ := hrel
    have Hall := Lib.hid hall
    clear hall
    by_cases hkl : k < xs.length
    · obtain ⟨x, hx⟩ : ∃ x, xs[k]? = some x := ⟨_, List.getElem?_eq_getElem hkl⟩
      obtain ⟨bb, off, rfl, hB, hcx⟩ := HI.out k x hx
      have k0 : (0 : Int) ≤ (k : Int) := by omega
      have k1 : (k : Int) < (xs.length : Int) := by omega
      have Hx := Lib.hid hx
      clear hx
      have hbad : inB (-lim) lim x = false → r = false := fun hxl => by
        rw [Hr.out, List.all_eq_false]
        exact ⟨x, List.mem_of_getElem? Hx.out, by rw [hxl]; decide⟩
      have Hbad := Lib.hid hbad
      clear hbad
      by_cases q1 : x < -lim
      · obtain rfl : r = false := Hbad.out (by unfold inB; rw [decide_eq_false (by omega)]; rfl)
        go_wp2_with fail
        go_ret
        exact ⟨rfl, rfl⟩
      · by_cases q2 : lim < x
        · obtain rfl : r = false := Hbad.out (by unfold inB; rw [decide_eq_false (show ¬ x ≤ lim by omega)]; simp)
          go_wp2_with fail
          go_ret
          exact ⟨rfl, rfl⟩
        · have Hok := Lib.hid (show inB (-lim) lim x = true by unfold inB; rw [decide_eq_true (show -lim ≤ x by omega), decide_eq_true (show x ≤ lim by omega)]; rfl)
          go_wp2_with fail
          go_round
          case rel => exact ⟨k + 1, by omega, by go_num, fun y hy => by
            rw [take_more Hx.out, List.mem_append] at hy
            rcases hy with hy | hy
            · exact Hall.out y hy
            · obtain rfl : y = x := by simpa using hy
              exact Hok.out⟩
          case measure => simp [intOf]; omega
    · have e : k = xs.length := by omega
      subst e
      have hrt : r = true := by
        rw [Hr.out, List.all_eq_true]
        intro y hy
        exact Hall.out y (by rw [List.take_length]; exact hy)
      subst hrt
      go_wp2_with fail
      go_ret
      exact ⟨rfl, rfl⟩
set_option maxHeartbeats 400000 in
theorem Or_any (xs : List Int) (a : Option Addr) (c : Nat) (w : World) (h1 : xs.length ≤ c) (h2 : c ≤ maxLen) (hI : IntsAt w a xs) :
    Calls Tryd.prog 88 #[.slice a xs.length c] w fun e w' => e = .returned (.int .i64 (firstOf xs)) ∧ w' = w := by
  have HI := Lib.hid hI
  unfold maxLen at h2
  obtain ⟨r, hr⟩ : ∃ r, r = firstOf xs := ⟨_, rfl⟩
  rw [← hr]
  have Hr := Lib.hid hr
  clear hI hr
  go_enter Tryd.func88, Tryd.ntmps88
  go_wp2_with fail
  go_loop [8] (fun i => ∃ k : Nat, k ≤ xs.length ∧ i = .int .i64 k ∧ r = firstOf (xs.drop k)) (fun i => xs.length - (intOf i).toNat)
  case atStart => exact ⟨0, Nat.zero_le _, rfl, Hr.out⟩
  case round =>
    obtain ⟨k, hk, rfl, hall⟩ := hrel
    have Hall := Lib.hid hall
    clear hall Hr
    by_cases hkl : k < xs.length
    · obtain ⟨x, hx⟩ : ∃ x, xs[k]? = some x := ⟨_, List.getElem?_eq_getElem hkl⟩
      obtain ⟨bb, off, rfl, hB, hcx⟩ := HI.out k x hx
      have k0 : (0 : Int) ≤ (k : Int) := by omega
      have k1 : (k : Int) < (xs.length : Int) := by omega
      have hd : xs.drop k = x :: xs.drop (k + 1) := by
        rw [List.drop_eq_getElem_cons hkl]
        congr
        rw [List.getElem?_eq_getElem hkl] at hx
        exact Option.some.inj hx
      have Hd := Lib.hid hd
      clear hx hd
      by_cases q1 : x = 0
      · subst q1
        go_wp2_with fail
        go_round
        case rel => exact ⟨k + 1, by omega, by go_num, by rw [Hall.out, Hd.out]; simp [firstOf]⟩
        case measure => simp [intOf]; omega
      · obtain rfl : r = x := by rw [Hall.out, Hd.out]; simp [firstOf, q1]
        have q1' : (r == 0) = false := by simpa using q1
        go_wp2_with fail
        go_ret
        exact ⟨rfl, rfl⟩
    · have e : k = xs.length := by omega
      subst e
      obtain rfl : r = 0 := by rw [Hall.out, List.drop_length]; rfl
      go_wp2_with fail
      go_ret
      exact ⟨rfl, rfl⟩
end Go.Proofs.YtehpgmhilcoalaaDoor
