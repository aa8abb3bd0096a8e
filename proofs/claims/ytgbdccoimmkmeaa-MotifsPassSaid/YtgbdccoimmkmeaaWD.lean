/- along: works at places that go up or down. -/
import Derived.Test.YtgbdccoimmkmeaaWC
namespace Go.Proofs.Ytgbdccoimmkmeaa
open Go.RowKit
set_option linter.unusedSimpArgs false
set_option maxHeartbeats 2000000 in
set_option maxRecDepth 100000 in
theorem along_up (wd : ByteArray) (a : Int) (n : Nat) (hn : 1 ≤ n) (hn2 : n ≤ 1000) (ha : -10000 ≤ a ∧ a ≤ 10000) (t : Int) (ht : t = a + ((n : Int) - 1)) (w : World) : Calls Try.prog 35 #[.string wd, .int .i64 a, .int .i64 t] w fun e w' => ∃ v, e = .returned v ∧ WO w.heap.size w' v (upL wd a n) ∧ Below w.heap.size w w' := by
  have HT := Lib.hid ht
  have t0 : ¬ t < a := by omega
  clear ht
  go_enter Try.func35, Try.ntmps35
  go_wp2_with fail
  refine (stitch_any wd a _).mono ?_
  rintro e w1 ⟨rfl, hb⟩
  have B1 := Lib.hid hb
  clear hb
  go_wp2_with fail
  have O2 : WO w.heap.size (w1.alloc (.cells #[.int .i64 1, .int .i64 a, .string wd] 51)) (.slice (some ⟨w1.heap.size, 0, none⟩) 1 1) [⟨a, wd⟩] := by
    have := World.ownsRow_lit w1 #[.int .i64 1, .int .i64 a, .string wd] 1 (base := w.heap.size) (e := 51) (size := 3) B1.out.size (by unfold maxLen; omega) rfl
    exact this
  have B2 : Below w.heap.size w (w1.alloc (.cells #[.int .i64 1, .int .i64 a, .string wd] 51)) := B1.out.alloc B1.out.size _
  generalize (w1.alloc (.cells #[.int .i64 1, .int .i64 a, .string wd] 51)) = w2 at *
  generalize (Value.slice (some ⟨w1.heap.size, 0, none⟩) 1 1) = v2 at *
  have HO2 := Lib.hid O2
  have HB2 := Lib.hid B2
  clear O2 B2
  go_loopw [8, 9] (fun v i wr => ∃ k : Nat, 1 ≤ k ∧ k ≤ n ∧ i = .int .i64 (a + ((k : Int) - 1)) ∧ WO w.heap.size wr v (upL wd a k) ∧ Below w.heap.size w wr) (fun _ i _ => (t - intOf i).toNat)
  case atStart => exact ⟨1, Nat.le_refl _, by omega, by congr 1; omega, by have := HO2.out; simpa [upL] using this, HB2.out⟩
  case round =>
    obtain ⟨k, hk1, hk, rfl, hown, hbw⟩ := hrel
    have HO := Lib.hid hown
    have HB := Lib.hid hbw
    clear hown hbw
    rename World => wk
    by_cases hkl : k < n
    · have kt : ((a + ((k : Int) - 1)) == t) = false := by rw [beq_eq_false_iff_ne]; have := HT.out; omega
      have kn : ¬ (a + ((k : Int) - 1)) = t := by have := HT.out; omega
      obtain ⟨z, hz⟩ : ∃ z : Int, z = a + ((k : Int) - 1) := ⟨_, rfl⟩
      obtain ⟨z2, hz2⟩ : ∃ z2 : Int, z2 = a + (k : Int) := ⟨_, rfl⟩
      rw [← hz] at kt kn ⊢
      have wz : IntKind.i64.wrap (z + 1) = z2 := by rw [show z + 1 = z2 by omega]; exact IntWalk.i64_in _ (by omega)
      have HN := Lib.hid (show upL wd a (k + 1) = upL wd a k ++ [⟨z2, wd⟩] by rw [upL_next, hz2])
      have HZ := Lib.hid hz
      have HZ2 := Lib.hid hz2
      have hlen : (upL wd a k).length ≤ 1000 := by rw [upL_len]; omega
      clear hz hz2
      generalize upL wd a k = D at *
      go_wp2_with fail
      refine (stitch_any wd z2 _).mono ?_
      rintro e w3 ⟨rfl, hb⟩
      have HO3 := Lib.hid (HO.out.below hb)
      have HB3 := Lib.hid (HB.out.trans (hb.mono HB.out.size))
      clear hb
      go_wp2_with (refine app_wk w.heap.size _ D ⟨z2, wd⟩ rfl _ _ rfl rfl HO3.out rfl (by omega) HB3.out HB3.out.size ?_)
      intro v' w' ho' hb'
      have HO4 := Lib.hid ho'
      have HB4 := Lib.hid hb'
      clear ho' hb'
      go_wp2_with fail
      go_roundw
      case rel => exact ⟨k + 1, by omega, hkl, by have := HZ2.out; congr 1; omega, by rw [HN.out]; exact HO4.out, HB4.out⟩
      case measure => have := HZ.out; have := HZ2.out; have := HT.out; simp [intOf]; omega
    · have kt : ((a + ((k : Int) - 1)) == t) = true := by rw [beq_iff_eq]; have := HT.out; omega
      have kn : (a + ((k : Int) - 1)) = t := by have := HT.out; omega
      obtain rfl : k = n := by omega
      rw [kn]
      clear kt kn
      go_wp2_with fail
      go_ret
      exact ⟨_, rfl, HO.out, HB.out⟩
set_option maxHeartbeats 2000000 in
set_option maxRecDepth 100000 in
theorem along_dn2 (wd : ByteArray) (a : Int) (n : Nat) (hn : 2 ≤ n) (hn2 : n ≤ 1000) (ha : -10000 ≤ a ∧ a ≤ 10000) (t : Int) (ht : t = a - ((n : Int) - 1)) (w : World) : Calls Try.prog 35 #[.string wd, .int .i64 a, .int .i64 t] w fun e w' => ∃ v, e = .returned v ∧ WO w.heap.size w' v (dnL wd a n) ∧ Below w.heap.size w w' := by
  have HT := Lib.hid ht
  have t0 : t < a := by omega
  clear ht
  go_enter Try.func35, Try.ntmps35
  go_wp2_with fail
  refine (stitch_any wd a _).mono ?_
  rintro e w1 ⟨rfl, hb⟩
  have B1 := Lib.hid hb
  clear hb
  go_wp2_with fail
  have O2 : WO w.heap.size (w1.alloc (.cells #[.int .i64 1, .int .i64 a, .string wd] 51)) (.slice (some ⟨w1.heap.size, 0, none⟩) 1 1) [⟨a, wd⟩] := by
    have := World.ownsRow_lit w1 #[.int .i64 1, .int .i64 a, .string wd] 1 (base := w.heap.size) (e := 51) (size := 3) B1.out.size (by unfold maxLen; omega) rfl
    exact this
  have B2 : Below w.heap.size w (w1.alloc (.cells #[.int .i64 1, .int .i64 a, .string wd] 51)) := B1.out.alloc B1.out.size _
  generalize (w1.alloc (.cells #[.int .i64 1, .int .i64 a, .string wd] 51)) = w2 at *
  generalize (Value.slice (some ⟨w1.heap.size, 0, none⟩) 1 1) = v2 at *
  have HO2 := Lib.hid O2
  have HB2 := Lib.hid B2
  clear O2 B2
  go_loopw [8, 9] (fun v i wr => ∃ k : Nat, 1 ≤ k ∧ k ≤ n ∧ i = .int .i64 (a - ((k : Int) - 1)) ∧ WO w.heap.size wr v (dnL wd a k) ∧ Below w.heap.size w wr) (fun _ i _ => (intOf i - t).toNat)
  case atStart => exact ⟨1, Nat.le_refl _, by omega, by congr 1; omega, by have := HO2.out; simpa [dnL] using this, HB2.out⟩
  case round =>
    obtain ⟨k, hk1, hk, rfl, hown, hbw⟩ := hrel
    have HO := Lib.hid hown
    have HB := Lib.hid hbw
    clear hown hbw
    rename World => wk
    by_cases hkl : k < n
    · have kt : ((a - ((k : Int) - 1)) == t) = false := by rw [beq_eq_false_iff_ne]; have := HT.out; omega
      have kn : ¬ (a - ((k : Int) - 1)) = t := by have := HT.out; omega
      obtain ⟨z, hz⟩ : ∃ z : Int, z = a - ((k : Int) - 1) := ⟨_, rfl⟩
      obtain ⟨z2, hz2⟩ : ∃ z2 : Int, z2 = a - (k : Int) := ⟨_, rfl⟩
      rw [← hz] at kt kn ⊢
      have wz : IntKind.i64.wrap (z + -1) = z2 := by rw [show z + -1 = z2 by omega]; exact IntWalk.i64_in _ (by omega)
      have HN := Lib.hid (show dnL wd a (k + 1) = dnL wd a k ++ [⟨z2, wd⟩] by rw [dnL_next, hz2])
      have HZ := Lib.hid hz
      have HZ2 := Lib.hid hz2
      have hlen : (dnL wd a k).length ≤ 1000 := by rw [dnL_len]; omega
      clear hz hz2
      generalize dnL wd a k = D at *
      go_wp2_with fail
      refine (stitch_any wd z2 _).mono ?_
      rintro e w3 ⟨rfl, hb⟩
      have HO3 := Lib.hid (HO.out.below hb)
      have HB3 := Lib.hid (HB.out.trans (hb.mono HB.out.size))
      clear hb
      go_wp2_with (refine app_wk w.heap.size _ D ⟨z2, wd⟩ rfl _ _ rfl rfl HO3.out rfl (by omega) HB3.out HB3.out.size ?_)
      intro v' w' ho' hb'
      have HO4 := Lib.hid ho'
      have HB4 := Lib.hid hb'
      clear ho' hb'
      go_wp2_with fail
      go_roundw
      case rel => exact ⟨k + 1, by omega, hkl, by have := HZ2.out; congr 1; omega, by rw [HN.out]; exact HO4.out, HB4.out⟩
      case measure => have := HZ.out; have := HZ2.out; have := HT.out; simp [intOf]; omega
    · have kt : ((a - ((k : Int) - 1)) == t) = true := by rw [beq_iff_eq]; have := HT.out; omega
      have kn : (a - ((k : Int) - 1)) = t := by have := HT.out; omega
      obtain rfl : k = n := by omega
      rw [kn]
      clear kt kn
      go_wp2_with fail
      go_ret
      exact ⟨_, rfl, HO.out, HB.out⟩
theorem along_dn (wd : ByteArray) (a : Int) (n : Nat) (hn : 1 ≤ n) (hn2 : n ≤ 1000) (ha : -10000 ≤ a ∧ a ≤ 10000) (t : Int) (ht : t = a - ((n : Int) - 1)) (w : World) : Calls Try.prog 35 #[.string wd, .int .i64 a, .int .i64 t] w fun e w' => ∃ v, e = .returned v ∧ WO w.heap.size w' v (dnL wd a n) ∧ Below w.heap.size w w' := by
  by_cases h : n = 1
  · subst h
    have : dnL wd a 1 = upL wd a 1 := by simp [dnL, upL]
    rw [this]
    exact along_up wd a 1 hn hn2 ha t (by omega) w
  · exact along_dn2 wd a n (by omega) hn2 ha t ht w
end Go.Proofs.Ytgbdccoimmkmeaa
