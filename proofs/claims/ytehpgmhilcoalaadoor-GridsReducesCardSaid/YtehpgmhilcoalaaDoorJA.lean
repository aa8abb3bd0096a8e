/- root of the reference. -/
import Derived.Test.YtehpgmhilcoalaaDoorIB
import Derived.Test.YtehpgmhilcoalaaDoorIM
namespace Go.Proofs.YtehpgmhilcoalaaDoor
open Go.RowKit Go.Lib
set_option linter.unusedSimpArgs false
set_option linter.unusedVariables false
theorem root_any (n : Int) (h0 : 0 ≤ n) (h1 : n < 400000000) (w : World) : Calls Tryd.prog 102 #[.int .i64 n] w fun e w' => e = .returned (.int .i64 (rootI n)) ∧ w' = w := by
  have hv : ∀ r, Root n r → rootI n = r := fun r h => (rootI_ok h0).unique h
  generalize rootI n = v at *
  have HV := Lib.hid hv
  clear hv
  go_enter Tryd.func102, Tryd.ntmps102
  go_wp2_with fail
  go_loopg [3, 4] 20000 (fun kk s3 s4 wr => ∃ lo hi : Int, 0 ≤ lo ∧ lo < hi ∧ hi ≤ 20000 ∧ hi - lo ≤ kk ∧ lo * lo ≤ n ∧ n < hi * hi ∧ s3 = .int .i64 lo ∧ s4 = .int .i64 hi ∧ wr = w)
  case atStart => exact ⟨0, 20000, by omega, by omega, by omega, by omega, by omega, by omega, rfl, rfl, rfl⟩
  case round =>
    rename World => w5
    obtain ⟨lo, hi, a1, a2, a3, a4, a5, a6, rfl, rfl, rfl⟩ := hrel
    have e1 : IntKind.i64.wrap (hi - lo) = hi - lo := IntWalk.i64_in _ (by omega)
    have e1' : wrap64 (hi - lo) = hi - lo := wrap64_id (by omega)
    by_cases hs : 1 < hi - lo
    · have e2 : IntKind.i64.wrap (lo + hi) = lo + hi := IntWalk.i64_in _ (by omega)
      have e2' : wrap64 (lo + hi) = lo + hi := wrap64_id (by omega)
      have m1 : lo < ((lo + hi) / 2) ∧ ((lo + hi) / 2) < hi := by omega
      have e3 : wrap64 (((lo + hi) / 2) * ((lo + hi) / 2)) = ((lo + hi) / 2) * ((lo + hi) / 2) := wrap64_id (by have := mul_bound (a := (lo + hi) / 2) (b := (lo + hi) / 2) (A := 20000) (B := 20000) (by omega) (by omega); omega)
      by_cases hle : ((lo + hi) / 2) * ((lo + hi) / 2) ≤ n
      · go_wp2_with fail
        go_roundg (hi - ((lo + hi) / 2)).toNat
        case measure => omega
        case rel => exact ⟨((lo + hi) / 2), hi, by omega, by omega, a3, by omega, by omega, a6, rfl, rfl, rfl⟩
      · go_wp2_with fail
        go_roundg (((lo + hi) / 2) - lo).toNat
        case measure => omega
        case rel => exact ⟨lo, ((lo + hi) / 2), by omega, by omega, by omega, by omega, a5, by omega, rfl, rfl, rfl⟩
    · have hr : v = lo := HV.out _ ⟨a1, a5, by have : hi = lo + 1 := by omega
                                               rw [← this]; exact a6⟩
      subst hr
      go_wp2_with fail
      go_ret
      exact ⟨rfl, rfl⟩
end Go.Proofs.YtehpgmhilcoalaaDoor
