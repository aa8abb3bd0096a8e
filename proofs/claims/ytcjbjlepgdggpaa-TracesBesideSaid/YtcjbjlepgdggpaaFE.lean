/- Check of layer 4 walked. -/
import Derived.Test.YtcjbjlepgdggpaaFD
namespace Go.Proofs.Ytcjbjlepgdggpaa
open Go.RowKit Go.Lib
set_option maxHeartbeats 400000 in
theorem ok_short {W : List Wk} {w : World} (hs : ∀ x ∈ W, x.wd.size ≤ maxLen) : AllOk (.func (.func 66) #[] #[]) (fun x => !decide (stV x.wd = 3)) W w := fun w' pb x hx hw hpb hc => by
  have B1 := below_alloc w' (.cells #[.int .i64 x.kd, .int .i64 x.pl, .string x.wd] 51)
  have c1 := (B1.cell (p := ⟨pb, 0, none⟩) hpb).trans hc
  have HB1 := Lib.hid B1
  have CI := Lib.hid (fun W h => (show Below w'.heap.size w' W → _ from fun _ => isShort_any x W (hs x hx)) h)
  obtain ⟨r, hr⟩ : ∃ r : Bool, r = (!decide (stV x.wd = 3)) := ⟨_, rfl⟩
  show Calls _ _ _ _ fun e w'' => e = .returned (.bool (!(!decide (stV x.wd = 3)))) ∧ _
  rw [← hr] at CI ⊢
  unfold Wk.val at CI ⊢
  clear hr hc B1
  go_enter Try.func79, Try.ntmps79
  go_wp2_with fail
  refine (CI.out _ HB1.out).mono ?_
  rintro e w1 ⟨rfl, B2⟩
  have HB2 := Lib.hid (bon HB1.out B2)
  clear B2
  go_wp2_with fail
  go_ret
  exact ⟨rfl, HB2.out⟩
set_option maxHeartbeats 400000 in
theorem ok_spelt {W : List Wk} {w : World} (hs : ∀ x ∈ W, x.wd.size ≤ maxLen) : AllOk (.func (.func 67) #[] #[]) (fun x => decide (stV x.wd = 0)) W w := fun w' pb x hx hw hpb hc => by
  have B1 := below_alloc w' (.cells #[.int .i64 x.kd, .int .i64 x.pl, .string x.wd] 51)
  have c1 := (B1.cell (p := ⟨pb, 0, none⟩) hpb).trans hc
  have HB1 := Lib.hid B1
  have CI := Lib.hid (fun W h => (show Below w'.heap.size w' W → _ from fun _ => isSpelt_any x W (hs x hx)) h)
  obtain ⟨r, hr⟩ : ∃ r : Bool, r = (decide (stV x.wd = 0)) := ⟨_, rfl⟩
  show Calls _ _ _ _ fun e w'' => e = .returned (.bool (!(decide (stV x.wd = 0)))) ∧ _
  rw [← hr] at CI ⊢
  unfold Wk.val at CI ⊢
  clear hr hc B1
  go_enter Try.func79, Try.ntmps79
  go_wp2_with fail
  refine (CI.out _ HB1.out).mono ?_
  rintro e w1 ⟨rfl, B2⟩
  have HB2 := Lib.hid (bon HB1.out B2)
  clear B2
  go_wp2_with fail
  go_ret
  exact ⟨rfl, HB2.out⟩
set_option maxHeartbeats 400000 in
theorem check1_any (x : Wk) (sb : Nat) (pairs : Int) (hp : -1000 ≤ pairs ∧ pairs ≤ 1000) (w : World) (hsb : sb < w.heap.size) (hc : w.cell? ⟨sb, 0, none⟩ = some (.int .i64 pairs)) :
    Calls Try.prog 63 #[x.val, .pointer (some ⟨sb, 0, none⟩)] w fun e w' => e = .returned (.bool (x.fits pairs)) ∧ Below w.heap.size w w' := by
  have B1 := below_alloc w (.cells #[.int .i64 x.kd, .int .i64 x.pl, .string x.wd] 51)
  have c1 := (B1.cell (p := ⟨sb, 0, none⟩) hsb).trans hc
  have HB1 := Lib.hid B1
  have CI := Lib.hid (fun W => isAs_any x pairs hp W)
  obtain ⟨r, hr⟩ : ∃ r : Bool, r = x.fits pairs := ⟨_, rfl⟩
  rw [← hr] at CI ⊢
  unfold Wk.val at CI ⊢
  clear hr hc B1
  go_enter Try.func63, Try.ntmps63
  go_wp2_with fail
  refine (CI.out _).mono ?_
  rintro e w1 ⟨rfl, B2⟩
  have HB2 := Lib.hid (bon HB1.out B2)
  clear B2
  go_wp2_with fail
  go_ret
  exact ⟨rfl, HB2.out⟩
set_option maxHeartbeats 400000 in
theorem ok_fits {W : List Wk} {w : World} {sb : Nat} {pairs : Int} (hp : -1000 ≤ pairs ∧ pairs ≤ 1000) (hsb : sb < w.heap.size) (hcs : w.cell? ⟨sb, 0, none⟩ = some (.int .i64 pairs)) : AllOk (.func (.func 63) #[] #[.pointer (some ⟨sb, 0, none⟩)]) (fun x => x.fits pairs) W w := fun w' pb x hx hw hpb hc => by
  have B1 := below_alloc w' (.cells #[.int .i64 x.kd, .int .i64 x.pl, .string x.wd] 51)
  have c1 := (B1.cell (p := ⟨pb, 0, none⟩) hpb).trans hc
  have HB1 := Lib.hid B1
  have CI := Lib.hid (fun W h => (show Below w'.heap.size w' W → _ from fun h => check1_any x sb pairs hp W (Nat.lt_of_lt_of_le hsb (bon hw h).size) (((bon hw h).cell (p := ⟨sb, 0, none⟩) hsb).trans hcs)) h)
  obtain ⟨r, hr⟩ : ∃ r : Bool, r = (x.fits pairs) := ⟨_, rfl⟩
  show Calls _ _ _ _ fun e w'' => e = .returned (.bool (!(x.fits pairs))) ∧ _
  rw [← hr] at CI ⊢
  unfold Wk.val at CI ⊢
  clear hr hc B1
  go_enter Try.func79, Try.ntmps79
  go_wp2_with fail
  refine (CI.out _ HB1.out).mono ?_
  rintro e w1 ⟨rfl, B2⟩
  have HB2 := Lib.hid (bon HB1.out B2)
  clear B2
  go_wp2_with fail
  go_ret
  exact ⟨rfl, HB2.out⟩
end Go.Proofs.Ytcjbjlepgdggpaa
