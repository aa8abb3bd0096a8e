/- same of the law: two rows that show one list. -/
import Derived.Test.YtjekfkmcgfnkaaaDoorJI
import Derived.Test.YtjekfkmcgfnkaaaDoorGZ
namespace Go.Proofs.YtjekfkmcgfnkaaaDoor
open Go.RowKit Go.Lib
set_option linter.unusedSimpArgs false
set_option linter.unusedVariables false
set_option maxHeartbeats 2000000 in
set_option maxRecDepth 100000 in
theorem same_any {G : List Mat} {ao1 ao2 : Option Addr} {c1 c2 : Nat} (hn : G.length ≤ 100) (w : World) (h1 : MsAt w ao1 G) (h2 : MsAt w ao2 G) :
    Calls Tryd.prog 28 #[.slice ao1 G.length c1, .slice ao2 G.length c2] w fun e w' => e = .returned (.bool true) ∧ Below w.heap.size w w' := by
  have M1 := Lib.hid h1
  have M2 := Lib.hid h2
  clear h1 h2
  go_enter Tryd.func28, Tryd.ntmps28
  go_wp2_with fail
  go_loopg [5] G.length (fun kk s wr => ∃ i : Nat, i ≤ G.length ∧ G.length - i ≤ kk ∧ s = .int .i64 i ∧ MsAt wr ao1 G ∧ MsAt wr ao2 G ∧ w.heap.size ≤ wr.heap.size ∧ Below w.heap.size w wr)
  case atStart => exact ⟨0, by omega, by omega, rfl, M1.out, M2.out, Nat.le_refl _, Below.refl _ _⟩
  case round =>
    rename World => w50
    obtain ⟨i, hi, hkk, rfl, m1, m2, y50, hb⟩ := hrel
    clear M1 M2
    have M1 := Lib.hid m1
    have M2 := Lib.hid m2
    have D50 := Lib.hid hb
    have z50 := D50.out.size
    clear hb m1 m2
    by_cases hlt : i < G.length
    · obtain ⟨x, hx⟩ : ∃ x, G[i]? = some x := ⟨_, List.getElem?_eq_getElem hlt⟩
      obtain ⟨xb, off1, ha1, hs1, hr1⟩ := M1.out i x hx
      obtain ⟨yb, off2, ha2, hs2, hr2⟩ := M2.out i x hx
      subst ha1
      subst ha2
      have i0 : (0 : Int) ≤ (i : Int) := by omega
      have i1 : (i : Int) < ((G.length : Nat) : Int) := by omega
      clear hx
      go_wp2_with fail
      refine wp_region_class (fun w' => Below w50.heap.size w50 w') 8 (by kernel_rfl) (by kernel_rfl) (Below.refl _ w50).drew ?_
      simp only [List.take_succ_cons, List.take_zero, List.drop_succ_cons, List.drop_zero]
      refine quiet_moveV rfl _ rfl _ rfl ?_
      simp only [Act.put, List.setIfInBounds_toArray, List.set_cons_zero, List.set_cons_succ]
      refine quiet_moveV rfl _ rfl _ rfl ?_
      simp only [Act.put, List.setIfInBounds_toArray, List.set_cons_zero, List.set_cons_succ]
      refine quiet_still rfl (.pointer (some ⟨xb, off1 + i * 4, none⟩)) (fun w _ => by go_simp) ?_
      simp only [Act.put, List.setIfInBounds_toArray, List.set_cons_zero, List.set_cons_succ]
      refine quiet_load_mid rfl _ _ rfl xb (off1 + i * 4) rfl [.int .i64 x.a, .int .i64 x.b, .int .i64 x.c, .int .i64 x.d] _ (fun w' h => range_belowM hr1 h (by first | omega | (simp; omega) | (simp; done))) Tryd.underlying40 rfl (by kernel_rfl) ?_
      simp only [Act.put, List.setIfInBounds_toArray, List.set_cons_zero, List.set_cons_succ]
      refine quiet_moveV rfl _ rfl _ rfl ?_
      simp only [Act.put, List.setIfInBounds_toArray, List.set_cons_zero, List.set_cons_succ]
      refine quiet_moveV rfl _ rfl _ rfl ?_
      simp only [Act.put, List.setIfInBounds_toArray, List.set_cons_zero, List.set_cons_succ]
      refine quiet_still rfl (.pointer (some ⟨yb, off2 + i * 4, none⟩)) (fun w _ => by go_simp) ?_
      simp only [Act.put, List.setIfInBounds_toArray, List.set_cons_zero, List.set_cons_succ]
      refine quiet_load_mid rfl _ _ rfl yb (off2 + i * 4) rfl [.int .i64 x.a, .int .i64 x.b, .int .i64 x.c, .int .i64 x.d] _ (fun w' h => range_belowM hr2 h (by first | omega | (simp; omega) | (simp; done))) Tryd.underlying40 rfl (by kernel_rfl) ?_
      simp only [Act.put, List.setIfInBounds_toArray, List.set_cons_zero, List.set_cons_succ]
      intro w51 hb
      have m1 := M1.out.below hb
      have m2 := M2.out.below hb
      have y51 := hb.size
      have D51 := Lib.hid (D50.out.trans (hb.mono z50))
      clear M1 M2 hr1 hr2 hb
      have M1 := Lib.hid m1
      have M2 := Lib.hid m2
      clear m1 m2
      go_wp2_with fail
      go_roundg (G.length - (i + 1))
      case measure => omega
      case rel => exact ⟨i + 1, hlt, Nat.le_refl _, by go_num, M1.out, M2.out, by omega, D51.out⟩
    · obtain rfl : i = G.length := by omega
      go_wp2_with fail
      go_ret
      exact ⟨rfl, D50.out⟩
end Go.Proofs.YtjekfkmcgfnkaaaDoor
