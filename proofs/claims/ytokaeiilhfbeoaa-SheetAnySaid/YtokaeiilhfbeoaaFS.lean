/- The reference's end: where the edge ends that is in a place. -/
import Derived.Test.YtokaeiilhfbeoaaFR
namespace Go.Proofs.Ytokaeiilhfbeoaa
open Go.RowKit Go.Shelf Go.Lib
attribute [local go_sem] Oper.semAt_some
set_option maxHeartbeats 1000000 in
set_option maxRecDepth 100000 in
theorem refEnd_any (pr : Int) (W : List Wk) (hs : Small W) (u : Value) (w : World) (hu : WS w u W) (f : Nat) (p : Int) (hp : -1000 ≤ p ∧ p ≤ 1000) :
    Calls Try.prog 36 #[.agg #[.int .i64 pr, u], .int .i64 (f : Int), .int .i64 p] w fun e w' => e = .returned (.tuple #[.int .i64 (endL (W.drop f) f p).1, .int .i64 (endL (W.drop f) f p).2]) ∧ Below w.heap.size w w' := by
  obtain ⟨a, c, rfl, h1, h2, hW⟩ := hu
  unfold maxLen at h2
  have HW := Lib.hid hW
  obtain ⟨hl, hsm⟩ := hs
  have Hsm := Lib.hid hsm
  have hr0 := heap_alloc_new w (.cells #[.int .i64 pr, .slice a W.length c] 24)
  have B0 := below_alloc w (.cells #[.int .i64 pr, .slice a W.length c] 24)
  have hz0 : (w.alloc (.cells #[.int .i64 pr, .slice a W.length c] 24)).heap.size = w.heap.size + 1 := World.size_alloc _ _
  have HB := Lib.hid B0
  clear hW hsm B0
  obtain ⟨r, hre⟩ : ∃ r, r = endL (W.drop f) f p := ⟨_, rfl⟩
  rw [← hre]
  go_enter Try.func36, Try.ntmps36
  go_wp2_with fail
  generalize w.alloc (.cells #[.int .i64 pr, .slice a W.length c] 24) = W0 at *
  have Hz0 := Lib.hid hz0
  go_loopw [8] (fun i wr => ∃ k : Nat, i = .int .i64 k ∧ r = endL (W.drop k) k p ∧ wr.heap[w.heap.size]? = some (.cells #[.int .i64 pr, .slice a W.length c] 24 (0, 0)) ∧ Below w.heap.size w wr) (fun i _ => W.length - (intOf i).toNat)
  case atStart => exact ⟨f, rfl, hre, hr0, HB.out⟩
  case round =>
    clear hre hr0 HB hz0
    obtain ⟨k, rfl, he, hr, hb⟩ := hrel
    have He := Lib.hid he
    have cs := cell_of_row wr _ 1 _ _ _ hr
    have hlt := (Array.getElem?_eq_some_iff.1 hr).1
    have Hr := Lib.hid hr
    have Hb := Lib.hid hb
    simp only [List.getElem?_toArray, List.getElem?_cons_succ, List.getElem?_cons_zero] at cs
    clear he hr
    by_cases hkl : k < W.length
    · obtain ⟨x, hx⟩ : ∃ x, W[k]? = some x := ⟨_, List.getElem?_eq_getElem hkl⟩
      obtain ⟨b, off, rfl, hbz, hrg, _⟩ := HW.out k x hx
      have x0 := (hb.cell (p := ⟨b, off + k * 3, none⟩) hbz).trans (hrg 0 _ rfl)
      have x1 := (hb.cell (p := ⟨b, off + k * 3 + 1, none⟩) hbz).trans (hrg 1 _ rfl)
      have x2 := (hb.cell (p := ⟨b, off + k * 3 + 2, none⟩) hbz).trans (hrg 2 _ rfl)
      have hxp := Hsm.out x (List.mem_of_getElem? hx)
      have j0 : (0 : Int) ≤ (k : Int) := by omega
      have j1 : (k : Int) < (W.length : Int) := by omega
      have n1 : IntKind.i64.wrap (p - x.pl) = p - x.pl := IntWalk.i64_in _ (by omega)
      have Hx := Lib.hid hx
      have CT := Lib.hid (refTakes_any x p wr hxp)
      unfold Wk.val at CT
      clear hrg hx hb
      obtain ⟨t, ht⟩ : ∃ t, t = takesP x p := ⟨_, rfl⟩
      rw [← ht] at CT
      rcases t with _ | _
      · have hE := Lib.hid (He.out.trans (endL_miss Hx.out (fun h => by unfold takesP at ht; simp at ht; omega)))
        clear ht
        go_wp2_with fail
        refine CT.out.mono ?_
        rintro e w2 ⟨rfl, B2⟩
        have Hr2 := Lib.hid ((B2.block _ hlt).trans Hr.out)
        have Hb2 := Lib.hid (bon Hb.out B2)
        clear CT B2
        go_wp2_with fail
        go_roundw
        case rel => exact ⟨k + 1, by go_num, hE.out, Hr2.out, Hb2.out⟩
        case measure => (simp [intOf] <;> omega)
      · have hE := Lib.hid (He.out.trans (endL_hit Hx.out (by unfold takesP at ht; simp at ht; omega) (by unfold takesP at ht; simp at ht; omega)))
        clear ht
        go_wp2_with fail
        refine CT.out.mono ?_
        rintro e w2 ⟨rfl, B2⟩
        have y1 := (B2.cell (p := ⟨b, off + k * 3 + 1, none⟩) (Nat.lt_of_lt_of_le hbz Hb.out.size)).trans x1
        have cs2 := (B2.cell (p := ⟨w.heap.size, 1, none⟩) hlt).trans cs
        have Hb2 := Lib.hid (bon Hb.out B2)
        clear CT B2
        go_wp2_with fail
        go_region
        go_wp2_with fail
        go_ret2
        rw [hE.out]
        exact ⟨rfl, Hb2.out.drew⟩
    · have j1 : ¬ (k : Int) < (W.length : Int) := by omega
      have hE := Lib.hid (He.out.trans (endL_none (by omega)))
      go_wp2_with fail
      go_ret2
      rw [hE.out]
      exact ⟨rfl, Hb.out⟩
end Go.Proofs.Ytokaeiilhfbeoaa
