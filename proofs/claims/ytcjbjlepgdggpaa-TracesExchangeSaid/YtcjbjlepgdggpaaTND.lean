/- The law of exchanges of neighbours. -/
import Derived.Test.YtcjbjlepgdggpaaTNC
import Derived.Test.YtcjbjlepgdggpaaTW
namespace Go.Proofs.Ytcjbjlepgdggpaa
open Go.RowKit Go.Shelf Go.Lib
set_option maxRecDepth 100000
set_option linter.unusedSimpArgs false
attribute [local irreducible] wpQuiet
theorem ws_other {bx : Nat} {w w' : World} {v : Value} {W : List Wk} {u0 u1 : Value} (h : WS w v W) (hbx : w.heap[bx]? = some (.cells #[u0, u1] 24 (0, 0))) (hk : ∀ (k : Nat) (ob : Option Obj), w.heap[k]? = ob → k ≠ bx → w'.heap[k]? = ob) (hz : w'.heap.size = w.heap.size) : WS w' v W := by
  obtain ⟨a, c, e, h1, h2, h3⟩ := h
  refine ⟨a, c, e, h1, h2, fun k x hx => ?_⟩
  obtain ⟨b, off, e1, e2, e3, e4⟩ := h3 k x hx
  refine ⟨b, off, e1, by rw [hz]; exact e2, fun j u hu => ?_, e4⟩
  by_cases hne : b = bx
  · subst hne
    have q := e3 2 _ rfl
    rw [cell_of_row w _ _ _ _ _ hbx] at q
    simp at q
  · rw [← e3 j u hu]
    exact World.cell?_of_block (hk b _ rfl hne)
theorem is_other {bx : Nat} {w w' : World} {v : Value} {zs : List Int} {p : Int} {a1 a2 : Option Addr} {n1 n2 m1 m2 : Nat} (h : IS w v zs) (hbx : w.heap[bx]? = some (.cells #[.int .i64 p, .slice a1 n1 m1] 24 (0, 0))) (hby : w'.heap[bx]? = some (.cells #[.int .i64 p, .slice a2 n2 m2] 24 (0, 0)))
    (hk : ∀ (k : Nat) (ob : Option Obj), w.heap[k]? = ob → k ≠ bx → w'.heap[k]? = ob) (hz : w'.heap.size = w.heap.size) : IS w' v zs := by
  obtain ⟨a, c, e, h1, h2, h0, h3⟩ := h
  refine ⟨a, c, e, h1, h2, h0, fun k z hz' => ?_⟩
  obtain ⟨b, off, e1, e2, e3⟩ := h3 k z hz'
  refine ⟨b, off, e1, by rw [hz]; exact e2, ?_⟩
  by_cases hne : b = bx
  · subst hne
    rw [cell_of_row w _ _ _ _ _ hbx] at e3
    rw [cell_of_row w' _ _ _ _ _ hby]
    generalize off + k = q at *
    match q, e3 with
    | 0, e3 => exact e3
    | 1, e3 => simp at e3
    | q + 2, e3 => simp at e3
  · rw [← e3]
    exact World.cell?_of_block (hk b _ rfl hne)
theorem xr_oth2 {B bx bo : Nat} {w w' : World} {v : Value} {L : List Wk} (h : XR B bo w v L) {u0 u1 : Value} (hbx : w.heap[bx]? = some (.cells #[u0, u1] 24 (0, 0))) (hk : ∀ (k : Nat) (ob : Option Obj), w.heap[k]? = ob → k ≠ bx → w'.heap[k]? = ob) (hz : w'.heap.size = w.heap.size) : XR B bo w' v L := by
  obtain ⟨av, cap, rfl, h1, h2, h3⟩ := h
  refine ⟨av, cap, rfl, h1, h2, ?_⟩
  rcases h3 with rfl | ⟨g, rfl, h4, h5, h6⟩
  · exact .inl rfl
  · refine .inr ⟨g, rfl, h4, h5, by rw [hz]; exact h6.1, h6.2.1, fun k x hx => ?_⟩
    obtain ⟨a, b⟩ := h6.2.2 k x hx
    have hne : g ≠ bx := fun e => by
      subst e
      have q := a 2 _ rfl
      rw [cell_of_row w _ _ _ _ _ hbx] at q
      simp at q
    have e := hk g _ rfl hne
    refine ⟨fun j u hu => (World.cell?_of_block e).trans (a j u hu), fun j hj => ?_⟩
    have := b j hj
    rw [World.cell?_of_block e]
    refine ⟨this.1, ?_⟩
    have h2 := this.2
    unfold World.frozen? at h2 ⊢
    simp only [e]
    exact h2
set_option maxHeartbeats 16000000 in
theorem exchange_law (a : Sh) (ua ha : Option Addr) (uc hc wh : Nat) (zs : List Nat) (w : World) (hu : WS w (.slice ua a.ws.length uc) a.ws) (h0 : ua = none → uc = 0) (hz : HS w (.slice ha zs.length hc) zs) (hwh : wh < 256) :
    Calls Try.prog 8 #[.agg #[.int .i64 a.pr, .slice ua a.ws.length uc], .slice ha zs.length hc, .int .u8 (wh : Int)] w fun e w' => e = .returned (.bool true) ∧ Below w.heap.size w w' := by
  have HU := Lib.hid hu
  have HU0 := Lib.hid hu
  have HZ := Lib.hid hz
  have CA := Lib.hid (fun W => awake_any W)
  have CK := Lib.hid (fun W h => refCheck4_any a (.agg #[.int .i64 a.pr, .slice ua a.ws.length uc]) W h)
  have hl4 : a.ws.length ≤ maxLen ∧ zs.length ≤ maxLen := by
    obtain ⟨_, _, e1, q1, q2, _⟩ := hu
    obtain ⟨_, _, e2, q3, q4, _⟩ := hz
    injection e1 with e11 e12 e13
    injection e2 with e21 e22 e23
    exact ⟨by omega, by omega⟩
  have CX := Lib.hid (fun W h1 h2 h3 h4 => exchanged_any a ua ha uc hc zs W h1 h0 h2 h3 h4)
  have HF := Lib.hid (fun h => exC a zs h)
  generalize hbs : exL a.ws zs = V at *
  clear hbs
  clear hu h0 hz
  go_enter Try.func8, Try.ntmps8
  go_wp2_with fail
  have B0 := below_alloc w (.cells #[.int .i64 a.pr, .slice ua a.ws.length uc] 24)
  have hz0 : w.heap.size < (w.alloc (.cells #[.int .i64 a.pr, .slice ua a.ws.length uc] 24)).heap.size := by simp
  have i0 := heap_alloc_new w (.cells #[.int .i64 a.pr, .slice ua a.ws.length uc] 24)
  generalize w.alloc (.cells #[.int .i64 a.pr, .slice ua a.ws.length uc] 24) = w0 at *
  have HB := Lib.hid B0
  have HA := Lib.hid (show w0.heap[w.heap.size]? = some (.cells #[.int .i64 a.pr, .slice ua a.ws.length uc] 24 (0, 0)) from i0)
  clear i0 B0
  have cA0 : w0.cell? ⟨w.heap.size, 0, none⟩ = some (.int .i64 a.pr) := cell_of_row w0 _ 0 _ _ _ HA.out
  have cA1 : w0.cell? ⟨w.heap.size, 1, none⟩ = some (.slice ua a.ws.length uc) := cell_of_row w0 _ 1 _ _ _ HA.out
  replace HU := Lib.hid (HU.out.below HB.out)
  replace HZ := Lib.hid (HZ.out.below HB.out)
  refine (CK.out w0 ⟨_, rfl, HU.out⟩).mono ?_
  rintro e w1 ⟨rfl, b1⟩
  replace HA := Lib.hid (hb_below b1 HA.out (by omega))
  have hzw1 : w0.heap.size ≤ w1.heap.size := b1.size
  replace HU := Lib.hid (HU.out.below b1)
  replace HZ := Lib.hid (HZ.out.below b1)
  replace HB := Lib.hid (bon HB.out b1)
  clear b1
  clear cA0 cA1
  have cA0 : w1.cell? ⟨w.heap.size, 0, none⟩ = some (.int .i64 a.pr) := cell_of_row w1 _ 0 _ _ _ HA.out
  have cA1 : w1.cell? ⟨w.heap.size, 1, none⟩ = some (.slice ua a.ws.length uc) := cell_of_row w1 _ 1 _ _ _ HA.out
  by_cases hck : chkS a = 0
  · have hck' : (chkS a == 0) = true := beq_iff_eq.2 hck
    by_cases h80 : a.ws.length ≤ 80
    · have k80 : ¬ (80 : Int) < (a.ws.length : Int) := by omega
      by_cases h1000 : zs.length ≤ 1000
      · have k1000 : ¬ (1000 : Int) < (zs.length : Int) := by omega
        obtain ⟨ml, pl, ql, cl, dl, CW, hE⟩ := HF.out hck
        have HE := Lib.hid hE
        have hsm := (chk_small hck).2.2
        clear hE HF CK
        go_wp2_with fail
        refine (CX.out w1 HU.out HZ.out hsm (by omega)).mono ?_
        rintro e w2 ⟨bv, rfl, hxr, b2⟩
        replace HA := Lib.hid (hb_below b2 HA.out (by omega))
        have hzw2 : w1.heap.size ≤ w2.heap.size := b2.size
        replace HU := Lib.hid (HU.out.below b2)
        replace HZ := Lib.hid (HZ.out.below b2)
        replace HB := Lib.hid (bon HB.out b2)
        clear b2
        clear cA0 cA1
        have cA0 : w2.cell? ⟨w.heap.size, 0, none⟩ = some (.int .i64 a.pr) := cell_of_row w2 _ 0 _ _ _ HA.out
        have cA1 : w2.cell? ⟨w.heap.size, 1, none⟩ = some (.slice ua a.ws.length uc) := cell_of_row w2 _ 1 _ _ _ HA.out
        have HXR := Lib.hid hxr
        have HV := Lib.hid hxr.ws
        obtain ⟨av, cap, rfl, q1, q2, hg0⟩ := id hxr
        have HGB := Lib.hid (show V = [] ∨ ∃ g, av = some ⟨g, 0, none⟩ ∧ w1.heap.size ≤ g ∧ g < w2.heap.size from hg0.imp id fun ⟨g, e, h1, _, h2⟩ => ⟨g, e, h1, h2.1⟩)
        clear hg0
        clear hxr CX HZ k1000 k80
        go_upto_region 4 with fail
        have bw3 := below_alloc w2 (.cells #[.int .i64 a.pr, .slice av V.length cap] 24)
        have iw3 := heap_alloc_new w2 (.cells #[.int .i64 a.pr, .slice av V.length cap] 24)
        have hltw3 : w2.heap.size < (w2.alloc (.cells #[.int .i64 a.pr, .slice av V.length cap] 24)).heap.size := by simp
        generalize w2.alloc (.cells #[.int .i64 a.pr, .slice av V.length cap] 24) = w3 at *
        replace HA := Lib.hid (hb_below bw3 HA.out (by omega))
        replace HU := Lib.hid (HU.out.below bw3)
        replace HV := Lib.hid (HV.out.below bw3)
        replace HXR := Lib.hid (HXR.out.below bw3)
        replace HB := Lib.hid (bon HB.out bw3)
        have HBB := Lib.hid (show w3.heap[w2.heap.size]? = some (.cells #[.int .i64 a.pr, .slice av V.length cap] 24 (0, 0)) from iw3)
        clear iw3 bw3
        clear cA0 cA1
        have cA0 : w3.cell? ⟨w.heap.size, 0, none⟩ = some (.int .i64 a.pr) := cell_of_row w3 _ 0 _ _ _ HA.out
        have cA1 : w3.cell? ⟨w.heap.size, 1, none⟩ = some (.slice ua a.ws.length uc) := cell_of_row w3 _ 1 _ _ _ HA.out
        have cBB0 : w3.cell? ⟨w2.heap.size, 0, none⟩ = some (.int .i64 a.pr) := cell_of_row w3 _ 0 _ _ _ HBB.out
        have cBB1 : w3.cell? ⟨w2.heap.size, 1, none⟩ = some (.slice av V.length cap) := cell_of_row w3 _ 1 _ _ _ HBB.out
        go_wp2_with fail
        refine (HE.out.same _ _ w3 HU.out HV.out).mono ?_
        rintro e w4 ⟨rfl, b4⟩
        replace HA := Lib.hid (hb_below b4 HA.out (by omega))
        replace HBB := Lib.hid (hb_below b4 HBB.out (by omega))
        have hzw4 : w3.heap.size ≤ w4.heap.size := b4.size
        replace HU := Lib.hid (HU.out.below b4)
        replace HV := Lib.hid (HV.out.below b4)
        replace HXR := Lib.hid (HXR.out.below b4)
        replace HB := Lib.hid (bon HB.out b4)
        clear b4
        clear cA0 cA1 cBB0 cBB1
        have cA0 : w4.cell? ⟨w.heap.size, 0, none⟩ = some (.int .i64 a.pr) := cell_of_row w4 _ 0 _ _ _ HA.out
        have cA1 : w4.cell? ⟨w.heap.size, 1, none⟩ = some (.slice ua a.ws.length uc) := cell_of_row w4 _ 1 _ _ _ HA.out
        have cBB0 : w4.cell? ⟨w2.heap.size, 0, none⟩ = some (.int .i64 a.pr) := cell_of_row w4 _ 0 _ _ _ HBB.out
        have cBB1 : w4.cell? ⟨w2.heap.size, 1, none⟩ = some (.slice av V.length cap) := cell_of_row w4 _ 1 _ _ _ HBB.out
        go_wp2_with fail
        refine (HE.out.mat _ _ w4 HU.out HV.out).mono ?_
        rintro e w5 ⟨lm, rfl, him, b5⟩
        have HIM := Lib.hid him
        obtain ⟨ma, mc, rfl, _⟩ := id him
        rw [HE.out.mlen] at HIM ⊢
        clear him
        replace HA := Lib.hid (hb_below b5 HA.out (by omega))
        replace HBB := Lib.hid (hb_below b5 HBB.out (by omega))
        have hzw5 : w4.heap.size ≤ w5.heap.size := b5.size
        replace HU := Lib.hid (HU.out.below b5)
        replace HV := Lib.hid (HV.out.below b5)
        replace HXR := Lib.hid (HXR.out.below b5)
        replace HB := Lib.hid (bon HB.out b5)
        clear b5
        clear cA0 cA1 cBB0 cBB1
        have cA0 : w5.cell? ⟨w.heap.size, 0, none⟩ = some (.int .i64 a.pr) := cell_of_row w5 _ 0 _ _ _ HA.out
        have cA1 : w5.cell? ⟨w.heap.size, 1, none⟩ = some (.slice ua a.ws.length uc) := cell_of_row w5 _ 1 _ _ _ HA.out
        have cBB0 : w5.cell? ⟨w2.heap.size, 0, none⟩ = some (.int .i64 a.pr) := cell_of_row w5 _ 0 _ _ _ HBB.out
        have cBB1 : w5.cell? ⟨w2.heap.size, 1, none⟩ = some (.slice av V.length cap) := cell_of_row w5 _ 1 _ _ _ HBB.out
        go_wp2_with fail
        refine (HE.out.reo _ _ w5 HU.out HIM.out).mono ?_
        rintro e w6 ⟨x1, rfl, hx1, b6⟩
        have HX1 := Lib.hid hx1
        obtain ⟨xa1, xc1, rfl, _⟩ := id hx1
        clear hx1
        replace HA := Lib.hid (hb_below b6 HA.out (by omega))
        replace HBB := Lib.hid (hb_below b6 HBB.out (by omega))
        have hzw6 : w5.heap.size ≤ w6.heap.size := b6.size
        replace HU := Lib.hid (HU.out.below b6)
        replace HV := Lib.hid (HV.out.below b6)
        replace HXR := Lib.hid (HXR.out.below b6)
        replace HIM := Lib.hid (HIM.out.below b6)
        replace HB := Lib.hid (bon HB.out b6)
        clear b6
        clear cA0 cA1 cBB0 cBB1
        have cA0 : w6.cell? ⟨w.heap.size, 0, none⟩ = some (.int .i64 a.pr) := cell_of_row w6 _ 0 _ _ _ HA.out
        have cA1 : w6.cell? ⟨w.heap.size, 1, none⟩ = some (.slice ua a.ws.length uc) := cell_of_row w6 _ 1 _ _ _ HA.out
        have cBB0 : w6.cell? ⟨w2.heap.size, 0, none⟩ = some (.int .i64 a.pr) := cell_of_row w6 _ 0 _ _ _ HBB.out
        have cBB1 : w6.cell? ⟨w2.heap.size, 1, none⟩ = some (.slice av V.length cap) := cell_of_row w6 _ 1 _ _ _ HBB.out
        go_upto_region 7 with fail
        have bw7 := below_alloc w6 (.cells #[.int .i64 a.pr, .slice xa1 V.length xc1] 24)
        have iw7 := heap_alloc_new w6 (.cells #[.int .i64 a.pr, .slice xa1 V.length xc1] 24)
        have hltw7 : w6.heap.size < (w6.alloc (.cells #[.int .i64 a.pr, .slice xa1 V.length xc1] 24)).heap.size := by simp
        generalize w6.alloc (.cells #[.int .i64 a.pr, .slice xa1 V.length xc1] 24) = w7 at *
        replace HA := Lib.hid (hb_below bw7 HA.out (by omega))
        replace HBB := Lib.hid (hb_below bw7 HBB.out (by omega))
        replace HU := Lib.hid (HU.out.below bw7)
        replace HV := Lib.hid (HV.out.below bw7)
        replace HXR := Lib.hid (HXR.out.below bw7)
        replace HIM := Lib.hid (HIM.out.below bw7)
        replace HX1 := Lib.hid (HX1.out.below bw7)
        replace HB := Lib.hid (bon HB.out bw7)
        have HC := Lib.hid (show w7.heap[w6.heap.size]? = some (.cells #[.int .i64 a.pr, .slice xa1 V.length xc1] 24 (0, 0)) from iw7)
        clear iw7 bw7
        clear cA0 cA1 cBB0 cBB1
        have cA0 : w7.cell? ⟨w.heap.size, 0, none⟩ = some (.int .i64 a.pr) := cell_of_row w7 _ 0 _ _ _ HA.out
        have cA1 : w7.cell? ⟨w.heap.size, 1, none⟩ = some (.slice ua a.ws.length uc) := cell_of_row w7 _ 1 _ _ _ HA.out
        have cBB0 : w7.cell? ⟨w2.heap.size, 0, none⟩ = some (.int .i64 a.pr) := cell_of_row w7 _ 0 _ _ _ HBB.out
        have cBB1 : w7.cell? ⟨w2.heap.size, 1, none⟩ = some (.slice av V.length cap) := cell_of_row w7 _ 1 _ _ _ HBB.out
        have cC0 : w7.cell? ⟨w6.heap.size, 0, none⟩ = some (.int .i64 a.pr) := cell_of_row w7 _ 0 _ _ _ HC.out
        have cC1 : w7.cell? ⟨w6.heap.size, 1, none⟩ = some (.slice xa1 V.length xc1) := cell_of_row w7 _ 1 _ _ _ HC.out
        go_wp2_with fail
        refine (HE.out.eqb _ _ w7 HX1.out HV.out).mono ?_
        rintro e w8 ⟨rfl, b8⟩
        replace HA := Lib.hid (hb_below b8 HA.out (by omega))
        replace HBB := Lib.hid (hb_below b8 HBB.out (by omega))
        replace HC := Lib.hid (hb_below b8 HC.out (by omega))
        have hzw8 : w7.heap.size ≤ w8.heap.size := b8.size
        replace HU := Lib.hid (HU.out.below b8)
        replace HV := Lib.hid (HV.out.below b8)
        replace HXR := Lib.hid (HXR.out.below b8)
        replace HIM := Lib.hid (HIM.out.below b8)
        replace HX1 := Lib.hid (HX1.out.below b8)
        replace HB := Lib.hid (bon HB.out b8)
        clear b8
        clear cA0 cA1 cBB0 cBB1 cC0 cC1
        have cA0 : w8.cell? ⟨w.heap.size, 0, none⟩ = some (.int .i64 a.pr) := cell_of_row w8 _ 0 _ _ _ HA.out
        have cA1 : w8.cell? ⟨w.heap.size, 1, none⟩ = some (.slice ua a.ws.length uc) := cell_of_row w8 _ 1 _ _ _ HA.out
        have cBB0 : w8.cell? ⟨w2.heap.size, 0, none⟩ = some (.int .i64 a.pr) := cell_of_row w8 _ 0 _ _ _ HBB.out
        have cBB1 : w8.cell? ⟨w2.heap.size, 1, none⟩ = some (.slice av V.length cap) := cell_of_row w8 _ 1 _ _ _ HBB.out
        have cC0 : w8.cell? ⟨w6.heap.size, 0, none⟩ = some (.int .i64 a.pr) := cell_of_row w8 _ 0 _ _ _ HC.out
        have cC1 : w8.cell? ⟨w6.heap.size, 1, none⟩ = some (.slice xa1 V.length xc1) := cell_of_row w8 _ 1 _ _ _ HC.out
        go_wp2_with fail
        refine (HE.out.lsa _ w8 HU.out).mono ?_
        rintro e w9 ⟨lp, rfl, hip, b9⟩
        have HIP := Lib.hid hip
        obtain ⟨pa, pc, rfl, _⟩ := id hip
        clear hip
        replace HA := Lib.hid (hb_below b9 HA.out (by omega))
        replace HBB := Lib.hid (hb_below b9 HBB.out (by omega))
        replace HC := Lib.hid (hb_below b9 HC.out (by omega))
        have hzw9 : w8.heap.size ≤ w9.heap.size := b9.size
        replace HU := Lib.hid (HU.out.below b9)
        replace HV := Lib.hid (HV.out.below b9)
        replace HXR := Lib.hid (HXR.out.below b9)
        replace HIM := Lib.hid (HIM.out.below b9)
        replace HX1 := Lib.hid (HX1.out.below b9)
        replace HB := Lib.hid (bon HB.out b9)
        clear b9
        clear cA0 cA1 cBB0 cBB1 cC0 cC1
        have cA0 : w9.cell? ⟨w.heap.size, 0, none⟩ = some (.int .i64 a.pr) := cell_of_row w9 _ 0 _ _ _ HA.out
        have cA1 : w9.cell? ⟨w.heap.size, 1, none⟩ = some (.slice ua a.ws.length uc) := cell_of_row w9 _ 1 _ _ _ HA.out
        have cBB0 : w9.cell? ⟨w2.heap.size, 0, none⟩ = some (.int .i64 a.pr) := cell_of_row w9 _ 0 _ _ _ HBB.out
        have cBB1 : w9.cell? ⟨w2.heap.size, 1, none⟩ = some (.slice av V.length cap) := cell_of_row w9 _ 1 _ _ _ HBB.out
        have cC0 : w9.cell? ⟨w6.heap.size, 0, none⟩ = some (.int .i64 a.pr) := cell_of_row w9 _ 0 _ _ _ HC.out
        have cC1 : w9.cell? ⟨w6.heap.size, 1, none⟩ = some (.slice xa1 V.length xc1) := cell_of_row w9 _ 1 _ _ _ HC.out
        go_wp2_with fail
        refine (HE.out.lsb _ w9 HV.out).mono ?_
        rintro e w10 ⟨lq, rfl, hiq, b10⟩
        have HIQ := Lib.hid hiq
        obtain ⟨qa, qc, rfl, _⟩ := id hiq
        clear hiq
        replace HA := Lib.hid (hb_below b10 HA.out (by omega))
        replace HBB := Lib.hid (hb_below b10 HBB.out (by omega))
        replace HC := Lib.hid (hb_below b10 HC.out (by omega))
        have hzw10 : w9.heap.size ≤ w10.heap.size := b10.size
        replace HU := Lib.hid (HU.out.below b10)
        replace HV := Lib.hid (HV.out.below b10)
        replace HXR := Lib.hid (HXR.out.below b10)
        replace HIM := Lib.hid (HIM.out.below b10)
        replace HX1 := Lib.hid (HX1.out.below b10)
        replace HIP := Lib.hid (HIP.out.below b10)
        replace HB := Lib.hid (bon HB.out b10)
        clear b10
        clear cA0 cA1 cBB0 cBB1 cC0 cC1
        have cA0 : w10.cell? ⟨w.heap.size, 0, none⟩ = some (.int .i64 a.pr) := cell_of_row w10 _ 0 _ _ _ HA.out
        have cA1 : w10.cell? ⟨w.heap.size, 1, none⟩ = some (.slice ua a.ws.length uc) := cell_of_row w10 _ 1 _ _ _ HA.out
        have cBB0 : w10.cell? ⟨w2.heap.size, 0, none⟩ = some (.int .i64 a.pr) := cell_of_row w10 _ 0 _ _ _ HBB.out
        have cBB1 : w10.cell? ⟨w2.heap.size, 1, none⟩ = some (.slice av V.length cap) := cell_of_row w10 _ 1 _ _ _ HBB.out
        have cC0 : w10.cell? ⟨w6.heap.size, 0, none⟩ = some (.int .i64 a.pr) := cell_of_row w10 _ 0 _ _ _ HC.out
        have cC1 : w10.cell? ⟨w6.heap.size, 1, none⟩ = some (.slice xa1 V.length xc1) := cell_of_row w10 _ 1 _ _ _ HC.out
        go_wp2_with fail
        refine (HE.out.rea _ _ w10 HU.out HIP.out).mono ?_
        rintro e w11 ⟨x2, rfl, hx2, b11⟩
        have HX2 := Lib.hid hx2
        obtain ⟨xa2, xc2, rfl, _⟩ := id hx2
        clear hx2
        replace HA := Lib.hid (hb_below b11 HA.out (by omega))
        replace HBB := Lib.hid (hb_below b11 HBB.out (by omega))
        replace HC := Lib.hid (hb_below b11 HC.out (by omega))
        have hzw11 : w10.heap.size ≤ w11.heap.size := b11.size
        replace HU := Lib.hid (HU.out.below b11)
        replace HV := Lib.hid (HV.out.below b11)
        replace HXR := Lib.hid (HXR.out.below b11)
        replace HIM := Lib.hid (HIM.out.below b11)
        replace HX1 := Lib.hid (HX1.out.below b11)
        replace HIP := Lib.hid (HIP.out.below b11)
        replace HIQ := Lib.hid (HIQ.out.below b11)
        replace HB := Lib.hid (bon HB.out b11)
        clear b11
        clear cA0 cA1 cBB0 cBB1 cC0 cC1
        have cA0 : w11.cell? ⟨w.heap.size, 0, none⟩ = some (.int .i64 a.pr) := cell_of_row w11 _ 0 _ _ _ HA.out
        have cA1 : w11.cell? ⟨w.heap.size, 1, none⟩ = some (.slice ua a.ws.length uc) := cell_of_row w11 _ 1 _ _ _ HA.out
        have cBB0 : w11.cell? ⟨w2.heap.size, 0, none⟩ = some (.int .i64 a.pr) := cell_of_row w11 _ 0 _ _ _ HBB.out
        have cBB1 : w11.cell? ⟨w2.heap.size, 1, none⟩ = some (.slice av V.length cap) := cell_of_row w11 _ 1 _ _ _ HBB.out
        have cC0 : w11.cell? ⟨w6.heap.size, 0, none⟩ = some (.int .i64 a.pr) := cell_of_row w11 _ 0 _ _ _ HC.out
        have cC1 : w11.cell? ⟨w6.heap.size, 1, none⟩ = some (.slice xa1 V.length xc1) := cell_of_row w11 _ 1 _ _ _ HC.out
        go_upto_region 12 with (refine store_row rfl _ _ _ rfl (w6.heap.size) _ rfl rfl _ _ HC.out infoSh2 rfl (by kernel_rfl) ?_; intro w12 hF1 hF2 hF3 hF4)
        replace HU := Lib.hid (ws_other HU.out HC.out hF2 hF3)
        replace HV := Lib.hid (ws_other HV.out HC.out hF2 hF3)
        replace HX2 := Lib.hid (ws_other HX2.out HC.out hF2 hF3)
        replace HIM := Lib.hid (is_other HIM.out HC.out hF1 hF2 hF3)
        replace HIQ := Lib.hid (is_other HIQ.out HC.out hF1 hF2 hF3)
        replace HXR := Lib.hid (xr_oth2 HXR.out HC.out hF2 hF3)
        replace HA := Lib.hid (hF2 _ _ HA.out (by omega))
        skip
        replace HBB := Lib.hid (hF2 _ _ HBB.out (by omega))
        replace HB := Lib.hid (hF4 _ _ HB.out (by omega))
        replace HC := Lib.hid hF1
        clear hF1 hF2 hF4 HX1 HIP
        clear cA0 cA1 cBB0 cBB1 cC0 cC1
        have cA0 : w12.cell? ⟨w.heap.size, 0, none⟩ = some (.int .i64 a.pr) := cell_of_row w12 _ 0 _ _ _ HA.out
        have cA1 : w12.cell? ⟨w.heap.size, 1, none⟩ = some (.slice ua a.ws.length uc) := cell_of_row w12 _ 1 _ _ _ HA.out
        have cBB0 : w12.cell? ⟨w2.heap.size, 0, none⟩ = some (.int .i64 a.pr) := cell_of_row w12 _ 0 _ _ _ HBB.out
        have cBB1 : w12.cell? ⟨w2.heap.size, 1, none⟩ = some (.slice av V.length cap) := cell_of_row w12 _ 1 _ _ _ HBB.out
        have cC0 : w12.cell? ⟨w6.heap.size, 0, none⟩ = some (.int .i64 a.pr) := cell_of_row w12 _ 0 _ _ _ HC.out
        have cC1 : w12.cell? ⟨w6.heap.size, 1, none⟩ = some (.slice xa2 CW.length xc2) := cell_of_row w12 _ 1 _ _ _ HC.out
        go_wp2_with fail
        refine (HE.out.reb _ _ w12 HV.out HIQ.out).mono ?_
        rintro e w13 ⟨x3, rfl, hx3, b13⟩
        have HX3 := Lib.hid hx3
        obtain ⟨xa3, xc3, rfl, _⟩ := id hx3
        clear hx3
        replace HA := Lib.hid (hb_below b13 HA.out (by omega))
        replace HBB := Lib.hid (hb_below b13 HBB.out (by omega))
        replace HC := Lib.hid (hb_below b13 HC.out (by omega))
        have hzw13 : w12.heap.size ≤ w13.heap.size := b13.size
        replace HU := Lib.hid (HU.out.below b13)
        replace HV := Lib.hid (HV.out.below b13)
        replace HXR := Lib.hid (HXR.out.below b13)
        replace HIM := Lib.hid (HIM.out.below b13)
        replace HIQ := Lib.hid (HIQ.out.below b13)
        replace HX2 := Lib.hid (HX2.out.below b13)
        replace HB := Lib.hid (bon HB.out b13)
        clear b13
        clear cA0 cA1 cBB0 cBB1 cC0 cC1
        have cA0 : w13.cell? ⟨w.heap.size, 0, none⟩ = some (.int .i64 a.pr) := cell_of_row w13 _ 0 _ _ _ HA.out
        have cA1 : w13.cell? ⟨w.heap.size, 1, none⟩ = some (.slice ua a.ws.length uc) := cell_of_row w13 _ 1 _ _ _ HA.out
        have cBB0 : w13.cell? ⟨w2.heap.size, 0, none⟩ = some (.int .i64 a.pr) := cell_of_row w13 _ 0 _ _ _ HBB.out
        have cBB1 : w13.cell? ⟨w2.heap.size, 1, none⟩ = some (.slice av V.length cap) := cell_of_row w13 _ 1 _ _ _ HBB.out
        have cC0 : w13.cell? ⟨w6.heap.size, 0, none⟩ = some (.int .i64 a.pr) := cell_of_row w13 _ 0 _ _ _ HC.out
        have cC1 : w13.cell? ⟨w6.heap.size, 1, none⟩ = some (.slice xa2 CW.length xc2) := cell_of_row w13 _ 1 _ _ _ HC.out
        go_upto_region 13 with fail
        have bw14 := below_alloc w13 (.cells #[.int .i64 a.pr, .slice xa3 CW.length xc3] 24)
        have iw14 := heap_alloc_new w13 (.cells #[.int .i64 a.pr, .slice xa3 CW.length xc3] 24)
        have hltw14 : w13.heap.size < (w13.alloc (.cells #[.int .i64 a.pr, .slice xa3 CW.length xc3] 24)).heap.size := by simp
        generalize w13.alloc (.cells #[.int .i64 a.pr, .slice xa3 CW.length xc3] 24) = w14 at *
        replace HA := Lib.hid (hb_below bw14 HA.out (by omega))
        replace HBB := Lib.hid (hb_below bw14 HBB.out (by omega))
        replace HC := Lib.hid (hb_below bw14 HC.out (by omega))
        replace HU := Lib.hid (HU.out.below bw14)
        replace HV := Lib.hid (HV.out.below bw14)
        replace HXR := Lib.hid (HXR.out.below bw14)
        replace HIM := Lib.hid (HIM.out.below bw14)
        replace HIQ := Lib.hid (HIQ.out.below bw14)
        replace HX2 := Lib.hid (HX2.out.below bw14)
        replace HX3 := Lib.hid (HX3.out.below bw14)
        replace HB := Lib.hid (bon HB.out bw14)
        have HD := Lib.hid (show w14.heap[w13.heap.size]? = some (.cells #[.int .i64 a.pr, .slice xa3 CW.length xc3] 24 (0, 0)) from iw14)
        clear iw14 bw14
        clear cA0 cA1 cBB0 cBB1 cC0 cC1
        have cA0 : w14.cell? ⟨w.heap.size, 0, none⟩ = some (.int .i64 a.pr) := cell_of_row w14 _ 0 _ _ _ HA.out
        have cA1 : w14.cell? ⟨w.heap.size, 1, none⟩ = some (.slice ua a.ws.length uc) := cell_of_row w14 _ 1 _ _ _ HA.out
        have cBB0 : w14.cell? ⟨w2.heap.size, 0, none⟩ = some (.int .i64 a.pr) := cell_of_row w14 _ 0 _ _ _ HBB.out
        have cBB1 : w14.cell? ⟨w2.heap.size, 1, none⟩ = some (.slice av V.length cap) := cell_of_row w14 _ 1 _ _ _ HBB.out
        have cC0 : w14.cell? ⟨w6.heap.size, 0, none⟩ = some (.int .i64 a.pr) := cell_of_row w14 _ 0 _ _ _ HC.out
        have cC1 : w14.cell? ⟨w6.heap.size, 1, none⟩ = some (.slice xa2 CW.length xc2) := cell_of_row w14 _ 1 _ _ _ HC.out
        have cD0 : w14.cell? ⟨w13.heap.size, 0, none⟩ = some (.int .i64 a.pr) := cell_of_row w14 _ 0 _ _ _ HD.out
        have cD1 : w14.cell? ⟨w13.heap.size, 1, none⟩ = some (.slice xa3 CW.length xc3) := cell_of_row w14 _ 1 _ _ _ HD.out
        clear HIQ
        go_wp2_with fail
        refine (HE.out.eqc _ _ w14 HX2.out HX3.out).mono ?_
        rintro e w15 ⟨rfl, b15⟩
        replace HA := Lib.hid (hb_below b15 HA.out (by omega))
        replace HBB := Lib.hid (hb_below b15 HBB.out (by omega))
        replace HC := Lib.hid (hb_below b15 HC.out (by omega))
        replace HD := Lib.hid (hb_below b15 HD.out (by omega))
        have hzw15 : w14.heap.size ≤ w15.heap.size := b15.size
        replace HU := Lib.hid (HU.out.below b15)
        replace HV := Lib.hid (HV.out.below b15)
        replace HXR := Lib.hid (HXR.out.below b15)
        replace HIM := Lib.hid (HIM.out.below b15)
        replace HX2 := Lib.hid (HX2.out.below b15)
        replace HX3 := Lib.hid (HX3.out.below b15)
        replace HB := Lib.hid (bon HB.out b15)
        clear b15
        clear cA0 cA1 cBB0 cBB1 cC0 cC1 cD0 cD1
        have cA0 : w15.cell? ⟨w.heap.size, 0, none⟩ = some (.int .i64 a.pr) := cell_of_row w15 _ 0 _ _ _ HA.out
        have cA1 : w15.cell? ⟨w.heap.size, 1, none⟩ = some (.slice ua a.ws.length uc) := cell_of_row w15 _ 1 _ _ _ HA.out
        have cBB0 : w15.cell? ⟨w2.heap.size, 0, none⟩ = some (.int .i64 a.pr) := cell_of_row w15 _ 0 _ _ _ HBB.out
        have cBB1 : w15.cell? ⟨w2.heap.size, 1, none⟩ = some (.slice av V.length cap) := cell_of_row w15 _ 1 _ _ _ HBB.out
        have cC0 : w15.cell? ⟨w6.heap.size, 0, none⟩ = some (.int .i64 a.pr) := cell_of_row w15 _ 0 _ _ _ HC.out
        have cC1 : w15.cell? ⟨w6.heap.size, 1, none⟩ = some (.slice xa2 CW.length xc2) := cell_of_row w15 _ 1 _ _ _ HC.out
        have cD0 : w15.cell? ⟨w13.heap.size, 0, none⟩ = some (.int .i64 a.pr) := cell_of_row w15 _ 0 _ _ _ HD.out
        have cD1 : w15.cell? ⟨w13.heap.size, 1, none⟩ = some (.slice xa3 CW.length xc3) := cell_of_row w15 _ 1 _ _ _ HD.out
        clear HX2 HX3 HC HD
        go_wp2_with fail
        refine (HE.out.lva _ w15 HU.out).mono ?_
        rintro e w16 ⟨lc, rfl, hic, b16⟩
        have HIC := Lib.hid hic
        obtain ⟨ca, cc, rfl, _⟩ := id hic
        rw [HE.out.llen.1] at HIC ⊢
        clear hic
        replace HA := Lib.hid (hb_below b16 HA.out (by omega))
        replace HBB := Lib.hid (hb_below b16 HBB.out (by omega))
        have hzw16 : w15.heap.size ≤ w16.heap.size := b16.size
        replace HU := Lib.hid (HU.out.below b16)
        replace HV := Lib.hid (HV.out.below b16)
        replace HXR := Lib.hid (HXR.out.below b16)
        replace HIM := Lib.hid (HIM.out.below b16)
        replace HB := Lib.hid (bon HB.out b16)
        clear b16
        clear cA0 cA1 cBB0 cBB1 cC0 cC1 cD0 cD1
        have cA0 : w16.cell? ⟨w.heap.size, 0, none⟩ = some (.int .i64 a.pr) := cell_of_row w16 _ 0 _ _ _ HA.out
        have cA1 : w16.cell? ⟨w.heap.size, 1, none⟩ = some (.slice ua a.ws.length uc) := cell_of_row w16 _ 1 _ _ _ HA.out
        have cBB0 : w16.cell? ⟨w2.heap.size, 0, none⟩ = some (.int .i64 a.pr) := cell_of_row w16 _ 0 _ _ _ HBB.out
        have cBB1 : w16.cell? ⟨w2.heap.size, 1, none⟩ = some (.slice av V.length cap) := cell_of_row w16 _ 1 _ _ _ HBB.out
        go_wp2_with fail
        refine (HE.out.lvb _ w16 HV.out).mono ?_
        rintro e w17 ⟨ld, rfl, hid_, b17⟩
        have HID := Lib.hid hid_
        obtain ⟨da, dc, rfl, _⟩ := id hid_
        rw [HE.out.llen.2] at HID ⊢
        clear hid_
        replace HA := Lib.hid (hb_below b17 HA.out (by omega))
        replace HBB := Lib.hid (hb_below b17 HBB.out (by omega))
        have hzw17 : w16.heap.size ≤ w17.heap.size := b17.size
        replace HU := Lib.hid (HU.out.below b17)
        replace HV := Lib.hid (HV.out.below b17)
        replace HXR := Lib.hid (HXR.out.below b17)
        replace HIM := Lib.hid (HIM.out.below b17)
        replace HIC := Lib.hid (HIC.out.below b17)
        replace HB := Lib.hid (bon HB.out b17)
        clear b17
        clear cA0 cA1 cBB0 cBB1
        have cA0 : w17.cell? ⟨w.heap.size, 0, none⟩ = some (.int .i64 a.pr) := cell_of_row w17 _ 0 _ _ _ HA.out
        have cA1 : w17.cell? ⟨w.heap.size, 1, none⟩ = some (.slice ua a.ws.length uc) := cell_of_row w17 _ 1 _ _ _ HA.out
        have cBB0 : w17.cell? ⟨w2.heap.size, 0, none⟩ = some (.int .i64 a.pr) := cell_of_row w17 _ 0 _ _ _ HBB.out
        have cBB1 : w17.cell? ⟨w2.heap.size, 1, none⟩ = some (.slice av V.length cap) := cell_of_row w17 _ 1 _ _ _ HBB.out
        go_upto_region 20 with fail
        go_loopw [20] (fun kv wr => ∃ k : Nat, k ≤ a.ws.length ∧ kv = .int .i64 (k : Int) ∧ Below w17.heap.size w17 wr) (fun kv _ => a.ws.length - (intOf kv).toNat)
        case atStart => exact ⟨0, Nat.zero_le _, rfl, Below.refl _ _⟩
        case round =>
          obtain ⟨k, hk, rfl, hbr⟩ := hrel
          rename World => wr
          have HBR := Lib.hid hbr
          have hzr := hbr.size
          clear hbr
          by_cases hkl : k < a.ws.length
          · have j0 : (0 : Int) ≤ (k : Int) := by omega
            have j1 : (k : Int) < (a.ws.length : Int) := by omega
            obtain ⟨i, z, hi, hm, hd, hc⟩ := HE.out.lev k hkl
            have i0 : (0 : Int) ≤ (i : Int) := by omega
            have i1 : (i : Int) < (a.ws.length : Int) := by omega
            obtain ⟨_, _, e, _, _, _, hma⟩ := HIM.out
            injection e with e1 e2 e3
            subst e1
            obtain ⟨mb, mo, rfl, hmb, cm⟩ := hma k _ hm
            obtain ⟨_, _, e, _, _, _, hda⟩ := HID.out
            injection e with e1 e2 e3
            subst e1
            obtain ⟨db, dof, rfl, hdb, cd⟩ := hda k _ hd
            obtain ⟨_, _, e, _, _, _, hca⟩ := HIC.out
            injection e with e1 e2 e3
            subst e1
            obtain ⟨cb, co, rfl, hcb, cc_⟩ := hca i _ hc
            have CM := Lib.hid ((HBR.out.cell (p := ⟨mb, mo + k, none⟩) hmb).trans cm)
            have CD := Lib.hid ((HBR.out.cell (p := ⟨db, dof + k, none⟩) hdb).trans cd)
            have CC := Lib.hid ((HBR.out.cell (p := ⟨cb, co + i, none⟩) hcb).trans cc_)
            have hmr : mb < wr.heap.size := by omega
            have hdr : db < wr.heap.size := by omega
            have hcr : cb < wr.heap.size := by omega
            clear hma hda hca cm cd cc_ hm hd hc cA0 cA1 cBB0 cBB1
            go_wp2_with fail
            refine wp_region_class (fun w' => Below wr.heap.size wr w') 11 (by kernel_rfl) (by kernel_rfl) (Below.refl _ wr).drew ?_
            simp only [List.take_succ_cons, List.take_zero, List.drop_succ_cons, List.drop_zero]
            refine quiet_moveV rfl _ rfl (.slice (some ⟨db, dof, none⟩) a.ws.length dc) rfl ?_
            simp only [Act.put, List.setIfInBounds_toArray, List.set_cons_zero, List.set_cons_succ]
            refine quiet_moveV rfl _ rfl (.int .i64 (k : Int)) rfl ?_
            simp only [Act.put, List.setIfInBounds_toArray, List.set_cons_zero, List.set_cons_succ]
            refine quiet_still rfl (.pointer (some ⟨db, dof + k, none⟩)) (fun w _ => by go_simp; first | done | exact fun h => absurd h (by omega)) ?_
            simp only [Act.put, List.setIfInBounds_toArray, List.set_cons_zero, List.set_cons_succ]
            refine quiet_load1 rfl _ _ rfl ⟨db, dof + k, none⟩ rfl (.int .i64 z) (load_int _ _) (fun _ h => (h.cell (p := ⟨db, dof + k, none⟩) hdr).trans CD.out) ?_
            simp only [Act.put, List.setIfInBounds_toArray, List.set_cons_zero, List.set_cons_succ]
            refine quiet_moveV rfl _ rfl (.slice (some ⟨cb, co, none⟩) a.ws.length cc) rfl ?_
            simp only [Act.put, List.setIfInBounds_toArray, List.set_cons_zero, List.set_cons_succ]
            refine quiet_moveV rfl _ rfl (.slice (some ⟨mb, mo, none⟩) a.ws.length mc) rfl ?_
            simp only [Act.put, List.setIfInBounds_toArray, List.set_cons_zero, List.set_cons_succ]
            refine quiet_moveV rfl _ rfl (.int .i64 (k : Int)) rfl ?_
            simp only [Act.put, List.setIfInBounds_toArray, List.set_cons_zero, List.set_cons_succ]
            refine quiet_still rfl (.pointer (some ⟨mb, mo + k, none⟩)) (fun w _ => by go_simp; first | done | exact fun h => absurd h (by omega)) ?_
            simp only [Act.put, List.setIfInBounds_toArray, List.set_cons_zero, List.set_cons_succ]
            refine quiet_load1 rfl _ _ rfl ⟨mb, mo + k, none⟩ rfl (.int .i64 (i : Int)) (load_int _ _) (fun _ h => (h.cell (p := ⟨mb, mo + k, none⟩) hmr).trans CM.out) ?_
            simp only [Act.put, List.setIfInBounds_toArray, List.set_cons_zero, List.set_cons_succ]
            refine quiet_still rfl (.pointer (some ⟨cb, co + i, none⟩)) (fun w _ => by go_simp; first | done | exact fun h => absurd h (by omega)) ?_
            simp only [Act.put, List.setIfInBounds_toArray, List.set_cons_zero, List.set_cons_succ]
            refine quiet_load1 rfl _ _ rfl ⟨cb, co + i, none⟩ rfl (.int .i64 z) (load_int _ _) (fun _ h => (h.cell (p := ⟨cb, co + i, none⟩) hcr).trans CC.out) ?_
            simp only [Act.put, List.setIfInBounds_toArray, List.set_cons_zero, List.set_cons_succ]
            unfold wpQuiet
            intro w18 hb18
            have HB18 := Lib.hid (HBR.out.trans (hb18.mono (by omega)))
            clear hb18
            go_wp2_with fail
            go_roundw
            case rel => exact ⟨k + 1, by omega, by go_num, HB18.out⟩
            case measure => (simp [intOf] <;> omega)
          · have j1 : ¬ (k : Int) < (a.ws.length : Int) := by omega
            have ek : k = a.ws.length := by omega
            clear HIM HID HIC
            have br := HBR.out
            replace HA := Lib.hid (hb_below br HA.out (by omega))
            replace HBB := Lib.hid (hb_below br HBB.out (by omega))
            have hzwr : w17.heap.size ≤ wr.heap.size := br.size
            replace HU := Lib.hid (HU.out.below br)
            replace HV := Lib.hid (HV.out.below br)
            replace HXR := Lib.hid (HXR.out.below br)
            replace HB := Lib.hid (bon HB.out br)
            clear br
            clear cA0 cA1 cBB0 cBB1
            have cA0 : wr.cell? ⟨w.heap.size, 0, none⟩ = some (.int .i64 a.pr) := cell_of_row wr _ 0 _ _ _ HA.out
            have cA1 : wr.cell? ⟨w.heap.size, 1, none⟩ = some (.slice ua a.ws.length uc) := cell_of_row wr _ 1 _ _ _ HA.out
            have cBB0 : wr.cell? ⟨w2.heap.size, 0, none⟩ = some (.int .i64 a.pr) := cell_of_row wr _ 0 _ _ _ HBB.out
            have cBB1 : wr.cell? ⟨w2.heap.size, 1, none⟩ = some (.slice av V.length cap) := cell_of_row wr _ 1 _ _ _ HBB.out
            rcases HGB.out with hV | ⟨g, rfl, hg1, hg2⟩
            · subst hV
              go_wp2_with fail
              refine (CA.out _).mono ?_
              rintro e wz ⟨rfl, bz⟩
              have HBZ := Lib.hid (bon HB.out bz)
              clear bz
              go_wp2_with fail
              go_ret
              exact ⟨rfl, HBZ.out⟩
            · by_cases hV : V = []
              · subst hV
                go_wp2_with fail
                refine (CA.out _).mono ?_
                rintro e wz ⟨rfl, bz⟩
                have HBZ := Lib.hid (bon HB.out bz)
                clear bz
                go_wp2_with fail
                go_ret
                exact ⟨rfl, HBZ.out⟩
              · have hV0 : 0 < V.length := List.length_pos_iff.2 hV
                have hpn : wh % V.length < V.length := Nat.mod_lt _ hV0
                have n1 : IntKind.i64.wrap (wh : Int) = (wh : Int) := IntWalk.i64_in _ (by omega)
                have n2 : ¬ (V.length : Int) = 0 := by omega
                have n3 : Int.tmod (wh : Int) (V.length : Int) = ((wh % V.length : Nat) : Int) := (Int.ofNat_tmod _ _).symm
                have hVl : V.length ≤ 400 := by have := HE.out.len; omega
                have n4 : IntKind.i64.wrap ((wh % V.length : Nat) : Int) = ((wh % V.length : Nat) : Int) := IntWalk.i64_in _ (by omega)
                generalize wh % V.length = p at *
                have p0 : (0 : Int) ≤ (p : Int) := by omega
                have p1 : (p : Int) < (V.length : Int) := by omega
                obtain ⟨x, hx⟩ : ∃ x, V[p]? = some x := ⟨_, List.getElem?_eq_getElem hpn⟩
                have hwr : WR wr g V := by
                  obtain ⟨_, _, e, _, _, h3⟩ := HXR.out
                  injection e with e1 e2 e3
                  subst e1
                  rcases h3 with h3 | ⟨g', e, _, _, h4⟩
                  · exact absurd h3 hV
                  · cases e; exact h4
                have HWR := Lib.hid hwr
                have HX := Lib.hid hx
                have CO := Lib.hid (HE.out.oth p x hx)
                have HFX := Lib.hid (HE.out.fit x (List.mem_of_getElem? hx))
                have k0 := (hwr.2.2 p x hx).1 0 _ rfl
                rw [Nat.add_zero] at k0
                clear hwr hx
                by_cases hkd : x.kd = 2
                · have kk : (x.kd == 2) = true := beq_iff_eq.2 hkd
                  have EO := Lib.hid (show otherW x = ⟨1, x.pl, ⟨#[67]⟩⟩ by unfold otherW; rw [if_pos hkd])
                  go_upto_region 28 with fail
                  have K1 := Lib.hid ((HWR.out.2.2 p x HX.out).1 1 _ rfl)
                  have hgw := HWR.out.1
                  have hbw : w2.heap.size < wr.heap.size := by omega
                  refine wp_region_class (fun w' => Below wr.heap.size wr w') 11 (by kernel_rfl) (by kernel_rfl) (Below.refl _ wr).drew ?_
                  simp only [List.take_succ_cons, List.take_zero, List.drop_succ_cons, List.drop_zero]
                  refine quiet_still rfl (.pointer (some ⟨w2.heap.size, 1, none⟩)) (fun w _ => by go_simp) ?_
                  simp only [Act.put, List.setIfInBounds_toArray, List.set_cons_zero, List.set_cons_succ]
                  refine quiet_load1 rfl _ _ rfl ⟨w2.heap.size, 1, none⟩ rfl (.slice (some ⟨g, 0, none⟩) V.length cap) (load_ws _ _) (fun _ h => (h.cell (p := ⟨w2.heap.size, 1, none⟩) hbw).trans cBB1) ?_
                  simp only [Act.put, List.setIfInBounds_toArray, List.set_cons_zero, List.set_cons_succ]
                  refine quiet_moveV rfl _ rfl (.int .i64 (p : Int)) rfl ?_
                  simp only [Act.put, List.setIfInBounds_toArray, List.set_cons_zero, List.set_cons_succ]
                  refine quiet_still rfl (.pointer (some ⟨w2.heap.size, 1, none⟩)) (fun w _ => by go_simp) ?_
                  simp only [Act.put, List.setIfInBounds_toArray, List.set_cons_zero, List.set_cons_succ]
                  refine quiet_load1 rfl _ _ rfl ⟨w2.heap.size, 1, none⟩ rfl (.slice (some ⟨g, 0, none⟩) V.length cap) (load_ws _ _) (fun _ h => (h.cell (p := ⟨w2.heap.size, 1, none⟩) hbw).trans cBB1) ?_
                  simp only [Act.put, List.setIfInBounds_toArray, List.set_cons_zero, List.set_cons_succ]
                  refine quiet_moveV rfl _ rfl (.int .i64 (p : Int)) rfl ?_
                  simp only [Act.put, List.setIfInBounds_toArray, List.set_cons_zero, List.set_cons_succ]
                  refine quiet_still rfl (.pointer (some ⟨g, p * 3, none⟩)) (fun w _ => by go_simp; first | done | exact fun h => absurd h (by omega)) ?_
                  simp only [Act.put, List.setIfInBounds_toArray, List.set_cons_zero, List.set_cons_succ]
                  refine quiet_still rfl (.pointer (some ⟨g, p * 3 + 1, none⟩)) (fun w _ => by go_simp) ?_
                  simp only [Act.put, List.setIfInBounds_toArray, List.set_cons_zero, List.set_cons_succ]
                  refine quiet_load1 rfl _ _ rfl ⟨g, p * 3 + 1, none⟩ rfl (.int .i64 x.pl) (load_int _ _) (fun _ h => (h.cell (p := ⟨g, p * 3 + 1, none⟩) hgw).trans K1.out) ?_
                  simp only [Act.put, List.setIfInBounds_toArray, List.set_cons_zero, List.set_cons_succ]
                  refine quiet_still rfl (.agg #[.int .i64 1, .int .i64 x.pl, .string ⟨#[67]⟩]) (fun w _ => by go_simp) ?_
                  simp only [Act.put, List.setIfInBounds_toArray, List.set_cons_zero, List.set_cons_succ]
                  refine quiet_still rfl (.pointer (some ⟨g, p * 3, none⟩)) (fun w _ => by go_simp; first | done | exact fun h => absurd h (by omega)) ?_
                  simp only [Act.put, List.setIfInBounds_toArray, List.set_cons_zero, List.set_cons_succ]
                  unfold wpQuiet
                  intro w20 hb20
                  have hz20 := hb20.size
                  have HWR2 := Lib.hid (HWR.out.below hb20 hgw)
                  have HA2 := Lib.hid (hb_below hb20 HA.out (by omega))
                  have HBB2 := Lib.hid (hb_below hb20 HBB.out hbw)
                  have HB2 := Lib.hid (bon HB.out hb20)
                  clear hb20 HA HBB HB HWR HXR HV HU cA0 cA1 cBB0 cBB1 k0 K1
                  have hEOs : (otherW x).wd.size ≤ maxLen := by rw [EO.out]; unfold maxLen; simp [ByteArray.size]
                  have HWS := Lib.hid (show WR (w20.setCells g (p * 3) [.int .i64 1, .int .i64 x.pl, .string ⟨#[67]⟩]) g (V.set p (otherW x)) from by have h := HWR2.out.set HX.out hEOs; rw [EO.out] at h ⊢; exact h)
                  have HA3 := Lib.hid ((heap_setCellsW w20 g (i := w.heap.size) (by omega) [.int .i64 1, .int .i64 x.pl, .string ⟨#[67]⟩] (p * 3)).trans HA2.out)
                  have HBB3 := Lib.hid ((heap_setCellsW w20 g (i := w2.heap.size) (by omega) [.int .i64 1, .int .i64 x.pl, .string ⟨#[67]⟩] (p * 3)).trans HBB2.out)
                  have HB3 := Lib.hid (below_setCellsE HB2.out (b := g) (by omega) (p * 3) [.int .i64 1, .int .i64 x.pl, .string ⟨#[67]⟩])
                  have hz21 : (w20.setCells g (p * 3) [.int .i64 1, .int .i64 x.pl, .string ⟨#[67]⟩]).heap.size = w20.heap.size := size_setCellsW _ _ _ _
                  refine wpList_store_mid rfl 51 _ _ rfl g (p * 3) #[.int .i64 1, .int .i64 x.pl, .string ⟨#[67]⟩] rfl rfl (HWR2.out.2.2 p x HX.out).2 infoWk1 (by kernel_rfl) ?_
                  have e21 : (#[.int .i64 1, .int .i64 x.pl, .string ⟨#[67]⟩] : Array Value).toList = [.int .i64 1, .int .i64 x.pl, .string ⟨#[67]⟩] := rfl
                  rw [e21]
                  clear e21
                  generalize w20.setCells g (p * 3) [.int .i64 1, .int .i64 x.pl, .string ⟨#[67]⟩] = w21 at *
                  have HA := Lib.hid HA3.out
                  have HBB := Lib.hid HBB3.out
                  have HB := Lib.hid HB3.out
                  have cA0 : w21.cell? ⟨w.heap.size, 0, none⟩ = some (.int .i64 a.pr) := cell_of_row w21 _ 0 _ _ _ HA.out
                  have cA1 : w21.cell? ⟨w.heap.size, 1, none⟩ = some (.slice ua a.ws.length uc) := cell_of_row w21 _ 1 _ _ _ HA.out
                  have cBB0 : w21.cell? ⟨w2.heap.size, 0, none⟩ = some (.int .i64 a.pr) := cell_of_row w21 _ 0 _ _ _ HBB.out
                  have cBB1 : w21.cell? ⟨w2.heap.size, 1, none⟩ = some (.slice (some ⟨g, 0, none⟩) V.length cap) := cell_of_row w21 _ 1 _ _ _ HBB.out
                  have HU := Lib.hid (HU0.out.below HB.out)
                  have HVS := Lib.hid (show WS w21 (.slice (some ⟨g, 0, none⟩) V.length cap) (V.set p (otherW x)) from by have h := HWS.out.ws (c := cap) (by rw [List.length_set]; exact q1) q2; rwa [List.length_set] at h)
                  go_wp2_with fail
                  refine (CO.out _ _ w21 HU.out HVS.out).mono ?_
                  rintro e w22 ⟨rfl, b22⟩
                  replace HA := Lib.hid (hb_below b22 HA.out (by omega))
                  replace HBB := Lib.hid (hb_below b22 HBB.out (by omega))
                  have hzw22 : w21.heap.size ≤ w22.heap.size := b22.size
                  replace HB := Lib.hid (bon HB.out b22)
                  clear b22
                  clear cA0 cA1 cBB0 cBB1
                  have cA0 : w22.cell? ⟨w.heap.size, 0, none⟩ = some (.int .i64 a.pr) := cell_of_row w22 _ 0 _ _ _ HA.out
                  have cA1 : w22.cell? ⟨w.heap.size, 1, none⟩ = some (.slice ua a.ws.length uc) := cell_of_row w22 _ 1 _ _ _ HA.out
                  have cBB0 : w22.cell? ⟨w2.heap.size, 0, none⟩ = some (.int .i64 a.pr) := cell_of_row w22 _ 0 _ _ _ HBB.out
                  have cBB1 : w22.cell? ⟨w2.heap.size, 1, none⟩ = some (.slice (some ⟨g, 0, none⟩) V.length cap) := cell_of_row w22 _ 1 _ _ _ HBB.out
                  go_wp2_with fail
                  refine (CA.out _).mono ?_
                  rintro e wz ⟨rfl, bz⟩
                  have HBZ := Lib.hid (bon HB.out bz)
                  clear bz
                  go_wp2_with fail
                  go_ret
                  exact ⟨rfl, HBZ.out⟩
                · have kk : (x.kd == 2) = false := beq_eq_false_iff_ne.2 hkd
                  have EO := Lib.hid (show otherW x = ⟨2, x.pl, ⟨#[]⟩⟩ by unfold otherW; rw [if_neg hkd])
                  go_upto_region 29 with fail
                  have K1 := Lib.hid ((HWR.out.2.2 p x HX.out).1 1 _ rfl)
                  have hgw := HWR.out.1
                  have hbw : w2.heap.size < wr.heap.size := by omega
                  refine wp_region_class (fun w' => Below wr.heap.size wr w') 11 (by kernel_rfl) (by kernel_rfl) (Below.refl _ wr).drew ?_
                  simp only [List.take_succ_cons, List.take_zero, List.drop_succ_cons, List.drop_zero]
                  refine quiet_still rfl (.pointer (some ⟨w2.heap.size, 1, none⟩)) (fun w _ => by go_simp) ?_
                  simp only [Act.put, List.setIfInBounds_toArray, List.set_cons_zero, List.set_cons_succ]
                  refine quiet_load1 rfl _ _ rfl ⟨w2.heap.size, 1, none⟩ rfl (.slice (some ⟨g, 0, none⟩) V.length cap) (load_ws _ _) (fun _ h => (h.cell (p := ⟨w2.heap.size, 1, none⟩) hbw).trans cBB1) ?_
                  simp only [Act.put, List.setIfInBounds_toArray, List.set_cons_zero, List.set_cons_succ]
                  refine quiet_moveV rfl _ rfl (.int .i64 (p : Int)) rfl ?_
                  simp only [Act.put, List.setIfInBounds_toArray, List.set_cons_zero, List.set_cons_succ]
                  refine quiet_still rfl (.pointer (some ⟨w2.heap.size, 1, none⟩)) (fun w _ => by go_simp) ?_
                  simp only [Act.put, List.setIfInBounds_toArray, List.set_cons_zero, List.set_cons_succ]
                  refine quiet_load1 rfl _ _ rfl ⟨w2.heap.size, 1, none⟩ rfl (.slice (some ⟨g, 0, none⟩) V.length cap) (load_ws _ _) (fun _ h => (h.cell (p := ⟨w2.heap.size, 1, none⟩) hbw).trans cBB1) ?_
                  simp only [Act.put, List.setIfInBounds_toArray, List.set_cons_zero, List.set_cons_succ]
                  refine quiet_moveV rfl _ rfl (.int .i64 (p : Int)) rfl ?_
                  simp only [Act.put, List.setIfInBounds_toArray, List.set_cons_zero, List.set_cons_succ]
                  refine quiet_still rfl (.pointer (some ⟨g, p * 3, none⟩)) (fun w _ => by go_simp; first | done | exact fun h => absurd h (by omega)) ?_
                  simp only [Act.put, List.setIfInBounds_toArray, List.set_cons_zero, List.set_cons_succ]
                  refine quiet_still rfl (.pointer (some ⟨g, p * 3 + 1, none⟩)) (fun w _ => by go_simp) ?_
                  simp only [Act.put, List.setIfInBounds_toArray, List.set_cons_zero, List.set_cons_succ]
                  refine quiet_load1 rfl _ _ rfl ⟨g, p * 3 + 1, none⟩ rfl (.int .i64 x.pl) (load_int _ _) (fun _ h => (h.cell (p := ⟨g, p * 3 + 1, none⟩) hgw).trans K1.out) ?_
                  simp only [Act.put, List.setIfInBounds_toArray, List.set_cons_zero, List.set_cons_succ]
                  refine quiet_still rfl (.agg #[.int .i64 2, .int .i64 x.pl, .string ⟨#[]⟩]) (fun w _ => by go_simp) ?_
                  simp only [Act.put, List.setIfInBounds_toArray, List.set_cons_zero, List.set_cons_succ]
                  refine quiet_still rfl (.pointer (some ⟨g, p * 3, none⟩)) (fun w _ => by go_simp; first | done | exact fun h => absurd h (by omega)) ?_
                  simp only [Act.put, List.setIfInBounds_toArray, List.set_cons_zero, List.set_cons_succ]
                  unfold wpQuiet
                  intro w20 hb20
                  have hz20 := hb20.size
                  have HWR2 := Lib.hid (HWR.out.below hb20 hgw)
                  have HA2 := Lib.hid (hb_below hb20 HA.out (by omega))
                  have HBB2 := Lib.hid (hb_below hb20 HBB.out hbw)
                  have HB2 := Lib.hid (bon HB.out hb20)
                  clear hb20 HA HBB HB HWR HXR HV HU cA0 cA1 cBB0 cBB1 k0 K1
                  have hEOs : (otherW x).wd.size ≤ maxLen := by rw [EO.out]; unfold maxLen; simp [ByteArray.size]
                  have HWS := Lib.hid (show WR (w20.setCells g (p * 3) [.int .i64 2, .int .i64 x.pl, .string ⟨#[]⟩]) g (V.set p (otherW x)) from by have h := HWR2.out.set HX.out hEOs; rw [EO.out] at h ⊢; exact h)
                  have HA3 := Lib.hid ((heap_setCellsW w20 g (i := w.heap.size) (by omega) [.int .i64 2, .int .i64 x.pl, .string ⟨#[]⟩] (p * 3)).trans HA2.out)
                  have HBB3 := Lib.hid ((heap_setCellsW w20 g (i := w2.heap.size) (by omega) [.int .i64 2, .int .i64 x.pl, .string ⟨#[]⟩] (p * 3)).trans HBB2.out)
                  have HB3 := Lib.hid (below_setCellsE HB2.out (b := g) (by omega) (p * 3) [.int .i64 2, .int .i64 x.pl, .string ⟨#[]⟩])
                  have hz21 : (w20.setCells g (p * 3) [.int .i64 2, .int .i64 x.pl, .string ⟨#[]⟩]).heap.size = w20.heap.size := size_setCellsW _ _ _ _
                  refine wpList_store_mid rfl 51 _ _ rfl g (p * 3) #[.int .i64 2, .int .i64 x.pl, .string ⟨#[]⟩] rfl rfl (HWR2.out.2.2 p x HX.out).2 infoWk1 (by kernel_rfl) ?_
                  have e21 : (#[.int .i64 2, .int .i64 x.pl, .string ⟨#[]⟩] : Array Value).toList = [.int .i64 2, .int .i64 x.pl, .string ⟨#[]⟩] := rfl
                  rw [e21]
                  clear e21
                  generalize w20.setCells g (p * 3) [.int .i64 2, .int .i64 x.pl, .string ⟨#[]⟩] = w21 at *
                  have HA := Lib.hid HA3.out
                  have HBB := Lib.hid HBB3.out
                  have HB := Lib.hid HB3.out
                  have cA0 : w21.cell? ⟨w.heap.size, 0, none⟩ = some (.int .i64 a.pr) := cell_of_row w21 _ 0 _ _ _ HA.out
                  have cA1 : w21.cell? ⟨w.heap.size, 1, none⟩ = some (.slice ua a.ws.length uc) := cell_of_row w21 _ 1 _ _ _ HA.out
                  have cBB0 : w21.cell? ⟨w2.heap.size, 0, none⟩ = some (.int .i64 a.pr) := cell_of_row w21 _ 0 _ _ _ HBB.out
                  have cBB1 : w21.cell? ⟨w2.heap.size, 1, none⟩ = some (.slice (some ⟨g, 0, none⟩) V.length cap) := cell_of_row w21 _ 1 _ _ _ HBB.out
                  have HU := Lib.hid (HU0.out.below HB.out)
                  have HVS := Lib.hid (show WS w21 (.slice (some ⟨g, 0, none⟩) V.length cap) (V.set p (otherW x)) from by have h := HWS.out.ws (c := cap) (by rw [List.length_set]; exact q1) q2; rwa [List.length_set] at h)
                  go_wp2_with fail
                  refine (CO.out _ _ w21 HU.out HVS.out).mono ?_
                  rintro e w22 ⟨rfl, b22⟩
                  replace HA := Lib.hid (hb_below b22 HA.out (by omega))
                  replace HBB := Lib.hid (hb_below b22 HBB.out (by omega))
                  have hzw22 : w21.heap.size ≤ w22.heap.size := b22.size
                  replace HB := Lib.hid (bon HB.out b22)
                  clear b22
                  clear cA0 cA1 cBB0 cBB1
                  have cA0 : w22.cell? ⟨w.heap.size, 0, none⟩ = some (.int .i64 a.pr) := cell_of_row w22 _ 0 _ _ _ HA.out
                  have cA1 : w22.cell? ⟨w.heap.size, 1, none⟩ = some (.slice ua a.ws.length uc) := cell_of_row w22 _ 1 _ _ _ HA.out
                  have cBB0 : w22.cell? ⟨w2.heap.size, 0, none⟩ = some (.int .i64 a.pr) := cell_of_row w22 _ 0 _ _ _ HBB.out
                  have cBB1 : w22.cell? ⟨w2.heap.size, 1, none⟩ = some (.slice (some ⟨g, 0, none⟩) V.length cap) := cell_of_row w22 _ 1 _ _ _ HBB.out
                  go_wp2_with fail
                  refine (CA.out _).mono ?_
                  rintro e wz ⟨rfl, bz⟩
                  have HBZ := Lib.hid (bon HB.out bz)
                  clear bz
                  go_wp2_with fail
                  go_ret
                  exact ⟨rfl, HBZ.out⟩
      · have k1000 : (1000 : Int) < (zs.length : Int) := by omega
        go_wp2_with fail
        refine (CA.out _).mono ?_
        rintro e wz ⟨rfl, bz⟩
        have HBZ := Lib.hid (bon HB.out bz)
        clear bz
        go_wp2_with fail
        go_ret
        exact ⟨rfl, HBZ.out⟩
    · have k80 : (80 : Int) < (a.ws.length : Int) := by omega
      go_wp2_with fail
      refine (CA.out _).mono ?_
      rintro e wz ⟨rfl, bz⟩
      have HBZ := Lib.hid (bon HB.out bz)
      clear bz
      go_wp2_with fail
      go_ret
      exact ⟨rfl, HBZ.out⟩
  · have hck' : (chkS a == 0) = false := beq_eq_false_iff_ne.2 hck
    go_wp2_with fail
    refine (CA.out _).mono ?_
    rintro e wz ⟨rfl, bz⟩
    have HBZ := Lib.hid (bon HB.out bz)
    clear bz
    go_wp2_with fail
    go_ret
    exact ⟨rfl, HBZ.out⟩
end Go.Proofs.Ytcjbjlepgdggpaa
