/- Collect, Edges. -/
import Derived.Test.YtcjbjlepgdggpaaFJ
namespace Go.Proofs.Ytcjbjlepgdggpaa
open Go.RowKit Go.Shelf Go.Lib
attribute [local go_sem] Oper.semAt_some
theorem collectEdges_any (Bs pr : Nat) (ws : List Wk) (a : Option Addr) (c : Nat) (hs : Small ws) (hpr : pr ≤ 24) (hc : ws.length ≤ c) (hcm : c ≤ maxLen) (w : World) (hBs : Bs < w.heap.size) (hc0 : w.cell? ⟨Bs, 0, none⟩ = some (.int .i64 (pr : Int))) (hc1 : w.cell? ⟨Bs, 1, none⟩ = some (.slice a ws.length c))
    (hW : ∀ (k : Nat) (x : Wk), ws[k]? = some x → ∃ b off, a = some ⟨b, off, none⟩ ∧ b < w.heap.size ∧ w.rangeAt b (off + k * 3) [.int .i64 x.kd, .int .i64 x.pl, .string x.wd] ∧ x.wd.size ≤ maxLen) :
    Calls Try.prog 76 #[.func (.func 91) #[] #[.pointer (some ⟨Bs, 0, none⟩)]] w fun e w' => ∃ v, e = .returned v ∧ w'.ownsRow w.heap.size 76 4 v (edgesL pr ws).length ((edgesL pr ws).flatMap Ed.cs) ∧ (v = .slice none 0 0 ↔ edgesL pr ws = []) ∧ Below w.heap.size w w' := by
  have C := Lib.hid (appendEdges_any Bs pr ws a c hs hpr hc hcm w hBs hc0 hc1 hW)
  clear hW hc0 hc1
  go_enter Try.func76, Try.ntmps76
  go_wp2_with fail
  refine C.out.mono ?_
  rintro e w' ⟨v, rfl, h1, h2, h3⟩
  go_wp2_with fail
  go_ret
  exact ⟨v, rfl, h1, h2, h3⟩
theorem chk_small {s : Sh} (h : chkS s = 0) : 2 ≤ s.pr ∧ s.pr ≤ 24 ∧ Small s.ws := by
  unfold chkS at h
  split at h
  · omega
  · split at h
    · omega
    · split at h
      · omega
      · split at h
        · omega
        · split at h
          · omega
          · rename_i h1 h2 _ h3 h4
            refine ⟨by omega, by omega, by omega, fun x hx => ?_⟩
            have h5 : s.ws.all (fun x => x.fits s.pr) = true := by simpa using h4
            have h6 := List.all_eq_true.1 h5 x hx
            unfold Wk.fits at h6
            simp only [Bool.and_eq_true, decide_eq_true_eq] at h6
            omega
/-- The edges that Edges returns. -/
def edgesV (s : Sh) : List Ed := if chkS s = 0 then edgesL s.pr.toNat s.ws else []
set_option maxHeartbeats 1000000 in
set_option maxRecDepth 100000 in
theorem Edges_any (s : Sh) (v : Value) (w : World) (hv : SV w v s) :
    Calls Try.prog 62 #[v] w fun e w' => ∃ v', e = .returned (.tuple #[v', .int .i64 (chkS s)]) ∧ w'.ownsRow w.heap.size 76 4 v' (edgesV s).length ((edgesV s).flatMap Ed.cs) ∧ (v' = .slice none 0 0 ↔ edgesV s = []) ∧ Below w.heap.size w w' := by
  obtain ⟨u, rfl, hu⟩ := hv
  have B1 := below_alloc w (.cells #[.int .i64 s.pr, u] 24)
  have hr0 := heap_alloc_new w (.cells #[.int .i64 s.pr, u] 24)
  have c0 : (w.alloc (.cells #[.int .i64 s.pr, u] 24)).cell? ⟨w.heap.size, 0, none⟩ = some (.int .i64 s.pr) := cell_of_row _ _ 0 _ _ _ hr0
  have c1 : (w.alloc (.cells #[.int .i64 s.pr, u] 24)).cell? ⟨w.heap.size, 1, none⟩ = some u := cell_of_row _ _ 1 _ _ _ hr0
  have hz0 : w.heap.size < (w.alloc (.cells #[.int .i64 s.pr, u] 24)).heap.size := by simp
  obtain ⟨W0, hW0⟩ : ∃ W0, W0 = w.alloc (.cells #[.int .i64 s.pr, u] 24) := ⟨_, rfl⟩
  rw [← hW0] at B1 hr0 c0 c1 hz0
  have hu0 := hu.below B1
  have CK := Lib.hid (check_any s _ W0 ⟨u, rfl, hu0⟩)
  have HB1 := Lib.hid B1
  obtain ⟨a, c, rfl, h1, h2, _⟩ := hu
  have hWr := hW0.symm
  clear hW0 hr0 B1
  have HV := Lib.hid (show edgesV s = if chkS s = 0 then edgesL s.pr.toNat s.ws else [] from rfl)
  have HS := Lib.hid (@chk_small s)
  have Hu0 := Lib.hid hu0
  clear hu0
  unfold maxLen at h2
  generalize chkS s = z at *
  by_cases q : z = 0
  · have e : edgesV s = edgesL s.pr.toNat s.ws := by rw [HV.out, if_pos q]
    obtain ⟨g1, g2, g3⟩ := HS.out q
    subst q
    rw [e]
    clear HV HS e
    have HG := Lib.hid g3
    clear g3
    go_enter Try.func62, Try.ntmps62
    go_wp2_with fail
    refine CK.out.mono ?_
    rintro e w1 ⟨rfl, B2⟩
    have d0 := (B2.cell (p := ⟨w.heap.size, 0, none⟩) hz0).trans c0
    have d1 := (B2.cell (p := ⟨w.heap.size, 1, none⟩) hz0).trans c1
    have Hu1 := Lib.hid (Hu0.out.below B2)
    have HB2 := Lib.hid (bon HB1.out B2)
    clear CK B2
    go_wp2_with fail
    refine (edges_any _ _ _).mono ?_
    rintro e w2 ⟨rfl, hw2⟩
    have B3 := below_alloc w1 (.cells #[.int .i64 s.pr, .slice a s.ws.length c] 24)
    have hz := heap_alloc_new w1 (.cells #[.int .i64 s.pr, .slice a s.ws.length c] 24)
    rw [← hw2] at B3 hz
    clear hw2
    have hlt := (Array.getElem?_eq_some_iff.1 hz).1
    have e0 : w2.cell? ⟨w1.heap.size, 0, none⟩ = some (.int .i64 (s.pr.toNat : Int)) := (cell_of_row w2 _ 0 _ _ _ hz).trans (by rw [show (s.pr.toNat : Int) = s.pr by omega]; rfl)
    have e1 : w2.cell? ⟨w1.heap.size, 1, none⟩ = some (.slice a s.ws.length c) := cell_of_row w2 _ 1 _ _ _ hz
    have CE := Lib.hid (collectEdges_any w1.heap.size s.pr.toNat s.ws a c HG.out (by omega) h1 (by unfold maxLen; omega) w2 hlt e0 e1 (by
      obtain ⟨a', c', e, _, _, hk⟩ := Hu1.out.below B3
      injection e with ea _ ec
      subst ea
      exact hk))
    have HB3 := Lib.hid (bon HB2.out B3)
    clear B3 hz hlt e0 e1
    go_wp2_with fail
    refine CE.out.mono ?_
    rintro e w3 ⟨v', rfl, k1, k2, k3⟩
    have Hk1 := Lib.hid k1
    have HB4 := Lib.hid (bon HB3.out k3)
    clear k1 k3 CE
    go_wp2_with fail
    go_ret2
    exact ⟨v', rfl, own_mono Hk1.out HB3.out.size, k2, HB4.out⟩
  · clear HS
    have e : edgesV s = [] := by rw [HV.out, if_neg q]
    rw [e]
    clear HV e
    go_enter Try.func62, Try.ntmps62
    go_wp2_with fail
    refine CK.out.mono ?_
    rintro e w1 ⟨rfl, B2⟩
    have HB2 := Lib.hid (bon HB1.out B2)
    clear CK B2
    go_wp2_with fail
    go_ret2
    exact ⟨_, rfl, World.ownsRow_nil _ _ _ _, by simp, HB2.out⟩
end Go.Proofs.Ytcjbjlepgdggpaa
