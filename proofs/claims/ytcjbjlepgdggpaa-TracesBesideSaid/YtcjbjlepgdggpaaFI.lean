/- The edges' iterator made, and as a sequence that a range may stop. -/
import Derived.Test.YtcjbjlepgdggpaaFH
namespace Go.Proofs.Ytcjbjlepgdggpaa
open Go.RowKit Go.Shelf Go.Lib
attribute [local go_sem] Oper.semAt_some
theorem edges_any (pr : Int) (u : Value) (w : World) :
    Calls Try.prog 77 #[.agg #[.int .i64 pr, u]] w fun e w' => e = .returned (.func (.func 91) #[] #[.pointer (some ⟨w.heap.size, 0, none⟩)]) ∧ w' = w.alloc (.cells #[.int .i64 pr, u] 24) := by
  go_enter Try.func77, Try.ntmps77
  go_wp2_with fail
  go_ret
  exact ⟨rfl, rfl⟩
set_option maxHeartbeats 1000000 in
theorem edges_stops (n : Nat) (hn : 1 ≤ n) (Bs n₀ pr : Nat) (ws : List Wk) (a : Option Addr) (c : Nat) (hs : Small ws) (hpr : pr ≤ 24) (hc : ws.length ≤ c) (hcm : c ≤ maxLen) (X : Nat) (hXs : Bs ≠ X) (hXn : X < n₀)
    (w : World) (hn₀ : n₀ ≤ w.heap.size) (hBz : Bs < w.heap.size) (hBs : Bs < n₀ ∨ ∃ cs t fr, t ≠ 76 ∧ w.heap[Bs]? = some (.cells cs t fr)) (hc0 : w.cell? ⟨Bs, 0, none⟩ = some (.int .i64 (pr : Int))) (hc1 : w.cell? ⟨Bs, 1, none⟩ = some (.slice a ws.length c))
    (hW : ∀ (k : Nat) (x : Wk), ws[k]? = some x → ∃ b off, a = some ⟨b, off, none⟩ ∧ b < n₀ ∧ b ≠ X ∧ w.rangeAt b (off + k * 3) [.int .i64 x.kd, .int .i64 x.pl, .string x.wd] ∧ x.wd.size ≤ maxLen) :
    SeqStopsK Fence.wide n Try.prog 91 #[.pointer (some ⟨Bs, 0, none⟩)] (fun x : EdA pr ws => #[x.1.val]) (BelowX X n₀) (fun ys => ys.map (·.1) = edgesL pr ws) (fun _ => True) 1000 w := fun l J Jx W hWb hJ _ hY h0 => by
  have hWn : Below n₀ w W := hWb.mono hn₀
  refine (edges1_in n hn l Bs n₀ pr ws a c hs hpr hc hcm X hXs hXn J Jx hY W (Nat.le_trans hn₀ hWb.size) (Nat.lt_of_lt_of_le hBz hWb.size) (hBs.imp_right fun ⟨cs, t, fr, h1, h2⟩ => ⟨cs, t, fr, h1, (hWb.block Bs hBz).trans h2⟩) ((hWb.cell (p := ⟨Bs, 0, none⟩) hBz).trans hc0) ((hWb.cell (p := ⟨Bs, 1, none⟩) hBz).trans hc1) (fun k x hx => ?_) ?_ h0).mono ?_
  · obtain ⟨b, off, e, hb, hbX, hr, hsz⟩ := hW k x hx
    exact ⟨b, off, e, hb, hbX, fun j v hv => (hWn.cell (p := ⟨b, off + k * 3 + j, none⟩) hb).trans (hr j v hv), hsz⟩
  · intro pre A B hA hAB
    exact hJ pre A B none hA ⟨hAB.os, hAB.tape, hAB.output, hAB.size, fun k hk _ => hAB.block k hk⟩ (fun r e => by cases e)
  · rintro e W' ⟨he, ⟨ys, h1, h2⟩ | ⟨pre, h2⟩⟩
    · exact ⟨he, .inl ⟨ys, h1, h2⟩⟩
    · exact ⟨he, .inr ⟨pre, trivial, h2⟩⟩
end Go.Proofs.Ytcjbjlepgdggpaa
