/- Rows of works that are written; exchanges of neighbours. -/
import Derived.Test.YtcjbjlepgdggpaaTNO
import Derived.Test.YtcjbjlepgdggpaaTY
import Derived.Deep.MidRow
import Derived.Deep.CutRange
namespace Go.Proofs.Ytcjbjlepgdggpaa
open Go.RowKit Go.Shelf Go.Lib
set_option maxRecDepth 100000
set_option linter.unusedSimpArgs false
attribute [local irreducible] wpQuiet
/-- A row of works that may be written. -/
def WR (w : World) (g : Nat) (L : List Wk) : Prop := g < w.heap.size ∧ (∀ x ∈ L, x.wd.size ≤ maxLen) ∧ ∀ (k : Nat) (x : Wk), L[k]? = some x → w.rangeAt g (k * 3) (wl x) ∧ w.there g (k * 3) 3
theorem WR.below {B g : Nat} {w w' : World} {L : List Wk} (h : WR w g L) (hb : Below B w w') (hg : g < B) : WR w' g L :=
  ⟨by have := h.1; have := (Array.getElem?_eq_some_iff.1 ((hb.block _ hg).trans (Array.getElem?_eq_getElem h.1))).1; exact this, h.2.1, fun k x hx => by
    obtain ⟨h1, h2⟩ := h.2.2 k x hx
    have e := hb.block _ hg
    refine ⟨fun j v hv => (hb.cell (p := ⟨g, k * 3 + j, none⟩) hg).trans (h1 j v hv), fun j hj => ?_⟩
    obtain ⟨a, b⟩ := h2 j hj
    exact ⟨by rw [hb.cell (p := ⟨g, k * 3 + j, none⟩) hg]; exact a, by unfold World.frozen? at b ⊢; simp only at b ⊢; rw [e]; exact b⟩⟩
theorem size_setCellsW (w : World) (b : Nat) : ∀ (vs : List Value) (o : Nat), (w.setCells b o vs).heap.size = w.heap.size := by
  intro vs
  induction vs generalizing w with
  | nil => intro o; rfl
  | cons v vs ih => intro o; rw [World.setCells, ih]; simp
theorem heap_setCellsW (w : World) (g : Nat) {i : Nat} (hne : i ≠ g) : ∀ (vs : List Value) (o : Nat), (w.setCells g o vs).heap[i]? = w.heap[i]? := by
  intro vs
  induction vs generalizing w with
  | nil => intro o; rfl
  | cons v vs ih => intro o; rw [World.setCells, ih, heap_setCell_other _ _ _ _ hne]
theorem WR.set {g k : Nat} {w : World} {L : List Wk} {x y : Wk} (h : WR w g L) (hx : L[k]? = some x) (hy : y.wd.size ≤ maxLen) : WR (w.setCells g (k * 3) (wl y)) g (L.set k y) := by
  refine ⟨by rw [size_setCellsW]; exact h.1, fun z hz => ?_, fun j z hz => ?_⟩
  · rcases List.mem_or_eq_of_mem_set hz with q | q
    · exact h.2.1 z q
    · rw [q]; exact hy
  · have hk := (List.getElem?_eq_some_iff.1 hx).1
    rw [List.getElem?_set] at hz
    by_cases e : k = j
    · subst e
      rw [if_pos rfl, if_pos hk] at hz
      injection hz with hz
      subst hz
      exact ⟨World.rangeAt_setCells_same w g _ _ (h.2.2 k x hx).2, World.there_setCells (h.2.2 k x hx).2 _ _ _⟩
    · rw [if_neg e] at hz
      obtain ⟨h1, h2⟩ := h.2.2 j z hz
      refine ⟨World.rangeAt_setCells_apart h1 _ _ _ (.inr ?_), World.there_setCells h2 _ _ _⟩
      rw [wl_len, wl_len]
      omega
theorem wr_own {B g cap n : Nat} {w : World} {L : List Wk} (h : WO B w (.slice (some ⟨g, 0, none⟩) n cap) L) (hs : ∀ x ∈ L, x.wd.size ≤ maxLen) : WR w g L := by
  obtain ⟨hl, hh⟩ := h
  rcases hh with ⟨e, h0⟩ | ⟨g', cap', cur, e, _, hg, hle, hmx, hsz, htk⟩
  · cases e
  · cases e
    have hgs := (Array.getElem?_eq_some_iff.1 hg).1
    have key : ∀ (k : Nat) (x : Wk), L[k]? = some x → ∀ (j : Nat) u, (wl x)[j]? = some u → w.cell? ⟨g, k * 3 + j, none⟩ = some u := fun k x hx j u hu => by
      have hk := (List.getElem?_eq_some_iff.1 hx).1
      have hj := (List.getElem?_eq_some_iff.1 hu).1
      have hj3 : j < 3 := by rw [wl_len] at hj; exact hj
      rw [cell_of_row _ _ _ _ _ _ hg]
      have e := wfl_get L k x hx j hj3
      rw [← htk, List.getElem?_take_of_lt (by omega), hu] at e
      rw [← Array.getElem?_toList]
      exact e
    refine ⟨hgs, hs, fun k x hx => ⟨fun j u hu => key k x hx j u hu, fun j hj => ?_⟩⟩
    have hu : (wl x)[j]? = some ((wl x)[j]'(by rw [wl_len]; exact hj)) := List.getElem?_eq_getElem _
    exact ⟨by rw [key k x hx j _ hu]; rfl, by simp [World.frozen?, hg]⟩
theorem WR.ws {g c : Nat} {w : World} {L : List Wk} (h : WR w g L) (h1 : L.length ≤ c) (h2 : c ≤ maxLen) : WS w (.slice (some ⟨g, 0, none⟩) L.length c) L :=
  ⟨_, c, rfl, h1, h2, fun k x hx => ⟨g, 0, rfl, h.1, by rw [Nat.zero_add]; exact (h.2.2 k x hx).1, h.2.1 x (List.mem_of_getElem? hx)⟩⟩
/-- The works of a sheet that was copied. -/
def XR (B bx : Nat) (w : World) (v : Value) (L : List Wk) : Prop := ∃ av cap, v = .slice av L.length cap ∧ L.length ≤ cap ∧ cap ≤ maxLen ∧ (L = [] ∨ ∃ g, av = some ⟨g, 0, none⟩ ∧ B ≤ g ∧ g ≠ bx ∧ WR w g L)
theorem XR.ws {B bx : Nat} {w : World} {v : Value} {L : List Wk} (h : XR B bx w v L) : WS w v L := by
  obtain ⟨av, cap, rfl, h1, h2, h3⟩ := h
  rcases h3 with rfl | ⟨g, rfl, _, _, h4⟩
  · exact ⟨av, cap, rfl, h1, h2, fun k x hx => by simp at hx⟩
  · exact h4.ws h1 h2
theorem XR.below {B bx : Nat} {w w' : World} {v : Value} {L : List Wk} (h : XR B bx w v L) (hb : Below w.heap.size w w') : XR B bx w' v L := by
  obtain ⟨av, cap, rfl, h1, h2, h3⟩ := h
  refine ⟨av, cap, rfl, h1, h2, ?_⟩
  rcases h3 with rfl | ⟨g, rfl, h4, h5, h6⟩
  · exact .inl rfl
  · exact .inr ⟨g, rfl, h4, h5, h6.below hb h6.1⟩
theorem xr_own {B bx : Nat} {w : World} {v : Value} {L : List Wk} (h : WO B w v L) (hs : ∀ x ∈ L, x.wd.size ≤ maxLen) {vs : Array Value} (hbx : w.heap[bx]? = some (.cells vs 24 (0, 0))) : XR B bx w v L := by
  have h' := h
  obtain ⟨hl, hh⟩ := h
  rcases hh with ⟨rfl, h0⟩ | ⟨g, cap, cur, rfl, hBg, hg, hle, hmx, hsz, htk⟩
  · have : L = [] := List.eq_nil_of_length_eq_zero h0
    subst this
    exact ⟨none, 0, rfl, Nat.le_refl _, Nat.zero_le _, .inl rfl⟩
  · exact ⟨_, cap, rfl, hle, hmx, .inr ⟨g, rfl, hBg, (fun e => by subst e; rw [hg] at hbx; cases hbx), wr_own h' hs⟩⟩
theorem xr_other {B C bx by_ : Nat} {w w' : World} {v : Value} {L : List Wk} (h : XR B by_ w v L) (hk : ∀ (k : Nat) (ob : Option Obj), w.heap[k]? = ob → k ≠ bx → w'.heap[k]? = ob) (hC : C < B) (hb : bx < B) : XR C C w' v L := by
  obtain ⟨av, cap, rfl, h1, h2, h3⟩ := h
  refine ⟨av, cap, rfl, h1, h2, ?_⟩
  rcases h3 with rfl | ⟨g, rfl, h4, h5, h6⟩
  · exact .inl rfl
  · have hne : g ≠ bx := by omega
    have hg : ∀ o, w'.cell? ⟨g, o, none⟩ = w.cell? ⟨g, o, none⟩ ∧ w'.frozen? ⟨g, o, none⟩ = w.frozen? ⟨g, o, none⟩ := fun o => by
      have e := hk g _ rfl hne
      exact ⟨World.cell?_of_block e, by unfold World.frozen?; simp only [e]⟩
    refine .inr ⟨g, rfl, by omega, by omega, ?_, h6.2.1, fun k x hx => ?_⟩
    · have := hk g _ (Array.getElem?_eq_getElem h6.1) hne
      exact (Array.getElem?_eq_some_iff.1 this).1
    · obtain ⟨a, b⟩ := h6.2.2 k x hx
      refine ⟨fun j v hv => (hg _).1.trans (a j v hv), fun j hj => ?_⟩
      rw [(hg _).1, (hg _).2]
      exact b j hj
/-- A slice of uint16. -/
def HS (w : World) (v : Value) (zs : List Nat) : Prop := ∃ a c, v = .slice a zs.length c ∧ zs.length ≤ c ∧ c ≤ maxLen ∧ ∀ (k z : Nat), zs[k]? = some z → z < 65536 ∧ ∃ b off, a = some ⟨b, off, none⟩ ∧ b < w.heap.size ∧ w.cell? ⟨b, off + k, none⟩ = some (.int .u16 (z : Int))
theorem HS.below {w w' : World} {v : Value} {zs : List Nat} (h : HS w v zs) (hb : Below w.heap.size w w') : HS w' v zs := by
  obtain ⟨a, c, e, h1, h2, h3⟩ := h
  refine ⟨a, c, e, h1, h2, fun k z hk => ?_⟩
  obtain ⟨h4, b, off, e2, h5, h6⟩ := h3 k z hk
  exact ⟨h4, b, off, e2, Nat.lt_of_lt_of_le h5 hb.size, (hb.cell (p := ⟨b, off + k, none⟩) h5).trans h6⟩
theorem wo_nil {B b : Nat} {W : World} (h : W.heap[b]? = some (.cells #[] 51 (0, 0))) (hB : B ≤ b) : WO B W (.slice (some ⟨b, 0, none⟩) 0 0) [] :=
  ⟨rfl, .inr ⟨b, 0, #[], rfl, hB, h, Nat.le_refl _, Nat.zero_le _, rfl, rfl⟩⟩
theorem wp_dup {o : Oper} {a : Act} {K : Act → World → Prop} {Q : Exit → Act → World → Prop} {w w0 : World} (B : Nat) (X : List Wk)
    (s y : Operand) (ho : o.op = .call { callee := .builtin .append, args := #[s, y], argTypes := #[22, 22] }) (b : Nat) (hs : a.eval s = .slice (some ⟨b, 0, none⟩) 0 0)
    (hh : w.heap[b]? = some (.cells #[] 51 (0, 0))) (hB : B ≤ b) (u : Value) (hy : a.eval y = u) (hb : Below B w0 w) (hxs0 : Below B w0 w → WS w u X) (h0 : ∀ n c, u = .slice none n c → c = 0) (hl : X.length < 100000)
    (h : ∀ v' w', Hid (WO B w' v' X) → Hid (Below B w0 w') → Hid (∀ (k : Nat) ob, w.heap[k]? = some ob → k ≠ b → w'.heap[k]? = some ob) → w.heap.size ≤ w'.heap.size → K (a.put o.dst v') w') :
    Oper.wp Try.prog o a w K Q := by
  obtain ⟨i0, hi, hz0, hz1, hz2⟩ := info_parts infoWk3
  have hown := wo_nil hh hB
  obtain ⟨sa, sc, rfl, _, _, hxs⟩ := hxs0 hb
  clear hxs0
  cases sa with
  | none =>
    obtain rfl := h0 _ _ rfl
    have hx0 : X = [] := by
      cases X with
      | nil => rfl
      | cons x X => obtain ⟨b, off, e, _⟩ := hxs 0 x rfl; cases e
    subst hx0
    have hrun := run_append_owned_none (P := Try.prog) (w := w) B 22 o.type 51 i0 3 Try.underlying22 hi _ _ _ hown
    unfold Oper.wp
    simp only [List.length_nil] at hy
    simp [execOp, ho, resolve, invoke, builtin, hs, hy, hrun, Result.andThen]
    exact h _ _ hown hb (fun k ob hk _ => hk) (Nat.le_refl _)
  | some ad =>
    refine wp_append_own _ s y 22 ho B 51 i0 (.agg #[.int .i64 0, .int .i64 0, .string ⟨#[]⟩]) 3 32 Try.underlying22 hi hz0 hz1 hz2 rfl (by decide) _ _ _ hs hown ad X.length sc (wfl X) hy (wfl_len X) ?_ (wfl_one X) (by unfold maxLen; simp; omega) (by simp; omega) (by have := (Array.getElem?_eq_some_iff.1 hh).1; omega) ?_
    · intro j t hj
      have hjl := (List.getElem?_eq_some_iff.1 hj).1
      rw [wfl_len] at hjl
      obtain ⟨x, hx, hg⟩ := wfl_of X j hjl
      obtain ⟨b, off, e, _, hr, _⟩ := hxs _ x hx
      cases e
      rw [Addr.add_mid]
      have := hr (j % 3) t (by rw [hg] at hj; exact hj)
      rwa [show off + j / 3 * 3 + j % 3 = off + j by omega] at this
    · intro v' w' hown' hgrow _
      refine h v' w' ?_ (Below.grown hb hgrow (by have := (Array.getElem?_eq_some_iff.1 hh).1; omega) fun k e => by simp [Value.ownBlock] at e; omega) (fun k ob hk hne => ?_) hgrow.size
      · show WO B w' v' X
        unfold WO
        simpa [wfl] using hown'
      · rw [hgrow.block k (Array.getElem?_eq_some_iff.1 hk).1 (fun e => by simp [Value.ownBlock] at e; exact hne e)]
        exact hk
theorem wo_other {B bx : Nat} {w w' : World} {v : Value} {L : List Wk} {vs : Array Value} (h : WO B w v L) (hbx : w.heap[bx]? = some (.cells vs 24 (0, 0))) (hk : ∀ (k : Nat) (ob : Option Obj), w.heap[k]? = ob → k ≠ bx → w'.heap[k]? = ob) : WO B w' v L := by
  obtain ⟨hl, hh⟩ := h
  refine ⟨hl, ?_⟩
  rcases hh with h0 | ⟨g2, cap, cur, e, hB, hg2, h1⟩
  · exact .inl h0
  · exact .inr ⟨g2, cap, cur, e, hB, hk _ _ hg2 (fun e => by subst e; rw [hg2] at hbx; cases hbx), h1⟩
theorem WO.lower {B C : Nat} {w : World} {v : Value} {L : List Wk} (h : WO B w v L) (hC : C ≤ B) : WO C w v L := by
  obtain ⟨hl, hh⟩ := h
  refine ⟨hl, ?_⟩
  rcases hh with h0 | ⟨g2, cap, cur, e, hB, h1⟩
  · exact .inl h0
  · exact .inr ⟨g2, cap, cur, e, Nat.le_trans hC hB, h1⟩
section
variable {P : Program} {md : Region.Mode} {ops : Array Oper} {Q : Exit → Act → World → Prop} {S : World → Prop} {fuel : Nat} {d : Array Bool} {a : Act} {w : World}
theorem held_storeG {i : Nat} {o : Oper} (hr : Region.ready md ops d = [i]) (hi : ops[i]? = some o) (hg : o.guard = none) (ty : TypeId) (x y : Operand) (ho : o.op = .store ty x y) (ad : Addr) (u : Value) (hx : a.eval x = .pointer (some ad)) (hy : a.eval y = u) (w2 : World)
    (hs : (storeVar ty ad u).run P w = .ok () w2) (hS : S w2)
    (h : wpAnyH P md ops Q S fuel (d.setIfInBounds i true) (a.put o.dst undef) w2) : wpAnyH P md ops Q S (fuel + 1) d a w := by
  refine wpAnyH_all hr (by simp) fun j hj => ?_
  obtain rfl : j = i := by simpa using hj
  have hw : Region.wanted o (yielded ops a.tmps) = true := by simp [Region.wanted, hg]
  unfold wpOp
  simp only [hi]
  rw [if_pos hw]
  refine .inl ?_
  unfold Oper.wp execOp
  simp only [ho, hx, hy, Instr.storeAt, Instr.sureAddr, Sem.run_bind, Sem.run_pure, Result.andThen_ok, hs]
  exact ⟨hS, h⟩
theorem held_storeRow {i : Nat} {o : Oper} (hr : Region.ready md ops d = [i]) (hi : ops[i]? = some o) (hg : o.guard = none) (ty : TypeId) (x y : Operand) (ho : o.op = .store ty x y)
    (g : Nat) (cells : Array Value) (hx : a.eval x = .pointer (some ⟨g, 0, none⟩)) (hy : a.eval y = .agg cells)
    (t : TypeId) (old : Array Value) (hgx : w.heap[g]? = some (.cells old t (0, 0))) (hin : (P.info? ty).map (·.size) = some cells.size)
    (hold : old.size = cells.size) (h1 : cells.all (·.oneCell') = true)
    (h : ∀ w', w'.heap[g]? = some (.cells cells t (0, 0)) → (∀ (k : Nat) (ob : Option Obj), w.heap[k]? = ob → k ≠ g → w'.heap[k]? = ob) → w'.heap.size = w.heap.size → (∀ B w0, Below B w0 w → B ≤ g → Below B w0 w') → S w' ∧ wpAnyH P md ops Q S fuel (d.setIfInBounds i true) (a.put o.dst undef) w') : wpAnyH P md ops Q S (fuel + 1) d a w := by
  have key := run_storeVar_row w g t ty old cells hgx hin hold h1
  have hh := h (w.setRow g cells) ?_ ?_ ?_ ?_
  · exact held_storeG hr hi hg ty x y ho ⟨g, 0, none⟩ _ hx hy _ key hh.1 hh.2
  · unfold World.setRow
    simp only [Array.getElem?_modify, if_pos, hgx, Option.map_some]
  · intro k ob hk hne
    rw [← hk]
    unfold World.setRow
    simp only [Array.getElem?_modify, if_neg (Ne.symm hne)]
  · simp [World.setRow]
  · intro B w0 hb hB
    exact hb.trans ⟨rfl, rfl, rfl, by simp [World.setRow], fun k hk => by unfold World.setRow; simp only [Array.getElem?_modify]; rw [if_neg (by omega)]⟩
theorem op_runX {i : Nat} {o : Oper} {K : Act → World → Prop} (hi : ops[i]? = some o) (hg : o.guard = none) (v : Value) (w' : World) (hx : (execOp a.eval o).run P w = .ok (.value v) w') (h : K (a.put o.dst v) w') : wpOp P ops Q i K a w := by
  have hw : Region.wanted o (yielded ops a.tmps) = true := by simp [Region.wanted, hg]
  unfold wpOp
  simp only [hi]
  rw [if_pos hw]
  refine .inl ?_
  unfold Oper.wp
  rw [hx]
  simp only [Oper.upon]
  exact h
theorem held_runY {i : Nat} {o : Oper} (hr : Region.ready md ops d = [i]) (hi : ops[i]? = some o) (hg : o.guard = none) (v : Value) (w' : World) (hx : (execOp a.eval o).run P w = .ok (.value v) w') (hS : S w')
    (h : wpAnyH P md ops Q S fuel (d.setIfInBounds i true) (a.put o.dst v) w') : wpAnyH P md ops Q S (fuel + 1) d a w := by
  refine wpAnyH_all hr (by simp) fun j hj => ?_
  obtain rfl : j = i := by simpa using hj
  exact op_runX hi hg v w' hx ⟨hS, h⟩
theorem op_wp {i : Nat} {o : Oper} {K : Act → World → Prop} (hi : ops[i]? = some o) (hg : o.guard = none) (h : o.wp P a w K Q) : wpOp P ops Q i K a w := by
  have hw : Region.wanted o (yielded ops a.tmps) = true := by simp [Region.wanted, hg]
  unfold wpOp
  simp only [hi]
  rw [if_pos hw]
  exact .inl h
end
theorem load_u16 (ad : Addr) (v : Value) (w : World) (h : w.cell? ad = some v) : (Instr.loadAt 77 (.pointer (some ad))).run Try.prog w = .ok v w := by
  simp [Instr.loadAt, go_sem, loadVar, Try.isAgg77, h]
theorem infoSh2 : (Try.prog.info? 24).map (·.size) = some 2 := by kernel_rfl
theorem infoWk1 : (Try.prog.info? 51).map (·.size) = some 3 := by kernel_rfl
theorem exL_short (W : List Wk) (h : W.length ≤ 1) : ∀ (zs : List Nat), exL W zs = W
  | [] => rfl
  | z :: zs => by rw [exL, if_neg (by omega)]; exact exL_short W h zs
theorem swN_set {L : List Wk} {p : Nat} {x y : Wk} (hx : L[p]? = some x) (hy : L[p + 1]? = some y) : swN L p = (L.set p y).set (p + 1) x := by
  unfold swN
  rw [hx, hy]
set_option maxHeartbeats 8000000 in
/-- exchanged: the sheet whose neighbours were exchanged. -/
theorem exchanged_any (s : Sh) (ua ha : Option Addr) (uc hc : Nat) (zs : List Nat) (w : World) (hu : WS w (.slice ua s.ws.length uc) s.ws) (h0 : ua = none → uc = 0) (hz : HS w (.slice ha zs.length hc) zs) (hsm : Small s.ws) (hzl : zs.length ≤ 2000) :
    Calls Try.prog 35 #[.agg #[.int .i64 s.pr, .slice ua s.ws.length uc], .slice ha zs.length hc] w fun e w' => ∃ v, e = .returned (.agg #[.int .i64 s.pr, v]) ∧ XR w.heap.size w.heap.size w' v (exL s.ws zs) ∧ Below w.heap.size w w' := by
  have HU := Lib.hid hu
  have HZ := Lib.hid hz
  have HSM := Lib.hid hsm
  have HC0 := Lib.hid (show ∀ n c, Value.slice ua s.ws.length uc = .slice none n c → c = 0 from fun n c e => by cases e; exact h0 rfl)
  have HWD := Lib.hid (show ∀ x ∈ s.ws, x.wd.size ≤ maxLen from fun x hx => by
    obtain ⟨_, _, _, _, _, hh⟩ := hu
    obtain ⟨k, hk⟩ := List.getElem?_of_mem hx
    obtain ⟨_, _, _, _, _, q⟩ := hh k x hk
    exact q)
  have hl4 := hsm.1
  clear hu h0 hz hsm
  go_enter Try.func35, Try.ntmps35
  go_wp2_with fail
  have B0 : Below w.heap.size w ((w.alloc (.cells #[.int .i64 s.pr, .slice ua s.ws.length uc] 24)).alloc (.cells #[.int .i64 0, .slice none 0 0] 24)) := (below_alloc _ _).alloc (by simp) _
  have i0 := heap_alloc2_old w (.cells #[.int .i64 s.pr, .slice ua s.ws.length uc] 24) (.cells #[.int .i64 0, .slice none 0 0] 24)
  have i1 := heap_alloc2_new w (.cells #[.int .i64 s.pr, .slice ua s.ws.length uc] 24) (.cells #[.int .i64 0, .slice none 0 0] 24)
  have hz0 : w.heap.size + 2 ≤ ((w.alloc (.cells #[.int .i64 s.pr, .slice ua s.ws.length uc] 24)).alloc (.cells #[.int .i64 0, .slice none 0 0] 24)).heap.size := by simp
  generalize (w.alloc (.cells #[.int .i64 s.pr, .slice ua s.ws.length uc] 24)).alloc (.cells #[.int .i64 0, .slice none 0 0] 24) = W0 at *
  have HB0 := Lib.hid B0
  have H0 := Lib.hid i0
  have H1 := Lib.hid i1
  clear B0 i0 i1
  have c0 : W0.cell? ⟨w.heap.size, 0, none⟩ = some (.int .i64 s.pr) := cell_of_row W0 _ 0 _ _ _ H0.out
  have c1 : W0.cell? ⟨w.heap.size, 1, none⟩ = some (.slice ua s.ws.length uc) := cell_of_row W0 _ 1 _ _ _ H0.out
  have ca0 := fun o => ((below_alloc W0 o).cell (p := ⟨w.heap.size, 0, none⟩) (by simp; omega)).trans c0
  have ca1 := fun o => ((below_alloc W0 o).cell (p := ⟨w.heap.size, 1, none⟩) (by simp; omega)).trans c1
  have cb0 := fun o o' => (((below_alloc W0 o).alloc (by simp) o').cell (p := ⟨w.heap.size, 0, none⟩) (by simp; omega)).trans c0
  have cb1 := fun o o' => (((below_alloc W0 o).alloc (by simp) o').cell (p := ⟨w.heap.size, 1, none⟩) (by simp; omega)).trans c1
  go_cut [5] from 8 to 14 (fun t wc => ∃ (bx : Nat) (v : Value), t = .pointer (some ⟨bx, 0, none⟩) ∧ W0.heap.size ≤ bx ∧ wc.heap[bx]? = some (.cells #[.int .i64 s.pr, v] 24 (0, 0)) ∧ XR W0.heap.size bx wc v s.ws ∧ Below W0.heap.size W0 wc)
  case first =>
    refine wp_region_held (S := fun V => Below W0.heap.size W0 V) (by kernel_rfl) ?_
    have D0 : Below W0.heap.size W0 ({ W0 with drawn := W0.drawn + 1 }) := (Below.refl _ W0).drew
    have hD0 : ({ W0 with drawn := W0.drawn + 1 } : World).heap.size = W0.heap.size := rfl
    generalize ({ W0 with drawn := W0.drawn + 1 } : World) = WD at *
    refine held_takeX (i := 0) rfl (by kernel_rfl) (by kernel_rfl) (by kernel_rfl) (.pointer (some ⟨w.heap.size, 0, none⟩)) (fun _ _ _ h => h) D0 rfl (fun w _ => by go_simp) ?_
    simp only [Act.put, List.getElem_toArray, List.getElem_cons_succ, List.getElem_cons_zero, List.setIfInBounds_toArray, List.set_cons_zero, List.set_cons_succ]
    refine held_loadX (i := 1) rfl (by kernel_rfl) (by kernel_rfl) (by kernel_rfl) (.int .i64 s.pr) (fun _ _ _ h => h) D0 rfl _ _ rfl ⟨w.heap.size, 0, none⟩ rfl (fun w' h => load_int _ _ _ h) (fun V h => (h.cell (p := ⟨w.heap.size, 0, none⟩) (by simp; omega)).trans c0) ?_
    simp only [Act.put, List.getElem_toArray, List.getElem_cons_succ, List.getElem_cons_zero, List.setIfInBounds_toArray, List.set_cons_zero, List.set_cons_succ]
    refine held_takeX (i := 3) rfl (by kernel_rfl) (by kernel_rfl) (by kernel_rfl) (.pointer (some ⟨w.heap.size, 1, none⟩)) (fun _ _ _ h => h) D0 rfl (fun w _ => by go_simp) ?_
    simp only [Act.put, List.getElem_toArray, List.getElem_cons_succ, List.getElem_cons_zero, List.setIfInBounds_toArray, List.set_cons_zero, List.set_cons_succ]
    refine held_loadX (i := 4) rfl (by kernel_rfl) (by kernel_rfl) (by kernel_rfl) (.slice ua s.ws.length uc) (fun _ _ _ h => h) D0 rfl _ _ rfl ⟨w.heap.size, 1, none⟩ rfl (fun w' h => load_ws _ _ _ h) (fun V h => (h.cell (p := ⟨w.heap.size, 1, none⟩) (by simp; omega)).trans c1) ?_
    simp only [Act.put, List.getElem_toArray, List.getElem_cons_succ, List.getElem_cons_zero, List.setIfInBounds_toArray, List.set_cons_zero, List.set_cons_succ]
    have hWD : W0.heap.size ≤ WD.heap.size := by omega
    refine wpAnyH_all (rs := [2, 7]) (by kernel_rfl) (by simp) fun jj hjj => ?_
    rcases (by simpa using hjj : jj = 2 ∨ jj = 7) with rfl | rfl
    · refine op_runX (i := 2) rfl rfl (.slice (some ⟨WD.heap.size, 0, none⟩) 0 0) (WD.alloc (.cells #[] 51)) (by go_simp) ⟨D0.alloc hWD _, ?_⟩
      simp only [Act.put, List.getElem_toArray, List.getElem_cons_succ, List.getElem_cons_zero, List.setIfInBounds_toArray, List.set_cons_zero, List.set_cons_succ]
      have Dw1 := D0.alloc hWD (.cells #[] 51)
      have hnw1 := heap_alloc_new WD (.cells #[] 51)
      have hbw1 := below_alloc WD (.cells #[] 51)
      have hzw1 : WD.heap.size < (WD.alloc (.cells #[] 51)).heap.size := by simp
      generalize WD.alloc (.cells #[] 51) = w1 at *
      refine wpAnyH_all (rs := [5, 7]) (by kernel_rfl) (by simp) fun jj hjj => ?_
      rcases (by simpa using hjj : jj = 5 ∨ jj = 7) with rfl | rfl
      · refine op_wp (i := 5) rfl rfl (wp_dup (w0 := W0) W0.heap.size s.ws _ _ rfl WD.heap.size rfl hnw1 (by omega) _ rfl Dw1 (fun hb => HU.out.below (bon HB0.out hb)) HC0.out (by omega) ?_)
        intro v6 w6 O6 B6 K6 hz6
        obtain ⟨a6, c6, e6⟩ := own_form O6.out
        subst e6
        refine ⟨B6.out, ?_⟩
        simp only [Act.put, List.getElem_toArray, List.getElem_cons_succ, List.getElem_cons_zero, List.setIfInBounds_toArray, List.set_cons_zero, List.set_cons_succ]
        refine held_takeX (i := 6) rfl (by kernel_rfl) (by kernel_rfl) (by kernel_rfl) (.agg #[.int .i64 s.pr, .slice a6 s.ws.length c6]) (fun _ _ _ h => h) B6.out rfl (fun w _ => by go_simp) ?_
        simp only [Act.put, List.getElem_toArray, List.getElem_cons_succ, List.getElem_cons_zero, List.setIfInBounds_toArray, List.set_cons_zero, List.set_cons_succ]
        refine held_runY (i := 7) (by kernel_rfl) rfl rfl (.pointer (some ⟨w6.heap.size, 0, none⟩)) (w6.alloc (.cells #[.int .i64 0, .slice none 0 0] 24)) (by go_simp) (B6.out.alloc (by omega) _) ?_
        simp only [Act.put, List.getElem_toArray, List.getElem_cons_succ, List.getElem_cons_zero, List.setIfInBounds_toArray, List.set_cons_zero, List.set_cons_succ]
        have Dw7 := B6.out.alloc (by omega) (.cells #[.int .i64 0, .slice none 0 0] 24)
        have hnw7 := heap_alloc_new w6 (.cells #[.int .i64 0, .slice none 0 0] 24)
        have hbw7 := below_alloc w6 (.cells #[.int .i64 0, .slice none 0 0] 24)
        have hzw7 : w6.heap.size < (w6.alloc (.cells #[.int .i64 0, .slice none 0 0] 24)).heap.size := by simp
        generalize w6.alloc (.cells #[.int .i64 0, .slice none 0 0] 24) = w7 at *
        refine held_storeRow (i := 8) (by kernel_rfl) rfl rfl _ _ _ rfl (w6.heap.size) _ rfl rfl _ _ (hnw7) infoSh2 rfl (by kernel_rfl) ?_
        intro wF hF1 hF2 hF3 hF4
        refine ⟨hF4 _ _ Dw7 (by omega), ?_⟩
        simp only [Act.put, List.getElem_toArray, List.getElem_cons_succ, List.getElem_cons_zero, List.setIfInBounds_toArray, List.set_cons_zero, List.set_cons_succ]
        refine wpAnyH_done (by kernel_rfl) ?_ _
        go_wp2_with fail
        go_meet
        exact ⟨w6.heap.size, _, rfl, by omega, hF1, xr_own (wo_other (WO.below O6.out hbw7) (hnw7) hF2) HWD.out hF1, hF4 _ _ Dw7 (by omega)⟩
      · refine op_runX (i := 7) rfl rfl (.pointer (some ⟨w1.heap.size, 0, none⟩)) (w1.alloc (.cells #[.int .i64 0, .slice none 0 0] 24)) (by go_simp) ⟨Dw1.alloc (by omega) _, ?_⟩
        simp only [Act.put, List.getElem_toArray, List.getElem_cons_succ, List.getElem_cons_zero, List.setIfInBounds_toArray, List.set_cons_zero, List.set_cons_succ]
        have Dw2 := Dw1.alloc (by omega) (.cells #[.int .i64 0, .slice none 0 0] 24)
        have hnw2 := heap_alloc_new w1 (.cells #[.int .i64 0, .slice none 0 0] 24)
        have hbw2 := below_alloc w1 (.cells #[.int .i64 0, .slice none 0 0] 24)
        have hzw2 : w1.heap.size < (w1.alloc (.cells #[.int .i64 0, .slice none 0 0] 24)).heap.size := by simp
        generalize w1.alloc (.cells #[.int .i64 0, .slice none 0 0] 24) = w2 at *
        have hl2 := (hbw2.block WD.heap.size hzw1).trans hnw1
        refine wpAnyH_all (rs := [5]) (by kernel_rfl) (by simp) fun jj hjj => ?_
        obtain rfl : jj = 5 := by simpa using hjj
        refine op_wp (i := 5) rfl rfl (wp_dup (w0 := W0) W0.heap.size s.ws _ _ rfl WD.heap.size rfl hl2 (by omega) _ rfl Dw2 (fun hb => HU.out.below (bon HB0.out hb)) HC0.out (by omega) ?_)
        intro v6 w6 O6 B6 K6 hz6
        obtain ⟨a6, c6, e6⟩ := own_form O6.out
        subst e6
        refine ⟨B6.out, ?_⟩
        simp only [Act.put, List.getElem_toArray, List.getElem_cons_succ, List.getElem_cons_zero, List.setIfInBounds_toArray, List.set_cons_zero, List.set_cons_succ]
        refine held_takeX (i := 6) rfl (by kernel_rfl) (by kernel_rfl) (by kernel_rfl) (.agg #[.int .i64 s.pr, .slice a6 s.ws.length c6]) (fun _ _ _ h => h) B6.out rfl (fun w _ => by go_simp) ?_
        simp only [Act.put, List.getElem_toArray, List.getElem_cons_succ, List.getElem_cons_zero, List.setIfInBounds_toArray, List.set_cons_zero, List.set_cons_succ]
        refine held_storeRow (i := 8) (by kernel_rfl) rfl rfl _ _ _ rfl (w1.heap.size) _ rfl rfl _ _ (K6.out _ _ hnw2 (by omega)) infoSh2 rfl (by kernel_rfl) ?_
        intro wF hF1 hF2 hF3 hF4
        refine ⟨hF4 _ _ B6.out (by omega), ?_⟩
        simp only [Act.put, List.getElem_toArray, List.getElem_cons_succ, List.getElem_cons_zero, List.setIfInBounds_toArray, List.set_cons_zero, List.set_cons_succ]
        refine wpAnyH_done (by kernel_rfl) ?_ _
        go_wp2_with fail
        go_meet
        exact ⟨w1.heap.size, _, rfl, by omega, hF1, xr_own (wo_other O6.out (K6.out _ _ hnw2 (by omega)) hF2) HWD.out hF1, hF4 _ _ B6.out (by omega)⟩
    · refine op_runX (i := 7) rfl rfl (.pointer (some ⟨WD.heap.size, 0, none⟩)) (WD.alloc (.cells #[.int .i64 0, .slice none 0 0] 24)) (by go_simp) ⟨D0.alloc hWD _, ?_⟩
      simp only [Act.put, List.getElem_toArray, List.getElem_cons_succ, List.getElem_cons_zero, List.setIfInBounds_toArray, List.set_cons_zero, List.set_cons_succ]
      have Dw1 := D0.alloc hWD (.cells #[.int .i64 0, .slice none 0 0] 24)
      have hnw1 := heap_alloc_new WD (.cells #[.int .i64 0, .slice none 0 0] 24)
      have hbw1 := below_alloc WD (.cells #[.int .i64 0, .slice none 0 0] 24)
      have hzw1 : WD.heap.size < (WD.alloc (.cells #[.int .i64 0, .slice none 0 0] 24)).heap.size := by simp
      generalize WD.alloc (.cells #[.int .i64 0, .slice none 0 0] 24) = w1 at *
      refine held_runY (i := 2) (by kernel_rfl) rfl rfl (.slice (some ⟨w1.heap.size, 0, none⟩) 0 0) (w1.alloc (.cells #[] 51)) (by go_simp) (Dw1.alloc (by omega) _) ?_
      simp only [Act.put, List.getElem_toArray, List.getElem_cons_succ, List.getElem_cons_zero, List.setIfInBounds_toArray, List.set_cons_zero, List.set_cons_succ]
      have Dw2 := Dw1.alloc (by omega) (.cells #[] 51)
      have hnw2 := heap_alloc_new w1 (.cells #[] 51)
      have hbw2 := below_alloc w1 (.cells #[] 51)
      have hzw2 : w1.heap.size < (w1.alloc (.cells #[] 51)).heap.size := by simp
      generalize w1.alloc (.cells #[] 51) = w2 at *
      have hx2 := (hbw2.block WD.heap.size hzw1).trans hnw1
      refine wpAnyH_all (rs := [5]) (by kernel_rfl) (by simp) fun jj hjj => ?_
      obtain rfl : jj = 5 := by simpa using hjj
      refine op_wp (i := 5) rfl rfl (wp_dup (w0 := W0) W0.heap.size s.ws _ _ rfl w1.heap.size rfl hnw2 (by omega) _ rfl Dw2 (fun hb => HU.out.below (bon HB0.out hb)) HC0.out (by omega) ?_)
      intro v6 w6 O6 B6 K6 hz6
      obtain ⟨a6, c6, e6⟩ := own_form O6.out
      subst e6
      refine ⟨B6.out, ?_⟩
      simp only [Act.put, List.getElem_toArray, List.getElem_cons_succ, List.getElem_cons_zero, List.setIfInBounds_toArray, List.set_cons_zero, List.set_cons_succ]
      refine held_takeX (i := 6) rfl (by kernel_rfl) (by kernel_rfl) (by kernel_rfl) (.agg #[.int .i64 s.pr, .slice a6 s.ws.length c6]) (fun _ _ _ h => h) B6.out rfl (fun w _ => by go_simp) ?_
      simp only [Act.put, List.getElem_toArray, List.getElem_cons_succ, List.getElem_cons_zero, List.setIfInBounds_toArray, List.set_cons_zero, List.set_cons_succ]
      refine held_storeRow (i := 8) (by kernel_rfl) rfl rfl _ _ _ rfl (WD.heap.size) _ rfl rfl _ _ (K6.out _ _ hx2 (by omega)) infoSh2 rfl (by kernel_rfl) ?_
      intro wF hF1 hF2 hF3 hF4
      refine ⟨hF4 _ _ B6.out (by omega), ?_⟩
      simp only [Act.put, List.getElem_toArray, List.getElem_cons_succ, List.getElem_cons_zero, List.setIfInBounds_toArray, List.set_cons_zero, List.set_cons_succ]
      refine wpAnyH_done (by kernel_rfl) ?_ _
      go_wp2_with fail
      go_meet
      exact ⟨WD.heap.size, _, rfl, by omega, hF1, xr_own (wo_other O6.out (K6.out _ _ hx2 (by omega)) hF2) HWD.out hF1, hF4 _ _ B6.out (by omega)⟩
  case rest =>
    obtain ⟨bx, v, rfl, hbx, hxb, hxr, hbc⟩ := hcut
    rename World => w1
    obtain ⟨av, cap, rfl, q1, q2, _⟩ := id hxr
    have HXB := Lib.hid hxb
    have HXR := Lib.hid hxr
    have HBC := Lib.hid hbc
    have hb1 : bx < w1.heap.size := (Array.getElem?_eq_some_iff.1 hxb).1
    clear hxb hxr hbc ca0 ca1 cb0 cb1 c0 c1
    go_wp2_with fail
    go_loopw [6, 7] (fun i _ wr => ∃ (k : Nat) (L : List Wk), k ≤ zs.length ∧ i = .int .i64 (k : Int) ∧ L = exL s.ws (zs.take k) ∧ L.length = s.ws.length ∧ wr.heap[bx]? = some (.cells #[.int .i64 s.pr, .slice av s.ws.length cap] 24 (0, 0)) ∧ XR W0.heap.size bx wr (.slice av s.ws.length cap) L ∧ Below W0.heap.size W0 wr) (fun i _ _ => zs.length - (intOf i).toNat)
    case atStart => exact ⟨0, s.ws, Nat.zero_le _, rfl, by rw [List.take_zero]; rfl, rfl, HXB.out, HXR.out, HBC.out⟩
    case round =>
      obtain ⟨k, L, hk, rfl, hL, hLn, hxb, hxr, hbr⟩ := hrel
      clear HXB HXR HBC
      rename World => wr
      have HXB := Lib.hid hxb
      have HXR := Lib.hid hxr
      have HBR := Lib.hid hbr
      have HL := Lib.hid hL
      have HLN := Lib.hid hLn
      have hbxr : bx < wr.heap.size := (Array.getElem?_eq_some_iff.1 hxb).1
      have d0 : wr.cell? ⟨bx, 0, none⟩ = some (.int .i64 s.pr) := cell_of_row wr _ 0 _ _ _ HXB.out
      have d1 : wr.cell? ⟨bx, 1, none⟩ = some (.slice av s.ws.length cap) := cell_of_row wr _ 1 _ _ _ HXB.out
      clear hxb hxr hbr hL hLn
      by_cases hkl : k < zs.length
      · have j1 : (k : Int) < (zs.length : Int) := by omega
        have j0 : (0 : Int) ≤ (k : Int) := by omega
        by_cases hn : 1 < s.ws.length
        · have j2 : (1 : Int) < (s.ws.length : Int) := by omega
          obtain ⟨g, rfl, hgB, hgx, hwr⟩ : ∃ g, av = some ⟨g, 0, none⟩ ∧ W0.heap.size ≤ g ∧ g ≠ bx ∧ WR wr g L := by
            obtain ⟨av', cap', e, _, _, h3⟩ := HXR.out
            injection e with e1 e2 e3
            subst e1
            rcases h3 with h3 | h3
            · have := HLN.out; rw [h3] at this; simp at this; omega
            · exact h3
          obtain ⟨z, hz⟩ : ∃ z, zs[k]? = some z := ⟨_, List.getElem?_eq_getElem hkl⟩
          obtain ⟨ha', hc', e, _, _, hzz⟩ := HZ.out
          cases e
          obtain ⟨hzl, hb, ho, rfl, hhb, hcz⟩ := hzz k z hz
          have hbw : Below w.heap.size w wr := bon HB0.out HBR.out
          have HCZ := Lib.hid ((hbw.cell (p := ⟨hb, ho + k, none⟩) hhb).trans hcz)
          have hhr : hb < wr.heap.size := Nat.lt_of_lt_of_le hhb hbw.size
          have HWR := Lib.hid hwr
          have HZK := Lib.hid hz
          have hpn : z % (s.ws.length - 1) < s.ws.length - 1 := Nat.mod_lt _ (by omega)
          have n1 : IntKind.i64.wrap ((s.ws.length : Int) - 1) = (s.ws.length : Int) - 1 := IntWalk.i64_in _ (by omega)
          have n2 : ¬ (s.ws.length : Int) - 1 = 0 := by omega
          have n5 : IntKind.i64.wrap (z : Int) = (z : Int) := IntWalk.i64_in _ (by omega)
          have n3 : Int.tmod (z : Int) ((s.ws.length : Int) - 1) = ((z % (s.ws.length - 1) : Nat) : Int) := by
            rw [show (s.ws.length : Int) - 1 = ((s.ws.length - 1 : Nat) : Int) by omega]
            exact Int.ofNat_tmod _ _ |>.symm
          have n4 : IntKind.i64.wrap ((z % (s.ws.length - 1) : Nat) : Int) = ((z % (s.ws.length - 1) : Nat) : Int) := IntWalk.i64_in _ (by omega)
          have HN1 := Lib.hid n1
          have HN2 := Lib.hid n2
          have HN3 := Lib.hid n3
          have HN4 := Lib.hid n4
          have HN5 := Lib.hid n5
          clear n1 n2 n3 n4 n5 hzz hcz hz hbw hwr
          have HP1 := Lib.hid (show IntKind.i64.wrap (((z % (s.ws.length - 1) : Nat) : Int) + 1) = ((z % (s.ws.length - 1) : Nat) : Int) + 1 from IntWalk.i64_in _ (by omega))
          generalize hpe : z % (s.ws.length - 1) = p at *
          have HPE := Lib.hid hpe
          clear hpe
          obtain ⟨x, hx⟩ : ∃ x, L[p]? = some x := ⟨_, List.getElem?_eq_getElem (by have := HLN.out; omega)⟩
          obtain ⟨y, hy⟩ : ∃ y, L[p + 1]? = some y := ⟨_, List.getElem?_eq_getElem (by have := HLN.out; omega)⟩
          have HLX := Lib.hid hx
          have HLY := Lib.hid hy
          have hgr : g < wr.heap.size := HWR.out.1
          have HXC := Lib.hid (HWR.out.2.2 p x hx).1
          have HYC := Lib.hid (HWR.out.2.2 (p + 1) y hy).1
          have hpm : ∀ u ∈ L, u ∈ s.ws := fun u hu => by rw [HL.out] at hu; exact (exL_perm _ _).mem_iff.1 hu
          have CT := Lib.hid (fun V => refTouch_any x y V (HSM.out.2 x (hpm x (List.mem_of_getElem? hx))) (HSM.out.2 y (hpm y (List.mem_of_getElem? hy))))
          have HTV := Lib.hid (show touchP x y = tchN L p (p + 1) by unfold tchN; rw [wkN_get hx, wkN_get hy])
          rw [HTV.out] at CT
          unfold Wk.val at CT
          have HNX := Lib.hid (show exL s.ws (zs.take (k + 1)) = if 1 < L.length ∧ tchN L (z % (L.length - 1)) (z % (L.length - 1) + 1) = false then swN L (z % (L.length - 1)) else L by
            rw [List.take_add_one, HZK.out]
            simp only [Option.toList_some]
            rw [exL_snoc, ← HL.out])
          clear hx hy hpm
          go_wp2_with fail
          refine wp_region_class (fun w' => Below wr.heap.size wr w') 10 (by kernel_rfl) (by kernel_rfl) (Below.refl _ wr).drew ?_
          simp only [List.take_succ_cons, List.take_zero, List.drop_succ_cons, List.drop_zero]
          refine quiet_moveV rfl _ rfl (.slice (some ⟨hb, ho, none⟩) zs.length hc) rfl ?_
          simp only [Act.put, List.setIfInBounds_toArray, List.set_cons_zero, List.set_cons_succ]
          refine quiet_moveV rfl _ rfl (.int .i64 (k : Int)) rfl ?_
          simp only [Act.put, List.setIfInBounds_toArray, List.set_cons_zero, List.set_cons_succ]
          refine quiet_still rfl (.pointer (some ⟨hb, ho + k, none⟩)) (fun w _ => by go_simp) ?_
          simp only [Act.put, List.setIfInBounds_toArray, List.set_cons_zero, List.set_cons_succ]
          refine quiet_load1 rfl _ _ rfl ⟨hb, ho + k, none⟩ rfl (.int .u16 (z : Int)) (load_u16 _ _) (fun _ h => (h.cell (p := ⟨hb, ho + k, none⟩) hhr).trans HCZ.out) ?_
          simp only [Act.put, List.setIfInBounds_toArray, List.set_cons_zero, List.set_cons_succ]
          refine quiet_still rfl (.int .i64 (z : Int)) (fun w _ => by have := HN5.out; go_simp) ?_
          simp only [Act.put, List.setIfInBounds_toArray, List.set_cons_zero, List.set_cons_succ]
          refine quiet_still rfl (.pointer (some ⟨bx, 1, none⟩)) (fun w _ => by go_simp) ?_
          simp only [Act.put, List.setIfInBounds_toArray, List.set_cons_zero, List.set_cons_succ]
          refine quiet_load1 rfl _ _ rfl ⟨bx, 1, none⟩ rfl (.slice (some ⟨g, 0, none⟩) s.ws.length cap) (load_ws _ _) (fun _ h => (h.cell (p := ⟨bx, 1, none⟩) hbxr).trans d1) ?_
          simp only [Act.put, List.setIfInBounds_toArray, List.set_cons_zero, List.set_cons_succ]
          refine quiet_still rfl (.int .i64 (s.ws.length : Int)) (fun w _ => by go_simp) ?_
          simp only [Act.put, List.setIfInBounds_toArray, List.set_cons_zero, List.set_cons_succ]
          refine quiet_still rfl (.int .i64 ((s.ws.length : Int) - 1)) (fun w _ => by have := HN1.out; go_simp) ?_
          simp only [Act.put, List.setIfInBounds_toArray, List.set_cons_zero, List.set_cons_succ]
          refine quiet_still rfl (.int .i64 (p : Int)) (fun w _ => by have h2 := HN2.out; have h3 := HN3.out; have h4 := HN4.out; go_simp) ?_
          simp only [Act.put, List.setIfInBounds_toArray, List.set_cons_zero, List.set_cons_succ]
          unfold wpQuiet
          intro w2 hb2
          have HB2 := Lib.hid (HBR.out.trans (hb2.mono (by have := HBR.out.size; omega)))
          have HXB2 := Lib.hid (hb_below hb2 HXB.out hbxr)
          have HWR2 := Lib.hid (HWR.out.below hb2 hgr)
          have hz2 := hb2.size
          have HXC2 := Lib.hid (range_below3 HXC.out hgr hb2)
          have HYC2 := Lib.hid (range_below3 HYC.out hgr hb2)
          have HXS2 := Lib.hid (XR.below HXR.out hb2)
          clear hb2 HXB HWR HXC HYC HBR HXR d0 d1
          have hbx2 : bx < w2.heap.size := by omega
          have hg2 : g < w2.heap.size := by omega
          have d0 : w2.cell? ⟨bx, 0, none⟩ = some (.int .i64 s.pr) := cell_of_row w2 _ 0 _ _ _ HXB2.out
          have d1 : w2.cell? ⟨bx, 1, none⟩ = some (.slice (some ⟨g, 0, none⟩) s.ws.length cap) := cell_of_row w2 _ 1 _ _ _ HXB2.out
          go_wp2_with fail
          refine wp_region_class (fun w' => Below w2.heap.size w2 w') 12 (by kernel_rfl) (by kernel_rfl) (Below.refl _ w2).drew ?_
          simp only [List.take_succ_cons, List.take_zero, List.drop_succ_cons, List.drop_zero]
          refine quiet_still rfl (.pointer (some ⟨bx, 1, none⟩)) (fun w _ => by go_simp) ?_
          simp only [Act.put, List.setIfInBounds_toArray, List.set_cons_zero, List.set_cons_succ]
          refine quiet_load1 rfl _ _ rfl ⟨bx, 1, none⟩ rfl (.slice (some ⟨g, 0, none⟩) s.ws.length cap) (load_ws _ _) (fun _ h => (h.cell (p := ⟨bx, 1, none⟩) hbx2).trans d1) ?_
          simp only [Act.put, List.setIfInBounds_toArray, List.set_cons_zero, List.set_cons_succ]
          refine quiet_moveV rfl _ rfl (.int .i64 (p : Int)) rfl ?_
          simp only [Act.put, List.setIfInBounds_toArray, List.set_cons_zero, List.set_cons_succ]
          refine quiet_still rfl (.pointer (some ⟨g, p * 3, none⟩)) (fun w _ => by go_simp; first | done | exact fun h => absurd h (by omega)) ?_
          simp only [Act.put, List.setIfInBounds_toArray, List.set_cons_zero, List.set_cons_succ]
          refine quiet_load_mid rfl _ _ rfl g (p * 3) rfl [.int .i64 x.kd, .int .i64 x.pl, .string x.wd] _ (fun V h => range_below3 HXC2.out hg2 h) Try.underlying51 rfl infoWk1 ?_
          simp only [Act.put, List.setIfInBounds_toArray, List.set_cons_zero, List.set_cons_succ]
          refine quiet_still rfl (.pointer (some ⟨bx, 1, none⟩)) (fun w _ => by go_simp) ?_
          simp only [Act.put, List.setIfInBounds_toArray, List.set_cons_zero, List.set_cons_succ]
          refine quiet_load1 rfl _ _ rfl ⟨bx, 1, none⟩ rfl (.slice (some ⟨g, 0, none⟩) s.ws.length cap) (load_ws _ _) (fun _ h => (h.cell (p := ⟨bx, 1, none⟩) hbx2).trans d1) ?_
          simp only [Act.put, List.setIfInBounds_toArray, List.set_cons_zero, List.set_cons_succ]
          refine quiet_moveV rfl _ rfl (.int .i64 (p : Int)) rfl ?_
          simp only [Act.put, List.setIfInBounds_toArray, List.set_cons_zero, List.set_cons_succ]
          refine quiet_still rfl (.int .i64 ((p + 1 : Nat) : Int)) (fun w _ => by have := HP1.out; go_simp) ?_
          simp only [Act.put, List.setIfInBounds_toArray, List.set_cons_zero, List.set_cons_succ]
          refine quiet_still rfl (.pointer (some ⟨g, (p + 1) * 3, none⟩)) (fun w _ => by go_simp; first | done | exact fun h => absurd h (by omega)) ?_
          simp only [Act.put, List.setIfInBounds_toArray, List.set_cons_zero, List.set_cons_succ]
          refine quiet_load_mid rfl _ _ rfl g ((p + 1) * 3) rfl [.int .i64 y.kd, .int .i64 y.pl, .string y.wd] _ (fun V h => range_below3 HYC2.out hg2 h) Try.underlying51 rfl infoWk1 ?_
          simp only [Act.put, List.setIfInBounds_toArray, List.set_cons_zero, List.set_cons_succ]
          refine quiet_call rfl 38 _ _ rfl (enter_of Try.func38 (by decide) (by intro h; cases h)) _ (fun W h => (CT.out W).mono fun e w' ⟨he, hw⟩ => ⟨he, h.trans (hw.mono h.size)⟩) ?_
          simp only [Act.put, List.setIfInBounds_toArray, List.set_cons_zero, List.set_cons_succ]
          unfold wpQuiet
          intro w3 hb3
          have HB3 := Lib.hid (HB2.out.trans (hb3.mono (by have := HB2.out.size; omega)))
          have HXB3 := Lib.hid (hb_below hb3 HXB2.out hbx2)
          have HWR3 := Lib.hid (HWR2.out.below hb3 hg2)
          have hz3 := hb3.size
          have HXS3 := Lib.hid (XR.below HXS2.out hb3)
          clear hb3 HXB2 HWR2 HXC2 HYC2 HB2 HXS2 d0 d1 CT
          have hbx3 : bx < w3.heap.size := by omega
          have hg3 : g < w3.heap.size := by omega
          have d0 : w3.cell? ⟨bx, 0, none⟩ = some (.int .i64 s.pr) := cell_of_row w3 _ 0 _ _ _ HXB3.out
          have d1 : w3.cell? ⟨bx, 1, none⟩ = some (.slice (some ⟨g, 0, none⟩) s.ws.length cap) := cell_of_row w3 _ 1 _ _ _ HXB3.out
          cases hT : tchN L p (p + 1)
          · have HN := Lib.hid (show exL s.ws (zs.take (k + 1)) = swN L p by
              rw [HNX.out, if_pos ⟨by rw [HLN.out]; exact hn, by rw [HLN.out, HPE.out]; exact hT⟩, HLN.out, HPE.out])
            clear HNX hT
            go_wp2_with fail
            have T0 : ({ w3 with drawn := w3.drawn + 1 } : World).cell? ⟨bx, 1, none⟩ = some (.slice (some ⟨g, 0, none⟩) s.ws.length cap) := d1
            have BD : Below w3.heap.size w3 ({ w3 with drawn := w3.drawn + 1 } : World) := (Below.refl _ w3).drew
            have WRD := Lib.hid (HWR3.out.below BD hg3)
            have XBD := Lib.hid (hb_below BD (HXB3.out) (hbx3))
            have BBD := Lib.hid (HB3.out.trans (BD.mono (by have := HB3.out.size; omega)))
            clear BD
            refine wp_region_held (S := fun V => V.cell? ⟨bx, 1, none⟩ = some (.slice (some ⟨g, 0, none⟩) s.ws.length cap)) (by kernel_rfl) ?_
            generalize ({ w3 with drawn := w3.drawn + 1 } : World) = wd at *
            refine held_takeX (i := 0) rfl (by kernel_rfl) (by kernel_rfl) (by kernel_rfl) (.pointer (some ⟨bx, 1, none⟩)) (fun _ _ _ h => h) T0 rfl (fun w _ => by go_simp) ?_
            simp only [Act.put, List.getElem_toArray, List.getElem_cons_succ, List.getElem_cons_zero, List.setIfInBounds_toArray, List.set_cons_zero, List.set_cons_succ]
            refine held_loadX (i := 1) rfl (by kernel_rfl) (by kernel_rfl) (by kernel_rfl) (.slice (some ⟨g, 0, none⟩) s.ws.length cap) (fun _ _ _ h => h) T0 rfl _ _ rfl ⟨bx, 1, none⟩ rfl (fun w' h => load_ws _ _ _ h) (fun V h => h) ?_
            simp only [Act.put, List.getElem_toArray, List.getElem_cons_succ, List.getElem_cons_zero, List.setIfInBounds_toArray, List.set_cons_zero, List.set_cons_succ]
            refine held_takeX (i := 2) rfl (by kernel_rfl) (by kernel_rfl) (by kernel_rfl) (.int .i64 (p : Int)) (fun _ _ _ h => h) T0 rfl (fun w _ => by go_simp) ?_
            simp only [Act.put, List.getElem_toArray, List.getElem_cons_succ, List.getElem_cons_zero, List.setIfInBounds_toArray, List.set_cons_zero, List.set_cons_succ]
            refine held_takeX (i := 3) rfl (by kernel_rfl) (by kernel_rfl) (by kernel_rfl) (.pointer (some ⟨bx, 1, none⟩)) (fun _ _ _ h => h) T0 rfl (fun w _ => by go_simp) ?_
            simp only [Act.put, List.getElem_toArray, List.getElem_cons_succ, List.getElem_cons_zero, List.setIfInBounds_toArray, List.set_cons_zero, List.set_cons_succ]
            refine held_loadX (i := 4) rfl (by kernel_rfl) (by kernel_rfl) (by kernel_rfl) (.slice (some ⟨g, 0, none⟩) s.ws.length cap) (fun _ _ _ h => h) T0 rfl _ _ rfl ⟨bx, 1, none⟩ rfl (fun w' h => load_ws _ _ _ h) (fun V h => h) ?_
            simp only [Act.put, List.getElem_toArray, List.getElem_cons_succ, List.getElem_cons_zero, List.setIfInBounds_toArray, List.set_cons_zero, List.set_cons_succ]
            refine held_takeX (i := 5) rfl (by kernel_rfl) (by kernel_rfl) (by kernel_rfl) (.int .i64 (p : Int)) (fun _ _ _ h => h) T0 rfl (fun w _ => by go_simp) ?_
            simp only [Act.put, List.getElem_toArray, List.getElem_cons_succ, List.getElem_cons_zero, List.setIfInBounds_toArray, List.set_cons_zero, List.set_cons_succ]
            refine held_takeX (i := 6) rfl (by kernel_rfl) (by kernel_rfl) (by kernel_rfl) (.int .i64 ((p + 1 : Nat) : Int)) (fun _ _ _ h => h) T0 rfl (fun w _ => by have := HP1.out; go_simp) ?_
            simp only [Act.put, List.getElem_toArray, List.getElem_cons_succ, List.getElem_cons_zero, List.setIfInBounds_toArray, List.set_cons_zero, List.set_cons_succ]
            refine held_takeX (i := 7) rfl (by kernel_rfl) (by kernel_rfl) (by kernel_rfl) (.pointer (some ⟨bx, 1, none⟩)) (fun _ _ _ h => h) T0 rfl (fun w _ => by go_simp) ?_
            simp only [Act.put, List.getElem_toArray, List.getElem_cons_succ, List.getElem_cons_zero, List.setIfInBounds_toArray, List.set_cons_zero, List.set_cons_succ]
            refine held_loadX (i := 8) rfl (by kernel_rfl) (by kernel_rfl) (by kernel_rfl) (.slice (some ⟨g, 0, none⟩) s.ws.length cap) (fun _ _ _ h => h) T0 rfl _ _ rfl ⟨bx, 1, none⟩ rfl (fun w' h => load_ws _ _ _ h) (fun V h => h) ?_
            simp only [Act.put, List.getElem_toArray, List.getElem_cons_succ, List.getElem_cons_zero, List.setIfInBounds_toArray, List.set_cons_zero, List.set_cons_succ]
            refine held_takeX (i := 9) rfl (by kernel_rfl) (by kernel_rfl) (by kernel_rfl) (.int .i64 (p : Int)) (fun _ _ _ h => h) T0 rfl (fun w _ => by go_simp) ?_
            simp only [Act.put, List.getElem_toArray, List.getElem_cons_succ, List.getElem_cons_zero, List.setIfInBounds_toArray, List.set_cons_zero, List.set_cons_succ]
            refine held_takeX (i := 10) rfl (by kernel_rfl) (by kernel_rfl) (by kernel_rfl) (.int .i64 ((p + 1 : Nat) : Int)) (fun _ _ _ h => h) T0 rfl (fun w _ => by have := HP1.out; go_simp) ?_
            simp only [Act.put, List.getElem_toArray, List.getElem_cons_succ, List.getElem_cons_zero, List.setIfInBounds_toArray, List.set_cons_zero, List.set_cons_succ]
            refine held_takeX (i := 11) rfl (by kernel_rfl) (by kernel_rfl) (by kernel_rfl) (.pointer (some ⟨g, (p + 1) * 3, none⟩)) (fun _ _ _ h => h) T0 rfl (fun w _ => by go_simp; first | done | exact fun h => absurd h (by omega)) ?_
            simp only [Act.put, List.getElem_toArray, List.getElem_cons_succ, List.getElem_cons_zero, List.setIfInBounds_toArray, List.set_cons_zero, List.set_cons_succ]
            refine held_takeX (i := 13) rfl (by kernel_rfl) (by kernel_rfl) (by kernel_rfl) (.pointer (some ⟨bx, 1, none⟩)) (fun _ _ _ h => h) T0 rfl (fun w _ => by go_simp) ?_
            simp only [Act.put, List.getElem_toArray, List.getElem_cons_succ, List.getElem_cons_zero, List.setIfInBounds_toArray, List.set_cons_zero, List.set_cons_succ]
            refine held_loadX (i := 14) rfl (by kernel_rfl) (by kernel_rfl) (by kernel_rfl) (.slice (some ⟨g, 0, none⟩) s.ws.length cap) (fun _ _ _ h => h) T0 rfl _ _ rfl ⟨bx, 1, none⟩ rfl (fun w' h => load_ws _ _ _ h) (fun V h => h) ?_
            simp only [Act.put, List.getElem_toArray, List.getElem_cons_succ, List.getElem_cons_zero, List.setIfInBounds_toArray, List.set_cons_zero, List.set_cons_succ]
            refine held_takeX (i := 15) rfl (by kernel_rfl) (by kernel_rfl) (by kernel_rfl) (.int .i64 (p : Int)) (fun _ _ _ h => h) T0 rfl (fun w _ => by go_simp) ?_
            simp only [Act.put, List.getElem_toArray, List.getElem_cons_succ, List.getElem_cons_zero, List.setIfInBounds_toArray, List.set_cons_zero, List.set_cons_succ]
            refine held_takeX (i := 16) rfl (by kernel_rfl) (by kernel_rfl) (by kernel_rfl) (.pointer (some ⟨g, p * 3, none⟩)) (fun _ _ _ h => h) T0 rfl (fun w _ => by go_simp; first | done | exact fun h => absurd h (by omega)) ?_
            simp only [Act.put, List.getElem_toArray, List.getElem_cons_succ, List.getElem_cons_zero, List.setIfInBounds_toArray, List.set_cons_zero, List.set_cons_succ]
            refine held_loads (i := 12) (j := 17) (by kernel_rfl) (by kernel_rfl) (by kernel_rfl) rfl rfl rfl rfl (.agg #[.int .i64 y.kd, .int .i64 y.pl, .string y.wd]) (.agg #[.int .i64 x.kd, .int .i64 x.pl, .string x.wd]) _ _ _ _ rfl rfl ⟨g, (p + 1) * 3, none⟩ ⟨g, p * 3, none⟩ rfl rfl rfl rfl (run_loadAt_mid (P := Try.prog) wd g ((p + 1) * 3) 51 (wl y) _ ((WRD.out.2.2 _ _ HLY.out).1) Try.underlying51 rfl infoWk1) (run_loadAt_mid (P := Try.prog) wd g (p * 3) 51 (wl x) _ ((WRD.out.2.2 _ _ HLX.out).1) Try.underlying51 rfl infoWk1) rfl (by kernel_rfl) T0 ?_
            simp only [Act.put, List.getElem_toArray, List.getElem_cons_succ, List.getElem_cons_zero, List.setIfInBounds_toArray, List.set_cons_zero, List.set_cons_succ]
            refine held_takeX (i := 18) rfl (by kernel_rfl) (by kernel_rfl) (by kernel_rfl) (.pointer (some ⟨g, p * 3, none⟩)) (fun _ _ _ h => h) T0 rfl (fun w _ => by go_simp; first | done | exact fun h => absurd h (by omega)) ?_
            simp only [Act.put, List.getElem_toArray, List.getElem_cons_succ, List.getElem_cons_zero, List.setIfInBounds_toArray, List.set_cons_zero, List.set_cons_succ]
            have WR1 := Lib.hid (WRD.out.set HLX.out (WRD.out.2.1 y (List.mem_of_getElem? HLY.out)))
            have WR2 := Lib.hid (WR1.out.set (k := p + 1) (x := y) (by rw [List.getElem?_set_ne (by omega)]; exact HLY.out) (WRD.out.2.1 x (List.mem_of_getElem? HLX.out)))
            have T1 : (wd.setCells g (p * 3) (wl y)).cell? ⟨bx, 1, none⟩ = some (.slice (some ⟨g, 0, none⟩) s.ws.length cap) := (World.cell?_setCells_out g (wl y) _ wd ⟨bx, 1, none⟩ (fun h => absurd h (Ne.symm hgx))).trans T0
            have T2 : ((wd.setCells g (p * 3) (wl y)).setCells g ((p + 1) * 3) (wl x)).cell? ⟨bx, 1, none⟩ = some (.slice (some ⟨g, 0, none⟩) s.ws.length cap) := (World.cell?_setCells_out g (wl x) _ _ ⟨bx, 1, none⟩ (fun h => absurd h (Ne.symm hgx))).trans T1
            refine held_storeG (i := 19) (by kernel_rfl) rfl rfl _ _ _ rfl ⟨g, p * 3, none⟩ (.agg #[.int .i64 y.kd, .int .i64 y.pl, .string y.wd]) rfl rfl (wd.setCells g (p * 3) (wl y)) (run_storeVar_mid wd g (p * 3) 51 #[.int .i64 y.kd, .int .i64 y.pl, .string y.wd] (WRD.out.2.2 _ _ HLX.out).2 infoWk1 (by kernel_rfl)) T1 ?_
            simp only [Act.put, List.getElem_toArray, List.getElem_cons_succ, List.getElem_cons_zero, List.setIfInBounds_toArray, List.set_cons_zero, List.set_cons_succ]
            clear T0
            refine held_takeX (i := 20) rfl (by kernel_rfl) (by kernel_rfl) (by kernel_rfl) (.pointer (some ⟨g, (p + 1) * 3, none⟩)) (fun _ _ _ h => h) T1 rfl (fun w _ => by go_simp; first | done | exact fun h => absurd h (by omega)) ?_
            simp only [Act.put, List.getElem_toArray, List.getElem_cons_succ, List.getElem_cons_zero, List.setIfInBounds_toArray, List.set_cons_zero, List.set_cons_succ]
            refine held_storeG (i := 21) (by kernel_rfl) rfl rfl _ _ _ rfl ⟨g, (p + 1) * 3, none⟩ (.agg #[.int .i64 x.kd, .int .i64 x.pl, .string x.wd]) rfl rfl ((wd.setCells g (p * 3) (wl y)).setCells g ((p + 1) * 3) (wl x)) (run_storeVar_mid (wd.setCells g (p * 3) (wl y)) g ((p + 1) * 3) 51 #[.int .i64 x.kd, .int .i64 x.pl, .string x.wd] (WR1.out.2.2 _ _ (by rw [List.getElem?_set_ne (by omega)]; exact HLY.out)).2 infoWk1 (by kernel_rfl)) T2 ?_
            simp only [Act.put, List.getElem_toArray, List.getElem_cons_succ, List.getElem_cons_zero, List.setIfInBounds_toArray, List.set_cons_zero, List.set_cons_succ]
            refine wpAnyH_done (by kernel_rfl) ?_ _
            rw [← swN_set HLX.out HLY.out] at WR2
            have HBS := Lib.hid (below_setCellsE (below_setCellsE BBD.out (b := g) hgB (p * 3) (wl y)) (b := g) hgB ((p + 1) * 3) (wl x))
            have HXS := Lib.hid (((heap_setCellsW (wd.setCells g (p * 3) (wl y)) g (Ne.symm hgx) (wl x) ((p + 1) * 3)).trans (heap_setCellsW wd g (Ne.symm hgx) (wl y) (p * 3))).trans XBD.out)
            clear T1 T2 WR1 WRD XBD BBD
            generalize (wd.setCells g (p * 3) (wl y)).setCells g ((p + 1) * 3) (wl x) = ws at *
            go_wp2_with fail
            go_roundw
            case rel => exact ⟨k + 1, swN L p, by omega, by go_num, HN.out.symm, by rw [swN_len]; exact HLN.out, HXS.out, ⟨_, cap, by rw [swN_len, HLN.out], by rw [swN_len, HLN.out]; exact q1, q2, .inr ⟨g, rfl, hgB, hgx, WR2.out⟩⟩, HBS.out⟩
            case measure => (simp [intOf] <;> omega)
          · have HN := Lib.hid (show exL s.ws (zs.take (k + 1)) = L by
              rw [HNX.out, if_neg (by rw [HLN.out, HPE.out, hT]; simp)])
            clear HNX hT
            go_wp2_with fail
            go_roundw
            case rel => exact ⟨k + 1, L, by omega, by go_num, HN.out.symm, HLN.out, HXB3.out, HXS3.out, HB3.out⟩
            case measure => (simp [intOf] <;> omega)
        · have j2 : ¬ (1 : Int) < (s.ws.length : Int) := by omega
          have HE := Lib.hid (show L = exL s.ws zs by
            rw [HL.out, exL_short s.ws (by omega), exL_short s.ws (by omega)])
          rw [HE.out] at HXR
          have H1w := Lib.hid (hb_below HBR.out H1.out (by omega))
          go_upto_region 8 with fail
          go_wp2_with (refine store_row rfl _ _ _ rfl (w.heap.size + 1) _ rfl rfl _ _ H1w.out infoSh2 rfl (by kernel_rfl) ?_; intro wF hF1 hF2 hF3 hF4)
          have HXF := Lib.hid (xr_other (bx := w.heap.size + 1) HXR.out hF2 (C := w.heap.size) (by omega) (by omega))
          have HBF := Lib.hid (hF4 _ _ (bon HB0.out HBR.out) (by omega))
          refine bodyPost_ret (results_cellS rfl _ _ (w.heap.size + 1) _ _ _ _ rfl hF1 Try.underlying24 rfl (by kernel_rfl)) rfl ⟨_, rfl, HXF.out, HBF.out⟩
      · have j1 : ¬ (k : Int) < (zs.length : Int) := by omega
        have HE := Lib.hid (show L = exL s.ws zs by rw [HL.out, List.take_of_length_le (by omega)])
        rw [HE.out] at HXR
        have H1w := Lib.hid (hb_below HBR.out H1.out (by omega))
        go_upto_region 8 with fail
        go_wp2_with (refine store_row rfl _ _ _ rfl (w.heap.size + 1) _ rfl rfl _ _ H1w.out infoSh2 rfl (by kernel_rfl) ?_; intro wF hF1 hF2 hF3 hF4)
        have HXF := Lib.hid (xr_other (bx := w.heap.size + 1) HXR.out hF2 (C := w.heap.size) (by omega) (by omega))
        have HBF := Lib.hid (hF4 _ _ (bon HB0.out HBR.out) (by omega))
        refine bodyPost_ret (results_cellS rfl _ _ (w.heap.size + 1) _ _ _ _ rfl hF1 Try.underlying24 rfl (by kernel_rfl)) rfl ⟨_, rfl, HXF.out, HBF.out⟩
end Go.Proofs.Ytcjbjlepgdggpaa
