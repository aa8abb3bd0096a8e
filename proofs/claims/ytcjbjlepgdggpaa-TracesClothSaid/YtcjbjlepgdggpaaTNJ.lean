/- The histories of threads. -/
import Derived.Test.YtcjbjlepgdggpaaTNI
import Derived.Test.YtcjbjlepgdggpaaTNB
import Derived.Test.YtcjbjlepgdggpaaTLA
import Derived.Maps.AppendAt
namespace Go.Proofs.Ytcjbjlepgdggpaa
open Go.RowKit Go.Shelf Go.Lib
set_option maxRecDepth 100000
set_option linter.unusedSimpArgs false
set_option linter.unusedVariables false
attribute [local irreducible] wpQuiet
def mcs (m : Met) : List Value := [.int .i64 (m.1 : Int), .bool m.2]
def mfl (r : List Met) : List Value := r.flatMap mcs
theorem mfl_app (r : List Met) (m : Met) : mfl (r ++ [m]) = mfl r ++ mcs m := by simp [mfl]
def lnC (l : List Nat) : List Value := l.map fun (a : Nat) => .int .i64 (a : Int)
/-- The line and the table of histories. -/
structure HT (B : Nat) (w : World) (n go gl : Nat) (vs : List Value) (st : HSt) : Prop where
  tab : w.ownsRow B 95 1 (.slice (some ⟨go, 0, none⟩) n n) n vs
  lin : w.ownsRow B 3 1 (.slice (some ⟨gl, 0, none⟩) n n) n (lnC st.1)
  vl : vs.length = n
  ll : st.1.length = n
  ol : st.2.length = n
  row : ∀ (a : Nat) v r, vs[a]? = some v → st.2[a]? = some r → w.ownsRow B 97 2 v r.length (mfl r)
  far : ∀ (a b : Nat) v u, a ≠ b → vs[a]? = some v → vs[b]? = some u → v.ownBlock = none ∨ v.ownBlock ≠ u.ownBlock
theorem HT.below {B n go gl C : Nat} {w w' : World} {vs : List Value} {st : HSt} (h : HT B w n go gl vs st) (hb : Below C w w') (hC : w.heap.size ≤ C) : HT B w' n go gl vs st :=
  ⟨own_below h.tab (hb.mono hC), own_below h.lin (hb.mono hC), h.vl, h.ll, h.ol, fun a v r hv hr => own_below (h.row a v r hv hr) (hb.mono hC), h.far⟩
theorem infoMet : (Try.prog.info? 97).map (fun i => (i.zero, i.size, i.bytes)) = some (some (.agg #[.int .i64 0, .bool false]), 2, 16) := by kernel_rfl
/-- append of a meeting. -/
theorem run_app_met {B : Nat} {w : World} {v : Value} {r : List Met} (m : Met) (ty : TypeId) (hown : w.ownsRow B 97 2 v r.length (mfl r)) (hB : B ≤ w.heap.size) (hl : r.length < 100000) :
    ∃ v' w', (Builtin.append_ #[95, 95] ty #[v, .slice (some ⟨w.heap.size, 0, none⟩) 1 1]).run Try.prog (w.alloc (.cells #[.int .i64 (m.1 : Int), .bool m.2] 97)) = .ok v' w' ∧ w'.ownsRow B 97 2 v' (r.length + 1) (mfl (r ++ [m])) ∧ (w.alloc (.cells #[.int .i64 (m.1 : Int), .bool m.2] 97)).grownBy w' v.ownBlock ∧ (v'.ownBlock = v.ownBlock ∨ v'.ownBlock = some (w.heap.size + 1)) := by
  obtain ⟨i0, hi, hz0, hz1, hz2⟩ := info_parts infoMet
  obtain ⟨v', w', h1, h2, h3, _, h5⟩ := run_append_own_at (P := Try.prog) (w.alloc (.cells #[.int .i64 (m.1 : Int), .bool m.2] 97)) B 95 ty 97 i0 (.agg #[.int .i64 0, .bool false]) 2 16 Try.underlying95 hi hz0 hz1 hz2 rfl (by decide) v _ _ (hown.alloc _) ⟨w.heap.size, 0, none⟩ 1 1 (mcs m) rfl
    (fun j u hu => by
      have hj := (List.getElem?_eq_some_iff.1 hu).1
      rw [Addr.add_mid, Nat.zero_add, World.cell?_alloc_new, ← Array.getElem?_toList]
      exact hu) (fun u hu => by simp [mcs] at hu; rcases hu with rfl | rfl <;> rfl) (by unfold maxLen; omega) (by omega) (by simp; omega)
  exact ⟨v', w', h1, by rw [mfl_app]; exact h2, h3, by simpa using h5⟩
theorem exec_app {P : Program} {o : Oper} {a : Act} {w w' : World} {s y : Operand} {t : TypeId} {v u v' : Value} (ho : o.op = .call { callee := .builtin .append, args := #[s, y], argTypes := #[t, t] }) (hs : a.eval s = v) (hy : a.eval y = u) (hr : (Builtin.append_ #[t, t] o.type #[v, u]).run P w = .ok v' w') : (execOp a.eval o).run P w = .ok (.value v') w' := by
  unfold execOp
  simp only [ho, resolve, invoke, builtin, Sem.run_bind, Sem.run_pure, Result.andThen_ok, List.map_toArray, List.map_cons, List.map_nil, hs, hy, hr]
/-- A meeting is put to one thread's row. -/
theorem ht_app {B n go gl a : Nat} {w w' : World} {vs : List Value} {st : HSt} {v v' : Value} {r : List Met} {m : Met} (h : HT B w n go gl vs st) (hv : vs[a]? = some v) (hr : st.2[a]? = some r)
    (h2 : w'.ownsRow B 97 2 v' (r.length + 1) (mfl (r ++ [m]))) (h3 : (w.alloc (.cells #[.int .i64 (m.1 : Int), .bool m.2] 97)).grownBy w' v.ownBlock) (h5 : v'.ownBlock = v.ownBlock ∨ v'.ownBlock = some (w.heap.size + 1)) :
    HT B (w'.setCell ⟨go, a, none⟩ v') n go gl (vs.set a v') (st.1, st.2.modify a (· ++ [m])) := by
  have ha := (List.getElem?_eq_some_iff.1 hv).1
  have hro := h.row a v r hv hr
  have tab' : w'.ownsRow B 95 1 (.slice (some ⟨go, 0, none⟩) n n) n vs := (h.tab.alloc _).kept h3 (own_apart h.tab hro (by decide))
  have lin' : w'.ownsRow B 3 1 (.slice (some ⟨gl, 0, none⟩) n n) n (lnC st.1) := (h.lin.alloc _).kept h3 (own_apart h.lin hro (by decide))
  have st' := tab'.stored a v'
  refine ⟨st'.1, lin'.kept st'.2 (own_apart lin' tab' (by decide)), by rw [List.length_set]; exact h.vl, h.ll, by simp only [List.length_modify]; exact h.ol, fun b u q hu hq => ?_, fun b c u x hbc hu hx => ?_⟩
  · rw [List.getElem?_set] at hu
    simp only [List.getElem?_modify] at hq
    by_cases e : a = b
    · subst e
      rw [if_pos rfl, if_pos ha] at hu
      rw [hr] at hq
      simp at hq
      injection hu with hu
      subst hu hq
      rw [List.length_append, List.length_singleton]
      exact h2.kept st'.2 (own_apart h2 tab' (by decide))
    · rw [if_neg e] at hu
      have hq' : st.2[b]? = some q := by
        cases hb : st.2[b]? with
        | none => rw [hb] at hq; simp at hq
        | some q' => rw [hb] at hq; simp [e] at hq; rw [hq]
      have hb := h.row b u q hu hq'
      have hb' := (hb.alloc (.cells #[.int .i64 (m.1 : Int), .bool m.2] 97)).kept h3 (h.far b a u v (fun x => e x.symm) hu hv)
      exact hb'.kept st'.2 (own_apart hb' tab' (by decide))
  · rw [List.getElem?_set] at hu hx
    have old : ∀ (b : Nat) u, vs[b]? = some u → u.ownBlock = none ∨ ∃ k, u.ownBlock = some k ∧ k < w.heap.size := fun b u hu => by
      cases hk : u.ownBlock with
      | none => exact .inl rfl
      | some k =>
        obtain ⟨q, hq⟩ : ∃ q, st.2[b]? = some q := ⟨_, List.getElem?_eq_getElem (by rw [h.ol, ← h.vl]; exact (List.getElem?_eq_some_iff.1 hu).1)⟩
        exact .inr ⟨k, rfl, ((h.row b u q hu hq).lt k hk).2⟩
    by_cases e1 : a = b
    · subst e1
      rw [if_pos rfl, if_pos ha] at hu
      rw [if_neg hbc] at hx
      injection hu with hu
      subst hu
      rcases h5 with h5 | h5
      · rw [h5]
        exact h.far a c v x hbc hv hx
      · right
        rw [h5]
        rcases old c x hx with q | ⟨k, q, hk⟩
        · rw [q]; simp
        · rw [q]; intro e; injection e with e; omega
    · rw [if_neg e1] at hu
      by_cases e2 : a = c
      · subst e2
        rw [if_pos rfl, if_pos ha] at hx
        injection hx with hx
        subst hx
        rcases h5 with h5 | h5
        · rw [h5]
          exact h.far b a u v hbc hu hv
        · rcases old b u hu with q | ⟨k, q, hk⟩
          · exact .inl q
          · right
            rw [q, h5]
            intro e; injection e with e; omega
      · rw [if_neg e2] at hx
        exact h.far b c u x hbc hu hx
/-- Both places of the line exchanged. -/
theorem ht_swap {B n go gl p a b : Nat} {w : World} {vs : List Value} {st : HSt} (h : HT B w n go gl vs st) (ha : st.1[p]? = some a) (hb : st.1[p + 1]? = some b) :
    HT B ((w.setCell ⟨gl, p, none⟩ (.int .i64 (b : Int))).setCell ⟨gl, p + 1, none⟩ (.int .i64 (a : Int))) n go gl vs (swN st.1 p, st.2) := by
  have s1 := h.lin.stored p (.int .i64 (b : Int))
  have s2 := s1.1.stored (p + 1) (.int .i64 (a : Int))
  have e : swN st.1 p = (st.1.set p b).set (p + 1) a := by unfold swN; rw [ha, hb]
  have t1 := h.tab.kept s1.2 (own_apart h.tab h.lin (by decide))
  have t2 := t1.kept s2.2 (own_apart t1 s1.1 (by decide))
  refine ⟨t2, ?_, h.vl, by rw [swN_len]; exact h.ll, h.ol, fun c v r hv hr => ?_, h.far⟩
  · rw [e]
    have := s2.1
    unfold lnC at this ⊢
    rw [List.map_set, List.map_set]
    exact this
  · have r0 := h.row c v r hv hr
    have r1 := r0.kept s1.2 (own_apart r0 h.lin (by decide))
    exact r1.kept s2.2 (own_apart r1 s1.1 (by decide))
theorem mk_mets (n : Nat) (hn : n < 100000) (W : World) : (Instr.makeSlice 44 (.int .i64 (n : Int)) (.int .i64 (n : Int))).run Try.prog W = .ok (.slice (some ⟨W.heap.size, 0, none⟩) n n) (W.alloc (.cells (madeCells #[.slice none 0 0] n) 95)) := by
  obtain ⟨i0, hi, hz0, hz1, hz2⟩ := info_parts (show (Try.prog.info? 95).map (fun i => (i.zero, i.size, i.bytes)) = some (some (.slice none 0 0), 1, 24) by kernel_rfl)
  have h := run_make (P := Try.prog) W 44 95 i0 (.slice none 0 0) Try.underlying44 hi hz0 .i64 .i64 (n : Int) (n : Int) (by omega) (by omega) (by rw [hz2]; omega) (by omega)
  rw [hz1] at h
  simp at h
  exact h
theorem made_mets (n : Nat) : (madeCells #[.slice none 0 0] n).toList = List.replicate n (.slice none 0 0) := by
  apply List.ext_getElem?
  intro j
  by_cases h : j < n
  · rw [Array.getElem?_toList, made_one _ _ _ h, List.getElem?_replicate, if_pos h]
  · rw [List.getElem?_eq_none (by simp [madeCells]; omega), List.getElem?_eq_none (by simp; omega)]
theorem lnC_id (n : Nat) : niC n (fun j => j) = lnC (List.range n) := rfl
/-- The line and the table as they are laid. -/
theorem ht_zero {B n go gl : Nat} {w : World} (h1 : w.ownsRow B 95 1 (.slice (some ⟨go, 0, none⟩) n n) n (List.replicate n (.slice none 0 0))) (h2 : NO B w gl n (fun j => j)) : HT B w n go gl (List.replicate n (.slice none 0 0)) (hist0 n) := by
  refine ⟨h1, by unfold NO at h2; rw [lnC_id] at h2; exact h2, by simp, by simp [hist0], by simp [hist0], fun a v r hv hr => ?_, fun a b v u _ hv _ => ?_⟩
  · simp only [hist0] at hr
    rw [List.getElem?_replicate] at hv hr
    split at hr
    · rename_i h
      rw [if_pos h] at hv
      injection hv with hv
      injection hr with hr
      subst hv hr
      exact World.ownsRow_nil _ _ _ _
    · cases hr
  · rw [List.getElem?_replicate] at hv
    split at hv
    · injection hv with hv
      subst hv
      exact .inl rfl
    · cases hv
/-- How long the rows are at most. -/
def RB (st : HSt) (k : Nat) : Prop := ∀ (a : Nat) r, st.2[a]? = some r → r.length ≤ k
theorem mod_len {α : Type} {L : List (List α)} {k a : Nat} {m : α} (h : ∀ (b : Nat) r, L[b]? = some r → r.length ≤ k) : ∀ (b : Nat) r, (L.modify a (· ++ [m]))[b]? = some r → r.length ≤ k + 1 := fun b r hr => by
  rw [List.getElem?_modify] at hr
  cases hb : L[b]? with
  | none => rw [hb] at hr; simp at hr
  | some q =>
    rw [hb] at hr
    have := h b q hb
    by_cases e : a = b
    · simp [e] at hr; subst hr; simp; omega
    · simp [e] at hr; subst hr; omega
theorem hstep_rb {st : HSt} {k : Nat} (h : RB st k) (p : Nat) (z : Int) : RB (hstep st p z) (k + 2) := mod_len (mod_len h)
theorem hrun_rb (b : Nat) : ∀ (zs : List Int) (st : HSt) (k : Nat), RB st k → RB (hrun b zs st) (k + 2 * zs.length)
  | [], st, k, h => h
  | z :: zs, st, k, h => by
    have := hrun_rb b zs _ _ (hstep_rb h (b + z.natAbs - 1) z)
    rw [List.length_cons, show k + 2 * (zs.length + 1) = k + 2 + 2 * zs.length by omega]
    exact this
theorem hrun_snoc (b : Nat) (zs : List Int) (z : Int) (st : HSt) : hrun b (zs ++ [z]) st = hstep (hrun b zs st) (b + z.natAbs - 1) z := by
  unfold hrun
  rw [List.foldl_append]
  rfl
def crWd (s : ByteArray) : List Int := crW s.data.toList
theorem crWd_len {s : ByteArray} (h : s.size ≤ 16) : (crWd s).length ≤ 32 := by
  have := crW_len s.data.toList
  have e : s.data.toList.length = s.size := by simp
  unfold crWd
  omega
theorem fold_rb : ∀ (W : List Wk) (st : HSt) (k : Nat), (∀ x ∈ W, x.wd.size ≤ 16) → RB st k → RB (W.foldl (hwork crWd) st) (k + 64 * W.length)
  | [], st, k, _, h => h
  | x :: W, st, k, hs, h => by
    have h1 := hrun_rb (2 * x.pl.toNat) (crWd x.wd) st k h
    have h2 := crWd_len (hs x List.mem_cons_self)
    have h3 := fold_rb W _ _ (fun y hy => hs y (List.mem_cons_of_mem _ hy)) (show RB (hwork crWd st x) (k + 2 * (crWd x.wd).length) from h1)
    rw [List.foldl_cons]
    intro a r hr
    have := h3 a r hr
    rw [List.length_cons]
    omega
theorem hist0_rb (n : Nat) : RB (hist0 n) 0 := fun a r hr => by
  simp only [hist0] at hr
  rw [List.getElem?_replicate] at hr
  split at hr
  · injection hr with hr; subst hr; simp
  · cases hr
end Go.Proofs.Ytcjbjlepgdggpaa
