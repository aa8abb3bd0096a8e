/- Taken over: FP OA OB OC OF OH OI2 OQ OR OS OT. -/
import Derived.Test.YtcjbjlepgdggpaaTNA
import Derived.OwnWalk
import Derived.Deep.CutBlock
import Derived.WalkMore
import Derived.Deep.MidRow
import Derived.Deep.RegionLaw
import Derived.Laws.AppendOwnNone
namespace Go.Proofs.Ytcjbjlepgdggpaa
section
open Go.RowKit Go.Shelf
theorem setCell_cells (w : World) (P i : Nat) (vs : List Value) (t : TypeId) (v : Value) (h : w.heap[P]? = some (.cells vs.toArray t (0, 0))) : (w.setCell ⟨P, i, none⟩ v).heap[P]? = some (.cells (vs.set i v).toArray t (0, 0)) := by
  obtain ⟨hlt, hk⟩ := Array.getElem?_eq_some_iff.1 h
  show (w.heap.modify P _)[P]? = _
  rw [Array.getElem?_eq_getElem (by rw [Array.size_modify]; exact hlt), Array.getElem_modify_self, hk]
  simp
end
section
open Go.RowKit Go.Shelf Go.Lib
attribute [local go_sem] Oper.semAt_some
def doneS (ds : List Int) (j : Nat) : Bool := decide ((j : Int) ∈ ds)
open Classical in
theorem doneS_snoc (ds : List Int) (k : Nat) (i : Nat) (h : ds[k]? = some (i : Int)) : (fun j => decide (j = i) || doneS (ds.take k) j) = doneS (ds.take (k + 1)) := by
  funext j
  unfold doneS
  rw [List.take_add_one, h, Option.toList_some]
  rw [Bool.eq_iff_iff]
  simp only [Bool.or_eq_true, decide_eq_true_eq, List.mem_append, List.mem_singleton]
  constructor
  · rintro (rfl | h)
    · exact .inr rfl
    · exact .inl h
  · rintro (h | h)
    · exact .inr h
    · exact .inl (by omega)
theorem store_rowP {ops : Array Oper} {rest : List Oper} {o : Oper} {a : Act} {w : World} {Q : Exit → Act → World → Prop} (hgd : o.guard = none) (ty : TypeId) (x y : Operand) (ho : o.op = .store ty x y)
    (g : Nat) (cells : Array Value) (hx : a.eval x = .pointer (some ⟨g, 0, none⟩)) (hy : a.eval y = .agg cells)
    (t : TypeId) (old : Array Value) (hg : w.heap[g]? = some (.cells old t (0, 0))) (hi : (Try.prog.info? ty).map (·.size) = some cells.size)
    (hold : old.size = cells.size) (h1 : cells.all (·.oneCell') = true)
    (h : ∀ w', w'.heap[g]? = some (.cells cells t (0, 0)) → (∀ (k : Nat), ¬ k = g → w'.heap[k]? = w.heap[k]?) → w'.heap.size = w.heap.size → (∀ B w0, Below B w0 w → B ≤ g → Below B w0 w') → wpList Try.prog ops Q rest (a.put o.dst undef) w') :
    wpList Try.prog ops Q (o :: rest) a w := by
  refine wpList_store_row hgd ty x y ho g cells hx hy t old hg hi hold h1 (h _ ?_ ?_ ?_ ?_)
  · unfold World.setRow
    simp only [Array.getElem?_modify, if_pos, hg, Option.map_some]
  · intro k hne
    unfold World.setRow
    simp only [Array.getElem?_modify, if_neg (Ne.symm hne)]
  · simp [World.setRow]
  · exact fun B w0 hb hB => below_setRow hb hB _
theorem doneS_nil : doneS [] = fun _ => false := by funext j; simp [doneS]
end
section
open Go.RowKit Go.Shelf Go.Lib
/-- A row of 400 numbers. -/
def bkC (bk : Nat → Nat) : List Value := (List.range 400).map fun (j : Nat) => .int .i64 (bk j : Int)
end
section
open Go.RowKit Go.Shelf Go.Lib
set_option linter.unusedSimpArgs false
attribute [local irreducible] wpQuiet
def hdN (r : List Nat) : Nat := r.headD 0
def heads (ps : List (List Nat)) : List Nat := ps.map hdN
end
section
open Go.RowKit Go.Shelf Go.Lib
theorem own_keep {w w' : World} {B k n : Nat} {e : TypeId} {v : Value} {xs : List Value} (h : w.ownsRow B e k v n xs) (hk : ∀ j : Nat, B ≤ j → w'.heap[j]? = w.heap[j]?) : w'.ownsRow B e k v n xs := by
  obtain ⟨hl, hh⟩ := h
  refine ⟨hl, ?_⟩
  rcases hh with h0 | ⟨g2, cap, cur, e, hB, hg2, h1⟩
  · exact .inl h0
  · exact .inr ⟨g2, cap, cur, e, hB, (hk _ hB).trans hg2, h1⟩
def metS (m : Nat) (ps : List (List Nat)) (j : Nat) : Bool := (heads ps).contains j && !decide (j = m)
structure CH (w3 wr : World) (m : Nat) (vo : Value) (bk : Nat → Nat) (ps : List (List Nat)) : Prop where
  met : SetAt wr w3.heap.size 0 (metS m ps)
  row : wr.heap[w3.heap.size + 1]? = some (.cells (bkC bk).toArray 126 (0, 0))
  own : wr.ownsRow (w3.heap.size + 2) 3 1 vo ps.length (((heads ps).map fun (i : Nat) => (i : Int)).map (Value.int .i64))
  low : Below w3.heap.size w3 wr
  big : w3.heap.size + 2 ≤ wr.heap.size
theorem CH.below {w3 wr w' : World} {m : Nat} {vo : Value} {bk : Nat → Nat} {ps : List (List Nat)} (h : CH w3 wr m vo bk ps) (hb : Below wr.heap.size wr w') : CH w3 w' m vo bk ps :=
  ⟨h.met.below (by have := h.big; omega) hb, (hb.block _ (by have := h.big; omega)).trans h.row, own_below h.own hb, h.low.trans (hb.mono (by have := h.big; omega)), by have := hb.size; have := h.big; omega⟩
end
section
open Go.RowKit Go.Shelf Go.Lib
attribute [local go_sem] Oper.semAt_some
/-- When each work is done. -/
def posN (os : List Int) (k j : Nat) : Nat := if (j : Int) ∈ os.take k then os.idxOf (j : Int) else 0
def inOrd (os : List Int) (e : Ed) : Bool := decide (posN os os.length e.fr.toNat ≤ posN os os.length e.to.toNat)
def permB (n : Nat) (os : List Int) : Bool := decide (os.length = n) && os.all (fun z => decide (0 ≤ z) && decide (z < (n : Int))) && decide os.Nodup
/-- Whether it is an order. -/
def ordB (pr : Nat) (W : List Wk) (os : List Int) : Bool := permB W.length os && (stepsL pr W).all (inOrd os)
/-- The first numbers of a list, each once. -/
def PreOk (n : Nat) (os : List Int) (k : Nat) : Prop := (∀ z ∈ os.take k, 0 ≤ z ∧ z < (n : Int)) ∧ (os.take k).Nodup
theorem preOk_next {n : Nat} {os : List Int} {k : Nat} {z : Int} (h : PreOk n os k) (hz : os[k]? = some z) (h1 : 0 ≤ z ∧ z < (n : Int)) (h2 : ¬ z ∈ os.take k) : PreOk n os (k + 1) := by
  have e : os.take (k + 1) = os.take k ++ [z] := by rw [List.take_add_one, hz, Option.toList_some]
  refine ⟨fun y hy => ?_, ?_⟩
  · rw [e] at hy
    rcases List.mem_append.1 hy with hy | hy
    · exact h.1 y hy
    · rw [List.mem_singleton] at hy
      subst hy
      exact h1
  · rw [e, List.nodup_append]
    exact ⟨h.2, by simp, fun y hy x hx e1 => by rw [List.mem_singleton] at hx; rw [e1, hx] at hy; exact h2 hy⟩
theorem permB_ok {n : Nat} {os : List Int} (hl : os.length = n) (h : PreOk n os os.length) : permB n os = true := by
  unfold PreOk at h
  rw [List.take_length] at h
  unfold permB
  simp only [Bool.and_eq_true, decide_eq_true_eq, List.all_eq_true]
  exact ⟨⟨hl, h.1⟩, h.2⟩
structure OS (w wr : World) (os : List Int) (k : Nat) (bx : Array Value) : Prop where
  met : SetAt wr (w.heap.size + 1 + 1) 0 (doneS (os.take k))
  row : wr.heap[w.heap.size + 3]? = some (.cells (bkC (posN os k)).toArray 126 (0, 0))
  box : wr.heap[w.heap.size]? = some (.cells bx 24 (0, 0))
  res : wr.heap[w.heap.size + 1]? = some (.cells #[.bool false] 4 (0, 0))
  low : Below w.heap.size w wr
  big : w.heap.size + 4 ≤ wr.heap.size
theorem OS.below {w wr w' : World} {os : List Int} {k : Nat} {bx : Array Value} (h : OS w wr os k bx) (hb : Below wr.heap.size wr w') : OS w w' os k bx :=
  ⟨h.met.below (by have := h.big; omega) hb, (hb.block _ (by have := h.big; omega)).trans h.row, (hb.block _ (by have := h.big; omega)).trans h.box, (hb.block _ (by have := h.big; omega)).trans h.res, h.low.trans (hb.mono (by have := h.big; omega)), by have := hb.size; have := h.big; omega⟩
end
section
open Go.RowKit Go.Shelf Go.Lib
set_option linter.unusedSimpArgs false
def wl (x : Wk) : List Value := [.int .i64 x.kd, .int .i64 x.pl, .string x.wd]
theorem wl_len (x : Wk) : (wl x).length = 3 := rfl
def wfl (W : List Wk) : List Value := W.flatMap wl
theorem wfl_len (W : List Wk) : (wfl W).length = W.length * 3 := by
  induction W with
  | nil => rfl
  | cons a W ih => show (wl a ++ wfl W).length = _; rw [List.length_append, wl_len, ih, List.length_cons]; omega
theorem wfl_app (A B : List Wk) : wfl (A ++ B) = wfl A ++ wfl B := by simp [wfl]
theorem wfl_get (L : List Wk) : ∀ (k : Nat) (a : Wk), L[k]? = some a → ∀ j, j < 3 → (wfl L)[k * 3 + j]? = (wl a)[j]? := by
  induction L with
  | nil => intro k a h; simp at h
  | cons b L ih =>
    intro k a h j hj
    show (wl b ++ wfl L)[k * 3 + j]? = _
    cases k with
    | zero =>
      simp at h; subst h
      rw [List.getElem?_append_left (by rw [wl_len]; omega)]
      congr 1
      omega
    | succ k =>
      rw [List.getElem?_append_right (by rw [wl_len]; omega), wl_len, ← ih k a (by simpa using h) j hj]
      congr 1
      omega
theorem wfl_of (L : List Wk) (i : Nat) (h : i < L.length * 3) : ∃ a, L[i / 3]? = some a ∧ (wfl L)[i]? = (wl a)[i % 3]? := by
  have hk : i / 3 < L.length := by omega
  refine ⟨L[i / 3], List.getElem?_eq_getElem hk, ?_⟩
  have := wfl_get L (i / 3) _ (List.getElem?_eq_getElem hk) (i % 3) (by omega)
  rwa [show i / 3 * 3 + i % 3 = i by omega] at this
theorem wfl_one (L : List Wk) : ∀ u ∈ wfl L, u.oneCell' = true := by
  intro u hu
  obtain ⟨x, _, hx⟩ := List.mem_flatMap.1 hu
  simp only [wl, List.mem_cons, List.not_mem_nil, or_false] at hx
  rcases hx with rfl | rfl | rfl <;> rfl
theorem infoWk3 : (Try.prog.info? 51).map (fun i => (i.zero, i.size, i.bytes)) = some (some (.agg #[.int .i64 0, .int .i64 0, .string ⟨#[]⟩]), 3, 32) := by kernel_rfl
def WO (B : Nat) (w : World) (v : Value) (W : List Wk) : Prop := w.ownsRow B 51 3 v W.length (wfl W)
theorem WO.below {B : Nat} {w w' : World} {v : Value} {W : List Wk} (h : WO B w v W) (hb : Below w.heap.size w w') : WO B w' v W := own_below h hb
theorem ws_own {B : Nat} {w : World} {v : Value} {W : List Wk} (h : WO B w v W) (hs : ∀ x ∈ W, x.wd.size ≤ maxLen) : WS w v W := by
  obtain ⟨hl, hh⟩ := h
  rcases hh with ⟨rfl, h0⟩ | ⟨g, cap, cur, rfl, _, hg, hle, hmx, hsz, htk⟩
  · have : W = [] := List.eq_nil_of_length_eq_zero h0
    subst this
    exact ⟨none, 0, rfl, Nat.le_refl _, Nat.zero_le _, fun k x hx => by cases hx⟩
  · refine ⟨some ⟨g, 0, none⟩, cap, rfl, hle, hmx, fun k x hx => ?_⟩
    have hgs := (Array.getElem?_eq_some_iff.1 hg).1
    refine ⟨g, 0, rfl, hgs, fun j u hu => ?_, hs x (List.mem_of_getElem? hx)⟩
    have hk := (List.getElem?_eq_some_iff.1 hx).1
    have hj := (List.getElem?_eq_some_iff.1 hu).1
    have hj3 : j < 3 := by simpa using hj
    rw [cell_of_row _ _ _ _ _ _ hg]
    have e := wfl_get W k x hx j hj3
    rw [← htk, List.getElem?_take_of_lt (by omega), show (wl x)[j]? = some u from hu] at e
    rw [show 0 + k * 3 + j = k * 3 + j by omega, ← Array.getElem?_toList]
    exact e
/-- append(v, x), x a work. -/
theorem app_wk {ops : Array Oper} {rest : List Oper} {o : Oper} {a : Act} {Q : Exit → Act → World → Prop} {w w0 : World} (B : Nat) (v : Value) (W : List Wk) (x : Wk)
    (hgd : o.guard = none) (s y : Operand) (ho : o.op = .call { callee := .builtin .append, args := #[s, y], argTypes := #[22, 22] }) (hs : a.eval s = v)
    (hown : WO B w v W) (hy : a.eval y = .slice (some ⟨w.heap.size, 0, none⟩) 1 1) (hl : W.length < 100000) (hb : Below B w0 w) (hB : B ≤ w.heap.size)
    (h : ∀ v' w', WO B w' v' (W ++ [x]) → Below B w0 w' → wpList Try.prog ops Q rest (a.put o.dst v') w') :
    wpList Try.prog ops Q (o :: rest) a (w.alloc (.cells #[.int .i64 x.kd, .int .i64 x.pl, .string x.wd] 51)) := by
  obtain ⟨i0, hi, hz0, hz1, hz2⟩ := info_parts infoWk3
  refine wpList_append_own _ hgd s y 22 ho B 51 i0 (.agg #[.int .i64 0, .int .i64 0, .string ⟨#[]⟩]) 3 32 Try.underlying22 hi hz0 hz1 hz2 rfl (by decide) v _ _ hs (hown.alloc _) ⟨w.heap.size, 0, none⟩ 1 1 (wl x) hy rfl ?_ ?_ (by unfold maxLen; omega) (by omega) (by simp; omega) ?_
  · intro j u hu
    have hj := (List.getElem?_eq_some_iff.1 hu).1
    rw [wl_len] at hj
    rw [Addr.add_mid, Nat.zero_add, World.cell?_alloc_new, ← Array.getElem?_toList]
    exact hu
  · intro u hu
    exact wfl_one [x] u (by simpa [wfl] using hu)
  · intro v' w' hown' hgrow _
    refine h v' w' ?_ (Below.grown (hb.alloc hB _) hgrow (by simp; omega) fun k e => (hown.lt k e).1)
    unfold WO
    rw [wfl_app, List.length_append, List.length_singleton]
    simpa [wfl] using hown'
end
section
open Go.RowKit Go.Shelf
set_option linter.unusedSimpArgs false
theorem ws_nil (w : World) : WS w (.slice none 0 0) [] := ⟨none, 0, rfl, Nat.le_refl _, Nat.zero_le _, fun k x hx => by cases hx⟩
theorem chk_words {s : Sh} (h : chkS s = 0) : ∀ x ∈ s.ws, x.wd.size ≤ 16 := by
  unfold chkS at h
  split at h
  · cases h
  split at h
  · cases h
  split at h
  · cases h
  · rename_i _ _ c
    intro x hx
    have := List.all_eq_true.1 (by simpa using c : s.ws.all shortW = true) x hx
    unfold shortW stV at this
    split at this
    · simp at this
    · omega
def reoE (s : Sh) (os : List Int) : Int := if chkS s ≠ 0 then chkS s else if ordB s.pr.toNat s.ws os = true then 0 else 4
/-- The works in an order. -/
def reoL (W : List Wk) (os : List Int) : List Wk := os.map fun z => wkN W z.toNat
def reoS (s : Sh) (os : List Int) : Sh := if reoE s os = 0 then ⟨s.pr, reoL s.ws os⟩ else ⟨0, []⟩
theorem ordB_in {pr : Nat} {W : List Wk} {os : List Int} (h : ordB pr W os = true) : os.length = W.length ∧ ∀ z ∈ os, 0 ≤ z ∧ z < (W.length : Int) := by
  unfold ordB permB at h
  simp only [Bool.and_eq_true, decide_eq_true_eq, List.all_eq_true] at h
  exact ⟨h.1.1.1, h.1.1.2⟩
end
section
open Go.RowKit Go.Shelf
/-- The reference's order. -/
def goodAt (W : List Wk) (os : List Int) (k : Nat) : Bool :=
  match os[k]? with
  | none => true
  | some z => (decide (0 ≤ z) && decide (z < (W.length : Int))) && !doneS (os.take k) z.toNat && (List.range z.toNat).all fun a => !tchN W a z.toNat || doneS (os.take k) a
def refOrdB (W : List Wk) (os : List Int) : Bool := decide (os.length = W.length) && (List.range os.length).all (goodAt W os)
theorem perm_idx {n : Nat} {os : List Int} (h : permB n os = true) : (∀ j, j < n → (j : Int) ∈ os) ∧ (∀ (k : Nat) (z : Int), os[k]? = some z → os.idxOf z = k) ∧ os.length = n ∧ ∀ z ∈ os, 0 ≤ z ∧ z < (n : Int) := by
  unfold permB at h
  simp only [Bool.and_eq_true, decide_eq_true_eq, List.all_eq_true] at h
  obtain ⟨⟨h1, h2⟩, h3⟩ := h
  refine ⟨fun j hj => ?_, fun k z hk => ?_, h1, h2⟩
  · rcases Classical.em ((j : Int) ∈ os) with hm | hm
    · exact hm
    · exfalso
      -- the others are fewer
      have hd : (os.map Int.toNat).Nodup := by
        unfold List.Nodup
        rw [List.pairwise_map]
        refine List.Pairwise.imp_of_mem (fun {a b} ha hb hab => ?_) h3
        have := h2 a ha
        have := h2 b hb
        omega
      have hd2 : (j :: os.map Int.toNat).Nodup := by
        rw [List.nodup_cons]
        refine ⟨fun h => ?_, hd⟩
        obtain ⟨z, hz, e⟩ := List.mem_map.1 h
        have := h2 z hz
        exact hm (by rw [show (j : Int) = z by omega]; exact hz)
      have := nodup_len n (j :: os.map Int.toNat) hd2 (fun x hx => by
        rcases List.mem_cons.1 hx with rfl | hx
        · exact hj
        · obtain ⟨z, hz, rfl⟩ := List.mem_map.1 hx
          have := h2 z hz
          omega)
      simp only [List.length_cons, List.length_map] at this
      omega
  · obtain ⟨hk1, hk2⟩ := List.getElem?_eq_some_iff.1 hk
    rw [← hk2]
    exact List.Nodup.idxOf_getElem h3 k hk1
theorem take_idx {os : List Int} {k : Nat} {z : Int} (hn : ∀ (k : Nat) (z : Int), os[k]? = some z → os.idxOf z = k) (hz : z ∈ os) : z ∈ os.take k ↔ os.idxOf z < k := by
  constructor
  · intro h
    obtain ⟨i, hi, he⟩ := List.mem_iff_getElem.1 h
    rw [List.length_take] at hi
    have : os[i]? = some z := by
      rw [List.getElem_take] at he
      rw [List.getElem?_eq_getElem (by omega), he]
    rw [hn i z this]
    omega
  · intro h
    have hl : os.idxOf z < os.length := List.idxOf_lt_length_of_mem hz
    rw [List.mem_iff_getElem]
    refine ⟨os.idxOf z, by rw [List.length_take]; omega, ?_⟩
    rw [List.getElem_take]
    exact List.getElem_idxOf hl
theorem ord_eq (pr : Nat) (W : List Wk) (os : List Int) : ordB pr W os = refOrdB W os := by
  rw [Bool.eq_iff_iff]
  constructor
  · intro h
    unfold ordB at h
    rw [Bool.and_eq_true, List.all_eq_true] at h
    obtain ⟨hp, hs⟩ := h
    obtain ⟨p1, p2, p3, p4⟩ := perm_idx hp
    have hpos : ∀ j, j < W.length → posN os os.length j = os.idxOf (j : Int) := fun j hj => by
      unfold posN
      rw [List.take_length, if_pos (p1 j hj)]
    have hlt : ∀ (m a b : Nat), b ≤ a + m → a < b → b < W.length → tchN W a b = true → os.idxOf (a : Int) < os.idxOf (b : Int) := fun m => by
      induction m with
      | zero => intro a b h1 h2; omega
      | succ m ih =>
        intro a b h1 h2 h3 h4
        obtain ⟨c, g1, g2, g3, e, he, hf, ht⟩ := step_to (pr := pr) h2 h3 h4
        have hse := hs e he
        unfold inOrd at hse
        rw [hf, ht, Int.toNat_natCast, Int.toNat_natCast, hpos a (by omega), hpos c (by omega), decide_eq_true_eq] at hse
        have hne : os.idxOf (a : Int) ≠ os.idxOf (c : Int) := fun h => by
          have ha := List.getElem_idxOf (List.idxOf_lt_length_of_mem (p1 a (by omega)))
          have hc := List.getElem_idxOf (List.idxOf_lt_length_of_mem (p1 c (by omega)))
          have : (a : Int) = (c : Int) := by
            rw [← ha, ← hc]
            congr 1
          omega
        rcases g3 with rfl | g3
        · omega
        · by_cases hcb : c = b
          · subst hcb; omega
          · have := ih c b (by omega) (by omega) h3 g3
            omega
    unfold refOrdB
    rw [Bool.and_eq_true, decide_eq_true_eq, List.all_eq_true]
    refine ⟨p3, fun k hk => ?_⟩
    have hk := List.mem_range.1 hk
    obtain ⟨z, hz⟩ : ∃ z, os[k]? = some z := ⟨_, List.getElem?_eq_getElem hk⟩
    have hzm := List.mem_of_getElem? hz
    have hzr := p4 z hzm
    obtain ⟨b, rfl⟩ : ∃ b : Nat, z = (b : Int) := ⟨z.toNat, by omega⟩
    unfold goodAt
    rw [hz]
    simp only [Int.toNat_natCast, Bool.and_eq_true, decide_eq_true_eq, List.all_eq_true, Bool.not_eq_true', doneS, decide_eq_false_iff_not, Bool.or_eq_true]
    refine ⟨⟨hzr, fun h => ?_⟩, fun a ha => ?_⟩
    · have := (take_idx p2 hzm).1 h
      rw [p2 k _ hz] at this
      omega
    · have ha := List.mem_range.1 ha
      by_cases ht : tchN W a b = true
      · right
        rw [take_idx p2 (p1 a (by omega)), ← p2 k _ hz]
        exact hlt W.length a b (by omega) ha (by omega) ht
      · left
        simpa using ht
  · intro h
    unfold refOrdB at h
    rw [Bool.and_eq_true, decide_eq_true_eq, List.all_eq_true] at h
    obtain ⟨hl, hg⟩ := h
    have hgk : ∀ (k : Nat) (z : Int), os[k]? = some z → (0 ≤ z ∧ z < (W.length : Int)) ∧ ¬ z ∈ os.take k ∧ ∀ a, a < z.toNat → tchN W a z.toNat = true → (a : Int) ∈ os.take k := fun k z hz => by
      have := hg k (List.mem_range.2 (List.getElem?_eq_some_iff.1 hz).1)
      unfold goodAt at this
      rw [hz] at this
      simp only [Bool.and_eq_true, decide_eq_true_eq, List.all_eq_true, Bool.not_eq_true', doneS, decide_eq_false_iff_not, Bool.or_eq_true] at this
      obtain ⟨⟨h1, h2⟩, h3⟩ := this
      refine ⟨h1, by rw [Int.toNat_of_nonneg h1.1] at h2; exact h2, fun a ha ht => ?_⟩
      rcases h3 a (List.mem_range.2 ha) with h | h
      · rw [ht] at h; cases h
      · exact h
    have hpo : ∀ k, k ≤ os.length → PreOk W.length os k := fun k => by
      induction k with
      | zero => intro _; exact ⟨fun z hz => by simp at hz, by simp⟩
      | succ k ih =>
        intro hk
        obtain ⟨z, hz⟩ : ∃ z, os[k]? = some z := ⟨_, List.getElem?_eq_getElem (by omega)⟩
        exact preOk_next (ih (by omega)) hz (hgk k z hz).1 (hgk k z hz).2.1
    have hp : permB W.length os = true := permB_ok hl (hpo _ (Nat.le_refl _))
    obtain ⟨p1, p2, p3, p4⟩ := perm_idx hp
    unfold ordB
    rw [hp, Bool.true_and, List.all_eq_true]
    intro e he
    obtain ⟨i, j, hf, ht, hij, hj, htc⟩ := step_char he
    unfold inOrd
    rw [hf, ht, Int.toNat_natCast, Int.toNat_natCast, decide_eq_true_eq]
    unfold posN
    rw [List.take_length, if_pos (p1 i (by omega)), if_pos (p1 j hj)]
    have hjk := List.idxOf_lt_length_of_mem (p1 j hj)
    have hjs : os[os.idxOf (j : Int)]? = some (j : Int) := by rw [List.getElem?_eq_getElem hjk, List.getElem_idxOf hjk]
    have := (hgk _ _ hjs).2.2 i (by simpa using hij) (by simpa using htc)
    have := (take_idx p2 (p1 i (by omega))).1 this
    omega
end
section
open Go.RowKit Go.Shelf
set_option maxRecDepth 100000 in
set_option maxHeartbeats 16000000 in
theorem refOrder_any (s : Sh) (v : Value) (os : List Int) (dv : Value) (w : World) (hv : SV w v s) (hd : IS w dv os) (hc : chkS s = 0) (hol : os.length ≤ 50000) :
    Calls Try.prog 40 #[v, dv] w fun e w' => e = .returned (.bool (refOrdB s.ws os)) ∧ Below w.heap.size w w' := by
  obtain ⟨u, rfl, hu⟩ := hv
  obtain ⟨sa, sc, rfl, q1, q2, _, hI⟩ := hd
  obtain ⟨ua, uc, rfl, k1, k2, hU⟩ := id hu
  have HI := Lib.hid hI
  have HU := Lib.hid hU
  obtain ⟨s1, s2, hsm⟩ := chk_small hc
  have HSM := Lib.hid hsm
  have HOB := Lib.hid (show refOrdB s.ws os = (decide (os.length = s.ws.length) && (List.range os.length).all (goodAt s.ws os)) from rfl)
  generalize refOrdB s.ws os = ob at *
  clear hI hU hu hc hsm
  go_enter Try.func40, Try.ntmps40
  have h0 := heap_alloc_new w (.cells #[.int .i64 s.pr, .slice ua s.ws.length uc] 24)
  have b0 := below_alloc w (.cells #[.int .i64 s.pr, .slice ua s.ws.length uc] 24)
  have z0 : (w.alloc (.cells #[.int .i64 s.pr, .slice ua s.ws.length uc] 24)).heap.size = w.heap.size + 1 := by simp
  by_cases hl : os.length = s.ws.length
  · have hln : ((os.length : Int) != (s.ws.length : Int)) = false := by rw [bne_eq_false_iff_eq]; omega
    have HL := Lib.hid hl
    have hw4 : s.ws.length ≤ 400 := HSM.out.1
    clear hl
    go_upto_region 3 with fail
    generalize w.alloc (.cells #[.int .i64 s.pr, .slice ua s.ws.length uc] 24) = w0 at *
    have hmk := fun W => mk_boolsN os.length (by omega) W
    have hbo := bo_made os.length w0.heap.size (by omega) w0 (Nat.le_refl _)
    rw [z0] at hbo
    have hb1 := below_alloc w0 (.cells (madeCells #[.bool false] os.length) 4)
    go_wp2_with fail
    clear hmk
    generalize w0.alloc (.cells (madeCells #[.bool false] os.length) 4) = w1 at *
    have H1 := Lib.hid ((hb1.block _ (by omega)).trans h0)
    have HB1 := Lib.hid (bon b0 hb1)
    have HBO := Lib.hid hbo
    have HZ1 := Lib.hid (show w.heap.size < w.heap.size + 1 by omega)
    have HN0 := Lib.hid (show doneS (os.take 0) = fun _ => false by rw [List.take_zero, doneS_nil])
    clear h0 b0 hb1 hbo z0
    go_loopw [6] (fun i wr => ∃ k : Nat, k ≤ os.length ∧ i = .int .i64 (k : Int) ∧ (∀ j, j < k → goodAt s.ws os j = true) ∧ BO (w.heap.size + 1) wr (w.heap.size + 1) os.length (doneS (os.take k)) ∧ wr.heap[w.heap.size]? = some (.cells #[.int .i64 s.pr, .slice ua s.ws.length uc] 24 (0, 0)) ∧ Below w.heap.size w wr) (fun i _ => os.length - (intOf i).toNat)
    case atStart => exact ⟨0, Nat.zero_le _, rfl, (fun j hj => by omega), by rw [HN0.out]; exact HBO.out, H1.out, HB1.out⟩
    case round =>
      clear H1 HB1 HBO HN0
      obtain ⟨k, hk, rfl, hgo, hbo, hx, hb⟩ := hrel
      have HG := Lib.hid hgo
      have HO := Lib.hid hbo
      have HX := Lib.hid hx
      have HB := Lib.hid hb
      clear hgo hbo hx hb
      by_cases hkl : k < os.length
      · obtain ⟨z, hz⟩ : ∃ z, os[k]? = some z := ⟨_, List.getElem?_eq_getElem hkl⟩
        obtain ⟨b, off, rfl, hbl, hcz⟩ := HI.out k z hz
        have cz : wr.cell? ⟨b, off + k, none⟩ = some (.int .i64 z) := (HB.out.cell (p := ⟨b, off + k, none⟩) hbl).trans hcz
        have HKZ := Lib.hid hz
        have j0 : (0 : Int) ≤ (k : Int) := by omega
        have j1 : (k : Int) < (os.length : Int) := by omega
        have HGA := Lib.hid (show goodAt s.ws os k = ((decide (0 ≤ z) && decide (z < (s.ws.length : Int))) && !doneS (os.take k) z.toNat && (List.range z.toNat).all fun a => !tchN s.ws a z.toNat || doneS (os.take k) a) by unfold goodAt; rw [hz])
        have HBADK := Lib.hid (show goodAt s.ws os k = false → ob = false from fun h => by
          rw [HOB.out, show (List.range os.length).all (goodAt s.ws os) = false from List.all_eq_false.2 ⟨k, List.mem_range.2 hkl, by rw [h]; decide⟩, Bool.and_false])
        clear hcz hz
        by_cases hneg : z < 0
        · have e : ob = false := HBADK.out (by rw [HGA.out, decide_eq_false (show ¬ 0 ≤ z by omega)]; rfl)
          subst e
          go_wp2_with fail
          go_ret
          exact ⟨rfl, HB.out⟩
        by_cases hbig : (os.length : Int) ≤ z
        · have e : ob = false := HBADK.out (by have := HL.out; rw [HGA.out, decide_eq_false (show ¬ z < (s.ws.length : Int) by omega), Bool.and_false]; rfl)
          subst e
          have hnn : ¬ z < 0 := hneg
          go_wp2_with fail
          go_ret
          exact ⟨rfl, HB.out⟩
        obtain ⟨i, rfl⟩ : ∃ i : Nat, z = (i : Int) := ⟨z.toNat, by omega⟩
        have hil : i < os.length := by omega
        have i0 : ¬ (i : Int) < 0 := by omega
        have i00 : (0 : Int) ≤ (i : Int) := by omega
        have i1 : ¬ (os.length : Int) ≤ (i : Int) := by omega
        have i11 : (i : Int) < (os.length : Int) := by omega
        have HGB := Lib.hid (show goodAt s.ws os k = (!doneS (os.take k) i && (List.range i).all fun a => !tchN s.ws a i || doneS (os.take k) a) by
          have := HL.out
          rw [HGA.out, decide_eq_true (show (0 : Int) ≤ (i : Int) by omega), decide_eq_true (show (i : Int) < (s.ws.length : Int) by omega)]
          simp)
        clear hneg hbig HGA
        have ci := HO.out.cell hil
        by_cases hdn : doneS (os.take k) i = true
        · rw [hdn] at ci
          have e : ob = false := HBADK.out (by rw [HGB.out, hdn]; rfl)
          subst e
          clear hdn
          go_wp2_with fail
          go_ret
          exact ⟨rfl, HB.out⟩
        have hdn' : doneS (os.take k) i = false := by simpa using hdn
        rw [hdn'] at ci
        have HGC := Lib.hid (show goodAt s.ws os k = (List.range i).all fun a => !tchN s.ws a i || doneS (os.take k) a by rw [HGB.out, hdn']; rfl)
        have HIL := Lib.hid hil
        clear hdn hdn' HGB
        go_wp2_with fail
        clear ci cz
        go_loopw [8] (fun x wx => ∃ a : Nat, a ≤ i ∧ x = .int .i64 (a : Int) ∧ (∀ j, j < a → (!tchN s.ws j i || doneS (os.take k) j) = true) ∧ Below wr.heap.size wr wx) (fun x _ => i - (intOf x).toNat)
        case atStart => exact ⟨0, Nat.zero_le _, rfl, (fun j hj => by omega), Below.refl _ _⟩
        case round =>
          obtain ⟨a, ha, rfl, hno, hbx⟩ := hrel
          rename World => wx
          have HNO := Lib.hid hno
          have HBX := Lib.hid hbx
          have HO2 := Lib.hid (HO.out.below hbx)
          have hx2 := (hbx.block _ (Array.getElem?_eq_some_iff.1 HX.out).1).trans HX.out
          have HX2 := Lib.hid hx2
          have HB2 := Lib.hid (bon HB.out hbx)
          have hzx := (Array.getElem?_eq_some_iff.1 hx2).1
          clear hno hbx
          by_cases hai : a < i
          · have a0 : (a : Int) < (i : Int) := by omega
            have a00 : (0 : Int) ≤ (a : Int) := by omega
            have g1 : wx.cell? ⟨w.heap.size, 1, none⟩ = some (.slice ua s.ws.length uc) := cell_of_row wx _ 1 _ _ _ hx2
            have hL := HL.out
            obtain ⟨y1, hy1⟩ : ∃ y1, s.ws[a]? = some y1 := ⟨_, List.getElem?_eq_getElem (by omega)⟩
            obtain ⟨y2, hy2⟩ : ∃ y2, s.ws[i]? = some y2 := ⟨_, List.getElem?_eq_getElem (by omega)⟩
            have hp1 := HSM.out.2 y1 (List.mem_of_getElem? hy1)
            have hp2 := HSM.out.2 y2 (List.mem_of_getElem? hy2)
            have htc : tchN s.ws a i = touchP y1 y2 := by unfold tchN; rw [wkN_get hy1, wkN_get hy2]
            obtain ⟨b1, off1, rfl, hb1, hr1, _⟩ := HU.out a y1 hy1
            obtain ⟨b1', off1', e', _, hr2, _⟩ := HU.out i y2 hy2
            cases e'
            have RGy1 := Lib.hid (range_below3 hr1 hb1 HB2.out)
            have RGy2 := Lib.hid (range_below3 hr2 hb1 HB2.out)
            have CT := Lib.hid (fun W => refTouch_any y1 y2 W hp1 hp2)
            have n1 : (a : Int) < (s.ws.length : Int) := by omega
            have n2 : (i : Int) < (s.ws.length : Int) := by omega
            have n3 : (a : Int) < (os.length : Int) := by omega
            have hb1x : b1 < wx.heap.size := by have := HB2.out.size; omega
            have gb := HO2.out.cell (show a < os.length by omega)
            have hgb : w.heap.size + 1 < wx.heap.size := (World.ownsRow.lt HO2.out _ rfl).2
            clear hy1 hy2 hp1 hp2 hr1 hr2 hx2 hL
            by_cases ht : touchP y1 y2 = true
            · rw [ht] at CT htc
              by_cases hd : doneS (os.take k) a = true
              · rw [hd] at gb
                have HNN := Lib.hid (show ∀ j, j < a + 1 → (!tchN s.ws j i || doneS (os.take k) j) = true from fun j hj => by
                  by_cases e : j = a
                  · rw [e, hd]; simp
                  · exact HNO.out j (by omega))
                clear ht hd htc
                go_wp2_with fail
                refine wp_region_class (fun w' => Below wx.heap.size wx w') 17 (by kernel_rfl) (by kernel_rfl) (Below.refl _ wx).drew ?_
                simp only [List.take_succ_cons, List.take_zero, List.drop_succ_cons, List.drop_zero]
                refine quiet_still rfl (.pointer (some ⟨w.heap.size, 1, none⟩)) (fun w _ => by go_simp) ?_
                simp only [Act.put, List.setIfInBounds_toArray, List.set_cons_zero, List.set_cons_succ]
                refine quiet_load1 rfl _ _ rfl ⟨w.heap.size, 1, none⟩ rfl (.slice (some ⟨b1, off1, none⟩) s.ws.length uc) (load_ws _ _) (fun _ h => (h.cell (p := ⟨w.heap.size, 1, none⟩) hzx).trans g1) ?_
                simp only [Act.put, List.setIfInBounds_toArray, List.set_cons_zero, List.set_cons_succ]
                refine quiet_moveV rfl _ rfl (.int .i64 (a : Int)) rfl ?_
                simp only [Act.put, List.setIfInBounds_toArray, List.set_cons_zero, List.set_cons_succ]
                refine quiet_still rfl (.pointer (some ⟨b1, off1 + a * 3, none⟩)) (fun w _ => by go_simp) ?_
                simp only [Act.put, List.setIfInBounds_toArray, List.set_cons_zero, List.set_cons_succ]
                refine quiet_load_mid rfl _ _ rfl b1 (off1 + a * 3) rfl [.int .i64 y1.kd, .int .i64 y1.pl, .string y1.wd] _ (fun W h => range_below3 RGy1.out hb1x h) Try.underlying51 rfl (by kernel_rfl) ?_
                simp only [Act.put, List.setIfInBounds_toArray, List.set_cons_zero, List.set_cons_succ]
                refine quiet_still rfl (.pointer (some ⟨w.heap.size, 1, none⟩)) (fun w _ => by go_simp) ?_
                simp only [Act.put, List.setIfInBounds_toArray, List.set_cons_zero, List.set_cons_succ]
                refine quiet_load1 rfl _ _ rfl ⟨w.heap.size, 1, none⟩ rfl (.slice (some ⟨b1, off1, none⟩) s.ws.length uc) (load_ws _ _) (fun _ h => (h.cell (p := ⟨w.heap.size, 1, none⟩) hzx).trans g1) ?_
                simp only [Act.put, List.setIfInBounds_toArray, List.set_cons_zero, List.set_cons_succ]
                refine quiet_moveV rfl _ rfl (.int .i64 (i : Int)) rfl ?_
                simp only [Act.put, List.setIfInBounds_toArray, List.set_cons_zero, List.set_cons_succ]
                refine quiet_still rfl (.pointer (some ⟨b1, off1 + i * 3, none⟩)) (fun w _ => by go_simp) ?_
                simp only [Act.put, List.setIfInBounds_toArray, List.set_cons_zero, List.set_cons_succ]
                refine quiet_load_mid rfl _ _ rfl b1 (off1 + i * 3) rfl [.int .i64 y2.kd, .int .i64 y2.pl, .string y2.wd] _ (fun W h => range_below3 RGy2.out hb1x h) Try.underlying51 rfl (by kernel_rfl) ?_
                simp only [Act.put, List.setIfInBounds_toArray, List.set_cons_zero, List.set_cons_succ]
                refine quiet_call rfl 38 _ _ rfl (enter_of Try.func38 (by decide) (by intro h; cases h)) _ (fun W h => (CT.out W).mono fun e w' ⟨he, hw⟩ => ⟨he, h.trans (hw.mono h.size)⟩) ?_
                simp only [Act.put, List.setIfInBounds_toArray, List.set_cons_zero, List.set_cons_succ]
                refine quiet_moveV rfl _ rfl (.bool true) rfl ?_
                simp only [Act.put, List.setIfInBounds_toArray, List.set_cons_zero, List.set_cons_succ]
                refine quietW_moveV (by kernel_rfl) _ rfl (.slice (some ⟨w.heap.size + 1, 0, none⟩) os.length os.length) rfl ?_
                simp only [Act.put, List.setIfInBounds_toArray, List.set_cons_zero, List.set_cons_succ]
                refine quietW_moveV (by kernel_rfl) _ rfl (.int .i64 (a : Int)) rfl ?_
                simp only [Act.put, List.setIfInBounds_toArray, List.set_cons_zero, List.set_cons_succ]
                refine quietW_still (by kernel_rfl) (.pointer (some ⟨w.heap.size + 1, a, none⟩)) (fun w _ => by go_simp) ?_
                simp only [Act.put, List.setIfInBounds_toArray, List.set_cons_zero, List.set_cons_succ]
                refine quietW_load1 (by kernel_rfl) _ _ rfl ⟨w.heap.size + 1, a, none⟩ rfl (.bool true) (load_boolA _ _) (fun _ h => (h.cell (p := ⟨w.heap.size + 1, a, none⟩) hgb).trans gb) ?_
                simp only [Act.put, List.setIfInBounds_toArray, List.set_cons_zero, List.set_cons_succ]
                refine quietW_still (by kernel_rfl) (.bool false) (fun w _ => by go_simp) ?_
                simp only [Act.put, List.setIfInBounds_toArray, List.set_cons_zero, List.set_cons_succ]
                unfold wpQuiet
                intro wq hb
                clear g1 gb
                have HBQ := Lib.hid (HBX.out.trans (hb.mono HBX.out.size))
                clear hb
                go_wp2_with fail
                go_roundw
                case rel => exact ⟨a + 1, hai, by go_num, HNN.out, HBQ.out⟩
                case measure => (simp [intOf] <;> omega)
              · have hd' : doneS (os.take k) a = false := by simpa using hd
                rw [hd'] at gb
                have e : ob = false := HBADK.out (by rw [HGC.out]; exact List.all_eq_false.2 ⟨a, List.mem_range.2 hai, by rw [htc, hd']; decide⟩)
                subst e
                clear ht hd hd' htc
                go_wp2_with fail
                refine wp_region_class (fun w' => Below wx.heap.size wx w') 17 (by kernel_rfl) (by kernel_rfl) (Below.refl _ wx).drew ?_
                simp only [List.take_succ_cons, List.take_zero, List.drop_succ_cons, List.drop_zero]
                refine quiet_still rfl (.pointer (some ⟨w.heap.size, 1, none⟩)) (fun w _ => by go_simp) ?_
                simp only [Act.put, List.setIfInBounds_toArray, List.set_cons_zero, List.set_cons_succ]
                refine quiet_load1 rfl _ _ rfl ⟨w.heap.size, 1, none⟩ rfl (.slice (some ⟨b1, off1, none⟩) s.ws.length uc) (load_ws _ _) (fun _ h => (h.cell (p := ⟨w.heap.size, 1, none⟩) hzx).trans g1) ?_
                simp only [Act.put, List.setIfInBounds_toArray, List.set_cons_zero, List.set_cons_succ]
                refine quiet_moveV rfl _ rfl (.int .i64 (a : Int)) rfl ?_
                simp only [Act.put, List.setIfInBounds_toArray, List.set_cons_zero, List.set_cons_succ]
                refine quiet_still rfl (.pointer (some ⟨b1, off1 + a * 3, none⟩)) (fun w _ => by go_simp) ?_
                simp only [Act.put, List.setIfInBounds_toArray, List.set_cons_zero, List.set_cons_succ]
                refine quiet_load_mid rfl _ _ rfl b1 (off1 + a * 3) rfl [.int .i64 y1.kd, .int .i64 y1.pl, .string y1.wd] _ (fun W h => range_below3 RGy1.out hb1x h) Try.underlying51 rfl (by kernel_rfl) ?_
                simp only [Act.put, List.setIfInBounds_toArray, List.set_cons_zero, List.set_cons_succ]
                refine quiet_still rfl (.pointer (some ⟨w.heap.size, 1, none⟩)) (fun w _ => by go_simp) ?_
                simp only [Act.put, List.setIfInBounds_toArray, List.set_cons_zero, List.set_cons_succ]
                refine quiet_load1 rfl _ _ rfl ⟨w.heap.size, 1, none⟩ rfl (.slice (some ⟨b1, off1, none⟩) s.ws.length uc) (load_ws _ _) (fun _ h => (h.cell (p := ⟨w.heap.size, 1, none⟩) hzx).trans g1) ?_
                simp only [Act.put, List.setIfInBounds_toArray, List.set_cons_zero, List.set_cons_succ]
                refine quiet_moveV rfl _ rfl (.int .i64 (i : Int)) rfl ?_
                simp only [Act.put, List.setIfInBounds_toArray, List.set_cons_zero, List.set_cons_succ]
                refine quiet_still rfl (.pointer (some ⟨b1, off1 + i * 3, none⟩)) (fun w _ => by go_simp) ?_
                simp only [Act.put, List.setIfInBounds_toArray, List.set_cons_zero, List.set_cons_succ]
                refine quiet_load_mid rfl _ _ rfl b1 (off1 + i * 3) rfl [.int .i64 y2.kd, .int .i64 y2.pl, .string y2.wd] _ (fun W h => range_below3 RGy2.out hb1x h) Try.underlying51 rfl (by kernel_rfl) ?_
                simp only [Act.put, List.setIfInBounds_toArray, List.set_cons_zero, List.set_cons_succ]
                refine quiet_call rfl 38 _ _ rfl (enter_of Try.func38 (by decide) (by intro h; cases h)) _ (fun W h => (CT.out W).mono fun e w' ⟨he, hw⟩ => ⟨he, h.trans (hw.mono h.size)⟩) ?_
                simp only [Act.put, List.setIfInBounds_toArray, List.set_cons_zero, List.set_cons_succ]
                refine quiet_moveV rfl _ rfl (.bool true) rfl ?_
                simp only [Act.put, List.setIfInBounds_toArray, List.set_cons_zero, List.set_cons_succ]
                refine quietW_moveV (by kernel_rfl) _ rfl (.slice (some ⟨w.heap.size + 1, 0, none⟩) os.length os.length) rfl ?_
                simp only [Act.put, List.setIfInBounds_toArray, List.set_cons_zero, List.set_cons_succ]
                refine quietW_moveV (by kernel_rfl) _ rfl (.int .i64 (a : Int)) rfl ?_
                simp only [Act.put, List.setIfInBounds_toArray, List.set_cons_zero, List.set_cons_succ]
                refine quietW_still (by kernel_rfl) (.pointer (some ⟨w.heap.size + 1, a, none⟩)) (fun w _ => by go_simp) ?_
                simp only [Act.put, List.setIfInBounds_toArray, List.set_cons_zero, List.set_cons_succ]
                refine quietW_load1 (by kernel_rfl) _ _ rfl ⟨w.heap.size + 1, a, none⟩ rfl (.bool false) (load_boolA _ _) (fun _ h => (h.cell (p := ⟨w.heap.size + 1, a, none⟩) hgb).trans gb) ?_
                simp only [Act.put, List.setIfInBounds_toArray, List.set_cons_zero, List.set_cons_succ]
                refine quietW_still (by kernel_rfl) (.bool true) (fun w _ => by go_simp) ?_
                simp only [Act.put, List.setIfInBounds_toArray, List.set_cons_zero, List.set_cons_succ]
                unfold wpQuiet
                intro wq hb
                clear g1 gb
                have HBQ := Lib.hid (HB2.out.trans (hb.mono HB2.out.size))
                clear hb
                go_wp2_with fail
                go_ret
                exact ⟨rfl, HBQ.out⟩
            · have ht' : touchP y1 y2 = false := by simpa using ht
              rw [ht'] at CT htc
              have HNN := Lib.hid (show ∀ j, j < a + 1 → (!tchN s.ws j i || doneS (os.take k) j) = true from fun j hj => by
                by_cases e : j = a
                · rw [e, htc]; rfl
                · exact HNO.out j (by omega))
              clear ht ht' htc
              go_wp2_with fail
              refine wp_region_class (fun w' => Below wx.heap.size wx w') 17 (by kernel_rfl) (by kernel_rfl) (Below.refl _ wx).drew ?_
              simp only [List.take_succ_cons, List.take_zero, List.drop_succ_cons, List.drop_zero]
              refine quiet_still rfl (.pointer (some ⟨w.heap.size, 1, none⟩)) (fun w _ => by go_simp) ?_
              simp only [Act.put, List.setIfInBounds_toArray, List.set_cons_zero, List.set_cons_succ]
              refine quiet_load1 rfl _ _ rfl ⟨w.heap.size, 1, none⟩ rfl (.slice (some ⟨b1, off1, none⟩) s.ws.length uc) (load_ws _ _) (fun _ h => (h.cell (p := ⟨w.heap.size, 1, none⟩) hzx).trans g1) ?_
              simp only [Act.put, List.setIfInBounds_toArray, List.set_cons_zero, List.set_cons_succ]
              refine quiet_moveV rfl _ rfl (.int .i64 (a : Int)) rfl ?_
              simp only [Act.put, List.setIfInBounds_toArray, List.set_cons_zero, List.set_cons_succ]
              refine quiet_still rfl (.pointer (some ⟨b1, off1 + a * 3, none⟩)) (fun w _ => by go_simp) ?_
              simp only [Act.put, List.setIfInBounds_toArray, List.set_cons_zero, List.set_cons_succ]
              refine quiet_load_mid rfl _ _ rfl b1 (off1 + a * 3) rfl [.int .i64 y1.kd, .int .i64 y1.pl, .string y1.wd] _ (fun W h => range_below3 RGy1.out hb1x h) Try.underlying51 rfl (by kernel_rfl) ?_
              simp only [Act.put, List.setIfInBounds_toArray, List.set_cons_zero, List.set_cons_succ]
              refine quiet_still rfl (.pointer (some ⟨w.heap.size, 1, none⟩)) (fun w _ => by go_simp) ?_
              simp only [Act.put, List.setIfInBounds_toArray, List.set_cons_zero, List.set_cons_succ]
              refine quiet_load1 rfl _ _ rfl ⟨w.heap.size, 1, none⟩ rfl (.slice (some ⟨b1, off1, none⟩) s.ws.length uc) (load_ws _ _) (fun _ h => (h.cell (p := ⟨w.heap.size, 1, none⟩) hzx).trans g1) ?_
              simp only [Act.put, List.setIfInBounds_toArray, List.set_cons_zero, List.set_cons_succ]
              refine quiet_moveV rfl _ rfl (.int .i64 (i : Int)) rfl ?_
              simp only [Act.put, List.setIfInBounds_toArray, List.set_cons_zero, List.set_cons_succ]
              refine quiet_still rfl (.pointer (some ⟨b1, off1 + i * 3, none⟩)) (fun w _ => by go_simp) ?_
              simp only [Act.put, List.setIfInBounds_toArray, List.set_cons_zero, List.set_cons_succ]
              refine quiet_load_mid rfl _ _ rfl b1 (off1 + i * 3) rfl [.int .i64 y2.kd, .int .i64 y2.pl, .string y2.wd] _ (fun W h => range_below3 RGy2.out hb1x h) Try.underlying51 rfl (by kernel_rfl) ?_
              simp only [Act.put, List.setIfInBounds_toArray, List.set_cons_zero, List.set_cons_succ]
              refine quiet_call rfl 38 _ _ rfl (enter_of Try.func38 (by decide) (by intro h; cases h)) _ (fun W h => (CT.out W).mono fun e w' ⟨he, hw⟩ => ⟨he, h.trans (hw.mono h.size)⟩) ?_
              simp only [Act.put, List.setIfInBounds_toArray, List.set_cons_zero, List.set_cons_succ]
              refine quiet_moveV rfl _ rfl (.bool false) rfl ?_
              simp only [Act.put, List.setIfInBounds_toArray, List.set_cons_zero, List.set_cons_succ]
              refine quiet_skip (by kernel_rfl) ?_
              simp only [Act.put, List.setIfInBounds_toArray, List.set_cons_zero, List.set_cons_succ]
              refine quiet_skip (by kernel_rfl) ?_
              simp only [Act.put, List.setIfInBounds_toArray, List.set_cons_zero, List.set_cons_succ]
              refine quiet_skip (by kernel_rfl) ?_
              simp only [Act.put, List.setIfInBounds_toArray, List.set_cons_zero, List.set_cons_succ]
              refine quiet_skip (by kernel_rfl) ?_
              simp only [Act.put, List.setIfInBounds_toArray, List.set_cons_zero, List.set_cons_succ]
              refine quiet_skip (by kernel_rfl) ?_
              simp only [Act.put, List.setIfInBounds_toArray, List.set_cons_zero, List.set_cons_succ]
              unfold wpQuiet
              intro wq hb
              clear g1 gb
              have HBQ := Lib.hid (HBX.out.trans (hb.mono HBX.out.size))
              clear hb
              go_wp2_with fail
              go_roundw
              case rel => exact ⟨a + 1, hai, by go_num, HNN.out, HBQ.out⟩
              case measure => (simp [intOf] <;> omega)
          · have a0 : ¬ (a : Int) < (i : Int) := by omega
            have HGK := Lib.hid (show goodAt s.ws os k = true by
              rw [HGC.out, List.all_eq_true]
              intro j hj
              exact HNO.out j (by have := List.mem_range.1 hj; omega))
            have HGN := Lib.hid (show ∀ j, j < k + 1 → goodAt s.ws os j = true from fun j hj => by
              by_cases e : j = k
              · rw [e]; exact HGK.out
              · exact HG.out j (by omega))
            have hs := HO2.out.set i
            rw [doneS_snoc os k i HKZ.out] at hs
            have HS := Lib.hid hs
            have hL := HL.out
            have hgw : w.heap.size < w.heap.size + 1 := HZ1.out
            have HB3 := Lib.hid (HB2.out.setCell (p := ⟨w.heap.size + 1, i, none⟩) (Nat.le_of_lt hgw) (.bool true))
            have HX3 := Lib.hid ((show (wx.setCell ⟨w.heap.size + 1, i, none⟩ (.bool true)).heap[w.heap.size]? = wx.heap[w.heap.size]? from heap_setCell_other _ _ _ _ (by simp only []; omega)).trans HX2.out)
            have ci := HO2.out.cell HIL.out
            have fi := HO2.out.frozen i
            clear hs hx2 hL
            go_wp2_with fail
            go_roundw
            case rel => exact ⟨k + 1, hkl, by go_num, HGN.out, HS.out, HX3.out, HB3.out⟩
            case measure => (simp [intOf] <;> omega)
      · have j1 : ¬ (k : Int) < (os.length : Int) := by omega
        have e : ob = true := by
          rw [HOB.out, decide_eq_true HL.out, Bool.true_and, List.all_eq_true]
          intro j hj
          exact HG.out j (by have := List.mem_range.1 hj; omega)
        subst e
        go_wp2_with fail
        go_ret
        exact ⟨rfl, HB.out⟩
  · have hln : ((os.length : Int) != (s.ws.length : Int)) = true := by rw [bne_iff_ne]; omega
    have e : ob = false := by rw [HOB.out, decide_eq_false hl]; rfl
    subst e
    clear hl
    go_wp2_with fail
    go_ret
    exact ⟨rfl, b0⟩
end
section
open Go.RowKit Go.Shelf
theorem heap_set1 {W : World} {b : Nat} {u0 u1 v : Value} {T : TypeId} (h : W.heap[b]? = some (.cells #[u0, u1] T (0, 0))) : (W.setCell ⟨b, 1, none⟩ v).heap[b]? = some (.cells #[u0, v] T (0, 0)) := setCell_cells W b 1 [u0, u1] T v h
theorem step_wk {ops : Array Oper} {o : Oper} {a : Act} {K : Act → World → Prop} {Q : Exit → Act → World → Prop} {E : Prop} {w w0 : World} (B : Nat) (v : Value) (W : List Wk) (x : Wk)
    (hgd : o.guard = none) (s y : Operand) (ho : o.op = .call { callee := .builtin .append, args := #[s, y], argTypes := #[22, 22] }) (hs : a.eval s = v)
    (hown : WO B w v W) (hy : a.eval y = .slice (some ⟨w.heap.size, 0, none⟩) 1 1) (hl : W.length < 100000) (hb : Below B w0 w) (hB : B ≤ w.heap.size)
    (h : ∀ v' w', Hid (WO B w' v' (W ++ [x])) → Hid (Below B w0 w') → K (a.put o.dst v') w') :
    if Region.wanted o (yielded ops a.tmps) = true then Oper.wp Try.prog o a (w.alloc (.cells #[.int .i64 x.kd, .int .i64 x.pl, .string x.wd] 51)) K Q else E := by
  have hw : Region.wanted o (yielded ops a.tmps) = true := by simp [Region.wanted, hgd]
  rw [if_pos hw]
  obtain ⟨i0, hi, hz0, hz1, hz2⟩ := info_parts infoWk3
  refine wp_append_own _ s y 22 ho B 51 i0 (.agg #[.int .i64 0, .int .i64 0, .string ⟨#[]⟩]) 3 32 Try.underlying22 hi hz0 hz1 hz2 rfl (by decide) v _ _ hs (hown.alloc _) ⟨w.heap.size, 0, none⟩ 1 1 (wl x) hy rfl ?_ ?_ (by unfold maxLen; omega) (by omega) (by simp; omega) ?_
  · intro j u hu
    have hj := (List.getElem?_eq_some_iff.1 hu).1
    rw [wl_len] at hj
    rw [Addr.add_mid, Nat.zero_add, World.cell?_alloc_new, ← Array.getElem?_toList]
    exact hu
  · intro u hu
    exact wfl_one [x] u (by simpa [wfl] using hu)
  · intro v' w' hown' hgrow _
    refine h v' w' ?_ (Below.grown (hb.alloc hB _) hgrow (by simp; omega) fun k e => (hown.lt k e).1)
    show WO B w' v' (W ++ [x])
    unfold WO
    rw [wfl_app, List.length_append, List.length_singleton]
    simpa [wfl] using hown'
set_option maxRecDepth 100000 in
set_option maxHeartbeats 16000000 in
theorem refReorder_any (s : Sh) (v : Value) (os : List Int) (dv : Value) (w : World) (hv : SV w v s) (hd : IS w dv os) (hol : os.length ≤ 50000) :
    Calls Try.prog 36 #[v, dv] w fun e w' => ∃ u, e = .returned (.tuple #[u, .int .i64 (reoE s os)]) ∧ SV w' u (reoS s os) ∧ Below w.heap.size w w' := by
  have HV := Lib.hid hv
  have HD := Lib.hid hd
  obtain ⟨u, rfl, hu⟩ := hv
  obtain ⟨sa, sc, rfl, q1, q2, _, hI⟩ := hd
  obtain ⟨ua, uc, rfl, k1, k2, hU⟩ := id hu
  have HI := Lib.hid hI
  have HU := Lib.hid hU
  have CK := Lib.hid (fun W h => refCheck4_any s (.agg #[.int .i64 s.pr, .slice ua s.ws.length uc]) W h)
  have CO := Lib.hid (fun W h1 h2 h3 => refOrder_any s (.agg #[.int .i64 s.pr, .slice ua s.ws.length uc]) os (.slice sa os.length sc) W h1 h2 h3 hol)
  have HRE := Lib.hid (show reoE s os = if chkS s ≠ 0 then chkS s else if refOrdB s.ws os = true then 0 else 4 by unfold reoE; rw [ord_eq])
  have HRS := Lib.hid (show reoS s os = if reoE s os = 0 then ⟨s.pr, reoL s.ws os⟩ else ⟨0, []⟩ from rfl)
  have HSM0 := Lib.hid (@chk_small s)
  have HWD0 := Lib.hid (@chk_words s)
  have HOI0 := Lib.hid (show refOrdB s.ws os = true → _ from fun h => @ordB_in s.pr.toNat s.ws os ((ord_eq _ _ _).trans h))
  generalize reoS s os = rs at *
  generalize reoE s os = re at *
  generalize refOrdB s.ws os = ob at *
  generalize chkS s = z at *
  clear hI hU hu
  go_enter Try.func36, Try.ntmps36
  go_wp2_with fail
  have e0 := heap_alloc2_old w (.cells #[.int .i64 s.pr, .slice ua s.ws.length uc] 24) (.cells #[.int .i64 0, .slice none 0 0] 24)
  have e1 := heap_alloc2_new w (.cells #[.int .i64 s.pr, .slice ua s.ws.length uc] 24) (.cells #[.int .i64 0, .slice none 0 0] 24)
  have eb := (below_alloc w (.cells #[.int .i64 s.pr, .slice ua s.ws.length uc] 24)).alloc (show w.heap.size ≤ (w.alloc (.cells #[.int .i64 s.pr, .slice ua s.ws.length uc] 24)).heap.size by simp) (.cells #[.int .i64 0, .slice none 0 0] 24)
  have ez : ((w.alloc (.cells #[.int .i64 s.pr, .slice ua s.ws.length uc] 24)).alloc (.cells #[.int .i64 0, .slice none 0 0] 24)).heap.size = w.heap.size + 2 := by simp
  generalize (w.alloc (.cells #[.int .i64 s.pr, .slice ua s.ws.length uc] 24)).alloc (.cells #[.int .i64 0, .slice none 0 0] 24) = w0 at *
  refine (CK.out w0 (HV.out.below eb)).mono ?_
  rintro e w1 ⟨rfl, b1⟩
  have H0 := Lib.hid ((b1.block _ (by omega)).trans e0)
  have H1 := Lib.hid ((b1.block _ (by omega)).trans e1)
  have HB1 := Lib.hid (bon eb b1)
  have HZ1 := Lib.hid (show w.heap.size + 2 ≤ w1.heap.size by have := b1.size; omega)
  clear e0 e1 eb ez b1 CK
  have g0 : w1.cell? ⟨w.heap.size, 0, none⟩ = some (.int .i64 s.pr) := cell_of_row w1 _ 0 _ _ _ H0.out
  have g1 : w1.cell? ⟨w.heap.size, 1, none⟩ = some (.slice ua s.ws.length uc) := cell_of_row w1 _ 1 _ _ _ H0.out
  by_cases q : z = 0
  · subst q
    obtain ⟨s1, s2, hsm⟩ := HSM0.out rfl
    have HSM := Lib.hid hsm
    have HWD := Lib.hid (HWD0.out rfl)
    clear hsm HSM0 HWD0
    go_wp2_with fail
    refine (CO.out w1 (HV.out.below HB1.out) (HD.out.below HB1.out) (by first | rfl | trivial)).mono ?_
    rintro e w2 ⟨rfl, b2⟩
    have H0' := Lib.hid ((b2.block _ (by have := HZ1.out; omega)).trans H0.out)
    have H1' := Lib.hid ((b2.block _ (by have := HZ1.out; omega)).trans H1.out)
    have HB2 := Lib.hid (bon HB1.out b2)
    have HZ2 := Lib.hid (show w.heap.size + 2 ≤ w2.heap.size by have := b2.size; have := HZ1.out; omega)
    clear b2 g0 g1 CO H0 H1 HB1 HZ1
    have g0 : w2.cell? ⟨w.heap.size, 0, none⟩ = some (.int .i64 s.pr) := cell_of_row w2 _ 0 _ _ _ H0'.out
    have g1 : w2.cell? ⟨w.heap.size, 1, none⟩ = some (.slice ua s.ws.length uc) := cell_of_row w2 _ 1 _ _ _ H0'.out
    cases ob
    · have e : re = 4 := by rw [HRE.out, if_neg (by simp), if_neg (by decide)]
      have es : rs = ⟨0, []⟩ := by rw [HRS.out, e, if_neg (by decide)]
      subst e
      subst es
      go_wp2_with (refine store_rowP rfl 24 (.tmp 4) (.tmp 19) rfl (w.heap.size + 1) #[.int .i64 0, .slice none 0 0] rfl rfl 24 _ H1'.out (by kernel_rfl) rfl (by kernel_rfl) ?_; intro wf hf hk2 hzf hBf)
      exact bodyPost_ret (results_row_tmp rfl _ _ (w.heap.size + 1) 24 _ (0, 0) _ _ rfl rfl hf Try.underlying24 rfl (by kernel_rfl)) rfl ⟨_, rfl, ⟨_, rfl, ws_nil _⟩, hBf _ _ HB2.out (by omega)⟩
    · have e : re = 0 := by rw [HRE.out, if_neg (by simp), if_pos rfl]
      have es : rs = ⟨s.pr, reoL s.ws os⟩ := by rw [HRS.out, e, if_pos rfl]
      obtain ⟨hol2, hin⟩ := HOI0.out rfl
      have HIN := Lib.hid hin
      have hw4 : s.ws.length ≤ 400 := HSM.out.1
      subst e
      subst es
      have HOL := Lib.hid hol2
      have ho4 : os.length ≤ 400 := by omega
      clear hin hol2
      go_upto_region 7 with fail
      obtain ⟨b, hbe⟩ : ∃ b, b = w2.heap.size := ⟨_, rfl⟩
      rw [← hbe]
      have hX : (w2.alloc (.cells #[.int .i64 s.pr, .slice none 0 0] 24)).heap[b]? = some (.cells #[.int .i64 s.pr, .slice none 0 0] 24 (0, 0)) := hb_new hbe
      have hBB : Below b w2 (w2.alloc (.cells #[.int .i64 s.pr, .slice none 0 0] 24)) := by rw [hbe]; exact below_alloc _ _
      have hSS : b < (w2.alloc (.cells #[.int .i64 s.pr, .slice none 0 0] 24)).heap.size := by rw [hbe]; simp
      have hrb : w.heap.size + 2 ≤ b := by rw [hbe]; exact HZ2.out
      generalize w2.alloc (.cells #[.int .i64 s.pr, .slice none 0 0] 24) = wa at *
      have HXA := Lib.hid hX
      have HBA := Lib.hid hBB
      have HRB := Lib.hid hrb
      clear hbe hX hBB g0 g1
      go_wp2_with fail
      go_loopw [8] (fun i wr => ∃ (k : Nat) (v : Value), k ≤ os.length ∧ i = .int .i64 (k : Int) ∧ WO (b + 1) wr v (reoL s.ws (os.take k)) ∧ wr.heap[b]? = some (.cells #[.int .i64 s.pr, v] 24 (0, 0)) ∧ Below b w2 wr ∧ b < wr.heap.size) (fun i _ => os.length - (intOf i).toNat)
      case atStart => exact ⟨0, _, Nat.zero_le _, rfl, World.ownsRow_nil _ _ _ _, HXA.out, HBA.out, hSS⟩
      case round =>
        obtain ⟨k, v, hk, rfl, hown, hbox, hbw, hsz⟩ := hrel
        rename World => wr
        have HO := Lib.hid hown
        have HX := Lib.hid hbox
        have HB := Lib.hid hbw
        have hlen : (reoL s.ws (os.take k)).length = k := by unfold reoL; rw [List.length_map, List.length_take]; omega
        have HLE := Lib.hid hlen
        have H0W := Lib.hid (hb_below HB.out H0'.out (by omega))
        have HBW := Lib.hid (HB2.out.trans (HB.out.mono (by omega)))
        clear hown hbox hbw hlen
        by_cases hkl : k < os.length
        · obtain ⟨z, hz⟩ : ∃ z, os[k]? = some z := ⟨_, List.getElem?_eq_getElem hkl⟩
          have hzr := HIN.out z (List.mem_of_getElem? hz)
          obtain ⟨i, rfl⟩ : ∃ i : Nat, z = (i : Int) := ⟨z.toNat, by omega⟩
          obtain ⟨bo, off, rfl, hbl, hcz⟩ := HI.out k _ hz
          have cz : wr.cell? ⟨bo, off + k, none⟩ = some (.int .i64 (i : Int)) := (HBW.out.cell (p := ⟨bo, off + k, none⟩) hbl).trans hcz
          have j0 : (0 : Int) ≤ (k : Int) := by omega
          have j1 : (k : Int) < (os.length : Int) := by omega
          have i0 : (0 : Int) ≤ (i : Int) := by omega
          have i1 : (i : Int) < (s.ws.length : Int) := by omega
          have g1 : wr.cell? ⟨w.heap.size, 1, none⟩ = some (.slice ua s.ws.length uc) := cell_of_row wr _ 1 _ _ _ H0W.out
          obtain ⟨x, hx⟩ : ∃ x, s.ws[i]? = some x := ⟨_, List.getElem?_eq_getElem (by omega)⟩
          have HNX := Lib.hid (show reoL s.ws (os.take (k + 1)) = reoL s.ws (os.take k) ++ [x] by unfold reoL wkN; rw [List.take_add_one, hz, List.map_append]; simp [hx])
          obtain ⟨b2, off2, rfl, hb2, hr2, _⟩ := HU.out i x hx
          have HRX := Lib.hid (range_below3 hr2 hb2 HBW.out)
          have r0 : wr.cell? ⟨b2, off2 + i * 3, none⟩ = some (.int .i64 x.kd) := HRX.out 0 _ rfl
          have r1 := HRX.out 1 _ rfl
          have r2 := HRX.out 2 _ rfl
          obtain ⟨a9, c9, hv9⟩ := own_form HO.out
          subst hv9
          have c1 : wr.cell? ⟨b, 1, none⟩ = some (.slice a9 (reoL s.ws (os.take k)).length c9) := cell_of_row wr _ 1 _ _ _ HX.out
          have f1 := frozen_of_heap HX.out 1
          have HBd := Lib.hid HB.out.drew
          have HLT := Lib.hid (show (reoL s.ws (os.take k)).length < 100000 by rw [HLE.out]; omega)
          clear hcz hz hx hr2 hzr
          go_wp2_with fail
          go_region_law (first
            | (refine step_wk (o := ⟨some 40, _, _, _, _, _⟩) (w := wr.drew) (w0 := wr.drew) (b + 1) _ (reoL s.ws (os.take k)) x rfl (.tmp 30) (.tmp 39) rfl (by rfl) HO.out (by rfl) HLT.out (Below.refl _ _) (by simp; omega) ?_; intro v6 w6 O6 B6; obtain ⟨a6, q6, e6⟩ := own_form O6.out; subst e6; rw [List.length_append, List.length_singleton] at O6; have HX6 := Lib.hid (hb_below B6.out HX.out (by omega)); have hz6 := B6.out.size; have hlt6 : b < w6.heap.size := (by simp at hz6; omega); have HB6 := Lib.hid (HBd.out.trans (B6.out.mono (Nat.le_succ b))); have c6 : w6.cell? ⟨b, 1, none⟩ = _ := (cell_of_row w6 _ 1 _ _ _ HX6.out); have f6 := frozen_of_heap HX6.out 1))
          all_goals
            have HX7 := Lib.hid (show (w6.setCell ⟨b, 1, none⟩ (.slice a6 ((reoL s.ws (os.take k)).length + 1) q6)).heap[b]? = _ from heap_set1 HX6.out)
            have HO7 := Lib.hid (show WO (b + 1) (w6.setCell ⟨b, 1, none⟩ (.slice a6 ((reoL s.ws (os.take k)).length + 1) q6)) _ _ from own_keep O6.out (fun j hj => heap_setCell_other _ _ _ _ (by simp only []; omega)))
            have HB7 := Lib.hid (HB6.out.setCell (p := ⟨b, 1, none⟩) (Nat.le_refl _) (.slice a6 ((reoL s.ws (os.take k)).length + 1) q6))
            have hz7 : b < (w6.setCell ⟨b, 1, none⟩ (.slice a6 ((reoL s.ws (os.take k)).length + 1) q6)).heap.size := by simp; omega
            clear HX HO HB HBd c1 f1 HX6 O6 HB6 B6 c6 f6
            go_wp2_with fail
            go_roundw
            case rel => exact ⟨k + 1, _, hkl, by go_num, by rw [HNX.out]; first | exact HO7.out | (rw [List.length_append, List.length_singleton]; exact HO7.out), HX7.out, HB7.out, hz7⟩
            case measure => (simp [intOf] <;> omega)
        · have k1 : ¬ (k : Int) < (os.length : Int) := by omega
          have e : k = os.length := by omega
          subst e
          rw [List.take_length] at HO
          obtain ⟨a9, c9, hv9⟩ := own_form HO.out
          subst hv9
          have HSZ := Lib.hid (show ∀ y ∈ reoL s.ws os, y.wd.size ≤ maxLen from fun y hy => by
            obtain ⟨z, hz, rfl⟩ := List.mem_map.1 hy
            have hzr := HIN.out z hz
            have : wkN s.ws z.toNat ∈ s.ws := by unfold wkN; rw [List.getElem?_eq_getElem (by omega)]; exact List.getElem_mem _
            have := HWD.out _ this
            unfold maxLen
            omega)
          have c0 : wr.cell? ⟨b, 0, none⟩ = some (.int .i64 s.pr) := cell_of_row wr _ 0 _ _ _ HX.out
          have c1 : wr.cell? ⟨b, 1, none⟩ = some (.slice a9 (reoL s.ws os).length c9) := cell_of_row wr _ 1 _ _ _ HX.out
          have H1W := Lib.hid (hb_below HB.out H1'.out (by omega))
          go_wp2_with (refine store_rowP rfl 24 (.tmp 4) (.tmp 42) rfl (w.heap.size + 1) #[.int .i64 s.pr, .slice a9 (reoL s.ws os).length c9] rfl rfl 24 _ H1W.out (by kernel_rfl) rfl (by kernel_rfl) ?_; intro wf hf hk2 hzf hBf)
          have HWF := Lib.hid (show WO (b + 1) wf _ (reoL s.ws os) from own_keep HO.out (fun j hj => hk2 j (by omega)))
          exact bodyPost_ret (results_row_tmp rfl _ _ (w.heap.size + 1) 24 _ (0, 0) _ _ rfl rfl hf Try.underlying24 rfl (by kernel_rfl)) rfl ⟨_, rfl, ⟨_, rfl, ws_own HWF.out HSZ.out⟩, hBf _ _ HBW.out (by omega)⟩
  · have e : re = z := by rw [HRE.out, if_pos q]
    have es : rs = ⟨0, []⟩ := by rw [HRS.out, e, if_neg q]
    subst e
    subst es
    go_wp2_with (refine store_rowP rfl 24 (.tmp 4) (.tmp 13) rfl (w.heap.size + 1) #[.int .i64 0, .slice none 0 0] rfl rfl 24 _ H1.out (by kernel_rfl) rfl (by kernel_rfl) ?_; intro wf hf hk2 hzf hBf)
    exact bodyPost_ret (results_row_tmp rfl _ _ (w.heap.size + 1) 24 _ (0, 0) _ _ rfl rfl hf Try.underlying24 rfl (by kernel_rfl)) rfl ⟨_, rfl, ⟨_, rfl, ws_nil _⟩, hBf _ _ HB1.out (by omega)⟩
end
section
open Go.RowKit Go.Shelf
set_option maxRecDepth 100000 in
set_option maxHeartbeats 8000000 in
theorem same4_yes (s : Sh) (u v : Value) (w : World) (hu : SV w u s) (hv : SV w v s) (hl : s.ws.length ≤ 1000) : Calls Try.prog 37 #[u, v] w fun e w' => e = .returned (.bool true) ∧ Below w.heap.size w w' := by
  obtain ⟨u, rfl, hu⟩ := hu
  obtain ⟨v, rfl, hv⟩ := hv
  have HU := Lib.hid hu
  have HV := Lib.hid hv
  obtain ⟨a1, c1, rfl, _⟩ := hu
  obtain ⟨a2, c2, rfl, _⟩ := hv
  go_enter Try.func37, Try.ntmps37
  go_wp2_with fail
  have h0 := heap_alloc2_old w (.cells #[.int .i64 s.pr, .slice a1 s.ws.length c1] 24) (.cells #[.int .i64 s.pr, .slice a2 s.ws.length c2] 24)
  have h1 := heap_alloc2_new w (.cells #[.int .i64 s.pr, .slice a1 s.ws.length c1] 24) (.cells #[.int .i64 s.pr, .slice a2 s.ws.length c2] 24)
  have hD := (below_alloc w (.cells #[.int .i64 s.pr, .slice a1 s.ws.length c1] 24)).alloc (show w.heap.size ≤ (w.alloc (.cells #[.int .i64 s.pr, .slice a1 s.ws.length c1] 24)).heap.size by simp) (.cells #[.int .i64 s.pr, .slice a2 s.ws.length c2] 24)
  have hS : ((w.alloc (.cells #[.int .i64 s.pr, .slice a1 s.ws.length c1] 24)).alloc (.cells #[.int .i64 s.pr, .slice a2 s.ws.length c2] 24)).heap.size = w.heap.size + 2 := by simp
  have HU2 := Lib.hid (HU.out.below hD)
  have HV2 := Lib.hid (HV.out.below hD)
  generalize (w.alloc (.cells #[.int .i64 s.pr, .slice a1 s.ws.length c1] 24)).alloc (.cells #[.int .i64 s.pr, .slice a2 s.ws.length c2] 24) = wa at *
  have HS := Lib.hid hS
  have H0 := Lib.hid h0
  have H1 := Lib.hid h1
  have DD := Lib.hid hD
  clear h0 h1 hD hS HU HV
  go_loopw [5] (fun i wr => ∃ k : Nat, k ≤ s.ws.length ∧ i = .int .i64 (k : Int) ∧ Below wa.heap.size wa wr) (fun i _ => s.ws.length - (intOf i).toNat)
  case atStart => exact ⟨0, Nat.zero_le _, rfl, Below.refl _ _⟩
  case round =>
    obtain ⟨k, hk, rfl, hbw⟩ := hrel
    rename World => wk
    have HB := Lib.hid hbw
    have hzz := hbw.size
    have HZ := Lib.hid hzz
    have hz2 : w.heap.size + 2 ≤ wk.heap.size := by have := HS.out; omega
    have HX0 := Lib.hid (hb_below HB.out H0.out (by have := HS.out; omega))
    have HX1 := Lib.hid (hb_below HB.out H1.out (by have := HS.out; omega))
    clear hbw
    have g0 : wk.cell? ⟨w.heap.size, 1, none⟩ = some (.slice a1 s.ws.length c1) := cell_of_row wk _ 1 _ _ _ HX0.out
    have g1 : wk.cell? ⟨w.heap.size + 1, 1, none⟩ = some (.slice a2 s.ws.length c2) := cell_of_row wk _ 1 _ _ _ HX1.out
    have l0 : w.heap.size < wk.heap.size := by omega
    have l1 : w.heap.size + 1 < wk.heap.size := by omega
    by_cases hkl : k < s.ws.length
    · have k0 : (0 : Int) ≤ (k : Int) := by omega
      have k1 : (k : Int) < (s.ws.length : Int) := by omega
      obtain ⟨x, hx⟩ : ∃ x, s.ws[k]? = some x := ⟨_, List.getElem?_eq_getElem hkl⟩
      obtain ⟨b1, o1, rfl, hb1, hr1⟩ := ws_get (HU2.out.below HB.out) hx
      obtain ⟨b2, o2, rfl, hb2, hr2⟩ := ws_get (HV2.out.below HB.out) hx
      have HR1 := Lib.hid hr1
      have HR2 := Lib.hid hr2
      clear hr1 hr2 hx
      go_wp2_with fail
      refine wp_region_class (fun w' => Below wk.heap.size wk w') 10 (by kernel_rfl) (by kernel_rfl) (Below.refl _ wk).drew ?_
      simp only [List.take_succ_cons, List.take_zero, List.drop_succ_cons, List.drop_zero]
      refine quiet_still rfl (.pointer (some ⟨w.heap.size, 1, none⟩)) (fun w _ => by go_simp) ?_
      simp only [Act.put, List.setIfInBounds_toArray, List.set_cons_zero, List.set_cons_succ]
      refine quiet_load1 rfl _ _ rfl ⟨w.heap.size, 1, none⟩ rfl (.slice (some ⟨b1, o1, none⟩) s.ws.length c1) (load_ws _ _) (fun _ h => (h.cell (p := ⟨w.heap.size, 1, none⟩) l0).trans g0) ?_
      simp only [Act.put, List.setIfInBounds_toArray, List.set_cons_zero, List.set_cons_succ]
      refine quiet_moveV rfl _ rfl (.int .i64 (k : Int)) rfl ?_
      simp only [Act.put, List.setIfInBounds_toArray, List.set_cons_zero, List.set_cons_succ]
      refine quiet_still rfl (.pointer (some ⟨b1, o1 + k * 3, none⟩)) (fun w _ => by go_simp) ?_
      simp only [Act.put, List.setIfInBounds_toArray, List.set_cons_zero, List.set_cons_succ]
      refine quiet_load_mid rfl _ _ rfl b1 (o1 + k * 3) rfl [.int .i64 x.kd, .int .i64 x.pl, .string x.wd] _ (fun W h => range_below3 HR1.out hb1 h) Try.underlying51 rfl (by kernel_rfl) ?_
      simp only [Act.put, List.setIfInBounds_toArray, List.set_cons_zero, List.set_cons_succ]
      refine quiet_still rfl (.pointer (some ⟨w.heap.size + 1, 1, none⟩)) (fun w _ => by go_simp) ?_
      simp only [Act.put, List.setIfInBounds_toArray, List.set_cons_zero, List.set_cons_succ]
      refine quiet_load1 rfl _ _ rfl ⟨w.heap.size + 1, 1, none⟩ rfl (.slice (some ⟨b2, o2, none⟩) s.ws.length c2) (load_ws _ _) (fun _ h => (h.cell (p := ⟨w.heap.size + 1, 1, none⟩) l1).trans g1) ?_
      simp only [Act.put, List.setIfInBounds_toArray, List.set_cons_zero, List.set_cons_succ]
      refine quiet_moveV rfl _ rfl (.int .i64 (k : Int)) rfl ?_
      simp only [Act.put, List.setIfInBounds_toArray, List.set_cons_zero, List.set_cons_succ]
      refine quiet_still rfl (.pointer (some ⟨b2, o2 + k * 3, none⟩)) (fun w _ => by go_simp) ?_
      simp only [Act.put, List.setIfInBounds_toArray, List.set_cons_zero, List.set_cons_succ]
      refine quiet_load_mid rfl _ _ rfl b2 (o2 + k * 3) rfl [.int .i64 x.kd, .int .i64 x.pl, .string x.wd] _ (fun W h => range_below3 HR2.out hb2 h) Try.underlying51 rfl (by kernel_rfl) ?_
      simp only [Act.put, List.setIfInBounds_toArray, List.set_cons_zero, List.set_cons_succ]
      unfold wpQuiet
      intro wq hb
      have HBQ := Lib.hid (HB.out.trans (hb.mono HZ.out))
      clear g0 g1 hb
      go_wp2_with fail
      go_roundw
      case rel => exact ⟨k + 1, hkl, by go_num, HBQ.out⟩
      case measure => (simp [intOf] <;> omega)
    · have k1 : ¬ (k : Int) < (s.ws.length : Int) := by omega
      go_wp2_with fail
      go_ret
      exact ⟨rfl, DD.out.trans (HB.out.mono DD.out.size)⟩
theorem reoL_len (W : List Wk) (os : List Int) : (reoL W os).length = os.length := by unfold reoL; rw [List.length_map]
end
end Go.Proofs.Ytcjbjlepgdggpaa
