/- Rows of works; Clone; Reorder. -/
import Derived.Test.YtenfeekchggioaaOG
import Derived.Test.YtenfeekchggioaaShelf
namespace Go.Proofs.Ytenfeekchggioaa
open Go.RowKit Go.Shelf Go.Lib
set_option linter.unusedSimpArgs false
def wl (x : Wk) : List Value := [.int .i64 x.kd, .int .i64 x.pl, .string x.wd]
theorem wl_len (x : Wk) : (wl x).length = 3 := rfl
def wfl (W : List Wk) : List Value := W.flatMap wl
theorem wfl_len (W : List Wk) : (wfl W).length = W.length * 3 := by
  induction W with
  | nil => rfl
  | cons a W ih => show (wl a ++ wfl W).length = _; rw [List.length_append, wl_len, ih, List.length_cons]; omega
theorem wfl_app (A B : List Wk) : wfl (A ++ B) = wfl A ++ wfl B := by simp [wfl]
theorem wfl_get (L : List Wk) : ∀ (k : Nat) (a : Wk), L[k]? = some a → ∀ j, j < 3 → (wfl L)[k * 3 + j]? = (wl a)[j]? := by
  induction L with
  | nil => intro k a h; simp at h
  | cons b L ih =>
    intro k a h j hj
    show (wl b ++ wfl L)[k * 3 + j]? = _
    cases k with
    | zero =>
      simp at h; subst h
      rw [List.getElem?_append_left (by rw [wl_len]; omega)]
      congr 1
      omega
    | succ k =>
      rw [List.getElem?_append_right (by rw [wl_len]; omega), wl_len, ← ih k a (by simpa using h) j hj]
      congr 1
      omega
theorem wfl_of (L : List Wk) (i : Nat) (h : i < L.length * 3) : ∃ a, L[i / 3]? = some a ∧ (wfl L)[i]? = (wl a)[i % 3]? := by
  have hk : i / 3 < L.length := by omega
  refine ⟨L[i / 3], List.getElem?_eq_getElem hk, ?_⟩
  have := wfl_get L (i / 3) _ (List.getElem?_eq_getElem hk) (i % 3) (by omega)
  rwa [show i / 3 * 3 + i % 3 = i by omega] at this
theorem wfl_one (L : List Wk) : ∀ u ∈ wfl L, u.oneCell' = true := by
  intro u hu
  obtain ⟨x, _, hx⟩ := List.mem_flatMap.1 hu
  simp only [wl, List.mem_cons, List.not_mem_nil, or_false] at hx
  rcases hx with rfl | rfl | rfl <;> rfl
theorem infoWk3 : (Try.prog.info? 48).map (fun i => (i.zero, i.size, i.bytes)) = some (some (.agg #[.int .i64 0, .int .i64 0, .string ⟨#[]⟩]), 3, 32) := by kernel_rfl
def WO (B : Nat) (w : World) (v : Value) (W : List Wk) : Prop := w.ownsRow B 48 3 v W.length (wfl W)
theorem WO.below {B : Nat} {w w' : World} {v : Value} {W : List Wk} (h : WO B w v W) (hb : Below w.heap.size w w') : WO B w' v W := own_below h hb
theorem ws_own {B : Nat} {w : World} {v : Value} {W : List Wk} (h : WO B w v W) (hs : ∀ x ∈ W, x.wd.size ≤ maxLen) : WS w v W := by
  obtain ⟨hl, hh⟩ := h
  rcases hh with ⟨rfl, h0⟩ | ⟨g, cap, cur, rfl, _, hg, hle, hmx, hsz, htk⟩
  · have : W = [] := List.eq_nil_of_length_eq_zero h0
    subst this
    exact ⟨none, 0, rfl, Nat.le_refl _, Nat.zero_le _, fun k x hx => by cases hx⟩
  · refine ⟨some ⟨g, 0, none⟩, cap, rfl, hle, hmx, fun k x hx => ?_⟩
    have hgs := (Array.getElem?_eq_some_iff.1 hg).1
    refine ⟨g, 0, rfl, hgs, fun j u hu => ?_, hs x (List.mem_of_getElem? hx)⟩
    have hk := (List.getElem?_eq_some_iff.1 hx).1
    have hj := (List.getElem?_eq_some_iff.1 hu).1
    have hj3 : j < 3 := by simpa using hj
    rw [cell_of_row _ _ _ _ _ _ hg]
    have e := wfl_get W k x hx j hj3
    rw [← htk, List.getElem?_take_of_lt (by omega), show (wl x)[j]? = some u from hu] at e
    rw [show 0 + k * 3 + j = k * 3 + j by omega, ← Array.getElem?_toList]
    exact e
/-- append(v, x), x a work. -/
theorem app_wk {ops : Array Oper} {rest : List Oper} {o : Oper} {a : Act} {Q : Exit → Act → World → Prop} {w w0 : World} (B : Nat) (v : Value) (W : List Wk) (x : Wk)
    (hgd : o.guard = none) (s y : Operand) (ho : o.op = .call { callee := .builtin .append, args := #[s, y], argTypes := #[22, 22] }) (hs : a.eval s = v)
    (hown : WO B w v W) (hy : a.eval y = .slice (some ⟨w.heap.size, 0, none⟩) 1 1) (hl : W.length < 100000) (hb : Below B w0 w) (hB : B ≤ w.heap.size)
    (h : ∀ v' w', WO B w' v' (W ++ [x]) → Below B w0 w' → wpList Try.prog ops Q rest (a.put o.dst v') w') :
    wpList Try.prog ops Q (o :: rest) a (w.alloc (.cells #[.int .i64 x.kd, .int .i64 x.pl, .string x.wd] 48)) := by
  obtain ⟨i0, hi, hz0, hz1, hz2⟩ := info_parts infoWk3
  refine wpList_append_own _ hgd s y 22 ho B 48 i0 (.agg #[.int .i64 0, .int .i64 0, .string ⟨#[]⟩]) 3 32 Try.underlying22 hi hz0 hz1 hz2 rfl (by decide) v _ _ hs (hown.alloc _) ⟨w.heap.size, 0, none⟩ 1 1 (wl x) hy rfl ?_ ?_ (by unfold maxLen; omega) (by omega) (by simp; omega) ?_
  · intro j u hu
    have hj := (List.getElem?_eq_some_iff.1 hu).1
    rw [wl_len] at hj
    rw [Addr.add_mid, Nat.zero_add, World.cell?_alloc_new, ← Array.getElem?_toList]
    exact hu
  · intro u hu
    exact wfl_one [x] u (by simpa [wfl] using hu)
  · intro v' w' hown' hgrow _
    refine h v' w' ?_ (Below.grown (hb.alloc hB _) hgrow (by simp; omega) fun k e => (hown.lt k e).1)
    unfold WO
    rw [wfl_app, List.length_append, List.length_singleton]
    simpa [wfl] using hown'
def mkW (n : Nat) : Array Value := madeCells (Value.agg #[.int .i64 0, .int .i64 0, .string ⟨#[]⟩]).cells (n * 3)
theorem mk_works (n : Nat) (hn : n < 100000) (W : World) : (Instr.makeSlice 22 (.int .i64 0) (.int .i64 (n : Int))).run Try.prog W = .ok (.slice (some ⟨W.heap.size, 0, none⟩) 0 n) (W.alloc (.cells (mkW n) 48)) := by
  obtain ⟨i0, hi, hz0, hz1, hz2⟩ := info_parts infoWk3
  have h := run_make (P := Try.prog) W 22 48 i0 (.agg #[.int .i64 0, .int .i64 0, .string ⟨#[]⟩]) Try.underlying22 hi hz0 .i64 .i64 0 (n : Int) (by omega) (by omega) (by rw [hz2]; omega) (by omega)
  rw [hz1] at h
  simp at h
  exact h
theorem wo_made (n B : Nat) (hn : n < 100000) (W : World) (hB : B ≤ W.heap.size) : WO B (W.alloc (.cells (mkW n) 48)) (.slice (some ⟨W.heap.size, 0, none⟩) 0 n) [] :=
  ⟨rfl, .inr ⟨W.heap.size, n, _, rfl, hB, heap_alloc_new W _, Nat.zero_le _, by unfold maxLen; omega, by unfold mkW; rw [size_madeCells], rfl⟩⟩
theorem Clone_any (s : ByteArray) (w : World) (hs : s.size ≤ 1000) : Calls Try.prog 50 #[.string s] w fun e w' => e = .returned (.string s) ∧ Below w.heap.size w w' := by
  have C := Lib.hid (fun W => Try.stringslite_Clone s W (by omega))
  go_enter Try.func50, Try.ntmps50
  go_wp2_with fail
  refine (C.out _).mono ?_
  rintro e w1 ⟨rfl, hb⟩
  have HB := Lib.hid hb
  clear hb
  go_wp2_with fail
  go_ret
  exact ⟨rfl, HB.out⟩
end Go.Proofs.Ytenfeekchggioaa
