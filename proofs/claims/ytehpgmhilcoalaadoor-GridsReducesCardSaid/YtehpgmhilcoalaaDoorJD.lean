/- Appends of whole rows of matrices. -/
import Derived.Test.YtehpgmhilcoalaaDoorGV
namespace Go.Proofs.YtehpgmhilcoalaaDoor
open Go.RowKit Go.Lib
theorem fl_one (L : List Mat) : ∀ v ∈ fl L, v.oneCell' = true := fun v hv => by
  obtain ⟨m, _, h⟩ := List.mem_flatMap.1 hv
  exact pl_one m v h
/-- What a slice of matrices shows: a row of cells, or nothing. -/
def Shows (w : World) (sa : Option Addr) (X : List Mat) : Prop := (sa = none → X = []) ∧ ∀ a, sa = some a → X ≠ [] → ∃ b o, a = ⟨b, o, none⟩ ∧ b < w.heap.size ∧ w.rangeAt b o (fl X)
theorem Shows.below {w w' : World} {sa : Option Addr} {X : List Mat} (h : Shows w sa X) (hb : Below w.heap.size w w') : Shows w' sa X :=
  ⟨h.1, fun a ha hne => by
    obtain ⟨b, o, e, hs, hr⟩ := h.2 a ha hne
    exact ⟨b, o, e, Nat.lt_of_lt_of_le hs hb.size, range_belowM hr hb hs⟩⟩
theorem fl_range {w : World} {b o : Nat} {X : List Mat} : (∀ k a, X[k]? = some a → w.rangeAt b (o + k * 4) (ml a)) → w.rangeAt b o (fl X) := fun h j v hv => by
  have hj : j < X.length * 4 := by
    have := (List.getElem?_eq_some_iff.1 hv).1
    rwa [fl_len] at this
  obtain ⟨a, ha, hf⟩ := fl_of X j hj
  rw [hf] at hv
  have := h (j / 4) a ha (j % 4) v hv
  have e1 : o + j = o + j / 4 * 4 + j % 4 := by omega
  rw [e1]; exact this
theorem range_fl {w : World} {b o : Nat} {X : List Mat} (h : w.rangeAt b o (fl X)) {k : Nat} {a : Mat} (hk : X[k]? = some a) : w.rangeAt b (o + k * 4) (ml a) := fun j v hv => by
  have hj := pl_get hv
  have := h (k * 4 + j) v (by rw [fl_get X k a hk j hj]; exact hv)
  rwa [← Nat.add_assoc] at this
theorem run_append_nothing {w : World} {ao sa : Option Addr} {n cap c : Nat} (hs : Src Tryd.prog 4 41 (.slice sa 0 c) 0 [] w) (hle : n ≤ cap) (ty : TypeId) :
    (Builtin.append_ #[41, 41] ty #[.slice ao n cap, .slice sa 0 c]).run Tryd.prog w = .ok (.slice ao n cap) w := by
  obtain ⟨i0, hi, hxx⟩ := Option.map_eq_some_iff.1 infoM
  simp only [Prod.mk.injEq] at hxx
  obtain ⟨hz0, hz1, hz2⟩ := hxx
  cases ao <;> simp [Builtin.append_, run_underlying Tryd.underlying41, sizeOf, typeInfo, hi, hz1, hs.len, hle, hs.cells, storeCells]
theorem append_all {B : Nat} {w : World} {ao : Option Addr} {cap : Nat} {L : List Mat} (h : FR B w ao cap L) (X : List Mat) (hL : L.length + X.length < 4000000000) (hB : B ≤ w.heap.size) (sa : Option Addr) (c : Nat) (hx : Shows w sa X) (ty : TypeId) :
    ∃ ao' cap' w', (Builtin.append_ #[41, 41] ty #[.slice ao L.length cap, .slice sa X.length c]).run Tryd.prog w = .ok (.slice ao' (L.length + X.length) cap') w' ∧ FR B w' ao' cap' (L ++ X) ∧ Below B w w' ∧ w.heap.size ≤ w'.heap.size := by
  obtain ⟨i0, hi, hxx⟩ := Option.map_eq_some_iff.1 infoM
  simp only [Prod.mk.injEq] at hxx
  obtain ⟨hz0, hz1, hz2⟩ := hxx
  have hsrc : Src Tryd.prog 4 41 (.slice sa X.length c) X.length (fl X) w := by
    cases sa with
    | none =>
      obtain rfl := hx.1 rfl
      exact Src.ofNil w Tryd.underlying41 c
    | some a =>
      by_cases hX : X = []
      · subst hX
        exact Src.ofSlice w Tryd.underlying41 a 0 c [] (by simp) (by simp) (by simp)
      obtain ⟨g, o, rfl, _, hr⟩ := hx.2 a rfl hX
      exact Src.ofSlice w Tryd.underlying41 ⟨g, o, none⟩ X.length c (fl X) (fl_len X) (fun j u hu => by rw [Addr.add_mid]; exact hr j u hu) (fl_one X)
  have hle := h.le
  have hmx := h.mx
  by_cases hX : X = []
  · subst hX
    refine ⟨ao, cap, w, run_append_nothing hsrc hle ty, ?_, Below.refl _ _, Nat.le_refl _⟩
    rw [List.append_nil]; exact h
  · have hpos : 0 < X.length := List.length_pos_iff.2 hX
    by_cases hroom : L.length + X.length ≤ cap
    · obtain ⟨b, off, e, hBb, hs, hr, ht⟩ := h.row (by omega)
      subst e
      have htx : w.there b (off + L.length * 4) (X.length * 4) := fun j hj => by
        have := ht (L.length * 4 + j) (by omega)
        rwa [← Nat.add_assoc] at this
      have hrun := run_append_room_src (P := Tryd.prog) w 41 41 ty 40 i0 Tryd.underlying41 hi b off L.length cap _ X.length (fl X) (by rw [hz1]; exact hsrc) hroom
        (fun j hj => by rw [hz1]; rw [fl_len] at hj; exact (htx j hj).1) (fun j hj => by rw [hz1]; rw [fl_len] at hj; exact (htx j hj).2)
      rw [hz1] at hrun
      refine ⟨_, _, _, hrun, ⟨by simpa using hroom, hmx, fun hc => ⟨b, off, rfl, hBb, by rw [size_setCells']; exact hs, fun k a hk => ?_, World.there_setCells ht _ _ _⟩⟩, below_setCells (Below.refl _ _) hBb _ _, by rw [size_setCells']; exact Nat.le_refl _⟩
      rcases Nat.lt_or_ge k L.length with hk' | hk'
      · rw [List.getElem?_append_left hk'] at hk
        refine World.rangeAt_setCells_apart (hr k a hk) _ _ _ (.inr ?_)
        rw [pl_len, fl_len]; omega
      · rw [List.getElem?_append_right hk'] at hk
        have h1 := World.rangeAt_setCells_same w b (off + L.length * 4) (fl X) (by rw [fl_len]; exact htx)
        have h2 := range_fl h1 hk
        have e1 : off + L.length * 4 + (k - L.length) * 4 = off + k * 4 := by omega
        rwa [e1] at h2
    · have hc0 : cap < L.length + X.length := by omega
      have hold : (Builtin.firstCells i0.size L.length (.slice ao L.length cap)).run Tryd.prog w.drew = .ok (fl L).toArray w.drew := by
        rw [hz1]
        rcases Nat.eq_zero_or_pos cap with h0 | h0
        · have hl0 : L = [] := List.eq_nil_of_length_eq_zero (by omega)
          subst hl0
          cases ao with
          | none => exact run_firstCells_none w.drew 4 0 0 cap
          | some a' => exact run_firstCells_some w.drew 4 0 a' 0 cap [] (by simp) (by intro _ _ h'; simp at h')
        · obtain ⟨b, off, e, hBb, hs, hr, ht⟩ := h.row h0
          subst e
          refine run_firstCells_some w.drew 4 L.length ⟨b, off, none⟩ L.length cap (fl L) (by rw [fl_len]) (fun j u hu => ?_)
          rw [Addr.add_mid]
          exact fl_range hr j u hu
      have hrun := run_append_grow_src (P := Tryd.prog) w 41 41 ty 40 i0 (.agg #[.int .i64 0, .int .i64 0, .int .i64 0, .int .i64 0]) Tryd.underlying41 hi hz0 ao L.length cap (fl L) hold _ X.length (fl X) (by rw [hz1]; exact hsrc)
        hc0 (by omega) (growslice_fits hc0 (by rw [hz2]; omega))
      have hge := grownCap_ge w (L.length + X.length) cap 40
      have hcm := grownCap_le_maxLen w (L.length + X.length) cap 40 (by unfold maxLen; omega)
      obtain ⟨gc, hgc⟩ : ∃ gc, gc = grownCap w (L.length + X.length) cap 40 := ⟨_, rfl⟩
      rw [← hgc] at hrun hge hcm
      have hsz : ((fl L ++ fl X).toArray ++ Builtin.zeroCells (Value.agg #[.int .i64 0, .int .i64 0, .int .i64 0, .int .i64 0]).cells (gc - (L.length + X.length))).size = gc * 4 := by
        rw [Array.size_append, List.size_toArray, List.length_append, fl_len, fl_len, size_zeroCells]
        have : (Value.agg #[.int .i64 0, .int .i64 0, .int .i64 0, .int .i64 0]).cells.size = 4 := rfl
        rw [this]
        omega
      have e2 : fl L ++ fl X = fl (L ++ X) := by simp [fl]
      refine ⟨_, _, _, hrun, ⟨by simpa using hge, hcm, fun _ => ⟨w.heap.size, 0, rfl, hB, by simp, fun k a hk => fun j u hu => ?_, fun j hj => ⟨?_, World.frozen?_alloc_new w.drew _ _ (0 + j)⟩⟩⟩, (Below.refl _ w).drew.alloc hB _, by simp⟩
      · have hj := pl_get hu
        have hkl : k < L.length + X.length := by
          have := (List.getElem?_eq_some_iff.1 hk).1
          simpa using this
        have e1 : (w.drew.alloc (.cells ((fl L ++ fl X).toArray ++ Builtin.zeroCells (Value.agg #[.int .i64 0, .int .i64 0, .int .i64 0, .int .i64 0]).cells (gc - (L.length + X.length))) 40)).cell? ⟨w.heap.size, 0 + k * 4 + j, none⟩ = _ := World.cell?_alloc_new w.drew _ _ (0 + k * 4 + j)
        rw [e1, Nat.zero_add, Array.getElem?_append_left (by rw [List.size_toArray, List.length_append, fl_len, fl_len]; omega), List.getElem?_toArray, e2, fl_get _ k a hk j hj]
        exact hu
      · have e1 : (w.drew.alloc (.cells ((fl L ++ fl X).toArray ++ Builtin.zeroCells (Value.agg #[.int .i64 0, .int .i64 0, .int .i64 0, .int .i64 0]).cells (gc - (L.length + X.length))) 40)).cell? ⟨w.heap.size, 0 + j, none⟩ = _ := World.cell?_alloc_new w.drew _ _ (0 + j)
        rw [e1, Nat.zero_add, Array.getElem?_eq_getElem (by rw [hsz]; exact hj)]
        rfl
theorem list_append_all {ops : Array Oper} {rest : List Oper} {o : Oper} {a : Act} {w : World} {Q : Exit → Act → World → Prop} (hgd : o.guard = none) (s y : Operand) (ho : o.op = .call { callee := .builtin .append, args := #[s, y], argTypes := #[41, 41] })
    {B : Nat} {ao : Option Addr} {cap : Nat} {L : List Mat} (h : FR B w ao cap L) (X : List Mat) (hL : L.length + X.length < 4000000000) (hB : B ≤ w.heap.size) (sa : Option Addr) (c : Nat) (hx : Shows w sa X)
    (hs : a.eval s = .slice ao L.length cap) (hy : a.eval y = .slice sa X.length c) (hk : ∀ ao' cap' w', FR B w' ao' cap' (L ++ X) → Below B w w' → w.heap.size ≤ w'.heap.size → wpList Tryd.prog ops Q rest (a.put o.dst (.slice ao' (L.length + X.length) cap')) w') :
    wpList Tryd.prog ops Q (o :: rest) a w := by
  obtain ⟨ao', cap', w', hr, hf, hb, hz⟩ := append_all h X hL hB sa c hx o.type
  refine wpList_plain hgd fun K hK => ?_
  unfold Oper.wp execOp
  simp only [ho, resolve, invoke, builtin, Sem.run_bind, Sem.run_pure, Result.andThen_ok, List.map_toArray, List.map_cons, List.map_nil, hs, hy, hr]
  exact hK _ _ (hk ao' cap' w' hf hb hz)
theorem Shows.nil (w : World) (sa : Option Addr) : Shows w sa [] := ⟨fun _ => rfl, fun _ _ h => absurd rfl h⟩
theorem FR.empty (B : Nat) (w : World) (ao : Option Addr) : FR B w ao 0 [] := ⟨Nat.le_refl _, Nat.zero_le _, fun h => absurd h (by omega)⟩
/-- What an own row shows: its first ones. -/
theorem FR.shows {B : Nat} {w : World} {ao : Option Addr} {cap : Nat} {L : List Mat} (h : FR B w ao cap L) (n : Nat) : Shows w ao (L.take n) := by
  by_cases hX : L.take n = []
  · rw [hX]; exact Shows.nil _ _
  · have hc : 0 < cap := by
      have := h.le
      have h2 : 0 < (L.take n).length := List.length_pos_iff.2 hX
      rw [List.length_take] at h2
      omega
    obtain ⟨b, off, e, hB, hs, hr, _⟩ := h.row hc
    refine ⟨fun hn => (by rw [e] at hn; cases hn), fun a ha _ => ?_⟩
    rw [e] at ha
    obtain rfl := Option.some.inj ha
    refine ⟨b, off, rfl, hs, fl_range fun k a hk => hr k a ?_⟩
    rw [List.getElem?_take] at hk
    split at hk
    · exact hk
    · cases hk
/-- The others. -/
theorem FR.shows_drop {B : Nat} {w : World} {ao sa : Option Addr} {cap : Nat} {L : List Mat} (h : FR B w ao cap L) (n : Nat) (hsa : n < cap → ∀ b off, ao = some ⟨b, off, none⟩ → sa = some ⟨b, off + n * 4, none⟩) : Shows w sa (L.drop n) := by
  by_cases hX : L.drop n = []
  · rw [hX]; exact Shows.nil _ _
  · have h2 : 0 < (L.drop n).length := List.length_pos_iff.2 hX
    rw [List.length_drop] at h2
    have := h.le
    obtain ⟨b, off, e, hB, hs, hr, _⟩ := h.row (by omega)
    have e2 := hsa (by omega) b off e
    refine ⟨fun hn => (by rw [e2] at hn; cases hn), fun a ha _ => ?_⟩
    rw [e2] at ha
    obtain rfl := Option.some.inj ha
    refine ⟨b, off + n * 4, rfl, hs, fl_range fun k a hk => ?_⟩
    rw [List.getElem?_drop] at hk
    have h3 := hr (n + k) a hk
    have e3 : off + (n + k) * 4 = off + n * 4 + k * 4 := by omega
    rwa [e3] at h3
end Go.Proofs.YtehpgmhilcoalaaDoor
