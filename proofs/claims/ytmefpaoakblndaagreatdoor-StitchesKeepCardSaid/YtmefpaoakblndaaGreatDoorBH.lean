/- What a factor takes over from the next one: takeOver walked. -/
import Derived.Test.YtmefpaoakblndaaGreatDoorBG
import Derived.Test.YtmefpaoakblndaaGreatDoorBK
namespace Go.Proofs.YtmefpaoakblndaaGreatDoor
open Go.RowKit

/-- The twelve cells, as a list. -/
def pl (s : Pm) : List Value := ((List.range 12).map s.f).map fun x : Nat => Value.int .i64 (x : Int)
theorem pc_pl (s : Pm) : pc s = (pl s).toArray := rfl
theorem pl_len (s : Pm) : (pl s).length = 12 := by simp [pl]
theorem pl_one (s : Pm) : ∀ v ∈ pl s, v.oneCell' = true := fun v hv => by
  unfold pl at hv
  obtain ⟨x, _, rfl⟩ := List.mem_map.1 hv
  rfl
theorem sizeP (s : Pm) : (pl s).toArray.size = 12 := pc_size s
theorem hi59A (s : Pm) : (Tryz.prog.info? 108).map (·.size) = some (pl s).toArray.size := by rw [sizeP]; exact info59
theorem hi59L (s : Pm) : (Tryz.prog.info? 108).map (·.size) = some (pl s).length := by rw [pl_len]; exact info59
theorem pl_row {w : World} {b : Nat} {s : Pm} {t : TypeId} {fr : Nat × Nat} (h : w.heap[b]? = some (.cells (pc s) t fr)) : w.rangeAt b 0 (pl s) := fun j v hv => by
  rw [Nat.zero_add, cell_of_row w b j _ _ _ h, pc_pl]
  simpa using hv
theorem there_row {w : World} {b : Nat} {c : Array Value} {t : TypeId} (hc : c.size = 12) (h : w.heap[b]? = some (.cells c t (0, 0))) : w.there b 0 12 := fun j hj => by
  rw [Nat.zero_add, cell_of_row w b j _ _ _ h, frozen_of_row w b j _ _ h, Array.getElem?_eq_getElem (by omega)]
  exact ⟨rfl, rfl⟩
theorem range_below {B : Nat} {w w' : World} {b o : Nat} {cs : List Value} (h : w.rangeAt b o cs) (hb : Below B w w') (hlt : b < B) : w'.rangeAt b o cs := fun j v hv => (hb.cell (p := ⟨b, o + j, none⟩) hlt).trans (h j v hv)
theorem there_below {B : Nat} {w w' : World} {b o n : Nat} (h : w.there b o n) (hb : Below B w w') (hlt : b < B) : w'.there b o n := fun j hj => by
  rw [hb.cell (p := ⟨b, o + j, none⟩) hlt, hb.frozen (p := ⟨b, o + j, none⟩) hlt]
  exact h j hj
theorem below_setCells {B : Nat} {a w : World} (h : Below B a w) {b : Nat} (hb : B ≤ b) (o : Nat) : ∀ (vs : List Value), Below B a (w.setCells b o vs) := by
  intro vs
  induction vs generalizing o w with
  | nil => exact h
  | cons v vs ih => exact ih (h.setCell (p := ⟨b, o, none⟩) hb v) (o + 1)

theorem tk_none {n m : Nat} {a b : Pm} (h : firstS n a b = none) : tk n m a b = (a, b) := by
  cases m with
  | zero => rfl
  | succ m => unfold tk; rw [h]
theorem tk_more {n : Nat} : ∀ (m m' : Nat) (a b : Pm), b.In n → cost n b < m → cost n b < m' → tk n m a b = tk n m' a b
  | 0, _, _, _, _, h, _ => absurd h (Nat.not_lt_zero _)
  | _, 0, _, _, _, _, h => absurd h (Nat.not_lt_zero _)
  | m + 1, m' + 1, a, b, hb, h, h' => by
    unfold tk
    cases hf : firstS n a b with
    | none => rfl
    | some k =>
      obtain ⟨hk, h1, _⟩ := firstS_some hf
      have hc := cost_pre hb hk h1
      exact tk_more m m' _ _ (hb.pre hk) (by omega) (by omega)
theorem take_step {n k : Nat} {a b : Pm} (hb : b.In n) (h : firstS n a b = some k) : take n a b = take n (a.post k) (b.pre k) := by
  obtain ⟨hk, h1, _⟩ := firstS_some h
  have hc := cost_pre hb hk h1
  unfold take
  rw [show tk n (cost n b + 1) a b = tk n (cost n b) (a.post k) (b.pre k) by conv => lhs; unfold tk; rw [h]]
  exact tk_more _ _ _ _ (hb.pre hk) hc (by omega)
theorem take_none {n : Nat} {a b : Pm} (h : firstS n a b = none) : take n a b = (a, b) := tk_none h
theorem firstS_eq {n k : Nat} {a b : Pm} (hk : k + 1 < n) (h1 : b.beg k) (h2 : ¬ a.fin k) (h3 : ∀ j, j < k → ¬ (b.beg j ∧ ¬ a.fin j)) : firstS n a b = some k := by
  unfold firstS
  rw [List.find?_range_eq_some]
  refine ⟨by simp [h1, h2], by simp; omega, fun j hj => ?_⟩
  have := h3 j hj
  by_cases hb : b.beg j
  · by_cases hf : a.fin j
    · simp [hf]
    · exact absurd ⟨hb, hf⟩ this
  · simp [hb]
theorem firstS_no {n : Nat} {a b : Pm} (h : ∀ j, j + 1 < n → ¬ (b.beg j ∧ ¬ a.fin j)) : firstS n a b = none := by
  cases hf : firstS n a b with
  | none => rfl
  | some k =>
    obtain ⟨hk, h1, h2⟩ := firstS_some hf
    exact absurd ⟨h1, h2⟩ (h k hk)

theorem begins_pl (s : Pm) (i : Nat) (hi : i + 1 < 12) (w : World) {d : Bool} (hd : decide (s.beg i) = d) :
    Calls Tryz.prog 151 #[.agg (pl s).toArray, .int .i64 ((i : Int) + 1)] w fun e w' => e = .returned (.bool d) ∧ Below w.heap.size w w' := by
  have := begins_any s i hi w
  rwa [hd, pc_pl] at this
theorem swapped_pl (s : Pm) (i : Nat) (hi : i + 1 < 12) (w : World) :
    Calls Tryz.prog 133 #[.agg (pl s).toArray, .int .i64 ((i : Int) + 1)] w fun e w' => e = .returned (.agg (pl (s.pre i)).toArray) ∧ Below w.heap.size w w' := swapped_any s i hi w
theorem backwards_pl (s : Pm) (hs : s.In 12) (w : World) :
    Calls Tryz.prog 150 #[.agg (pl s).toArray] w fun e w' => e = .returned (.agg (pl s.inv).toArray) ∧ Below w.heap.size w w' := backwards_any s hs w

theorem results_mid2 {fn : Func} {p q : Tmp} {ty : TypeId} (h : fn.results = #[.cell p ty, .cell q ty]) (tmps : Array Value) (w : World) (b c : Nat) (cs ds : List Value) (d : TypeDesc)
    (hp : tmps.getD p undef = .pointer (some ⟨b, 0, none⟩)) (hq : tmps.getD q undef = .pointer (some ⟨c, 0, none⟩)) (hb : w.rangeAt b 0 cs) (hc : w.rangeAt c 0 ds)
    (hu : Tryz.prog.underlying ty = some d) (hd : d.isRow = true) (hi : (Tryz.prog.info? ty).map (·.size) = some cs.length) (hj : (Tryz.prog.info? ty).map (·.size) = some ds.length) :
    (results fn tmps).run Tryz.prog w = .ok (.tuple #[.agg cs.toArray, .agg ds.toArray]) w := by
  have hp' : tmps[p]?.getD undef = .pointer (some ⟨b, 0, none⟩) := by simpa using hp
  have hq' : tmps[q]?.getD undef = .pointer (some ⟨c, 0, none⟩) := by simpa using hq
  simp [results, h, hp', hq', asAddr, run_loadVar_mid w b 0 ty cs d hb hu hd hi, run_loadVar_mid w c 0 ty ds d hc hu hd hj]
theorem heap4_0 (w : World) (a b c d : Obj) : ((((w.alloc a).alloc b).alloc c).alloc d).heap[w.heap.size]? = some a := (Below.heap_alloc _ _ _ (by simp; omega)).trans (heap3_0 _ _ _ _)
theorem heap4_1 (w : World) (a b c d : Obj) : ((((w.alloc a).alloc b).alloc c).alloc d).heap[w.heap.size + 1]? = some b := (Below.heap_alloc _ _ _ (by simp)).trans (heap3_1 _ _ _ _)
theorem heap4_2 (w : World) (a b c d : Obj) : ((((w.alloc a).alloc b).alloc c).alloc d).heap[w.heap.size + 1 + 1]? = some c := (Below.heap_alloc _ _ _ (by simp)).trans (heap3_2 _ _ _ _)
theorem heap4_3 (w : World) (a b c d : Obj) : ((((w.alloc a).alloc b).alloc c).alloc d).heap[w.heap.size + 1 + 1 + 1]? = some d := by
  have h := heap_alloc_new (((w.alloc a).alloc b).alloc c) d
  simpa using h
theorem below4 (w : World) (a b c d : Obj) : Below w.heap.size w ((((w.alloc a).alloc b).alloc c).alloc d) := (below3 w a b c).alloc (by simp; omega) _
theorem hd59 : (TypeDesc.array 12 3).isRow = true := rfl

theorem wpList_want {P : Program} {ops : Array Oper} {Q : Exit → Act → World → Prop} {a : Act} {w : World} {rest : List Oper} {o : Oper} (hw : Region.wanted o (yielded ops a.tmps) = true)
    (h : ∀ K : Act → World → Prop, (∀ a w, wpList P ops Q rest a w → K a w) → o.wp P a w K Q) : wpList P ops Q (o :: rest) a w :=
  wpList_step fun K hK => by rw [if_pos hw]; exact h K hK

/-- The state of takeOver: the left factor backwards in block b8, the right one behind the block of the first argument; two blocks for the results. -/
structure TO (w wr : World) (b8 : Nat) (a b : Pm) : Prop where
  r8 : wr.rangeAt b8 0 (pl a.inv)
  r5 : wr.rangeAt (w.heap.size + 1) 0 (pl b)
  t8 : wr.there b8 0 12
  t5 : wr.there (w.heap.size + 1) 0 12
  t6 : wr.there (w.heap.size + 1 + 1) 0 12
  t7 : wr.there (w.heap.size + 1 + 1 + 1) 0 12
  s8 : b8 < wr.heap.size
  s5 : w.heap.size + 1 + 1 + 1 < b8
  blw : Below w.heap.size w wr
theorem undrew {B : Nat} {w w' : World} (h : Below B w.drew w') : Below B w w' := ⟨h.os, h.tape, h.output, h.size, h.block⟩
theorem size_setCells' (w : World) (b : Nat) : ∀ (vs : List Value) (o : Nat), (w.setCells b o vs).heap.size = w.heap.size := by
  intro vs
  induction vs generalizing w with
  | nil => intro o; rfl
  | cons v vs ih => intro o; exact (ih (w.setCell ⟨b, o, none⟩ v) (o + 1)).trans (by simp [World.setCell])
theorem TO.drew {w wr : World} {b8 : Nat} {a b : Pm} (t : TO w wr b8 a b) : TO w wr.drew b8 a b :=
  ⟨by simpa using t.r8, by simpa using t.r5, by simpa using t.t8, by simpa using t.t5, by simpa using t.t6, by simpa using t.t7, t.s8, t.s5, t.blw.drew⟩
theorem TO.below {w wr wy : World} {b8 : Nat} {a b : Pm} (t : TO w wr b8 a b) (h : Below wr.heap.size wr wy) : TO w wy b8 a b := by
  have h1 := t.s5
  have h2 := t.s8
  have h3 := t.blw.size
  exact ⟨range_below t.r8 h h2, range_below t.r5 h (by omega), there_below t.t8 h h2, there_below t.t5 h (by omega), there_below t.t6 h (by omega), there_below t.t7 h (by omega), by have := h.size; omega, h1, t.blw.trans (h.mono h3)⟩

theorem TO.set {w wr : World} {b8 : Nat} {a b : Pm} (t : TO w wr b8 a b) (x y : Pm) : TO w ((wr.setCells b8 0 (pl x.inv)).setCells (w.heap.size + 1) 0 (pl y)) b8 x y := by
  have h5 := t.s5
  have ht := fun {b' : Nat} (h : wr.there b' 0 12) => World.there_setCells (World.there_setCells h b8 0 (pl x.inv)) (w.heap.size + 1) 0 (pl y)
  exact ⟨World.rangeAt_setCells_apart (World.rangeAt_setCells_same wr b8 0 _ (by rw [pl_len]; exact t.t8)) _ _ _ (.inl (by omega)), World.rangeAt_setCells_same _ _ 0 _ (by rw [pl_len]; exact World.there_setCells t.t5 _ _ _),
    ht t.t8, ht t.t5, ht t.t6, ht t.t7, by rw [size_setCells', size_setCells']; exact t.s8, h5, below_setCells (below_setCells t.blw (by omega) _ _) (by omega) _ _⟩
theorem s7_below {w wy wz : World} {b8 : Nat} {A B : List Value} (hb : Below wy.heap.size wy wz) (h5 : w.heap.size + 1 + 1 + 1 < b8) (h8 : b8 < wy.heap.size)
    (h : wy.rangeAt b8 0 A ∧ wy.rangeAt (w.heap.size + 1) 0 B ∧ wy.there (w.heap.size + 1 + 1) 0 12 ∧ wy.there (w.heap.size + 1 + 1 + 1) 0 12 ∧ Below w.heap.size w wy) :
    wz.rangeAt b8 0 A ∧ wz.rangeAt (w.heap.size + 1) 0 B ∧ wz.there (w.heap.size + 1 + 1) 0 12 ∧ wz.there (w.heap.size + 1 + 1 + 1) 0 12 ∧ Below w.heap.size w wz := by
  obtain ⟨r8, r5, t6, t7, bl⟩ := h
  exact ⟨range_below r8 hb h8, range_below r5 hb (by omega), there_below t6 hb (by omega), there_below t7 hb (by omega), bl.trans (hb.mono bl.size)⟩
theorem s7_set {w wy : World} {b8 b : Nat} {A B vs : List Value} (h5 : w.heap.size + 1 + 1 + 1 < b8) (hb : b = w.heap.size + 1 + 1 ∨ b = w.heap.size + 1 + 1 + 1)
    (h : wy.rangeAt b8 0 A ∧ wy.rangeAt (w.heap.size + 1) 0 B ∧ wy.there (w.heap.size + 1 + 1) 0 12 ∧ wy.there (w.heap.size + 1 + 1 + 1) 0 12 ∧ Below w.heap.size w wy) :
    (wy.setCells b 0 vs).rangeAt b8 0 A ∧ (wy.setCells b 0 vs).rangeAt (w.heap.size + 1) 0 B ∧ (wy.setCells b 0 vs).there (w.heap.size + 1 + 1) 0 12 ∧ (wy.setCells b 0 vs).there (w.heap.size + 1 + 1 + 1) 0 12 ∧ Below w.heap.size w (wy.setCells b 0 vs) := by
  obtain ⟨r8, r5, t6, t7, bl⟩ := h
  exact ⟨World.rangeAt_setCells_apart r8 _ _ _ (.inl (by omega)), World.rangeAt_setCells_apart r5 _ _ _ (.inl (by omega)), World.there_setCells t6 _ _ _, World.there_setCells t7 _ _ _, below_setCells bl (by omega) _ _⟩
theorem entSw (args : Array Value) (w : World) : (callFunc 133 args).run Tryz.prog w = .ok (.enter 133 args) w := enter_of Tryz.func133 (by decide +kernel) (by intro h; cases h) args w
theorem entBack (args : Array Value) (w : World) : (callFunc 150 args).run Tryz.prog w = .ok (.enter 150 args) w := enter_of Tryz.func150 (by decide +kernel) (by intro h; cases h) args w

set_option maxHeartbeats 600000 in
set_option maxRecDepth 100000 in
theorem takeOver_any (n : Nat) (hn : n ≤ 12) (l r : Pm) (hl : l.In n) (hr : r.In n) (w : World) :
    Calls Tryz.prog 148 #[.int .i64 (n : Int), .agg (pl l).toArray, .agg (pl r).toArray] w fun e w' => e = .returned (.tuple #[.agg (pl (take n l r).1).toArray, .agg (pl (take n l r).2).toArray]) ∧ Below w.heap.size w w' := by
  go_enter Tryz.func148, Tryz.ntmps148
  go_wp2_with fail
  go_step3
  go_wp2_with (refine wpList_load_row rfl 108 (.tmp 4) rfl w.heap.size rfl 108 (pc l) (0, 0) _ (heap4_0 _ _ _ _ _) Tryz.underlying108 rfl (hi59 _) ?_)
  refine (backwards_any l (hl.more hn) _).mono ?_
  rintro e w1 ⟨rfl, hb1⟩
  have hz := hb1.size
  simp only [World.size_alloc] at hz
  have hr5 := (hb1.block (w.heap.size + 1) (by simp)).trans (heap4_1 _ _ _ _ _)
  have hr6 := (hb1.block (w.heap.size + 1 + 1) (by simp)).trans (heap4_2 _ _ _ _ _)
  have hr7 := (hb1.block (w.heap.size + 1 + 1 + 1) (by simp)).trans (heap4_3 _ _ _ _ _)
  have hbw : Below w.heap.size w w1 := (below4 w _ _ _ _).trans (hb1.mono (by simp; omega))
  have Hr5 := Lib.hid hr5
  have Hr6 := Lib.hid hr6
  have Hr7 := Lib.hid hr7
  have Hbw := Lib.hid hbw
  clear hr5 hr6 hr7 hb1 hbw
  go_wp2_with (refine wpList_store_row rfl 108 (.tmp 8) (.tmp 11) rfl w1.heap.size (pc l.inv) rfl rfl 108 _ (heap_alloc_new _ _) (hi59 _) rfl (pc_one _) ?_)
  simp only [Act.put]
  go_step3
  go_wp2_with fail
  go_loopg [9] (cost n r + 1) (fun g _ wr => ∃ a b : Pm, cost n b < g ∧ a.In n ∧ b.In n ∧ take n a b = take n l r ∧ TO w wr w1.heap.size a b)
  case atStart =>
    have x8 := setRow_heap (w1.alloc _) w1.heap.size _ (pc l.inv) 108 _ (heap_alloc_new w1 (.cells (pcF fun _ => 0) 108))
    have xo := fun (k : Nat) (hk : k < w1.heap.size) => (setRow_other (w1.alloc (.cells (pcF fun _ => 0) 108)) w1.heap.size k (pc l.inv) (by omega)).trans (Below.heap_alloc w1 (.cells (pcF fun _ => 0) 108) k hk)
    have x5 := (xo (w.heap.size + 1) (by omega)).trans Hr5.out
    have x6 := (xo (w.heap.size + 1 + 1) (by omega)).trans Hr6.out
    have x7 := (xo (w.heap.size + 1 + 1 + 1) (by omega)).trans Hr7.out
    have xb := below_setRow (Hbw.out.alloc (by omega) (.cells (pcF fun _ => 0) 108)) (by omega : w.heap.size ≤ w1.heap.size) (pc l.inv)
    exact ⟨l, r, Nat.lt_succ_self _, hl, hr, rfl, pl_row x8, pl_row x5, there_row (pc_size _) x8, there_row (pc_size _) x5, there_row rfl x6, there_row rfl x7, (Array.getElem?_eq_some_iff.1 x8).1, by omega, xb⟩
  case round =>
    obtain ⟨a, b, hm, ha, hb, hT, hTO⟩ := hrel
    obtain ⟨G, rfl⟩ : ∃ G, gk = G + 1 := ⟨gk - 1, by omega⟩
    have HT := Lib.hid hT
    have HTO := Lib.hid hTO
    clear hT hTO
    go_wp2_with fail
    go_loopg [9] n (fun g2 s9 wy => ∃ j : Nat, j + g2 = n ∧ s9 = .int .i64 ((j : Int) + 1) ∧ (∀ k, k < j → ¬ (b.beg k ∧ ¬ a.fin k)) ∧ TO w wy w1.heap.size a b)
    case atStart => exact ⟨0, by omega, rfl, fun k hk => by omega, HTO.out⟩
    case round =>
      obtain ⟨j, hj, rfl, hno, hTO⟩ := hrel
      rename World => wy
      have Hno := Lib.hid hno
      obtain ⟨r8, r5, t8, t5, t6, t7, hs8, hs5, hbw⟩ := hTO
      have hTO : TO w wy w1.heap.size a b := ⟨r8, r5, t8, t5, t6, t7, hs8, hs5, hbw⟩
      clear hno
      by_cases hjn : j + 1 < n
      · have hlt : (j : Int) + 1 < (n : Int) := by omega
        by_cases hbj : b.beg j
        · have cb := fun w => begins_pl b j (by omega) w (decide_eq_true hbj)
          by_cases hfj : a.fin j
          · have ca := fun w => begins_pl a.inv j (by omega) w (decide_eq_true ((inv_beg a j).2 hfj))
            have Cb := Lib.hid cb
            have Ca := Lib.hid ca
            clear cb ca
            go_wp2_with (first
              | (go_at_call_of 151 (pl a.inv); refine (Ca.out _).mono ?_; rintro e w3 ⟨rfl, hb3⟩)
              | (go_at_call_of 151 (pl b); refine (Cb.out _).mono ?_; rintro e w2 ⟨rfl, hb2⟩; have q8 := range_below r8 hb2 hs8)
              | (refine wpList_want (by rfl) fun K hK => wp_load_mid 108 (.tmp 8) rfl w1.heap.size 0 rfl (pl a.inv) _ (by assumption) Tryz.underlying108 hd59 (hi59L _) (hK _ _ ?_))
              | (refine wpList_load_mid rfl 108 (.tmp 5) rfl (w.heap.size + 1) 0 rfl (pl b) _ (by assumption) Tryz.underlying108 hd59 (hi59L _) ?_))
            go_roundg (gk - 1)
            case measure => omega
            case rel => exact ⟨j + 1, by omega, by go_num, fun k hk => by
                by_cases e : k = j
                · subst e; exact fun h => h.2 hfj
                · exact Hno.out k (by omega), (hTO.below hb2).below hb3⟩
          · have ca := fun w => begins_pl a.inv j (by omega) w (decide_eq_false (fun h => hfj ((inv_beg a j).1 h)))
            have Cb := Lib.hid cb
            have Ca := Lib.hid ca
            have hfs := firstS_eq hjn hbj hfj Hno.out
            have hTs := (take_step hb hfs).symm.trans HT.out
            have hcp := cost_pre hb hjn hbj
            have HTs := Lib.hid hTs
            clear cb ca hfs hTs
            go_wp2_with (first
              | (go_at_call_of 151 (pl a.inv); refine (Ca.out _).mono ?_; rintro e w3 ⟨rfl, hb3⟩)
              | (go_at_call_of 151 (pl b); refine (Cb.out _).mono ?_; rintro e w2 ⟨rfl, hb2⟩; have q8 := range_below r8 hb2 hs8)
              | (refine wpList_want (by rfl) fun K hK => wp_load_mid 108 (.tmp 8) rfl w1.heap.size 0 rfl (pl a.inv) _ (by assumption) Tryz.underlying108 hd59 (hi59L _) (hK _ _ ?_))
              | (refine wpList_load_mid rfl 108 (.tmp 5) rfl (w.heap.size + 1) 0 rfl (pl b) _ (by assumption) Tryz.underlying108 hd59 (hi59L _) ?_))
            have hT3 := Lib.hid ((hTO.below hb2).below hb3)
            have T3 := Lib.hid hT3.out.drew
            clear r8 r5 t8 t5 t6 t7 hbw hTO q8 hb2 hb3 Ca Cb hT3
            refine wp_region_class (fun w' => TO w w' w1.heap.size a b) 6 (by kernel_rfl) (by kernel_rfl) T3.out ?_
            simp only [List.take_succ_cons, List.take_zero, List.drop_succ_cons, List.drop_zero]
            refine quiet_load_mid rfl 108 (.tmp 8) rfl w1.heap.size 0 rfl (pl a.inv) _ (fun _ h => h.r8) Tryz.underlying108 hd59 (hi59L _) ?_
            simp only [Act.put, List.setIfInBounds_toArray, List.set_cons_zero, List.set_cons_succ]
            refine quiet_move rfl _ rfl ?_
            simp only [Act.put, List.setIfInBounds_toArray, List.set_cons_zero, List.set_cons_succ]
            refine quiet_call rfl 133 _ _ rfl entSw (.agg (pl (a.inv.pre j)).toArray) (fun wc h => (swapped_pl a.inv j (by omega) wc).mono fun e w' ⟨he, hb⟩ => ⟨he, h.below hb⟩) ?_
            simp only [Act.put, List.setIfInBounds_toArray, List.set_cons_zero, List.set_cons_succ]
            refine quiet_load_mid rfl 108 (.tmp 5) rfl (w.heap.size + 1) 0 rfl (pl b) _ (fun _ h => h.r5) Tryz.underlying108 hd59 (hi59L _) ?_
            simp only [Act.put, List.setIfInBounds_toArray, List.set_cons_zero, List.set_cons_succ]
            refine quiet_move rfl _ rfl ?_
            simp only [Act.put, List.setIfInBounds_toArray, List.set_cons_zero, List.set_cons_succ]
            refine quiet_call rfl 133 _ _ rfl entSw (.agg (pl (b.pre j)).toArray) (fun wc h => (swapped_pl b j (by omega) wc).mono fun e w' ⟨he, hb⟩ => ⟨he, h.below hb⟩) ?_
            simp only [Act.put, List.setIfInBounds_toArray, List.set_cons_zero, List.set_cons_succ]
            refine wpQuiet_nil fun w4 h4 => ?_
            refine wpList_store_mid rfl 108 (.tmp 8) (.tmp 28) rfl w1.heap.size 0 (pl (a.inv.pre j)).toArray rfl rfl (by rw [sizeP]; exact h4.t8) (hi59A _) (all_oneCell_toArray (pl_one _)) ?_
            refine wpList_store_mid rfl 108 (.tmp 5) (.tmp 31) rfl (w.heap.size + 1) 0 (pl (b.pre j)).toArray rfl rfl (by rw [sizeP]; exact World.there_setCells h4.t5 _ _ _) (hi59A _) (all_oneCell_toArray (pl_one _)) ?_
            have T5 := Lib.hid (h4.set (a.post j) (b.pre j))
            clear h4
            simp only [Act.put]
            go_wp2_with fail
            go_roundg G
            case measure => omega
            case rel => exact ⟨a.post j, b.pre j, by omega, ha.post hjn, hb.pre hjn, HTs.out, T5.out⟩
        · have cb := fun w => begins_pl b j (by omega) w (decide_eq_false hbj)
          have Cb := Lib.hid cb
          clear cb
          go_wp2_with (first
            | (go_at_call_of 151 (pl b); refine (Cb.out _).mono ?_; rintro e w2 ⟨rfl, hb2⟩)
            | (refine wpList_load_mid rfl 108 (.tmp 5) rfl (w.heap.size + 1) 0 rfl (pl b) _ (by assumption) Tryz.underlying108 hd59 (hi59L _) ?_))
          go_roundg (gk - 1)
          case measure => omega
          case rel => exact ⟨j + 1, by omega, by go_num, fun k hk => by
              by_cases e : k = j
              · subst e; exact fun h => hbj h.1
              · exact Hno.out k (by omega), hTO.below hb2⟩
      · have hlt : ¬ ((j : Int) + 1 < (n : Int)) := by omega
        have hfs := firstS_no (n := n) (fun k hk => Hno.out k (by omega))
        have hR := (take_none hfs).symm.trans HT.out
        have HR := Lib.hid hR
        have T3 := Lib.hid hTO.drew
        have z5 : w.heap.size + 1 + 1 + 1 < w1.heap.size := hs5
        clear hfs hR r8 r5 t8 t5 t6 t7 hbw hTO
        go_wp2_with fail
        have hT4 := T3.out
        have hS0 : wy.drew.rangeAt w1.heap.size 0 (pl a.inv) ∧ wy.drew.rangeAt (w.heap.size + 1) 0 (pl b) ∧ wy.drew.there (w.heap.size + 1 + 1) 0 12 ∧ wy.drew.there (w.heap.size + 1 + 1 + 1) 0 12 ∧ Below w.heap.size w wy.drew := ⟨hT4.r8, hT4.r5, hT4.t6, hT4.t7, hT4.blw⟩
        have hsz : w1.heap.size < wy.drew.heap.size := hT4.s8
        clear hT4
        refine wp_region_held_drew (S := fun w' => w'.rangeAt w1.heap.size 0 (pl a.inv) ∧ w'.rangeAt (w.heap.size + 1) 0 (pl b) ∧ w'.there (w.heap.size + 1 + 1) 0 12 ∧ w'.there (w.heap.size + 1 + 1 + 1) 0 12 ∧ Below w.heap.size w w') (by kernel_rfl) hS0 (fun _ => ?_)
        refine wpAnyH_take (i := 0) (oi := { dst := some 32, op := Op.load 108 (Operand.tmp 8), type := 108, pos := "normal.go:84", after := #[], guard := none }) rfl (by kernel_rfl) (by kernel_rfl) (by kernel_rfl) (fun _ _ _ h => h) (yieldsIf_load_mid (by rfl) 108 (.tmp 8) rfl w1.heap.size 0 rfl (pl a.inv) _ (fun _ h => h.1) Tryz.underlying108 hd59 (hi59L _)) hS0 ?_
        simp only [Act.put, List.setIfInBounds_toArray, List.set_cons_zero, List.set_cons_succ]
        refine wpAnyH_take (i := 2) (oi := { dst := some 34, op := Op.load 108 (Operand.tmp 5), type := 108, pos := "normal.go:84", after := #[{ on := 3, ground := Ground.gcOnly Departure.lateStores }], guard := none }) rfl (by kernel_rfl) (by kernel_rfl) (by kernel_rfl) (fun _ _ _ h => h) (yieldsIf_load_mid (by rfl) 108 (.tmp 5) rfl (w.heap.size + 1) 0 rfl (pl b) _ (fun _ h => h.2.1) Tryz.underlying108 hd59 (hi59L _)) hS0 ?_
        simp only [Act.put, List.setIfInBounds_toArray, List.set_cons_zero, List.set_cons_succ]
        refine wpAnyH_ready (rs := [1]) (by kernel_rfl) (by simp) (AllReadyH.cons (o := { dst := some 33, op := Op.call { callee := Callee.value (Operand.func 150), args := #[Operand.tmp 32], argTypes := #[108] }, type := 108, pos := "normal.go:84", after := #[{ on := 0, ground := Ground.data }], guard := none }) rfl (fun K hK => ?_) AllReadyH.nil)
        rw [if_pos (by rfl)]
        refine wp_call 150 _ _ rfl entBack (.agg (pl a).toArray) _ (backwards_pl a.inv (ha.more hn).inv _) (fun w4 hb4 => hK.out _ _ (s7_below hb4 z5 hsz hS0) (fun hS4 => ?_))
        clear hK K
        simp only [Act.put, List.setIfInBounds_toArray, List.set_cons_zero, List.set_cons_succ]
        refine wpAnyH_ready (rs := [3]) (by kernel_rfl) (by simp) (AllReadyH.cons (o := { dst := none, op := Op.store 108 (Operand.tmp 6) (Operand.tmp 33), type := 0, pos := "normal.go:84", after := #[{ on := 1, ground := Ground.data }, { on := 1, ground := Ground.chain }, { on := 0, ground := Ground.phase }, { on := 1, ground := Ground.phase }, { on := 2, ground := Ground.textOnly Departure.lateStores }], guard := none }) rfl (fun K hK => ?_) AllReadyH.nil)
        rw [if_pos (by rfl)]
        refine wp_store_mid 108 (.tmp 6) (.tmp 33) rfl (w.heap.size + 1 + 1) 0 (pl a).toArray rfl rfl (by rw [sizeP]; exact hS4.2.2.1) (hi59A _) (all_oneCell_toArray (pl_one _)) (hK.out _ _ (s7_set z5 (by omega) hS4) (fun hS5 => ?_))
        clear hK K
        simp only [Act.put]
        simp only at hS5
        obtain ⟨W6, hW6⟩ : ∃ W6, W6 = w4.setCells (w.heap.size + 1 + 1) 0 (pl a) := ⟨_, rfl⟩
        rw [← hW6] at hS5 ⊢
        have Hw6 := Lib.hid hW6
        clear hW6
        refine wpAnyH_ready (rs := [4]) (by kernel_rfl) (by simp) (AllReadyH.cons (o := { dst := none, op := Op.store 108 (Operand.tmp 7) (Operand.tmp 34), type := 0, pos := "normal.go:84", after := #[{ on := 2, ground := Ground.data }, { on := 3, ground := Ground.chain }, { on := 0, ground := Ground.phase }, { on := 1, ground := Ground.phase }, { on := 2, ground := Ground.phase }, { on := 3, ground := Ground.phase }], guard := none }) rfl (fun K hK => ?_) AllReadyH.nil)
        rw [if_pos (by rfl)]
        have hS6 := s7_set (b := w.heap.size + 1 + 1 + 1) (vs := (pl b).toArray.toList) z5 (.inr rfl) hS5
        have ht7 := hS5.2.2.2.1
        refine wp_store_mid 108 (.tmp 7) (.tmp 34) rfl (w.heap.size + 1 + 1 + 1) 0 (pl b).toArray rfl rfl (by rw [sizeP]; exact ht7) (hi59A _) (all_oneCell_toArray (pl_one _)) ?_
        refine hK.out _ _ hS6 (fun _ => ?_)
        clear hK K
        simp only [Act.put]
        refine wpAnyH_done (by kernel_rfl) ?_ _
        go_wp2_with fail
        have e1 : (take n l r).1 = a := by rw [← HR.out]
        have e2 : (take n l r).2 = b := by rw [← HR.out]
        have q60 : W6.rangeAt (w.heap.size + 1 + 1) 0 (pl a) := by rw [Hw6.out]; exact World.rangeAt_setCells_same w4 (w.heap.size + 1 + 1) 0 (pl a) (by rw [pl_len]; exact hS4.2.2.1)
        have q6 := World.rangeAt_setCells_apart q60 (w.heap.size + 1 + 1 + 1) 0 (pl b) (.inl (by omega))
        have q7 := World.rangeAt_setCells_same W6 (w.heap.size + 1 + 1 + 1) 0 (pl b) (by rw [pl_len]; exact ht7)
        refine bodyPost_ret (v := .tuple #[.agg (pl a).toArray, .agg (pl b).toArray]) (results_mid2 rfl _ _ (w.heap.size + 1 + 1) (w.heap.size + 1 + 1 + 1) (pl a) (pl b) _ rfl rfl q6 q7 Tryz.underlying108 hd59 (hi59L _) (hi59L _)) rfl ⟨by rw [e1, e2], ?_⟩
        exact below_setCells hS5.2.2.2.2 (by omega) _ _
end Go.Proofs.YtmefpaoakblndaaGreatDoor
