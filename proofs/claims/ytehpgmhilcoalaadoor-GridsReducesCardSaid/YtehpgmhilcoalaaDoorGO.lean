/- Boxes as facts about the heap; stores of whole rows; three, two and one free allocations. -/
import Derived.Test.YtehpgmhilcoalaaDoorGN
namespace Go.Proofs.YtehpgmhilcoalaaDoor
open Go.RowKit Go.Lib
theorem hb_new {W : World} {b : Nat} {vs : Array Value} {T : TypeId} (h : b = W.heap.size) : (W.alloc (.cells vs T)).heap[b]? = some (.cells vs T (0, 0)) := by subst h; exact heap_alloc_new W _
theorem hb_below {W W' : World} {b n : Nat} {o : Option Obj} (hb : Below n W W') (h : W.heap[b]? = o) (hn : b < n) : W'.heap[b]? = o := (hb.block _ hn).trans h
theorem hb_old {W : World} {b : Nat} {o : Option Obj} {o' : Obj} (h : W.heap[b]? = o) (hn : b < W.heap.size) : (W.alloc o').heap[b]? = o := hb_below (below_alloc W o') h hn
theorem hb_drew {W : World} {b : Nat} {o : Option Obj} (h : W.heap[b]? = o) : W.drew.heap[b]? = o := h
theorem range_of_heap {W : World} {b : Nat} {vs : List Value} {T : TypeId} (h : W.heap[b]? = some (.cells vs.toArray T (0, 0))) : W.rangeAt b 0 vs := fun j v hv => by
  rw [Nat.zero_add, cell_of_row _ _ j _ _ _ h, List.getElem?_toArray, hv]
theorem cell_of_heap {W : World} {b j : Nat} {vs : List Value} {v : Value} {T : TypeId} (h : W.heap[b]? = some (.cells vs.toArray T (0, 0))) (hv : vs[j]? = some v) : W.cell? ⟨b, j, none⟩ = some v := range_cell0 (range_of_heap h) hv
theorem frozen_of_heap {W : World} {b : Nat} {vs : Array Value} {T : TypeId} (h : W.heap[b]? = some (.cells vs T (0, 0))) (j : Nat) : W.frozen? ⟨b, j, none⟩ = false := by
  simp [World.frozen?, h]
theorem store_row {P : Program} {ops : Array Oper} {rest : List Oper} {o : Oper} {a : Act} {w : World} {Q : Exit → Act → World → Prop} (hgd : o.guard = none) (ty : TypeId) (x y : Operand) (ho : o.op = .store ty x y)
    (g : Nat) (cells : Array Value) (hx : a.eval x = .pointer (some ⟨g, 0, none⟩)) (hy : a.eval y = .agg cells)
    (t : TypeId) (old : Array Value) (hg : w.heap[g]? = some (.cells old t (0, 0))) (hi : (P.info? ty).map (·.size) = some cells.size)
    (hold : old.size = cells.size) (h1 : cells.all (·.oneCell') = true)
    (h : ∀ w', w'.heap[g]? = some (.cells cells t (0, 0)) → (∀ (k : Nat) (ob : Option Obj), w.heap[k]? = ob → k ≠ g → w'.heap[k]? = ob) → w'.heap.size = w.heap.size → (∀ B w0, Below B w0 w → B ≤ g → Below B w0 w') → wpList P ops Q rest (a.put o.dst undef) w') :
    wpList P ops Q (o :: rest) a w := by
  refine wpList_plain hgd fun K hK => ?_
  unfold Oper.wp execOp
  simp only [ho, hx, hy, Instr.storeAt, Instr.sureAddr, Sem.run_bind, Sem.run_pure, Result.andThen_ok, run_storeVar_row w g t ty old cells hg hi hold h1]
  refine hK _ _ (h _ ?_ ?_ ?_ ?_)
  · unfold World.setRow
    simp only [Array.getElem?_modify, if_pos, hg, Option.map_some]
  · intro k ob hk hne
    rw [← hk]
    unfold World.setRow
    simp only [Array.getElem?_modify, if_neg (Ne.symm hne)]
  · simp [World.setRow]
  · exact fun B w0 hb hB => below_setRow hb hB _
theorem upd_comm {β : Nat → Nat} {i j x y : Nat} (h : i ≠ j) : upd (upd β i x) j y = upd (upd β j y) i x := by
  funext k
  unfold upd
  by_cases h1 : k = i <;> by_cases h2 : k = j <;> simp_all
section
variable {ops : Array Oper} {R : Act → (Nat → Nat) → Prop} {a : Act} {β : Nat → Nat}
theorem aph1 {i : Nat} {oi : Oper} (hi : ops[i]? = some oi) (h : ∀ b, R (a.put oi.dst (.pointer (some ⟨b, 0, none⟩))) (upd β i b)) : aph ops R 1 [i] a β := by
  intro k hk o ho b
  obtain rfl : k = i := by simpa using hk
  obtain rfl : oi = o := Option.some.inj (hi.symm.trans ho)
  exact h b
theorem aph2 {i j : Nat} {oi oj : Oper} (hi : ops[i]? = some oi) (hj : ops[j]? = some oj) (hij : i ≠ j) (hd : ∀ d, oi.dst = some d → oj.dst ≠ some d)
    (h : ∀ b c, R ((a.put oi.dst (.pointer (some ⟨b, 0, none⟩))).put oj.dst (.pointer (some ⟨c, 0, none⟩))) (upd (upd β i b) j c)) : aph ops R 2 [i, j] a β := by
  intro k hk o ho b
  rcases List.mem_cons.1 hk with rfl | hk
  · obtain rfl : oi = o := Option.some.inj (hi.symm.trans ho)
    rw [show [k, j].erase k = [j] by simp]
    exact aph1 hj fun c => h b c
  · obtain rfl : k = j := by simpa using hk
    obtain rfl : oj = o := Option.some.inj (hj.symm.trans ho)
    rw [show [i, k].erase k = [i] by simp [hij]]
    refine aph1 hi fun c => ?_
    rw [← Act.put_comm a _ _ hd, ← upd_comm hij]
    exact h c b
theorem aph3 {i j k : Nat} {oi oj ok : Oper} (hi : ops[i]? = some oi) (hj : ops[j]? = some oj) (hk : ops[k]? = some ok) (hij : i ≠ j) (hik : i ≠ k) (hjk : j ≠ k)
    (d1 : ∀ d, oi.dst = some d → oj.dst ≠ some d) (d2 : ∀ d, oi.dst = some d → ok.dst ≠ some d) (d3 : ∀ d, oj.dst = some d → ok.dst ≠ some d)
    (h : ∀ b c e, R (((a.put oi.dst (.pointer (some ⟨b, 0, none⟩))).put oj.dst (.pointer (some ⟨c, 0, none⟩))).put ok.dst (.pointer (some ⟨e, 0, none⟩))) (upd (upd (upd β i b) j c) k e)) : aph ops R 3 [i, j, k] a β := by
  intro l hl o ho b
  rcases List.mem_cons.1 hl with rfl | hl
  · obtain rfl : oi = o := Option.some.inj (hi.symm.trans ho)
    rw [show [l, j, k].erase l = [j, k] by simp]
    exact aph2 hj hk hjk d3 fun c e => h b c e
  · rcases List.mem_cons.1 hl with rfl | hl
    · obtain rfl : oj = o := Option.some.inj (hj.symm.trans ho)
      rw [show [i, l, k].erase l = [i, k] by simp [hij]]
      refine aph2 hi hk hik d2 fun c e => ?_
      rw [← Act.put_comm a _ _ d1, ← upd_comm hij]
      exact h c b e
    · obtain rfl : l = k := by simpa using hl
      obtain rfl : ok = o := Option.some.inj (hk.symm.trans ho)
      rw [show [i, j, l].erase l = [i, j] by simp [hik, hjk]]
      refine aph2 hi hj hij d1 fun c e => ?_
      rw [← Act.put_comm a _ _ d2, ← Act.put_comm _ _ _ d3, ← upd_comm hik, ← upd_comm hjk]
      exact h c e b
theorem op_of {i : Nat} {t : Option Tmp} (h : (ops[i]?).map (·.dst) = some t) : ∃ o, ops[i]? = some o ∧ o.dst = t := by
  cases ho : ops[i]? with
  | none => rw [ho] at h; cases h
  | some o => rw [ho] at h; exact ⟨o, rfl, by simpa using h⟩
theorem aph1' (i : Nat) (t : Tmp) (hi : (ops[i]?).map (·.dst) = some (some t)) (h : ∀ b, R (a.put (some t) (.pointer (some ⟨b, 0, none⟩))) (upd β i b)) : aph ops R 1 [i] a β := by
  obtain ⟨o, ho, e⟩ := op_of hi
  exact aph1 ho fun b => by rw [e]; exact h b
theorem aph2' (i j : Nat) (t u : Tmp) (hi : (ops[i]?).map (·.dst) = some (some t)) (hj : (ops[j]?).map (·.dst) = some (some u)) (hij : i ≠ j) (htu : t ≠ u)
    (h : ∀ b c, R ((a.put (some t) (.pointer (some ⟨b, 0, none⟩))).put (some u) (.pointer (some ⟨c, 0, none⟩))) (upd (upd β i b) j c)) : aph ops R 2 [i, j] a β := by
  obtain ⟨o, ho, e⟩ := op_of hi
  obtain ⟨o', ho', e'⟩ := op_of hj
  refine aph2 ho ho' hij (fun d h1 h2 => ?_) (fun b c => by rw [e, e']; exact h b c)
  rw [e] at h1
  rw [e', ← h1] at h2
  exact htu (Option.some.inj h2).symm
theorem aph3' (i j k : Nat) (t u v : Tmp) (hi : (ops[i]?).map (·.dst) = some (some t)) (hj : (ops[j]?).map (·.dst) = some (some u)) (hk : (ops[k]?).map (·.dst) = some (some v)) (hij : i ≠ j) (hik : i ≠ k) (hjk : j ≠ k) (htu : t ≠ u) (htv : t ≠ v) (huv : u ≠ v)
    (h : ∀ b c e, R (((a.put (some t) (.pointer (some ⟨b, 0, none⟩))).put (some u) (.pointer (some ⟨c, 0, none⟩))).put (some v) (.pointer (some ⟨e, 0, none⟩))) (upd (upd (upd β i b) j c) k e)) : aph ops R 3 [i, j, k] a β := by
  obtain ⟨o, ho, e⟩ := op_of hi
  obtain ⟨o', ho', e'⟩ := op_of hj
  obtain ⟨o2, ho2, e2⟩ := op_of hk
  refine aph3 ho ho' ho2 hij hik hjk (fun d h1 h2 => ?_) (fun d h1 h2 => ?_) (fun d h1 h2 => ?_) (fun b c f => by rw [e, e', e2]; exact h b c f)
  · rw [e] at h1; rw [e', ← h1] at h2; exact htu (Option.some.inj h2).symm
  · rw [e] at h1; rw [e2, ← h1] at h2; exact htv (Option.some.inj h2).symm
  · rw [e'] at h1; rw [e2, ← h1] at h2; exact huv (Option.some.inj h2).symm
end
end Go.Proofs.YtehpgmhilcoalaaDoor
