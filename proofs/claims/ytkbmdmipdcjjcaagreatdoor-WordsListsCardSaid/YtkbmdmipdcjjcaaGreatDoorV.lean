/- The law's own helpers: ints, fields, alike. -/
import Derived.Test.YtkbmdmipdcjjcaaGreatDoorU
import Derived.Deep.RegionHeldLaw
import Derived.Deep.AppendLies
import Derived.Laws.StructEq
namespace Go.Proofs.YtkbmdmipdcjjcaaGreatDoor
open Go.RowKit

/-- A slice value that reads as these numbers. -/
def SInt (w : World) (v : Value) (xs : List Int) : Prop :=
  ∃ (a : Option Addr) (cap : Nat), v = .slice a xs.length cap ∧ (0 < xs.length → ∃ b off, a = some ⟨b, off, none⟩ ∧ b < w.heap.size ∧ ∀ j, j < xs.length → w.cell? ⟨b, off + j, none⟩ = some (.int .i64 (xs.getD j 0)))
theorem SInt.below {w w' : World} {v : Value} {xs : List Int} (h : SInt w v xs) (hb : Below w.heap.size w w') : SInt w' v xs := by
  obtain ⟨a, cap, hv, hx⟩ := h
  refine ⟨a, cap, hv, fun hp => ?_⟩
  obtain ⟨b, off, ha, hbl, hc⟩ := hx hp
  exact ⟨b, off, ha, Nat.lt_of_lt_of_le hbl hb.size, fun j hj => (hb.cell (p := ⟨b, off + j, none⟩) hbl).trans (hc j hj)⟩
theorem sint_own {w : World} {B : Nat} {v : Value} {xs : List Int} (h : w.ownsRow B 3 1 v xs.length (xs.map (Value.int .i64))) : SInt w v xs := by
  rcases h.2 with ⟨rfl, h0⟩ | ⟨g, cap, cur, rfl, _⟩
  · exact ⟨none, 0, by rw [h0], fun hp => by omega⟩
  · refine ⟨_, cap, rfl, fun _ => ⟨g, 0, rfl, (h.lt g rfl).2, fun j hj => ?_⟩⟩
    rw [Nat.zero_add, h.cellAt j (by omega), List.getElem?_map]
    simp [List.getD, hj]
theorem take_eq_next {xs ys : List Int} {k : Nat} (hl : xs.length = ys.length) (hk : k < xs.length) (h : xs.take k = ys.take k) (he : xs.getD k 0 = ys.getD k 0) : xs.take (k + 1) = ys.take (k + 1) := by
  rw [getD_mem hk, getD_mem (hl ▸ hk)] at he
  rw [take_next hk, take_next (hl ▸ hk), h, he]

set_option maxHeartbeats 1000000 in
theorem ints_any (xs ys : List Int) (va vb : Value) (w : World) (ha : SInt w va xs) (hb : SInt w vb ys) (hlx : xs.length ≤ maxLen) :
    Calls Tryz.prog 11 #[va, vb] w fun e w' => e = .returned (.bool (decide (xs = ys))) ∧ Below w.heap.size w w' := by
  obtain ⟨a1, c1, rfl, hx⟩ := ha
  obtain ⟨a2, c2, rfl, hy⟩ := hb
  unfold maxLen at hlx
  by_cases hl : xs.length = ys.length
  · have hlB : ((xs.length : Int) != (ys.length : Int)) = false := by rw [hl]; simp
    have Hl := Lib.hid hl
    clear hl
    have Hx := Lib.hid hx
    have Hy := Lib.hid hy
    clear hx hy
    go_enter Tryz.func11, Tryz.ntmps11
    go_wp2_with fail
    clear hlB
    go_loopw [5] (fun i wr => ∃ k : Nat, k ≤ xs.length ∧ i = .int .i64 k ∧ xs.take k = ys.take k ∧ Below w.heap.size w wr) (fun i _ => xs.length - (intOf i).toNat)
    case atStart => exact ⟨0, Nat.zero_le _, rfl, rfl, Below.refl _ _⟩
    case round =>
      obtain ⟨k, hk, rfl, htk, hbr⟩ := hrel
      have Htk := Lib.hid htk
      clear htk
      by_cases hkl : k < xs.length
      · obtain ⟨b1, o1, rfl, hb1, hcx⟩ := Hx.out (by omega)
        obtain ⟨b2, o2, rfl, hb2, hcy⟩ := Hy.out (by rw [← Hl.out]; omega)
        have hky : k < ys.length := by rw [← Hl.out]; exact hkl
        have cx := (hbr.cell (p := ⟨b1, o1 + k, none⟩) hb1).trans (hcx k hkl)
        have cy := (hbr.cell (p := ⟨b2, o2 + k, none⟩) hb2).trans (hcy k hky)
        have hnext := fun h => take_eq_next Hl.out hkl Htk.out h
        have hdiff : xs.getD k 0 ≠ ys.getD k 0 → xs ≠ ys := fun h e => h (by rw [e])
        obtain ⟨x, hxk⟩ : ∃ x, xs.getD k 0 = x := ⟨_, rfl⟩
        obtain ⟨y, hyk⟩ : ∃ y, ys.getD k 0 = y := ⟨_, rfl⟩
        rw [hxk] at cx hnext hdiff
        rw [hyk] at cy hnext hdiff
        have Hn := Lib.hid hnext
        have Hd := Lib.hid hdiff
        have n0 : (0 : Int) ≤ (k : Int) := by omega
        have n1 : (k : Int) < (xs.length : Int) := by omega
        have n2 : (k : Int) < (ys.length : Int) := by omega
        clear hcx hcy hnext hdiff hxk hyk
        by_cases he : x = y
        · have he2 : (x != y) = false := by simpa using he
          have He := Lib.hid he
          clear he
          go_wp2_with fail
          go_quiet (fail)
          clear n0 n1 n2 cx cy he2
          go_wp2_with fail
          go_roundw
          case rel => exact ⟨k + 1, by omega, by go_num, Hn.out He.out, below_drewN hbr _⟩
          case measure => simp [intOf]; omega
        · have he2 : (x != y) = true := by simpa using he
          have He := Lib.hid (Hd.out he)
          clear he
          go_wp2_with fail
          go_quiet (fail)
          clear n0 n1 n2 cx cy he2
          go_wp2_with fail
          go_ret
          exact ⟨retB (by simp [He.out]), below_drewN hbr _⟩
      · have hfin : xs = ys := by
          have := Htk.out
          rwa [List.take_of_length_le (by omega), List.take_of_length_le (by rw [← Hl.out]; omega)] at this
        have Hf := Lib.hid hfin
        clear hfin
        go_wp2_with fail
        go_ret
        exact ⟨retB (by simp [Hf.out]), hbr⟩
  · have hlB : ((xs.length : Int) != (ys.length : Int)) = true := by simp; omega
    have Hne := Lib.hid (show xs ≠ ys from fun e => hl (by rw [e]))
    clear hl hx hy
    go_enter Tryz.func11, Tryz.ntmps11
    go_wp2_with fail
    go_ret
    exact ⟨retB (by simp [Hne.out]), Below.refl _ _⟩

/-- A slice value that reads as these fields. -/
def SFld (w : World) (v : Value) (fs : List Fld) : Prop :=
  ∃ (a : Option Addr) (cap : Nat), v = .slice a fs.length cap ∧ (0 < fs.length → ∃ b off, a = some ⟨b, off, none⟩ ∧ b < w.heap.size ∧ ∀ j (hj : j < fs.length), w.cell? ⟨b, off + j * 2, none⟩ = some (.bool fs[j].1) ∧ w.cell? ⟨b, off + j * 2 + 1, none⟩ = some (.string ⟨fs[j].2.toArray⟩))
theorem SFld.below {w w' : World} {v : Value} {fs : List Fld} (h : SFld w v fs) (hb : Below w.heap.size w w') : SFld w' v fs := by
  obtain ⟨a, cap, hv, hx⟩ := h
  refine ⟨a, cap, hv, fun hp => ?_⟩
  obtain ⟨b, off, ha, hbl, hc⟩ := hx hp
  exact ⟨b, off, ha, Nat.lt_of_lt_of_le hbl hb.size, fun j hj => ⟨(hb.cell (p := ⟨b, off + j * 2, none⟩) hbl).trans (hc j hj).1, (hb.cell (p := ⟨b, off + j * 2 + 1, none⟩) hbl).trans (hc j hj).2⟩⟩
theorem fcells_at (fs : List Fld) {j : Nat} (hj : j < fs.length) : (fcells fs)[j * 2]? = some (.bool fs[j].1) ∧ (fcells fs)[j * 2 + 1]? = some (.string ⟨fs[j].2.toArray⟩) := by
  have hc : ∀ t, t < 2 → (fcells fs)[j * 2 + t]? = [Value.bool fs[j].1, .string ⟨fs[j].2.toArray⟩][t]? := by
    intro t ht
    conv => lhs; rw [← List.take_append_drop j fs]
    rw [fcells_app]
    have hl : (fcells (fs.take j)).length = j * 2 := by rw [fcells_length]; simp; omega
    rw [List.getElem?_append_right (by omega), hl, show j * 2 + t - j * 2 = t by omega, List.drop_eq_getElem_cons hj]
    simp only [fcells, List.flatMap_cons]
    rw [List.getElem?_append_left (by simp; omega)]
  exact ⟨hc 0 (by omega), hc 1 (by omega)⟩
theorem sfld_own {w : World} {B : Nat} {e : TypeId} {v : Value} {fs : List Fld} (h : w.ownsRow B e 2 v fs.length (fcells fs)) : SFld w v fs := by
  rcases h.2 with ⟨rfl, h0⟩ | ⟨g, cap, cur, rfl, _⟩
  · exact ⟨none, 0, by rw [h0], fun hp => by omega⟩
  · refine ⟨_, cap, rfl, fun _ => ⟨g, 0, rfl, (h.lt g rfl).2, fun j hj => ?_⟩⟩
    rw [Nat.zero_add, h.cellAt (j * 2) (by omega), h.cellAt (j * 2 + 1) (by omega)]
    exact fcells_at fs hj
theorem infoRef : (Tryz.prog.info? 46).map (fun i => (i.zero, i.size, i.bytes)) = some (some (.agg #[.bool false, .string ⟨#[]⟩]), 2, 24) := by kernel_rfl

set_option maxHeartbeats 1000000 in
set_option maxRecDepth 100000 in
theorem fields_any (fs : List Fld) (v : Value) (w : World) (hv : SFld w v fs) (hl : fs.length ≤ 1000000) :
    Calls Tryz.prog 15 #[v] w fun e w' => ∃ v', e = .returned v' ∧ w'.ownsRow w.heap.size 46 2 v' fs.length (fcells fs) ∧ Below w.heap.size w w' := by
  obtain ⟨a, cap, rfl, hx⟩ := hv
  obtain ⟨i0, hi, hz0, hz1, hz2⟩ := info_parts infoRef
  have Hi := Lib.hid hi
  have Hx := Lib.hid hx
  clear hi hx
  go_enter Tryz.func15, Tryz.ntmps15
  go_wp2_with fail
  go_loopw [3, 4] (fun vo i wr => ∃ k : Nat, k ≤ fs.length ∧ i = .int .i64 k ∧ wr.ownsRow w.heap.size 46 2 vo (fs.take k).length (fcells (fs.take k)) ∧ Below w.heap.size w wr) (fun _ i _ => fs.length - (intOf i).toNat)
  case atStart => exact ⟨0, Nat.zero_le _, rfl, World.ownsRow_nil _ _ _ _, Below.refl _ _⟩
  case round =>
    obtain ⟨k, hk, rfl, hown, hbr⟩ := hrel
    have Hown := Lib.hid hown
    clear hown
    have hbz := hbr.size
    by_cases hkl : k < fs.length
    · obtain ⟨b, off, rfl, hb, hc⟩ := Hx.out (by omega)
      obtain ⟨c0, c1⟩ := hc k hkl
      have c0' := (hbr.cell (p := ⟨b, off + k * 2, none⟩) hb).trans c0
      have c1' := (hbr.cell (p := ⟨b, off + k * 2 + 1, none⟩) hb).trans c1
      have htk := take_next hkl
      generalize fs[k] = f at *
      obtain ⟨q, t⟩ := f
      simp only at c0' c1'
      have Htk := Lib.hid htk
      clear htk hc c0 c1
      have n0 : (0 : Int) ≤ (k : Int) := by omega
      have n1 : (k : Int) < (fs.length : Int) := by omega
      have hkl' : (fs.take k).length ≤ 1000000 := by simp; omega
      have hbk : b < wr.heap.size := by omega
      have hE : wr.ownsRow w.heap.size 46 2 u3 (fs.take k).length (fcells (fs.take k)) := Hown.out
      have HE := Lib.hid hE
      have hne : some b ≠ u3.ownBlock := fun e => by have := (hE.lt b e.symm).1; omega
      clear hE
      go_wp2_with fail
      go_region_held_law (fun w' => w'.cell? ⟨b, off + k * 2, none⟩ = some (.bool q) ∧ w'.cell? ⟨b, off + k * 2 + 1, none⟩ = some (.string ⟨t.toArray⟩))
        (first
          | go_keep
          | (go_split_ands
             refine ⟨?_, ?_⟩
             · (rw [hgrow.cell_far _ (by simp; omega) hne]; assumption)
             · (rw [hgrow.cell_far _ (by simp; omega) hne]; assumption)))
        ((refine step_append_lies _ (by rfl) _ _ _ (by rfl) w.heap.size 46 i0 _ 2 24 Tryz.underlying34 Hi.out hz0 hz1 hz2 rfl (by omega) u3 _ _ (by rfl) ((HE.out.alloc _).drew)
            ⟨wr.heap.size, 0, none⟩ 1 1 [.bool q, .string ⟨t.toArray⟩] (by rfl) (by rfl) (World.news_of_block (cs := #[.bool q, .string ⟨t.toArray⟩]) (t := 46) (fr := (0, 0)) (heap_alloc_new wr _)) (by simp [Value.oneCell'])
            (by omega) (by unfold maxLen; omega) (by omega) (by simp; omega) (wr.heap.size + 1) (by simp) ?_; intro gg cap' w1 hown1 hgrow hat hlt))
      have hb3 : Below w.heap.size w w1 := by
        refine Below.grown (((hbr.alloc hbz _).drew)) hgrow (by simp; omega) ?_
        intro k' e'
        exact (HE.out.lt k' e').1
      have hown4 : w1.ownsRow w.heap.size 46 2 (.slice (some ⟨gg, 0, none⟩) (k + 1) cap') (fs.take (k + 1)).length (fcells (fs.take (k + 1))) := by
        have hlk : (fs.take k).length = k := by simp; omega
        rw [hlk] at hown1
        rw [Htk.out, fcells_app, List.length_append, hlk]; exact hown1
      have Hown4 := Lib.hid hown4
      clear hown1 hown4 hgrow hat hlt n0 n1 c0' c1'
      go_wp2_with fail
      go_roundw
      case rel => exact ⟨k + 1, by omega, by go_num, Hown4.out, hb3⟩
      case measure => simp [intOf]; omega
    · have hkf : fs.take k = fs := List.take_of_length_le (by omega)
      have hown4 := Hown.out
      rw [hkf] at hown4
      have Hown4 := Lib.hid hown4
      clear hown4 hkf
      go_wp2_with fail
      go_ret
      exact ⟨_, rfl, Hown4.out, hbr⟩

theorem take_eq_nextF {xs ys : List Fld} {k : Nat} (hk : k < xs.length) (hk2 : k < ys.length) (h : xs.take k = ys.take k) (he : xs[k] = ys[k]) : xs.take (k + 1) = ys.take (k + 1) := by
  rw [take_next hk, take_next hk2, h, he]
theorem bytes_inj {a b : List UInt8} (h : (⟨a.toArray⟩ : ByteArray) = ⟨b.toArray⟩) : a = b := by
  have := congrArg (fun x : ByteArray => x.data.toList) h
  simpa using this

theorem eqFld (q1 q2 : Bool) (t1 t2 : List UInt8) (w : World) :
    (Op.equalIn 10000 46 (.agg #[.bool q1, .string ⟨t1.toArray⟩]) (.agg #[.bool q2, .string ⟨t2.toArray⟩])).run Tryz.prog w = .ok (q1 == q2 && t1 == t2) w := by
  have hS : Tryz.prog.underlying 46 = some (.struct (Tryz.prog.fieldsOf 46)) := by kernel_rfl
  have hp : Tryz.prog.stoodInHeld 46 = false := by kernel_rfl
  rw [show (10000 : Nat) = 9999 + 1 from rfl, run_equalIn_agg w 9999 46 _ _ hS hp]
  simp only [Program.fieldsOf, Tryz.underlying46]
  go_simp
  by_cases h1 : q1 = q2 <;> by_cases h2 : t1 = t2 <;> simp [h1, h2]
@[go_sem] theorem guardFld (op : BinOp) (x y : Operand) (xs ys : Array Value) (w : World) : (eqGuard op 46 x y (.agg xs) (.agg ys)).run Tryz.prog w = .ok () w := run_eqGuard_agg w op _ x y xs ys (by kernel_rfl)

set_option maxHeartbeats 1000000 in
theorem alike_any (xs ys : List Fld) (va vb : Value) (w : World) (ha : SFld w va xs) (hb : SFld w vb ys) (hlx : xs.length ≤ maxLen) :
    Calls Tryz.prog 14 #[va, vb] w fun e w' => e = .returned (.bool (decide (xs = ys))) ∧ Below w.heap.size w w' := by
  obtain ⟨a1, c1, rfl, hx⟩ := ha
  obtain ⟨a2, c2, rfl, hy⟩ := hb
  unfold maxLen at hlx
  by_cases hl : xs.length = ys.length
  · have hlB : ((xs.length : Int) != (ys.length : Int)) = false := by rw [hl]; simp
    have Hl := Lib.hid hl
    clear hl
    have Hx := Lib.hid hx
    have Hy := Lib.hid hy
    clear hx hy
    go_enter Tryz.func14, Tryz.ntmps14
    go_wp2_with fail
    clear hlB
    go_loopw [5] (fun i wr => ∃ k : Nat, k ≤ xs.length ∧ i = .int .i64 k ∧ xs.take k = ys.take k ∧ Below w.heap.size w wr) (fun i _ => xs.length - (intOf i).toNat)
    case atStart => exact ⟨0, Nat.zero_le _, rfl, rfl, Below.refl _ _⟩
    case round =>
      obtain ⟨k, hk, rfl, htk, hbr⟩ := hrel
      have Htk := Lib.hid htk
      clear htk
      by_cases hkl : k < xs.length
      · obtain ⟨b1, o1, rfl, hb1, hcx⟩ := Hx.out (by omega)
        obtain ⟨b2, o2, rfl, hb2, hcy⟩ := Hy.out (by rw [← Hl.out]; omega)
        have hky : k < ys.length := by rw [← Hl.out]; exact hkl
        have cx0 := (hbr.cell (p := ⟨b1, o1 + k * 2, none⟩) hb1).trans (hcx k hkl).1
        have cx1 := (hbr.cell (p := ⟨b1, o1 + k * 2 + 1, none⟩) hb1).trans (hcx k hkl).2
        have cy0 := (hbr.cell (p := ⟨b2, o2 + k * 2, none⟩) hb2).trans (hcy k hky).1
        have cy1 := (hbr.cell (p := ⟨b2, o2 + k * 2 + 1, none⟩) hb2).trans (hcy k hky).2
        have hnext := fun h => take_eq_nextF hkl hky Htk.out h
        have hdiff : xs[k] ≠ ys[k] → xs ≠ ys := fun h e => h (by subst e; rfl)
        obtain ⟨x, hxk⟩ : ∃ x, xs[k] = x := ⟨_, rfl⟩
        obtain ⟨y, hyk⟩ : ∃ y, ys[k] = y := ⟨_, rfl⟩
        rw [hxk] at cx0 cx1 hnext hdiff
        rw [hyk] at cy0 cy1 hnext hdiff
        obtain ⟨q1, t1⟩ := x
        obtain ⟨q2, t2⟩ := y
        simp only at cx0 cx1 cy0 cy1
        have Hn := Lib.hid hnext
        have Hd := Lib.hid hdiff
        have n0 : (0 : Int) ≤ (k : Int) := by omega
        have n1 : (k : Int) < (xs.length : Int) := by omega
        have n2 : (k : Int) < (ys.length : Int) := by omega
        clear hcx hcy hnext hdiff hxk hyk
        by_cases he : (q1, t1) = (q2, t2)
        · have he1 : (q1 == q2 && t1 == t2) = true := by simpa using he
          have he2 : ∀ w, (Op.equalIn 10000 46 (.agg #[.bool q1, .string ⟨t1.toArray⟩]) (.agg #[.bool q2, .string ⟨t2.toArray⟩])).run Tryz.prog w = .ok true w := fun w => by rw [eqFld, he1]
          clear he1
          have He := Lib.hid he
          clear he
          go_wp2_with fail
          go_quiet (fail)
          clear n0 n1 n2 cx0 cx1 cy0 cy1 he2
          go_wp2_with fail
          go_roundw
          case rel => exact ⟨k + 1, by omega, by go_num, Hn.out He.out, below_drewN hbr _⟩
          case measure => simp [intOf]; omega
        · have he1 : (q1 == q2 && t1 == t2) = false := by
            simp only [Prod.mk.injEq, not_and] at he
            by_cases h1 : q1 = q2 <;> simp [h1]
            exact he h1
          have he2 : ∀ w, (Op.equalIn 10000 46 (.agg #[.bool q1, .string ⟨t1.toArray⟩]) (.agg #[.bool q2, .string ⟨t2.toArray⟩])).run Tryz.prog w = .ok false w := fun w => by rw [eqFld, he1]
          clear he1
          have He := Lib.hid (Hd.out he)
          clear he
          go_wp2_with fail
          go_quiet (fail)
          clear n0 n1 n2 cx0 cx1 cy0 cy1 he2
          go_wp2_with fail
          go_ret
          exact ⟨retB (by simp [He.out]), below_drewN hbr _⟩
      · have hfin : xs = ys := by
          have := Htk.out
          rwa [List.take_of_length_le (by omega), List.take_of_length_le (by rw [← Hl.out]; omega)] at this
        have Hf := Lib.hid hfin
        clear hfin
        go_wp2_with fail
        go_ret
        exact ⟨retB (by simp [Hf.out]), hbr⟩
  · have hlB : ((xs.length : Int) != (ys.length : Int)) = true := by simp; omega
    have Hne := Lib.hid (show xs ≠ ys from fun e => hl (by rw [e]))
    clear hl hx hy
    go_enter Tryz.func14, Tryz.ntmps14
    go_wp2_with fail
    go_ret
    exact ⟨retB (by simp [Hne.out]), Below.refl _ _⟩
end Go.Proofs.YtkbmdmipdcjjcaaGreatDoor
