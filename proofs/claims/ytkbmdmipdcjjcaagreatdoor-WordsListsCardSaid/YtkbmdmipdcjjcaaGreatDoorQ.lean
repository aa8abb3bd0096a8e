/- expand of package words. -/
import Derived.Test.YtkbmdmipdcjjcaaGreatDoorP
namespace Go.Proofs.YtkbmdmipdcjjcaaGreatDoor
open Go.RowKit

abbrev NItm := Nat × Nat × Nat
def toI (x : NItm) : Itm := ((x.1 : Int), (x.2.1 : Int), (x.2.2 : Int))
def okN (x : NItm) : Prop := x.1 ≤ 10000 ∧ x.2.1 ≤ x.2.2 ∧ x.2.2 ≤ 10000
def numN (x : NItm) : Nat := x.1 * (x.2.2 - x.2.1 + 1)
def sumN (l : List NItm) : Nat := (l.map numN).sum
/-- The numbers from b on, so many, each a times. -/
def runN (a : Nat) : Nat → Nat → List Int
  | 0, _ => []
  | k + 1, b => List.replicate a (b : Int) ++ runN a k (b + 1)
def expN (l : List NItm) : List Int := l.flatMap fun x => runN x.1 (x.2.2 - x.2.1 + 1) x.2.1
theorem runN_length (a : Nat) : ∀ (k b : Nat), (runN a k b).length = a * k
  | 0, _ => rfl
  | k + 1, b => by rw [runN, List.length_append, List.length_replicate, runN_length a k, Nat.mul_succ]; omega
theorem runN_snoc (a : Nat) : ∀ (k b : Nat), runN a (k + 1) b = runN a k b ++ List.replicate a ((b + k : Nat) : Int)
  | 0, b => by simp [runN]
  | k + 1, b => by
    have ih := runN_snoc a k (b + 1)
    rw [runN, ih, runN, List.append_assoc, show b + 1 + k = b + (k + 1) by omega]
theorem expN_length (l : List NItm) : (expN l).length = sumN l := by
  induction l with
  | nil => rfl
  | cons x l ih => simp only [expN, sumN, List.flatMap_cons, List.length_append, List.map_cons, List.sum_cons] at ih ⊢; rw [ih, runN_length]; rfl
theorem take_next {α : Type} {l : List α} {k : Nat} (h : k < l.length) : l.take (k + 1) = l.take k ++ [l[k]] := by
  rw [List.take_succ_eq_append_getElem h]
theorem sumN_snoc {l : List NItm} {k : Nat} (h : k < l.length) : sumN (l.take (k + 1)) = sumN (l.take k) + numN l[k] := by
  rw [take_next h]; simp only [sumN, List.map_append, List.map_cons, List.map_nil, List.sum_append, List.sum_cons, List.sum_nil]; omega
theorem expN_snoc {l : List NItm} {k : Nat} (h : k < l.length) : expN (l.take (k + 1)) = expN (l.take k) ++ runN l[k].1 (l[k].2.2 - l[k].2.1 + 1) l[k].2.1 := by
  rw [take_next h]; simp only [expN, List.flatMap_append, List.flatMap_cons, List.flatMap_nil, List.append_nil]
theorem numN_le {x : NItm} (h : okN x) : numN x ≤ 100010000 := by
  obtain ⟨h1, h2, h3⟩ := h
  unfold numN
  calc x.1 * (x.2.2 - x.2.1 + 1) ≤ 10000 * 10001 := Nat.mul_le_mul h1 (by omega)
    _ = 100010000 := rfl
theorem sumN_le {l : List NItm} (h : ∀ x ∈ l, okN x) : sumN l ≤ l.length * 100010000 := by
  induction l with
  | nil => simp [sumN]
  | cons x l ih =>
    have := numN_le (h x (List.mem_cons_self ..))
    have := ih (fun y hy => h y (List.mem_cons_of_mem _ hy))
    simp only [sumN, List.map_cons, List.sum_cons, List.length_cons] at this ⊢
    omega
theorem sumN_take_le {l : List NItm} (k : Nat) : sumN (l.take k) ≤ sumN l := by
  have : sumN l = sumN (l.take k) + sumN (l.drop k) := by
    conv => lhs; rw [← List.take_append_drop k l]
    simp only [sumN, List.map_append, List.sum_append]
  omega
theorem cell_items {w : World} {b g n cap : Nat} {l : List NItm} (h : w.ownsRow b 55 3 (.slice (some ⟨g, 0, none⟩) n cap) n (icells (l.map toI))) {k : Nat} (hk : k < l.length) (hn : n = l.length) :
    w.cell? ⟨g, k * 3, none⟩ = some (.int .i64 l[k].1) ∧ w.cell? ⟨g, k * 3 + 1, none⟩ = some (.int .i64 l[k].2.1) ∧ w.cell? ⟨g, k * 3 + 2, none⟩ = some (.int .i64 l[k].2.2) := by
  have hc : ∀ j, j < 3 → (icells (l.map toI))[k * 3 + j]? = [Value.int .i64 l[k].1, .int .i64 l[k].2.1, .int .i64 l[k].2.2][j]? := by
    intro j hj
    conv => lhs; rw [← List.take_append_drop k l]
    rw [List.map_append, icells_app]
    have hl : (icells ((l.take k).map toI)).length = k * 3 := by rw [icells_length]; simp; omega
    rw [List.getElem?_append_right (by omega), hl, show k * 3 + j - k * 3 = j by omega, List.drop_eq_getElem_cons hk]
    simp only [List.map_cons, icells, List.flatMap_cons, toI]
    rw [List.getElem?_append_left (by simp; omega)]
  refine ⟨?_, ?_, ?_⟩
  · rw [h.cellAt (k * 3) (by omega)]; exact hc 0 (by omega)
  · rw [h.cellAt (k * 3 + 1) (by omega)]; exact hc 1 (by omega)
  · rw [h.cellAt (k * 3 + 2) (by omega)]; exact hc 2 (by omega)

theorem kept_x {w w' : World} {b n X : Nat} {e e' : TypeId} {size : Nat} {v : Value} {xs : List Value} {cs : Array Value} {fr : Nat × Nat} (h : w.ownsRow b e size v n xs) (hx : w.heap[X]? = some (.cells cs e' fr)) (hne : e ≠ e') (hg : w.grownBy w' v.ownBlock) : w'.heap[X]? = some (.cells cs e' fr) := by
  rw [hg.block X (Array.getElem?_eq_some_iff.1 hx).1 ?_]
  · exact hx
  · intro e2
    rcases h.2 with ⟨rfl, _⟩ | ⟨g, cap, cur, rfl, _, hgg, _⟩
    · simp [Value.ownBlock] at e2
    · simp [Value.ownBlock] at e2
      subst e2
      rw [hgg] at hx
      simp at hx
      exact hne hx.2.1
def ExpandPost (w : World) (l : List NItm) (e : Ending) (w' : World) : Prop :=
  if 500 < sumN l then e = .returned (.tuple #[.slice none 0 0, .int .i64 3]) ∧ Below w.heap.size w w'
  else ∃ v : Value, e = .returned (.tuple #[v, .int .i64 0]) ∧ w'.ownsRow w.heap.size 3 1 v (expN l).length ((expN l).map (Value.int .i64)) ∧ Below w.heap.size w w'

theorem infoInt : (Tryz.prog.info? 3).map (fun i => (i.zero, i.size, i.bytes)) = some (some (.int .i64 0), 1, 8) := by kernel_rfl

set_option maxHeartbeats 2000000 in
set_option maxRecDepth 100000 in
theorem expand_any (l : List NItm) (v : Value) (b0 : Nat) (w : World) (hok : ∀ x ∈ l, okN x) (hn : l.length ≤ 4000) (hv : w.ownsRow b0 55 3 v l.length (icells (l.map toI))) :
    Calls Tryz.prog 23 #[v] w (ExpandPost w l) := by
  obtain ⟨i0, hi, hz0, hz1, hz2⟩ := info_parts infoInt
  have Hi := Lib.hid hi; clear hi
  rcases hv.2 with ⟨rfl, h0⟩ | ⟨g, cap, cur, rfl, hg0, hgg, _⟩
  · have hP0 : ∀ v' w', w'.ownsRow w.heap.size 3 1 v' 0 [] → Below w.heap.size w w' → ExpandPost w l (.returned (.tuple #[v', .int .i64 0])) w' := fun v' w' h1 h2 => by
      obtain rfl : l = [] := List.eq_nil_of_length_eq_zero h0
      unfold ExpandPost; rw [if_neg (by simp [sumN])]; exact ⟨v', rfl, h1, h2⟩
    have HP0 := Lib.hid hP0
    clear hv hok hP0 h0
    go_enter Tryz.func23, Tryz.ntmps23
    go_wp2_with fail
    go_loopw [4, 13] (fun m i wr => i = .int .i64 0 ∧ m = .int .i64 0 ∧ Below w.heap.size w wr) (fun _ _ _ => 0)
    case atStart => exact ⟨rfl, rfl, Below.refl _ _⟩
    case round =>
      obtain ⟨rfl, rfl, hbw⟩ := hrel
      have hbz := hbw.size
      go_wp2_with (at_make; refine wpList_make_own _ rfl _ _ 22 rfl w.heap.size 3 i0 (.int .i64 0) 1 Tryz.underlying22 Hi.out hz0 hz1 .i64 .i64 _ 0 rfl rfl rfl (by rw [hz2]; omega) (by unfold maxLen; omega) hbz ?_; intro w2 hown2 hgr2)
      have hbw2 : Below w.heap.size w w2 := Below.grown hbw hgr2 hbz (fun _ e => by cases e)
      have Hown2 := Lib.hid hown2
      clear hown2 hgr2
      generalize hV : Value.slice (some ⟨wr.heap.size, 0, none⟩) 0 0 = V at *
      clear hV
      go_loopw [7, 35] (fun v i wx => i = .int .i64 0 ∧ wx.ownsRow w.heap.size 3 1 v 0 [] ∧ Below w.heap.size w wx) (fun _ _ _ => 0)
      case atStart => exact ⟨rfl, Hown2.out, hbw2⟩
      case round =>
        obtain ⟨rfl, hown, hbx⟩ := hrel
        have Hown := Lib.hid hown
        clear hown Hown2 hbw hbw2
        go_wp2_with fail
        go_ret2
        exact HP0.out _ _ Hown.out hbx
  · have hlt := (hv.lt g rfl).2
    have Hv := Lib.hid hv
    have Hok := Lib.hid hok
    clear hv hok hgg
    go_enter Tryz.func23, Tryz.ntmps23
    go_wp2_with fail
    go_loopw [4, 13] (fun m i wr => ∃ k : Nat, k ≤ l.length ∧ i = .int .i64 k ∧ m = .int .i64 (sumN (l.take k)) ∧ Below w.heap.size w wr) (fun _ i _ => l.length - (intOf i).toNat)
    case atStart => exact ⟨0, Nat.zero_le _, rfl, rfl, Below.refl _ _⟩
    case round =>
      obtain ⟨k, hk, rfl, rfl, hbw⟩ := hrel
      by_cases hkl : k < l.length
      · obtain ⟨c0, c1, c2⟩ := cell_items Hv.out hkl rfl
        have c0' := (hbw.cell (p := ⟨g, k * 3, none⟩) hlt).trans c0
        have c1' := (hbw.cell (p := ⟨g, k * 3 + 1, none⟩) hlt).trans c1
        have c2' := (hbw.cell (p := ⟨g, k * 3 + 2, none⟩) hlt).trans c2
        have hsn := sumN_snoc hkl
        have hle : sumN (l.take k) ≤ k * 100010000 := Nat.le_trans (sumN_le fun x hx => Hok.out x (List.mem_of_mem_take hx)) (by rw [List.length_take]; exact Nat.mul_le_mul_right _ (Nat.min_le_left _ _))
        have hx := Hok.out l[k] (List.getElem_mem hkl)
        have hnm := numN_le hx
        obtain ⟨o1, o2, o3⟩ := hx
        unfold numN at hsn hnm
        generalize l[k].1 = a at *
        generalize l[k].2.1 = b at *
        generalize l[k].2.2 = c at *
        generalize sumN (l.take k) = S at *
        have hsn' : sumN (l.take (k + 1)) = S + a * (c - b + 1) := hsn
        have Hsn := Lib.hid hsn'
        have hmul : (a : Int) * ((c : Int) - (b : Int) + 1) ≤ 100010000 := by
          have : ((a * (c - b + 1) : Nat) : Int) ≤ 100010000 := by omega
          rw [show (c : Int) - (b : Int) + 1 = ((c - b + 1 : Nat) : Int) by omega, ← Int.natCast_mul]; exact this
        have hmul0 : 0 ≤ (a : Int) * ((c : Int) - (b : Int) + 1) := Int.mul_nonneg (by omega) (by omega)
        clear hsn hsn' hnm c0 c1 c2
        have hbz := hbw.size
        have hglt : g < wr.heap.size := by omega
        go_wp2_with fail
        go_roundw
        case rel => exact ⟨k + 1, by omega, by go_num, by rw [Hsn.out, show ((S + a * (c - b + 1) : Nat) : Int) = (S : Int) + (a : Int) * ((c : Int) - (b : Int) + 1) by rw [Int.natCast_add, Int.natCast_mul, show ((c - b + 1 : Nat) : Int) = (c : Int) - (b : Int) + 1 by omega]], hbw.alloc hbz _⟩
        case measure => simp [intOf]; omega
      · have hkl' : l.take k = l := List.take_of_length_le (by omega)
        rw [hkl']
        have hmx : sumN l ≤ l.length * 100010000 := sumN_le Hok.out
        have hEl := expN_length l
        have HEl := Lib.hid hEl
        have hP3 : 500 < sumN l → ExpandPost w l (.returned (.tuple #[.slice none 0 0, .int .i64 3])) wr := fun h => by unfold ExpandPost; rw [if_pos h]; exact ⟨rfl, hbw⟩
        have hP0 : ¬ 500 < sumN l → ∀ v' w', w'.ownsRow w.heap.size 3 1 v' (expN l).length ((expN l).map (Value.int .i64)) → Below w.heap.size w w' → ExpandPost w l (.returned (.tuple #[v', .int .i64 0])) w' := fun h v' w' h1 h2 => by unfold ExpandPost; rw [if_neg h]; exact ⟨v', rfl, h1, h2⟩
        have HP3 := Lib.hid hP3
        have HP0 := Lib.hid hP0
        clear hkl' hEl hP3 hP0
        have hbz := hbw.size
        by_cases hbig : 500 < sumN l
        · go_wp2_with fail
          go_ret2
          exact HP3.out hbig
        · obtain ⟨N, hN⟩ : ∃ N, sumN l = N := ⟨_, rfl⟩
          have HN := Lib.hid hN
          rw [hN] at hbig hmx ⊢
          clear hN
          go_wp2_with (at_make; refine wpList_make_own _ rfl _ _ 22 rfl w.heap.size 3 i0 (.int .i64 0) 1 Tryz.underlying22 Hi.out hz0 hz1 .i64 .i64 _ N rfl rfl rfl (by rw [hz2]; omega) (by unfold maxLen; omega) hbz ?_; intro w2 hown2 hgr2)
          have hbw2 : Below w.heap.size w w2 := Below.grown hbw hgr2 hbz (fun _ e => by cases e)
          have Hown2 := Lib.hid hown2
          clear hown2 hgr2
          generalize hV : Value.slice (some ⟨wr.heap.size, 0, none⟩) 0 N = V at *
          clear hV
          go_loopw [7, 35] (fun v i wx => ∃ k : Nat, k ≤ l.length ∧ i = .int .i64 k ∧ wx.ownsRow w.heap.size 3 1 v (expN (l.take k)).length ((expN (l.take k)).map (Value.int .i64)) ∧ Below w.heap.size w wx) (fun _ i _ => l.length - (intOf i).toNat)
          case atStart => exact ⟨0, Nat.zero_le _, rfl, Hown2.out, hbw2⟩
          case round =>
            obtain ⟨k2, hk2, rfl, hownx, hbx⟩ := hrel
            rename World => wx
            clear hbw hbw2 Hown2 hbz
            by_cases hkl2 : k2 < l.length
            · obtain ⟨c0, c1, c2⟩ := cell_items Hv.out hkl2 rfl
              have c0' := (hbx.cell (p := ⟨g, k2 * 3, none⟩) hlt).trans c0
              have c1' := (hbx.cell (p := ⟨g, k2 * 3 + 1, none⟩) hlt).trans c1
              have c2' := (hbx.cell (p := ⟨g, k2 * 3 + 2, none⟩) hlt).trans c2
              have hen := expN_snoc hkl2
              have htl : sumN (l.take (k2 + 1)) ≤ N := by rw [← HN.out]; exact sumN_take_le _
              rw [sumN_snoc hkl2, ← expN_length (l.take k2)] at htl
              obtain ⟨o1, o2, o3⟩ := Hok.out l[k2] (List.getElem_mem hkl2)
              unfold numN at htl
              generalize l[k2].1 = a at *
              generalize l[k2].2.1 = b at *
              generalize l[k2].2.2 = c at *
              generalize expN (l.take k2) = E at *
              have Hen := Lib.hid hen
              have Hownx := Lib.hid hownx
              clear hen hownx c0 c1 c2
              have hbz := hbx.size
              have hglt : g < wx.heap.size := by omega
              have hprod : a * (c - b + 1) ≤ 500 := by omega
              go_wp2_with fail
              have Hown1 := Lib.hid (Hownx.out.alloc (.cells #[.int .i64 a, .int .i64 b, .int .i64 c] 55))
              have Hb1 := Lib.hid (hbx.alloc hbz (.cells #[.int .i64 a, .int .i64 b, .int .i64 c] 55))
              have Hx1 := Lib.hid (heap_alloc_new wx (.cells #[.int .i64 a, .int .i64 b, .int .i64 c] 55))
              clear c0' c1' c2' Hownx
              go_loopw [7, 10] (fun v i wy => ∃ d : Nat, b ≤ d ∧ d ≤ c + 1 ∧ i = .int .i64 d ∧ wy.ownsRow w.heap.size 3 1 v (E ++ runN a (d - b) b).length ((E ++ runN a (d - b) b).map (Value.int .i64)) ∧ Below w.heap.size w wy ∧ wy.heap[wx.heap.size]? = some (.cells #[.int .i64 a, .int .i64 b, .int .i64 c] 55 (0, 0))) (fun _ i _ => c + 1 - (intOf i).toNat)
              case atStart => exact ⟨b, Nat.le_refl _, by omega, rfl, by rw [Nat.sub_self]; simpa [runN] using Hown1.out, Hb1.out, Hx1.out⟩
              case round =>
                obtain ⟨d, hd1, hd2, rfl, howny, hby, hxy⟩ := hrel
                rename World => wy
                have cx0 : wy.cell? ⟨wx.heap.size, 0, none⟩ = some (.int .i64 a) := cell_of_row _ _ 0 _ _ _ hxy
                have cx2 : wy.cell? ⟨wx.heap.size, 2, none⟩ = some (.int .i64 c) := cell_of_row _ _ 2 _ _ _ hxy
                have Howny := Lib.hid howny
                have Hxy := Lib.hid hxy
                clear howny hxy
                by_cases hdc : d ≤ c
                · have hEl : E.length ≤ 500 := by omega
                  have hrl : (runN a (d - b) b).length ≤ 100010000 := by
                    rw [runN_length]
                    calc a * (d - b) ≤ 10000 * 10001 := Nat.mul_le_mul o1 (by omega)
                      _ = 100010000 := rfl
                  have hsnoc : runN a (d + 1 - b) b = runN a (d - b) b ++ List.replicate a (d : Int) := by
                    rw [show d + 1 - b = (d - b) + 1 by omega, runN_snoc, show b + (d - b) = d by omega]
                  have Hsnoc := Lib.hid hsnoc
                  clear hsnoc
                  generalize runN a (d - b) b = R at *
                  go_wp2_with fail
                  clear cx0 cx2
                  go_loopw [7, 49] (fun v i wz => ∃ t : Nat, t ≤ a ∧ i = .int .i64 t ∧ wz.ownsRow w.heap.size 3 1 v (E ++ R ++ List.replicate t (d : Int)).length ((E ++ R ++ List.replicate t (d : Int)).map (Value.int .i64)) ∧ Below w.heap.size w wz ∧ wz.heap[wx.heap.size]? = some (.cells #[.int .i64 a, .int .i64 b, .int .i64 c] 55 (0, 0))) (fun _ i _ => a - (intOf i).toNat)
                  case atStart => exact ⟨0, Nat.zero_le _, rfl, by simpa using Howny.out, hby, Hxy.out⟩
                  case round =>
                    obtain ⟨t, ht, rfl, hownz, hbz', hxz⟩ := hrel
                    rename World => wz
                    clear hby Howny Hxy
                    have hlz : (E ++ R ++ List.replicate t (d : Int)).length ≤ 200000000 := by simp; omega
                    generalize hF : E ++ R ++ List.replicate t (d : Int) = F at *
                    have HF := Lib.hid hF
                    have Hownz := Lib.hid (hownz.alloc (.cells #[.int .i64 (d : Int)] 3))
                    have Hownz0 := Lib.hid hownz
                    have Hxz := Lib.hid hxz
                    have hbs := hbz'.size
                    clear hF hownz hxz
                    by_cases hta : t < a
                    · go_wp2_with (at_builtin; refine wpList_append_own _ rfl _ _ 22 rfl w.heap.size 3 i0 (.int .i64 0) 1 8 Tryz.underlying22 Hi.out hz0 hz1 hz2 rfl (by decide) _ _ _ rfl Hownz.out ⟨wz.heap.size, 0, none⟩ 1 1 [.int .i64 (d : Int)] rfl rfl ?c1 ?c2 ?c3 ?c4 ?c5 ?_)
                      case c1 => exact cell_one_new _ _ _
                      case c2 => simp [Value.oneCell']
                      case c3 => unfold maxLen; omega
                      case c4 => omega
                      case c5 => simp; omega
                      intro v' w3 hown3 hgrow _
                      have hb3 : Below w.heap.size w w3 := by
                        refine Below.grown (hbz'.alloc hbs _) hgrow (by simp; omega) ?_
                        intro k' e'
                        exact (Hownz.out.lt k' e').1
                      have hx3 := kept_x Hownz.out ((Below.heap_alloc _ _ _ (Array.getElem?_eq_some_iff.1 Hxz.out).1).trans Hxz.out) (by decide) hgrow
                      have hown4 : w3.ownsRow w.heap.size 3 1 v' (E ++ R ++ List.replicate (t + 1) (d : Int)).length ((E ++ R ++ List.replicate (t + 1) (d : Int)).map (Value.int .i64)) := by
                        rw [List.replicate_succ', ← List.append_assoc, HF.out, List.length_append, List.map_append]; exact hown3
                      have Hown4 := Lib.hid hown4
                      have Hx3 := Lib.hid hx3
                      clear hown3 hown4 hgrow hx3
                      go_wp2_with fail
                      go_roundw
                      case rel => exact ⟨t + 1, by omega, by go_num, Hown4.out, hb3, Hx3.out⟩
                      case measure => simp [intOf]; omega
                    · have hta' : t = a := by omega
                      have hR2 : E ++ runN a (d + 1 - b) b = F := by rw [Hsnoc.out, ← List.append_assoc, ← HF.out, hta']
                      have HR2 := Lib.hid hR2
                      clear hta' hR2
                      go_wp2_with fail
                      go_roundw
                      case rel => exact ⟨d + 1, by omega, by omega, by go_num, by rw [HR2.out]; exact Hownz0.out, hbz', Hxz.out⟩
                      case measure => simp [intOf]; omega
                · have hdc' : d = c + 1 := by omega
                  have hR2 : expN (l.take (k2 + 1)) = E ++ runN a (d - b) b := by rw [Hen.out, show c - b + 1 = d - b by omega]
                  have HR2 := Lib.hid hR2
                  clear hdc' hR2
                  go_wp2_with fail
                  go_roundw
                  case rel => exact ⟨k2 + 1, by omega, by go_num, by rw [HR2.out]; exact Howny.out, hby⟩
                  case measure => simp [intOf]; omega
            · have hkl3 : expN (l.take k2) = expN l := by rw [List.take_of_length_le (by omega)]
              rw [hkl3] at hownx
              have Hownx := Lib.hid hownx
              clear hkl3 hownx
              have hnb : ¬ 500 < sumN l := by rw [HN.out]; exact hbig
              go_wp2_with fail
              go_ret2
              exact HP0.out hnb _ _ Hownx.out hbx
end Go.Proofs.YtkbmdmipdcjjcaaGreatDoor
