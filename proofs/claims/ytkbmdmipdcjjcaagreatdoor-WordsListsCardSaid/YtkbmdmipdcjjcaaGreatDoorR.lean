/- ParseList of package words: what it returns, and the memory of its result. -/
import Derived.Test.YtkbmdmipdcjjcaaGreatDoorN
namespace Go.Proofs.YtkbmdmipdcjjcaaGreatDoor
open Go.RowKit

def toN (i : Itm) : NItm := (i.1.toNat, i.2.1.toNat, i.2.2.toNat)
theorem toN_toI (x : NItm) : toN (toI x) = x := by simp [toN, toI]
def parP (l : List UInt8) : List Int × Int :=
  if 2500 < l.length then ([], 3) else match itemsP l with
  | none => ([], 6)
  | some is => if is.any (fun i => decide (9999 < i.2.2)) then ([], 7)
    else if 500 < sumN (is.map toN) then ([], 3) else (expN (is.map toN), 0)

def ParPost (w : World) (l : List UInt8) (e : Ending) (w' : World) : Prop :=
  ∃ v : Value, e = .returned (.tuple #[v, .int .i64 (parP l).2]) ∧ w'.ownsRow w.heap.size 3 1 v (parP l).1.length ((parP l).1.map (Value.int .i64)) ∧ Below w.heap.size w w'
theorem par_err {w w' : World} {l : List UInt8} {c : Int} (h : parP l = ([], c)) (hb : Below w.heap.size w w') : ParPost w l (.returned (.tuple #[.slice none 0 0, .int .i64 c])) w' := by
  unfold ParPost; rw [h]; exact ⟨_, rfl, World.ownsRow_nil _ _ _ _, hb⟩

set_option maxHeartbeats 400000 in
theorem ParseList_long (s : ByteArray) (w : World) (h : 2500 < s.size) (hs : s.size ≤ maxLen) :
    Calls Tryz.prog 9 #[.string s] w (ParPost w s.data.toList) := by
  have hP := Lib.hid (par_err (w := w) (w' := w) (l := s.data.toList) (c := 3) (by unfold parP; rw [size_len, if_pos h]) (Below.refl _ _))
  unfold maxLen at hs
  go_enter Tryz.func9, Tryz.ntmps9
  go_wp2_with fail
  go_ret2
  exact hP.out

set_option maxHeartbeats 2000000 in
set_option maxRecDepth 100000 in
theorem ParseList_short (s : ByteArray) (w : World) (g : Glob w) (h : s.size ≤ 2500) :
    Calls Tryz.prog 9 #[.string s] w (ParPost w s.data.toList) := by
  have hI := parseItems_any s w g (by omega)
  have h25 : ¬ 2500 < s.data.toList.length := by rw [size_len]; omega
  cases hit : itemsP s.data.toList with
  | none =>
    have hP : ∀ w', Below w.heap.size w w' → ParPost w s.data.toList (.returned (.tuple #[.slice none 0 0, .int .i64 6])) w' := fun w' hb => par_err (by unfold parP; rw [if_neg h25, hit]) hb
    have HP := Lib.hid hP
    unfold ItemsPost at hI
    rw [hit] at hI
    clear hP hit h25
    go_enter Tryz.func9, Tryz.ntmps9
    go_wp2_with fail
    refine hI.mono ?_
    rintro e w1 ⟨v, rfl, _, hb⟩
    go_wp2_with fail
    go_ret2
    exact HP.out _ hb
  | some is =>
    obtain ⟨hlen, xs, rfl, hxs⟩ := itemsP_ok hit
    rw [size_len, List.length_map] at hlen
    have hlen4 : xs.length ≤ 4000 := by omega
    unfold ItemsPost at hI
    rw [hit] at hI
    simp only [Option.isSome_some, Option.getD_some, List.length_map] at hI
    have hmapN : (xs.map toI).map toN = xs := by rw [List.map_map]; conv => rhs; rw [← List.map_id xs]
                                                 exact List.map_congr_left fun x _ => toN_toI x
    have hany : (xs.map toI).any (fun i => decide (9999 < i.2.2)) = xs.any (fun x => decide (9999 < x.2.2)) := by
      rw [List.any_map]
      exact congrArg xs.any (funext fun x => by rw [Bool.eq_iff_iff, Function.comp, decide_eq_true_iff, decide_eq_true_iff]; show (9999 : Int) < ((x.2.2 : Nat) : Int) ↔ _; omega)
    have hpar : parP s.data.toList = if xs.any (fun x => decide (9999 < x.2.2)) then ([], 7) else if 500 < sumN xs then ([], 3) else (expN xs, 0) := by
      unfold parP; rw [if_neg h25, hit]; simp only [hmapN, hany]
    have Hpar := Lib.hid hpar
    have Hxs := Lib.hid hxs
    clear hmapN hany hpar hxs hit h25
    go_enter Tryz.func9, Tryz.ntmps9
    go_wp2_with fail
    refine hI.mono ?_
    rintro e w1 ⟨v, rfl, hown, hb⟩
    have Hown := Lib.hid hown
    have hE := fun wx (hx : Below w1.heap.size w1 wx) => expand_any xs v w.heap.size wx Hxs.out hlen4 (own_below Hown.out hx)
    have hfin : xs.any (fun x => decide (9999 < x.2.2)) = false → ∀ wx, Below w1.heap.size w1 wx → ∀ e w', ExpandPost wx xs e w' → ∃ v' c, e = .returned (.tuple #[v', c]) ∧ ParPost w s.data.toList (.returned (.tuple #[v', c])) w' := by
      intro hany wx hx e w' hp
      have hbx : Below w.heap.size w wx := hb.trans (hx.mono hb.size)
      unfold ExpandPost at hp
      have hpp := Hpar.out
      rw [hany] at hpp
      simp only [Bool.false_eq_true, if_false] at hpp
      split at hp
      · rename_i h5
        rw [if_pos h5] at hpp
        exact ⟨_, _, hp.1, par_err hpp (hbx.trans (hp.2.mono hbx.size))⟩
      · rename_i h5
        rw [if_neg h5] at hpp
        obtain ⟨v', he, ho, hb'⟩ := hp
        exact ⟨_, _, he, by unfold ParPost; rw [hpp]; exact ⟨v', rfl, own_mono ho hbx.size, hbx.trans (hb'.mono hbx.size)⟩⟩
    have Hfin := Lib.hid hfin
    rcases hown.2 with ⟨rfl, h0⟩ | ⟨g', cap, cur, rfl, _, hgg, _⟩
    · obtain rfl : xs = [] := List.eq_nil_of_length_eq_zero h0
      clear hown hfin h0 hlen
      go_wp2_with fail
      go_loopw [20] (fun i wr => i = .int .i64 0 ∧ Below w1.heap.size w1 wr) (fun _ _ => 0)
      case atStart => exact ⟨rfl, Below.refl _ _⟩
      case round =>
        obtain ⟨rfl, hbr⟩ := hrel
        have hE2 := hE wr hbr
        clear hE
        go_wp2_with fail
        refine hE2.mono ?_
        intro e w2 hp
        obtain ⟨v', c, rfl, hpost⟩ := Hfin.out rfl wr hbr e w2 hp
        clear hE2 hp
        go_wp2_with fail
        go_ret2
        exact hpost
    · have hlt := (Hown.out.lt g' rfl).2
      clear hown hfin hgg
      go_wp2_with fail
      go_loopw [20] (fun i wr => ∃ k : Nat, k ≤ xs.length ∧ i = .int .i64 k ∧ (xs.take k).any (fun x => decide (9999 < x.2.2)) = false ∧ Below w1.heap.size w1 wr) (fun i _ => xs.length - (intOf i).toNat)
      case atStart => exact ⟨0, Nat.zero_le _, rfl, rfl, Below.refl _ _⟩
      case round =>
        obtain ⟨k, hk, rfl, hany, hbr⟩ := hrel
        have Hany := Lib.hid hany; clear hany
        have hbz := hbr.size
        by_cases hkl : k < xs.length
        · obtain ⟨c0, c1, c2⟩ := cell_items Hown.out hkl rfl
          have c0' := (hbr.cell (p := ⟨g', k * 3, none⟩) hlt).trans c0
          have c1' := (hbr.cell (p := ⟨g', k * 3 + 1, none⟩) hlt).trans c1
          have c2' := (hbr.cell (p := ⟨g', k * 3 + 2, none⟩) hlt).trans c2
          have hmem : xs[k] ∈ xs := List.getElem_mem hkl
          have htk := take_next hkl
          generalize xs[k] = x at *
          have Htk := Lib.hid htk
          clear htk c0 c1 c2 hE
          have hglt : g' < wr.heap.size := by omega
          by_cases hbig : 9999 < x.2.2
          · have hP : ∀ w', Below w.heap.size w w' → ParPost w s.data.toList (.returned (.tuple #[.slice none 0 0, .int .i64 7])) w' := fun w' hb' => par_err (by rw [Hpar.out, if_pos (List.any_eq_true.2 ⟨x, hmem, by simpa using hbig⟩)]) hb'
            have HP := Lib.hid hP
            clear hP hmem
            have hbb : Below w.heap.size w (wr.alloc (.cells #[.int .i64 x.1, .int .i64 x.2.1, .int .i64 x.2.2] 55)) := (hb.trans (hbr.mono hb.size)).alloc (Nat.le_trans hb.size hbz) _
            go_wp2_with fail
            go_ret2
            exact HP.out _ hbb
          · clear hmem
            go_wp2_with fail
            go_roundw
            case rel => exact ⟨k + 1, by omega, by go_num, by rw [Htk.out, List.any_append, Hany.out]; simp; omega, hbr.alloc hbz _⟩
            case measure => simp [intOf]; omega
        · have hany2 : xs.any (fun x => decide (9999 < x.2.2)) = false := by
            have := Hany.out; rw [List.take_of_length_le (by omega)] at this; exact this
          have Hany2 := Lib.hid hany2
          have hE2 := hE wr hbr
          clear hany2 hE
          go_wp2_with fail
          refine hE2.mono ?_
          intro e w2 hp
          obtain ⟨v', c, rfl, hpost⟩ := Hfin.out Hany2.out wr hbr e w2 hp
          clear hE2 hp
          go_wp2_with fail
          go_ret2
          exact hpost

theorem ParseList_any (s : ByteArray) (w : World) (g : Glob w) (hs : s.size ≤ maxLen) :
    Calls Tryz.prog 9 #[.string s] w (ParPost w s.data.toList) := by
  by_cases h : 2500 < s.size
  · exact ParseList_long s w h hs
  · exact ParseList_short s w g (by omega)
end Go.Proofs.YtkbmdmipdcjjcaaGreatDoor
