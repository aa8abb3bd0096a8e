/- Split of package words: what it returns, and the memory of its result. -/
import Derived.Test.YtkbmdmipdcjjcaaGreatDoorH
import Derived.RangeFuncBox
import Derived.Laws.OwnMore
namespace Go.Proofs.YtkbmdmipdcjjcaaGreatDoor
open Go.RowKit

abbrev Fld := Bool × List UInt8
def fcells (l : List Fld) : List Value := l.flatMap fun f => [.bool f.1, .string ⟨f.2.toArray⟩]
theorem fcells_length (l : List Fld) : (fcells l).length = l.length * 2 := by
  induction l with
  | nil => rfl
  | cons a l ih => simp only [fcells, List.flatMap_cons, List.length_append, List.length_cons, List.length_nil] at ih ⊢; omega
theorem fcells_app (a b : List Fld) : fcells (a ++ b) = fcells a ++ fcells b := by simp [fcells]

/-- The fields of a line that is not empty; none: one is no field. -/
def splitGo : Nat → List UInt8 → Option (List Fld)
  | 0, _ => none
  | k + 1, l =>
    if idxF false l = -1 then (if (rdF l).2.2 then some [((rdF l).1, (rdF l).2.1)] else none)
    else if (rdF (l.take (idxF false l).toNat)).2.2 then (splitGo k (l.drop ((idxF false l).toNat + 1))).map (((rdF (l.take (idxF false l).toNat)).1, (rdF (l.take (idxF false l).toNat)).2.1) :: ·) else none
def splitS (l : List UInt8) : Option (List Fld) := if l = [] then some [] else splitGo (l.length + 1) l
def splitSpec (l : List UInt8) : List Fld × Int := if 4096 < l.length then ([], 3) else match splitS l with
  | none => ([], 6)
  | some fs => if 64 < fs.length then ([], 3) else (fs, 0)

def cutW (s : ByteArray) : ByteArray × ByteArray × Bool :=
  if idxF false s.data.toList = -1 then (s, ⟨#[]⟩, false) else (⟨(s.data.toList.take (idxF false s.data.toList).toNat).toArray⟩, ⟨(s.data.toList.drop ((idxF false s.data.toList).toNat + 1)).toArray⟩, true)
theorem cutField_any (s : ByteArray) (w : World) (hs : s.size ≤ maxLen) :
    Calls Tryz.prog 28 #[.string s] w fun e w' => e = .returned (.tuple #[.string (cutW s).1, .string (cutW s).2.1, .bool (cutW s).2.2]) ∧ Below w.heap.size w w' := by
  unfold cutW
  by_cases h : idxF false s.data.toList = -1
  · rw [if_pos h]; exact cutField_none s w h
  · rw [if_neg h]
    have hge := idxF_ge false s.data.toList
    exact cutField_some s w _ hs (by omega)

theorem step1 (k : Nat) (c : ByteArray) : splitGo (k + 1) c.data.toList = if (rdF (cutW c).1.data.toList).2.2 then (if (cutW c).2.2 then (splitGo k (cutW c).2.1.data.toList).map (((rdF (cutW c).1.data.toList).1, (rdF (cutW c).1.data.toList).2.1) :: ·) else some [((rdF (cutW c).1.data.toList).1, (rdF (cutW c).1.data.toList).2.1)]) else none := by
  conv => lhs; unfold splitGo
  unfold cutW
  by_cases h : idxF false c.data.toList = -1
  · simp [h]
  · simp [h]
theorem cutW_size (c : ByteArray) : (cutW c).1.size ≤ c.size ∧ (cutW c).2.1.size ≤ c.size ∧ ((cutW c).2.2 = true → (cutW c).2.1.size < c.size) := by
  unfold cutW
  have hlt := idxF_lt false c.data.toList
  have hge := idxF_ge false c.data.toList
  rw [size_len] at hlt
  split
  · exact ⟨Nat.le_refl _, Nat.zero_le _, fun e => by simp at e⟩
  · have e1 : (ByteArray.mk (List.take (idxF false c.data.toList).toNat c.data.toList).toArray).size ≤ c.size := by rw [Lib.size_eq, Lib.size_eq c]; simp; omega
    have e2 : (ByteArray.mk (List.drop ((idxF false c.data.toList).toNat + 1) c.data.toList).toArray).size = c.size - ((idxF false c.data.toList).toNat + 1) := by rw [Lib.size_eq, Lib.size_eq c]; simp
    exact ⟨e1, by rw [e2]; omega, fun _ => by rw [e2]; omega⟩

def SplitPost (w : World) (l : List UInt8) (e : Ending) (w' : World) : Prop :=
  ∃ v : Value, e = .returned (.tuple #[v, .int .i64 (splitSpec l).2]) ∧ w'.ownsRow w.heap.size 42 2 v (splitSpec l).1.length (fcells (splitSpec l).1) ∧ Below w.heap.size w w'

set_option maxHeartbeats 400000 in
theorem Split_long (s : ByteArray) (w : World) (h : 4096 < s.size) (hs : s.size ≤ maxLen) :
    Calls Tryz.prog 12 #[.string s] w (SplitPost w s.data.toList) := by
  have hP : SplitPost w s.data.toList (.returned (.tuple #[.slice none 0 0, .int .i64 3])) w := by
    unfold SplitPost splitSpec; rw [size_len, if_pos h]; exact ⟨_, rfl, World.ownsRow_nil _ _ _ _, Below.refl _ _⟩
  unfold maxLen at hs
  go_enter Tryz.func12, Tryz.ntmps12
  go_wp2_with fail
  go_ret2
  exact hP

theorem infoFld : (Tryz.prog.info? 42).map (fun i => (i.zero, i.size, i.bytes)) = some (some (.agg #[.bool false, .string ⟨#[]⟩]), 2, 24) := by kernel_rfl

/-- One field more, or the end. -/
def totS (k : Nat) (acc : List Fld) (b : Bool) (c : ByteArray) : Option (List Fld) := if b then (splitGo k c.data.toList).map (acc ++ ·) else some acc
theorem totS_bad {k : Nat} {acc : List Fld} {c W R : ByteArray} {M q : Bool} {t : List UInt8} (hc : cutW c = (W, R, M)) (hr : rdF W.data.toList = (q, t, false)) : totS (k + 1) acc true c = none := by
  simp [totS, step1, hc, hr]
theorem totS_next {k : Nat} {acc : List Fld} {c W R : ByteArray} {M q : Bool} {t : List UInt8} (hc : cutW c = (W, R, M)) (hr : rdF W.data.toList = (q, t, true)) : totS (k + 1) acc true c = totS k (acc ++ [(q, t)]) M R := by
  cases M
  · simp [totS, step1, hc, hr]
  · simp [totS, step1, hc, hr, Option.map_map, Function.comp_def]
theorem totS_start (s : ByteArray) : totS (s.size + 1) [] (!s.toList.isEmpty) s = splitS s.data.toList := by
  unfold totS splitS
  rw [toList_data, size_len]
  cases s.data.toList with
  | nil => rfl
  | cons a l => simp

theorem post_bad {w w' : World} {s : ByteArray} (h : s.size ≤ 4096) (hn : splitS s.data.toList = none) (hb : Below w.heap.size w w') : SplitPost w s.data.toList (.returned (.tuple #[.slice none 0 0, .int .i64 6])) w' := by
  unfold SplitPost splitSpec
  rw [size_len, if_neg (by omega), hn]
  exact ⟨_, rfl, World.ownsRow_nil _ _ _ _, hb⟩
theorem post_many {w w' : World} {s : ByteArray} {fs : List Fld} (h : s.size ≤ 4096) (hn : splitS s.data.toList = some fs) (hl : 64 < fs.length) (hb : Below w.heap.size w w') : SplitPost w s.data.toList (.returned (.tuple #[.slice none 0 0, .int .i64 3])) w' := by
  unfold SplitPost splitSpec
  rw [size_len, if_neg (by omega), hn]
  simp only [if_pos hl]
  exact ⟨_, rfl, World.ownsRow_nil _ _ _ _, hb⟩
theorem post_good {w w' : World} {s : ByteArray} {fs : List Fld} {v : Value} (h : s.size ≤ 4096) (hn : splitS s.data.toList = some fs) (hl : ¬ 64 < fs.length) (ho : w'.ownsRow w.heap.size 42 2 v fs.length (fcells fs)) (hb : Below w.heap.size w w') : SplitPost w s.data.toList (.returned (.tuple #[v, .int .i64 0])) w' := by
  unfold SplitPost splitSpec
  rw [size_len, if_neg (by omega), hn]
  simp only [if_neg hl]
  exact ⟨_, rfl, ho, hb⟩

theorem cell_two_at (w : World) (a b : Value) (t : TypeId) {k : Nat} (hk : w.heap.size = k) : ∀ (j : Nat) (u : Value), [a, b][j]? = some u → (w.alloc (.cells #[a, b] t)).cell? ((⟨k, 0, none⟩ : Addr).add j) = some u := by
  subst hk
  intro j u hu
  match j, hu with
  | 0, hu => obtain rfl : a = u := by simpa using hu
             exact cell_of_row _ _ 0 #[a, b] t (0, 0) (heap_alloc_new w _)
  | 1, hu => obtain rfl : b = u := by simpa using hu
             exact cell_of_row _ _ 1 #[a, b] t (0, 0) (heap_alloc_new w _)
  | j + 2, hu => simp at hu
theorem own_below {B : Nat} {e : TypeId} {k : Nat} {v : Value} {n : Nat} {xs : List Value} {w w' : World} (h : w.ownsRow B e k v n xs) (hb : Below w.heap.size w w') : w'.ownsRow B e k v n xs :=
  h.kept (row := none) ⟨hb.os, hb.tape, hb.output, hb.size, fun k hk _ => hb.block k hk⟩ (by cases hv : v.ownBlock <;> simp)

set_option maxHeartbeats 2000000 in
set_option maxRecDepth 100000 in
theorem Split_short (s : ByteArray) (w : World) (g : Glob w) (h : s.size ≤ 4096) :
    Calls Tryz.prog 12 #[.string s] w (SplitPost w s.data.toList) := by
  have hst := totS_start s
  obtain ⟨b0, hb0⟩ : ∃ b0, (!s.toList.isEmpty) = b0 := ⟨_, rfl⟩
  rw [hb0] at hst
  have Hst := Lib.hid hst; clear hst
  obtain ⟨i0, hi, hz0, hz1, hz2⟩ := info_parts infoFld
  have Hi := Lib.hid hi; clear hi
  go_enter Tryz.func12, Tryz.ntmps12
  go_wp2_with fail
  clear hb0
  go_loopg [0, 4, 5] (s.size + 1) (fun k s0 s4 s5 wr => ∃ (c : ByteArray) (acc : List Fld) (b : Bool), s0 = .string c ∧ s5 = .bool b ∧ wr.ownsRow w.heap.size 42 2 s4 acc.length (fcells acc) ∧ Below w.heap.size w wr ∧ c.size ≤ s.size ∧ acc.length + k ≤ s.size + 1 ∧ (b = true → c.size < k) ∧ totS k acc b c = splitS s.data.toList)
  case atStart => exact ⟨s, [], b0, rfl, rfl, World.ownsRow_nil _ _ _ _, Below.refl _ _, Nat.le_refl _, by simp, fun _ => by omega, Hst.out⟩
  case round =>
    obtain ⟨c, acc, b, rfl, rfl, hown, hbw, hcs, hak, hbk, htot⟩ := hrel
    have Htot := Lib.hid htot; clear htot
    cases b with
    | false =>
      have hfin : splitS s.data.toList = some acc := Htot.out.symm
      have Hfin := Lib.hid hfin; clear hfin hbk
      have hle : acc.length ≤ s.size + 1 := by omega
      rcases hown.2 with ⟨rfl, hn⟩ | ⟨g', cap, cur, rfl, _⟩
      · have Hn := Lib.hid hn; clear hn
        go_wp2_with fail
        go_ret2
        exact post_good h Hfin.out (by rw [Hn.out]; omega) hown hbw
      · have Hown := Lib.hid hown; clear hown
        by_cases hl : 64 < acc.length
        · go_wp2_with fail
          go_ret2
          exact post_many h Hfin.out hl hbw
        · go_wp2_with fail
          go_ret2
          exact post_good h Hfin.out hl Hown.out hbw
    | true =>
      have hck := hbk rfl
      obtain ⟨k, rfl⟩ : ∃ k, gk = k + 1 := ⟨gk - 1, by omega⟩
      have gw : Glob wr := g.next hbw
      have hsz := cutW_size c
      have hC := cutField_any c wr (by unfold maxLen; omega)
      rcases hcut : cutW c with ⟨W, R, M⟩
      rw [hcut] at hC hsz
      simp only at hC hsz
      rcases hrd : rdF W.data.toList with ⟨q, t, ok⟩
      have hR := fun w' g' => readField_any W w' g' (by omega)
      rw [hrd] at hR
      have Hcut := Lib.hid hcut; clear hcut
      have Hrd := Lib.hid hrd; clear hrd
      clear hbk
      have Hown := Lib.hid hown; clear hown
      go_wp2_with fail
      refine hC.mono ?_
      rintro e w1 ⟨rfl, hb1⟩
      go_wp2_with fail
      refine (hR _ (gw.next hb1)).mono ?_
      rintro e w2 ⟨rfl, hb2⟩
      have hbb : Below wr.heap.size wr w2 := hb1.trans (hb2.mono hb1.size)
      cases ok with
      | false =>
        have hbad : splitS s.data.toList = none := by rw [← Htot.out]; exact totS_bad Hcut.out Hrd.out
        have Hbad := Lib.hid hbad; clear hbad
        go_wp2_with fail
        go_ret2
        exact post_bad h Hbad.out (hbw.trans ((hbb.mono hbw.size).trans ((Below.refl _ w2).alloc (Nat.le_trans hbw.size hbb.size) _)))
      | true =>
        have hnx : totS k (acc ++ [(q, t)]) M R = splitS s.data.toList := by rw [← Htot.out]; exact (totS_next Hcut.out Hrd.out).symm
        have Hnx := Lib.hid hnx; clear hnx
        have Hown2 := Lib.hid ((own_below Hown.out hbb).alloc (.cells #[.bool q, .string ⟨t.toArray⟩] 42) |>.alloc (.cells #[.bool q, .string ⟨t.toArray⟩] 42))
        have hz2' : w.heap.size ≤ w2.heap.size := Nat.le_trans hbw.size hbb.size
        go_wp2_with (at_builtin; refine wpList_append_own _ rfl _ _ 31 rfl w.heap.size 42 i0 (.agg #[.bool false, .string ⟨#[]⟩]) 2 24 Tryz.underlying31 Hi.out hz0 hz1 hz2 rfl (by decide) _ _ _ rfl Hown2.out ⟨w2.heap.size + 1, 0, none⟩ 1 1 [.bool q, .string ⟨t.toArray⟩] rfl rfl ?c1 ?c2 ?c3 ?c4 ?c5 ?_)
        case c1 => exact cell_two_at _ _ _ _ (by simp)
        case c2 => simp [Value.oneCell']
        case c3 => unfold maxLen; omega
        case c4 => omega
        case c5 => simp; omega
        intro v' w3 hown3 hgrow _
        have hb3 : Below w.heap.size w w3 := by
          refine Below.grown ((((hbw.trans (hbb.mono hbw.size)).alloc hz2' _).alloc (by simp; omega) _)) hgrow (by simp; omega) ?_
          intro k' e'
          exact (Hown2.out.lt k' e').1
        have hown4 : w3.ownsRow w.heap.size 42 2 v' (acc ++ [(q, t)]).length (fcells (acc ++ [(q, t)])) := by
          rw [fcells_app, List.length_append]; exact hown3
        have Hown4 := Lib.hid hown4
        clear hown3 hown4 hgrow
        go_wp2_with fail
        go_roundg k
        case measure => omega
        case rel => exact ⟨R, acc ++ [(q, t)], M, rfl, rfl, Hown4.out, hb3, by omega, by simp; omega, fun e => by have := hsz.2.2 e; omega, Hnx.out⟩
end Go.Proofs.YtkbmdmipdcjjcaaGreatDoor
