/- What the examples of the document come to. -/
import Derived.Test.YtkbmdmipdcjjcaaGreatDoorV
namespace Go.Proofs.YtkbmdmipdcjjcaaGreatDoor
open Go.RowKit
theorem listP_up : listP [1, 2, 3, 7] = ([49, 45, 51, 44, 55], 0) := by decide +kernel
theorem listP_eq : listP [1, 2, 3, 3, 3] = ([49, 44, 50, 44, 51, 120, 51], 0) := by decide +kernel
theorem parP_two : parP [53, 45, 55, 44, 50, 120, 57] = ([5, 6, 7, 9, 9], 0) := by decide +kernel
theorem quoteL_say : quoteL [115, 97, 121, 32, 34, 97, 34] = [34, 115, 97, 121, 32, 34, 34, 97, 34, 34, 34] := by decide +kernel
theorem textB_say : textB [115, 97, 121, 32, 34, 97, 34] = true := by decide +kernel
theorem split_row : splitSpec [114, 111, 119, 32, 34, 99, 108, 111, 116, 104, 32, 115, 116, 105, 116, 99, 104, 34, 32, 49] = ([(false, [114, 111, 119]), (true, [99, 108, 111, 116, 104, 32, 115, 116, 105, 116, 99, 104]), (false, [49])], 0) := by decide +kernel

theorem below_on {w w1 w2 : World} (h : Below w.heap.size w w1) (h2 : Below w1.heap.size w1 w2) : Below w.heap.size w w2 := h.trans (h2.mono h.size)
theorem below_alloc (w : World) (o : Obj) : Below w.heap.size w (w.alloc o) := (Below.refl _ _).alloc (Nat.le_refl _) o
theorem cell_alloc (w : World) (cs : Array Value) (t : TypeId) (k : Nat) (h : k < cs.size) : (w.alloc (.cells cs t)).cell? ⟨w.heap.size, k, none⟩ = cs[k]? := by
  have h1 := World.news_of_block (cs := cs) (t := t) (fr := (0, 0)) (heap_alloc_new w _) k cs[k] (by rw [Array.getElem?_toList]; exact Array.getElem?_eq_getElem h)
  have h2 : Addr.add ⟨w.heap.size, 0, none⟩ k = ⟨w.heap.size, k, none⟩ := by cases k <;> simp [Addr.add]
  rw [h2] at h1
  rw [Array.getElem?_eq_getElem h, h1]
/-- A slice value of numbers behind a call. -/
theorem sint_alloc (w : World) (t : TypeId) (xs : List Int) (cs : Array Value) (cap : Nat) (h : cs.toList = xs.map (Value.int .i64)) : SInt (w.alloc (.cells cs t)) (.slice (some ⟨w.heap.size, 0, none⟩) xs.length cap) xs := by
  have hl : cs.size = xs.length := by rw [← Array.length_toList, h, List.length_map]
  refine ⟨_, cap, rfl, fun _ => ⟨_, 0, rfl, by simp, fun j hj => ?_⟩⟩
  rw [Nat.zero_add, cell_alloc w cs t j (by omega), ← Array.getElem?_toList, h, List.getElem?_map]
  simp [List.getD, hj]
theorem list_new (w : World) (g : Glob w) (xs : List Int) (cs : Array Value) (cap : Nat) (out : List UInt8) (h : cs.toList = xs.map (Value.int .i64)) (hn : 0 < xs.length) (hm : xs.length ≤ 500) (ho : listP xs = (out, 0)) :
    Calls Tryz.prog 7 #[.slice (some ⟨w.heap.size, 0, none⟩) xs.length cap] (w.alloc (.cells cs 3)) fun e w' => e = .returned (.tuple #[.string ⟨out.toArray⟩, .int .i64 0]) ∧ Below w.heap.size w w' := by
  obtain ⟨a, c, hv, hx⟩ := sint_alloc w 3 xs cs cap h
  obtain ⟨b, off, ha, hb, hc⟩ := hx hn
  cases hv; cases ha
  refine (List_rest xs _ 0 cap _ (g.next (below_alloc w _)) hm hn hb hc).mono ?_
  rintro e w' ⟨rfl, hbw⟩
  rw [ho]
  exact ⟨rfl, below_on (below_alloc w _) hbw⟩

theorem call_up (w : World) (g : Glob w) : Calls Tryz.prog 7 #[.slice (some ⟨w.heap.size, 0, none⟩) 4 4] (w.alloc (.cells #[.int .i64 1, .int .i64 2, .int .i64 3, .int .i64 7] 3))
    fun e w' => e = .returned (.tuple #[.string ⟨#[49, 45, 51, 44, 55]⟩, .int .i64 0]) ∧ Below w.heap.size w w' :=
  list_new w g [1, 2, 3, 7] #[.int .i64 1, .int .i64 2, .int .i64 3, .int .i64 7] 4 [49, 45, 51, 44, 55] rfl (by decide) (by decide) listP_up
theorem call_eq (w : World) (g : Glob w) : Calls Tryz.prog 7 #[.slice (some ⟨w.heap.size, 0, none⟩) 5 5] (w.alloc (.cells #[.int .i64 1, .int .i64 2, .int .i64 3, .int .i64 3, .int .i64 3] 3))
    fun e w' => e = .returned (.tuple #[.string ⟨#[49, 44, 50, 44, 51, 120, 51]⟩, .int .i64 0]) ∧ Below w.heap.size w w' :=
  list_new w g [1, 2, 3, 3, 3] #[.int .i64 1, .int .i64 2, .int .i64 3, .int .i64 3, .int .i64 3] 5 [49, 44, 50, 44, 51, 120, 51] rfl (by decide) (by decide) listP_eq
theorem call_par (w : World) (g : Glob w) : Calls Tryz.prog 9 #[.string ⟨#[53, 45, 55, 44, 50, 120, 57]⟩] w
    fun e w' => ∃ v, e = .returned (.tuple #[v, .int .i64 0]) ∧ SInt w' v [5, 6, 7, 9, 9] ∧ Below w.heap.size w w' := by
  refine (ParseList_any ⟨#[53, 45, 55, 44, 50, 120, 57]⟩ w g (by unfold maxLen; decide)).mono ?_
  rintro e w' ⟨v, he, hown, hb⟩
  rw [show (⟨#[53, 45, 55, 44, 50, 120, 57]⟩ : ByteArray).data.toList = [53, 45, 55, 44, 50, 120, 57] from rfl, parP_two] at he hown
  exact ⟨v, he, sint_own hown, hb⟩
theorem call_quo (w : World) (g : Glob w) : Calls Tryz.prog 18 #[.string ⟨#[115, 97, 121, 32, 34, 97, 34]⟩] w
    fun e w' => e = .returned (.tuple #[.string ⟨#[34, 115, 97, 121, 32, 34, 34, 97, 34, 34, 34]⟩, .int .i64 0]) ∧ Below w.heap.size w w' := by
  refine (Quote_yes ⟨#[115, 97, 121, 32, 34, 97, 34]⟩ w g (by decide) textB_say).mono ?_
  rintro e w' ⟨he, hb⟩
  rw [show (⟨#[115, 97, 121, 32, 34, 97, 34]⟩ : ByteArray).data.toList = [115, 97, 121, 32, 34, 97, 34] from rfl, quoteL_say] at he
  exact ⟨he, hb⟩
def shownF : List Fld := [(false, [114, 111, 119]), (true, [99, 108, 111, 116, 104, 32, 115, 116, 105, 116, 99, 104]), (false, [49])]
theorem call_spl (w : World) (g : Glob w) : Calls Tryz.prog 12 #[.string ⟨#[114, 111, 119, 32, 34, 99, 108, 111, 116, 104, 32, 115, 116, 105, 116, 99, 104, 34, 32, 49]⟩] w
    fun e w' => ∃ v, e = .returned (.tuple #[v, .int .i64 0]) ∧ SFld w' v shownF ∧ Below w.heap.size w w' := by
  refine (Split_short ⟨#[114, 111, 119, 32, 34, 99, 108, 111, 116, 104, 32, 115, 116, 105, 116, 99, 104, 34, 32, 49]⟩ w g (by decide)).mono ?_
  rintro e w' ⟨v, he, hown, hb⟩
  rw [show (⟨#[114, 111, 119, 32, 34, 99, 108, 111, 116, 104, 32, 115, 116, 105, 116, 99, 104, 34, 32, 49]⟩ : ByteArray).data.toList = [114, 111, 119, 32, 34, 99, 108, 111, 116, 104, 32, 115, 116, 105, 116, 99, 104, 34, 32, 49] from rfl, split_row] at he hown
  exact ⟨v, he, sfld_own hown, hb⟩
theorem call_int (w : World) (v : Value) (h : SInt w v [5, 6, 7, 9, 9]) : Calls Tryz.prog 11 #[v, .slice (some ⟨w.heap.size, 0, none⟩) 5 5] (w.alloc (.cells #[.int .i64 5, .int .i64 6, .int .i64 7, .int .i64 9, .int .i64 9] 3))
    fun e w' => e = .returned (.bool true) ∧ Below w.heap.size w w' := by
  refine (ints_any [5, 6, 7, 9, 9] [5, 6, 7, 9, 9] _ _ _ (h.below (below_alloc _ _)) (sint_alloc w 3 [5, 6, 7, 9, 9] #[.int .i64 5, .int .i64 6, .int .i64 7, .int .i64 9, .int .i64 9] 5 rfl) (by unfold maxLen; decide)).mono ?_
  rintro e w' ⟨he, hb⟩
  exact ⟨he, below_on (below_alloc w _) hb⟩
theorem call_fld (w : World) (v : Value) (h : SFld w v shownF) : Calls Tryz.prog 15 #[v] w
    fun e w' => ∃ v', e = .returned v' ∧ SFld w' v' shownF ∧ Below w.heap.size w w' := by
  refine (fields_any shownF v w h (by decide)).mono ?_
  rintro e w' ⟨v', he, hown, hb⟩
  exact ⟨v', he, sfld_own hown, hb⟩
theorem sfld_alloc (w : World) (t : TypeId) (fs : List Fld) (cs : Array Value) (cap : Nat) (h : cs.toList = fcells fs) : SFld (w.alloc (.cells cs t)) (.slice (some ⟨w.heap.size, 0, none⟩) fs.length cap) fs := by
  have hl : cs.size = 2 * fs.length := by rw [← Array.length_toList, h, fcells_length]; omega
  refine ⟨_, cap, rfl, fun _ => ⟨_, 0, rfl, by simp, fun j hj => ?_⟩⟩
  rw [Nat.zero_add, cell_alloc w cs t (j * 2) (by omega), cell_alloc w cs t (j * 2 + 1) (by omega), ← Array.getElem?_toList, ← Array.getElem?_toList, h]
  exact fcells_at fs hj
theorem call_alk (w : World) (v : Value) (h : SFld w v shownF) : Calls Tryz.prog 14 #[v, .slice (some ⟨w.heap.size, 0, none⟩) 3 3]
    (w.alloc (.cells #[.bool false, .string ⟨#[114, 111, 119]⟩, .bool true, .string ⟨#[99, 108, 111, 116, 104, 32, 115, 116, 105, 116, 99, 104]⟩, .bool false, .string ⟨#[49]⟩] 46))
    fun e w' => e = .returned (.bool true) ∧ Below w.heap.size w w' := by
  refine (alike_any shownF shownF _ _ _ (h.below (below_alloc _ _)) (sfld_alloc w 46 shownF _ 3 rfl) (by unfold maxLen; decide)).mono ?_
  rintro e w' ⟨he, hb⟩
  exact ⟨he, below_on (below_alloc w _) hb⟩

set_option maxHeartbeats 1000000 in
set_option maxRecDepth 100000 in
theorem shown_any (w : World) (g : Glob w) :
    Calls Tryz.prog 6 #[] w fun e w' => e = .returned (.bool true) ∧ Below w.heap.size w w' := by
  go_enter Tryz.func6, Tryz.ntmps6
  go_wp2_with (first
    | (go_at_call 7; refine (call_eq w1 g1).mono ?_; rintro e w2 ⟨rfl, hb2⟩; have g2 := g1.next hb2)
    | (go_at_call 7; refine (call_up w g).mono ?_; rintro e w1 ⟨rfl, hb1⟩; have g1 := g.next hb1)
    | (go_at_call 9; refine (call_par _ g2).mono ?_; rintro e w3 ⟨v3, rfl, s3, hb3⟩; have g3 := g2.next hb3)
    | (go_at_call 18; refine (call_quo _ g3).mono ?_; rintro e w4 ⟨rfl, hb4⟩; have g4 := g3.next hb4)
    | (go_at_call 12; refine (call_spl _ g4).mono ?_; rintro e w5 ⟨v5, rfl, s5, hb5⟩)
    | (go_at_call 11; refine (call_int w5 _ (s3.below (below_on hb4 hb5))).mono ?_; rintro e w6 ⟨rfl, hb6⟩)
    | (go_at_call 15; refine (call_fld _ _ (s5.below hb6)).mono ?_; rintro e w7 ⟨v7, rfl, s7, hb7⟩)
    | (go_at_call 14; refine (call_alk w7 _ s7).mono ?_; rintro e w8 ⟨rfl, hb8⟩))
  go_ret
  exact ⟨rfl, below_on hb1 (below_on hb2 (below_on hb3 (below_on hb4 (below_on hb5 (below_on hb6 (below_on hb7 hb8))))))⟩
end Go.Proofs.YtkbmdmipdcjjcaaGreatDoor