/- Join of package words, and of the reference. -/
import Derived.Test.YtjddleipancaoaaGreatDoorSD
namespace Go.Proofs.YtjddleipancaoaaGreatDoor
open Go.RowKit

def wrV (f : Fld) : List UInt8 := if f.1 then (if textB f.2 then quoteL f.2 else []) else f.2
theorem wrV_ok {f : Fld} (h : okF f = true) : wrV f = wr f := by
  obtain ⟨q, t⟩ := f
  cases q with
  | false => rfl
  | true => show (if textB t then quoteL t else []) = quoteL t; rw [if_pos (show textB t = true from h)]
theorem wr_len {f : Fld} (h : okF f = true) : (wr f).length ≤ 402 := by
  obtain ⟨q, t⟩ := f
  cases q with
  | false => have := bare_len (show bareB t = true from h); show t.length ≤ _; omega
  | true =>
    have ht : textB t = true := h
    have hl : t.length ≤ 200 := by unfold textB at ht; simp at ht; exact ht.1
    have := dblL_length t
    show (quoteL t).length ≤ _
    rw [quote_len]; omega
theorem joinL_snoc (f : Fld) : ∀ l : List Fld, joinL (l ++ [f]) = joinL l ++ (if l.isEmpty then [] else [32]) ++ wr f
  | [] => by simp [joinL]
  | [g] => by simp [joinL]
  | g :: h :: r => by
    have ih := joinL_snoc f (h :: r)
    show joinL (g :: h :: (r ++ [f])) = _
    rw [joinL_cons, joinL_cons, show h :: (r ++ [f]) = (h :: r) ++ [f] from rfl, ih]
    simp
theorem joinL_size : ∀ l : List Fld, (∀ x ∈ l, okF x = true) → (joinL l).length ≤ 403 * l.length
  | [], _ => by simp [joinL]
  | [f], h => by have := wr_len (h f (by simp)); rw [joinL_one]; simp; omega
  | f :: g :: r, h => by
    have h1 := wr_len (h f (by simp))
    have ih := joinL_size (g :: r) (fun x hx => h x (by simp at hx ⊢; exact Or.inr hx))
    rw [joinL_cons]
    simp at ih ⊢
    omega
def joinSpec (fs : List Fld) : List UInt8 × Int := if 64 < fs.length then ([], 3) else if fs.all okF then (if 4096 < (joinL fs).length then ([], 3) else (joinL fs, 0)) else ([], 2)

set_option maxHeartbeats 1000000 in
theorem writeField_quoted (t : ByteArray) (w : World) (g : Glob w) (ht : t.size ≤ 1000000) :
    Calls Tryz.prog 33 #[.agg #[.bool true, .string t]] w fun e w' => e = .returned (.tuple #[.string ⟨(wrV (true, t.data.toList)).toArray⟩, .bool (okF (true, t.data.toList))]) ∧ Below w.heap.size w w' := by
  have hg : Glob (w.alloc (.cells #[.bool true, .string t] 42)) := g.next ((Below.refl _ _).alloc (Nat.le_refl _) _)
  show Calls _ _ _ _ fun e w' => e = .returned (.tuple #[.string ⟨(if textB t.data.toList then quoteL t.data.toList else []).toArray⟩, .bool (textB t.data.toList)]) ∧ Below w.heap.size w w'
  cases hb : textB t.data.toList with
  | true =>
    have hQ := Quote_yes t _ hg (by omega) hb
    clear hb hg
    go_enter Tryz.func33, Tryz.ntmps33
    go_wp2_with (go_at_call 18; refine hQ.mono ?_; rintro e w' ⟨rfl, hb⟩)
    go_ret2
    exact ⟨rfl, ((Below.refl _ w).alloc (Nat.le_refl _) _).trans (hb.mono (by simp))⟩
  | false =>
    have hQ := Quote_no t (w.alloc (.cells #[.bool true, .string t] 42)) (by unfold maxLen; omega) hb
    clear hb hg
    go_enter Tryz.func33, Tryz.ntmps33
    go_wp2_with (go_at_call 18; refine hQ.mono ?_; rintro e w' ⟨rfl, rfl⟩)
    go_ret2
    exact ⟨rfl, (Below.refl _ w).alloc (Nat.le_refl _) _⟩

set_option maxHeartbeats 1000000 in
theorem writeField_bare (t : ByteArray) (w : World) (g : Glob w) (ht : t.size ≤ 1000000) :
    Calls Tryz.prog 33 #[.agg #[.bool false, .string t]] w fun e w' => e = .returned (.tuple #[.string ⟨(wrV (false, t.data.toList)).toArray⟩, .bool (okF (false, t.data.toList))]) ∧ Below w.heap.size w w' := by
  have hg : Glob (w.alloc (.cells #[.bool false, .string t] 42)) := g.next ((Below.refl _ _).alloc (Nat.le_refl _) _)
  show Calls _ _ _ _ fun e w' => e = .returned (.tuple #[.string t, .bool (bareB t.data.toList)]) ∧ Below w.heap.size w w'
  have hB := fun n => (isBare_any t ((w.alloc (.cells #[.bool false, .string t] 42)).drewN n) (hg.next (below_drewN (Below.refl _ _) n)) (by omega)).mono (fun e w' ⟨a, b⟩ => (⟨a, b.symm⟩ : _ ∧ w' = _))
  clear hg
  go_enter Tryz.func33, Tryz.ntmps33
  go_wp2_with fail
  go_quiet ((go_at_call 54; exact Calls.quiet_of_same (hB _)))
  go_wp2_with fail
  go_ret2
  exact ⟨rfl, below_drewN ((Below.refl _ w).alloc (Nat.le_refl _) _) _⟩
theorem writeField_any (q : Bool) (t : ByteArray) (w : World) (g : Glob w) (ht : t.size ≤ 1000000) :
    Calls Tryz.prog 33 #[.agg #[.bool q, .string t]] w fun e w' => e = .returned (.tuple #[.string ⟨(wrV (q, t.data.toList)).toArray⟩, .bool (okF (q, t.data.toList))]) ∧ Below w.heap.size w w' := by
  cases q with
  | true => exact writeField_quoted t w g ht
  | false => exact writeField_bare t w g ht
end Go.Proofs.YtjddleipancaoaaGreatDoor
