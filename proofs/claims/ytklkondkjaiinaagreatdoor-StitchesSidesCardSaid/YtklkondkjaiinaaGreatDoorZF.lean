/- Places of a word from the other side and in a mirror; words that are the same have the same places. -/
import Derived.Test.YtklkondkjaiinaaGreatDoorVI
namespace Go.Proofs.YtklkondkjaiinaaGreatDoor
open Go.RowKit
/-- What crossings make of a line. -/
def runP (a : Pm) (ws : List Int) : Pm := ws.foldl (fun a z => a.pre (num z)) a
theorem runP_app (a : Pm) (u v : List Int) : runP a (u ++ v) = runP (runP a u) v := by unfold runP; rw [List.foldl_append]
theorem lineP_run (ws : List Int) : lineP ws = runP idP ws := rfl
theorem num_neg (z : Int) : num (-z) = num z := by unfold num; rw [Int.natAbs_neg]
theorem eqv_line {n : Nat} {w v : List Int} (h : Eqv n w v) : Word n w → ∀ a, runP a w = runP a v := by
  induction h with
  | refl w => intro _ a; rfl
  | symm h ih => intro hw a; exact (ih (h.word.2 hw) a).symm
  | trans h1 _ ih1 ih2 => intro hw a; exact (ih1 hw a).trans (ih2 (h1.word.1 hw) a)
  | canc u v hz =>
    intro _ a
    rw [runP_app, runP_app]
    show runP (((runP a u).pre (num _)).pre (num (-_))) v = _
    rw [num_neg, Pm.pre_pre]
  | far u v hf =>
    rename_i x y
    intro hw a
    have hx := (hw x (by simp)).1
    have hy := (hw y (by simp)).1
    rw [runP_app, runP_app]
    show runP (((runP a u).pre (num x)).pre (num y)) v = runP (((runP a u).pre (num y)).pre (num x)) v
    rw [pre_far _ (by
      obtain ⟨i, j, h1, h2, h3⟩ := hf
      unfold num
      omega)]
  | braid u v h1 h2 =>
    rename_i i
    intro _ a
    rw [runP_app, runP_app]
    show runP ((((runP a u).pre (num i)).pre (num (i + 1))).pre (num i)) v = runP ((((runP a u).pre (num (i + 1))).pre (num i)).pre (num (i + 1))) v
    have e : num (i + 1) = num i + 1 := by unfold num; omega
    rw [e, pre_braid]
theorem same_line {l m : List UInt8} (h : nf 4 (crW l) = nf 4 (crW m)) (a : Pm) : runP a (crW l) = runP a (crW m) :=
  eqv_line ((eqv_iff (by decide) (crW_word l) (crW_word m)).1 h) (crW_word l) a
/-- b is a line as a, seen from the other end. -/
def Far4 (a b : Pm) : Prop := ∀ k, k < 4 → b.f (3 - k) + a.f k = 3
theorem far4_pre {a b : Pm} (h : Far4 a b) {j : Nat} (hj : j ≤ 2) : Far4 (a.pre j) (b.pre (2 - j)) := fun k hk => by
  show b.f (sw (2 - j) (3 - k)) + a.f (sw j k) = 3
  have hs : sw (2 - j) (3 - k) = 3 - sw j k ∧ sw j k < 4 := by
    unfold sw
    rcases j with _ | _ | _ | j
    · rcases k with _ | _ | _ | _ | k <;> first | decide | omega
    · rcases k with _ | _ | _ | _ | k <;> first | decide | omega
    · rcases k with _ | _ | _ | _ | k <;> first | decide | omega
    · omega
  rw [hs.1]
  exact h _ hs.2
theorem far4_id : Far4 idP idP := fun k hk => by show (3 - k) + k = 3; omega
theorem isLt_cases {c : UInt8} (h : isLt c = true) : c = 67 ∨ c = 76 ∨ c = 82 ∨ c = 84 ∨ c = 80 ∨ c = 99 ∨ c = 108 ∨ c = 114 ∨ c = 116 := by
  unfold isLt at h
  simpa using h
theorem far4_letter {a b : Pm} (h : Far4 a b) {c : UInt8} (hc : isLt c = true) : Far4 (runP a (crL c)) (runP b (crL (flp c))) ∧ Far4 (runP a (crL c)) (runP b (crL (mir c))) := by
  have h0 := far4_pre h (j := 0) (by decide)
  have h1 := far4_pre h (j := 1) (by decide)
  have h2 := far4_pre h (j := 2) (by decide)
  have h02 := far4_pre h0 (j := 2) (by decide)
  have e : ((b.pre 2).pre 0) = ((b.pre 0).pre 2) := pre_far b (by decide)
  change Far4 ((a.pre 0).pre 2) ((b.pre 2).pre 0) at h02
  rw [e] at h02
  rcases isLt_cases hc with rfl | rfl | rfl | rfl | rfl | rfl | rfl | rfl | rfl
  · exact ⟨h1, h1⟩
  · exact ⟨h0, h0⟩
  · exact ⟨h2, h2⟩
  · exact ⟨h02, h02⟩
  · exact ⟨h, h⟩
  · exact ⟨h1, h1⟩
  · exact ⟨h0, h0⟩
  · exact ⟨h2, h2⟩
  · exact ⟨h02, h02⟩
theorem far4_word : ∀ {l : List UInt8} {a b : Pm}, l.all isLt = true → Far4 a b → Far4 (runP a (crW l)) (runP b (crW (l.map flp))) ∧ Far4 (runP a (crW l)) (runP b (crW (l.map mir)))
  | [], a, b, _, h => ⟨h, h⟩
  | c :: l, a, b, hl, h => by
    rw [List.all_cons, Bool.and_eq_true] at hl
    have h1 := far4_letter h hl.1
    have h2 := far4_word hl.2 h1.1
    have h3 := far4_word hl.2 h1.2
    simp only [crW, List.flatMap_cons, List.map_cons] at h2 h3 ⊢
    rw [runP_app, runP_app, runP_app]
    exact ⟨h2.1, h3.2⟩
theorem map_lt {f : UInt8 → UInt8} (hf : ∀ c, isLt c = true → isLt (f c) = true) {l : List UInt8} (h : l.all isLt = true) : (l.map f).all isLt = true := by
  rw [List.all_map, List.all_eq_true] at *
  exact fun c hc => hf c (h c hc)
theorem flp_lt (c : UInt8) (h : isLt c = true) : isLt (flp c) = true := by
  rcases isLt_cases h with rfl | rfl | rfl | rfl | rfl | rfl | rfl | rfl | rfl <;> decide +kernel
theorem mir_lt (c : UInt8) (h : isLt c = true) : isLt (mir c) = true := by
  rcases isLt_cases h with rfl | rfl | rfl | rfl | rfl | rfl | rfl | rfl | rfl <;> decide +kernel
theorem chg_ok {f : UInt8 → UInt8} (hf : ∀ c, isLt c = true → isLt (f c) = true) {s : ByteArray} (h : stV s = 0) : stV (chgS f s) = 0 ∧ (chgS f s).data.toList = s.data.toList.map f := by
  obtain ⟨h16, hall⟩ := st_ok h
  have e : chgS f s = ⟨(s.data.toList.map f).toArray⟩ := if_pos h
  have e2 : (chgS f s).data.toList = s.data.toList.map f := by rw [e]
  refine ⟨?_, e2⟩
  have hsz : (chgS f s).size ≤ 16 := chgS_size f s
  unfold stV
  rw [if_neg (by omega), if_pos]
  rw [e2]
  exact map_lt hf hall
/-- The places of a word, of it flipped, and of it in a mirror. -/
theorem places_turn {s : ByteArray} (h : stV s = 0) : ∃ p q r : Nat → Nat, (∀ k, k < 4 → p k < 4 ∧ q (3 - k) + p k = 3 ∧ r (3 - k) + p k = 3) ∧
    placeV s = [(p 0 : Int) + 1, (p 1 : Int) + 1, (p 2 : Int) + 1, (p 3 : Int) + 1] ∧ placeV (chgS flp s) = [(q 0 : Int) + 1, (q 1 : Int) + 1, (q 2 : Int) + 1, (q 3 : Int) + 1] ∧ placeV (chgS mir s) = [(r 0 : Int) + 1, (r 1 : Int) + 1, (r 2 : Int) + 1, (r 3 : Int) + 1] := by
  obtain ⟨f1, f2⟩ := chg_ok flp_lt h
  obtain ⟨m1, m2⟩ := chg_ok mir_lt h
  obtain ⟨_, hall⟩ := st_ok h
  obtain ⟨w1, w2⟩ := far4_word hall far4_id
  have hin := lineP_in (crW s.data.toList) (crW_word s.data.toList)
  have form : ∀ x : Pm, (ints 4 x).map (· + 1) = [(x.f 0 : Int) + 1, (x.f 1 : Int) + 1, (x.f 2 : Int) + 1, (x.f 3 : Int) + 1] := fun x => rfl
  refine ⟨(lineP (crW s.data.toList)).f, (lineP (crW (s.data.toList.map flp))).f, (lineP (crW (s.data.toList.map mir))).f, fun k hk => ⟨hin.lt hk, w1 k hk, w2 k hk⟩, ?_, ?_, ?_⟩
  · unfold placeV placeL; rw [if_pos h, form]
  · unfold placeV placeL; rw [if_pos f1, f2, form]
  · unfold placeV placeL; rw [if_pos m1, m2, form]
end Go.Proofs.YtklkondkjaiinaaGreatDoor
