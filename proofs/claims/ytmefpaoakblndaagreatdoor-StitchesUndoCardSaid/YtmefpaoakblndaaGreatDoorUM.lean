/- Merged: ZF UB ZL ZM. -/
import Derived.Test.YtmefpaoakblndaaGreatDoorVI
import Derived.Test.YtmefpaoakblndaaGreatDoorUK
import Derived.Test.YtmefpaoakblndaaGreatDoorZA
import Derived.Test.YtmefpaoakblndaaGreatDoorUJ
namespace Go.Proofs.YtmefpaoakblndaaGreatDoor
open Go.RowKit
/-- What crossings make of a line. -/
def runP (a : Pm) (ws : List Int) : Pm := ws.foldl (fun a z => a.pre (num z)) a
theorem runP_app (a : Pm) (u v : List Int) : runP a (u ++ v) = runP (runP a u) v := by unfold runP; rw [List.foldl_append]
theorem lineP_run (ws : List Int) : lineP ws = runP idP ws := rfl
theorem num_neg (z : Int) : num (-z) = num z := by unfold num; rw [Int.natAbs_neg]
theorem eqv_line {n : Nat} {w v : List Int} (h : Eqv n w v) : Word n w → ∀ a, runP a w = runP a v := by
  induction h with
  | refl w => intro _ a; rfl
  | symm h ih => intro hw a; exact (ih (h.word.2 hw) a).symm
  | trans h1 _ ih1 ih2 => intro hw a; exact (ih1 hw a).trans (ih2 (h1.word.1 hw) a)
  | canc u v hz =>
    intro _ a
    rw [runP_app, runP_app]
    show runP (((runP a u).pre (num _)).pre (num (-_))) v = _
    rw [num_neg, Pm.pre_pre]
  | far u v hf =>
    rename_i x y
    intro hw a
    have hx := (hw x (by simp)).1
    have hy := (hw y (by simp)).1
    rw [runP_app, runP_app]
    show runP (((runP a u).pre (num x)).pre (num y)) v = runP (((runP a u).pre (num y)).pre (num x)) v
    rw [pre_far _ (by
      obtain ⟨i, j, h1, h2, h3⟩ := hf
      unfold num
      omega)]
  | braid u v h1 h2 =>
    rename_i i
    intro _ a
    rw [runP_app, runP_app]
    show runP ((((runP a u).pre (num i)).pre (num (i + 1))).pre (num i)) v = runP ((((runP a u).pre (num (i + 1))).pre (num i)).pre (num (i + 1))) v
    have e : num (i + 1) = num i + 1 := by unfold num; omega
    rw [e, pre_braid]
theorem same_line {l m : List UInt8} (h : nf 4 (crW l) = nf 4 (crW m)) (a : Pm) : runP a (crW l) = runP a (crW m) :=
  eqv_line ((eqv_iff (by decide) (crW_word l) (crW_word m)).1 h) (crW_word l) a
/-- b is a line as a, seen from the other end. -/
def Far4 (a b : Pm) : Prop := ∀ k, k < 4 → b.f (3 - k) + a.f k = 3
theorem far4_pre {a b : Pm} (h : Far4 a b) {j : Nat} (hj : j ≤ 2) : Far4 (a.pre j) (b.pre (2 - j)) := fun k hk => by
  show b.f (sw (2 - j) (3 - k)) + a.f (sw j k) = 3
  have hs : sw (2 - j) (3 - k) = 3 - sw j k ∧ sw j k < 4 := by
    unfold sw
    rcases j with _ | _ | _ | j
    · rcases k with _ | _ | _ | _ | k <;> first | decide | omega
    · rcases k with _ | _ | _ | _ | k <;> first | decide | omega
    · rcases k with _ | _ | _ | _ | k <;> first | decide | omega
    · omega
  rw [hs.1]
  exact h _ hs.2
theorem far4_id : Far4 idP idP := fun k hk => by show (3 - k) + k = 3; omega
theorem isLt_cases {c : UInt8} (h : isLt c = true) : c = 67 ∨ c = 76 ∨ c = 82 ∨ c = 84 ∨ c = 80 ∨ c = 99 ∨ c = 108 ∨ c = 114 ∨ c = 116 := by
  unfold isLt at h
  simpa using h
theorem far4_letter {a b : Pm} (h : Far4 a b) {c : UInt8} (hc : isLt c = true) : Far4 (runP a (crL c)) (runP b (crL (flp c))) ∧ Far4 (runP a (crL c)) (runP b (crL (mir c))) := by
  have h0 := far4_pre h (j := 0) (by decide)
  have h1 := far4_pre h (j := 1) (by decide)
  have h2 := far4_pre h (j := 2) (by decide)
  have h02 := far4_pre h0 (j := 2) (by decide)
  have e : ((b.pre 2).pre 0) = ((b.pre 0).pre 2) := pre_far b (by decide)
  change Far4 ((a.pre 0).pre 2) ((b.pre 2).pre 0) at h02
  rw [e] at h02
  rcases isLt_cases hc with rfl | rfl | rfl | rfl | rfl | rfl | rfl | rfl | rfl
  · exact ⟨h1, h1⟩
  · exact ⟨h0, h0⟩
  · exact ⟨h2, h2⟩
  · exact ⟨h02, h02⟩
  · exact ⟨h, h⟩
  · exact ⟨h1, h1⟩
  · exact ⟨h0, h0⟩
  · exact ⟨h2, h2⟩
  · exact ⟨h02, h02⟩
theorem far4_word : ∀ {l : List UInt8} {a b : Pm}, l.all isLt = true → Far4 a b → Far4 (runP a (crW l)) (runP b (crW (l.map flp))) ∧ Far4 (runP a (crW l)) (runP b (crW (l.map mir)))
  | [], a, b, _, h => ⟨h, h⟩
  | c :: l, a, b, hl, h => by
    rw [List.all_cons, Bool.and_eq_true] at hl
    have h1 := far4_letter h hl.1
    have h2 := far4_word hl.2 h1.1
    have h3 := far4_word hl.2 h1.2
    simp only [crW, List.flatMap_cons, List.map_cons] at h2 h3 ⊢
    rw [runP_app, runP_app, runP_app]
    exact ⟨h2.1, h3.2⟩
theorem map_lt {f : UInt8 → UInt8} (hf : ∀ c, isLt c = true → isLt (f c) = true) {l : List UInt8} (h : l.all isLt = true) : (l.map f).all isLt = true := by
  rw [List.all_map, List.all_eq_true] at *
  exact fun c hc => hf c (h c hc)
theorem flp_lt (c : UInt8) (h : isLt c = true) : isLt (flp c) = true := by
  rcases isLt_cases h with rfl | rfl | rfl | rfl | rfl | rfl | rfl | rfl | rfl <;> decide +kernel
theorem mir_lt (c : UInt8) (h : isLt c = true) : isLt (mir c) = true := by
  rcases isLt_cases h with rfl | rfl | rfl | rfl | rfl | rfl | rfl | rfl | rfl <;> decide +kernel
theorem chg_ok {f : UInt8 → UInt8} (hf : ∀ c, isLt c = true → isLt (f c) = true) {s : ByteArray} (h : stV s = 0) : stV (chgS f s) = 0 ∧ (chgS f s).data.toList = s.data.toList.map f := by
  obtain ⟨h16, hall⟩ := st_ok h
  have e : chgS f s = ⟨(s.data.toList.map f).toArray⟩ := if_pos h
  have e2 : (chgS f s).data.toList = s.data.toList.map f := by rw [e]
  refine ⟨?_, e2⟩
  have hsz : (chgS f s).size ≤ 16 := chgS_size f s
  unfold stV
  rw [if_neg (by omega), if_pos]
  rw [e2]
  exact map_lt hf hall
/-- The places of a word, of it flipped, and of it in a mirror. -/
theorem places_turn {s : ByteArray} (h : stV s = 0) : ∃ p q r : Nat → Nat, (∀ k, k < 4 → p k < 4 ∧ q (3 - k) + p k = 3 ∧ r (3 - k) + p k = 3) ∧
    placeV s = [(p 0 : Int) + 1, (p 1 : Int) + 1, (p 2 : Int) + 1, (p 3 : Int) + 1] ∧ placeV (chgS flp s) = [(q 0 : Int) + 1, (q 1 : Int) + 1, (q 2 : Int) + 1, (q 3 : Int) + 1] ∧ placeV (chgS mir s) = [(r 0 : Int) + 1, (r 1 : Int) + 1, (r 2 : Int) + 1, (r 3 : Int) + 1] := by
  obtain ⟨f1, f2⟩ := chg_ok flp_lt h
  obtain ⟨m1, m2⟩ := chg_ok mir_lt h
  obtain ⟨_, hall⟩ := st_ok h
  obtain ⟨w1, w2⟩ := far4_word hall far4_id
  have hin := lineP_in (crW s.data.toList) (crW_word s.data.toList)
  have form : ∀ x : Pm, (ints 4 x).map (· + 1) = [(x.f 0 : Int) + 1, (x.f 1 : Int) + 1, (x.f 2 : Int) + 1, (x.f 3 : Int) + 1] := fun x => rfl
  refine ⟨(lineP (crW s.data.toList)).f, (lineP (crW (s.data.toList.map flp))).f, (lineP (crW (s.data.toList.map mir))).f, fun k hk => ⟨hin.lt hk, w1 k hk, w2 k hk⟩, ?_, ?_, ?_⟩
  · unfold placeV placeL; rw [if_pos h, form]
  · unfold placeV placeL; rw [if_pos f1, f2, form]
  · unfold placeV placeL; rw [if_pos m1, m2, form]
end Go.Proofs.YtmefpaoakblndaaGreatDoor
namespace Go.Proofs.YtmefpaoakblndaaGreatDoor
set_option linter.unusedSimpArgs false
/-- A letter so many times. -/
def pw (a e : Int) : List Int := if 0 ≤ e then List.replicate e.toNat a else List.replicate (-e).toNat (-a)
theorem pw_up {n : Nat} {a : Int} (ha : Letter n a) (e : Int) : Eqv n (a :: pw a e) (pw a (e + 1)) := by
  by_cases h : 0 ≤ e
  · unfold pw
    rw [if_pos h, if_pos (by omega), show (e + 1).toNat = e.toNat + 1 by omega, List.replicate_succ]
    exact .refl _
  · have e1 : pw a e = -a :: List.replicate (-(e + 1)).toNat (-a) := by
      unfold pw
      rw [if_neg h, show (-e).toNat = (-(e + 1)).toNat + 1 by omega, List.replicate_succ]
    have e2 : pw a (e + 1) = List.replicate (-(e + 1)).toNat (-a) := by
      unfold pw
      split
      · rw [show (e + 1).toNat = 0 by omega, show (-(e + 1)).toNat = 0 by omega]; rfl
      · rfl
    rw [e1, e2]
    exact .canc [] _ ha
theorem pw_dn {n : Nat} {a : Int} (ha : Letter n a) (e : Int) : Eqv n (-a :: pw a e) (pw a (e - 1)) := by
  have h1 := (pw_up ha (e - 1)).cons (-a)
  rw [show e - 1 + 1 = e by omega] at h1
  have h2 := Eqv.canc (n := n) [] (pw a (e - 1)) ha.neg
  rw [Int.neg_neg] at h2
  exact h1.symm.trans h2
theorem far_past {n : Nat} {z b : Int} (h : Far z b) (R : List Int) : ∀ k, Eqv n (z :: (List.replicate k b ++ R)) (List.replicate k b ++ z :: R)
  | 0 => .refl _
  | k + 1 => by
    rw [List.replicate_succ, List.cons_append, List.cons_append]
    exact (Eqv.far [] _ h).trans ((far_past h R k).cons b)
def ex (a : Int) (w : List Int) : Int := (w.map fun z => if z = a then (1 : Int) else if z = -a then -1 else 0).sum
theorem ex_app (a : Int) (u v : List Int) : ex a (u ++ v) = ex a u + ex a v := by simp [ex]
theorem ex_cons (a z : Int) (v : List Int) : ex a (z :: v) = (if z = a then (1 : Int) else if z = -a then -1 else 0) + ex a v := by simp [ex]
theorem canon2 : ∀ (w : List Int), (∀ z ∈ w, z = 2 ∨ z = -2) → Eqv 4 w (pw 2 (ex 2 w))
  | [], _ => .refl _
  | z :: w, h => by
    have ih := canon2 w (fun y hy => h y (by simp [hy]))
    have l2 : Letter 4 2 := ⟨by omega, by omega, by omega⟩
    rw [ex_cons]
    rcases h z (by simp) with rfl | rfl
    · rw [if_pos rfl, Int.add_comm]
      exact (ih.cons _).trans (pw_up l2 _)
    · rw [if_neg (by omega), if_pos rfl, Int.add_comm]
      exact (ih.cons _).trans (pw_dn l2 _)
theorem pw_far {n : Nat} {z a : Int} (h : Far z a) (h' : Far z (-a)) (e : Int) (R : List Int) : Eqv n (z :: (pw a e ++ R)) (pw a e ++ z :: R) := by
  unfold pw
  split
  · exact far_past h R _
  · exact far_past h' R _
theorem canon13 : ∀ (w : List Int), (∀ z ∈ w, z = 1 ∨ z = -1 ∨ z = 3 ∨ z = -3) → Eqv 4 w (pw 1 (ex 1 w) ++ pw 3 (ex 3 w))
  | [], _ => .refl _
  | z :: w, h => by
    have ih := canon13 w (fun y hy => h y (by simp [hy]))
    have l1 : Letter 4 1 := ⟨by omega, by omega, by omega⟩
    have l3 : Letter 4 3 := ⟨by omega, by omega, by omega⟩
    have f1 : Far 3 1 := ⟨3, 1, by omega, by omega, by omega⟩
    have f2 : Far 3 (-1) := ⟨3, 1, by omega, by omega, by omega⟩
    have f3 : Far (-3) 1 := ⟨3, 1, by omega, by omega, by omega⟩
    have f4 : Far (-3) (-1) := ⟨3, 1, by omega, by omega, by omega⟩
    rw [ex_cons, ex_cons]
    rcases h z (by simp) with rfl | rfl | rfl | rfl
    · rw [if_pos rfl, if_neg (by omega), if_neg (by omega), Int.add_comm, Int.zero_add]
      exact (ih.cons _).trans ((pw_up l1 _).right _)
    · rw [if_neg (by omega), if_pos rfl, if_neg (by omega), if_neg (by omega), Int.add_comm, Int.zero_add]
      exact (ih.cons _).trans ((pw_dn l1 _).right _)
    · rw [if_neg (by omega), if_neg (by omega), if_pos rfl, Int.zero_add, Int.add_comm 1 (ex 3 w)]
      exact (ih.cons _).trans ((pw_far f1 f2 _ _).trans ((pw_up l3 _).left _))
    · rw [if_neg (by omega), if_neg (by omega), if_neg (by omega), if_pos rfl, Int.zero_add, Int.add_comm (-1) (ex 3 w)]
      exact (ih.cons _).trans ((pw_far f3 f4 _ _).trans ((pw_dn l3 _).left _))
theorem crW_cons (c : UInt8) (l : List UInt8) : crW (c :: l) = crL c ++ crW l := by simp [crW]
theorem crW_app (a b : List UInt8) : crW (a ++ b) = crW a ++ crW b := by simp [crW]
theorem tot_cons (c : UInt8) (L : List UInt8) : tot s0 (c :: L) = (sylOf c).add (tot s0 L) := by
  show tot (s0.add (sylOf c)) L = _
  rw [tot_comm, add_zero_l]
theorem cross_tot : ∀ {L : List UInt8}, (∀ c ∈ L, Lk true c = true) → (∀ z ∈ crW L, z = 2 ∨ z = -2) ∧ ex 2 (crW L) = (tot s0 L).x
  | [], _ => ⟨fun z hz => absurd hz (by simp [crW]), rfl⟩
  | c :: L, h => by
    have ih := cross_tot (L := L) (fun d hd => h d (by simp [hd]))
    have key := byte_all (p := fun c => !(Lk true c) || ((crL c).all (fun z => z == 2 || z == -2) && ex 2 (crL c) == (sylOf c).x)) (by decide +kernel) c
    simp only [h c (by simp), Bool.not_true, Bool.false_or, Bool.and_eq_true, List.all_eq_true, Bool.or_eq_true, beq_iff_eq] at key
    rw [crW_cons, ex_app, tot_cons]
    refine ⟨fun z hz => ?_, ?_⟩
    · rcases List.mem_append.1 hz with hz | hz
      · exact key.1 z hz
      · exact ih.1 z hz
    · rw [key.2, ih.2]; rfl
theorem twist_tot : ∀ {L : List UInt8}, (∀ c ∈ L, Lk false c = true) → (∀ z ∈ crW L, z = 1 ∨ z = -1 ∨ z = 3 ∨ z = -3) ∧ ex 1 (crW L) = -(tot s0 L).l ∧ ex 3 (crW L) = -(tot s0 L).r
  | [], _ => ⟨fun z hz => absurd hz (by simp [crW]), rfl, rfl⟩
  | c :: L, h => by
    have ih := twist_tot (L := L) (fun d hd => h d (by simp [hd]))
    have key := byte_all (p := fun c => !(Lk false c) || ((crL c).all (fun z => z == 1 || z == -1 || z == 3 || z == -3) && ex 1 (crL c) == -(sylOf c).l && ex 3 (crL c) == -(sylOf c).r)) (by decide +kernel) c
    simp only [h c (by simp), Bool.not_true, Bool.false_or, Bool.and_eq_true, List.all_eq_true, Bool.or_eq_true, beq_iff_eq] at key
    rw [crW_cons, ex_app, ex_app, tot_cons]
    refine ⟨fun z hz => ?_, ?_, ?_⟩
    · rcases List.mem_append.1 hz with hz | hz
      · have := key.1.1 z hz; omega
      · exact ih.1 z hz
    · rw [key.1.2, ih.2.1]
      show _ = -((sylOf c).l + _)
      omega
    · rw [key.2, ih.2.2]
      show _ = -((sylOf c).r + _)
      omega
theorem crW_same {k : Bool} {L M : List UInt8} (hl : ∀ c ∈ L, Lk k c = true) (hm : ∀ c ∈ M, Lk k c = true) (e : tot s0 L = tot s0 M) : Eqv 4 (crW L) (crW M) := by
  cases k with
  | true =>
    have h1 := cross_tot hl
    have h2 := cross_tot hm
    have c1 := canon2 _ h1.1
    have c2 := canon2 _ h2.1
    rw [h1.2] at c1
    rw [h2.2, ← e] at c2
    exact c1.trans c2.symm
  | false =>
    have h1 := twist_tot hl
    have h2 := twist_tot hm
    have c1 := canon13 _ h1.1
    have c2 := canon13 _ h2.1
    rw [h1.2.1, h1.2.2] at c1
    rw [h2.2.1, h2.2.2, ← e] at c2
    exact c1.trans c2.symm
theorem tot_rep (v : Syl) (n : Nat) (c : UInt8) : tot v (List.replicate n c) = ⟨v.x + n * (sylOf c).x, v.l + n * (sylOf c).l, v.r + n * (sylOf c).r⟩ := by
  induction n generalizing v with
  | zero => simp [tot]
  | succ n ih =>
    rw [List.replicate_succ]
    show tot (v.add (sylOf c)) (List.replicate n c) = _
    rw [ih]
    simp only [Syl.add, Syl.mk.injEq, Int.natCast_succ, Int.add_mul]
    omega
theorem word_tot (v : Syl) : tot s0 (wordL v) = v := by
  unfold wordL
  simp only [tot_app, tot_rep]
  cases v with
  | mk x l r =>
    generalize Syl.both ⟨x, l, r⟩ = b
    rw [show sylOf 67 = ⟨1, 0, 0⟩ from rfl, show sylOf 76 = ⟨0, 1, 0⟩ from rfl, show sylOf 82 = ⟨0, 0, 1⟩ from rfl, show sylOf 84 = ⟨0, 1, 1⟩ from rfl, show sylOf 99 = ⟨-1, 0, 0⟩ from rfl, show sylOf 108 = ⟨0, -1, 0⟩ from rfl, show sylOf 114 = ⟨0, 0, -1⟩ from rfl, show sylOf 116 = ⟨0, -1, -1⟩ from rfl]
    simp only [Syl.mk.injEq, s0]
    omega
theorem word_lk {k : Bool} {v : Syl} (h : KindS k v) : ∀ c ∈ wordL v, Lk k c = true := by
  intro c hc
  cases k with
  | true =>
    simp only [KindS, if_true] at h
    have e : v = ⟨v.x, 0, 0⟩ := by cases v; simp at h; simp [h]
    rw [e, word_cross] at hc
    simp only [List.mem_append, List.mem_replicate] at hc
    rcases hc with ⟨_, rfl⟩ | ⟨_, rfl⟩ <;> rfl
  | false =>
    simp only [KindS, Bool.false_eq_true, if_false] at h
    simp only [wordL, List.mem_append, List.mem_replicate, h] at hc
    rcases hc with ((((((hc | hc) | hc) | hc) | hc) | hc) | hc) | hc
    · exact absurd rfl hc.1
    all_goals (first | (obtain ⟨_, rfl⟩ := hc; rfl) | exact absurd rfl hc.1)
theorem put_braid {S : List Syl} (hS : Val S) {k : Bool} {c : UInt8} (hc : Lk k c = true) : Eqv 4 (crW ((putS S c).flatMap wordL)) (crW (S.flatMap wordL) ++ crL c) := by
  obtain ⟨B, v, rfl, _, hn, hk⟩ := val_kind hS k
  rw [put_add hn hk hc, flat_add, flat_add, crW_app, crW_app, List.append_assoc]
  refine Eqv.left ?_ _
  have e : crW (wordL v) ++ crL c = crW (wordL v ++ [c]) := by rw [crW_app]; simp [crW]
  rw [e]
  refine crW_same (k := k) (word_lk (kind_add hk (lk_facts hc).1)) (fun d hd => ?_) ?_
  · rcases List.mem_append.1 hd with hd | hd
    · exact word_lk hk d hd
    · rw [List.mem_singleton.1 hd]; exact hc
  · rw [word_tot, tot_app, word_tot]; rfl
/-- Letters of a part. -/
def Pt (p : List UInt8) : Prop := ∀ c ∈ p, isLt c = true ∧ c ≠ 80
theorem Pt.lk {p : List UInt8} (h : Pt p) : ∀ c ∈ p, ∃ k, Lk k c = true := fun c hc => lk_of (h c hc).1 (h c hc).2
theorem fold_braid : ∀ {p : List UInt8} {S : List Syl}, Val S → Pt p → Eqv 4 (crW ((p.foldl putS S).flatMap wordL)) (crW (S.flatMap wordL) ++ crW p)
  | [], S, _, _ => by
    rw [show crW [] = [] from rfl, List.append_nil]
    exact .refl _
  | c :: p, S, hS, h => by
    obtain ⟨k, hk⟩ := h.lk c (by simp)
    have h1 := fold_braid (p := p) (put_val hS ⟨k, hk⟩) (fun d hd => h d (by simp [hd]))
    have h2 := (put_braid hS hk).right (crW p)
    rw [List.append_assoc, ← crW_cons] at h2
    exact h1.trans h2
theorem red_braid {p : List UInt8} (h : Pt p) : Eqv 4 (crW (redL p)) (crW p) := fold_braid .nil h
theorem read_val {p : List UInt8} (h : Pt p) : Val (readS p) := fold_val .nil h.lk
theorem read_back {S : List Syl} (h : Val S) : readS (S.flatMap wordL) = S := by
  induction h with
  | nil => rfl
  | @snoc B v k _ hn hk hv ih =>
    unfold readS at ih ⊢
    rw [List.flatMap_append, List.foldl_append, ih]
    have := (put_all hn (kind_zero k) (word_lk hk)).1
    rw [word_tot] at this
    rw [show addS B s0 = B by simp [addS, s0, Syl.isNil]] at this
    simpa [addS, hv] using this
theorem red_read {p : List UInt8} (h : Pt p) : readS (redL p) = readS p := read_back (read_val h)
theorem red_pt {p : List UInt8} (h : Pt p) : Pt (redL p) := by
  have key : ∀ {S : List Syl}, Val S → Pt (S.flatMap wordL) := by
    intro S hS
    induction hS with
    | nil => intro c hc; cases hc
    | @snoc B v k _ _ hk _ ih =>
      intro c hc
      rw [List.flatMap_append, List.mem_append] at hc
      rcases hc with hc | hc
      · exact ih c hc
      · have := word_lk hk c (by simpa using hc)
        have key := byte_all (p := fun c => !(Lk k c) || (isLt c && c != 80)) (by cases k <;> decide +kernel) c
        simpa [this] using key
  exact key (read_val h)
/-- Left and right exchanged. -/
def lrS (s : Syl) : Syl := ⟨s.x, s.r, s.l⟩
theorem syl_flp {c : UInt8} (h : isLt c = true) : sylOf (flp c) = lrS (sylOf c) := by
  have key := byte_all (p := fun c => !(isLt c) || ((sylOf (flp c)).x == (sylOf c).x && (sylOf (flp c)).l == (sylOf c).r && (sylOf (flp c)).r == (sylOf c).l)) (by decide +kernel) c
  simp only [h, Bool.not_true, Bool.false_or, Bool.and_eq_true, beq_iff_eq] at key
  unfold lrS
  rw [← key.1.1, ← key.1.2, ← key.2]
theorem add_fl (L : List Syl) (t : Syl) : addS (L.map lrS) (lrS t) = (addS L t).map lrS := by
  have : (lrS t).isNil = t.isNil := by
    simp only [lrS, Syl.isNil]
    cases t.x == 0 <;> cases t.l == 0 <;> cases t.r == 0 <;> rfl
  unfold addS
  rw [this]
  split <;> simp
theorem put_fl (S : List Syl) {c : UInt8} (h : isLt c = true) : putS (S.map lrS) (flp c) = (putS S c).map lrS := by
  rcases List.eq_nil_or_concat S with rfl | ⟨B, t, rfl⟩
  · rw [putS_nil]
    show putS [] _ = _
    rw [putS_nil, syl_flp h, ← add_fl]; rfl
  · rw [List.concat_eq_append, List.map_append]
    show putS (B.map lrS ++ [lrS t]) _ = _
    have hc : (sylOf (flp c)).cr = (sylOf c).cr := by rw [syl_flp h]; rfl
    by_cases hk : t.cr = (sylOf c).cr
    · rw [putS_same hk, putS_same (by rw [hc]; exact hk), syl_flp h, ← add_fl]
      rfl
    · rw [putS_other hk, putS_other (by rw [hc]; exact hk), syl_flp h, ← add_fl]
      simp
theorem read_fl {p : List UInt8} (h : ∀ c ∈ p, isLt c = true) : readS (p.map flp) = (readS p).map lrS := by
  have key : ∀ (p : List UInt8) (S : List Syl), (∀ c ∈ p, isLt c = true) → (p.map flp).foldl putS (S.map lrS) = (p.foldl putS S).map lrS := by
    intro p
    induction p with
    | nil => intro S _; rfl
    | cons c p ih =>
      intro S h
      rw [List.map_cons, List.foldl_cons, List.foldl_cons, put_fl S (h c (by simp))]
      exact ih _ (fun d hd => h d (by simp [hd]))
  exact key p [] h
theorem red_fl {p : List UInt8} (h : Pt p) : redL ((redL p).map flp) = redL (p.map flp) := by
  show (readS ((redL p).map flp)).flatMap wordL = (readS (p.map flp)).flatMap wordL
  rw [read_fl (fun c hc => (h c hc).1), read_fl (fun c hc => (red_pt h c hc).1), red_read h]
theorem split_pt {l : List UInt8} (h : l.all isLt = true) : ∀ p ∈ splitL 80 l, Pt p := fun p hp c hc =>
  ⟨List.all_eq_true.1 h c (split_mem l p hp c hc), split_no80 l p hp c hc⟩
theorem word_txt_add (s : Syl) (c : UInt8) : (wordL (s.add (sylOf c))).length ≤ (wordL s).length + 1 := by
  rw [(word_perm _).length_eq, (word_perm _).length_eq]
  have h1 := txt_add s (sylOf c)
  have h2 := txt_one c
  omega
theorem same_iff {p q : List UInt8} : SameP p q ↔ Eqv 4 (crW p) (crW q) := eqv_iff (by omega) (crW_word p) (crW_word q)
theorem put_len {S : List Syl} (hS : Val S) {k : Bool} {c : UInt8} (hc : Lk k c = true) : ((putS S c).flatMap wordL).length ≤ (S.flatMap wordL).length + 1 := by
  obtain ⟨B, v, rfl, _, hn, hk⟩ := val_kind hS k
  rw [put_add hn hk hc, flat_add, flat_add, List.length_append, List.length_append]
  have := word_txt_add v c
  omega
theorem red_len {p : List UInt8} (h : Pt p) : (redL p).length ≤ p.length := by
  have key : ∀ (p : List UInt8) (S : List Syl), Val S → Pt p → ((p.foldl putS S).flatMap wordL).length ≤ (S.flatMap wordL).length + p.length := by
    intro p
    induction p with
    | nil => intro S _ _; exact Nat.le_refl _
    | cons c p ih =>
      intro S hS h
      obtain ⟨k, hk⟩ := h.lk c (by simp)
      have h1 := ih _ (put_val hS ⟨k, hk⟩) (fun d hd => h d (by simp [hd]))
      have h2 := put_len hS hk
      simp only [List.foldl_cons, List.length_cons]
      omega
  have := key p [] .nil h
  rw [List.flatMap_nil, List.length_nil, Nat.zero_add] at this
  exact this
/-- A word, reduced. -/
def redJ (w : List UInt8) : List UInt8 := jn ((splitL 80 w).map redL)
theorem redJ_len {w : List UInt8} (h : w.all isLt = true) : (redJ w).length ≤ w.length := by
  have := jn_len_le (f := redL) (ps := splitL 80 w) (fun p hp => red_len (split_pt h p hp))
  rwa [jn_split] at this
theorem redJ_split {w : List UInt8} (h : w.all isLt = true) : splitL 80 (redJ w) = (splitL 80 w).map redL := by
  unfold redJ
  rw [split_jn (by rw [splitL_ne]; simp)]
  intro p hp c hc
  obtain ⟨q, hq, rfl⟩ := List.mem_map.1 hp
  exact (red_pt (split_pt h q hq) c hc).2
theorem jn_lt : ∀ {ps : List (List UInt8)}, (∀ p ∈ ps, p.all isLt = true) → (jn ps).all isLt = true
  | [], _ => rfl
  | [p], h => h p (by simp)
  | p :: q :: r, h => by
    show (p ++ 80 :: jn (q :: r)).all isLt = true
    rw [List.all_append, List.all_cons, h p (by simp), jn_lt (ps := q :: r) (fun x hx => h x (by simp only [List.mem_cons] at hx ⊢; exact Or.inr hx))]
    decide
theorem pt_all {p : List UInt8} (h : Pt p) : p.all isLt = true := List.all_eq_true.2 fun c hc => (h c hc).1
theorem redJ_lt {w : List UInt8} (h : w.all isLt = true) : (redJ w).all isLt = true := jn_lt fun p hp => by
  obtain ⟨q, hq, rfl⟩ := List.mem_map.1 hp
  exact pt_all (red_pt (split_pt h q hq))
theorem redJ_twice {w : List UInt8} (h : w.all isLt = true) : redJ (redJ w) = redJ w := by
  show jn ((splitL 80 (redJ w)).map redL) = jn ((splitL 80 w).map redL)
  rw [redJ_split h, List.map_map]
  congr 1
  refine List.map_congr_left fun p hp => ?_
  show (readS (redL p)).flatMap wordL = _
  rw [red_read (split_pt h p hp)]; rfl
theorem redJ_same {w : List UInt8} (h : w.all isLt = true) : SameL (splitL 80 w) (splitL 80 (redJ w)) := by
  rw [redJ_split h]
  refine ⟨by simp, fun k x y hx hy => ?_⟩
  rw [List.getElem?_map, hx] at hy
  obtain rfl : redL x = y := by simpa using hy
  exact same_iff.2 (red_braid (split_pt h x (List.mem_of_getElem? hx))).symm
theorem flp80 {c : UInt8} (h : isLt c = true) : flp c = 80 → c = 80 := by
  rcases isLt_cases h with rfl | rfl | rfl | rfl | rfl | rfl | rfl | rfl | rfl <;> decide
theorem mir80 {c : UInt8} (h : isLt c = true) : mir c = 80 → c = 80 := by
  rcases isLt_cases h with rfl | rfl | rfl | rfl | rfl | rfl | rfl | rfl | rfl <;> decide
theorem uns80 {c : UInt8} (h : isLt c = true) : uns c = 80 → c = 80 := by
  rcases isLt_cases h with rfl | rfl | rfl | rfl | rfl | rfl | rfl | rfl | rfl <;> decide
theorem flp_pt {p : List UInt8} (h : Pt p) : Pt (p.map flp) := fun c hc => by
  obtain ⟨d, hd, rfl⟩ := List.mem_map.1 hc
  exact ⟨flp_lt d (h d hd).1, fun e => (h d hd).2 (flp80 (h d hd).1 e)⟩
theorem redJ_flp {w : List UInt8} (h : w.all isLt = true) : redJ ((redJ w).map flp) = redJ (w.map flp) := by
  have hl := List.all_eq_true.1 h
  have hr := List.all_eq_true.1 (redJ_lt h)
  unfold redJ at *
  rw [split_map rfl (fun c hc => flp80 (hr c hc)), split_map rfl (fun c hc => flp80 (hl c hc))]
  have := redJ_split h
  unfold redJ at this
  rw [this, List.map_map, List.map_map, List.map_map]
  congr 1
  refine List.map_congr_left fun p hp => ?_
  exact red_fl (split_pt h p hp)
/-- A word on the other side of Delta. -/
theorem trn_trn {n : Nat} {z : Int} (h : Letter n z) : trn n (trn n z) = z := by
  obtain ⟨h1, h2, h3⟩ := h
  unfold trn
  split <;> split <;> omega
theorem map_trn_trn {n : Nat} {w : List Int} (h : Word n w) : (w.map (trn n)).map (trn n) = w := by
  rw [List.map_map]
  conv => rhs; rw [← List.map_id w]
  refine List.map_congr_left fun z hz => ?_
  exact trn_trn (h z hz)
theorem eqv_trn1 {n : Nat} {w v : List Int} (hw : Word n w) (hv : Word n v) (h : Eqv n w v) : Eqv n (w.map (trn n)) (v.map (trn n)) := by
  have h1 : Eqv n (w.map (trn n) ++ dw n) (v.map (trn n) ++ dw n) := (past_all w hw).symm.trans ((h.left (dw n)).trans (past_all v hv))
  have h2 := h1.right (inv (dw n))
  rw [List.append_assoc, List.append_assoc] at h2
  have c := canc_r (dw n) (dw_word n)
  have c1 := c.left (w.map (trn n))
  have c2 := c.left (v.map (trn n))
  rw [List.append_nil] at c1 c2
  exact c1.symm.trans (h2.trans c2)
theorem eqv_trn {n : Nat} {w v : List Int} (hw : Word n w) (hv : Word n v) : Eqv n (w.map (trn n)) (v.map (trn n)) ↔ Eqv n w v :=
  ⟨fun h => by
    have := eqv_trn1 hw.trn hv.trn h
    rwa [map_trn_trn hw, map_trn_trn hv] at this, eqv_trn1 hw hv⟩
theorem sw1 : Eqv 4 [-1, -3] [-3, -1] := .far [] [] ⟨1, 3, by omega, by omega, by omega⟩
theorem sw2 : Eqv 4 [1, 3] [3, 1] := .far [] [] ⟨1, 3, by omega, by omega, by omega⟩
theorem letter_ways {c : UInt8} (h : isLt c = true) : Eqv 4 (crL (flp c)) ((crL c).map (trn 4)) ∧ Eqv 4 (crL (mir c)) (ng ((crL c).map (trn 4))) ∧ Eqv 4 (crL (uns c)) (inv (crL c)) := by
  have key : ∀ {a b : List Int}, (a = b ∨ a = [-1, -3] ∧ b = [-3, -1] ∨ a = [1, 3] ∧ b = [3, 1]) → Eqv 4 a b := by
    intro a b h
    rcases h with rfl | ⟨rfl, rfl⟩ | ⟨rfl, rfl⟩
    · exact .refl _
    · exact sw1
    · exact sw2
  refine ⟨key ?_, key ?_, key ?_⟩ <;> rcases isLt_cases h with rfl | rfl | rfl | rfl | rfl | rfl | rfl | rfl | rfl <;> decide +kernel
theorem word_ways : ∀ {p : List UInt8}, (∀ c ∈ p, isLt c = true) → Eqv 4 (crW (p.map flp)) ((crW p).map (trn 4)) ∧ Eqv 4 (crW (p.map mir)) (ng ((crW p).map (trn 4))) ∧ Eqv 4 (crW (p.map uns).reverse) (inv (crW p))
  | [], _ => ⟨.refl _, .refl _, .refl _⟩
  | c :: p, h => by
    have ih := word_ways (p := p) (fun d hd => h d (by simp [hd]))
    have hc := letter_ways (h c (by simp))
    simp only [List.map_cons, List.reverse_cons, crW_cons, crW_app, List.map_append, ng_app, inv_app]
    refine ⟨hc.1.mul ih.1, hc.2.1.mul ih.2.1, ?_⟩
    rw [show crW [] = [] from rfl, List.append_nil]
    exact ih.2.2.mul hc.2.2
theorem same_ways {p q : List UInt8} (hp : ∀ c ∈ p, isLt c = true) (hq : ∀ c ∈ q, isLt c = true) : (SameP (p.map flp) (q.map flp) ↔ SameP p q) ∧ (SameP (p.map mir) (q.map mir) ↔ SameP p q) ∧ (SameP (p.map uns).reverse (q.map uns).reverse ↔ SameP p q) := by
  rw [same_iff, same_iff, same_iff, same_iff]
  have h1 := word_ways hp
  have h2 := word_ways hq
  have wp := crW_word p
  have wq := crW_word q
  refine ⟨?_, ?_, ?_⟩
  · rw [← eqv_trn wp wq]
    exact ⟨fun h => h1.1.symm.trans (h.trans h2.1), fun h => h1.1.trans (h.trans h2.1.symm)⟩
  · rw [← eqv_trn wp wq, ← eqv_ng (w := (crW p).map (trn 4))]
    exact ⟨fun h => h1.2.1.symm.trans (h.trans h2.2.1), fun h => h1.2.1.trans (h.trans h2.2.1.symm)⟩
  · constructor
    · intro h
      have := (h1.2.2.symm.trans (h.trans h2.2.2)).inv wp.inv wq.inv
      rwa [inv_inv, inv_inv] at this
    · exact fun h => h1.2.2.trans ((h.inv wp wq).trans h2.2.2.symm)
theorem sameL_map {f : List UInt8 → List UInt8} {xs ys : List (List UInt8)} (h : ∀ x ∈ xs, ∀ y ∈ ys, (SameP (f x) (f y) ↔ SameP x y)) : SameL (xs.map f) (ys.map f) ↔ SameL xs ys := by
  unfold SameL
  rw [List.length_map, List.length_map]
  refine and_congr_right fun _ => ⟨fun g k x y hx hy => ?_, fun g k x y hx hy => ?_⟩
  · exact (h x (List.mem_of_getElem? hx) y (List.mem_of_getElem? hy)).1 (g k _ _ (by rw [List.getElem?_map, hx]; rfl) (by rw [List.getElem?_map, hy]; rfl))
  · rw [List.getElem?_map] at hx hy
    cases ex : xs[k]? with
    | none => rw [ex] at hx; cases hx
    | some a =>
      cases ey : ys[k]? with
      | none => rw [ey] at hy; cases hy
      | some b =>
        rw [ex] at hx
        rw [ey] at hy
        obtain rfl : f a = x := by simpa using hx
        obtain rfl : f b = y := by simpa using hy
        exact (h a (List.mem_of_getElem? ex) b (List.mem_of_getElem? ey)).2 (g k a b ex ey)
theorem sameL_rev {xs ys : List (List UInt8)} : SameL xs.reverse ys.reverse ↔ SameL xs ys := by
  have key : ∀ {xs ys : List (List UInt8)}, SameL xs ys → SameL xs.reverse ys.reverse := by
    intro xs ys h
    refine ⟨by simpa using h.1, fun k x y hx hy => ?_⟩
    have hk : k < xs.length := by have := (List.getElem?_eq_some_iff.1 hx).1; simpa using this
    have hk2 : k < ys.length := by rw [← h.1]; exact hk
    rw [List.getElem?_reverse hk] at hx
    rw [List.getElem?_reverse hk2, ← h.1] at hy
    exact h.2 _ x y hx hy
  exact ⟨fun h => by have := key h; rwa [List.reverse_reverse, List.reverse_reverse] at this, key⟩
theorem same_words {a b : List UInt8} (ha : a.all isLt = true) (hb : b.all isLt = true) :
    (SameL (splitL 80 (a.map flp)) (splitL 80 (b.map flp)) ↔ SameL (splitL 80 a) (splitL 80 b)) ∧
    (SameL (splitL 80 (a.map mir)) (splitL 80 (b.map mir)) ↔ SameL (splitL 80 a) (splitL 80 b)) ∧
    (SameL (splitL 80 (a.map uns).reverse) (splitL 80 (b.map uns).reverse) ↔ SameL (splitL 80 a) (splitL 80 b)) := by
  have la := List.all_eq_true.1 ha
  have lb := List.all_eq_true.1 hb
  have w : ∀ x ∈ splitL 80 a, ∀ y ∈ splitL 80 b, _ := fun x hx y hy => same_ways (p := x) (q := y) (fun c hc => (split_pt ha x hx c hc).1) (fun c hc => (split_pt hb y hy c hc).1)
  refine ⟨?_, ?_, ?_⟩
  · rw [split_map rfl (fun c hc => flp80 (la c hc)), split_map rfl (fun c hc => flp80 (lb c hc))]
    exact sameL_map fun x hx y hy => (w x hx y hy).1
  · rw [split_map rfl (fun c hc => mir80 (la c hc)), split_map rfl (fun c hc => mir80 (lb c hc))]
    exact sameL_map fun x hx y hy => (w x hx y hy).2.1
  · rw [split_rev, split_rev, sameL_rev, split_map rfl (fun c hc => uns80 (la c hc)), split_map rfl (fun c hc => uns80 (lb c hc)), List.map_map, List.map_map]
    exact sameL_map fun x hx y hy => (w x hx y hy).2.2
/-- A word, and what undoes it, are nothing. -/
theorem undo_nothing {w : List UInt8} (h : w.all isLt = true) : Eqv 4 (crW w ++ crW (w.map uns).reverse) [] :=
  ((word_ways (List.all_eq_true.1 h)).2.2.left (crW w)).trans (canc_r _ (crW_word w))
theorem ways_twice {c : UInt8} (h : isLt c = true) : uns (uns c) = c ∧ flp (flp c) = c ∧ mir (mir c) = c := by
  rcases isLt_cases h with rfl | rfl | rfl | rfl | rfl | rfl | rfl | rfl | rfl <;> decide
end Go.Proofs.YtmefpaoakblndaaGreatDoor
namespace Go.Proofs.YtmefpaoakblndaaGreatDoor
theorem redS_data {s : ByteArray} (h : stV s = 0) : (redS s).data.toList = redJ s.data.toList := by
  unfold redS
  rw [if_pos h]
  show [80].intercalate _ = _
  rw [jn_join]; rfl
theorem stV_of {s : ByteArray} (h1 : s.data.toList.length ≤ 16) (h2 : s.data.toList.all isLt = true) : stV s = 0 := by
  have e2 : s.data.toList.length = s.size := by simp
  unfold stV
  rw [if_neg (by omega), if_pos h2]
theorem byte_eq {s t : ByteArray} (h : s.data.toList = t.data.toList) : s = t := by
  apply ByteArray.ext
  apply Array.toList_inj.1
  exact h
theorem redS_facts {s : ByteArray} (h : stV s = 0) : stV (redS s) = 0 ∧ redS (redS s) = redS s ∧ (redS s).size ≤ s.size ∧ SameW s (redS s) := by
  obtain ⟨h1, h2⟩ := st_ok h
  have e2 : s.data.toList.length = s.size := by simp
  have e3 : (redS s).data.toList.length = (redS s).size := by simp
  have hl := redJ_len h2
  have hd := redS_data h
  have hz : stV (redS s) = 0 := stV_of (by rw [hd]; omega) (by rw [hd]; exact redJ_lt h2)
  refine ⟨hz, ?_, by rw [← e3, hd]; omega, ?_⟩
  · apply byte_eq
    rw [redS_data hz, hd, redJ_twice h2]
  · unfold SameW
    rw [hd]
    exact redJ_same h2
theorem uns_lt (c : UInt8) (h : isLt c = true) : isLt (uns c) = true := by
  rcases isLt_cases h with rfl | rfl | rfl | rfl | rfl | rfl | rfl | rfl | rfl <;> decide
theorem und_ok {s : ByteArray} (h : stV s = 0) : stV (undS s) = 0 ∧ (undS s).data.toList = (s.data.toList.map uns).reverse := by
  obtain ⟨h1, h2⟩ := st_ok h
  have e2 : s.data.toList.length = s.size := by simp
  have hd : (undS s).data.toList = (s.data.toList.map uns).reverse := by unfold undS; rw [if_pos h]
  refine ⟨stV_of (by rw [hd]; simp; omega) ?_, hd⟩
  rw [hd, List.all_reverse]
  exact map_lt uns_lt h2
theorem und_twice {s : ByteArray} (h : stV s = 0) : undS (undS s) = s := by
  apply byte_eq
  rw [(und_ok (und_ok h).1).2, (und_ok h).2, List.map_reverse, List.reverse_reverse, List.map_map]
  conv => rhs; rw [← List.map_id s.data.toList]
  refine List.map_congr_left fun c hc => ?_
  exact (ways_twice (List.all_eq_true.1 (st_ok h).2 c hc)).1
theorem chg_twice {f : UInt8 → UInt8} (hf : ∀ c, isLt c = true → isLt (f c) = true) (hff : ∀ c, isLt c = true → f (f c) = c) {s : ByteArray} (h : stV s = 0) : chgS f (chgS f s) = s := by
  apply byte_eq
  rw [(chg_ok hf (chg_ok hf h).1).2, (chg_ok hf h).2, List.map_map]
  conv => rhs; rw [← List.map_id s.data.toList]
  refine List.map_congr_left fun c hc => ?_
  exact hff c (List.all_eq_true.1 (st_ok h).2 c hc)
open Go.RowKit
set_option linter.unusedSimpArgs false
attribute [local irreducible] wpQuiet
set_option maxHeartbeats 8000000 in
set_option maxRecDepth 100000 in
theorem undo_law (s : ByteArray) (w : World) (g : Glob w) (ms : s.size ≤ maxLen) : Calls Tryz.prog 6 #[.string s] w fun e w' => e = .returned (.bool true) ∧ Below w.heap.size w w' := by
  have HG := Lib.hid g
  have C0 := fun W => refCheck3_any s W
  by_cases hz : stV s = 0
  · rw [hz] at C0
    obtain ⟨hR0, hRR, hRl, hRS⟩ := redS_facts hz
    obtain ⟨hU0, hUd⟩ := und_ok hz
    have hF0 := (chg_ok flp_lt hz).1
    have hM0 := (chg_ok mir_lt hz).1
    have hmax : ∀ t : ByteArray, stV t = 0 → t.size ≤ maxLen := fun t ht => by have := (st_ok ht).1; unfold maxLen; omega
    have C1 := fun W g => stReduce_any s ms W g
    have C2 := fun W g => stReduce_any (redS s) (hmax _ hR0) W g
    have hse : sameE s (redS s) = 0 := by unfold sameE; rw [if_pos hz]; exact hR0
    have C3 := fun W g => stSame_any s (redS s) true (fun e => absurd hse e) (fun _ => ⟨fun _ => hRS, fun _ => rfl⟩) ms (hmax _ hR0) W g
    have C4 := fun W => Inverse_any s ms W
    have C5 := fun W => Inverse_any (undS s) (hmax _ hU0) W
    have C6 := fun W => Flip_any s ms W
    have C7 := fun W => Flip_any (chgS flp s) (hmax _ hF0) W
    have C8 := fun W => Mirror_any s ms W
    have C9 := fun W => Mirror_any (chgS mir s) (hmax _ hM0) W
    have C10 := fun W => Crossings_any s ms W
    have C11 := fun W => Crossings_any (undS s) (hmax _ hU0) W
    have hX : crossV s = crW s.data.toList := by unfold crossV; rw [if_pos hz]
    have hY : crossV (undS s) = crW (s.data.toList.map uns).reverse := by unfold crossV; rw [if_pos hU0, hUd]
    rw [hX] at C10
    rw [hY] at C11
    have hno := undo_nothing (st_ok hz).2
    have hXw := crW_word s.data.toList
    have hYw := crW_word (s.data.toList.map uns).reverse
    have hXl : (crW s.data.toList).length ≤ 32 := by have := crW_len s.data.toList; have := (st_ok hz).1; have e2 : s.data.toList.length = s.size := by simp
                                                     omega
    have hYl : (crW (s.data.toList.map uns).reverse).length ≤ 32 := by
      have h1 := crW_len (s.data.toList.map uns).reverse
      have h2 := (st_ok hz).1
      have e2 : s.data.toList.length = s.size := by simp
      rw [List.length_reverse, List.length_map] at h1
      omega
    rw [hse] at C3
    rw [hz] at C1 C4 C6 C8 C10
    rw [hR0, hRR] at C2
    rw [hU0, und_twice hz] at C5
    rw [hU0] at C11
    rw [hF0, chg_twice flp_lt (fun c h => (ways_twice h).2.1) hz] at C7
    rw [hM0, chg_twice mir_lt (fun c h => (ways_twice h).2.2) hz] at C9
    generalize crW s.data.toList = X at *
    generalize crW (s.data.toList.map uns).reverse = Y at *
    have hXY : Word 4 (X ++ Y) := hXw.app hYw
    have kxy : checkV ((4 : Nat) : Int) (X ++ Y) = 0 := checkV_of (by omega) (by omega) (by simp; omega) hXY
    have k0 : checkV 4 [] = 0 := rfl
    have hbo : bothV 4 (X ++ Y) [] = 0 := by unfold bothV; rw [if_pos (show checkV 4 (X ++ Y) = 0 from kxy)]; exact k0
    have CT : ∀ (u : Value) (W : World), IS W u (X ++ Y) → Calls Tryz.prog 33 #[.int .i64 4, u] W fun e w' => e = .returned (.tuple #[.bool true, .int .i64 0]) ∧ Below W.heap.size W w' := fun u W hu => by
      have := refTrivial_any 4 (X ++ Y) u W hu true (fun h => absurd hbo h) (fun _ => ⟨fun _ => hno.nf (by omega) hXY, fun _ => rfl⟩)
      rw [hbo] at this
      exact this
    have hXl2 : (X.length : Int) ≤ 32 := by omega
    have hYl2 : (Y.length : Int) ≤ 32 := by omega
    have hRl2 : ((redS s).size : Int) ≤ (s.size : Int) := by omega
    generalize redS s = R at *
    generalize undS s = U at *
    generalize chgS flp s = F at *
    generalize chgS mir s = M at *
    have H0 := Lib.hid C0
    have H1 := Lib.hid C1
    have H2 := Lib.hid C2
    have H3 := Lib.hid C3
    have H4 := Lib.hid C4
    have H5 := Lib.hid C5
    have H6 := Lib.hid C6
    have H7 := Lib.hid C7
    have H8 := Lib.hid C8
    have H9 := Lib.hid C9
    have H10 := Lib.hid C10
    have H11 := Lib.hid C11
    have HT := Lib.hid CT
    have HXL := Lib.hid hXl
    have HYL := Lib.hid hYl
    clear C0 C1 C2 C3 C4 C5 C6 C7 C8 C9 C10 C11 CT g hz hR0 hRR hRl hRS hU0 hUd hF0 hM0 hmax hse hX hY hno hXw hYw hXl hYl hXY kxy k0 hbo
    go_enter Tryz.func6, Tryz.ntmps6
    go_wp2_with fail
    refine (H0.out _).mono ?_
    rintro e w1 ⟨rfl, hw⟩
    obtain rfl := hw.symm
    clear hw
    go_wp2_with fail
    refine (H1.out _ (HG.out)).mono ?_
    rintro e w2 ⟨rfl, hb⟩
    have B2 := Lib.hid hb
    clear hb
    go_wp2_with fail
    refine (H2.out _ (HG.out.next B2.out)).mono ?_
    rintro e w3 ⟨rfl, hb⟩
    have B3 := Lib.hid (B2.out.trans (hb.mono B2.out.size))
    clear hb
    go_wp2_with fail
    refine (H3.out _ (HG.out.next B3.out)).mono ?_
    rintro e w4 ⟨rfl, hb⟩
    have B4 := Lib.hid (B3.out.trans (hb.mono B3.out.size))
    clear hb
    go_wp2_with fail
    refine (H4.out _).mono ?_
    rintro e w5 ⟨rfl, hb⟩
    have B5 := Lib.hid (B4.out.trans (hb.mono B4.out.size))
    clear hb
    go_wp2_with fail
    refine (H5.out _).mono ?_
    rintro e w6 ⟨rfl, hb⟩
    have B6 := Lib.hid (B5.out.trans (hb.mono B5.out.size))
    clear hb
    go_wp2_with fail
    refine (H6.out _).mono ?_
    rintro e w7 ⟨rfl, hb⟩
    have B7 := Lib.hid (B6.out.trans (hb.mono B6.out.size))
    clear hb
    go_wp2_with fail
    refine (H7.out _).mono ?_
    rintro e w8 ⟨rfl, hb⟩
    have B8 := Lib.hid (B7.out.trans (hb.mono B7.out.size))
    clear hb
    go_wp2_with fail
    refine (H8.out _).mono ?_
    rintro e w9 ⟨rfl, hb⟩
    have B9 := Lib.hid (B8.out.trans (hb.mono B8.out.size))
    clear hb
    go_wp2_with fail
    refine (H9.out _).mono ?_
    rintro e w10 ⟨rfl, hb⟩
    have B10 := Lib.hid (B9.out.trans (hb.mono B9.out.size))
    clear hb
    go_wp2_with fail
    refine (H10.out _).mono ?_
    rintro e w11 ⟨vx, rfl, ix, hb⟩
    have IX := Lib.hid ix
    clear ix
    have B11 := Lib.hid (B10.out.trans (hb.mono B10.out.size))
    clear hb
    go_wp2_with fail
    refine (H11.out _).mono ?_
    rintro e w12 ⟨vy, rfl, iy, hb⟩
    replace IX := Lib.hid (IX.out.below hb)
    have IY := Lib.hid iy
    clear iy
    have B12 := Lib.hid (B11.out.trans (hb.mono B11.out.size))
    clear hb
    obtain ⟨sx, cx, rfl, px1, px2, px3, px4⟩ := IX.out
    obtain ⟨sy, cy, rfl, py1, py2, py3, py4⟩ := IY.out
    have PX4 := Lib.hid px4
    have PY4 := Lib.hid py4
    clear px4 py4 IX IY
    have A0 : Below w12.heap.size w12 (w12.alloc (.cells #[] 3)) := below_alloc _ _
    go_wp2_with (first
      | (at_builtin; refine app_all (w0 := w12) w12.heap.size _ ([] ++ X) Y rfl _ _ rfl rfl O1.out _ rfl (IS.below ⟨sy, cy, rfl, py1, py2, py3, PY4.out⟩ D1.out) (by have := HXL.out; have := HYL.out; simp; omega) D1.out D1.out.size ?_; intro v2 wz o2 d2; have O2 := Lib.hid o2; have D2 := Lib.hid d2; clear o2 d2)
      | (at_builtin; refine app_all (w0 := w12) w12.heap.size _ [] X rfl _ _ rfl rfl (World.ownsRow_made w12 #[] 0 (Nat.le_refl _) (Nat.zero_le _) rfl) _ rfl (IS.below ⟨sx, cx, rfl, px1, px2, px3, PX4.out⟩ A0) (by have := HXL.out; simp; omega) A0 A0.size ?_; intro v1 wy o1 d1; have O1 := Lib.hid o1; have D1 := Lib.hid d1; clear o1 d1))
    refine (HT.out v2 _ (is_own (zs := X ++ Y) O2.out rfl)).mono ?_
    rintro e wt ⟨rfl, hb⟩
    have DT := Lib.hid (D2.out.trans (hb.mono D2.out.size))
    have BT := Lib.hid (B12.out.trans (DT.out.mono B12.out.size))
    clear hb
    go_wp2_with fail
    refine (shown_any _ (HG.out.next BT.out)).mono ?_
    rintro e ws ⟨rfl, hb⟩
    have BS := Lib.hid (BT.out.trans (hb.mono BT.out.size))
    clear hb
    go_wp2_with fail
    go_ret
    exact ⟨by first | rfl | (simp; done), BS.out⟩
  · have hq : (stV s != 0) = true := by simpa using hz
    generalize stV s = z at *
    have H0 := Lib.hid C0
    clear C0 hz g
    go_enter Tryz.func6, Tryz.ntmps6
    go_wp2_with fail
    refine (H0.out _).mono ?_
    rintro e w1 ⟨rfl, hw⟩
    obtain rfl := hw.symm
    clear hw
    go_wp2_with fail
    refine (shown_any _ (HG.out)).mono ?_
    rintro e ws ⟨rfl, hb⟩
    have BS := Lib.hid (hb)
    clear hb
    go_wp2_with fail
    go_ret
    exact ⟨by first | rfl | (simp; done), BS.out⟩
end Go.Proofs.YtmefpaoakblndaaGreatDoor
namespace Go.Proofs.YtmefpaoakblndaaGreatDoor
def trnS (k : Nat) (s : ByteArray) : ByteArray := if k = 0 then chgS flp s else if k = 1 then chgS mir s else undS s
theorem trnS_ok {s : ByteArray} (h : stV s = 0) (k : Nat) : stV (trnS k s) = 0 := by
  unfold trnS
  split
  · exact (chg_ok flp_lt h).1
  · split
    · exact (chg_ok mir_lt h).1
    · exact (und_ok h).1
theorem trnS_same {a b : ByteArray} (ha : stV a = 0) (hb : stV b = 0) (k : Nat) : SameW (trnS k a) (trnS k b) ↔ SameW a b := by
  have h := same_words (st_ok ha).2 (st_ok hb).2
  unfold trnS SameW
  split
  · rw [(chg_ok flp_lt ha).2, (chg_ok flp_lt hb).2]; exact h.1
  · split
    · rw [(chg_ok mir_lt ha).2, (chg_ok mir_lt hb).2]; exact h.2.1
    · rw [(und_ok ha).2, (und_ok hb).2]; exact h.2.2
theorem redS_flp {s : ByteArray} (h : stV s = 0) : redS (chgS flp (redS s)) = redS (chgS flp s) := by
  have hR := (redS_facts h).1
  apply byte_eq
  rw [redS_data (chg_ok flp_lt hR).1, redS_data (chg_ok flp_lt h).1, (chg_ok flp_lt hR).2, (chg_ok flp_lt h).2, redS_data h]
  exact redJ_flp (st_ok h).2
theorem st_max {t : ByteArray} (h : stV t = 0) : t.size ≤ maxLen := by have := (st_ok h).1; unfold maxLen; omega
open Go.RowKit
set_option linter.unusedSimpArgs false
set_option maxHeartbeats 4000000 in
set_option maxRecDepth 100000 in
theorem wayTurned_any (s : ByteArray) (h : stV s = 0) (k : Nat) (hk : k < 3) (w : World) : Calls Tryz.prog 34 #[.string s, .int .i64 (k : Int)] w fun e w' => e = .returned (.tuple #[.string (trnS k s), .int .i64 0]) ∧ Below w.heap.size w w' := by
  have C1 := fun W => Flip_any s (st_max h) W
  have C2 := fun W => Mirror_any s (st_max h) W
  have C3 := fun W => Inverse_any s (st_max h) W
  rw [h] at C1 C2 C3
  have hc : k = 0 ∨ k = 1 ∨ k = 2 := by omega
  clear h
  rcases hc with rfl | rfl | rfl
  · rw [show trnS 0 s = chgS flp s from rfl]
    have H := Lib.hid C1
    clear C1 C2 C3
    go_enter Tryz.func34, Tryz.ntmps34
    go_wp2_with fail
    refine (H.out _).mono ?_
    rintro e w1 ⟨rfl, hb⟩
    have B1 := Lib.hid hb
    clear hb
    go_wp2_with fail
    go_ret2
    exact ⟨rfl, B1.out⟩
  · rw [show trnS 1 s = chgS mir s from rfl]
    have H := Lib.hid C2
    clear C1 C2 C3
    go_enter Tryz.func34, Tryz.ntmps34
    go_wp2_with fail
    refine (H.out _).mono ?_
    rintro e w1 ⟨rfl, hb⟩
    have B1 := Lib.hid hb
    clear hb
    go_wp2_with fail
    go_ret2
    exact ⟨rfl, B1.out⟩
  · rw [show trnS 2 s = undS s from rfl]
    have H := Lib.hid C3
    clear C1 C2 C3
    go_enter Tryz.func34, Tryz.ntmps34
    go_wp2_with fail
    refine (H.out _).mono ?_
    rintro e w1 ⟨rfl, hb⟩
    have B1 := Lib.hid hb
    clear hb
    go_wp2_with fail
    go_ret2
    exact ⟨rfl, B1.out⟩
attribute [local irreducible] wpQuiet
set_option maxHeartbeats 8000000 in
set_option maxRecDepth 100000 in
theorem keep_ok (a b : ByteArray) (ha : stV a = 0) (hb : stV b = 0) (w : World) (g : Glob w) : Calls Tryz.prog 8 #[.string a, .string b] w fun e w' => e = .returned (.bool true) ∧ Below w.heap.size w w' := by
  have HG := Lib.hid g
  have C1 := fun W => refCheck3_any a W
  have C2 := fun W => refCheck3_any b W
  obtain ⟨r, hr0, hr1⟩ := same_bool a b
  have hse : sameE a b = 0 := by unfold sameE; rw [if_pos ha]; exact hb
  have C3 := fun W g => stSame_any a b r hr0 hr1 (st_max ha) (st_max hb) W g
  have C4 := fun k hk W => wayTurned_any a ha k hk W
  have C5 := fun k hk W => wayTurned_any b hb k hk W
  have C6 : ∀ (k : Nat) W, Glob W → Calls Tryz.prog 27 #[.string (trnS k a), .string (trnS k b)] W fun e w' => e = .returned (.tuple #[.bool r, .int .i64 0]) ∧ Below W.heap.size W w' := fun k W g => by
    have hk : sameE (trnS k a) (trnS k b) = 0 := by unfold sameE; rw [if_pos (trnS_ok ha k)]; exact trnS_ok hb k
    have := stSame_any (trnS k a) (trnS k b) r (fun e => absurd hk e) (fun _ => by rw [trnS_same ha hb]; exact hr1 hse) (st_max (trnS_ok ha k)) (st_max (trnS_ok hb k)) W g
    rw [hk] at this
    exact this
  have hR := (redS_facts ha).1
  have hF := (chg_ok flp_lt ha).1
  have hG := (chg_ok flp_lt hR).1
  have C7 := fun W g => stReduce_any a (st_max ha) W g
  have C8 := fun W => Flip_any (redS a) (st_max hR) W
  have C9 := fun W => Flip_any a (st_max ha) W
  have C10 := fun W g => stReduce_any (chgS flp (redS a)) (st_max hG) W g
  have C11 := fun W g => stReduce_any (chgS flp a) (st_max hF) W g
  rw [ha] at C1 C7 C9
  rw [hb] at C2
  rw [hse] at C3
  rw [hR] at C8
  rw [hG, redS_flp ha] at C10
  rw [hF] at C11
  generalize redS (chgS flp a) = V at *
  generalize chgS flp (redS a) = T at *
  generalize redS a = R at *
  generalize chgS flp a = U at *
  have C6' : ∀ (x y : ByteArray) (k : Nat), x = trnS k a → y = trnS k b → ∀ W, Glob W → Calls Tryz.prog 27 #[.string x, .string y] W fun e w' => e = .returned (.tuple #[.bool r, .int .i64 0]) ∧ Below W.heap.size W w' := fun x y k hx hy => by rw [hx, hy]; exact C6 k
  have H1 := Lib.hid C1
  have H2 := Lib.hid C2
  have H3 := Lib.hid C3
  have H4 := Lib.hid C4
  have H5 := Lib.hid C5
  have H7 := Lib.hid C7
  have H8 := Lib.hid C8
  have H9 := Lib.hid C9
  have H10 := Lib.hid C10
  have H11 := Lib.hid C11
  have H6 := Lib.hid C6'
  clear C1 C2 C3 C4 C5 C6 C6' C7 C8 C9 C10 C11 hr0 hr1 hse hR hF hG g ha hb
  go_enter Tryz.func8, Tryz.ntmps8
  go_wp2_with fail
  refine (H1.out _).mono ?_
  rintro e w1 ⟨rfl, hw⟩
  obtain rfl := hw.symm
  clear hw
  go_wp2_with fail
  refine (H2.out _).mono ?_
  rintro e w2 ⟨rfl, hw⟩
  obtain rfl := hw.symm
  clear hw
  go_wp2_with fail
  refine (H3.out _ (HG.out)).mono ?_
  rintro e w3 ⟨rfl, hb⟩
  have B3 := Lib.hid hb
  clear hb
  go_wp2_with fail
  go_loopw [7] (fun i wr => ∃ k : Nat, k ≤ 3 ∧ i = .int .i64 k ∧ Below w.heap.size w wr) (fun i _ => 3 - (intOf i).toNat)
  case atStart => exact ⟨0, by omega, rfl, B3.out⟩
  case round =>
    obtain ⟨k, hk, rfl, hbk⟩ := hrel
    have BK := Lib.hid hbk
    clear hbk
    by_cases hkl : k < 3
    · have k1 : (k : Int) < 3 := by omega
      obtain ⟨x, hx⟩ : ∃ x, x = trnS k a := ⟨_, rfl⟩
      obtain ⟨y, hy⟩ : ∃ y, y = trnS k b := ⟨_, rfl⟩
      have D4 := Lib.hid (H4.out k hkl)
      have D5 := Lib.hid (H5.out k hkl)
      have D6 := Lib.hid (H6.out x y k hx hy)
      rw [← hx] at D4
      rw [← hy] at D5
      clear hx hy
      go_wp2_with fail
      refine (D4.out _).mono ?_
      rintro e w11 ⟨rfl, hb⟩
      have B11 := Lib.hid (BK.out.trans (hb.mono BK.out.size))
      clear hb
      go_wp2_with fail
      refine (D5.out _).mono ?_
      rintro e w12 ⟨rfl, hb⟩
      have B12 := Lib.hid (B11.out.trans (hb.mono B11.out.size))
      clear hb
      go_wp2_with fail
      refine (D6.out _ (HG.out.next B12.out)).mono ?_
      rintro e w13 ⟨rfl, hb⟩
      have B13 := Lib.hid (B12.out.trans (hb.mono B12.out.size))
      clear hb
      cases r with
      | true =>
        go_wp2_with fail
        go_roundw
        case rel => exact ⟨k + 1, hkl, by go_num, B13.out⟩
        case measure => (simp [intOf] <;> omega)
      | false =>
        go_wp2_with fail
        go_roundw
        case rel => exact ⟨k + 1, hkl, by go_num, B13.out⟩
        case measure => (simp [intOf] <;> omega)
    · have k1 : ¬ (k : Int) < 3 := by omega
      go_wp2_with fail
      refine (H7.out _ (HG.out.next BK.out)).mono ?_
      rintro e w21 ⟨rfl, hb⟩
      have B21 := Lib.hid (BK.out.trans (hb.mono BK.out.size))
      clear hb
      go_wp2_with fail
      refine (H8.out _).mono ?_
      rintro e w22 ⟨rfl, hb⟩
      have B22 := Lib.hid (B21.out.trans (hb.mono B21.out.size))
      clear hb
      go_wp2_with fail
      refine (H9.out _).mono ?_
      rintro e w23 ⟨rfl, hb⟩
      have B23 := Lib.hid (B22.out.trans (hb.mono B22.out.size))
      clear hb
      go_wp2_with fail
      refine (H10.out _ (HG.out.next B23.out)).mono ?_
      rintro e w24 ⟨rfl, hb⟩
      have B24 := Lib.hid (B23.out.trans (hb.mono B23.out.size))
      clear hb
      go_wp2_with fail
      refine (H11.out _ (HG.out.next B24.out)).mono ?_
      rintro e w25 ⟨rfl, hb⟩
      have B25 := Lib.hid (B24.out.trans (hb.mono B24.out.size))
      clear hb
      go_wp2_with fail
      refine (shown_any _ (HG.out.next B25.out)).mono ?_
      rintro e ws ⟨rfl, hb⟩
      have BS := Lib.hid (B25.out.trans (hb.mono B25.out.size))
      clear hb
      go_wp2_with fail
      go_ret
      exact ⟨by first | rfl | (simp; done), BS.out⟩
set_option maxHeartbeats 4000000 in
set_option maxRecDepth 100000 in
theorem keep_law (a b : ByteArray) (w : World) (g : Glob w) (_ : a.size ≤ maxLen) (_ : b.size ≤ maxLen) : Calls Tryz.prog 8 #[.string a, .string b] w fun e w' => e = .returned (.bool true) ∧ Below w.heap.size w w' := by
  by_cases ha : stV a = 0
  · by_cases hb : stV b = 0
    · exact keep_ok a b ha hb w g
    · have HG := Lib.hid g
      have C1 := fun W => refCheck3_any a W
      have C2 := fun W => refCheck3_any b W
      rw [ha] at C1
      have hq : (stV b != 0) = true := by simpa using hb
      generalize stV b = z at *
      have H1 := Lib.hid C1
      have H2 := Lib.hid C2
      clear C1 C2 ha hb g
      go_enter Tryz.func8, Tryz.ntmps8
      go_wp2_with fail
      refine (H1.out _).mono ?_
      rintro e w1 ⟨rfl, hw⟩
      obtain rfl := hw.symm
      clear hw
      go_wp2_with fail
      refine (H2.out _).mono ?_
      rintro e w2 ⟨rfl, hw⟩
      obtain rfl := hw.symm
      clear hw
      go_wp2_with fail
      refine (shown_any _ (HG.out)).mono ?_
      rintro e ws ⟨rfl, hb⟩
      have BS := Lib.hid (hb)
      clear hb
      go_wp2_with fail
      go_ret
      exact ⟨by first | rfl | (simp; done), BS.out⟩
  · have HG := Lib.hid g
    have C1 := fun W => refCheck3_any a W
    have hq : (stV a != 0) = true := by simpa using ha
    generalize stV a = z at *
    have H1 := Lib.hid C1
    clear C1 ha g
    go_enter Tryz.func8, Tryz.ntmps8
    go_wp2_with fail
    refine (H1.out _).mono ?_
    rintro e w1 ⟨rfl, hw⟩
    obtain rfl := hw.symm
    clear hw
    go_wp2_with fail
    refine (shown_any _ (HG.out)).mono ?_
    rintro e ws ⟨rfl, hb⟩
    have BS := Lib.hid (hb)
    clear hb
    go_wp2_with fail
    go_ret
    exact ⟨by first | rfl | (simp; done), BS.out⟩
end Go.Proofs.YtmefpaoakblndaaGreatDoor
