/- Merged: UA UC UD UE UF ZK ZC. -/
import Derived.Test.YtmefpaoakblndaaGreatDoorVZ
import Derived.Test.YtmefpaoakblndaaGreatDoorUJ
import Derived.Deep.CutRange
import Derived.Deep.QuietTactic
import Derived.BigQuiet
import Derived.WalkSmall
import Derived.Test.YtmefpaoakblndaaGreatDoorZA
import Derived.OrdersHeld
import Derived.Test.YtmefpaoakblndaaGreatDoorZB
import Derived.Test.YtmefpaoakblndaaGreatDoorVF
import Derived.Test.YtmefpaoakblndaaGreatDoorShelf
import Derived.Test.YtmefpaoakblndaaGreatDoorRows
import Derived.ProofKit
import Derived.LaidMore
import Derived.Lay
import Derived.OpenShut
import Derived.Stop.Joined
import Derived.Stop.LaidErr
import Derived.HandedShaped
import Derived.ChangeSame
namespace Go.Proofs.YtmefpaoakblndaaGreatDoor
set_option linter.unusedSimpArgs false
/-- The letters of a kind: crosses, or twists. -/
def Lk (k : Bool) (c : UInt8) : Bool := if k then c == 67 || c == 99 else c == 76 || c == 82 || c == 84 || c == 108 || c == 114 || c == 116
def KindS (k : Bool) (v : Syl) : Prop := if k then v.l = 0 ∧ v.r = 0 else v.x = 0
instance (k : Bool) (v : Syl) : Decidable (KindS k v) := by unfold KindS; infer_instance
def s0 : Syl := ⟨0, 0, 0⟩
theorem lk_facts {k : Bool} {c : UInt8} (h : Lk k c = true) : KindS k (sylOf c) ∧ (sylOf c).isNil = false ∧ (sylOf c).cr = k ∧ c ≠ 80 := by
  have key := byte_all (p := fun c => !(Lk k c) || (decide (KindS k (sylOf c)) && (sylOf c).isNil == false && (sylOf c).cr == k && c != 80)) (by cases k <;> decide +kernel) c
  simp only [h, Bool.not_true, Bool.false_or, Bool.and_eq_true, decide_eq_true_eq, beq_iff_eq, bne_iff_ne] at key
  exact ⟨key.1.1.1, key.1.1.2, key.1.2, key.2⟩
theorem lk_of {c : UInt8} (h : isLt c = true) (h8 : c ≠ 80) : ∃ k, Lk k c = true := by
  have key := byte_all (p := fun c => !(isLt c) || c == 80 || Lk true c || Lk false c) (by decide +kernel) c
  simp only [h, Bool.not_true, Bool.false_or, Bool.or_eq_true, beq_iff_eq] at key
  rcases key with (h | h) | h
  · exact absurd h h8
  · exact ⟨true, h⟩
  · exact ⟨false, h⟩
theorem syl_nil {v : Syl} (h : v.isNil = true) : v = s0 := by
  cases v
  simp only [Syl.isNil, Bool.and_eq_true, beq_iff_eq] at h
  simp [s0, h]
theorem add_zero_l (v : Syl) : s0.add v = v := by cases v; simp [Syl.add, s0]
theorem kind_add {k : Bool} {v u : Syl} (h : KindS k v) (g : KindS k u) : KindS k (v.add u) := by
  cases k
  · simp only [KindS, Bool.false_eq_true, if_false, Syl.add] at *; omega
  · simp only [KindS, if_true, Syl.add] at *; omega
theorem kind_zero (k : Bool) : KindS k s0 := by cases k <;> simp [KindS, s0]
theorem kind_cr {k : Bool} {v : Syl} (h : KindS k v) (hn : v.isNil = false) : v.cr = k := by
  cases k
  · simp only [KindS, Bool.false_eq_true, if_false] at h
    simp [Syl.cr, h]
  · simp only [KindS, if_true] at h
    simp only [Syl.isNil, h.1, h.2] at hn
    simpa [Syl.cr] using hn
def notK (k : Bool) (B : List Syl) : Prop := ∀ s, B.getLast? = some s → s.cr ≠ k
theorem put_add {B : List Syl} {v : Syl} {c : UInt8} {k : Bool} (hB : notK k B) (hv : KindS k v) (hc : Lk k c = true) : putS (addS B v) c = addS B (v.add (sylOf c)) := by
  obtain ⟨_, _, h3, _⟩ := lk_facts hc
  cases hn : v.isNil with
  | true =>
    rw [syl_nil hn, add_zero_l]
    have e : addS B s0 = B := by simp [addS, s0, Syl.isNil]
    rw [e]
    rcases List.eq_nil_or_concat B with rfl | ⟨B0, s, rfl⟩
    · exact putS_nil c
    · rw [List.concat_eq_append] at *
      rw [putS_other]
      rw [h3]
      exact hB s (by simp)
  | false =>
    have e : addS B v = B ++ [v] := by simp [addS, hn]
    rw [e, putS_same]
    rw [h3, kind_cr hv hn]
def tot (v : Syl) (l : List UInt8) : Syl := l.foldl (fun v c => v.add (sylOf c)) v
theorem tot_app (v : Syl) (a b : List UInt8) : tot v (a ++ b) = tot (tot v a) b := by simp [tot]
theorem put_all {B : List Syl} {k : Bool} (hB : notK k B) : ∀ {L : List UInt8} {v : Syl}, KindS k v → (∀ c ∈ L, Lk k c = true) → L.foldl putS (addS B v) = addS B (tot v L) ∧ KindS k (tot v L)
  | [], v, hv, _ => ⟨rfl, hv⟩
  | c :: L, v, hv, h => by
    have hc := h c (by simp)
    rw [List.foldl_cons, put_add hB hv hc]
    exact put_all hB (kind_add hv (lk_facts hc).1) (fun d hd => h d (by simp [hd]))
/-- Syllables of which no neighbours are of one kind. -/
inductive Val : List Syl → Prop
  | nil : Val []
  | snoc {B : List Syl} {v : Syl} (k : Bool) : Val B → notK k B → KindS k v → v.isNil = false → Val (B ++ [v])
theorem add_val {B : List Syl} {v : Syl} {k : Bool} (h : Val B) (hB : notK k B) (hv : KindS k v) : Val (addS B v) := by
  unfold addS
  split
  · exact h
  · exact .snoc k h hB hv (by simp_all)
theorem val_kind {S : List Syl} (h : Val S) (k : Bool) : ∃ B v, S = addS B v ∧ Val B ∧ notK k B ∧ KindS k v := by
  cases h with
  | nil => exact ⟨[], s0, by simp [addS, s0, Syl.isNil], .nil, fun s hs => (by simp at hs), kind_zero k⟩
  | @snoc B v k' hB hn hk hv =>
    by_cases e : k' = k
    · subst e
      exact ⟨B, v, by simp [addS, hv], hB, hn, hk⟩
    · refine ⟨B ++ [v], s0, by simp [addS, s0, Syl.isNil], .snoc k' hB hn hk hv, fun s hs => ?_, kind_zero k⟩
      have : s = v := by simpa using hs.symm
      rw [this, kind_cr hk hv]
      exact e
theorem put_val {S : List Syl} {c : UInt8} (h : Val S) (hc : ∃ k, Lk k c = true) : Val (putS S c) := by
  obtain ⟨k, hc⟩ := hc
  obtain ⟨B, v, rfl, hb, hn, hk⟩ := val_kind h k
  rw [put_add hn hk hc]
  exact add_val hb hn (kind_add hk (lk_facts hc).1)
theorem fold_val {S : List Syl} (h : Val S) : ∀ {L : List UInt8}, (∀ c ∈ L, ∃ k, Lk k c = true) → Val (L.foldl putS S) := by
  intro L
  induction L generalizing S with
  | nil => exact fun _ => h
  | cons c L ih => exact fun hl => ih (put_val h (hl c (by simp))) (fun d hd => hl d (by simp [hd]))
theorem tot_comm (v : Syl) (L : List UInt8) : tot v L = v.add (tot s0 L) := by
  induction L generalizing v with
  | nil => cases v; simp [tot, Syl.add, s0]
  | cons c L ih =>
    show tot (v.add (sylOf c)) L = v.add (tot (s0.add (sylOf c)) L)
    rw [ih (v.add (sylOf c)), ih (s0.add (sylOf c)), add_zero_l]
    simp [Syl.add, Int.add_assoc]
theorem same_tot {S : List Syl} (h : Val S) {k : Bool} {L M : List UInt8} (hl : ∀ c ∈ L, Lk k c = true) (hm : ∀ c ∈ M, Lk k c = true) (e : tot s0 L = tot s0 M) : L.foldl putS S = M.foldl putS S := by
  obtain ⟨B, v, rfl, hb, hn, hk⟩ := val_kind h k
  rw [(put_all hn hk hl).1, (put_all hn hk hm).1, tot_comm v L, tot_comm v M, e]
/-- What is read of a word, cut at its pins. -/
def walk : List Syl → List UInt8 → List (List Syl)
  | S, [] => [S]
  | S, c :: l => if c = 80 then S :: walk [] l else walk (putS S c) l
theorem walk_split : ∀ (l : List UInt8) (S : List Syl), walk S l = ((splitL 80 l).headD []).foldl putS S :: ((splitL 80 l).tail).map readS
  | [], S => rfl
  | c :: l, S => by
    unfold walk splitL
    by_cases h : c = 80
    · rw [if_pos h, if_pos h, walk_split l []]
      rw [splitL_ne 80 l]
      rfl
    · rw [if_neg h, if_neg h, walk_split l]
      rfl
theorem walk_parts (l : List UInt8) : walk [] l = (splitL 80 l).map readS := by
  rw [walk_split]
  conv => rhs; rw [splitL_ne 80 l]
  rfl
theorem walk_front (S : List Syl) (D : List UInt8) : ∀ (L : List UInt8), (∀ c ∈ L, c ≠ 80) → walk S (L ++ D) = walk (L.foldl putS S) D := by
  intro L
  induction L generalizing S with
  | nil => exact fun _ => rfl
  | cons c L ih =>
    intro h
    show (if c = 80 then _ else _) = _
    rw [if_neg (h c (by simp))]
    exact ih _ (fun d hd => h d (by simp [hd]))
theorem walk_same {L M : List UInt8} {k : Bool} (hl : ∀ c ∈ L, Lk k c = true) (hm : ∀ c ∈ M, Lk k c = true) (e : tot s0 L = tot s0 M) (D : List UInt8) :
    ∀ (A : List UInt8) (S : List Syl), Val S → A.all isLt = true → walk S (A ++ (L ++ D)) = walk S (A ++ (M ++ D)) := by
  intro A
  induction A with
  | nil =>
    intro S hS _
    show walk S (L ++ D) = walk S (M ++ D)
    rw [walk_front S D L (fun c hc => (lk_facts (hl c hc)).2.2.2), walk_front S D M (fun c hc => (lk_facts (hm c hc)).2.2.2), same_tot hS hl hm e]
  | cons c A ih =>
    intro S hS hA
    rw [List.all_cons, Bool.and_eq_true] at hA
    show (if c = 80 then _ else _) = (if c = 80 then _ else _)
    by_cases h : c = 80
    · rw [if_pos h, if_pos h]
      exact congrArg _ (ih [] .nil hA.2)
    · rw [if_neg h, if_neg h]
      exact ih _ (put_val hS (lk_of hA.1 h)) hA.2
/-- Letters that are not both twists of one letter: those of a word that was made long. -/
def shL (c : UInt8) : Bool := [67, 76, 82, 80, 99, 108, 114].contains c
theorem sh_lt {c : UInt8} (h : shL c = true) : isLt c = true := by
  have key := byte_all (p := fun c => !(shL c) || isLt c) (by decide +kernel) c
  simpa [h] using key
/-- A word without one pair of letters that undo each other. -/
def Cut (s r : List UInt8) : Prop := ∃ A x M y D, s = A ++ x :: (M ++ y :: D) ∧ r = A ++ (M ++ D) ∧ x ≠ 80 ∧ y = uns x ∧ ∀ m ∈ M, apartB m x = true
theorem apart_facts {m x : UInt8} (h : apartB m x = true) : Lk false m = true ∧ Lk false x = true ∧ m ≠ 80 ∧ isLt m = true := by
  simp only [apartB, Bool.or_eq_true, Bool.and_eq_true, beq_iff_eq] at h
  rcases h with ⟨h | h, g | g⟩ | ⟨h | h, g | g⟩ <;> subst h <;> subst g <;> decide
theorem uns_facts {k : Bool} {x : UInt8} (h : Lk k x = true) : Lk k (uns x) = true ∧ (sylOf x).add (sylOf (uns x)) = s0 := by
  have key := byte_all (p := fun x => !(Lk k x) || (Lk k (uns x) && ((sylOf x).add (sylOf (uns x))).isNil)) (by cases k <;> decide +kernel) x
  simp only [h, Bool.not_true, Bool.false_or, Bool.and_eq_true] at key
  exact ⟨key.1, syl_nil key.2⟩
theorem cut_walk {s r : List UInt8} (h : Cut s r) (hs : s.all isLt = true) : walk [] s = walk [] r := by
  obtain ⟨A, x, M, y, D, rfl, rfl, hx, rfl, hM⟩ := h
  rw [List.all_append, Bool.and_eq_true, List.all_cons, Bool.and_eq_true] at hs
  obtain ⟨k, hk⟩ := lk_of hs.2.1 hx
  have hMk : ∀ m ∈ M, Lk k m = true := fun m hm => by
    have h2 := apart_facts (hM m hm)
    have : k = false := by
      have h3 := (lk_facts hk).2.2.1
      have h4 := (lk_facts h2.2.1).2.2.1
      rw [← h3, ← h4]
    rw [this]; exact h2.1
  have hu := uns_facts hk
  have e : x :: (M ++ uns x :: D) = (x :: M ++ [uns x]) ++ D := by simp
  rw [e]
  refine walk_same (k := k) (fun c hc => ?_) hMk ?_ D A [] .nil hs.1
  · simp only [List.cons_append, List.mem_cons, List.mem_append, List.not_mem_nil, or_false] at hc
    rcases hc with rfl | hc | rfl
    · exact hk
    · exact hMk c hc
    · exact hu.1
  · rw [List.cons_append]
    show tot (s0.add (sylOf x)) (M ++ [uns x]) = _
    rw [tot_app, add_zero_l, tot_comm (sylOf x) M]
    show ((sylOf x).add (tot s0 M)).add (sylOf (uns x)) = _
    have h1 := hu.2
    generalize tot s0 M = q
    generalize sylOf x = p at *
    generalize sylOf (uns x) = o at *
    cases p; cases o; cases q
    simp only [Syl.add, s0, Syl.mk.injEq] at *
    omega
theorem cut_len {s r : List UInt8} (h : Cut s r) : r.length + 2 = s.length := by
  obtain ⟨A, x, M, y, D, rfl, rfl, _⟩ := h
  simp; omega
theorem cut_all {p : UInt8 → Bool} {s r : List UInt8} (h : Cut s r) (hs : s.all p = true) : r.all p = true := by
  obtain ⟨A, x, M, y, D, rfl, rfl, _⟩ := h
  simp only [List.all_append, List.all_cons, Bool.and_eq_true] at hs ⊢
  exact ⟨hs.1, hs.2.2.1, hs.2.2.2.2⟩
theorem walk_lng : ∀ (l : List UInt8) (S : List Syl), Val S → l.all isLt = true → walk S (l.flatMap lng) = walk S l
  | [], S, _, _ => rfl
  | c :: l, S, hS, h => by
    rw [List.all_cons, Bool.and_eq_true] at h
    rw [List.flatMap_cons]
    by_cases h8 : c = 80
    · subst h8
      show (if _ then _ else _) = (if _ then _ else _)
      rw [if_pos rfl, if_pos rfl]
      exact congrArg _ (walk_lng l [] .nil h.2)
    · have hv := put_val hS (lk_of h.1 h8)
      have e : (lng c).foldl putS S = [c].foldl putS S ∧ ∀ d ∈ lng c, d ≠ 80 := by
        unfold lng
        split
        · rename_i e
          subst e
          exact ⟨same_tot hS (k := false) (by decide) (by decide) rfl, by decide⟩
        · split
          · rename_i e
            subst e
            exact ⟨same_tot hS (k := false) (by decide) (by decide) rfl, by decide⟩
          · exact ⟨rfl, fun d hd => by rw [List.mem_singleton.1 hd]; exact h8⟩
      rw [walk_front S _ (lng c) e.2, e.1]
      show _ = (if c = 80 then _ else _)
      rw [if_neg h8]
      exact walk_lng l _ hv h.2
theorem lng_sh {l : List UInt8} (h : l.all isLt = true) : (l.flatMap lng).all shL = true := by
  rw [List.all_eq_true] at h ⊢
  intro c hc
  obtain ⟨d, hd, hcd⟩ := List.mem_flatMap.1 hc
  have key := byte_all (p := fun d => !(isLt d) || (lng d).all shL) (by decide +kernel) d
  simp only [h d hd, Bool.not_true, Bool.false_or] at key
  exact List.all_eq_true.1 key c hcd
/-- No pair of letters that undo each other can be taken out. -/
def Stk (s : List UInt8) : Prop := ∀ r, ¬ Cut s r
theorem ns_right {a s : List UInt8} (h : Stk (a ++ s)) : Stk s := fun r hr => by
  obtain ⟨A, x, M, y, D, rfl, rfl, h1, h2, h3⟩ := hr
  exact h (a ++ (A ++ (M ++ D))) ⟨a ++ A, x, M, y, D, by simp, by simp, h1, h2, h3⟩
theorem ns_left {a s : List UInt8} (h : Stk (a ++ s)) : Stk a := fun r hr => by
  obtain ⟨A, x, M, y, D, rfl, rfl, h1, h2, h3⟩ := hr
  exact h (A ++ (M ++ (D ++ s))) ⟨A, x, M, y, D ++ s, by simp, by simp, h1, h2, h3⟩
theorem last_occ {a : UInt8} : ∀ {l : List UInt8}, a ∈ l → ∃ A M, l = A ++ a :: M ∧ a ∉ M := by
  intro l h
  obtain ⟨P, Q, hq, hn⟩ := List.eq_append_cons_of_mem (List.mem_reverse.2 h)
  refine ⟨Q.reverse, P.reverse, ?_, by simpa using hn⟩
  have := congrArg List.reverse hq
  simpa using this
/-- Twists of one pair. -/
def twO (c : UInt8) : Bool := c == 76 || c == 82 || c == 108 || c == 114
theorem two_cases {c : UInt8} (h : twO c = true) : c = 76 ∨ c = 82 ∨ c = 108 ∨ c = 114 := by
  simp only [twO, Bool.or_eq_true, beq_iff_eq] at h
  rcases h with ((h | h) | h) | h <;> simp [h]
theorem ns_no {st : List UInt8} {a : UInt8} (ht : ∀ c ∈ st, twO c = true) (ha : twO a = true) (hn : uns a ∉ st) (h : Stk (st ++ [uns a])) : a ∉ st := fun hm => by
  obtain ⟨A, M, rfl, hM⟩ := last_occ hm
  refine h (A ++ (M ++ [])) ⟨A, a, M, uns a, [], by simp, rfl, ?_, rfl, fun m hm2 => ?_⟩
  · rintro rfl; exact absurd ha (by decide)
  · have h1 := two_cases (ht m (by simp [hm2]))
    have h2 := two_cases ha
    have h3 : m ≠ a := fun e => hM (e ▸ hm2)
    have h4 : m ≠ uns a := fun e => hn (by rw [← e]; simp [hm2])
    rcases h1 with rfl | rfl | rfl | rfl <;> rcases h2 with rfl | rfl | rfl | rfl <;> first | rfl | exact absurd rfl h3 | exact absurd (by decide) h4
def Clean (st : List UInt8) : Prop := (st.count 76 = 0 ∨ st.count 108 = 0) ∧ (st.count 82 = 0 ∨ st.count 114 = 0)
theorem clean_of {st : List UInt8} (ht : ∀ c ∈ st, twO c = true) (h : Stk st) : Clean st := by
  have key : ∀ n st, st.length = n → (∀ c ∈ st, twO c = true) → Stk st → Clean st := by
    intro n
    induction n with
    | zero =>
      intro st hl _ _
      have : st = [] := List.eq_nil_of_length_eq_zero hl
      subst this
      exact ⟨Or.inl rfl, Or.inl rfl⟩
    | succ n ih =>
      intro st hl ht h
      rcases List.eq_nil_or_concat st with rfl | ⟨t, c, rfl⟩
      · simp at hl
      · rw [List.concat_eq_append] at *
        have ht' : ∀ c ∈ t, twO c = true := fun d hd => ht d (by simp [hd])
        have hc := ht c (by simp)
        have h0 := ih t (by simpa using hl) ht' (ns_left h)
        unfold Clean at h0 ⊢
        have no : ∀ a, twO a = true → uns a = c → t.count (uns a) = 0 → t.count a = 0 := fun a ha e hcn => by
          rw [List.count_eq_zero] at hcn ⊢
          exact ns_no ht' ha hcn (by rw [e]; exact h)
        have n1 := no 76 rfl
        have n2 := no 82 rfl
        have n3 := no 108 rfl
        have n4 := no 114 rfl
        rw [show uns 76 = 108 from rfl] at n1
        rw [show uns 82 = 114 from rfl] at n2
        rw [show uns 108 = 76 from rfl] at n3
        rw [show uns 114 = 82 from rfl] at n4
        simp only [List.count_append, List.count_singleton]
        rcases two_cases hc with rfl | rfl | rfl | rfl
        · have := n3 rfl
          simp
          omega
        · have := n4 rfl
          simp
          omega
        · have := n1 rfl
          simp
          omega
        · have := n2 rfl
          simp
          omega
  exact key _ st rfl ht h
theorem tot_count {st : List UInt8} (ht : ∀ c ∈ st, twO c = true) : tot s0 st = ⟨0, (st.count 76 : Int) - st.count 108, (st.count 82 : Int) - st.count 114⟩ := by
  induction st with
  | nil => rfl
  | cons c st ih =>
    show tot (s0.add (sylOf c)) st = _
    rw [tot_comm, add_zero_l, ih (fun d hd => ht d (by simp [hd]))]
    simp only [List.count_cons]
    rcases two_cases (ht c (by simp)) with rfl | rfl | rfl | rfl <;> simp [Syl.add, sylOf, crX, twL, twR] <;> omega
theorem word_ord {st : List UInt8} (ht : ∀ c ∈ st, twO c = true) (h : Clean st) : wordL (tot s0 st) = ordL st := by
  rw [tot_count ht]
  unfold Clean at h
  unfold wordL ordL Syl.both
  dsimp only
  generalize st.count 76 = a at *
  generalize st.count 82 = b at *
  generalize st.count 108 = c at *
  generalize st.count 114 = d at *
  have e1 : ((a : Int) - c - (max 0 (min ((a : Int) - c) (b - d)) + min 0 (max ((a : Int) - c) (b - d)))).toNat = a - min a b := by omega
  have e2 : ((b : Int) - d - (max 0 (min ((a : Int) - c) (b - d)) + min 0 (max ((a : Int) - c) (b - d)))).toNat = b - min a b := by omega
  have e3 : (max 0 (min ((a : Int) - c) (b - d)) + min 0 (max ((a : Int) - c) (b - d))).toNat = min a b := by omega
  have e4 : (-((a : Int) - c - (max 0 (min ((a : Int) - c) (b - d)) + min 0 (max ((a : Int) - c) (b - d))))).toNat = c - min c d := by omega
  have e5 : (-((b : Int) - d - (max 0 (min ((a : Int) - c) (b - d)) + min 0 (max ((a : Int) - c) (b - d))))).toNat = d - min c d := by omega
  have e6 : (-(max 0 (min ((a : Int) - c) (b - d)) + min 0 (max ((a : Int) - c) (b - d)))).toNat = min c d := by omega
  rw [e1, e2, e3, e4, e5, e6]
  simp
/-- What the reference writes: stretches of twists, in their least form, between the other letters. -/
def rout : List UInt8 → List UInt8 → List UInt8
  | st, [] => ordL st
  | st, c :: l => if c == 67 || c == 99 || c == 80 then ordL st ++ c :: rout [] l else rout (st ++ [c]) l
/-- Parts, with a pin between each two. -/
def jn : List (List UInt8) → List UInt8
  | [] => []
  | [p] => p
  | p :: q :: r => p ++ 80 :: jn (q :: r)
theorem jn_cons (p : List UInt8) {r : List (List UInt8)} (h : r ≠ []) : jn (p :: r) = p ++ 80 :: jn r := by
  cases r with
  | nil => exact absurd rfl h
  | cons q r => rfl
theorem jn_app (a p : List UInt8) (r : List (List UInt8)) : a ++ jn (p :: r) = jn ((a ++ p) :: r) := by
  cases r <;> simp [jn]
theorem walk_ne (S : List Syl) (l : List UInt8) : walk S l ≠ [] := by rw [walk_split]; simp
def rend (l : List (List Syl)) : List UInt8 := jn (l.map fun S => S.flatMap wordL)
theorem flat_add (B : List Syl) (v : Syl) : (addS B v).flatMap wordL = B.flatMap wordL ++ wordL v := by
  unfold addS
  split
  · rename_i h
    rw [syl_nil h]
    simp [wordL, s0, Syl.both]
  · simp
theorem word_cross (z : Int) : wordL ⟨z, 0, 0⟩ = List.replicate z.toNat 67 ++ List.replicate (-z).toNat 99 := by
  simp [wordL, Syl.both]
theorem rout_walk : ∀ (s st : List UInt8) (B : List Syl), s.all shL = true → (∀ c ∈ st, twO c = true) → notK false B → Stk (st ++ s) →
    (st = [] → ∀ t, B.getLast? = some t → t.l = 0 ∧ t.r = 0 ∧ ∃ q : UInt8, (q = 67 ∧ 0 < t.x ∨ q = 99 ∧ t.x < 0) ∧ Stk (q :: s)) →
    B.flatMap wordL ++ rout st s = rend (walk (addS B (tot s0 st)) s) := by
  intro s
  induction s with
  | nil =>
    intro st B _ ht hB hN _
    show _ ++ ordL st = rend [addS B (tot s0 st)]
    rw [List.append_nil] at hN
    rw [← word_ord ht (clean_of ht hN)]
    show _ = (addS B (tot s0 st)).flatMap wordL
    rw [flat_add]
  | cons c l ih =>
    intro st B hs ht hB hN hctx
    rw [List.all_cons, Bool.and_eq_true] at hs
    have hcl := clean_of ht (ns_left hN)
    have hNl : Stk l := ns_right (a := st ++ [c]) (by simpa using hN)
    have hNc : Stk (c :: l) := ns_right hN
    have n0 : notK false [] := fun s hs => by simp at hs
    by_cases h8 : c = 80
    · subst h8
      show _ ++ (ordL st ++ 80 :: rout [] l) = rend (addS B (tot s0 st) :: walk [] l)
      have := ih [] [] hs.2 (fun _ h => by cases h) n0 (by simpa using hNl) (fun _ t h => by simp at h)
      rw [show addS [] (tot s0 []) = [] from rfl] at this
      unfold rend
      rw [List.map_cons, jn_cons _ (by simpa using walk_ne [] l)]
      show _ = _ ++ 80 :: rend (walk [] l)
      rw [← this, flat_add, word_ord ht hcl]
      simp
    · have hw : walk (addS B (tot s0 st)) (c :: l) = walk (putS (addS B (tot s0 st)) c) l := by
        show (if c = 80 then _ else _) = _
        rw [if_neg h8]
      rw [hw]
      by_cases hx : Lk true c = true
      · have hr : rout st (c :: l) = ordL st ++ c :: rout [] l := by
          show (if (c == 67 || c == 99 || c == 80) = true then _ else _) = _
          have : (c == 67 || c == 99) = true := hx
          rw [this]; rfl
        rw [hr]
        have hcc : c = 67 ∨ c = 99 := by simpa [Lk] using hx
        have hsy : sylOf c = ⟨if c = 67 then 1 else -1, 0, 0⟩ := by rcases hcc with rfl | rfl <;> rfl
        have hone : wordL (sylOf c) = [c] := by rcases hcc with rfl | rfl <;> rfl
        have step : ∀ B', notK false B' → (∀ t, B'.getLast? = some t → t.l = 0 ∧ t.r = 0 ∧ (c = 67 ∧ 0 < t.x ∨ c = 99 ∧ t.x < 0)) → B'.flatMap wordL ++ rout [] l = rend (walk B' l) := fun B' h1 h2 => by
          have := ih [] B' hs.2 (fun _ h => by cases h) h1 (by simpa using hNl) (fun _ t h => ⟨(h2 t h).1, (h2 t h).2.1, c, (h2 t h).2.2, hNc⟩)
          rwa [show addS B' (tot s0 []) = B' by simp [tot, addS, s0, Syl.isNil]] at this
        have one : notK false [sylOf c] ∧ ∀ t, [sylOf c].getLast? = some t → t.l = 0 ∧ t.r = 0 ∧ (c = 67 ∧ 0 < t.x ∨ c = 99 ∧ t.x < 0) := by
          refine ⟨fun t h => ?_, fun t h => ?_⟩
          · have : t = sylOf c := by simpa using h.symm
            rw [this, (lk_facts hx).2.2.1]; decide
          · have : t = sylOf c := by simpa using h.symm
            rw [this, hsy]
            rcases hcc with rfl | rfl <;> simp
        by_cases hst : st = []
        · subst hst
          rw [show addS B (tot s0 []) = B by simp [tot, addS, s0, Syl.isNil]]
          show _ ++ ([] ++ c :: rout [] l) = _
          rw [List.nil_append]
          rcases List.eq_nil_or_concat B with rfl | ⟨B0, t, rfl⟩
          · have e : putS [] c = [sylOf c] := by rw [putS_nil]; simp [addS, (lk_facts hx).2.1]
            rw [e, ← step [sylOf c] one.1 one.2]
            simp [hone]
          · rw [List.concat_eq_append] at *
            obtain ⟨tl, tr, q, hq, hNq⟩ := hctx rfl t (by simp)
            have hqc : q ≠ uns c := fun e => by
              refine hNq ([] ++ ([] ++ l)) ⟨[], q, [], c, l, rfl, rfl, ?_, ?_, fun m hm => by cases hm⟩
              · rcases hq with ⟨rfl, _⟩ | ⟨rfl, _⟩ <;> decide
              · rw [e]; rcases hcc with rfl | rfl <;> rfl
            have hsg : c = 67 ∧ 0 < t.x ∨ c = 99 ∧ t.x < 0 := by
              rcases hq with ⟨rfl, h⟩ | ⟨rfl, h⟩ <;> rcases hcc with rfl | rfl
              · exact Or.inl ⟨rfl, h⟩
              · exact absurd rfl hqc
              · exact absurd rfl hqc
              · exact Or.inr ⟨rfl, h⟩
            obtain ⟨z, hz⟩ : ∃ z, t.add (sylOf c) = ⟨z, 0, 0⟩ ∧ (c = 67 ∧ z = t.x + 1 ∨ c = 99 ∧ z = t.x - 1) := by
              refine ⟨(t.add (sylOf c)).x, ?_, ?_⟩
              · rw [hsy]; simp [Syl.add, tl, tr]
              · rw [hsy]; rcases hcc with rfl | rfl <;> simp [Syl.add] <;> omega
            have hz2 := hz.2
            have hz0 : z ≠ 0 := by rcases hsg with ⟨rfl, h⟩ | ⟨rfl, h⟩ <;> simp at hz2 <;> omega
            have hzs : c = 67 ∧ 0 < z ∨ c = 99 ∧ z < 0 := by rcases hsg with ⟨rfl, h⟩ | ⟨rfl, h⟩ <;> simp at hz2 ⊢ <;> omega
            have hzn : (⟨z, 0, 0⟩ : Syl).isNil = false := by
              simp [Syl.isNil, hz0]
            have hcr : t.cr = (sylOf c).cr := by
              rw [(lk_facts hx).2.2.1]
              have := hB t (by simp)
              simpa using this
            have e : putS (B0 ++ [t]) c = B0 ++ [⟨z, 0, 0⟩] := by
              rw [putS_same hcr, hz.1]
              simp only [addS, hzn]
              rfl
            rw [e, ← step (B0 ++ [(⟨z, 0, 0⟩ : Syl)]) (fun s h => by
              have : s = ⟨z, 0, 0⟩ := by simpa using h.symm
              rw [this]
              simp [Syl.cr, hz0]) (fun s h => by
              have : s = ⟨z, 0, 0⟩ := by simpa using h.symm
              subst this
              exact ⟨rfl, rfl, hzs⟩)]
            have ht2 : t = ⟨t.x, 0, 0⟩ := by cases t; simp at tl tr; simp [tl, tr]
            have hwz : wordL ⟨z, 0, 0⟩ = wordL t ++ [c] := by
              rw [ht2, word_cross, word_cross]
              rcases hsg with ⟨rfl, h⟩ | ⟨rfl, h⟩
              · have : z = t.x + 1 := by rcases hz.2 with ⟨_, h⟩ | ⟨h, _⟩; exact h; exact absurd h (by decide)
                rw [this, show (-(t.x + 1)).toNat = 0 by omega, show (-t.x).toNat = 0 by omega, show (t.x + 1).toNat = t.x.toNat + 1 by omega, List.replicate_succ']
                simp
              · have : z = t.x - 1 := by rcases hz.2 with ⟨h, _⟩ | ⟨_, h⟩; exact absurd h (by decide); exact h
                rw [this, show (t.x - 1).toNat = 0 by omega, show t.x.toNat = 0 by omega, show (-(t.x - 1)).toNat = (-t.x).toNat + 1 by omega, List.replicate_succ']
                simp
            simp [hwz]
        · have hvn : (tot s0 st).isNil = false := by
            rw [tot_count ht]
            obtain ⟨d, hd⟩ := List.exists_mem_of_ne_nil st hst
            have hp := List.count_pos_iff.2 hd
            unfold Clean at hcl
            simp only [Syl.isNil, Bool.and_eq_false_iff, beq_eq_false_iff_ne, ne_eq]
            rcases two_cases (ht d hd) with rfl | rfl | rfl | rfl <;> omega
          have hvx : (tot s0 st).cr = false := by rw [tot_count ht]; rfl
          have e : putS (addS B (tot s0 st)) c = B ++ [tot s0 st] ++ [sylOf c] := by
            have e1 : addS B (tot s0 st) = B ++ [tot s0 st] := by simp [addS, hvn]
            rw [e1, putS_other (by rw [hvx, (lk_facts hx).2.2.1]; decide)]
            simp only [addS, (lk_facts hx).2.1]
            rfl
          rw [e, ← step _ (fun s h => one.1 s (by simpa using h)) (fun s h => one.2 s (by simpa using h)), ← word_ord ht hcl]
          simp [hone]
      · have htw : twO c = true := by
          have key := byte_all (p := fun c => !(shL c) || c == 80 || Lk true c || twO c) (by decide +kernel) c
          simpa [hs.1, h8, hx] using key
        have hk : Lk false c = true := by
          have key := byte_all (p := fun c => !(twO c) || Lk false c) (by decide +kernel) c
          simpa [htw] using key
        have hkt : KindS false (tot s0 st) := by rw [tot_count ht]; rfl
        have hr : rout st (c :: l) = rout (st ++ [c]) l := by
          show (if (c == 67 || c == 99 || c == 80) = true then _ else _) = _
          rw [if_neg]
          intro e
          simp only [Bool.or_eq_true, beq_iff_eq] at e
          rcases e with (rfl | rfl) | rfl
          · exact hx rfl
          · exact hx rfl
          · exact h8 rfl
        rw [hr, put_add hB hkt hk]
        have e : (tot s0 st).add (sylOf c) = tot s0 (st ++ [c]) := by rw [tot_app]; rfl
        rw [e]
        refine ih (st ++ [c]) B hs.2 (fun d hd => ?_) hB (by simpa using hN) (fun h => by simp at h)
        rcases List.mem_append.1 hd with hd | hd
        · exact ht d hd
        · rw [List.mem_singleton.1 hd]; exact htw
/-- What the reference writes of a word without such pairs is what is read of it. -/
theorem rout_all {s : List UInt8} (hs : s.all shL = true) (hN : Stk s) : rout [] s = rend (walk [] s) := by
  have := rout_walk s [] [] hs (fun _ h => by cases h) (fun s hs => by simp at hs) (by simpa using hN) (fun _ t h => by simp at h)
  simpa [addS, tot, s0, Syl.isNil] using this
theorem jn_join (xs : List (List UInt8)) : [80].intercalate xs = jn xs := by
  induction xs with
  | nil => rfl
  | cons p xs ih =>
    cases xs with
    | nil => simp [List.intercalate, jn]
    | cons q r =>
      simp only [List.intercalate, List.intersperse_cons_cons, List.flatten_cons] at ih ⊢
      simp only [jn]
      rw [ih]
      rfl
theorem red_join (l : List UInt8) : [80].intercalate ((splitL 80 l).map redL) = rend (walk [] l) := by
  rw [jn_join, walk_parts]
  unfold rend
  rw [List.map_map]
  rfl
theorem jn_split (l : List UInt8) : jn (splitL 80 l) = l := by
  induction l with
  | nil => rfl
  | cons c l ih =>
    unfold splitL
    split
    · rename_i h
      rw [jn_cons _ (by rw [splitL_ne]; simp), ih, h]; rfl
    · rw [splitL_ne 80 l] at ih
      have := jn_app [c] ((splitL 80 l).headD []) (splitL 80 l).tail
      rw [ih] at this
      exact this.symm
theorem split_no : ∀ {l : List UInt8}, (∀ c ∈ l, c ≠ 80) → splitL 80 l = [l]
  | [], _ => rfl
  | c :: l, h => by
    unfold splitL
    rw [if_neg (h c (by simp)), split_no (fun d hd => h d (by simp [hd]))]
    rfl
theorem split_app : ∀ (p l : List UInt8), (∀ c ∈ p, c ≠ 80) → splitL 80 (p ++ 80 :: l) = p :: splitL 80 l
  | [], l, _ => by
    show splitL 80 (80 :: l) = _
    rw [splitL, if_pos rfl]
  | c :: p, l, h => by
    show splitL 80 (c :: (p ++ 80 :: l)) = _
    rw [splitL, if_neg (h c (by simp)), split_app p l (fun d hd => h d (by simp [hd]))]
    rfl
theorem split_jn : ∀ {ps : List (List UInt8)}, ps ≠ [] → (∀ p ∈ ps, ∀ c ∈ p, c ≠ 80) → splitL 80 (jn ps) = ps
  | [], h, _ => absurd rfl h
  | [p], _, h => split_no (h p (by simp))
  | p :: q :: r, _, h => by
    show splitL 80 (p ++ 80 :: jn (q :: r)) = _
    rw [split_app p _ (h p (by simp)), split_jn (by simp) (fun x hx => h x (by simp only [List.mem_cons] at hx ⊢; exact Or.inr hx))]
theorem split_no80 (l : List UInt8) : ∀ p ∈ splitL 80 l, ∀ c ∈ p, c ≠ 80 := by
  induction l with
  | nil => intro p hp c hc; simp [splitL] at hp; simp [hp] at hc
  | cons d l ih =>
    intro p hp c hc
    unfold splitL at hp
    split at hp
    · rcases List.mem_cons.1 hp with rfl | hp
      · cases hc
      · exact ih p hp c hc
    · rename_i hd
      rw [splitL_ne 80 l] at ih
      rcases List.mem_cons.1 hp with rfl | hp
      · rcases List.mem_cons.1 hc with rfl | hc
        · exact hd
        · exact ih _ (by simp) c hc
      · exact ih p (by simp [hp]) c hc
theorem split_mem (l : List UInt8) : ∀ p ∈ splitL 80 l, ∀ c ∈ p, c ∈ l := by
  induction l with
  | nil => intro p hp c hc; simp [splitL] at hp; simp [hp] at hc
  | cons d l ih =>
    intro p hp c hc
    unfold splitL at hp
    split at hp
    · rcases List.mem_cons.1 hp with rfl | hp
      · cases hc
      · exact List.mem_cons_of_mem _ (ih p hp c hc)
    · rw [splitL_ne 80 l] at ih
      rcases List.mem_cons.1 hp with rfl | hp
      · rcases List.mem_cons.1 hc with rfl | hc
        · simp
        · exact List.mem_cons_of_mem _ (ih _ (by simp) c hc)
      · exact List.mem_cons_of_mem _ (ih p (by simp [hp]) c hc)
theorem jn_map (f : UInt8 → UInt8) (h8 : f 80 = 80) : ∀ ps : List (List UInt8), (jn ps).map f = jn (ps.map (List.map f))
  | [] => rfl
  | [p] => rfl
  | p :: q :: r => by
    show (p ++ 80 :: jn (q :: r)).map f = _
    rw [List.map_append, List.map_cons, h8, jn_map f h8 (q :: r)]; rfl
theorem jn_two : ∀ {xs ys : List (List UInt8)}, xs ≠ [] → ys ≠ [] → jn (xs ++ ys) = jn xs ++ 80 :: jn ys
  | [], _, h, _ => absurd rfl h
  | [p], ys, _, h => jn_cons p h
  | p :: q :: r, ys, _, h => by
    show p ++ 80 :: jn (q :: r ++ ys) = (p ++ 80 :: jn (q :: r)) ++ _
    rw [jn_two (by simp) h, List.append_assoc]; rfl
theorem jn_rev : ∀ ps : List (List UInt8), (jn ps).reverse = jn ((ps.map List.reverse).reverse)
  | [] => rfl
  | [p] => rfl
  | p :: q :: r => by
    show (p ++ 80 :: jn (q :: r)).reverse = _
    rw [List.reverse_append, List.reverse_cons, jn_rev (q :: r), show (p :: q :: r).map List.reverse = p.reverse :: (q :: r).map List.reverse from rfl, List.reverse_cons, jn_two (by simp) (by simp)]
    simp [jn]
theorem split_map {f : UInt8 → UInt8} (h8 : f 80 = 80) {l : List UInt8} (h : ∀ c ∈ l, f c = 80 → c = 80) : splitL 80 (l.map f) = (splitL 80 l).map (List.map f) := by
  have e : l.map f = jn ((splitL 80 l).map (List.map f)) := by rw [← jn_map f h8, jn_split]
  rw [e, split_jn (by rw [splitL_ne]; simp)]
  intro p hp c hc e2
  obtain ⟨q, hq, rfl⟩ := List.mem_map.1 hp
  obtain ⟨d, hd, rfl⟩ := List.mem_map.1 hc
  exact split_no80 l q hq d hd (h d (split_mem l q hq d hd) e2)
theorem split_rev (l : List UInt8) : splitL 80 l.reverse = ((splitL 80 l).map List.reverse).reverse := by
  have e : l.reverse = jn ((splitL 80 l).map List.reverse).reverse := by rw [← jn_rev, jn_split]
  rw [e, split_jn (by rw [splitL_ne]; simp)]
  intro p hp c hc
  rw [List.mem_reverse] at hp
  obtain ⟨q, hq, rfl⟩ := List.mem_map.1 hp
  exact split_no80 l q hq c (List.mem_reverse.1 hc)
theorem jn_len_le {f : List UInt8 → List UInt8} : ∀ {ps : List (List UInt8)}, (∀ p ∈ ps, (f p).length ≤ p.length) → (jn (ps.map f)).length ≤ (jn ps).length
  | [], _ => Nat.le_refl _
  | [p], h => h p (by simp)
  | p :: q :: r, h => by
    have h1 := h p (by simp)
    have h2 := jn_len_le (ps := q :: r) (fun x hx => h x (by simp only [List.mem_cons] at hx ⊢; exact Or.inr hx))
    show (f p ++ 80 :: jn ((q :: r).map f)).length ≤ (p ++ 80 :: jn (q :: r)).length
    simp only [List.length_append, List.length_cons]
    omega
theorem split_nonil (l : List UInt8) : splitL 80 l ≠ [] := by rw [splitL_ne]; simp
theorem split_snoc80 (l : List UInt8) : splitL 80 (l ++ [80]) = splitL 80 l ++ [[]] := by
  have e : l ++ [80] = jn (splitL 80 l ++ [[]]) := by rw [jn_two (split_nonil l) (by simp), jn_split]; rfl
  rw [e, split_jn (by simp)]
  intro p hp c hc
  rcases List.mem_append.1 hp with hp | hp
  · exact split_no80 l p hp c hc
  · rw [List.mem_singleton.1 hp] at hc; cases hc
theorem split_snoc {l cur : List UInt8} {D : List (List UInt8)} {c : UInt8} (hc : c ≠ 80) (h : splitL 80 l = D ++ [cur]) : splitL 80 (l ++ [c]) = D ++ [cur ++ [c]] := by
  have e : l ++ [c] = jn (D ++ [cur ++ [c]]) := by
    have hl := jn_split l
    rw [h] at hl
    cases D with
    | nil => rw [← hl]; rfl
    | cons p D =>
      rw [jn_two (by simp) (by simp)] at hl ⊢
      rw [← hl, List.append_assoc]; rfl
  have no := split_no80 l
  rw [h] at no
  rw [e, split_jn (by simp)]
  intro p hp d hd
  rcases List.mem_append.1 hp with hp | hp
  · exact no p (by simp [hp]) d hd
  · rw [List.mem_singleton.1 hp] at hd
    rcases List.mem_append.1 hd with hd | hd
    · exact no cur (by simp) d hd
    · rw [List.mem_singleton.1 hd]; exact hc
end Go.Proofs.YtmefpaoakblndaaGreatDoor
namespace Go.Proofs.YtmefpaoakblndaaGreatDoor
/-- May the letters i and k of a list be taken out, as far as the letters before m tell? -/
def okM (l : List UInt8) (i m : Nat) : Bool := (List.range' (i + 1) (m - (i + 1))).all fun j => apartB (l.getD j 0) (l.getD i 0)
theorem okM_next {l : List UInt8} {i m : Nat} (h : i + 1 ≤ m) : okM l i (m + 1) = (okM l i m && apartB (l.getD m 0) (l.getD i 0)) := by
  unfold okM
  rw [show m + 1 - (i + 1) = (m - (i + 1)) + 1 by omega, List.range'_concat, List.all_append]
  simp only [List.all_cons, List.all_nil, Bool.and_true]
  rw [show i + 1 + 1 * (m - (i + 1)) = m by omega]
theorem okM_start (l : List UInt8) (i : Nat) : okM l i (i + 1) = true := by
  unfold okM
  rw [Nat.sub_self]; rfl
def frB (l : List UInt8) (i k m : Nat) : Bool := l.getD i 0 != 80 && l.getD k 0 == uns (l.getD i 0) && okM l i m
theorem getD_some {l : List UInt8} {k : Nat} {x : UInt8} (h : l[k]? = some x) : l.getD k 0 = x := by
  rw [List.getD_eq_getElem?_getD, h]; rfl
theorem fr_cut {l : List UInt8} {i k : Nat} (hik : i < k) (hk : k < l.length) (h : frB l i k k = true) : Cut l (l.take i ++ ((l.drop (i + 1)).take (k - (i + 1)) ++ l.drop (k + 1))) := by
  unfold frB at h
  rw [Bool.and_eq_true, Bool.and_eq_true, bne_iff_ne, beq_iff_eq] at h
  obtain ⟨⟨h1, h2⟩, h3⟩ := h
  have hi : i < l.length := by omega
  refine ⟨l.take i, l[i], (l.drop (i + 1)).take (k - (i + 1)), l[k], l.drop (k + 1), ?_, rfl, ?_, ?_, fun m hm => ?_⟩
  · have e1 : l.drop k = l[k] :: l.drop (k + 1) := List.drop_eq_getElem_cons hk
    have e2 : l.drop (i + 1) = (l.drop (i + 1)).take (k - (i + 1)) ++ l.drop k := by
      conv => lhs; rw [← List.take_append_drop (k - (i + 1)) (l.drop (i + 1))]
      rw [List.drop_drop, show i + 1 + (k - (i + 1)) = k by omega]
    rw [← e1, ← e2, ← List.drop_eq_getElem_cons hi, List.take_append_drop]
  · rwa [getD_some (List.getElem?_eq_getElem hi)] at h1
  · rwa [getD_some (List.getElem?_eq_getElem hi), getD_some (List.getElem?_eq_getElem hk)] at h2
  · obtain ⟨j, hj⟩ := List.getElem?_of_mem hm
    have hjl : j < k - (i + 1) := by
      have := (List.getElem?_eq_some_iff.1 hj).1
      rw [List.length_take] at this
      omega
    rw [List.getElem?_take_of_lt hjl, List.getElem?_drop] at hj
    unfold okM at h3
    have := List.all_eq_true.1 h3 (i + 1 + j) (by rw [List.mem_range'_1]; omega)
    rwa [getD_some hj, getD_some (List.getElem?_eq_getElem hi)] at this
theorem fr_stk {l : List UInt8} (h : ∀ i k, i < k → k < l.length → frB l i k k = false) : Stk l := fun r hr => by
  obtain ⟨A, x, M, y, D, rfl, rfl, h1, h2, h3⟩ := hr
  have := h A.length (A.length + 1 + M.length) (by omega) (by simp; omega)
  have e1 : (A ++ x :: (M ++ y :: D))[A.length]? = some x := by rw [List.getElem?_append_right (Nat.le_refl _), Nat.sub_self]; rfl
  have e2 : (A ++ x :: (M ++ y :: D))[A.length + 1 + M.length]? = some y := by
    rw [List.getElem?_append_right (by omega), show A.length + 1 + M.length - A.length = M.length + 1 by omega, List.getElem?_cons_succ, List.getElem?_append_right (Nat.le_refl _), Nat.sub_self]; rfl
  have : frB (A ++ x :: (M ++ y :: D)) A.length (A.length + 1 + M.length) (A.length + 1 + M.length) = true := by
    unfold frB
    rw [getD_some e1, getD_some e2, Bool.and_eq_true, Bool.and_eq_true, bne_iff_ne, beq_iff_eq]
    refine ⟨⟨h1, h2⟩, ?_⟩
    unfold okM
    rw [List.all_eq_true]
    intro j hj
    rw [List.mem_range'_1] at hj
    have hm : j - (A.length + 1) < M.length := by omega
    have e3 : (A ++ x :: (M ++ y :: D))[j]? = some M[j - (A.length + 1)] := by
      rw [List.getElem?_append_right (by omega), show j - A.length = (j - (A.length + 1)) + 1 by omega, List.getElem?_cons_succ, List.getElem?_append_left hm, List.getElem?_eq_getElem hm]
    rw [getD_some e3, getD_some e1]
    exact h3 _ (List.getElem_mem hm)
  simp_all
theorem sh_tab {c : UInt8} (h : shL c = true) : ∃ q : Nat, q < 9 ∧ idxL c lettersU 0 = (q : Int) ∧ tabU2.data.toList[q]? = some (uns c) := by
  obtain ⟨h1, h2, h3⟩ := isTabU2.2 c (sh_lt h)
  exact ⟨(idxL c lettersU 0).toNat, by omega, by omega, h3⟩
set_option maxRecDepth 100000 in
theorem tab_run {q : Nat} {x : UInt8} (h : tabU2.data.toList[q]? = some x) (W : World) : (Instr.index 9 (.string tabU2) (.int .i64 (q : Int))).run Tryz.prog W = .ok (.int .u8 (x.toNat : Int)) W := by
  have hq := (List.getElem?_eq_some_iff.1 h).1
  have hq9 : q < 9 := hq
  have key : ∀ k : Nat, k < 9 → ∀ W, (Instr.index 9 (.string tabU2) (.int .i64 (k : Int))).run Tryz.prog W = .ok (.int .u8 ((tabU2.data.toList.getD k 0).toNat : Int)) W := by
    intro k hk W
    have hc : k = 0 ∨ k = 1 ∨ k = 2 ∨ k = 3 ∨ k = 4 ∨ k = 5 ∨ k = 6 ∨ k = 7 ∨ k = 8 := by omega
    rcases hc with rfl | rfl | rfl | rfl | rfl | rfl | rfl | rfl | rfl <;> rfl
  rw [key q hq9 W, getD_some h]
theorem ext_list (s : ByteArray) (i j : Nat) : s.extract i j = ⟨((s.data.toList.drop i).take (j - i)).toArray⟩ := by
  apply ByteArray.ext
  rw [ByteArray.data_extract]
  apply Array.toList_inj.1
  rw [Array.toList_extract]
open Go.RowKit
set_option linter.unusedSimpArgs false
set_option maxHeartbeats 4000000 in
set_option maxRecDepth 100000 in
theorem shorter_any (s : ByteArray) (hs : s.size ≤ 100) (hl : s.data.toList.all shL = true) (w : World) : Calls Tryz.prog 52 #[.string s] w fun e w' =>
    ((∃ r : List UInt8, e = .returned (.tuple #[.string ⟨r.toArray⟩, .bool true]) ∧ Cut s.data.toList r) ∨ (e = .returned (.tuple #[.string s, .bool false]) ∧ Stk s.data.toList)) ∧ Below w.heap.size w w' := by
  have HL := Lib.hid hl
  have HSZ := Lib.hid (size_len s)
  clear hl
  obtain ⟨l, hll⟩ : ∃ l, l = s.data.toList := ⟨_, rfl⟩
  have HLL := Lib.hid hll
  rw [← hll]
  clear hll
  go_enter Tryz.func52, Tryz.ntmps52
  go_wp2_with fail
  go_loopw [4] (fun i wr => ∃ a : Nat, a ≤ s.size ∧ i = .int .i64 a ∧ (∀ i k, i < a → i < k → k < s.size → frB l i k k = false) ∧ Below w.heap.size w wr) (fun i _ => s.size - (intOf i).toNat)
  case atStart => exact ⟨0, Nat.zero_le _, rfl, fun i k h => absurd h (by omega), Below.refl _ _⟩
  case round =>
    obtain ⟨a, ha, rfl, hno, hba⟩ := hrel
    have HNO := Lib.hid hno
    have HBA := Lib.hid hba
    clear hno hba
    rename World => wa
    by_cases hal : a < s.size
    · have a0 : (0 : Int) ≤ (a : Int) := by omega
      have a1 : (a : Int) < (s.size : Int) := by omega
      go_wp2_with fail
      go_loopw [5] (fun i wr => ∃ k : Nat, a + 1 ≤ k ∧ k ≤ s.size ∧ i = .int .i64 k ∧ (∀ j, a < j → j < k → frB l a j j = false) ∧ Below w.heap.size w wr) (fun i _ => s.size - (intOf i).toNat)
      case atStart => exact ⟨a + 1, Nat.le_refl _, hal, by go_num, fun j h1 h2 => absurd h1 (by omega), HBA.out⟩
      case round =>
        obtain ⟨k, hak, hk, rfl, hnk, hbk⟩ := hrel
        have HNK := Lib.hid hnk
        have HBK := Lib.hid hbk
        clear hnk hbk
        rename World => wk
        by_cases hkl : k < s.size
        · have k0 : (0 : Int) ≤ (k : Int) := by omega
          have k1 : (k : Int) < (s.size : Int) := by omega
          have ka : (a : Int) + 1 ≤ (k : Int) := by omega
          have kk : (k : Int) + 1 ≤ (s.size : Int) := by omega
          have hga := byte_get hal
          have hgk := byte_get hkl
          rw [← HLL.out] at hga hgk
          have hsa : shL s[a] = true := List.all_eq_true.1 HL.out _ (by rw [← HLL.out]; exact List.mem_of_getElem? hga)
          obtain ⟨q, hq9, hqi, hqt⟩ := sh_tab hsa
          have CI := fun W => refIndex_any ⟨#[67, 84, 76, 82, 80, 99, 116, 108, 114]⟩ s[a] (by decide) W
          change ∀ W, Calls _ _ _ W (fun e w' => e = .returned (.int .i64 (idxL s[a] lettersU 0)) ∧ w' = W) at CI
          rw [hqi] at CI
          have TR := fun W => tab_run hqt W
          change ∀ W, (Instr.index 9 (.string ⟨#[99, 116, 108, 114, 80, 67, 84, 76, 82]⟩) (.int .i64 (q : Int))).run Tryz.prog W = .ok (.int .u8 ((uns s[a]).toNat : Int)) W at TR
          have hfr : ∀ m, frB l a k m = (s[a] != 80 && s[k] == uns s[a] && okM l a m) := fun m => by unfold frB; rw [getD_some hga, getD_some hgk]
          have hst := okM_start l a
          have h1 : (s[a] != 80) = (((s[a].toNat : Int) != 80)) := by
            by_cases e : s[a] = 80
            · rw [e]; rfl
            · have : ((s[a].toNat : Int) == 80) = false := u8_ne e
              simp only [bne, this]
              simpa using e
          have h2 : (s[k] == uns s[a]) = (((s[k].toNat : Int) == ((uns s[a]).toNat : Int))) := by
            by_cases e : s[k] = uns s[a]
            · rw [e]; simp
            · rw [u8_ne e]
              simpa using e
          rw [h1, h2] at hfr
          obtain ⟨p1, hp1⟩ : ∃ p1, ((s[a].toNat : Int) != 80) = p1 := ⟨_, rfl⟩
          obtain ⟨p2, hp2⟩ : ∃ p2, ((s[k].toNat : Int) == ((uns s[a]).toNat : Int)) = p2 := ⟨_, rfl⟩
          rw [hp1, hp2] at hfr
          have hp3 : ((s[a].toNat : Int) == 80) = !p1 := by rw [← hp1]; simp [bne]
          have HFR := Lib.hid hfr
          have CI := Lib.hid CI
          have HGK := Lib.hid hgk
          have HGA := Lib.hid hga
          have HST := Lib.hid hst
          clear h1 h2 hst hga hgk hqt hqi hfr hsa
          go_upto_region 7 with fail
          go_cut [6] from 22 to 36 (fun f wc => f = .bool (p1 && p2) ∧ Below w.heap.size w wc)
          case first =>
            cases p1 with
            | false =>
              go_wp2_with fail
              go_quiet (fail)
              go_wp2_with fail
              go_meet
              exact ⟨rfl, below_drewN HBK.out _⟩
            | true =>
              go_wp2_with fail
              go_quiet (refine Calls.quiet_of_same (CI.out _))
              go_wp2_with fail
              go_meet
              exact ⟨rfl, below_drewN HBK.out _⟩
          case rest =>
            obtain ⟨rfl, hbc⟩ := hcut
            have HBC := Lib.hid hbc
            clear TR hbc hp1 hp2 hp3
            rename World => wc
            go_wp2_with fail
            go_loopw [6, 7] (fun f i wr => ∃ m : Nat, a + 1 ≤ m ∧ m ≤ k ∧ i = .int .i64 m ∧ f = .bool (frB l a k m) ∧ Below w.heap.size w wr) (fun _ i _ => k - (intOf i).toNat)
            case atStart => exact ⟨a + 1, Nat.le_refl _, hak, by go_num, by rw [HFR.out, HST.out, Bool.and_true], HBC.out⟩
            case round =>
              obtain ⟨m, ham, hm, rfl, rfl, hbm⟩ := hrel
              have HBM := Lib.hid hbm
              clear hbm
              by_cases hml : m < k
              · have m0 : (0 : Int) ≤ (m : Int) := by omega
                have m1 : (m : Int) < (k : Int) := by omega
                have m2 : (m : Int) < (s.size : Int) := by omega
                have m3 : (m : Int) + 1 ≤ (s.size : Int) := by omega
                have hms : m < s.size := by omega
                have hgm := byte_get hms
                rw [← HLL.out] at hgm
                have hnx : frB l a k (m + 1) = (frB l a k m && apartB s[m] s[a]) := by
                  rw [HFR.out, HFR.out, okM_next ham, getD_some hgm, getD_some HGA.out]; simp only [Bool.and_assoc]
                have CA := Lib.hid (fun W => refapart_any s[m] s[a] W)
                generalize apartB s[m] s[a] = b3 at *
                have HNX := Lib.hid hnx
                clear hnx hgm
                cases hb : frB l a k m with
                | false =>
                  rw [hb] at HNX
                  clear hb
                  go_wp2_with fail
                  go_quiet (fail)
                  go_wp2_with fail
                  go_roundw
                  case rel => exact ⟨m + 1, by omega, hml, by go_num, by rw [HNX.out]; rfl, below_drewN HBM.out _⟩
                  case measure => (simp [intOf] <;> omega)
                | true =>
                  rw [hb] at HNX
                  clear hb
                  go_wp2_with fail
                  go_quiet (refine Calls.quiet_of_same (CA.out _))
                  go_wp2_with fail
                  go_roundw
                  case rel => exact ⟨m + 1, by omega, hml, by go_num, by rw [HNX.out]; rfl, below_drewN HBM.out _⟩
                  case measure => (simp [intOf] <;> omega)
              · have m1 : ¬ (m : Int) < (k : Int) := by omega
                obtain rfl : m = k := by omega
                cases hb : frB l a m m with
                | false =>
                  have HNK2 := Lib.hid (show ∀ j, a < j → j < m + 1 → frB l a j j = false from fun j h1 h2 => by
                    by_cases e : j = m
                    · rw [e]; exact hb
                    · exact HNK.out j h1 (by omega))
                  clear hb
                  go_wp2_with fail
                  go_roundw
                  case rel => exact ⟨m + 1, by omega, hkl, by go_num, HNK2.out, HBM.out⟩
                  case measure => (simp [intOf] <;> omega)
                | true =>
                  have HCU := Lib.hid (fr_cut (l := l) (i := a) (k := m) ham (by rw [HLL.out, HSZ.out]; exact hkl) hb)
                  have e1 := ext_list s 0 a
                  have e2 := ext_list s (a + 1) m
                  have e3 := ext_list s (m + 1) s.size
                  have z1 : (s.extract 0 a).size ≤ 1000 := by rw [ByteArray.size_extract]; omega
                  have z2 : (s.extract (a + 1) m).size ≤ 1000 := by rw [ByteArray.size_extract]; omega
                  have z3 : (s.extract (m + 1) s.size).size ≤ 1000 := by rw [ByteArray.size_extract]; omega
                  have z4 : (s.extract 0 a ++ s.extract (a + 1) m).size ≤ 2000 := by rw [ByteArray.size_append]; omega
                  have E1 := Lib.hid e1
                  have E2 := Lib.hid e2
                  have E3 := Lib.hid e3
                  clear hb e1 e2 e3
                  go_wp2_with fail
                  go_quiet (fail)
                  go_wp2_with fail
                  go_ret2
                  refine ⟨.inl ⟨_, ?_, HCU.out⟩, below_drewN HBM.out _⟩
                  show Ending.returned (.tuple #[.string (s.extract 0 a ++ s.extract (a + 1) m ++ s.extract (m + 1) s.size), .bool true]) = _
                  have e4 : (List.drop (m + 1) l).take (s.size - (m + 1)) = List.drop (m + 1) l := List.take_of_length_le (by rw [List.length_drop, HLL.out, HSZ.out]; omega)
                  rw [E1.out, E2.out, E3.out, ← HLL.out, e4, cat_lit, cat_lit, List.drop_zero, Nat.sub_zero, List.append_assoc]
        · have k1 : ¬ (k : Int) < (s.size : Int) := by omega
          have HN2 := Lib.hid (show ∀ i j, i < a + 1 → i < j → j < s.size → frB l i j j = false from fun i j h1 h2 h3 => by
            by_cases e : i = a
            · rw [e]; exact HNK.out j (by omega) (by omega)
            · exact HNO.out i j (by omega) h2 h3)
          go_wp2_with fail
          go_roundw
          case rel => exact ⟨a + 1, hal, by go_num, HN2.out, HBK.out⟩
          case measure => (simp [intOf] <;> omega)
    · have a1 : ¬ (a : Int) < (s.size : Int) := by omega
      have HST := Lib.hid (fr_stk (l := l) fun i k h1 h2 => HNO.out i k (by have := HSZ.out; rw [HLL.out] at h2; omega) h1 (by have := HSZ.out; rw [HLL.out] at h2; omega))
      go_wp2_with fail
      go_ret2
      exact ⟨.inr ⟨rfl, HST.out⟩, HBA.out⟩
end Go.Proofs.YtmefpaoakblndaaGreatDoor
namespace Go.Proofs.YtmefpaoakblndaaGreatDoor
theorem idx_three (c : UInt8) : idxL c [67, 99, 80] 0 < 0 ↔ (c == 67 || c == 99 || c == 80) = false := by
  have key := byte_all (p := fun c => decide (idxL c [67, 99, 80] 0 < 0) == !(c == 67 || c == 99 || c == 80)) (by decide +kernel) c
  rw [beq_iff_eq] at key
  generalize (c == 67 || c == 99 || c == 80) = b at *
  cases b <;> simpa using key
theorem ordL_len (st : List UInt8) : (ordL st).length ≤ 4 * st.length := by
  have h1 := List.count_le_length (a := (76 : UInt8)) (l := st)
  have h2 := List.count_le_length (a := (82 : UInt8)) (l := st)
  have h3 := List.count_le_length (a := (108 : UInt8)) (l := st)
  have h4 := List.count_le_length (a := (114 : UInt8)) (l := st)
  unfold ordL
  simp only [List.length_append, List.length_replicate]
  omega
theorem rout_end (st : List UInt8) : rout st [] = ordL st := rfl
theorem rout_more {st l : List UInt8} {c : UInt8} (h : (c == 67 || c == 99 || c == 80) = false) : rout st (c :: l) = rout (st ++ [c]) l := by
  show (if _ then _ else _) = _
  rw [h]; rfl
theorem rout_cut {st l : List UInt8} {c : UInt8} (h : (c == 67 || c == 99 || c == 80) = true) : rout st (c :: l) = ordL st ++ c :: rout [] l := by
  show (if _ then _ else _) = _
  rw [h]; rfl
def strN : Value → Nat
  | .string s => s.size
  | _ => 0
def boolN : Value → Nat
  | .bool true => 1
  | _ => 0
open Go.RowKit
set_option linter.unusedSimpArgs false
set_option maxHeartbeats 4000000 in
set_option maxRecDepth 100000 in
theorem refReduce_any (s : ByteArray) (w : World) : Calls Tryz.prog 26 #[.string s] w fun e w' => e = .returned (.tuple #[.string (redS s), .int .i64 (stV s)]) ∧ Below w.heap.size w w' := by
  have CK := fun W => refCheck3_any s W
  by_cases hz : stV s = 0
  · have h16 := st_ok hz
    have e2 : s.data.toList.length = s.size := by simp
    have hall : s.data.toList.all isLt = true := h16.2
    have CL := Lib.hid (fun W => reflong_any s (by have := h16.1; omega) W)
    have hred : redS s = ⟨(rend (walk [] (s.data.toList.flatMap lng))).toArray⟩ := by
      unfold redS
      rw [if_pos hz, walk_lng _ _ .nil hall]
      show (⟨([80].intercalate ((splitL 80 s.data.toList).map redL)).toArray⟩ : ByteArray) = _
      rw [red_join]
    have hsh := lng_sh hall
    have hln := lng_len s.data.toList
    rw [hred, hz]
    rw [hz] at CK
    obtain ⟨L, hL⟩ : ∃ L : ByteArray, L = ⟨(s.data.toList.flatMap lng).toArray⟩ := ⟨_, rfl⟩
    have hLd : s.data.toList.flatMap lng = L.data.toList := by rw [hL]
    rw [← hL] at CL
    rw [hLd] at hsh hln ⊢
    have hLs : L.data.toList.length ≤ 32 := by have := h16.1; omega
    clear hred hz hall e2 hL hLd hln h16
    obtain ⟨R, hR⟩ : ∃ R, R = rend (walk [] L.data.toList) := ⟨_, rfl⟩
    rw [← hR]
    have HR := Lib.hid hR
    have HSH := Lib.hid hsh
    have HLS := Lib.hid hLs
    have CK := Lib.hid CK
    clear hR hsh hLs
    go_enter Tryz.func26, Tryz.ntmps26
    go_wp2_with fail
    refine (CK.out _).mono ?_
    rintro e w1 ⟨rfl, hw⟩
    obtain rfl := hw.symm
    clear hw
    go_wp2_with fail
    refine (CL.out _).mono ?_
    rintro e w1 ⟨rfl, hw⟩
    obtain rfl := hw.symm
    clear hw
    go_wp2_with fail
    go_loopw [5, 6] (fun vs vb wr => ∃ (S : ByteArray) (b : Bool), vs = .string S ∧ vb = .bool b ∧ S.data.toList.all shL = true ∧ R = rend (walk [] S.data.toList) ∧ S.size ≤ 32 ∧ (b = false → Stk S.data.toList) ∧ Below w.heap.size w wr) (fun vs vb _ => strN vs + boolN vb)
    case atStart => exact ⟨L, true, rfl, rfl, HSH.out, HR.out, by have := HLS.out; simpa using this, (fun h => by cases h), Below.refl _ _⟩
    case round =>
      obtain ⟨S, b, rfl, rfl, hsh, hR, hS, hst, hba⟩ := hrel
      have HBA := Lib.hid hba
      clear hba
      rename World => wa
      have HSH := Lib.hid hsh
      have HR := Lib.hid hR
      have HST := Lib.hid hst
      have HS := Lib.hid hS
      clear hsh hR hst hS
      cases b with
      | true =>
        have CS := Lib.hid (fun W => shorter_any S (by have := HS.out; omega) HSH.out W)
        go_wp2_with fail
        refine (CS.out _).mono ?_
        rintro e w1 ⟨⟨r, rfl, hc⟩ | ⟨rfl, hc⟩, hw⟩
        · have HB1 := Lib.hid (HBA.out.trans (hw.mono HBA.out.size))
          clear hw
          have HC := Lib.hid hc
          clear hc
          have hlen := cut_len HC.out
          have hsz : S.data.toList.length = S.size := by simp
          go_wp2_with fail
          go_roundw
          case rel => exact ⟨⟨r.toArray⟩, true, rfl, rfl, cut_all HC.out HSH.out, by rw [HR.out, cut_walk HC.out (by rw [List.all_eq_true]; intro c hc; exact sh_lt (List.all_eq_true.1 HSH.out c hc))], by have := HS.out; show r.toArray.size ≤ 32; simp only [List.size_toArray]; omega, (fun h => by cases h), HB1.out⟩
          case measure =>
            show r.toArray.size + 1 < S.size + 1
            simp only [List.size_toArray]; omega
        · have HB1 := Lib.hid (HBA.out.trans (hw.mono HBA.out.size))
          clear hw
          have HC := Lib.hid hc
          clear hc
          go_wp2_with fail
          go_roundw
          case rel => exact ⟨S, false, rfl, rfl, HSH.out, HR.out, HS.out, fun _ => HC.out, HB1.out⟩
          case measure =>
            show S.size + 0 < S.size + 1
            omega
      | false =>
        have hsz : S.data.toList.length = S.size := by simp
        have hro := rout_all HSH.out (HST.out rfl)
        rw [← HR.out] at hro
        have HRO := Lib.hid hro
        have HSZ := Lib.hid hsz
        clear hro hsz
        go_wp2_with fail
        go_loopw [7, 8, 9] (fun vo vt i wr => ∃ (k : Nat) (O st : List UInt8), k ≤ S.size ∧ i = .int .i64 k ∧ vo = .string ⟨O.toArray⟩ ∧ vt = .string ⟨st.toArray⟩ ∧ R = O ++ rout st (S.data.toList.drop k) ∧ st.length ≤ k ∧ O.length ≤ 200 * k ∧ Below w.heap.size w wr) (fun _ _ i _ => S.size - (intOf i).toNat)
        case atStart => exact ⟨0, [], [], Nat.zero_le _, rfl, rfl, rfl, by rw [← HRO.out]; rfl, Nat.zero_le _, Nat.zero_le _, HBA.out⟩
        case round =>
          obtain ⟨k, O, st, hk, rfl, rfl, rfl, hRO, hstl, hOl, hbk⟩ := hrel
          have HBK := Lib.hid hbk
          clear hbk
          rename World => wk
          have HO := Lib.hid hOl
          have HT := Lib.hid hstl
          have HRR := Lib.hid hRO
          have hs32 := HS.out
          have hol := ordL_len st
          have CO1 : ∀ W, Calls Tryz.prog 53 #[.string ⟨st.toArray⟩] W fun e w' => e = .returned (.string ⟨(ordL st).toArray⟩) ∧ w' = W := fun W => refordered_any ⟨st.toArray⟩ (by show st.toArray.size ≤ 1000; simp only [List.size_toArray]; omega) W
          have CO := Lib.hid CO1
          clear CO1
          have z1 : (⟨O.toArray⟩ : ByteArray).size ≤ 10000 := by show O.toArray.size ≤ 10000; simp only [List.size_toArray]; omega
          have z2 : (⟨st.toArray⟩ : ByteArray).size ≤ 1000 := by show st.toArray.size ≤ 1000; simp only [List.size_toArray]; omega
          have z3 : (⟨(ordL st).toArray⟩ : ByteArray).size ≤ 1000 := by show (ordL st).toArray.size ≤ 1000; simp only [List.size_toArray]; omega
          have z4 : (⟨(O ++ ordL st).toArray⟩ : ByteArray).size ≤ 11000 := by show (O ++ ordL st).toArray.size ≤ 11000; simp only [List.size_toArray, List.length_append]; omega
          have HC1 := Lib.hid (cat_lit O (ordL st))
          clear hOl hstl hRO
          by_cases hkl : k < S.size
          · have k0 : (0 : Int) ≤ (k : Int) := by omega
            have k1 : (k : Int) < (S.size : Int) := by omega
            have hk2 : (k : Int) + 1 ≤ (S.size : Int) := by omega
            have hkb := byte_get hkl
            have hd : S.data.toList.drop k = S[k] :: S.data.toList.drop (k + 1) := List.drop_eq_getElem_cons (by simpa using hkl)
            have CI := fun W => refIndex_any ⟨#[67, 99, 80]⟩ S[k] (by decide) W
            change ∀ W, Calls _ _ _ W (fun e w' => e = .returned (.int .i64 (idxL S[k] [67, 99, 80] 0)) ∧ w' = W) at CI
            have hx := idx_three S[k]
            have hq : ∃ q, q = idxL S[k] [67, 99, 80] 0 := ⟨_, rfl⟩
            have z5 : (S.extract k (k + 1)).size ≤ 1000 := by rw [ByteArray.size_extract]; omega
            have HK := Lib.hid hkb
            by_cases hcp : (S[k] == 67 || S[k] == 99 || S[k] == 80) = true
            · have HN := Lib.hid (show R = (O ++ ordL st ++ [S[k]]) ++ rout [] (S.data.toList.drop (k + 1)) by rw [HRR.out, hd, rout_cut hcp]; simp)
              have hq0 : ¬ idxL S[k] [67, 99, 80] 0 < 0 := fun h => by rw [hx.1 h] at hcp; cases hcp
              generalize idxL S[k] [67, 99, 80] 0 = q at *
              have HCT := Lib.hid (cat_one (O ++ ordL st) S hkb)
              have z6 : ((⟨O.toArray⟩ : ByteArray) ++ ⟨(ordL st).toArray⟩).size ≤ 11000 := by rw [HC1.out]; exact z4
              clear z4
              generalize (⟨O.toArray⟩ : ByteArray) = S1 at *
              generalize (⟨st.toArray⟩ : ByteArray) = S2 at *
              generalize (⟨(ordL st).toArray⟩ : ByteArray) = S3 at *
              clear hkb hd hx hq hcp
              have CI := Lib.hid CI
              go_wp2_with fail
              refine (CI.out _).mono ?_
              rintro e w1 ⟨rfl, hw⟩
              obtain rfl := hw.symm
              clear hw
              go_wp2_with fail
              go_quiet (refine Calls.quiet_of_same (CO.out _))
              go_wp2_with fail
              go_roundw
              case rel => exact ⟨k + 1, O ++ ordL st ++ [S[k]], [], hkl, by go_num, by rw [← HCT.out, ← HC1.out], rfl, HN.out, Nat.zero_le _, by have := HO.out; have := HT.out; simp only [List.length_append, List.length_singleton]; omega, below_drewN HBK.out _⟩
              case measure => (simp [intOf] <;> omega)
            · have hcp : (S[k] == 67 || S[k] == 99 || S[k] == 80) = false := by simpa using hcp
              have HN := Lib.hid (show R = O ++ rout (st ++ [S[k]]) (S.data.toList.drop (k + 1)) by rw [HRR.out, hd, rout_more hcp])
              have hq0 : idxL S[k] [67, 99, 80] 0 < 0 := hx.2 hcp
              generalize idxL S[k] [67, 99, 80] 0 = q at *
              have HCT := Lib.hid (cat_one st S hkb)
              clear hkb hd hx hq hcp
              have CI := Lib.hid CI
              go_wp2_with fail
              refine (CI.out _).mono ?_
              rintro e w1 ⟨rfl, hw⟩
              obtain rfl := hw.symm
              clear hw
              go_wp2_with fail
              go_roundw
              case rel => exact ⟨k + 1, O, st ++ [S[k]], hkl, by go_num, rfl, by rw [HCT.out], HN.out, by have := HT.out; simp; omega, by have := HO.out; omega, HBK.out⟩
              case measure => (simp [intOf] <;> omega)
          · have k1 : ¬ (k : Int) < (S.size : Int) := by omega
            have HN := Lib.hid (show R = O ++ ordL st by rw [HRR.out, List.drop_eq_nil_of_le (by have := HSZ.out; omega)]; rfl)
            go_wp2_with fail
            refine (CO.out _).mono ?_
            rintro e w1 ⟨rfl, hw⟩
            obtain rfl := hw.symm
            clear hw
            go_wp2_with fail
            go_ret2
            rw [HN.out, ← HC1.out]
            exact ⟨rfl, HBK.out⟩
  · have hr : redS s = ByteArray.empty := by unfold redS; rw [if_neg hz]
    rw [hr]
    generalize stV s = z at *
    have hq : (z != 0) = true := by simpa using hz
    clear hz hr
    have CK := Lib.hid CK
    go_enter Tryz.func26, Tryz.ntmps26
    go_wp2_with fail
    refine (CK.out _).mono ?_
    rintro e w1 ⟨rfl, hw⟩
    obtain rfl := hw.symm
    clear hw
    go_wp2_with fail
    go_ret2
    exact ⟨rfl, Below.refl _ _⟩
end Go.Proofs.YtmefpaoakblndaaGreatDoor
namespace Go.Proofs.YtmefpaoakblndaaGreatDoor
open Go.RowKit
set_option linter.unusedSimpArgs false
theorem infoStr : (Tryz.prog.info? 9).map (fun i => (i.zero, i.size, i.bytes)) = some (some (.string ⟨#[]⟩), 1, 16) := by kernel_rfl
def strV (p : List UInt8) : Value := .string ⟨p.toArray⟩
/-- append(v, x), x a string: an own row grows by one. -/
theorem app_str {ops : Array Oper} {rest : List Oper} {o : Oper} {a : Act} {Q : Exit → Act → World → Prop} {w w0 : World} (B : Nat) (v : Value) (zs : List (List UInt8)) (x : List UInt8)
    (hgd : o.guard = none) (s y : Operand) (ho : o.op = .call { callee := .builtin .append, args := #[s, y], argTypes := #[54, 54] }) (hs : a.eval s = v)
    (hown : w.ownsRow B 9 1 v zs.length (zs.map strV)) (hy : a.eval y = .slice (some ⟨w.heap.size, 0, none⟩) 1 1) (hl : zs.length < 100000) (hb : Below B w0 w) (hB : B ≤ w.heap.size)
    (h : ∀ g cap w', w'.ownsRow B 9 1 (.slice (some ⟨g, 0, none⟩) (zs.length + 1) cap) (zs.length + 1) ((zs ++ [x]).map strV) → Below B w0 w' → wpList Tryz.prog ops Q rest (a.put o.dst (.slice (some ⟨g, 0, none⟩) (zs.length + 1) cap)) w') :
    wpList Tryz.prog ops Q (o :: rest) a (w.alloc (.cells #[.string ⟨x.toArray⟩] 9)) := by
  obtain ⟨i0, hi, hz0, hz1, hz2⟩ := info_parts infoStr
  refine wpList_append_own _ hgd s y 54 ho B 9 i0 (.string ⟨#[]⟩) 1 16 Tryz.underlying54 hi hz0 hz1 hz2 rfl (by decide) v _ _ hs (hown.alloc _) ⟨w.heap.size, 0, none⟩ 1 1 [.string ⟨x.toArray⟩] hy rfl (cell_one_new _ _ _) (by simp [Value.oneCell']) (by unfold maxLen; omega) (by omega) (by simp; omega) ?_
  intro v' w' hown' hgrow _
  rcases hown'.2 with ⟨_, h0⟩ | ⟨g, cap, _, rfl, _⟩
  · omega
  · refine h g cap w' (by rw [List.map_append]; exact hown') ?_
    exact Below.grown (hb.alloc hB _) hgrow (by simp; omega) fun k e => (hown.lt k e).1
set_option maxHeartbeats 4000000 in
set_option maxRecDepth 100000 in
theorem parts_any (s : ByteArray) (hs : s.size ≤ 16) (w : World) : Calls Tryz.prog 56 #[.string s] w fun e w' =>
    ∃ g cap n, e = .returned (.slice (some ⟨g, 0, none⟩) n cap) ∧ n = (splitL 80 s.data.toList).length ∧ w'.ownsRow w.heap.size 9 1 (.slice (some ⟨g, 0, none⟩) n cap) n ((splitL 80 s.data.toList).map strV) ∧ Below w.heap.size w w' := by
  have HSZ := Lib.hid (size_len s)
  go_enter Tryz.func56, Tryz.ntmps56
  go_wp2_with fail
  go_loopw [3, 4, 5] (fun vo vs i wr => ∃ (k : Nat) (D : List (List UInt8)) (cur : List UInt8), k ≤ s.size ∧ i = .int .i64 k ∧ splitL 80 (s.data.toList.take k) = D ++ [cur] ∧ D.length ≤ k ∧ cur.length ≤ k ∧ vs = .string ⟨cur.toArray⟩ ∧ wr.ownsRow w.heap.size 9 1 vo D.length (D.map strV) ∧ Below w.heap.size w wr) (fun _ _ i _ => s.size - (intOf i).toNat)
  case atStart => exact ⟨0, [], [], Nat.zero_le _, rfl, rfl, Nat.zero_le _, Nat.zero_le _, rfl, World.ownsRow_nil _ _ _ _, Below.refl _ _⟩
  case round =>
    obtain ⟨k, D, cur, hk, rfl, hsp, hD, hcur, rfl, hown, hbw⟩ := hrel
    have HO := Lib.hid hown
    have HB := Lib.hid hbw
    have HD := Lib.hid hD
    have HC := Lib.hid hcur
    clear hown hbw hD hcur
    by_cases hkl : k < s.size
    · have k0 : (0 : Int) ≤ (k : Int) := by omega
      have k1 : (k : Int) < (s.size : Int) := by omega
      have hk2 : (k : Int) + 1 ≤ (s.size : Int) := by omega
      have hkb := byte_get hkl
      have htk : s.data.toList.take (k + 1) = s.data.toList.take k ++ [s[k]] := by rw [List.take_add_one, hkb]; rfl
      by_cases h80 : s[k] = 80
      · have e80 : ((s[k].toNat : Int) == 80) = true := by rw [h80]; rfl
        have HN := Lib.hid (show splitL 80 (s.data.toList.take (k + 1)) = (D ++ [cur]) ++ [[]] by rw [htk, h80, split_snoc80, hsp])
        clear hsp hkb htk h80
        go_wp2_with (refine app_str w.heap.size _ D cur rfl _ _ rfl rfl HO.out rfl (by have := HD.out; omega) HB.out HB.out.size ?_)
        intro g cap w' hown' hb'
        have HO2 := Lib.hid hown'
        have HB2 := Lib.hid hb'
        clear hown' hb'
        go_wp2_with fail
        go_roundw
        case rel => exact ⟨k + 1, D ++ [cur], [], hkl, by go_num, HN.out, by have := HD.out; simp; omega, Nat.zero_le _, rfl, by simpa using HO2.out, HB2.out⟩
        case measure => (simp [intOf] <;> omega)
      · have e80 : ((s[k].toNat : Int) == 80) = false := u8_ne h80
        have HN := Lib.hid (show splitL 80 (s.data.toList.take (k + 1)) = D ++ [cur ++ [s[k]]] by rw [htk]; exact split_snoc h80 hsp)
        have HCT := Lib.hid (cat_one cur s hkb)
        have hl1 : (⟨cur.toArray⟩ : ByteArray).size ≤ 1000 := by
          show (cur.toArray).size ≤ 1000
          have := HC.out
          simp only [List.size_toArray]; omega
        have hl2 : (s.extract k (k + 1)).size ≤ 1000 := by rw [ByteArray.size_extract]; omega
        clear hsp hkb htk h80
        go_wp2_with fail
        go_roundw
        case rel => exact ⟨k + 1, D, cur ++ [s[k]], hkl, by go_num, HN.out, Nat.le_succ_of_le HD.out, by have := HC.out; simp; omega, by rw [HCT.out], HO.out, HB.out⟩
        case measure => (simp [intOf] <;> omega)
    · have k1 : ¬ (k : Int) < (s.size : Int) := by omega
      have HE := Lib.hid (show splitL 80 s.data.toList = D ++ [cur] by rw [← hsp, List.take_of_length_le (by simp; omega)])
      clear hsp
      go_wp2_with (refine app_str w.heap.size _ D cur rfl _ _ rfl rfl HO.out rfl (by have := HD.out; omega) HB.out HB.out.size ?_)
      intro g cap w' hown' hb'
      have HO2 := Lib.hid hown'
      have HB2 := Lib.hid hb'
      clear hown' hb'
      go_wp2_with fail
      go_ret
      refine ⟨g, cap, D.length + 1, rfl, by rw [HE.out]; simp, ?_, HB2.out⟩
      rw [HE.out]
      simpa using HO2.out
end Go.Proofs.YtmefpaoakblndaaGreatDoor
namespace Go.Proofs.YtmefpaoakblndaaGreatDoor
open Go.RowKit
set_option linter.unusedSimpArgs false
section
variable {P : Program} {ops : Array Oper} {md : Region.Mode} {S : World → Prop} {Q : Exit → Act → World → Prop} {fuel : Nat} {d : Array Bool} {a : Act} {w : World}
theorem held_take {i : Nat} {o : Oper} (hi : ops[i]? = some o) (hs : Region.noSelect ops = true) (hf : Region.free md ops d i = true) (hr : (Region.ready md ops d).contains i = true) (v : Value)
    (hQ : ∀ c a w, Q (.panic c) (a.put o.dst v) w → Q (.panic c) a w) (hS : S w) (hg : o.guard = none) (hy : ∀ w, S w → (execOp a.eval o).run P w = .ok (.value v) w)
    (h : wpAnyH P md ops Q S fuel (d.setIfInBounds i true) (a.put o.dst v) w) : wpAnyH P md ops Q S (fuel + 1) d a w :=
  wpAnyH_take hi hs hf hr hQ (.inl ⟨by simp [Region.wanted, hg], hy⟩) hS h
theorem held_load {i : Nat} {o : Oper} (hi : ops[i]? = some o) (hs : Region.noSelect ops = true) (hf : Region.free md ops d i = true) (hr : (Region.ready md ops d).contains i = true) (cs : List Value)
    (hQ : ∀ c a w, Q (.panic c) (a.put o.dst (.agg cs.toArray)) w → Q (.panic c) a w) (hS : S w) (hg : o.guard = none) (ty : TypeId) (x : Operand) (ho : o.op = .load ty x) (b off : Nat) (hx : a.eval x = .pointer (some ⟨b, off, none⟩)) (dd : TypeDesc)
    (hR : ∀ w, S w → w.rangeAt b off cs) (hu : P.underlying ty = some dd) (hd : dd.isRow = true) (hsz : (P.info? ty).map (·.size) = some cs.length)
    (h : wpAnyH P md ops Q S fuel (d.setIfInBounds i true) (a.put o.dst (.agg cs.toArray)) w) : wpAnyH P md ops Q S (fuel + 1) d a w :=
  held_take hi hs hf hr _ hQ hS hg (fun w' hw' => by
    unfold execOp
    simp only [ho, hx, Sem.run_bind, run_loadAt_mid w' b off ty cs dd (hR w' hw') hu hd hsz, Result.andThen_ok, Sem.run_pure]) h
theorem held_load1 {i : Nat} {o : Oper} (hi : ops[i]? = some o) (hs : Region.noSelect ops = true) (hf : Region.free md ops d i = true) (hr : (Region.ready md ops d).contains i = true) (v : Value)
    (hQ : ∀ c a w, Q (.panic c) (a.put o.dst v) w → Q (.panic c) a w) (hS : S w) (hg : o.guard = none) (ty : TypeId) (x : Operand) (ho : o.op = .load ty x) (ad : Addr) (hx : a.eval x = .pointer (some ad))
    (hl : ∀ w, w.cell? ad = some v → (Instr.loadAt ty (.pointer (some ad))).run P w = .ok v w) (hR : ∀ w, S w → w.cell? ad = some v)
    (h : wpAnyH P md ops Q S fuel (d.setIfInBounds i true) (a.put o.dst v) w) : wpAnyH P md ops Q S (fuel + 1) d a w :=
  held_take hi hs hf hr _ hQ hS hg (fun w' hw' => by
    unfold execOp
    simp only [ho, hx, Sem.run_bind, hl w' (hR w' hw'), Result.andThen_ok, Sem.run_pure]) h
theorem held_call {i : Nat} {o : Oper} (hr : Region.ready md ops d = [i]) (hi : ops[i]? = some o) (hg : o.guard = none) (f : FuncId) (args : List Operand) (ts : Array TypeId) (ho : o.op = .call { callee := .value (.func f), args := args.toArray, argTypes := ts }) (hent : ∀ args w, (callFunc f args).run P w = .ok (.enter f args) w) (vs : Array Value) (hv : (args.map a.eval).toArray = vs)
    (h : Calls P f vs w fun e w' => ∃ v, e = .returned v ∧ S w' ∧ wpAnyH P md ops Q S fuel (d.setIfInBounds i true) (a.put o.dst v) w') : wpAnyH P md ops Q S (fuel + 1) d a w := by
  subst hv
  refine wpAnyH_all hr (by simp) fun j hj => ?_
  obtain rfl : j = i := by simpa using hj
  have hw : Region.wanted o (yielded ops a.tmps) = true := by simp [Region.wanted, hg]
  unfold wpOp
  simp only [hi]
  rw [if_pos hw]
  refine .inl ?_
  unfold Oper.wp execOp
  simp [ho, resolve, invoke, Act.eval, go_sem, hent, Oper.upon]
  refine h.mono fun e w' ⟨v, he, hS, hk⟩ => ?_
  subst he
  exact ⟨hS, hk⟩
theorem held_still {i : Nat} {o : Oper} (hr : Region.ready md ops d = [i]) (hi : ops[i]? = some o) (hg : o.guard = none) (v : Value) (hv : (execOp a.eval o).run P w = .ok (.value v) w) (hS : S w)
    (h : wpAnyH P md ops Q S fuel (d.setIfInBounds i true) (a.put o.dst v) w) : wpAnyH P md ops Q S (fuel + 1) d a w := by
  refine wpAnyH_all hr (by simp) fun j hj => ?_
  obtain rfl : j = i := by simpa using hj
  have hw : Region.wanted o (yielded ops a.tmps) = true := by simp [Region.wanted, hg]
  unfold wpOp
  simp only [hi]
  rw [if_pos hw]
  refine .inl ?_
  unfold Oper.wp
  rw [hv]
  simp only [Oper.upon]
  exact ⟨hS, h⟩
end

theorem str_at {w : World} {B n g cap : Nat} {ps : List (List UInt8)} (h : w.ownsRow B 9 1 (.slice (some ⟨g, 0, none⟩) n cap) n (ps.map strV)) (hn : n = ps.length) {k : Nat} {p : List UInt8} (hp : ps[k]? = some p) : w.cell? ⟨g, k, none⟩ = some (strV p) := by
  have hk := (List.getElem?_eq_some_iff.1 hp).1
  rw [h.cellAt k (by omega), List.getElem?_map, hp]; rfl
theorem load_str (ad : Addr) (v : ByteArray) (w : World) (h : w.cell? ad = some (.string v)) : (Instr.loadAt 9 (.pointer (some ad))).run Tryz.prog w = .ok (.string v) w := by
  simp [Instr.loadAt, Instr.sureAddr, loadVar, go_sem, Tryz.isAgg3, h]
set_option maxHeartbeats 4000000 in
set_option maxRecDepth 100000 in
theorem refSame3_any (a b : ByteArray) (r : Bool) (hr0 : sameE a b ≠ 0 → r = false) (hr1 : sameE a b = 0 → (r = true ↔ SameW a b)) (w : World) : Calls Tryz.prog 28 #[.string a, .string b] w fun e w' => e = .returned (.tuple #[.bool r, .int .i64 (sameE a b)]) ∧ Below w.heap.size w w' := by
  have CA := fun W => refCheck3_any a W
  have CB := fun W => refCheck3_any b W
  by_cases ha : stV a = 0
  · rw [ha] at CA
    by_cases hb : stV b = 0
    · rw [hb] at CB
      have hse : sameE a b = 0 := by unfold sameE; rw [if_pos ha]; exact hb
      rw [hse]
      have hiff := hr1 hse
      unfold SameW at hiff
      have PA := Lib.hid (fun W => parts_any a (st_ok ha).1 W)
      have PB := Lib.hid (fun W => parts_any b (st_ok hb).1 W)
      have la : ∀ p ∈ splitL 80 a.data.toList, p.length ≤ 16 := fun p hp => by
        have h1 := splitL_part hp
        have h2 := (st_ok ha).1
        have e2 : a.data.toList.length = a.size := by simp
        omega
      have lb : ∀ p ∈ splitL 80 b.data.toList, p.length ≤ 16 := fun p hp => by
        have h1 := splitL_part hp
        have h2 := (st_ok hb).1
        have e2 : b.data.toList.length = b.size := by simp
        omega
      have na : (splitL 80 a.data.toList).length ≤ 17 := by
        rw [splitL_length]
        have := List.count_le_length (a := (80 : UInt8)) (l := a.data.toList)
        have h2 := (st_ok ha).1
        have e2 : a.data.toList.length = a.size := by simp
        omega
      have nb : (splitL 80 b.data.toList).length ≤ 17 := by
        rw [splitL_length]
        have := List.count_le_length (a := (80 : UInt8)) (l := b.data.toList)
        have h2 := (st_ok hb).1
        have e2 : b.data.toList.length = b.size := by simp
        omega
      generalize splitL 80 a.data.toList = xs at *
      generalize splitL 80 b.data.toList = ys at *
      have HI := Lib.hid hiff
      have LA := Lib.hid la
      have LB := Lib.hid lb
      have CA := Lib.hid CA
      have CB := Lib.hid CB
      clear hiff la lb hr0 hr1 hse ha hb
      go_enter Tryz.func28, Tryz.ntmps28
      go_wp2_with fail
      refine (CA.out _).mono ?_
      rintro e w1 ⟨rfl, hw⟩
      obtain rfl := hw.symm
      clear hw
      go_wp2_with fail
      refine (CB.out _).mono ?_
      rintro e w1 ⟨rfl, hw⟩
      obtain rfl := hw.symm
      clear hw
      go_wp2_with fail
      refine (PA.out _).mono ?_
      rintro e w1 ⟨g1, c1, n1, rfl, hn1, ho1, hb1⟩
      have HO1 := Lib.hid ho1
      have HN1 := Lib.hid hn1
      clear hn1
      have HB1 := Lib.hid hb1
      clear ho1 hb1
      go_wp2_with fail
      refine (PB.out _).mono ?_
      rintro e w2 ⟨g2, c2, n2, rfl, hn2, ho2, hb2⟩
      have HO1' := Lib.hid (own_below HO1.out hb2)
      have HO2 := Lib.hid (own_mono ho2 HB1.out.size)
      have HB2 := Lib.hid (HB1.out.trans (hb2.mono HB1.out.size))
      clear ho2 hb2 HO1 HB1
      have HN2 := Lib.hid hn2
      clear hn2
      by_cases hln : n1 = n2
      · have hlq : ((n1 : Int) == (n2 : Int)) = true := by rw [hln]; simp
        have HLN := Lib.hid hln
        clear hln
        go_wp2_with fail
        go_loopw [9] (fun i wr => ∃ k : Nat, k ≤ n1 ∧ i = .int .i64 k ∧ (∀ j x y, j < k → xs[j]? = some x → ys[j]? = some y → SameP x y) ∧ Below w2.heap.size w2 wr) (fun i _ => n1 - (intOf i).toNat)
        case atStart => exact ⟨0, Nat.zero_le _, rfl, fun j x y h => absurd h (by omega), Below.refl _ _⟩
        case round =>
          obtain ⟨k, hk, rfl, hsm, hbk⟩ := hrel
          have HSM := Lib.hid hsm
          have HBK := Lib.hid hbk
          clear hsm hbk
          rename World => wk
          by_cases hkl : k < n1
          · have k17 : k < 18 := by have := HN1.out; omega
            have k0 : (0 : Int) ≤ (k : Int) := by omega
            have k1 : (k : Int) < (n1 : Int) := by omega
            have k2 : (k : Int) < (n2 : Int) := by have := HLN.out; omega
            obtain ⟨x, hx⟩ : ∃ x, xs[k]? = some x := ⟨_, List.getElem?_eq_getElem (by rw [← HN1.out]; exact hkl)⟩
            obtain ⟨y, hy⟩ : ∃ y, ys[k]? = some y := ⟨_, List.getElem?_eq_getElem (by rw [← HN2.out, ← HLN.out]; exact hkl)⟩
            have cx := str_at (own_below HO1'.out HBK.out) HN1.out hx
            have cy := str_at (own_below HO2.out HBK.out) HN2.out hy
            have lx := LA.out x (List.mem_of_getElem? hx)
            have ly := LB.out y (List.mem_of_getElem? hy)
            have HX := Lib.hid hx
            have HY := Lib.hid hy
            clear hx hy
            have g1l : g1 < wk.heap.size := ((own_below HO1'.out HBK.out).lt g1 rfl).2
            have g2l : g2 < wk.heap.size := ((own_below HO2.out HBK.out).lt g2 rfl).2
            have kx : checkV 4 (crW x) = 0 := crW_check lx
            have ky : checkV 4 (crW y) = 0 := crW_check ly
            have hbo : bothV 4 (crW x) (crW y) = 0 := by unfold bothV; rw [if_pos kx]; exact ky
            obtain ⟨r1, hr1⟩ : ∃ r1 : Bool, r1 = true ↔ SameP x y := by
              by_cases h : SameP x y
              · exact ⟨true, fun _ => h, fun _ => rfl⟩
              · exact ⟨false, fun e => (by cases e), fun e => absurd e h⟩
            have HR1 := Lib.hid hr1
            have CX : ∀ W, Calls Tryz.prog 36 #[strV x] W fun e w' => ∃ v, e = .returned v ∧ w'.ownsRow W.heap.size 3 1 v (crW x).length ((crW x).map (Value.int .i64)) ∧ Below W.heap.size W w' := fun W => refcrossings_any ⟨x.toArray⟩ (by show x.toArray.size ≤ 1000; simp only [List.size_toArray]; omega) W
            have CY : ∀ W, Calls Tryz.prog 36 #[strV y] W fun e w' => ∃ v, e = .returned v ∧ w'.ownsRow W.heap.size 3 1 v (crW y).length ((crW y).map (Value.int .i64)) ∧ Below W.heap.size W w' := fun W => refcrossings_any ⟨y.toArray⟩ (by show y.toArray.size ≤ 1000; simp only [List.size_toArray]; omega) W
            have CS : ∀ (u v : Value) (W : World), IS W u (crW x) → IS W v (crW y) → Calls Tryz.prog 57 #[.int .i64 4, u, v] W fun e w' => e = .returned (.tuple #[.bool r1, .int .i64 0]) ∧ Below W.heap.size W w' := fun u v W hu hv => by
              have := refSame_any 4 (crW x) (crW y) u v W hu hv r1 (fun h => absurd hbo h) (fun _ => HR1.out)
              rw [hbo] at this
              exact this
            have CX := Lib.hid CX
            have CY := Lib.hid CY
            have CS := Lib.hid CS
            clear hr1 kx ky hbo lx ly
            go_wp2_with fail
            refine wp_region_held (S := fun w' => w'.cell? ⟨g1, k, none⟩ = some (strV x) ∧ w'.cell? ⟨g2, k, none⟩ = some (strV y)) (by kernel_rfl) ?_
            have hS0 : (wk.drew.cell? ⟨g1, k, none⟩ = some (strV x) ∧ wk.drew.cell? ⟨g2, k, none⟩ = some (strV y)) := ⟨cx, cy⟩
            have hD : Below wk.heap.size wk wk.drew := (Below.refl _ wk).drew
            refine held_take (i := 0) rfl (by kernel_rfl) (by kernel_rfl) (by kernel_rfl) (.slice (some ⟨g1, 0, none⟩) n1 c1) (fun _ _ _ h => h) hS0 rfl (fun w _ => by go_simp) ?_
            simp only [Act.put, List.getElem_toArray, List.getElem_cons_succ, List.getElem_cons_zero, List.setIfInBounds_toArray, List.set_cons_zero, List.set_cons_succ]
            refine held_take (i := 1) rfl (by kernel_rfl) (by kernel_rfl) (by kernel_rfl) (.int .i64 (k : Int)) (fun _ _ _ h => h) hS0 rfl (fun w _ => by go_simp) ?_
            simp only [Act.put, List.getElem_toArray, List.getElem_cons_succ, List.getElem_cons_zero, List.setIfInBounds_toArray, List.set_cons_zero, List.set_cons_succ]
            refine held_take (i := 2) rfl (by kernel_rfl) (by kernel_rfl) (by kernel_rfl) (.pointer (some ⟨g1, k, none⟩)) (fun _ _ _ h => h) hS0 rfl (fun w _ => by go_simp) ?_
            simp only [Act.put, List.getElem_toArray, List.getElem_cons_succ, List.getElem_cons_zero, List.setIfInBounds_toArray, List.set_cons_zero, List.set_cons_succ]
            refine held_load1 (i := 3) rfl (by kernel_rfl) (by kernel_rfl) (by kernel_rfl) (strV x) (fun _ _ _ h => h) hS0 rfl _ _ rfl ⟨g1, k, none⟩ rfl (load_str _ _) (fun w h => h.1) ?_
            simp only [Act.put, List.getElem_toArray, List.getElem_cons_succ, List.getElem_cons_zero, List.setIfInBounds_toArray, List.set_cons_zero, List.set_cons_succ]
            refine held_take (i := 5) rfl (by kernel_rfl) (by kernel_rfl) (by kernel_rfl) (.slice (some ⟨g2, 0, none⟩) n2 c2) (fun _ _ _ h => h) hS0 rfl (fun w _ => by go_simp) ?_
            simp only [Act.put, List.getElem_toArray, List.getElem_cons_succ, List.getElem_cons_zero, List.setIfInBounds_toArray, List.set_cons_zero, List.set_cons_succ]
            refine held_take (i := 6) rfl (by kernel_rfl) (by kernel_rfl) (by kernel_rfl) (.int .i64 (k : Int)) (fun _ _ _ h => h) hS0 rfl (fun w _ => by go_simp) ?_
            simp only [Act.put, List.getElem_toArray, List.getElem_cons_succ, List.getElem_cons_zero, List.setIfInBounds_toArray, List.set_cons_zero, List.set_cons_succ]
            refine held_take (i := 7) rfl (by kernel_rfl) (by kernel_rfl) (by kernel_rfl) (.pointer (some ⟨g2, k, none⟩)) (fun _ _ _ h => h) hS0 rfl (fun w _ => by go_simp) ?_
            simp only [Act.put, List.getElem_toArray, List.getElem_cons_succ, List.getElem_cons_zero, List.setIfInBounds_toArray, List.set_cons_zero, List.set_cons_succ]
            refine held_load1 (i := 8) rfl (by kernel_rfl) (by kernel_rfl) (by kernel_rfl) (strV y) (fun _ _ _ h => h) hS0 rfl _ _ rfl ⟨g2, k, none⟩ rfl (load_str _ _) (fun w h => h.2) ?_
            simp only [Act.put, List.getElem_toArray, List.getElem_cons_succ, List.getElem_cons_zero, List.setIfInBounds_toArray, List.set_cons_zero, List.set_cons_succ]
            refine held_call (i := 4) (by kernel_rfl) rfl rfl 36 _ _ rfl (enter_of Tryz.func36 (by decide) (by intro h; cases h)) #[strV x] (by kernel_rfl) ?_
            refine (CX.out _).mono ?_
            rintro e w4 ⟨v1, rfl, hv1, hb4⟩
            have hb4' : Below wk.heap.size wk w4 := hD.trans (hb4.mono hD.size)
            have hS4 : (w4.cell? ⟨g1, k, none⟩ = some (strV x) ∧ w4.cell? ⟨g2, k, none⟩ = some (strV y)) := ⟨(hb4'.cell (p := ⟨g1, k, none⟩) g1l).trans cx, (hb4'.cell (p := ⟨g2, k, none⟩) g2l).trans cy⟩
            refine ⟨_, rfl, hS4, ?_⟩
            simp only [Act.put, List.getElem_toArray, List.getElem_cons_succ, List.getElem_cons_zero, List.setIfInBounds_toArray, List.set_cons_zero, List.set_cons_succ]
            refine held_call (i := 9) (by kernel_rfl) rfl rfl 36 _ _ rfl (enter_of Tryz.func36 (by decide) (by intro h; cases h)) #[strV y] (by kernel_rfl) ?_
            refine (CY.out _).mono ?_
            rintro e w5 ⟨v2, rfl, hv2, hb5⟩
            have hb5' : Below wk.heap.size wk w5 := hb4'.trans (hb5.mono hb4'.size)
            have hS5 : (w5.cell? ⟨g1, k, none⟩ = some (strV x) ∧ w5.cell? ⟨g2, k, none⟩ = some (strV y)) := ⟨(hb5'.cell (p := ⟨g1, k, none⟩) g1l).trans cx, (hb5'.cell (p := ⟨g2, k, none⟩) g2l).trans cy⟩
            refine ⟨_, rfl, hS5, ?_⟩
            simp only [Act.put, List.getElem_toArray, List.getElem_cons_succ, List.getElem_cons_zero, List.setIfInBounds_toArray, List.set_cons_zero, List.set_cons_succ]
            refine held_call (i := 10) (by kernel_rfl) rfl rfl 57 _ _ rfl (enter_of Tryz.func57 (by decide) (by intro h; cases h)) #[.int .i64 4, v1, v2] (by kernel_rfl) ?_
            refine (CS.out v1 v2 _ ((is_own hv1 rfl).below hb5) (is_own hv2 rfl)).mono ?_
            rintro e w6 ⟨rfl, hb6⟩
            have hb6' : Below wk.heap.size wk w6 := hb5'.trans (hb6.mono hb5'.size)
            have hS0 : (w6.cell? ⟨g1, k, none⟩ = some (strV x) ∧ w6.cell? ⟨g2, k, none⟩ = some (strV y)) := ⟨(hb6'.cell (p := ⟨g1, k, none⟩) g1l).trans cx, (hb6'.cell (p := ⟨g2, k, none⟩) g2l).trans cy⟩
            refine ⟨_, rfl, hS0, ?_⟩
            simp only [Act.put, List.getElem_toArray, List.getElem_cons_succ, List.getElem_cons_zero, List.setIfInBounds_toArray, List.set_cons_zero, List.set_cons_succ]
            refine held_take (i := 11) rfl (by kernel_rfl) (by kernel_rfl) (by kernel_rfl) (.tuple #[.bool r1, .int .i64 0]) (fun _ _ _ h => h) hS0 rfl (fun w _ => by go_simp) ?_
            simp only [Act.put, List.getElem_toArray, List.getElem_cons_succ, List.getElem_cons_zero, List.setIfInBounds_toArray, List.set_cons_zero, List.set_cons_succ]
            refine held_take (i := 12) rfl (by kernel_rfl) (by kernel_rfl) (by kernel_rfl) (.bool r1) (fun _ _ _ h => h) hS0 rfl (fun w _ => by go_simp) ?_
            simp only [Act.put, List.getElem_toArray, List.getElem_cons_succ, List.getElem_cons_zero, List.setIfInBounds_toArray, List.set_cons_zero, List.set_cons_succ]
            refine held_take (i := 13) rfl (by kernel_rfl) (by kernel_rfl) (by kernel_rfl) (.int .i64 0) (fun _ _ _ h => h) hS0 rfl (fun w _ => by go_simp) ?_
            simp only [Act.put, List.getElem_toArray, List.getElem_cons_succ, List.getElem_cons_zero, List.setIfInBounds_toArray, List.set_cons_zero, List.set_cons_succ]
            refine held_take (i := 14) rfl (by kernel_rfl) (by kernel_rfl) (by kernel_rfl) (.bool r1) (fun _ _ _ h => h) hS0 rfl (fun w _ => by go_simp) ?_
            simp only [Act.put, List.getElem_toArray, List.getElem_cons_succ, List.getElem_cons_zero, List.setIfInBounds_toArray, List.set_cons_zero, List.set_cons_succ]
            refine held_take (i := 15) rfl (by kernel_rfl) (by kernel_rfl) (by kernel_rfl) (.int .i64 0) (fun _ _ _ h => h) hS0 rfl (fun w _ => by go_simp) ?_
            simp only [Act.put, List.getElem_toArray, List.getElem_cons_succ, List.getElem_cons_zero, List.setIfInBounds_toArray, List.set_cons_zero, List.set_cons_succ]
            refine wpAnyH_done (by kernel_rfl) ?_ _
            have HB6 := Lib.hid (HBK.out.trans (hb6'.mono HBK.out.size))
            clear hS0 hS4 hS5 hD hb4 hb4' hb5 hb5' hb6 hb6' hv1 hv2 cx cy
            cases r1 with
            | true =>
              have HSM2 := Lib.hid (show ∀ j x y, j < k + 1 → xs[j]? = some x → ys[j]? = some y → SameP x y from fun j x' y' h1 h2 h3 => by
                by_cases e : j = k
                · subst e
                  rw [HX.out] at h2
                  rw [HY.out] at h3
                  obtain rfl : x = x' := by simpa using h2
                  obtain rfl : y = y' := by simpa using h3
                  exact HR1.out.1 rfl
                · exact HSM.out j x' y' (by omega) h2 h3)
              go_wp2_with fail
              go_roundw
              case rel => exact ⟨k + 1, hkl, by go_num, HSM2.out, HB6.out⟩
              case measure => (simp [intOf] <;> omega)
            | false =>
              have hrf : r = false := by
                cases r with
                | false => rfl
                | true => exact absurd (HR1.out.2 ((HI.out.1 rfl).2 k x y HX.out HY.out)) (by simp)
              subst hrf
              go_wp2_with fail
              go_ret2
              exact ⟨rfl, HB2.out.trans (HB6.out.mono HB2.out.size)⟩
          · have k1 : ¬ (k : Int) < (n1 : Int) := by omega
            have hrt : r = true := HI.out.2 ⟨by rw [← HN1.out, ← HN2.out]; exact HLN.out, fun j x y h1 h2 => HSM.out j x y (by have := (List.getElem?_eq_some_iff.1 h1).1; have := HN1.out; omega) h1 h2⟩
            subst hrt
            go_wp2_with fail
            go_ret2
            exact ⟨rfl, HB2.out.trans (HBK.out.mono HB2.out.size)⟩
      · have hlq : ((n1 : Int) == (n2 : Int)) = false := by
          rw [beq_eq_false_iff_ne]
          exact fun e => hln (by exact_mod_cast e)
        have hrf : r = false := by
          cases r with
          | false => rfl
          | true => exact absurd ((HI.out.1 rfl).1) (by rw [← HN1.out, ← HN2.out]; exact hln)
        subst hrf
        clear hln
        go_wp2_with fail
        go_ret2
        exact ⟨rfl, HB2.out⟩
    · have hse : sameE a b = stV b := by unfold sameE; rw [if_pos ha]
      rw [hse] at hr0 ⊢
      obtain rfl := hr0 hb
      generalize stV b = z at *
      have hq : (z != 0) = true := by simpa using hb
      clear hse hr0 hr1 hb ha
      have CA := Lib.hid CA
      have CB := Lib.hid CB
      go_enter Tryz.func28, Tryz.ntmps28
      go_wp2_with fail
      refine (CA.out _).mono ?_
      rintro e w1 ⟨rfl, hw⟩
      obtain rfl := hw.symm
      clear hw
      go_wp2_with fail
      refine (CB.out _).mono ?_
      rintro e w1 ⟨rfl, hw⟩
      obtain rfl := hw.symm
      clear hw
      go_wp2_with fail
      go_ret2
      exact ⟨rfl, Below.refl _ _⟩
  · have hse : sameE a b = stV a := by unfold sameE; rw [if_neg ha]
    rw [hse] at hr0 ⊢
    obtain rfl := hr0 ha
    generalize stV a = z at *
    have hq : (z != 0) = true := by simpa using ha
    have hq2 : (z == 0) = false := by simpa using ha
    clear hse hr0 hr1 ha
    have CA := Lib.hid CA
    go_enter Tryz.func28, Tryz.ntmps28
    go_wp2_with fail
    refine (CA.out _).mono ?_
    rintro e w1 ⟨rfl, hw⟩
    obtain rfl := hw.symm
    clear hw
    go_wp2_with fail
    go_ret2
    exact ⟨rfl, Below.refl _ _⟩
end Go.Proofs.YtmefpaoakblndaaGreatDoor
namespace Go.Proofs.YtmefpaoakblndaaGreatDoor
open Go.RowKit
set_option linter.unusedSimpArgs false
set_option maxHeartbeats 1000000 in
set_option maxRecDepth 100000 in
theorem stReduce_any (s : ByteArray) (hs : s.size ≤ maxLen) (w : World) (g : Glob w) : Calls Tryz.prog 25 #[.string s] w fun e w' => e = .returned (.tuple #[.string (redS s), .int .i64 (stV s)]) ∧ Below w.heap.size w w' := by
  by_cases hz : stV s = 0
  · have := Reduce_ok s hz (R12_all (st_ok hz).1) hs w g
    unfold redS
    rw [if_pos hz, hz]
    exact this
  · have CK := Lib.hid (fun W => stCheck_any s W hs)
    have hr : redS s = ByteArray.empty := by unfold redS; rw [if_neg hz]
    rw [hr]
    clear hr
    generalize stV s = z at *
    have hq : (z != 0) = true := by simpa using hz
    clear hz
    go_enter Tryz.func25, Tryz.ntmps25
    go_wp2_with fail
    refine (CK.out _).mono ?_
    rintro e w1 ⟨rfl, hw⟩
    obtain rfl := hw.symm
    clear hw
    go_wp2_with fail
    go_ret2
    exact ⟨rfl, Below.refl _ _⟩
theorem same_bool (a b : ByteArray) : ∃ r : Bool, (sameE a b ≠ 0 → r = false) ∧ (sameE a b = 0 → (r = true ↔ SameW a b)) := by
  by_cases h : sameE a b = 0 ∧ SameW a b
  · exact ⟨true, fun e => absurd h.1 e, fun _ => ⟨fun _ => h.2, fun _ => rfl⟩⟩
  · exact ⟨false, fun _ => rfl, fun e => ⟨fun k => (by cases k), fun k => absurd ⟨e, k⟩ h⟩⟩
set_option maxHeartbeats 4000000 in
set_option maxRecDepth 100000 in
theorem reduce_law (a b : ByteArray) (w : World) (g : Glob w) (ma : a.size ≤ maxLen) (mb : b.size ≤ maxLen) : Calls Tryz.prog 4 #[.string a, .string b] w fun e w' => e = .returned (.bool true) ∧ Below w.heap.size w w' := by
  have HG := Lib.hid g
  by_cases hA : 1000 < a.size
  · have a1 : (1000 : Int) < (a.size : Int) := by omega
    clear g
    go_enter Tryz.func4, Tryz.ntmps4
    go_wp2_with fail
    refine (shown_any _ (HG.out)).mono ?_
    rintro e ws ⟨rfl, hb⟩
    have BS := Lib.hid (hb)
    clear hb
    go_wp2_with fail
    go_ret
    exact ⟨by first | rfl | (simp; done), BS.out⟩
  · have a1 : ¬ (1000 : Int) < (a.size : Int) := by omega
    by_cases hB : 1000 < b.size
    · have b1 : (1000 : Int) < (b.size : Int) := by omega
      clear g
      go_enter Tryz.func4, Tryz.ntmps4
      go_wp2_with fail
      refine (shown_any _ (HG.out)).mono ?_
      rintro e ws ⟨rfl, hb⟩
      have BS := Lib.hid (hb)
      clear hb
      go_wp2_with fail
      go_ret
      exact ⟨by first | rfl | (simp; done), BS.out⟩
    · have b1 : ¬ (1000 : Int) < (b.size : Int) := by omega
      obtain ⟨r, hr0, hr1⟩ := same_bool a b
      have H1 := fun W g => stReduce_any a ma W g
      have H2 := fun W => refReduce_any a W
      have H3 := fun W g => stSame_any a b r hr0 hr1 ma mb W g
      have H4 := fun W => refSame3_any a b r hr0 hr1 W
      generalize redS a = R at *
      generalize stV a = z at *
      generalize sameE a b = y at *
      have H1 := Lib.hid H1
      have H2 := Lib.hid H2
      have H3 := Lib.hid H3
      have H4 := Lib.hid H4
      clear hr0 hr1 g
      go_enter Tryz.func4, Tryz.ntmps4
      go_wp2_with fail
      refine (H1.out _ HG.out).mono ?_
      rintro e w1 ⟨rfl, hb⟩
      have B1 := Lib.hid hb
      clear hb
      go_wp2_with fail
      refine (H2.out _).mono ?_
      rintro e w2 ⟨rfl, hb⟩
      have B2 := Lib.hid (B1.out.trans (hb.mono B1.out.size))
      clear hb
      go_wp2_with fail
      refine (H3.out _ (HG.out.next B2.out)).mono ?_
      rintro e w3 ⟨rfl, hb⟩
      have B3 := Lib.hid (B2.out.trans (hb.mono B2.out.size))
      clear hb
      go_wp2_with fail
      refine (H4.out _).mono ?_
      rintro e w4 ⟨rfl, hb⟩
      have B4 := Lib.hid (B3.out.trans (hb.mono B3.out.size))
      clear hb
      cases r with
      | true =>
        go_wp2_with fail
        refine (shown_any _ (HG.out.next B4.out)).mono ?_
        rintro e ws ⟨rfl, hb⟩
        have BS := Lib.hid (B4.out.trans (hb.mono B4.out.size))
        clear hb
        go_wp2_with fail
        go_ret
        exact ⟨by first | rfl | (simp; done), BS.out⟩
      | false =>
        go_wp2_with fail
        refine (shown_any _ (HG.out.next B4.out)).mono ?_
        rintro e ws ⟨rfl, hb⟩
        have BS := Lib.hid (B4.out.trans (hb.mono B4.out.size))
        clear hb
        go_wp2_with fail
        go_ret
        exact ⟨by first | rfl | (simp; done), BS.out⟩
end Go.Proofs.YtmefpaoakblndaaGreatDoor
namespace Go.Proofs.YtmefpaoakblndaaGreatDoor
open Go.ChangeShapes Go.WideShapes Go.ChangeAt Go.RowKit
theorem own : ownKnob Tryz.prog.godebug = none := by kernel_rfl
theorem gUsual : Tryz.prog.globalNamed "torchon/stitches.usual" = some 0 := by kernel_rfl
theorem tUsual : (Tryz.prog.globals[0]?).map (·.type) = some 64 := by kernel_rfl
theorem gAcc : Tryz.prog.globalNamed "unicode/utf8.acceptRanges" = some 3 := by kernel_rfl
/-- The great premise of every law's row. -/
def laidL : List (String × DataW Unit) := [("unicode/utf8.acceptRanges", Rows.laid_unicode_utf8_acceptRanges), ("torchon/stitches.usual", Rows.laid_torchon_stitches_usual), ("unicode/utf8.first", Rows.laid_unicode_utf8_first)]
theorem str_of {s : ByteArray} {l : List UInt8} (h : s.data.toList = l) : s = ⟨l.toArray⟩ := by
  apply ByteArray.ext
  rw [← h]
set_option maxRecDepth 100000 in
theorem stitch_cells {enc : TypeId × Value → Unit} {W : World} {base fuel : Nat} {spare : Bool} {held : Nat → Bool} {u v : Value} {a b : List UInt8} {y : DataW Unit × List MemPlace} (hy : y.1 = .agg [.lit (.string a), .lit (.string b)]) (h : DataW.trod enc Tryz.prog W base held spare fuel 63 [u, v] = some y) : u = .string ⟨a.toArray⟩ ∧ v = .string ⟨b.toArray⟩ := by
  have hc1 : Tryz.prog.cellsOf 9 = 1 := by kernel_rfl
  obtain ⟨y0, y1, n, e, _, g0, g1⟩ := trod_struct2 Tryz.underlying63 h
  simp [hc1] at g0 g1
  obtain ⟨s0, e0, f0, _⟩ := DataW.trod_string Tryz.underlying9 g0
  obtain ⟨s1, e1, f1, _⟩ := DataW.trod_string Tryz.underlying9 g1
  subst f0 f1
  rw [e] at hy
  simp only [DataW.agg.injEq, List.cons.injEq, DataW.lit.injEq, Lit.string.injEq, and_true] at hy
  rw [(List.cons.inj e0).1, (List.cons.inj e1).1, str_of hy.1, str_of hy.2]
  exact ⟨rfl, rfl⟩
set_option maxHeartbeats 2000000 in
set_option maxRecDepth 100000 in
theorem glob_of_laid {W : World} (h : laidMetH Tryz.prog laidL W) (hs : W.ShapedOpen Tryz.prog) : Glob W := by
  rw [MakeChecks.laidMetH_plain _ _ _ (by kernel_rfl)] at h
  have h1 : laidMet Tryz.prog [("unicode/utf8.acceptRanges", Rows.laid_unicode_utf8_acceptRanges), ("torchon/stitches.usual", Rows.laid_torchon_stitches_usual), ("unicode/utf8.first", Rows.laid_unicode_utf8_first)] W := h
  have hsz : 3 < W.heap.size := by
    obtain ⟨ps, ⟨g, t, cs, fuel, p, q, hg, ht, hv2, _⟩, _, _⟩ := h1
    obtain rfl := Option.some.inj (gAcc.symm.trans hg)
    unfold World.var? at hv2
    rw [hg] at hv2
    simp only [Option.bind_some] at hv2
    rcases Nat.lt_or_ge 3 W.heap.size with h' | h'
    · exact h'
    · simp [Array.getElem?_eq_none h'] at hv2
  obtain ⟨ps, ⟨g, t, cs, fuel, p, q, hg, ht, hv, hd, _⟩, _, _⟩ := h1.tail
  obtain rfl := Option.some.inj (gUsual.symm.trans hg)
  obtain rfl := Option.some.inj (tUsual.symm.trans ht)
  have hc2 : Tryz.prog.cellsOf 63 = 2 := by kernel_rfl
  have hc16 : Tryz.prog.cellsOf 64 = 16 := by kernel_rfl
  obtain ⟨xs, m, _, ex, hln, hl, hel⟩ := DataW.trod_array Tryz.underlying64 hd
  have ex2 := DataW.agg.inj (Prod.mk.inj ex).1
  have hcs : cs = usualC.toArray := by
    obtain ⟨l⟩ := cs
    simp only at hln hel
    rw [hc16] at hln
    match l, hln with
    | [u0, u1, u2, u3, u4, u5, u6, u7, u8, u9, u10, u11, u12, u13, u14, u15], _ =>
      match xs, hl with
      | [y0, y1, y2, y3, y4, y5, y6, y7], _ =>
        simp only [List.map_cons, List.map_nil, List.cons.injEq, and_true] at ex2
        obtain ⟨x0, x1, x2, x3, x4, x5, x6, x7⟩ := ex2
        have g0 := hel 0 (by decide)
        simp [hc2] at g0
        obtain ⟨p0, q0⟩ := stitch_cells x0.symm g0
        have g1 := hel 1 (by decide)
        simp [hc2] at g1
        obtain ⟨p1, q1⟩ := stitch_cells x1.symm g1
        have g2 := hel 2 (by decide)
        simp [hc2] at g2
        obtain ⟨p2, q2⟩ := stitch_cells x2.symm g2
        have g3 := hel 3 (by decide)
        simp [hc2] at g3
        obtain ⟨p3, q3⟩ := stitch_cells x3.symm g3
        have g4 := hel 4 (by decide)
        simp [hc2] at g4
        obtain ⟨p4, q4⟩ := stitch_cells x4.symm g4
        have g5 := hel 5 (by decide)
        simp [hc2] at g5
        obtain ⟨p5, q5⟩ := stitch_cells x5.symm g5
        have g6 := hel 6 (by decide)
        simp [hc2] at g6
        obtain ⟨p6, q6⟩ := stitch_cells x6.symm g6
        have g7 := hel 7 (by decide)
        simp [hc2] at g7
        obtain ⟨p7, q7⟩ := stitch_cells x7.symm g7
        subst p0 q0 p1 q1 p2 q2 p3 q3 p4 q4 p5 q5 p6 q6 p7 q7
        rfl
  subst hcs
  unfold World.var? at hv
  rw [hg] at hv
  simp only [Option.bind_some] at hv
  split at hv
  · rename_i cs' t' fr' he
    obtain rfl := Option.some.inj hv
    exact ⟨⟨_, _, he⟩, Tryz.laysM146.s1_3 W hs, hsz⟩
  · cases hv
variable {H : Type} {enc : TypeId × Value → H}
set_option maxRecDepth 100000 in
/-- The wrap of a row that lists variables, with the world's shape handed on. -/
theorem wrap {os : Os} {f : FuncId} {fn : Func} {s : ChangeSpec} (started : os.Started) (noInit : Tryz.checked.prog.inits.idxOf? f = none) (hfn : Tryz.checked.prog.funcs[f]? = some fn)
    (witness : ∃ (w : World) (tape : Tape) (i : Input), w.os = os ∧ (w.forCall tape i).Shaped Tryz.checked.prog ∧ i.vars = [] ∧ Input.okWide Tryz.checked.prog (w.forCall tape i) .any w.heap.size f i ∧
      ((s.pre enc Tryz.checked.prog fn [] false (w.forCall tape i).memory i.args ∧ laidMetH Tryz.prog laidL (w.forCall tape i).memory) ∧ sizedMet enc Tryz.checked.prog fn (OpenSpec.ofChange s) false (w.forCall tape i).memory i.args) ∧ Assume.holds {} Tryz.checked.prog (lone (Frame.enter Tryz.checked.prog f i.args .normal) [] (w.forCall tape i)))
    (contract : ∀ (W : World) (base : Nat) (args : Array Value) (ds gs : List (DataW H)) (before : List MemPlace),
      (∀ (j : Nat) t v, fn.params[j]? = some t → args[j]? = some v → Value.okWide Tryz.prog W .any base t v) →
      DataW.Whole enc Tryz.prog fn.params.toList s.vars false W args.toList ds gs before → Glob W →
      Calls Tryz.prog f args W fun e W' => ∃ v, e = .returned v ∧ s.post enc Tryz.prog fn false true false false W args v W') :
    ReturnsInHanded {} Tryz.checked os f .any (fun w args => (s.pre enc Tryz.prog fn [] false w args ∧ laidMetH Tryz.prog laidL w) ∧ sizedMet enc Tryz.prog fn (OpenSpec.ofChange s) false w args) (s.post enc Tryz.prog fn false true false false) := by
  refine returnsInHanded_of_calls own started noInit witness ?_
  intro w tape i _ hsh _ hok hpre _
  obtain ⟨_, _, _, fn', hfn', _, _, _, _, hval⟩ := hok
  have e : fn' = fn := Option.some.inj (hfn'.symm.trans hfn)
  subst e
  obtain ⟨⟨⟨ds, gs, before, hw, _⟩, hl⟩, _⟩ := hpre
  have hw' := DataW.Whole.of_heap (w' := w.forCall tape i) (by rfl) hw
  refine (contract (w.forCall tape i) w.heap.size i.args ds gs before hval hw' (glob_of_laid (hl.of_heap (by rfl)) hsh)).mono fun e W' ⟨v, he, hp⟩ => ?_
  subst he
  exact ChangeSpec.post_blind hp
end Go.Proofs.YtmefpaoakblndaaGreatDoor
