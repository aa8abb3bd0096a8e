/- The reference's Int. -/
import Derived.Test.YtkbmdmipdcjjcaaGreatDoorNM
namespace Go.Proofs.YtkbmdmipdcjjcaaGreatDoor
open Go.RowKit

theorem take_head (l : List UInt8) (k : Nat) (hk : 1 ≤ k) : (l.take k).head? = l.head? := by
  cases l with
  | nil => simp
  | cons a r => cases k with
    | zero => omega
    | succ k => simp
theorem sv_step (l : List UInt8) (k : Nat) (c : UInt8) (hk : 1 ≤ k ∨ ¬ l.head? = some 45) (hl : k < l.length) (hc : l[k] = c) (h48 : 48 ≤ c.toNat) (h57 : c.toNat ≤ 57) :
    sv (l.take (k + 1)) = 10 * sv (l.take k) + (if l.head? = some 45 then -((c.toNat : Int) - 48) else (c.toNat : Int) - 48) ∧ (l.head? = some 45 → sv (l.take k) ≤ 0) ∧ (¬ l.head? = some 45 → 0 ≤ sv (l.take k)) := by
  have e : l.take (k + 1) = l.take k ++ [c] := by rw [List.take_add_one, List.getElem?_eq_getElem hl, hc]; rfl
  by_cases hh : l.head? = some 45
  · have hk1 : 1 ≤ k := hk.elim id (fun h => absurd hh h)
    rw [if_pos hh]
    unfold sv
    rw [take_head l (k + 1) (by omega), take_head l k hk1, if_pos hh, if_pos hh, e]
    have hne : l.take k ≠ [] := by
      intro e0
      have := congrArg List.length e0
      rw [List.length_take, List.length_nil] at this
      omega
    rw [List.tail_append_of_ne_nil hne, numV_snoc]
    refine ⟨by omega, fun _ => by omega, fun h => absurd hh h⟩
  · rw [if_neg hh]
    have h1 : ¬ (l.take (k + 1)).head? = some 45 := by rw [take_head l (k + 1) (by omega)]; exact hh
    have h2 : ¬ (l.take k).head? = some 45 := by
      cases k with
      | zero => simp
      | succ k => rw [take_head l (k + 1) (by omega)]; exact hh
    unfold sv
    rw [if_neg h1, if_neg h2, e, numV_snoc]
    exact ⟨by omega, fun h => absurd h hh, fun _ => by omega⟩
theorem fit_take {l : List UInt8} (h : fitB l = true) (k : Nat) : fitB (l.take k) = true := by
  unfold fitB at h ⊢
  simp only [Bool.and_eq_true, decide_eq_true_eq] at h ⊢
  have hsp : l = l.take k ++ l.drop k := (List.take_append_drop k l).symm
  cases k with
  | zero => simp [sv, numV]
  | succ k =>
    unfold sv at h ⊢
    rw [take_head l (k + 1) (by omega)]
    by_cases hh : l.head? = some 45
    · rw [if_pos hh] at h ⊢
      have hle : numV (l.take (k + 1)).tail ≤ numV l.tail := by
        cases l with
        | nil => simp at hh
        | cons a r =>
          have := numV_app (r.take k) (r.drop k)
          rw [List.take_append_drop] at this
          simpa using this
      omega
    · rw [if_neg hh] at h ⊢
      have hle := numV_app (l.take (k + 1)) (l.drop (k + 1))
      rw [List.take_append_drop] at hle
      omega
theorem whole_dig {l : List UInt8} (h : wholeB l = true) (k : Nat) (hk : k < l.length) : (k = 0 ∧ l.head? = some 45 ∧ l[k] = 45) ∨ ((48 ≤ l[k].toNat ∧ l[k].toNat ≤ 57) ∧ (1 ≤ k ∨ ¬ l.head? = some 45)) := by
  have key : ∀ (m : List UInt8), numB m = true → ∀ b ∈ m, 48 ≤ b.toNat ∧ b.toNat ≤ 57 := by
    intro m hm b hb
    have hw := (numB_parts hm).2
    unfold withinB at hw
    have := List.all_eq_true.1 hw b hb
    simp [inB] at this; omega
  rcases whole_cases h with ⟨ds, rfl, h1, _⟩ | ⟨h1, h2⟩
  · cases k with
    | zero => exact .inl ⟨rfl, rfl, rfl⟩
    | succ k => exact .inr ⟨key ds h1 _ (by simp), .inl (by omega)⟩
  · exact .inr ⟨key l h1 _ (List.getElem_mem _), .inr h2⟩
theorem sget (s : ByteArray) (k : Nat) (h : k < s.size) : s.data.toList[k]'(by rw [size_len]; exact h) = s[k] := by simp; rfl
theorem shead (s : ByteArray) (h : 0 < s.size) : s.data.toList.head? = some s[0] := by
  rw [List.head?_eq_getElem?, List.getElem?_eq_getElem (by rw [size_len]; exact h), sget s 0 h]
theorem dig_yes {c : UInt8} (h0 : 48 ≤ c.toNat) (h1 : c.toNat ≤ 57) : digB c.toNat = true := by unfold digB; simp; omega
theorem dig_no {c : UInt8} (h : c = 45) : digB c.toNat = false := by subst h; rfl

theorem wrap_rng (a : Int) : -9223372036854775808 ≤ wrap64 a ∧ wrap64 a ≤ 9223372036854775807 := by unfold wrap64; omega
theorem wrap_in (a : Int) (h0 : -9223372036854775808 ≤ a) (h1 : a ≤ 9223372036854775807) : wrap64 a = a := by unfold wrap64; omega
theorem wrap_neg {x y : Int} {c : Nat} {f : Prop} (_h0 : -9223372036854775808 ≤ x) (_h1 : x ≤ 9223372036854775807) (h48 : 48 ≤ c) (h57 : c ≤ 57)
    (h : f → y = 10 * x + -((c : Int) - 48) ∧ x ≤ 0 ∧ -9223372036854775808 ≤ y) :
    -9223372036854775808 ≤ wrap64 (wrap64 (10 * x) + -((c : Int) - 48)) ∧ wrap64 (wrap64 (10 * x) + -((c : Int) - 48)) ≤ 9223372036854775807 ∧ (f → wrap64 (wrap64 (10 * x) + -((c : Int) - 48)) = y) := by
  refine ⟨(wrap_rng _).1, (wrap_rng _).2, fun hf => ?_⟩
  obtain ⟨h1, h2, h3⟩ := h hf
  rw [wrap_in (10 * x) (by omega) (by omega), wrap_in _ (by omega) (by omega)]
  omega
theorem wrap_pos {x y : Int} {c : Nat} {f : Prop} (_h0 : -9223372036854775808 ≤ x) (_h1 : x ≤ 9223372036854775807) (h48 : 48 ≤ c) (h57 : c ≤ 57)
    (h : f → y = 10 * x + ((c : Int) - 48) ∧ 0 ≤ x ∧ y ≤ 9223372036854775807) :
    -9223372036854775808 ≤ wrap64 (wrap64 (10 * x) + ((c : Int) - 48)) ∧ wrap64 (wrap64 (10 * x) + ((c : Int) - 48)) ≤ 9223372036854775807 ∧ (f → wrap64 (wrap64 (10 * x) + ((c : Int) - 48)) = y) := by
  refine ⟨(wrap_rng _).1, (wrap_rng _).2, fun hf => ?_⟩
  obtain ⟨h1, h2, h3⟩ := h hf
  rw [wrap_in (10 * x) (by omega) (by omega), wrap_in _ (by omega) (by omega)]
  omega

set_option maxHeartbeats 1000000 in
theorem refInt_whole (s : ByteArray) (lo hi : Int) (w : World) (hlh : ¬ hi < lo) (hs : s.size ≤ 20) (h : wholeB s.data.toList = true) :
    Calls Tryz.prog 27 #[.string s, .int .i64 lo, .int .i64 hi] w fun e w' => e = .returned (.tuple #[.int .i64 (intP s.data.toList lo hi).1, .int .i64 (intP s.data.toList lo hi).2]) ∧ Below w.heap.size w w' := by
  have hW := whole_any s w (by unfold maxLen; omega)
  rw [h] at hW
  have HW := Lib.hid hW
  have HH := Lib.hid h
  obtain ⟨I, hI⟩ : ∃ I, intP s.data.toList lo hi = I := ⟨_, rfl⟩
  rw [hI]
  rw [intP_whole h hlh] at hI
  have HI := Lib.hid hI
  have hl := size_len s
  have hpos : 0 < s.size := by
    rcases Nat.eq_zero_or_pos s.size with h0 | h0
    · have : s.data.toList = [] := List.eq_nil_of_length_eq_zero (by omega)
      rw [this] at h; cases h
    · exact h0
  clear hW h hI
  go_enter Tryz.func27, Tryz.ntmps27
  go_wp2_with (go_at_call 47; refine HW.out.mono ?_; rintro e w' ⟨rfl, rfl⟩)
  go_loop [8, 9] (fun n i => ∃ (k : Nat) (x : Int), k ≤ s.size ∧ i = .int .i64 k ∧ n = .int .i64 x ∧ -9223372036854775808 ≤ x ∧ x ≤ 9223372036854775807 ∧ (fitB s.data.toList = true → x = sv (s.data.toList.take k))) (fun _ i => s.size - (intOf i).toNat)
  case atStart => exact ⟨0, 0, by omega, rfl, rfl, by omega, by omega, fun _ => by simp [sv, numV]⟩
  case round =>
    obtain ⟨k, x, hk, rfl, rfl, hx0, hx1, hfit⟩ := hrel
    have HF := Lib.hid hfit
    clear hfit
    by_cases hlt : k < s.size
    · rcases whole_dig HH.out k (by omega) with ⟨rfl, hh, hc⟩ | ⟨⟨h48, h57⟩, hk1⟩
      · rw [sget s 0 hlt] at hc
        have hd := dig_no hc
        have hs1 : sv (s.data.toList.take (0 + 1)) = sv (s.data.toList.take 0) := by
          have e := shead s hlt
          rw [hc] at e
          unfold sv
          rw [take_head _ _ (by omega), if_pos e]
          have : (s.data.toList.take (0 + 1)).tail = [] := by cases s.data.toList <;> simp
          rw [this]; simp [numV]
        have HS := Lib.hid hs1
        clear hs1 hh
        go_wp2_with (go_at_call 48; refine (digit_any _ _).mono ?_; rw [show digB 45 = false from rfl]; rintro e w' ⟨rfl, rfl⟩)
        go_roundw
        case rel => exact ⟨1, x, by omega, by go_num, rfl, hx0, hx1, fun hf => by rw [HF.out hf]; exact HS.out.symm⟩
        case measure => simp [intOf]; omega
      · rw [sget s k hlt] at h48 h57
        have hd := dig_yes h48 h57
        obtain ⟨q1, q2, q3⟩ := sv_step s.data.toList k s[k] hk1 (by omega) (sget s k hlt) h48 h57
        have hf2 := fun hf => fit_take (l := s.data.toList) hf (k + 1)
        have Q1 := Lib.hid q1
        have Q2 := Lib.hid q2
        have Q3 := Lib.hid q3
        have HF2 := Lib.hid hf2
        have HK := Lib.hid hk1
        clear q1 q2 q3 hf2 hk1
        have c0 : (48 : Int) ≤ s[k].toNat := by omega
        have c1 : (s[k].toNat : Int) ≤ 57 := by omega
        by_cases hn : ((s[0]'hpos).toNat : Int) = 45
        · have hh : s.data.toList.head? = some 45 := by rw [shead s hpos]; congr 1; exact UInt8.toNat.inj (by show _ = 45; omega)
          have HD := Lib.hid (wrap_neg (x := x) (c := s[k].toNat) (y := sv (s.data.toList.take (k + 1))) (f := fitB s.data.toList = true) hx0 hx1 h48 h57
            (fun hf => by have hq := Q1.out; rw [if_pos hh] at hq; have hx := HF.out hf; have h0 := Q2.out hh; have hb := HF2.out hf; unfold fitB at hb; simp only [Bool.and_eq_true, decide_eq_true_eq] at hb; rw [hx]; exact ⟨hq, h0, hb.1⟩))
          clear hh
          go_wp2_with (go_at_call 48; refine (digit_any _ _).mono ?_; rw [hd]; rintro e w' ⟨rfl, rfl⟩)
          go_roundw
          case rel => exact ⟨k + 1, _, by omega, by go_num, rfl, HD.out.1, HD.out.2.1, HD.out.2.2⟩
          case measure => simp [intOf]; omega
        · have hh : ¬ s.data.toList.head? = some 45 := by rw [shead s hpos]; intro e; have e2 := Option.some.inj e; rw [e2] at hn; exact hn rfl
          have hn' : ((((s[0]'hpos).toNat : Int)) == 45) = false := by simpa using hn
          have HD := Lib.hid (wrap_pos (x := x) (c := s[k].toNat) (y := sv (s.data.toList.take (k + 1))) (f := fitB s.data.toList = true) hx0 hx1 h48 h57
            (fun hf => by have hq := Q1.out; rw [if_neg hh] at hq; have hx := HF.out hf; have h0 := Q3.out hh; have hb := HF2.out hf; unfold fitB at hb; simp only [Bool.and_eq_true, decide_eq_true_eq] at hb; rw [hx]; exact ⟨hq, h0, hb.2⟩))
          clear hh
          go_wp2_with (go_at_call 48; refine (digit_any _ _).mono ?_; rw [hd]; rintro e w' ⟨rfl, rfl⟩)
          go_roundw
          case rel => exact ⟨k + 1, _, by omega, by go_num, rfl, HD.out.1, HD.out.2.1, HD.out.2.2⟩
          case measure => simp [intOf]; omega
    · have htk : s.data.toList.take k = s.data.toList := List.take_of_length_le (by omega)
      have hit := whole_itoa HH.out
      have hDg := refDigits_any x w (by omega) (by omega)
      have hxs := HF.out
      rw [htk] at hxs
      have hsx : (Lib.itoa x = s.data.toList) ↔ fitB s.data.toList = true := by
        refine ⟨fun e => ?_, fun e => by rw [hxs e]; exact hit⟩
        have := congrArg sv e
        rw [sv_itoa] at this
        unfold fitB
        rw [← this]
        simp; omega
      have hI := HI.out
      obtain ⟨T, hT⟩ : ∃ T, (⟨(Lib.itoa x).toArray⟩ : ByteArray) = T := ⟨_, rfl⟩
      have hTl : T.toList = Lib.itoa x := by rw [← hT, toList_data]
      rw [hT] at hDg
      have HDg := Lib.hid hDg
      clear hDg hT htk hit
      cases hf : fitB s.data.toList with
      | false =>
        have hne : (T.toList == s.toList) = false := by
          rw [hTl, toList_data, beq_eq_false_iff_ne]
          intro e
          rw [hsx.1 e] at hf
          cases hf
        have hne2 : ¬ T.toList = s.toList := by rw [beq_eq_false_iff_ne] at hne; exact hne
        rw [hf] at hI
        simp only [Bool.false_and, Bool.false_eq_true, if_false] at hI
        have HI2 := Lib.hid hI
        clear hI hf hsx hxs hTl
        go_wp2_with (go_at_call 26; refine HDg.out.mono ?_; rintro e w' ⟨rfl, hb⟩)
        go_ret2
        exact ⟨by rw [← HI2.out]; rfl, hb⟩
      | true =>
        have heq : T.toList = s.toList := by rw [hTl, toList_data]; exact hsx.2 hf
        rw [hf, ← hxs hf] at hI
        have HI2 := Lib.hid hI
        clear hI hf hsx hxs hTl
        by_cases h1 : x < lo
        · go_wp2_with (go_at_call 26; refine HDg.out.mono ?_; rintro e w' ⟨rfl, hb⟩)
          go_ret2
          exact ⟨by rw [← HI2.out, if_neg (by simp; omega)]; rfl, hb⟩
        · by_cases h2 : hi < x
          · go_wp2_with (go_at_call 26; refine HDg.out.mono ?_; rintro e w' ⟨rfl, hb⟩)
            go_ret2
            exact ⟨by rw [← HI2.out, if_neg (by simp; omega)]; rfl, hb⟩
          · go_wp2_with (go_at_call 26; refine HDg.out.mono ?_; rintro e w' ⟨rfl, hb⟩)
            go_ret2
            exact ⟨by rw [← HI2.out, if_pos (by simp; omega)]; rfl, hb⟩

set_option maxHeartbeats 400000 in
theorem refInt_any (s : ByteArray) (lo hi : Int) (w : World) (hs : s.size ≤ maxLen) :
    Calls Tryz.prog 27 #[.string s, .int .i64 lo, .int .i64 hi] w fun e w' => e = .returned (.tuple #[.int .i64 (intP s.data.toList lo hi).1, .int .i64 (intP s.data.toList lo hi).2]) ∧ Below w.heap.size w w' := by
  by_cases hlh : hi < lo
  · have hI : intP s.data.toList lo hi = (0, 2) := by unfold intP; rw [if_pos hlh]
    rw [hI]
    clear hI
    go_enter Tryz.func27, Tryz.ntmps27
    go_wp2_with fail
    go_ret2
    exact ⟨rfl, Below.refl _ _⟩
  · have hW := whole_any s w hs
    cases h : wholeB s.data.toList with
    | false =>
      rw [h] at hW
      have HW := Lib.hid hW
      rw [intP_not h hlh]
      clear h hW
      go_enter Tryz.func27, Tryz.ntmps27
      go_wp2_with (go_at_call 47; refine HW.out.mono ?_; rintro e w' ⟨rfl, rfl⟩)
      go_ret2
      exact ⟨rfl, Below.refl _ _⟩
    | true =>
      by_cases h20 : s.size ≤ 20
      · exact refInt_whole s lo hi w hlh h20 h
      · have hf := whole_long h (by rw [size_len]; omega)
        have hI : intP s.data.toList lo hi = (0, 7) := by rw [intP_whole h hlh, hf]; rfl
        rw [h] at hW
        have HW := Lib.hid hW
        rw [hI]
        unfold maxLen at hs
        clear h hW hf hI
        go_enter Tryz.func27, Tryz.ntmps27
        go_wp2_with (go_at_call 47; refine HW.out.mono ?_; rintro e w' ⟨rfl, rfl⟩)
        go_ret2
        exact ⟨rfl, Below.refl _ _⟩
theorem dec_head (K : Nat) : ∀ u : Nat, u ≤ K → 1 ≤ u → ¬ (Lib.decDigits u).head? = some 48 := by
  induction K with
  | zero => intro u hu h1; omega
  | succ K ih =>
    intro u hu h1
    by_cases h : u < 10
    · rw [dec_small u h]
      intro e
      have e2 : UInt8.ofNat (48 + u) = 48 := by simpa using e
      have := congrArg UInt8.toNat e2
      rw [dig_nat u h] at this
      have h48 : (48 : UInt8).toNat = 48 := rfl
      omega
    · rw [dec_big u h]
      have hi := ih (u / 10) (by omega) (by omega)
      cases hd : Lib.decDigits (u / 10) with
      | nil => have := numV_dec _ (u / 10) (Nat.le_refl _); rw [hd] at this; simp [numV] at this; omega
      | cons a r => rw [hd] at hi; simpa using hi
theorem dec_le (K : Nat) : ∀ u : Nat, u ≤ K → ∀ b ∈ Lib.decDigits u, b.toNat ≤ 57 := by
  induction K with
  | zero =>
    intro u hu b hb
    obtain rfl : u = 0 := by omega
    rw [dec_small 0 (by omega)] at hb
    simp at hb; subst hb; decide
  | succ K ih =>
    intro u hu b hb
    by_cases h : u < 10
    · rw [dec_small u h] at hb
      have hb' : b = UInt8.ofNat (48 + u) := by simpa using hb
      rw [hb', dig_nat u h]; omega
    · rw [dec_big u h, dec_small (u % 10) (by omega), List.mem_append] at hb
      rcases hb with hb | hb
      · exact ih (u / 10) (by omega) b hb
      · have hb' : b = UInt8.ofNat (48 + u % 10) := by simpa using hb
        rw [hb', dig_nat _ (by omega)]; omega
theorem dec_numB (u : Nat) : numB (Lib.decDigits u) = true := by
  have hw : withinB 48 57 (Lib.decDigits u) = true := by
    unfold withinB
    rw [List.all_eq_true]
    intro b hb
    have h1 := dec_ge u u (Nat.le_refl _) b hb
    have h2 := dec_le u u (Nat.le_refl _) b hb
    unfold inB; simp; omega
  rcases Nat.eq_zero_or_pos u with h0 | h0
  · subst h0; rw [dec_small 0 (by omega)]; rfl
  · have hh := dec_head u u (Nat.le_refl _) h0
    unfold numB
    rw [hw]
    cases hd : Lib.decDigits u with
    | nil => have := numV_dec _ u (Nat.le_refl _); rw [hd] at this; simp [numV] at this; omega
    | cons a r =>
      rw [hd] at hh
      have ha : a ≠ 48 := fun e => hh (by rw [e]; rfl)
      simp [ha]
theorem itoa_whole (n : Int) : wholeB (Lib.itoa n) = true := by
  unfold wholeB
  rw [trim_neg]
  by_cases h : n < 0
  · obtain ⟨m, rfl⟩ : ∃ m : Nat, n = -(m : Int) := ⟨n.natAbs, by omega⟩
    rw [Lib.itoa_neg m (by omega), List.head?_cons, if_pos rfl, List.tail_cons, dec_numB m]
    have : ¬ (45 :: Lib.decDigits m) = [45, 48] := by
      intro e
      have e2 := (List.cons.inj e).2
      have := numV_dec _ m (Nat.le_refl _)
      rw [e2] at this
      have h0 : numV [48] = 0 := rfl
      omega
    simp [this]
  · obtain ⟨m, rfl⟩ : ∃ m : Nat, n = (m : Int) := ⟨n.toNat, by omega⟩
    rw [Lib.itoa_nonneg]
    have hn : ¬ (Lib.decDigits m).head? = some 45 := by
      intro e
      have hm := List.mem_of_mem_head? (by rw [e]; rfl : (45 : UInt8) ∈ (Lib.decDigits m).head?)
      have := dec_ge m m (Nat.le_refl _) _ hm
      exact absurd this (by decide)
    rw [if_neg hn, dec_numB m]
    have : ¬ Lib.decDigits m = [45, 48] := fun e => hn (by rw [e]; rfl)
    simp [this]
theorem int_digits (n : Int) (h0 : -9223372036854775808 ≤ n) (h1 : n ≤ 9223372036854775807) : intP (Lib.itoa n) (-9223372036854775808) 9223372036854775807 = (n, 0) := by
  rw [intP_whole (itoa_whole n) (by omega), sv_itoa]
  have hf : fitB (Lib.itoa n) = true := by unfold fitB; rw [sv_itoa]; simp; omega
  rw [hf, if_pos (by simp; omega)]
end Go.Proofs.YtkbmdmipdcjjcaaGreatDoor
