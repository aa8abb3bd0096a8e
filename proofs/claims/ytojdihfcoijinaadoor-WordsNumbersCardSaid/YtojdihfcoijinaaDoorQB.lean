/- The law of quotes. -/
import Derived.Test.YtojdihfcoijinaaDoorQA
import Derived.Test.YtojdihfcoijinaaDoorY
namespace Go.Proofs.YtojdihfcoijinaaDoor
open Go.RowKit

theorem Unquote_any (s : ByteArray) (w : World) (g : Glob w) (hs : s.size < 4294967281) :
    Calls Tryd.prog 24 #[.string s] w fun e w' => e = .returned (.tuple #[.string ⟨(refU s.data.toList).1.toArray⟩, .int .i64 (refU s.data.toList).2]) ∧ Below w.heap.size w w' := by
  unfold refU
  cases h : unqB s.data.toList with
  | true => exact Unquote_yes s w g hs h
  | false => exact Unquote_no s w g hs h
theorem ba_eq (s : ByteArray) : (⟨s.data.toList.toArray⟩ : ByteArray) = s := by
  cases s; simp
theorem quote_le (l : List UInt8) : (quoteL l).length ≤ 2 * l.length + 2 := by
  rw [quote_len]; have := dblL_length l; omega
theorem unq_back (l : List UInt8) (h : textB l = true) : refU (quoteL l) = (l, 0) := by
  unfold refU; rw [unqB_quote, h, unq_quote]; rfl
theorem data_mk (l : List UInt8) : (⟨l.toArray⟩ : ByteArray).data.toList = l := rfl

set_option maxHeartbeats 1000000 in
theorem quotes_any (s : ByteArray) (w : World) (g : Glob w) (hs : s.size ≤ maxLen) :
    Calls Tryd.prog 7 #[.string s] w fun e w' => e = .returned (.bool true) ∧ Below w.heap.size w w' := by
  have hm := hs
  unfold maxLen at hs
  by_cases h : 20000 < s.size
  · go_enter Tryd.func7, Tryd.ntmps7
    go_wp2_with (go_at_call 10; refine (shown_any _ g).mono ?_; rintro e w1 ⟨rfl, hb1⟩)
    go_ret
    exact ⟨rfl, hb1⟩
  · have hlen := size_len s
    have hql : (⟨(quoteL s.data.toList).toArray⟩ : ByteArray).size < 4294967281 := by
      have := quote_le s.data.toList; rw [← size_len]; simp only; omega
    have hU := fun w g => Unquote_any s w g (by omega)
    have hR := fun w => refUnquote_any s w (by omega)
    have hB := fun (ht : textB s.data.toList = true) w g => Unquote_any ⟨(quoteL s.data.toList).toArray⟩ w g hql
    have hF : unqB s.data.toList = true → ∀ w, Glob w → Calls Tryd.prog 22 #[.string ⟨(unqT s.data.toList).toArray⟩] w fun e w' => e = .returned (.tuple #[.string s, .int .i64 0]) ∧ Below w.heap.size w w' := by
      intro hb w g
      obtain ⟨h1, h2⟩ := unqB_yes hb
      have hul : (⟨(unqT s.data.toList).toArray⟩ : ByteArray).size < 4294967281 := by
        have h3 := congrArg List.length h2
        rw [quote_len] at h3
        have h4 := dbl_ge (unqT s.data.toList)
        rw [← size_len]; simp only; omega
      have := Quote_yes ⟨(unqT s.data.toList).toArray⟩ w g hul h1
      rwa [data_mk, h2, ba_eq] at this
    obtain ⟨QS, hQ⟩ : ∃ Q, (⟨(quoteL s.data.toList).toArray⟩ : ByteArray) = Q := ⟨_, rfl⟩
    obtain ⟨US, hUS⟩ : ∃ U, (⟨(unqT s.data.toList).toArray⟩ : ByteArray) = U := ⟨_, rfl⟩
    have hsh := fun w g => shown_any w g
    have HS := Lib.hid hsh
    clear hsh
    cases ht : textB s.data.toList with
    | true =>
      have q1 := fun w g => Quote_yes s w g (by omega) ht
      have q2 := fun w => refQuote_yes s w (by omega) ht
      have hB := hB ht
      simp only [unq_back _ ht, ba_eq] at hB
      rw [hQ] at q1 q2 hB
      have Q1 := Lib.hid q1
      have Q2 := Lib.hid q2
      have Q5 := Lib.hid hB
      clear q1 q2 hB
      cases hu : unqB s.data.toList with
      | true =>
        have hF := hF hu
        unfold refU at hU hR
        rw [hu] at hU hR
        simp only [if_true] at hU hR
        rw [hUS] at hU hR hF
        have Q3 := Lib.hid hU
        have Q4 := Lib.hid hR
        have Q6 := Lib.hid hF
        clear hU hR hF hQ hUS ht hu hql hlen
        go_enter Tryd.func7, Tryd.ntmps7
        go_wp2_with (first
          | (go_at_call 10; refine (HS.out _ g6).mono ?_; rintro e w7 ⟨rfl, hb7⟩)
          | (go_at_call 22; refine (Q6.out _ g5).mono ?_; rintro e w6 ⟨rfl, hb6⟩; have g6 := g5.next hb6)
          | (go_at_call 24; refine (Q5.out _ g3).mono ?_; rintro e w5 ⟨rfl, hb5⟩; have g5 := g3.next hb5)
          | (go_at_call 25; refine (Q4.out _).mono ?_; rintro e w4 ⟨rfl, rfl⟩)
          | (go_at_call 24; refine (Q3.out _ g1).mono ?_; rintro e w3 ⟨rfl, hb3⟩; have g3 := g1.next hb3)
          | (go_at_call 23; refine (Q2.out _).mono ?_; rintro e w2 ⟨rfl, rfl⟩)
          | (go_at_call 22; refine (Q1.out _ g).mono ?_; rintro e w1 ⟨rfl, hb1⟩; have g1 := g.next hb1))
        go_ret
        exact ⟨rfl, below_on hb1 (below_on hb3 (below_on hb5 (below_on hb6 hb7)))⟩
      | false =>
        unfold refU at hU hR
        rw [hu] at hU hR
        simp only [Bool.false_eq_true, if_false] at hU hR
        have Q3 := Lib.hid hU
        have Q4 := Lib.hid hR
        clear hU hR hF hQ hUS ht hu hql hlen
        go_enter Tryd.func7, Tryd.ntmps7
        go_wp2_with (first
          | (go_at_call 10; refine (HS.out _ g5).mono ?_; rintro e w7 ⟨rfl, hb7⟩)
          | (go_at_call 24; refine (Q5.out _ g3).mono ?_; rintro e w5 ⟨rfl, hb5⟩; have g5 := g3.next hb5)
          | (go_at_call 25; refine (Q4.out _).mono ?_; rintro e w4 ⟨rfl, rfl⟩)
          | (go_at_call 24; refine (Q3.out _ g1).mono ?_; rintro e w3 ⟨rfl, hb3⟩; have g3 := g1.next hb3)
          | (go_at_call 23; refine (Q2.out _).mono ?_; rintro e w2 ⟨rfl, rfl⟩)
          | (go_at_call 22; refine (Q1.out _ g).mono ?_; rintro e w1 ⟨rfl, hb1⟩; have g1 := g.next hb1))
        go_ret
        exact ⟨rfl, below_on hb1 (below_on hb3 (below_on hb5 hb7))⟩
    | false =>
      have q1 := fun w => Quote_no s w hm ht
      have q2 := fun w => refQuote_no s w hm ht
      have Q1 := Lib.hid q1
      have Q2 := Lib.hid q2
      clear q1 q2 hB
      cases hu : unqB s.data.toList with
      | true =>
        have hF := hF hu
        unfold refU at hU hR
        rw [hu] at hU hR
        simp only [if_true] at hU hR
        rw [hUS] at hU hR hF
        have Q3 := Lib.hid hU
        have Q4 := Lib.hid hR
        have Q6 := Lib.hid hF
        clear hU hR hF hQ hUS ht hu hql hlen
        go_enter Tryd.func7, Tryd.ntmps7
        go_wp2_with (first
          | (go_at_call 10; refine (HS.out _ g6).mono ?_; rintro e w7 ⟨rfl, hb7⟩)
          | (go_at_call 22; refine (Q6.out _ g3).mono ?_; rintro e w6 ⟨rfl, hb6⟩; have g6 := g3.next hb6)
          | (go_at_call 25; refine (Q4.out _).mono ?_; rintro e w4 ⟨rfl, rfl⟩)
          | (go_at_call 24; refine (Q3.out _ g).mono ?_; rintro e w3 ⟨rfl, hb3⟩; have g3 := g.next hb3)
          | (go_at_call 23; refine (Q2.out _).mono ?_; rintro e w2 ⟨rfl, rfl⟩)
          | (go_at_call 22; refine (Q1.out _).mono ?_; rintro e w1 ⟨rfl, rfl⟩))
        go_ret
        exact ⟨rfl, below_on hb3 (below_on hb6 hb7)⟩
      | false =>
        unfold refU at hU hR
        rw [hu] at hU hR
        simp only [Bool.false_eq_true, if_false] at hU hR
        have Q3 := Lib.hid hU
        have Q4 := Lib.hid hR
        clear hU hR hF hQ hUS ht hu hql hlen
        go_enter Tryd.func7, Tryd.ntmps7
        go_wp2_with (first
          | (go_at_call 10; refine (HS.out _ g3).mono ?_; rintro e w7 ⟨rfl, hb7⟩)
          | (go_at_call 25; refine (Q4.out _).mono ?_; rintro e w4 ⟨rfl, rfl⟩)
          | (go_at_call 24; refine (Q3.out _ g).mono ?_; rintro e w3 ⟨rfl, hb3⟩; have g3 := g.next hb3)
          | (go_at_call 23; refine (Q2.out _).mono ?_; rintro e w2 ⟨rfl, rfl⟩)
          | (go_at_call 22; refine (Q1.out _).mono ?_; rintro e w1 ⟨rfl, rfl⟩))
        go_ret
        exact ⟨rfl, below_on hb3 hb7⟩
end Go.Proofs.YtojdihfcoijinaaDoor
