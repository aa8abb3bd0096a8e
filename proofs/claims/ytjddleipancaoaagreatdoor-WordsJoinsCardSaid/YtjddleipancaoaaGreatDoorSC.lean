/- The reference's Split. -/
import Derived.Test.YtjddleipancaoaaGreatDoorSB
import Derived.Test.YtjddleipancaoaaGreatDoorV
namespace Go.Proofs.YtjddleipancaoaaGreatDoor
open Go.RowKit

def refR (m : List UInt8) : Option (List Fld) := refGo m.length m
theorem refR_nil : refR [] = some [] := rfl
theorem refR_split (m : List UInt8) : refR m = splitS m := refGo_split (Nat.le_refl _)
theorem refR_none {m : List UInt8} (hm : m ≠ []) (h : refF (m.take (endL m)) = none) : refR m = none := by
  cases m with
  | nil => exact absurd rfl hm
  | cons b l =>
    unfold refR
    rw [List.length_cons]
    unfold refGo
    rw [h]
theorem refR_bad {m : List UInt8} {f : Fld} (hm : m ≠ []) (h : refF (m.take (endL m)) = some f) (hb : rightB f = false ∨ (endL m < m.length ∧ (m.getD (endL m) 0 ≠ 32 ∨ endL m + 1 = m.length))) : refR m = none := by
  cases m with
  | nil => exact absurd rfl hm
  | cons b l =>
    unfold refR
    rw [List.length_cons]
    unfold refGo
    rw [h]
    simp only
    rw [if_pos]
    rcases hb with hb | ⟨h1, h2⟩
    · rw [hb]; rfl
    · rw [decide_eq_true h1]
      rcases h2 with h2 | h2
      · rw [show ((b :: l).getD (endL (b :: l)) 0 == 32) = false from by simpa using h2]; simp
      · rw [decide_eq_true h2]; simp
theorem refR_next {m : List UInt8} {f : Fld} (hm : m ≠ []) (h : refF (m.take (endL m)) = some f) (hr : rightB f = true) (h2 : ¬ (endL m < m.length ∧ (m.getD (endL m) 0 ≠ 32 ∨ endL m + 1 = m.length))) :
    refR m = (refR (m.drop (endL m + 1))).map (f :: ·) := by
  cases m with
  | nil => exact absurd rfl hm
  | cons b l =>
    have e : refR ((b :: l).drop (endL (b :: l) + 1)) = refGo l.length ((b :: l).drop (endL (b :: l) + 1)) := by
      rw [refR_split, refGo_split (by simp)]
    rw [e]
    unfold refR
    rw [List.length_cons]
    conv => lhs; unfold refGo
    rw [h]
    simp only
    rw [if_neg]
    rw [hr]
    by_cases h1 : endL (b :: l) < (b :: l).length
    · have h3 : ¬ ((b :: l).getD (endL (b :: l)) 0 ≠ 32) := fun e => h2 ⟨h1, Or.inl e⟩
      have h4 : ¬ (endL (b :: l) + 1 = (b :: l).length) := fun e => h2 ⟨h1, Or.inr e⟩
      have h5 : (b :: l).getD (endL (b :: l)) 0 = 32 := by
        rcases Classical.em ((b :: l).getD (endL (b :: l)) 0 = 32) with e | e
        · exact e
        · exact absurd e h3
      rw [h5, decide_eq_false h4]
      simp
    · rw [decide_eq_false h1]; simp
theorem bend_pos {b : UInt8} {l : List UInt8} (hz : endL (b :: l) = 0) : refF ((b :: l).take (endL (b :: l))) = some (false, []) := by
  rw [hz, List.take_zero]; rfl

def RefSplitPost (w : World) (l : List UInt8) (e : Ending) (w' : World) : Prop :=
  ∃ v : Value, e = .returned (.tuple #[v, .int .i64 (splitSpec l).2]) ∧ w'.ownsRow w.heap.size 46 2 v (splitSpec l).1.length (fcells (splitSpec l).1) ∧ Below w.heap.size w w'
theorem rpost_bad {w w' : World} {s : ByteArray} (h : s.size ≤ 4096) (hn : splitS s.data.toList = none) (hb : Below w.heap.size w w') : RefSplitPost w s.data.toList (.returned (.tuple #[.slice none 0 0, .int .i64 6])) w' := by
  unfold RefSplitPost splitSpec
  rw [size_len, if_neg (by omega), hn]
  exact ⟨_, rfl, World.ownsRow_nil _ _ _ _, hb⟩
theorem rpost_many {w w' : World} {s : ByteArray} {fs : List Fld} (h : s.size ≤ 4096) (hn : splitS s.data.toList = some fs) (hl : 64 < fs.length) (hb : Below w.heap.size w w') : RefSplitPost w s.data.toList (.returned (.tuple #[.slice none 0 0, .int .i64 3])) w' := by
  unfold RefSplitPost splitSpec
  rw [size_len, if_neg (by omega), hn]
  simp only [if_pos hl]
  exact ⟨_, rfl, World.ownsRow_nil _ _ _ _, hb⟩
theorem rpost_good {w w' : World} {s : ByteArray} {fs : List Fld} {v : Value} (h : s.size ≤ 4096) (hn : splitS s.data.toList = some fs) (hl : ¬ 64 < fs.length) (ho : w'.ownsRow w.heap.size 46 2 v fs.length (fcells fs)) (hb : Below w.heap.size w w') : RefSplitPost w s.data.toList (.returned (.tuple #[v, .int .i64 0])) w' := by
  unfold RefSplitPost splitSpec
  rw [size_len, if_neg (by omega), hn]
  simp only [if_neg hl]
  exact ⟨_, rfl, ho, hb⟩

set_option maxHeartbeats 400000 in
theorem refSplit_long (s : ByteArray) (w : World) (h : 4096 < s.size) (hs : s.size ≤ maxLen) :
    Calls Tryz.prog 13 #[.string s] w (RefSplitPost w s.data.toList) := by
  have hP : RefSplitPost w s.data.toList (.returned (.tuple #[.slice none 0 0, .int .i64 3])) w := by
    unfold RefSplitPost splitSpec; rw [size_len, if_pos h]; exact ⟨_, rfl, World.ownsRow_nil _ _ _ _, Below.refl _ _⟩
  unfold maxLen at hs
  go_enter Tryz.func13, Tryz.ntmps13
  go_wp2_with fail
  go_ret2
  exact hP

theorem ext_range (s : ByteArray) (i j : Nat) : s.extract i j = ⟨((s.data.toList.drop i).take (j - i)).toArray⟩ := by
  rw [Lib.extract_eq]
theorem getD_drop {s : ByteArray} {k e : Nat} (h : k + e < s.size) : (s.data.toList.drop k).getD e 0 = s[k + e] := by
  have h' : k + e < s.data.toList.length := by rw [size_len]; exact h
  rw [List.getD_eq_getElem?_getD, List.getElem?_drop, List.getElem?_eq_getElem h']
  rfl
theorem head_take {b : UInt8} {l : List UInt8} {e : Nat} (he : 0 < e) : ((b :: l).take e).head? = some b := by
  cases e with
  | zero => omega
  | succ e => rfl

set_option maxHeartbeats 4000000 in
set_option maxRecDepth 100000 in
theorem refSplit_short (s : ByteArray) (w : World) (h : s.size ≤ 4096) :
    Calls Tryz.prog 13 #[.string s] w (RefSplitPost w s.data.toList) := by
  obtain ⟨i0, hi, hz0, hz1, hz2⟩ := info_parts infoRef
  have Hi := Lib.hid hi; clear hi
  go_enter Tryz.func13, Tryz.ntmps13
  go_wp2_with fail
  go_loopg [4, 5] (s.size + 1) (fun g s4 s5 wr => ∃ (k : Nat) (acc : List Fld), s5 = .int .i64 k ∧ k + g = s.size + 1 ∧ acc.length ≤ k ∧ wr.ownsRow w.heap.size 46 2 s4 acc.length (fcells acc) ∧ Below w.heap.size w wr ∧ splitS s.data.toList = (refR (s.data.toList.drop k)).map (acc ++ ·))
  case atStart => exact ⟨0, [], rfl, by omega, Nat.le_refl _, World.ownsRow_nil _ _ _ _, Below.refl _ _, by rw [List.drop_zero, refR_split]; simp⟩
  case round =>
    obtain ⟨k, acc, rfl, hkg, hak, hown, hbw, htot⟩ := hrel
    have Htot := Lib.hid htot
    clear htot
    by_cases hlt : k < s.size
    · obtain ⟨m, hm⟩ : ∃ m, s.data.toList.drop k = m := ⟨_, rfl⟩
      have hmc := drop_at hlt
      rw [hm] at hmc
      have hml : m.length = s.size - k := by rw [← hm, List.length_drop, size_len]
      have hEle := endL_le m
      obtain ⟨E, hE⟩ : ∃ E, endL m = E := ⟨_, rfl⟩
      rw [hE] at hEle
      have hcall := refEnd_any s k wr hlt (by omega)
      rw [hm, hE] at hcall
      have hne : m ≠ [] := by rw [hmc]; simp
      obtain ⟨X, hX⟩ : ∃ X : ByteArray, (⟨(m.take E).toArray⟩ : ByteArray) = X := ⟨_, rfl⟩
      have hXl : X.data.toList = m.take E := by rw [← hX]
      have hXs : X.size ≤ s.size := by rw [← size_len, hXl, List.length_take]; omega
      have hext : s.extract k (k + E) = X := by rw [ext_range s k (k + E), hm, show k + E - k = E by omega, hX]
      have hU := fun w => refUnquote_any X w (by omega)
      rw [hXl] at hU
      have HU := Lib.hid hU
      have Hcall := Lib.hid hcall
      have Hext := Lib.hid hext
      have Hmc := Lib.hid hmc
      have HE := Lib.hid hE
      have HX := Lib.hid hX
      have HXl := Lib.hid hXl
      have Hm := Lib.hid hm
      have Hml := Lib.hid hml
      have hKE : ((k + E : Nat) : Int) = (k : Int) + (E : Int) := by omega
      have hEs : k + E ≤ s.size := by omega
      have Hown := Lib.hid hown
      clear hU hcall hext hmc hE hX hXl hm hml hown
      by_cases hq : ((s[k]'hlt).toNat : Int) = 34
      · have hq' : (((s[k]'hlt).toNat : Int) == 34) = true := by simpa using hq
        have hE0 : 0 < E := by
          have := HE.out
          rw [Hmc.out, byte_eq hq] at this
          simp only [endL, if_true] at this
          omega
        have hhead : (m.take E).head? = some 34 := by rw [Hmc.out, head_take hE0, byte_eq hq]
        cases hu : unqB (m.take E) with
        | false =>
          have hbad : splitS s.data.toList = none := by
            rw [Htot.out, Hm.out, refR_none hne (by rw [HE.out]; unfold refF; rw [if_pos hhead, hu]; rfl)]; rfl
          have HB := Lib.hid hbad
          have hU2 := HU.out
          unfold refU at hU2
          rw [hu] at hU2
          have HU2 := Lib.hid hU2
          clear hbad hU2 hu hhead
          go_wp2_with fail
          refine Hcall.out.mono ?_
          rintro e w' ⟨rfl, rfl⟩
          have hx := Hext.out
          go_wp2_with fail
          refine (HU2.out _).mono ?_
          rintro e w' ⟨rfl, rfl⟩
          clear hx
          go_wp2_with fail
          go_ret2
          exact rpost_bad h HB.out (hbw.alloc hbw.size _)
        | true =>
          have hf : refF (m.take E) = some (true, unqT (m.take E)) := by unfold refF; rw [if_pos hhead, hu]; rfl
          have hU2 := HU.out
          unfold refU at hU2
          rw [hu] at hU2
          have hTs0 := unqT_len (m.take E)
          obtain ⟨t, ht⟩ : ∃ t, unqT (m.take E) = t := ⟨_, rfl⟩
          rw [ht] at hf hU2 hTs0
          obtain ⟨T, hT⟩ : ∃ T : ByteArray, (⟨t.toArray⟩ : ByteArray) = T := ⟨_, rfl⟩
          simp only [if_true] at hU2
          rw [hT] at hU2
          have hTs : T.size ≤ s.size := by
            rw [← size_len, ← hT]
            have h1 : (m.take E).length ≤ s.size := by rw [← HXl.out, size_len]; exact hXs
            show t.length ≤ _
            omega
          have HU2 := Lib.hid hU2
          have HT := Lib.hid hT
          have Hf := Lib.hid hf
          clear hU2 hu hhead hf ht hT hTs0
          go_wp2_with fail
          refine Hcall.out.mono ?_
          rintro e w' ⟨rfl, rfl⟩
          have hx := Hext.out
          go_wp2_with fail
          refine (HU2.out _).mono ?_
          rintro e w' ⟨rfl, rfl⟩
          clear hx
          go_wp2_with fail
          have hTl : T.data.toList = t := by rw [← HT.out]
          have hRr := refRight_any true T (wr.alloc (.cells #[.bool true, .string T] 46)) (by unfold maxLen; omega)
          rw [hTl] at hRr
          obtain ⟨R, hR⟩ : ∃ R, rightB (true, t) = R := ⟨_, rfl⟩
          rw [hR] at hRr
          have HR := Lib.hid hR
          have HRr := Lib.hid hRr
          clear hR hRr hTl
          have hbad : (rightB (true, t) = false ∨ (E < m.length ∧ (m.getD E 0 ≠ 32 ∨ E + 1 = m.length))) → splitS s.data.toList = none := fun hb => by
            rw [Htot.out, Hm.out, refR_bad (f := (true, t)) hne (by rw [HE.out]; exact Hf.out) (by rw [HE.out]; exact hb)]; rfl
          have hgood : rightB (true, t) = true → ¬ (E < m.length ∧ (m.getD E 0 ≠ 32 ∨ E + 1 = m.length)) → splitS s.data.toList = (refR (s.data.toList.drop (k + E + 1))).map ((acc ++ [(true, t)]) ++ ·) := fun h1 h2 => by
            rw [Htot.out, Hm.out, refR_next (f := (true, t)) hne (by rw [HE.out]; exact Hf.out) h1 (by rw [HE.out]; exact h2), HE.out, ← Hm.out, List.drop_drop, Option.map_map, show k + (E + 1) = k + E + 1 by omega]
            congr 1
            exact funext fun x => by simp
          have Hbad := Lib.hid hbad
          have Hgood := Lib.hid hgood
          clear hbad hgood
          refine HRr.out.mono ?_
          rintro e w' ⟨rfl, rfl⟩
          have hb2 : Below w.heap.size w ((wr.alloc (.cells #[.bool true, .string T] 46)).alloc (.cells #[.bool true, .string T] 46)) := (hbw.alloc hbw.size _).alloc (by simp; have := hbw.size; omega) _
          have Hb2 := Lib.hid hb2
          clear hb2
          cases R with
          | false =>
            have HX2 := Lib.hid (Hbad.out (Or.inl HR.out))
            go_wp2_with fail
            go_ret2
            exact rpost_bad h HX2.out Hb2.out
          | true =>
            by_cases hl1 : k + E < s.size
            · have hg := getD_drop hl1
              rw [Hm.out] at hg
              have Hg := Lib.hid hg
              clear hg
              by_cases h32 : ((s[k + E]'hl1).toNat : Int) = 32
              · have h32' : (((s[k + E]'hl1).toNat : Int) != 32) = false := by simpa using h32
                by_cases hlast : k + E + 1 = s.size
                · have hlast' : ((k : Int) + (E : Int) + 1 == (s.size : Int)) = true := by simp; omega
                  have HX2 := Lib.hid (Hbad.out (Or.inr ⟨by have := Hml.out; omega, Or.inr (by have := Hml.out; omega)⟩))
                  go_wp2_with fail
                  go_ret2
                  exact rpost_bad h HX2.out Hb2.out
                · have hlast' : ((k : Int) + (E : Int) + 1 == (s.size : Int)) = false := by simp; omega
                  have HX2 := Lib.hid (Hgood.out HR.out (fun e => by
                    rcases e.2 with e2 | e2
                    · exact e2 (by rw [Hg.out]; exact byte32 h32)
                    · have := Hml.out; omega))
                  have Hown3 := Lib.hid (((Hown.out.alloc (.cells #[.bool true, .string T] 46)).alloc (.cells #[.bool true, .string T] 46)).alloc (.cells #[.bool true, .string T] 46))
                  have hsz : w.heap.size ≤ wr.heap.size := hbw.size
                  go_wp2_with (at_builtin; refine wpList_append_own _ rfl _ _ 34 rfl w.heap.size 46 i0 (.agg #[.bool false, .string ⟨#[]⟩]) 2 24 Tryz.underlying34 Hi.out hz0 hz1 hz2 rfl (by decide) _ _ _ rfl Hown3.out ⟨wr.heap.size + 1 + 1, 0, none⟩ 1 1 [.bool true, .string T] rfl rfl ?z1c1 ?z1c2 ?z1c3 ?z1c4 ?z1c5 ?_)
                  try (case z1c1 => exact cell_two_at _ _ _ _ (by simp))
                  case z1c2 => simp [Value.oneCell']
                  case z1c3 => unfold maxLen; omega
                  case z1c4 => omega
                  case z1c5 => first | omega | (simp; omega)
                  intro v' w3 hown3 hgrow _
                  have hb3 : Below w.heap.size w w3 := by
                    refine Below.grown (Hb2.out.alloc (by simp; omega) _) hgrow (by simp; omega) ?_
                    intro k' e'
                    exact (Hown3.out.lt k' e').1
                  have hown4 : w3.ownsRow w.heap.size 46 2 v' (acc ++ [(true, t)]).length (fcells (acc ++ [(true, t)])) := by
                    rw [fcells_app, List.length_append, show fcells [(true, t)] = [.bool true, .string T] by rw [← HT.out]; rfl]; exact hown3
                  have Hown4 := Lib.hid hown4
                  clear hown3 hown4 hgrow
                  go_wp2_with fail
                  go_roundg (s.size - (k + E))
                  case measure => omega
                  case rel => exact ⟨k + E + 1, acc ++ [(true, t)], by go_num, by omega, by simp; omega, Hown4.out, hb3, HX2.out⟩
              · have h32' : (((s[k + E]'hl1).toNat : Int) != 32) = true := by simpa using h32
                have HX2 := Lib.hid (Hbad.out (Or.inr ⟨by have := Hml.out; omega, Or.inl (by rw [Hg.out]; exact byte_not32 h32)⟩))
                go_wp2_with fail
                go_ret2
                exact rpost_bad h HX2.out Hb2.out
            · have HX2 := Lib.hid (Hgood.out HR.out (fun e => by have := Hml.out; have := e.1; omega))
              have Hown3 := Lib.hid (((Hown.out.alloc (.cells #[.bool true, .string T] 46)).alloc (.cells #[.bool true, .string T] 46)).alloc (.cells #[.bool true, .string T] 46))
              have hsz : w.heap.size ≤ wr.heap.size := hbw.size
              go_wp2_with (at_builtin; refine wpList_append_own _ rfl _ _ 34 rfl w.heap.size 46 i0 (.agg #[.bool false, .string ⟨#[]⟩]) 2 24 Tryz.underlying34 Hi.out hz0 hz1 hz2 rfl (by decide) _ _ _ rfl Hown3.out ⟨wr.heap.size + 1 + 1, 0, none⟩ 1 1 [.bool true, .string T] rfl rfl ?z2c1 ?z2c2 ?z2c3 ?z2c4 ?z2c5 ?_)
              try (case z2c1 => exact cell_two_at _ _ _ _ (by simp))
              case z2c2 => simp [Value.oneCell']
              case z2c3 => unfold maxLen; omega
              case z2c4 => omega
              case z2c5 => first | omega | (simp; omega)
              intro v' w3 hown3 hgrow _
              have hb3 : Below w.heap.size w w3 := by
                refine Below.grown (Hb2.out.alloc (by simp; omega) _) hgrow (by simp; omega) ?_
                intro k' e'
                exact (Hown3.out.lt k' e').1
              have hown4 : w3.ownsRow w.heap.size 46 2 v' (acc ++ [(true, t)]).length (fcells (acc ++ [(true, t)])) := by
                rw [fcells_app, List.length_append, show fcells [(true, t)] = [.bool true, .string T] by rw [← HT.out]; rfl]; exact hown3
              have Hown4 := Lib.hid hown4
              clear hown3 hown4 hgrow
              go_wp2_with fail
              go_roundg (s.size - (k + E))
              case measure => omega
              case rel => exact ⟨k + E + 1, acc ++ [(true, t)], by go_num, by omega, by simp; omega, Hown4.out, hb3, HX2.out⟩
      · have hq' : (((s[k]'hlt).toNat : Int) == 34) = false := by simpa using hq
        have hf : refF (m.take E) = some (false, m.take E) := by
          unfold refF
          rw [if_neg]
          intro e
          rw [Hmc.out] at e
          cases E with
          | zero => simp at e
          | succ E => exact byte_ne hq (Option.some.inj e)
        obtain ⟨t, ht⟩ : ∃ t, m.take E = t := ⟨_, rfl⟩
        have HT : Hid ((⟨t.toArray⟩ : ByteArray) = X) := Lib.hid (by rw [← ht]; exact HX.out)
        have hTs : X.size ≤ s.size := hXs
        have hf2 : refF (m.take E) = some (false, t) := by rw [hf, ht]
        have Hf := Lib.hid hf2
        clear hf ht hf2
        go_wp2_with fail
        refine Hcall.out.mono ?_
        rintro e w' ⟨rfl, rfl⟩
        have hx := Hext.out
        go_wp2_with fail
        clear hx
        have hTl : X.data.toList = t := by rw [← HT.out]
        have hRr := refRight_any false X (wr.alloc (.cells #[.bool false, .string X] 46)) (by unfold maxLen; omega)
        rw [hTl] at hRr
        obtain ⟨R, hR⟩ : ∃ R, rightB (false, t) = R := ⟨_, rfl⟩
        rw [hR] at hRr
        have HR := Lib.hid hR
        have HRr := Lib.hid hRr
        clear hR hRr hTl
        have hbad : (rightB (false, t) = false ∨ (E < m.length ∧ (m.getD E 0 ≠ 32 ∨ E + 1 = m.length))) → splitS s.data.toList = none := fun hb => by
          rw [Htot.out, Hm.out, refR_bad (f := (false, t)) hne (by rw [HE.out]; exact Hf.out) (by rw [HE.out]; exact hb)]; rfl
        have hgood : rightB (false, t) = true → ¬ (E < m.length ∧ (m.getD E 0 ≠ 32 ∨ E + 1 = m.length)) → splitS s.data.toList = (refR (s.data.toList.drop (k + E + 1))).map ((acc ++ [(false, t)]) ++ ·) := fun h1 h2 => by
          rw [Htot.out, Hm.out, refR_next (f := (false, t)) hne (by rw [HE.out]; exact Hf.out) h1 (by rw [HE.out]; exact h2), HE.out, ← Hm.out, List.drop_drop, Option.map_map, show k + (E + 1) = k + E + 1 by omega]
          congr 1
          exact funext fun x => by simp
        have Hbad := Lib.hid hbad
        have Hgood := Lib.hid hgood
        clear hbad hgood
        refine HRr.out.mono ?_
        rintro e w' ⟨rfl, rfl⟩
        have hb2 : Below w.heap.size w ((wr.alloc (.cells #[.bool false, .string X] 46)).alloc (.cells #[.bool false, .string X] 46)) := (hbw.alloc hbw.size _).alloc (by simp; have := hbw.size; omega) _
        have Hb2 := Lib.hid hb2
        clear hb2
        cases R with
        | false =>
          have HX2 := Lib.hid (Hbad.out (Or.inl HR.out))
          go_wp2_with fail
          go_ret2
          exact rpost_bad h HX2.out Hb2.out
        | true =>
          by_cases hl1 : k + E < s.size
          · have hg := getD_drop hl1
            rw [Hm.out] at hg
            have Hg := Lib.hid hg
            clear hg
            by_cases h32 : ((s[k + E]'hl1).toNat : Int) = 32
            · have h32' : (((s[k + E]'hl1).toNat : Int) != 32) = false := by simpa using h32
              by_cases hlast : k + E + 1 = s.size
              · have hlast' : ((k : Int) + (E : Int) + 1 == (s.size : Int)) = true := by simp; omega
                have HX2 := Lib.hid (Hbad.out (Or.inr ⟨by have := Hml.out; omega, Or.inr (by have := Hml.out; omega)⟩))
                go_wp2_with fail
                go_ret2
                exact rpost_bad h HX2.out Hb2.out
              · have hlast' : ((k : Int) + (E : Int) + 1 == (s.size : Int)) = false := by simp; omega
                have HX2 := Lib.hid (Hgood.out HR.out (fun e => by
                  rcases e.2 with e2 | e2
                  · exact e2 (by rw [Hg.out]; exact byte32 h32)
                  · have := Hml.out; omega))
                have Hown3 := Lib.hid (((Hown.out.alloc (.cells #[.bool false, .string X] 46)).alloc (.cells #[.bool false, .string X] 46)).alloc (.cells #[.bool false, .string X] 46))
                have hsz : w.heap.size ≤ wr.heap.size := hbw.size
                go_wp2_with (at_builtin; refine wpList_append_own _ rfl _ _ 34 rfl w.heap.size 46 i0 (.agg #[.bool false, .string ⟨#[]⟩]) 2 24 Tryz.underlying34 Hi.out hz0 hz1 hz2 rfl (by decide) _ _ _ rfl Hown3.out ⟨wr.heap.size + 1 + 1, 0, none⟩ 1 1 [.bool false, .string X] rfl rfl ?z3c1 ?z3c2 ?z3c3 ?z3c4 ?z3c5 ?_)
                try (case z3c1 => exact cell_two_at _ _ _ _ (by simp))
                case z3c2 => simp [Value.oneCell']
                case z3c3 => unfold maxLen; omega
                case z3c4 => omega
                case z3c5 => first | omega | (simp; omega)
                intro v' w3 hown3 hgrow _
                have hb3 : Below w.heap.size w w3 := by
                  refine Below.grown (Hb2.out.alloc (by simp; omega) _) hgrow (by simp; omega) ?_
                  intro k' e'
                  exact (Hown3.out.lt k' e').1
                have hown4 : w3.ownsRow w.heap.size 46 2 v' (acc ++ [(false, t)]).length (fcells (acc ++ [(false, t)])) := by
                  rw [fcells_app, List.length_append, show fcells [(false, t)] = [.bool false, .string X] by rw [← HT.out]; rfl]; exact hown3
                have Hown4 := Lib.hid hown4
                clear hown3 hown4 hgrow
                go_wp2_with fail
                go_roundg (s.size - (k + E))
                case measure => omega
                case rel => exact ⟨k + E + 1, acc ++ [(false, t)], by go_num, by omega, by simp; omega, Hown4.out, hb3, HX2.out⟩
            · have h32' : (((s[k + E]'hl1).toNat : Int) != 32) = true := by simpa using h32
              have HX2 := Lib.hid (Hbad.out (Or.inr ⟨by have := Hml.out; omega, Or.inl (by rw [Hg.out]; exact byte_not32 h32)⟩))
              go_wp2_with fail
              go_ret2
              exact rpost_bad h HX2.out Hb2.out
          · have HX2 := Lib.hid (Hgood.out HR.out (fun e => by have := Hml.out; have := e.1; omega))
            have Hown3 := Lib.hid (((Hown.out.alloc (.cells #[.bool false, .string X] 46)).alloc (.cells #[.bool false, .string X] 46)).alloc (.cells #[.bool false, .string X] 46))
            have hsz : w.heap.size ≤ wr.heap.size := hbw.size
            go_wp2_with (at_builtin; refine wpList_append_own _ rfl _ _ 34 rfl w.heap.size 46 i0 (.agg #[.bool false, .string ⟨#[]⟩]) 2 24 Tryz.underlying34 Hi.out hz0 hz1 hz2 rfl (by decide) _ _ _ rfl Hown3.out ⟨wr.heap.size + 1 + 1, 0, none⟩ 1 1 [.bool false, .string X] rfl rfl ?z4c1 ?z4c2 ?z4c3 ?z4c4 ?z4c5 ?_)
            try (case z4c1 => exact cell_two_at _ _ _ _ (by simp))
            case z4c2 => simp [Value.oneCell']
            case z4c3 => unfold maxLen; omega
            case z4c4 => omega
            case z4c5 => first | omega | (simp; omega)
            intro v' w3 hown3 hgrow _
            have hb3 : Below w.heap.size w w3 := by
              refine Below.grown (Hb2.out.alloc (by simp; omega) _) hgrow (by simp; omega) ?_
              intro k' e'
              exact (Hown3.out.lt k' e').1
            have hown4 : w3.ownsRow w.heap.size 46 2 v' (acc ++ [(false, t)]).length (fcells (acc ++ [(false, t)])) := by
              rw [fcells_app, List.length_append, show fcells [(false, t)] = [.bool false, .string X] by rw [← HT.out]; rfl]; exact hown3
            have Hown4 := Lib.hid hown4
            clear hown3 hown4 hgrow
            go_wp2_with fail
            go_roundg (s.size - (k + E))
            case measure => omega
            case rel => exact ⟨k + E + 1, acc ++ [(false, t)], by go_num, by omega, by simp; omega, Hown4.out, hb3, HX2.out⟩
    · have hfin : splitS s.data.toList = some acc := by
        have := Htot.out
        rw [List.drop_eq_nil_of_le (by rw [size_len]; omega), refR_nil] at this
        simpa using this
      have Hfin := Lib.hid hfin
      clear hfin
      have hle : acc.length ≤ s.size + 1 := by omega
      rcases hown.2 with ⟨rfl, hn⟩ | ⟨g', cap, cur, rfl, _⟩
      · have Hn := Lib.hid hn; clear hn
        go_wp2_with fail
        go_ret2
        exact rpost_good h Hfin.out (by rw [Hn.out]; omega) hown hbw
      · have Hown := Lib.hid hown; clear hown
        by_cases hl : 64 < acc.length
        · go_wp2_with fail
          go_ret2
          exact rpost_many h Hfin.out hl hbw
        · go_wp2_with fail
          go_ret2
          exact rpost_good h Hfin.out hl Hown.out hbw
end Go.Proofs.YtjddleipancaoaaGreatDoor
