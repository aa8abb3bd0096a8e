/- The reference's Perm walked; the word without a strand, the program's and the reference's. -/
import Derived.Test.YtnfppebcpagjpaaCS
namespace Go.Proofs.Ytnfppebcpagjpaa
open Go.RowKit Go.Lib
set_option maxHeartbeats 1000000 in
set_option maxRecDepth 100000 in
theorem refPerm_any (n : Int) (ws : List Int) (v : Value) (w : World) (hv : IS w v ws) :
    Calls Try.prog 25 #[.int .i64 n, v] w fun e w' => ∃ v', e = .returned (.tuple #[v', .int .i64 (checkV n ws)]) ∧ IS w' v' (permV n ws) ∧ Below w.heap.size w w' := by
  obtain ⟨sa, sc, rfl, h1, h2, _, hI⟩ := hv
  have CK := Lib.hid (refCheck_any n ws sa sc w hI h1 h2)
  have HI := Lib.hid hI
  have hok := fun h => checkV_ok (n := n) (ws := ws) h
  have HS := Lib.hid (show checkV n ws ≠ 0 → permV n ws = [] from fun h => if_neg h)
  have HT := Lib.hid (show checkV n ws = 0 → permV n ws = permL n.toNat ws from fun h => if_pos h)
  obtain ⟨c, hc⟩ : ∃ c, c = checkV n ws := ⟨_, rfl⟩
  rw [← hc] at CK hok HS HT ⊢
  have HO := Lib.hid hok
  clear hok hI hc
  by_cases h : c = 0
  · have hn := HT.out h
    obtain ⟨m, rfl, m1, m2, hl, hw⟩ := HO.out h
    rw [Int.toNat_natCast] at hn
    have Hn := Lib.hid hn
    have Hw := Lib.hid hw
    subst h
    clear HO HS HT hn hw
    go_enter Try.func25, Try.ntmps25
    go_wp2_with fail
    refine CK.out.mono ?_
    rintro e w1 ⟨rfl, B1⟩
    have HB1 := Lib.hid B1
    clear B1
    go_wp2_with fail
    refine (refline_any m m2 w1).mono ?_
    rintro e w2 ⟨v2, rfl, O2, B2⟩
    obtain ⟨g, cap, rfl⟩ := own_pos O2 (by omega)
    have hg := O2.lt g rfl
    have HB2 := Lib.hid (bon HB1.out B2)
    have HO2 := Lib.hid (own_mono O2 (HB1.out.size))
    have hgw : w.heap.size ≤ g := Nat.le_trans HB1.out.size hg.1
    clear B2 O2 hg
    go_wp2_with fail
    go_loopw [8] (fun i wr => ∃ k : Nat, k ≤ ws.length ∧ i = .int .i64 k ∧ wr.ownsRow w.heap.size 3 1 (.slice (some ⟨g, 0, none⟩) m cap) m ((ints m (lineP (ws.take k))).map (Value.int .i64)) ∧ Below w.heap.size w wr) (fun i _ => ws.length - (intOf i).toNat)
    case atStart => exact ⟨0, Nat.zero_le _, rfl, HO2.out, HB2.out⟩
    case round =>
      obtain ⟨k, hk, rfl, hown, hbw⟩ := hrel
      by_cases hkl : k < ws.length
      · obtain ⟨x, hx⟩ : ∃ x, ws[k]? = some x := ⟨_, List.getElem?_eq_getElem hkl⟩
        have hlet : Letter m x := Hw.out x (List.mem_of_getElem? hx)
        obtain ⟨b, off, rfl, hb, hc⟩ := HI.out k x hx
        have hcx := (hbw.cell (p := ⟨b, off + k, none⟩) hb).trans hc
        have k0 : (0 : Int) ≤ (k : Int) := by omega
        have k1 : (k : Int) < (ws.length : Int) := by omega
        have Hnext := Lib.hid (lineP_next hx)
        have CN := Lib.hid (refsize_any x hlet.1 (by have := hlet.2; omega) wr)
        have hj : num x + 1 < m := num_lt hlet
        obtain ⟨j, hjn⟩ : ∃ j, j = num x := ⟨_, rfl⟩
        rw [← hjn] at CN hj Hnext
        obtain ⟨y, hy⟩ : ∃ y, y = lineP (ws.take k) := ⟨_, rfl⟩
        rw [← hy] at hown Hnext
        have e0 : wr.cell? ⟨g, j, none⟩ = some (.int .i64 (y.f j : Int)) := by rw [hown.cellAt j (by omega), List.getElem?_map, ints_get y (by omega)]; rfl
        have e1 : wr.cell? ⟨g, j + 1, none⟩ = some (.int .i64 (y.f (j + 1) : Int)) := by rw [hown.cellAt (j + 1) (by omega), List.getElem?_map, ints_get y hj]; rfl
        have f0 := hown.frozenAt j
        have f1 := hown.frozenAt (j + 1)
        have hs1 := (hown.stored j (.int .i64 (y.f (j + 1) : Int))).1
        have hs2 := (hs1.stored (j + 1) (.int .i64 (y.f j : Int))).1
        rw [ints_swap y hj] at hs2
        have Hs2 := Lib.hid hs2.drew
        have Hbw2 := Lib.hid (((hbw.setCell (p := ⟨g, j, none⟩) hgw (.int .i64 (y.f (j + 1) : Int))).setCell (p := ⟨g, j + 1, none⟩) hgw (.int .i64 (y.f j : Int))).drew)
        have n0 : IntKind.i64.wrap (j : Int) = (j : Int) := num_in (by omega) (by omega)
        have n5 : ((j : Int) + 1).toNat = j + 1 := by omega
        have n3 : (0 : Int) ≤ (j : Int) + 1 := by omega
        have n6 : (j : Int) < (m : Int) := by omega
        have n7 : (j : Int) + 1 < (m : Int) := by omega
        have n8 : (0 : Int) ≤ (j : Int) := by omega
        clear hc hx hlet hs1 hs2 hown hbw hjn hy
        go_wp2_with fail
        refine CN.out.mono ?_
        rintro e w3 ⟨rfl, rfl⟩
        go_wp2_with fail
        go_region
        go_wp2_with fail
        go_roundw
        case rel => exact ⟨k + 1, hkl, by go_num, by rw [Hnext.out]; exact Hs2.out, Hbw2.out⟩
        case measure => (simp [intOf] <;> omega)
      · have k1 : ¬ (k : Int) < (ws.length : Int) := by omega
        have e : k = ws.length := by omega
        rw [e, List.take_length] at hown
        have CE := Lib.hid (refends_any m m2 (lineP ws) (lineP_in ws Hw.out) _ wr (is_own hown (ints_len _ _)))
        clear hown e
        go_wp2_with fail
        refine CE.out.mono ?_
        rintro e w4 ⟨v4, rfl, O4, B4⟩
        have HO4 := Lib.hid O4
        clear O4 CE
        go_wp2_with fail
        go_ret2
        exact ⟨v4, rfl, by rw [Hn.out]; exact is_own HO4.out (ints_len _ _), bon hbw B4⟩
  · have hn := Lib.hid (HS.out h)
    go_enter Try.func25, Try.ntmps25
    go_wp2_with fail
    refine CK.out.mono ?_
    rintro e w1 ⟨rfl, B1⟩
    go_wp2_with fail
    go_ret2
    exact ⟨.slice none 0 0, rfl, by rw [hn.out]; exact is_nil _, B1⟩
/-- The letters that are left of a word without a strand, and where that strand is. -/
def dropS (x : List Int × Nat) (z : Int) : List Int × Nat :=
  (if x.2 = num z ∨ x.2 = num z + 1 then x.1 else if x.2 < num z + 1 then x.1 ++ [z - sgn z] else x.1 ++ [z], sw (num z) x.2)
def dropW (s : Nat) (ws : List Int) : List Int × Nat := ws.foldl dropS ([], s)
theorem dropW_next {s : Nat} {ws : List Int} {k : Nat} {x : Int} (h : ws[k]? = some x) : dropW s (ws.take (k + 1)) = dropS (dropW s (ws.take k)) x := by
  rw [take_more h]
  simp [dropW]
theorem dropW_len : ∀ (ws : List Int) (s : Nat), (dropW s ws).1.length ≤ ws.length := by
  have : ∀ (ws : List Int) (x : List Int × Nat), (ws.foldl dropS x).1.length ≤ x.1.length + ws.length := by
    intro ws
    induction ws with
    | nil => intro x; simp
    | cons z ws ih =>
      intro x
      have h := ih (dropS x z)
      have h2 : (dropS x z).1.length ≤ x.1.length + 1 := by
        unfold dropS
        simp only
        split
        · omega
        · split <;> simp
      simp only [List.foldl_cons, List.length_cons]
      omega
  intro ws s
  have := this ws ([], s)
  rw [List.length_nil, Nat.zero_add] at this
  exact this
theorem dropW_lt {n : Nat} {s : Nat} (hs : s < n) (ws : List Int) : Word n ws → (dropW s ws).2 < n := by
  induction ws using snoc_ind with
  | h0 => intro _; exact hs
  | h1 l a ih =>
    intro h
    have hl := ih h.left
    have hn := num_lt (h a (by simp))
    have e : dropW s (l ++ [a]) = dropS (dropW s l) a := by simp [dropW]
    rw [e]
    show sw (num a) (dropW s l).2 < n
    unfold sw
    split
    · omega
    · split <;> omega
set_option maxHeartbeats 1000000 in
set_option maxRecDepth 100000 in
theorem without_any (n : Nat) (hn : n ≤ 12) (s : Nat) (hs : s < n) (ws : List Int) (hw : Word n ws) (hl : ws.length ≤ 400) (v : Value) (w : World) (hv : IS w v ws) :
    Calls Try.prog 62 #[v, .int .i64 (s : Int)] w fun e w' => ∃ v', e = .returned (.tuple #[v', .int .i64 ((dropW s ws).2 : Int)]) ∧ w'.ownsRow w.heap.size 3 1 v' (dropW s ws).1.length ((dropW s ws).1.map (Value.int .i64)) ∧ Below w.heap.size w w' := by
  obtain ⟨sa, sc, rfl, _, _, _, hI⟩ := hv
  have HI := Lib.hid hI
  have Hw := Lib.hid hw
  have hmk := fun W => mk_ints ws.length (by omega) W
  have HO := Lib.hid (own_mk ws.length w.heap.size (by omega) w (Nat.le_refl _))
  have HB := Lib.hid (below_alloc w (.cells (madeCells #[.int .i64 0] ws.length) 3))
  clear hI hw
  go_enter Try.func62, Try.ntmps62
  go_wp2_with fail
  clear hmk
  go_loopw [1, 4, 14] (fun p vo i wr => ∃ (k : Nat) (D : List Int) (q : Nat), k ≤ ws.length ∧ D.length ≤ k ∧ q < n ∧ i = .int .i64 k ∧ p = .int .i64 q ∧ (D, q) = dropW s (ws.take k) ∧ wr.ownsRow w.heap.size 3 1 vo D.length (D.map (Value.int .i64)) ∧ Below w.heap.size w wr) (fun _ _ i _ => ws.length - (intOf i).toNat)
  case atStart => exact ⟨0, [], s, Nat.zero_le _, Nat.le_refl _, hs, rfl, rfl, rfl, HO.out, HB.out⟩
  case round =>
    obtain ⟨k, D, q, hk, hdk, hq, rfl, rfl, hD, hown, hbw⟩ := hrel
    have hbs := hbw.size
    by_cases hkl : k < ws.length
    · obtain ⟨x, hx⟩ : ∃ x, ws[k]? = some x := ⟨_, List.getElem?_eq_getElem hkl⟩
      have hlet : Letter n x := Hw.out x (List.mem_of_getElem? hx)
      obtain ⟨b, off, rfl, hb, hc⟩ := HI.out k x hx
      have hcx := (hbw.cell (p := ⟨b, off + k, none⟩) hb).trans hc
      have k0 : (0 : Int) ≤ (k : Int) := by omega
      have k1 : (k : Int) < (ws.length : Int) := by omega
      have hnext := dropW_next (s := s) hx
      rw [← hD] at hnext
      have CN := Lib.hid (number_any x hlet.1 (by have := hlet.2; omega) wr)
      have hj := num_lt hlet
      have hsg : sgn x = 1 ∨ sgn x = -1 := by unfold sgn; split <;> simp
      have hlx := hlet.2
      obtain ⟨j, hjn⟩ : ∃ j, j = num x := ⟨_, rfl⟩
      have hst : ∀ D' q', (if q = j ∨ q = j + 1 then D else if q < j + 1 then D ++ [x - sgn x] else D ++ [x], sw j q) = (D', q') → (D', q') = dropW s (ws.take (k + 1)) := fun D' q' h => by
        rw [hnext, ← h, hjn]
        rfl
      rw [← hjn] at CN hj
      have Hst := Lib.hid hst
      have Hown := Lib.hid hown
      have n0 : IntKind.i64.wrap (j : Int) = (j : Int) := num_in (by omega) (by omega)
      clear hc hx hlet hnext hown hjn hD hst
      by_cases a : q = j
      · have Hn := Lib.hid (Hst.out D (j + 1) (by rw [if_pos (.inl a), a, sw_l]))
        subst a
        go_wp2_with fail
        refine CN.out.mono ?_
        rintro e w3 ⟨rfl, rfl⟩
        go_wp2_with fail
        go_roundw
        case rel => exact ⟨k + 1, D, q + 1, hkl, by omega, hj, by go_num, by go_num, Hn.out, Hown.out, hbw⟩
        case measure => (simp [intOf] <;> omega)
      · by_cases c : q = j + 1
        · have Hn := Lib.hid (Hst.out D j (by rw [if_pos (.inr c), c, sw_r]))
          have c' : (q : Int) = (j : Int) + 1 := by omega
          have a' : ¬ (q : Int) = (j : Int) := by omega
          clear c a
          go_wp2_with fail
          refine CN.out.mono ?_
          rintro e w3 ⟨rfl, rfl⟩
          go_wp2_with fail
          go_roundw
          case rel => exact ⟨k + 1, D, j, hkl, by omega, by omega, by go_num, by go_num, Hn.out, Hown.out, hbw⟩
          case measure => (simp [intOf] <;> omega)
        · by_cases d : q < j + 1
          · have Hn := Lib.hid (Hst.out (D ++ [x - sgn x]) q (by rw [if_neg (by omega), if_pos d, sw_o a c]))
            have CS := Lib.hid (fun w => sign_any x w)
            have hwr : IntKind.i64.wrap (x - sgn x) = x - sgn x := IntWalk.i64_in _ (by omega)
            generalize sgn x = t at *
            have a' : ¬ (q : Int) = (j : Int) := by omega
            have c' : ¬ (q : Int) = (j : Int) + 1 := by omega
            have d' : (q : Int) < (j : Int) + 1 := by omega
            clear a c d hsg
            go_wp2_with fail
            refine CN.out.mono ?_
            rintro e w3 ⟨rfl, rfl⟩
            go_wp2_with fail
            refine (CS.out _).mono ?_
            rintro e w4 ⟨rfl, rfl⟩
            go_wp2_with (at_builtin; refine app_one (w0 := w) w.heap.size _ D (x - t) rfl _ _ rfl rfl Hown.out rfl (by omega) hbw hbs ?_; intro g cap w1 hown1 hb1)
            have HO1 := Lib.hid hown1
            clear hown1
            go_wp2_with fail
            go_roundw
            case rel => exact ⟨k + 1, D ++ [x - t], q, hkl, by simp; omega, hq, by go_num, rfl, Hn.out, by rw [List.length_append]; exact HO1.out, hb1⟩
            case measure => (simp [intOf] <;> omega)
          · have Hn := Lib.hid (Hst.out (D ++ [x]) q (by rw [if_neg (by omega), if_neg d, sw_o a c]))
            have a' : ¬ (q : Int) = (j : Int) := by omega
            have c' : ¬ (q : Int) = (j : Int) + 1 := by omega
            have d' : ¬ (q : Int) < (j : Int) + 1 := by omega
            clear a c d
            go_wp2_with fail
            refine CN.out.mono ?_
            rintro e w3 ⟨rfl, rfl⟩
            go_wp2_with (at_builtin; refine app_one (w0 := w) w.heap.size _ D x rfl _ _ rfl rfl Hown.out rfl (by omega) hbw hbs ?_; intro g cap w1 hown1 hb1)
            have HO1 := Lib.hid hown1
            clear hown1
            go_wp2_with fail
            go_roundw
            case rel => exact ⟨k + 1, D ++ [x], q, hkl, by simp; omega, hq, by go_num, rfl, Hn.out, by rw [List.length_append]; exact HO1.out, hb1⟩
            case measure => (simp [intOf] <;> omega)
    · have k1 : ¬ (k : Int) < (ws.length : Int) := by omega
      have e : k = ws.length := by omega
      rw [e, List.take_length] at hD
      have HD := Lib.hid hD
      have Hown := Lib.hid hown
      clear hown hD e
      go_wp2_with fail
      go_ret2
      exact ⟨_, by rw [← HD.out]; rfl, by rw [← HD.out]; exact Hown.out, hbw⟩
end Go.Proofs.Ytnfppebcpagjpaa
