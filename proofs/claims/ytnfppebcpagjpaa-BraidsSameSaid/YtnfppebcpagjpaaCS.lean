/- Perm: the program's and the reference's walked. -/
import Derived.Test.YtnfppebcpagjpaaCR
namespace Go.Proofs.Ytnfppebcpagjpaa
open Go.RowKit Go.Lib
/-- What Perm hands out. -/
def permL (n : Nat) (ws : List Int) : List Int := ints n (lineP ws).inv
theorem fill_all {n : Nat} {s : Pm} (hs : s.In n) {R : List Value} (hl : R.length = n) (h : ∀ j, j < n → R[s.f j]? = some (Value.int .i64 (j : Int))) : R = (ints n s.inv).map (Value.int .i64) := by
  apply List.ext_getElem?
  intro i
  rcases Nat.lt_or_ge i n with hi | hi
  · have := h (s.g i) (hs.glt hi)
    rw [s.fg] at this
    rw [this, List.getElem?_map, ints_get _ hi]
    rfl
  · rw [List.getElem?_eq_none (by omega), List.getElem?_eq_none (by simp [ints_len]; omega)]
theorem fill_next {n k : Nat} {s : Pm} (hs : s.In n) {R : List Value} (hk : k < n) (hl : R.length = n) (h : ∀ j, j < k → R[s.f j]? = some (Value.int .i64 (j : Int))) :
    ∀ j, j < k + 1 → (R.set (s.f k) (.int .i64 (k : Int)))[s.f j]? = some (Value.int .i64 (j : Int)) := fun j hj => by
  rw [List.getElem?_set]
  by_cases e : j = k
  · subst e
    rw [if_pos rfl, if_pos (by rw [hl]; exact hs.lt hk)]
  · rw [if_neg (fun h => e (s.inj h.symm)), h j (by omega)]
set_option maxHeartbeats 1000000 in
set_option maxRecDepth 100000 in
theorem refends_any (n : Nat) (hn : n ≤ 12) (s : Pm) (hs : s.In n) (v : Value) (w : World) (hv : IS w v (ints n s)) :
    Calls Try.prog 58 #[v] w fun e w' => ∃ v', e = .returned v' ∧ w'.ownsRow w.heap.size 3 1 v' n ((ints n s.inv).map (Value.int .i64)) ∧ Below w.heap.size w w' := by
  obtain ⟨sa, sc, rfl, _, _, _, hI⟩ := hv
  rw [ints_len]
  have HI := Lib.hid hI
  have Hs := Lib.hid hs
  have hmk := fun W => mk_full n (by omega) W
  have HO := Lib.hid (own_full n w.heap.size (by omega) w (Nat.le_refl _))
  have HB := Lib.hid (below_alloc w (.cells (madeCells #[.int .i64 0] n) 3))
  clear hI hs
  go_enter Try.func58, Try.ntmps58
  go_wp2_with fail
  clear hmk
  go_loopw [4] (fun i wr => ∃ (k : Nat) (R : List Value), k ≤ n ∧ i = .int .i64 k ∧ R.length = n ∧ (∀ j, j < k → R[s.f j]? = some (.int .i64 (j : Int))) ∧ wr.ownsRow w.heap.size 3 1 (.slice (some ⟨w.heap.size, 0, none⟩) n n) n R ∧ Below w.heap.size w wr) (fun i _ => n - (intOf i).toNat)
  case atStart => exact ⟨0, _, Nat.zero_le _, rfl, by simp [size_madeCells], fun j h => by omega, HO.out, HB.out⟩
  case round =>
    obtain ⟨k, R, hk, rfl, hRl, hR, hown, hbw⟩ := hrel
    have HR := Lib.hid hR
    have HRl := Lib.hid hRl
    clear hR hRl
    by_cases hkl : k < n
    · obtain ⟨b, off, rfl, hb, hc⟩ := HI.out k _ (ints_get s hkl)
      have hcx := (hbw.cell (p := ⟨b, off + k, none⟩) hb).trans hc
      have hfl := Hs.out.lt hkl
      have Hnext := Lib.hid (fill_next Hs.out hkl HRl.out HR.out)
      obtain ⟨R0, hR0⟩ : ∃ y, R[s.f k]? = some y := ⟨_, List.getElem?_eq_getElem (by rw [HRl.out]; exact hfl)⟩
      have cp := (hown.cellAt (s.f k) (by omega)).trans hR0
      have fp := hown.frozenAt (s.f k)
      have hst := Lib.hid (hown.stored (s.f k) (.int .i64 (k : Int))).1
      have hB2 := Lib.hid (hbw.setCell (p := ⟨w.heap.size, s.f k, none⟩) (Nat.le_refl _) (.int .i64 (k : Int)))
      have p0 : (0 : Int) ≤ (s.f k : Int) := by omega
      have p1 : (s.f k : Int) < (n : Int) := by omega
      have k0 : (0 : Int) ≤ (k : Int) := by omega
      have k1 : (k : Int) < (n : Int) := by omega
      clear hown hbw hc hR0
      go_wp2_with fail
      go_roundw
      case rel => exact ⟨k + 1, _, hkl, by go_num, by rw [List.length_set]; exact HRl.out, Hnext.out, hst.out, hB2.out⟩
      case measure => (simp [intOf] <;> omega)
    · have k1 : ¬ (k : Int) < (n : Int) := by omega
      have e := fill_all Hs.out HRl.out (fun j h => HR.out j (by omega))
      rw [e] at hown
      have Hown := Lib.hid hown
      clear hown e
      go_wp2_with fail
      go_ret
      exact ⟨_, rfl, Hown.out, hbw⟩
/-- What Perm hands out, at an error as well. -/
def permV (n : Int) (ws : List Int) : List Int := if checkV n ws = 0 then permL n.toNat ws else []
set_option maxHeartbeats 1000000 in
set_option maxRecDepth 100000 in
theorem Perm_any (n : Int) (ws : List Int) (v : Value) (w : World) (hv : IS w v ws) :
    Calls Try.prog 24 #[.int .i64 n, v] w fun e w' => ∃ v', e = .returned (.tuple #[v', .int .i64 (checkV n ws)]) ∧ IS w' v' (permV n ws) ∧ Below w.heap.size w w' := by
  obtain ⟨sa, sc, rfl, h1, h2, _, hI⟩ := hv
  have CK := Lib.hid (Check_any n ws sa sc w h1 h2 hI)
  have HI := Lib.hid hI
  have hok := fun h => checkV_ok (n := n) (ws := ws) h
  have HS := Lib.hid (show checkV n ws ≠ 0 → permV n ws = [] from fun h => if_neg h)
  have HT := Lib.hid (show checkV n ws = 0 → permV n ws = permL n.toNat ws from fun h => if_pos h)
  obtain ⟨c, hc⟩ : ∃ c, c = checkV n ws := ⟨_, rfl⟩
  rw [← hc] at CK hok HS HT ⊢
  have HO := Lib.hid hok
  clear hok hI hc
  by_cases h : c = 0
  · have hn := HT.out h
    obtain ⟨m, rfl, m1, m2, hl, hw⟩ := HO.out h
    rw [Int.toNat_natCast] at hn
    have Hn := Lib.hid hn
    have Hw := Lib.hid hw
    subst h
    have hmk := fun W => mk_full m (by omega) W
    clear HO HS HT hn hw
    go_enter Try.func24, Try.ntmps24
    go_wp2_with fail
    refine CK.out.mono ?_
    rintro e w1 ⟨rfl, B1⟩
    have HB1 := Lib.hid B1
    clear B1
    go_wp2_with fail
    refine (newLine_any w1).mono ?_
    rintro e w2 ⟨rfl, B2⟩
    have HB2 := Lib.hid (bon HB1.out B2)
    clear B2
    go_wp2_with (refine wpList_store_row rfl 61 (.tmp 7) (.tmp 18) rfl w2.heap.size (pc idP) rfl rfl 61 _ (heap_alloc_new _ _) (hiLn _) rfl (pc_one _) ?_)
    have hz2 : w.heap.size ≤ w2.heap.size := HB2.out.size
    go_loopw [21] (fun i wr => ∃ k : Nat, k ≤ ws.length ∧ i = .int .i64 k ∧ wr.heap[w2.heap.size]? = some (.cells (pc (lineP (ws.take k))) 61 (0, 0)) ∧ Below w2.heap.size w2 wr) (fun i _ => ws.length - (intOf i).toNat)
    case atStart => exact ⟨0, Nat.zero_le _, rfl, setRow_heap _ _ _ _ _ _ (heap_alloc_new _ _), below_setRow (below_alloc w2 _) (Nat.le_refl _) _⟩
    case round =>
      obtain ⟨k, hk, rfl, hrow, hbw⟩ := hrel
      have Hrow := Lib.hid hrow
      clear hrow
      by_cases hkl : k < ws.length
      · obtain ⟨x, hx⟩ : ∃ x, ws[k]? = some x := ⟨_, List.getElem?_eq_getElem hkl⟩
        have hlet : Letter m x := Hw.out x (List.mem_of_getElem? hx)
        obtain ⟨b, off, rfl, hb, hc⟩ := HI.out k x hx
        have hcx := ((HB2.out.trans (hbw.mono hz2)).cell (p := ⟨b, off + k, none⟩) hb).trans hc
        have k0 : (0 : Int) ≤ (k : Int) := by omega
        have k1 : (k : Int) < (ws.length : Int) := by omega
        have Hnext := Lib.hid (lineP_next hx)
        have CC := Lib.hid (cross_any w2.heap.size (lineP (ws.take k)) (num x) x rfl (by have := num_lt hlet; omega) hlet.1 (by have := hlet.2; omega) wr Hrow.out)
        clear hc hx hlet
        go_wp2_with fail
        refine CC.out.mono ?_
        rintro e w3 ⟨rfl, R3, B3⟩
        have HR3 := Lib.hid R3
        have HB3 := Lib.hid (hbw.trans B3)
        clear R3 B3 CC
        go_wp2_with fail
        go_roundw
        case rel => exact ⟨k + 1, hkl, by go_num, by rw [Hnext.out]; exact HR3.out, HB3.out⟩
        case measure => (simp [intOf] <;> omega)
      · have k1 : ¬ (k : Int) < (ws.length : Int) := by omega
        have e : k = ws.length := by omega
        have hrow := Hrow.out
        rw [e, List.take_length] at hrow
        have hsm := lineP_in ws Hw.out
        obtain ⟨s, hs⟩ : ∃ s, s = lineP ws := ⟨_, rfl⟩
        rw [← hs] at hrow hsm
        have Hsm := Lib.hid hsm
        have Hs := Lib.hid hs
        have Hrw := Lib.hid hrow
        have hz3 := hbw.size
        have hz4 := (Array.getElem?_eq_some_iff.1 hrow).1
        have HO := Lib.hid (own_full m (w2.heap.size + 1) (by omega) wr hz4)
        have HBO := Lib.hid (below_alloc wr (.cells (madeCells #[.int .i64 0] m) 3))
        have HBw := Lib.hid (HB2.out.trans (hbw.mono hz2))
        clear Hrow hrow hsm hs e hbw
        go_wp2_with fail
        clear hmk
        rename World => wr
        go_loopw [31] (fun i wy => ∃ (k : Nat) (R : List Value), k ≤ m ∧ i = .int .i64 k ∧ R.length = m ∧ (∀ j, j < k → R[s.f j]? = some (.int .i64 (j : Int))) ∧ wy.ownsRow (w2.heap.size + 1) 3 1 (.slice (some ⟨wr.heap.size, 0, none⟩) m m) m R ∧ Below wr.heap.size wr wy) (fun i _ => m - (intOf i).toNat)
        case atStart => exact ⟨0, _, Nat.zero_le _, rfl, by simp [size_madeCells], fun j h => by omega, HO.out, HBO.out⟩
        case round =>
          obtain ⟨k, R, hk, rfl, hRl, hR, hown, hby⟩ := hrel
          rename World => wy
          have HR := Lib.hid hR
          have HRl := Lib.hid hRl
          clear hR hRl
          by_cases hkm : k < m
          · have hfl := Hsm.out.lt hkm
            have hrow := (hby.block w2.heap.size hz4).trans Hrw.out
            have cl := (cell_of_row wy w2.heap.size k _ _ _ hrow).trans (pc_get s (by omega))
            have Hnext := Lib.hid (fill_next Hsm.out hkm HRl.out HR.out)
            obtain ⟨R0, hR0⟩ : ∃ y, R[s.f k]? = some y := ⟨_, List.getElem?_eq_getElem (by rw [HRl.out]; exact hfl)⟩
            have cp := (hown.cellAt (s.f k) (by omega)).trans hR0
            have fp := hown.frozenAt (s.f k)
            have hst := Lib.hid (hown.stored (s.f k) (.int .i64 (k : Int))).1
            have hB2 := Lib.hid (hby.setCell (p := ⟨wr.heap.size, s.f k, none⟩) (Nat.le_refl _) (.int .i64 (k : Int)))
            have p0 : (0 : Int) ≤ (s.f k : Int) := by omega
            have p1 : (s.f k : Int) < (m : Int) := by omega
            have k0 : (0 : Int) ≤ (k : Int) := by omega
            have k1 : (k : Int) < (m : Int) := by omega
            have k2 : (k : Int) < 12 := by omega
            clear hown hby hR0 hrow
            go_wp2_with fail
            go_roundw
            case rel => exact ⟨k + 1, _, hkm, by go_num, by rw [List.length_set]; exact HRl.out, Hnext.out, hst.out, hB2.out⟩
            case measure => (simp [intOf] <;> omega)
          · have k1 : ¬ (k : Int) < (m : Int) := by omega
            have e := fill_all Hsm.out HRl.out (fun j h => HR.out j (by omega))
            rw [e] at hown
            have Hown := Lib.hid hown
            have HBy := Lib.hid (bon HBw.out hby)
            clear hown e hby
            go_wp2_with fail
            go_ret2
            exact ⟨_, rfl, by rw [Hn.out, permL, ← Hs.out]; exact is_own Hown.out (ints_len _ _), HBy.out⟩
  · have hn := Lib.hid (HS.out h)
    go_enter Try.func24, Try.ntmps24
    go_wp2_with fail
    refine CK.out.mono ?_
    rintro e w1 ⟨rfl, B1⟩
    go_wp2_with fail
    go_ret2
    exact ⟨.slice none 0 0, rfl, by rw [hn.out]; exact is_nil _, B1⟩
end Go.Proofs.Ytnfppebcpagjpaa
