/- The law of turns: its own helper altered; Same of valid words. -/
import Derived.Test.YtnfppebcpagjpaaCO
import Derived.Test.YtnfppebcpagjpaaCH
namespace Go.Proofs.Ytnfppebcpagjpaa
open Go.RowKit Go.Lib
theorem checkV_of {n : Nat} (h1 : 1 ≤ n) (h2 : n ≤ 12) {ws : List Int} (hl : ws.length ≤ 400) (hw : Word n ws) : checkV n ws = 0 := by
  unfold checkV
  rw [if_neg (by omega), if_neg (by omega), if_pos (List.all_eq_true.2 fun z hz => by
    have := hw z hz
    unfold isL
    exact decide_eq_true ⟨this.1, this.2.1, this.2.2⟩)]
theorem Same_is (n : Nat) (h1 : 1 ≤ n) (h2 : n ≤ 12) (xs ys : List Int) (u v : Value) (w : World) (hu : IS w u xs) (hv : IS w v ys) (hlx : xs.length ≤ 400) (hly : ys.length ≤ 400) (hx : Word n xs) (hy : Word n ys) (r : Bool) (hr : r = true ↔ Eqv n xs ys) :
    Calls Try.prog 36 #[.int .i64 (n : Int), u, v] w fun e w' => e = .returned (.tuple #[.bool r, .int .i64 0]) ∧ Below w.heap.size w w' := by
  obtain ⟨a, c, rfl, k1, k2, _, k3⟩ := hu
  obtain ⟨b, d, rfl, l1, l2, _, l3⟩ := hv
  have hb : bothV n xs ys = 0 := by unfold bothV; rw [if_pos (checkV_of h1 h2 hlx hx)]; exact checkV_of h1 h2 hly hy
  have := Same_any n xs ys a b c d w k1 k2 l1 l2 k3 l3 r (fun h => absurd hb h) (fun _ => by rw [Int.toNat_natCast, hr]; exact (nf_eq_iff h1 hx hy).symm)
  rw [hb] at this
  exact this
/-- make([]int, n). -/
theorem mk_full (n : Nat) (hn : n < 100000) (W : World) : (Instr.makeSlice 22 (.int .i64 (n : Int)) (.int .i64 (n : Int))).run Try.prog W = .ok (.slice (some ⟨W.heap.size, 0, none⟩) n n) (W.alloc (.cells (madeCells #[.int .i64 0] n) 3)) := by
  obtain ⟨i0, hi, hz0, hz1, hz2⟩ := info_parts infoInt
  have h := run_make (P := Try.prog) W 22 3 i0 (.int .i64 0) Try.underlying22 hi hz0 .i64 .i64 (n : Int) (n : Int) (by omega) (by omega) (by rw [hz2]; omega) (by omega)
  rw [hz1] at h
  simp at h
  exact h
theorem own_full (n B : Nat) (hn : n < 100000) (W : World) (hB : B ≤ W.heap.size) : (W.alloc (.cells (madeCells #[.int .i64 0] n) 3)).ownsRow B 3 1 (.slice (some ⟨W.heap.size, 0, none⟩) n n) n (madeCells #[.int .i64 0] n).toList :=
  World.ownsRow_lit W _ n hB (by unfold maxLen; omega) (by rw [size_madeCells]; simp)
/-- A word with all signs times a number, and perhaps read backwards. -/
def altL (ws : List Int) (s : Int) (back : Bool) : List Int := if back then (ws.map (s * ·)).reverse else ws.map (s * ·)
def altP (n : Nat) (back : Bool) (j : Nat) : Nat := if back then n - 1 - j else j
theorem alt_get {ws : List Int} {s : Int} {back : Bool} {j : Nat} {z : Int} (h : ws[j]? = some z) : (altL ws s back)[altP ws.length back j]? = some (s * z) := by
  have hj := (List.getElem?_eq_some_iff.1 h).1
  unfold altL altP
  cases back with
  | false => simp [h]
  | true =>
    simp only [if_true]
    rw [List.getElem?_reverse (by simp; omega), List.length_map, show ws.length - 1 - (ws.length - 1 - j) = j by omega, List.getElem?_map, h]
    rfl
theorem alt_len (ws : List Int) (s : Int) (back : Bool) : (altL ws s back).length = ws.length := by unfold altL; split <;> simp
theorem altP_lt {n j : Nat} (back : Bool) (h : j < n) : altP n back j < n := by unfold altP; split <;> omega
theorem altP_inj {n i j : Nat} {back : Bool} (hi : i < n) (hj : j < n) (h : altP n back i = altP n back j) : i = j := by unfold altP at h; split at h <;> omega
theorem alt_all {ws : List Int} {s : Int} {back : Bool} {R : List Value} (hl : R.length = ws.length) (h : ∀ j z, ws[j]? = some z → R[altP ws.length back j]? = some (Value.int .i64 (s * z))) : R = (altL ws s back).map (Value.int .i64) := by
  apply List.ext_getElem?
  intro i
  rcases Nat.lt_or_ge i ws.length with hi | hi
  · obtain ⟨j, hj, rfl⟩ : ∃ j, j < ws.length ∧ altP ws.length back j = i := by
      refine ⟨altP ws.length back i, altP_lt back hi, ?_⟩
      unfold altP
      split <;> omega
    have hz := List.getElem?_eq_getElem hj
    rw [h j _ hz, List.getElem?_map, alt_get hz]
    rfl
  · rw [List.getElem?_eq_none (by omega), List.getElem?_eq_none (by simp [alt_len]; omega)]
set_option maxHeartbeats 1000000 in
set_option maxRecDepth 100000 in
theorem altered_any (ws : List Int) (s : Int) (hs : s = 1 ∨ s = -1) (back : Bool) (v : Value) (w : World) (hv : IS w v ws) (hz : ∀ z ∈ ws, -100000 < z ∧ z < 100000) (hl : ws.length ≤ 500) :
    Calls Try.prog 47 #[v, .int .i64 s, .bool back] w fun e w' => ∃ v', e = .returned v' ∧ w'.ownsRow w.heap.size 3 1 v' (altL ws s back).length ((altL ws s back).map (Value.int .i64)) ∧ Below w.heap.size w w' := by
  obtain ⟨sa, sc, rfl, _, _, _, hI⟩ := hv
  have HI := Lib.hid hI
  have Hz := Lib.hid hz
  have Hs := Lib.hid hs
  have hmk := fun W => mk_full ws.length (by omega) W
  have HO := Lib.hid (own_full ws.length w.heap.size (by omega) w (Nat.le_refl _))
  have HB := Lib.hid (below_alloc w (.cells (madeCells #[.int .i64 0] ws.length) 3))
  clear hI hz hs
  go_enter Try.func47, Try.ntmps47
  go_wp2_with fail
  clear hmk
  go_loopw [8] (fun i wr => ∃ (k : Nat) (R : List Value), k ≤ ws.length ∧ i = .int .i64 k ∧ R.length = ws.length ∧ (∀ j z, j < k → ws[j]? = some z → R[altP ws.length back j]? = some (.int .i64 (s * z))) ∧ wr.ownsRow w.heap.size 3 1 (.slice (some ⟨w.heap.size, 0, none⟩) ws.length ws.length) ws.length R ∧ Below w.heap.size w wr) (fun i _ => ws.length - (intOf i).toNat)
  case atStart => exact ⟨0, _, Nat.zero_le _, rfl, by simp [size_madeCells], fun j z h => by omega, HO.out, HB.out⟩
  case round =>
    obtain ⟨k, R, hk, rfl, hRl, hR, hown, hbw⟩ := hrel
    have HR := Lib.hid hR
    have HRl := Lib.hid hRl
    clear hR hRl
    by_cases hkl : k < ws.length
    · obtain ⟨x, hx⟩ : ∃ x, ws[k]? = some x := ⟨_, List.getElem?_eq_getElem hkl⟩
      have hxz := Hz.out x (List.mem_of_getElem? hx)
      obtain ⟨b, off, rfl, hb, hc⟩ := HI.out k x hx
      have hcx := (hbw.cell (p := ⟨b, off + k, none⟩) hb).trans hc
      have hwn : IntKind.i64.wrap (s * x) = s * x := by
        rcases Hs.out with rfl | rfl
        · exact IntWalk.i64_in _ (by omega)
        · exact IntWalk.i64_in _ (by omega)
      have k0 : (0 : Int) ≤ (k : Int) := by omega
      have k1 : (k : Int) < (ws.length : Int) := by omega
      obtain ⟨p, hp⟩ : ∃ p, p = altP ws.length back k := ⟨_, rfl⟩
      have hpl : p < ws.length := by rw [hp]; exact altP_lt back hkl
      have Hnext := Lib.hid (show ∀ j z, j < k + 1 → ws[j]? = some z → (R.set p (.int .i64 (s * x)))[altP ws.length back j]? = some (.int .i64 (s * z)) by
        intro j z hj hjz
        rw [List.getElem?_set, HRl.out]
        by_cases e : j = k
        · subst e
          rw [if_pos hp, if_pos hpl]
          have := Option.some.inj (hx.symm.trans hjz)
          rw [this]
        · have hjl := (List.getElem?_eq_some_iff.1 hjz).1
          rw [if_neg (fun h => e (altP_inj hjl hkl (by rw [← h, hp]))), HR.out j z (by omega) hjz])
      obtain ⟨R0, hR0⟩ : ∃ y, R[p]? = some y := ⟨_, List.getElem?_eq_getElem (by rw [HRl.out]; exact hpl)⟩
      have cp := (hown.cellAt p (by omega)).trans hR0
      have fp := hown.frozenAt p
      have hst := Lib.hid (hown.stored p (.int .i64 (s * x))).1
      have hB2 := Lib.hid (hbw.setCell (p := ⟨w.heap.size, p, none⟩) (Nat.le_refl _) (.int .i64 (s * x)))
      have p0 : (0 : Int) ≤ (p : Int) := by omega
      have p1 : (p : Int) < (ws.length : Int) := by omega
      have n1 : IntKind.i64.wrap ((ws.length : Int) - 1) = ((ws.length - 1 : Nat) : Int) := num_in (by omega) (by omega)
      clear hown hbw hc hx hxz hR0
      cases back with
      | false =>
        obtain rfl : p = k := hp
        go_wp2_with fail
        go_roundw
        case rel => exact ⟨p + 1, _, hkl, by go_num, by rw [List.length_set]; exact HRl.out, Hnext.out, hst.out, hB2.out⟩
        case measure => (simp [intOf] <;> omega)
      | true =>
        have hpk : p = ws.length - 1 - k := hp
        have n2 : IntKind.i64.wrap (((ws.length - 1 : Nat) : Int) - (k : Int)) = (p : Int) := num_in (by omega) (by omega)
        clear hp hpk
        go_wp2_with fail
        go_roundw
        case rel => exact ⟨k + 1, _, hkl, by go_num, by rw [List.length_set]; exact HRl.out, Hnext.out, hst.out, hB2.out⟩
        case measure => (simp [intOf] <;> omega)
    · have e : R = (altL ws s back).map (Value.int .i64) := alt_all HRl.out (fun j z h => HR.out j z (by have := (List.getElem?_eq_some_iff.1 h).1; omega) h)
      rw [e] at hown
      have Hown := Lib.hid hown
      have k1 : ¬ (k : Int) < (ws.length : Int) := by omega
      clear hown e
      go_wp2_with fail
      go_ret
      exact ⟨_, rfl, by rw [alt_len]; exact Hown.out, hbw⟩
end Go.Proofs.Ytnfppebcpagjpaa
