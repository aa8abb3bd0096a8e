/- List of package words. -/
import Derived.Test.YtkbmdmipdcjjcaaGreatDoorT
namespace Go.Proofs.YtkbmdmipdcjjcaaGreatDoor
open Go.RowKit

/-- The texts from each index on, when the last m of them are made. -/
def tlF (zs : List Int) : Nat → Nat → ByteArray
  | 0, _ => ⟨#[]⟩
  | m + 1, j => if j = zs.length - 1 - m then ⟨#[44]⟩ ++ bestOf (tlF zs m) (itL zs (zs.length - 1 - m)) else tlF zs m j
def listS (zs : List Int) : List UInt8 := Lib.trimPrefix (tlF zs zs.length 0).data.toList [44]
def rangeB (zs : List Int) : Bool := zs.all fun z => decide (0 ≤ z) && decide (z ≤ 9999)
def listP (zs : List Int) : List UInt8 × Int := if 500 < zs.length then ([], 3) else if rangeB zs then (listS zs, 0) else ([], 7)

theorem itL_size (zs : List Int) (hz : ∀ z ∈ zs, 0 ≤ z ∧ z ≤ 9999) (hlen : zs.length ≤ 500) (i : Nat) : ∀ x ∈ itL zs i, x.1.size ≤ 64 := by
  intro x hx
  have hU := cntP_le (upP zs) zs.length (i + 1)
  have hE := cntP_le (eqP zs i) zs.length (i + 1)
  unfold itL upN eqN at hx
  rcases List.mem_cons.1 hx with rfl | hx
  · have hg := getD_bd hz i
    have := numS_size (zs.getD i 0) (by omega) (by omega)
    show (numS (zs.getD i 0)).size ≤ 64
    omega
  · rcases List.mem_append.1 hx with hx | hx
    · obtain ⟨m, _, rfl⟩ := List.mem_map.1 hx
      exact upS_size zs i _ hz
    · obtain ⟨m, hm, rfl⟩ := List.mem_map.1 hx
      rw [List.mem_range] at hm
      have hg := getD_bd hz i
      have h1 := numS_size (zs.getD i 0) (by omega) (by omega)
      have h2 := numS_size (((i + 1 + m : Nat) : Int) - (i : Int) + 1) (by omega) (by omega)
      show (eqS zs i (i + 1 + m)).size ≤ 64
      unfold eqS
      rw [ByteArray.size_append, ByteArray.size_append]
      have h3 : (ByteArray.mk #[120]).size = 1 := rfl
      omega
theorem bestOf_sizeK (T : Nat → ByteArray) (K : Nat) (hT : ∀ j, (T j).size ≤ K) (l : List (ByteArray × Nat)) (h : ∀ x ∈ l, x.1.size ≤ 64) : (bestOf T l).size ≤ 64 + K := by
  unfold bestOf
  have : ∀ (l : List (ByteArray × Nat)) (b : ByteArray), b.size ≤ 64 + K → (∀ x ∈ l, x.1.size ≤ 64) → (l.foldl (stepB T) b).size ≤ 64 + K := by
    intro l
    induction l with
    | nil => intro b hb _; exact hb
    | cons x l ih =>
      intro b hb hx
      refine ih _ ?_ (fun y hy => hx y (List.mem_cons_of_mem _ hy))
      have h1 := hx x (List.mem_cons_self ..)
      have h2 := hT x.2
      unfold stepB
      split
      · rw [ByteArray.size_append]; omega
      · split
        · rw [ByteArray.size_append]; omega
        · exact hb
  exact this l _ (Nat.zero_le _) h
theorem tlF_size (zs : List Int) (hz : ∀ z ∈ zs, 0 ≤ z ∧ z ≤ 9999) (hlen : zs.length ≤ 500) : ∀ (m j : Nat), m ≤ zs.length → (tlF zs m j).size ≤ 65 * m
  | 0, _, _ => Nat.le_refl _
  | m + 1, j, hm => by
    unfold tlF
    split
    · have := bestOf_sizeK (tlF zs m) (65 * m) (fun j => tlF_size zs hz hlen m j (by omega)) (itL zs (zs.length - 1 - m)) (itL_size zs hz hlen _)
      rw [ByteArray.size_append]
      have h3 : (ByteArray.mk #[44]).size = 1 := rfl
      omega
    · have := tlF_size zs hz hlen m j (by omega)
      omega

def ListPost (w : World) (zs : List Int) (e : Ending) (w' : World) : Prop := e = .returned (.tuple #[.string ⟨(listP zs).1.toArray⟩, .int .i64 (listP zs).2]) ∧ Below w.heap.size w w'
theorem infoStr : (Tryz.prog.info? 9).map (fun i => (i.zero, i.size, i.bytes)) = some (some (.string ⟨#[]⟩), 1, 16) := by kernel_rfl

set_option maxHeartbeats 400000 in
theorem List_long (zs : List Int) (a : Option Addr) (cap : Nat) (w : World) (h : 500 < zs.length) (hl : zs.length ≤ maxLen) :
    Calls Tryz.prog 7 #[.slice a zs.length cap] w (ListPost w zs) := by
  have hP : ListPost w zs (.returned (.tuple #[.string ⟨#[]⟩, .int .i64 3])) w := by unfold ListPost listP; rw [if_pos h]; exact ⟨rfl, Below.refl _ _⟩
  unfold maxLen at hl
  go_enter Tryz.func7, Tryz.ntmps7
  go_wp2_with fail
  go_ret2
  exact hP

theorem made_at (z : Value) (n j : Nat) (h : j < n) : (madeCells #[z] n)[j]? = some z := by
  rw [← Array.getElem?_toList, toList_madeCells_one, List.getElem?_replicate, if_pos h]

theorem getD_mem {zs : List Int} {k : Nat} (h : k < zs.length) : zs.getD k 0 = zs[k] := by simp [List.getD, h]
theorem rangeB_bad {zs : List Int} {k : Nat} (h : k < zs.length) (hb : zs.getD k 0 < 0 ∨ 9999 < zs.getD k 0) : rangeB zs = false := by
  rw [getD_mem h] at hb
  unfold rangeB
  rw [List.all_eq_false]
  exact ⟨zs[k], List.getElem_mem h, by simp; omega⟩
theorem rangeB_end {zs : List Int} (h : ∀ j, j < zs.length → 0 ≤ zs.getD j 0 ∧ zs.getD j 0 ≤ 9999) : rangeB zs = true ∧ ∀ z ∈ zs, 0 ≤ z ∧ z ≤ 9999 := by
  have hz : ∀ z ∈ zs, 0 ≤ z ∧ z ≤ 9999 := by
    intro z hz
    obtain ⟨k, hk, rfl⟩ := List.getElem_of_mem hz
    have := h k hk
    rwa [getD_mem hk] at this
  refine ⟨?_, hz⟩
  unfold rangeB
  rw [List.all_eq_true]
  intro z hzm
  have := hz z hzm
  simp; omega

set_option maxRecDepth 100000 in
set_option maxHeartbeats 2000000 in
theorem List_empty (a : Option Addr) (cap : Nat) (w : World) :
    Calls Tryz.prog 7 #[.slice a 0 cap] w (ListPost w []) := by
  have hT := fun w => Tryz.strings_TrimPrefix ⟨#[]⟩ ⟨#[44]⟩ w
  rw [show (⟨(Lib.trimPrefix (ByteArray.mk #[]).data.toList (ByteArray.mk #[44]).data.toList).toArray⟩ : ByteArray) = ⟨#[]⟩ from rfl] at hT
  obtain ⟨i0, hi, hz0, hz1, hz2⟩ := info_parts infoStr
  have hmk : ∀ W : World, (Instr.makeSlice 47 (.int .i64 1) (.int .i64 1)).run Tryz.prog W = .ok (.slice (some ⟨W.heap.size, 0, none⟩) 1 1) (W.alloc (.cells #[.string ⟨#[]⟩] 9)) := fun W => by
    have h := run_make (P := Tryz.prog) W 47 9 i0 (.string ⟨#[]⟩) Tryz.underlying47 hi hz0 .i64 .i64 1 1 (by omega) (by omega) (by rw [hz2]; omega) (by omega)
    rw [hz1] at h
    have e : madeCells #[Value.string ⟨#[]⟩] 1 = #[.string ⟨#[]⟩] := by apply Array.toList_inj.1; rw [toList_madeCells_one]; rfl
    rw [← e]
    exact h
  have hP : ∀ w', Below w.heap.size w w' → ListPost w [] (.returned (.tuple #[.string ⟨#[]⟩, .int .i64 0])) w' := fun w' hb => ⟨rfl, hb⟩
  have HP := Lib.hid hP
  clear hP hi
  go_enter Tryz.func7, Tryz.ntmps7
  go_wp2_with fail
  go_loopw [13] (fun i wr => i = .int .i64 0 ∧ Below w.heap.size w wr) (fun _ _ => 0)
  case atStart => exact ⟨rfl, Below.refl _ _⟩
  case round =>
    obtain ⟨rfl, hbr⟩ := hrel
    have hbz := hbr.size
    go_wp2_with fail
    go_loopw [7] (fun i wx => i = .int .i64 (-1) ∧ Below w.heap.size w wx ∧ wx.cell? ⟨wr.heap.size, 0, none⟩ = some (.string ⟨#[]⟩)) (fun _ _ => 0)
    case atStart => exact ⟨rfl, hbr.alloc hbz _, cell_new0 _ _ _⟩
    case round =>
      obtain ⟨rfl, hbx, hcx⟩ := hrel
      go_wp2_with fail
      refine (hT _).mono ?_
      rintro e w' ⟨rfl, rfl⟩
      go_wp2_with fail
      go_ret2
      exact HP.out _ hbx

theorem tlF_top (zs : List Int) (m : Nat) : tlF zs (m + 1) (zs.length - 1 - m) = ⟨#[44]⟩ ++ bestOf (tlF zs m) (itL zs (zs.length - 1 - m)) := by
  conv => lhs; unfold tlF
  rw [if_pos rfl]
theorem tlF_other (zs : List Int) (m j : Nat) (hj : j ≠ zs.length - 1 - m) : tlF zs (m + 1) j = tlF zs m j := by
  conv => lhs; unfold tlF
  rw [if_neg hj]

set_option maxRecDepth 100000 in
set_option maxHeartbeats 4000000 in
theorem List_rest (zs : List Int) (b off cap : Nat) (w : World) (g : Glob w) (hlen : zs.length ≤ 500) (hne : 0 < zs.length) (hb : b < w.heap.size)
    (hcs : ∀ j, j < zs.length → w.cell? ⟨b, off + j, none⟩ = some (.int .i64 (zs.getD j 0))) :
    Calls Tryz.prog 7 #[.slice (some ⟨b, off, none⟩) zs.length cap] w (ListPost w zs) := by
  have Hcs := Lib.hid hcs
  have hPb : rangeB zs = false → ListPost w zs (.returned (.tuple #[.string ⟨#[]⟩, .int .i64 7])) w := fun h => by
    unfold ListPost listP; rw [if_neg (by omega), h]; exact ⟨rfl, Below.refl _ _⟩
  have hPg : rangeB zs = true → ∀ w', Below w.heap.size w w' → ListPost w zs (.returned (.tuple #[.string ⟨(listS zs).toArray⟩, .int .i64 0])) w' := fun h w' hb => by
    unfold ListPost listP; rw [if_neg (by omega), if_pos h]; exact ⟨rfl, hb⟩
  have HPb := Lib.hid hPb
  have HPg := Lib.hid hPg
  obtain ⟨i0, hi, hz0, hz1, hz2⟩ := info_parts infoStr
  obtain ⟨M, hM⟩ : ∃ M, M = madeCells (Value.string ⟨#[]⟩).cells (zs.length + 1) := ⟨_, rfl⟩
  have hMs : M.size = zs.length + 1 := by rw [hM]; exact size_madeCells _ _
  have hMat : ∀ j, j < zs.length + 1 → M[j]? = some (.string ⟨#[]⟩) := fun j hj => by rw [hM]; exact made_at _ _ _ hj
  have hmk : ∀ W : World, (Instr.makeSlice 47 (.int .i64 ((zs.length : Int) + 1)) (.int .i64 ((zs.length : Int) + 1))).run Tryz.prog W = .ok (.slice (some ⟨W.heap.size, 0, none⟩) (zs.length + 1) (zs.length + 1)) (W.alloc (.cells M 9)) := fun W => by
    have h := run_make (P := Tryz.prog) W 47 9 i0 (.string ⟨#[]⟩) Tryz.underlying47 hi hz0 .i64 .i64 ((zs.length : Int) + 1) ((zs.length : Int) + 1) (by omega) (by omega) (by rw [hz2]; omega) (by omega)
    have e : ((zs.length : Int) + 1).toNat = zs.length + 1 := by omega
    rw [hz1, e, Nat.mul_one, ← hM] at h
    exact h
  have HMat := Lib.hid hMat
  have HMs := Lib.hid hMs
  clear hcs hPb hPg hM hMs hMat hi
  have hbz := hb
  go_enter Tryz.func7, Tryz.ntmps7
  go_wp2_with fail
  go_loop [13] (fun i => ∃ k : Nat, k ≤ zs.length ∧ i = .int .i64 k ∧ ∀ j, j < k → 0 ≤ zs.getD j 0 ∧ zs.getD j 0 ≤ 9999) (fun i => zs.length - (intOf i).toNat)
  case atStart => exact ⟨0, Nat.zero_le _, rfl, fun j hj => by omega⟩
  case round =>
    obtain ⟨k, hk, rfl, hall⟩ := hrel
    have Hall := Lib.hid hall
    clear hall
    by_cases hkl : k < zs.length
    · have ck := Hcs.out k hkl
      have hbad := fun h => rangeB_bad hkl h
      obtain ⟨z, hz⟩ : ∃ z, zs.getD k 0 = z := ⟨_, rfl⟩
      rw [hz] at ck hbad
      have Hz := Lib.hid hz
      have Hbad := Lib.hid hbad
      clear hz hbad
      by_cases h1 : z < 0
      · go_wp2_with fail
        go_ret2
        exact HPb.out (Hbad.out (.inl h1))
      · by_cases h2 : 9999 < z
        · go_wp2_with fail
          go_ret2
          exact HPb.out (Hbad.out (.inr h2))
        · go_wp2_with fail
          go_round
          case rel =>
            refine ⟨k + 1, by omega, by go_num, fun j hj => ?_⟩
            by_cases hjk : j < k
            · exact Hall.out j hjk
            · obtain rfl : j = k := by omega
              rw [Hz.out]; omega
          case measure => simp [intOf]; omega
    · obtain rfl : k = zs.length := by omega
      obtain ⟨hrg, hzz⟩ := rangeB_end Hall.out
      have Hrg := Lib.hid hrg
      have Hzz := Lib.hid hzz
      clear hrg hzz
      go_wp2_with fail
      go_loopw [7] (fun i wr => ∃ (m : Nat) (cur : Array Value), m ≤ zs.length ∧ i = .int .i64 ((zs.length : Int) - 1 - (m : Int)) ∧ wr.heap[w.heap.size]? = some (.cells cur 9 (0, 0)) ∧ cur.size = zs.length + 1 ∧ (∀ j, j < zs.length + 1 → cur[j]? = some (.string (tlF zs m j))) ∧ Below w.heap.size w wr) (fun i _ => (intOf i + 1).toNat)
      case atStart => exact ⟨0, M, Nat.zero_le _, by simp, heap_alloc_new w _, HMs.out, fun j hj => HMat.out j hj, (Below.refl _ w).alloc (Nat.le_refl _) _⟩
      case round =>
        obtain ⟨m, cur, hm, rfl, hrow, hcur, hcells, hbr⟩ := hrel
        have hbrz := hbr.size
        have hrow0 := (Array.getElem?_eq_some_iff.1 hrow).1
        by_cases hml : m < zs.length
        · obtain ⟨p, hp⟩ : ∃ p, zs.length - 1 - m = p := ⟨_, rfl⟩
          have hpi : (zs.length : Int) - 1 - (m : Int) = (p : Int) := by omega
          rw [hpi]
          have hpl : p < zs.length := by omega
          have hB := bestText_any b off cap p w.heap.size zs (tlF zs m) (zs.length + 1) wr (g.next hbr) hlen Hzz.out hpl (by omega) hrow0
            (fun j hj => (hbr.cell (p := ⟨b, off + j, none⟩) hb).trans (Hcs.out j hj))
            (fun j hj => by rw [cell_of_row _ _ _ _ _ _ hrow]; exact hcells j (by omega))
            (fun j => by have := tlF_size zs Hzz.out hlen m j (by omega); omega)
          have hbl := bestOf_sizeK (tlF zs m) 32500 (fun j => by have := tlF_size zs Hzz.out hlen m j (by omega); omega) (itL zs p) (itL_size zs Hzz.out hlen p)
          have htop := tlF_top zs m
          rw [hp] at htop
          generalize bestOf (tlF zs m) (itL zs p) = best at *
          have Htop := Lib.hid htop
          have Hp := Lib.hid hp
          have Hcells := Lib.hid hcells
          have Hrow := Lib.hid hrow
          have Hcur := Lib.hid hcur
          clear htop hp hcells hpi hrow hcur hmk
          go_wp2_with fail
          refine hB.mono ?_
          clear hB
          rintro e w1 ⟨rfl, hb1⟩
          have hrow1 : w1.heap[w.heap.size]? = some (.cells cur 9 (0, 0)) := (hb1.block _ hrow0).trans Hrow.out
          have hc1 := cell_of_row w1 w.heap.size p cur _ _ hrow1
          rw [Hcells.out p (by omega)] at hc1
          have hf1 := frozen_of_row w1 w.heap.size p cur _ hrow1
          have hb1z := hb1.size
          have hrowS := heap_setCell_same w1 w.heap.size p cur 9 (.string (⟨#[44]⟩ ++ best)) hrow1
          have HrowS := Lib.hid hrowS
          clear hrow1 hrowS
          go_wp2_with fail
          go_roundw
          case rel =>
            refine ⟨m + 1, _, by omega, ?_, HrowS.out, by rw [Array.size_setIfInBounds]; exact Hcur.out, ?_, (hbr.trans (hb1.mono hbrz)).setCell (p := ⟨w.heap.size, p, none⟩) (Nat.le_refl _) _⟩
            · have := Hp.out
              congr 1
              omega
            · intro j hj
              rw [Array.getElem?_setIfInBounds]
              by_cases hjp : p = j
              · rw [if_pos hjp, if_pos (by rw [Hcur.out]; omega), ← hjp, Htop.out]
              · rw [if_neg hjp, Hcells.out j hj, tlF_other zs m j (by rw [Hp.out]; exact fun e => hjp e.symm)]
          case measure => simp [intOf]
        · obtain rfl : m = zs.length := by omega
          have hc0 := cell_of_row wr w.heap.size 0 cur _ _ hrow
          rw [hcells 0 (by omega)] at hc0
          have hT := fun w => Tryz.strings_TrimPrefix (tlF zs zs.length 0) ⟨#[44]⟩ w
          rw [show Lib.trimPrefix (tlF zs zs.length 0).data.toList (ByteArray.mk #[44]).data.toList = listS zs from rfl] at hT
          generalize tlF zs zs.length 0 = T0 at *
          have e1 : (zs.length : Int) - 1 - (zs.length : Int) = -1 := by omega
          rw [e1]
          clear hcells hrow hcur e1 hmk
          go_wp2_with fail
          refine (hT _).mono ?_
          rintro e w' ⟨rfl, rfl⟩
          go_wp2_with fail
          go_ret2
          exact HPg.out Hrg.out _ hbr
end Go.Proofs.YtkbmdmipdcjjcaaGreatDoor
