/- The words of runs of letters. Taken over: SD VY VT. -/
import Derived.Test.YtgbdccoimmkmeaaWH
import Derived.Test.YtgbdccoimmkmeaaShelf
import Derived.Lib.Builder
import Derived.Lib.AppendStr
namespace Go.Proofs.Ytgbdccoimmkmeaa
section
open Go.RowKit
theorem sizeBuilder : (Try.prog.info? 76).map (·.size) = some 2 := by kernel_rfl
theorem liesBuilder : liesAt Try.prog Try.prog.depth 76 (2 / Try.prog.cellsOf 76) 0 76 1 = true := by kernel_rfl
theorem infoByte : (Try.prog.info? 5).map (fun i => (i.zero, i.size, i.bytes)) = some (some (.int .u8 0), 1, 1) := by kernel_rfl
set_option maxHeartbeats 1000000 in
set_option maxRecDepth 100000 in
theorem copyCheck_used (b : Nat) (w : World) (h0 : w.cell? ⟨b, 0, none⟩ = some (.pointer (some ⟨b, 0, none⟩))) :
    Calls Try.prog 62 #[.pointer (some ⟨b, 0, none⟩)] w fun e w' => e = .returned (.tuple #[]) ∧ w = w' := by
  obtain ⟨j, hj, _⟩ := Option.map_eq_some_iff.1 sizeBuilder
  go_enter Try.func62, Try.ntmps62
  go_wp2
  rw [Lib.run_neq_ptr_same w _ Try.underlying73 hj]
  go_wp2
  go_end0
  exact ⟨rfl, rfl⟩
set_option maxHeartbeats 1000000 in
set_option maxRecDepth 100000 in
theorem copyCheck_new (b : Nat) (w : World) (h0 : w.cell? ⟨b, 0, none⟩ = some (.pointer none)) (hsh : w.shape? b = some (76, 2)) (hfz : w.frozen? ⟨b, 0, none⟩ = false) :
    Calls Try.prog 62 #[.pointer (some ⟨b, 0, none⟩)] w fun e w' => e = .returned (.tuple #[]) ∧ w' = w.setCell ⟨b, 0, none⟩ (.pointer (some ⟨b, 0, none⟩)) := by
  obtain ⟨j, hj, hjs⟩ := Option.map_eq_some_iff.1 sizeBuilder
  have r1 := Lib.run_to_unsafe (P := Try.prog) w ⟨b, 0, none⟩ Try.underlying73 Try.underlying99 hj (by rw [hjs]; decide) hsh (Nat.zero_lt_succ 1)
  have r2 := Lib.run_from_unsafe (P := Try.prog) w ⟨b, 0, none⟩ Try.underlying99 Try.underlying73 hj hsh liesBuilder
  go_enter Try.func62, Try.ntmps62
  go_wp2
  rw [run_callFunc_extern Try.func68 (by kernel_rfl) (by kernel_rfl) (e := Extern.AbiNoEscape.same) (by kernel_rfl), Lib.run_noEscape]
  case he => kernel_rfl
  simp only [Result.andThen]
  rw [Oper.upon_value]
  go_wp2
  go_end0
  exact ⟨rfl, rfl⟩
theorem copyCheck_any (B b : Nat) (bs : List Value) (w : World) (h : Lib.IsBuilder 76 5 B b bs w) :
    Calls Try.prog 62 #[.pointer (some ⟨b, 0, none⟩)] w fun e w' => e = .returned (.tuple #[]) ∧ Lib.BuilderAt 76 5 B b (.pointer (some ⟨b, 0, none⟩)) bs w' ∧ Below B w w' := by
  rcases h with h | h
  · exact (copyCheck_new b w h.cell0 h.shape h.frozen0).mono fun e w' ⟨he, hw⟩ => ⟨he, by rw [hw]; exact h.used _, by rw [hw]; exact (Below.refl B w).setCell (p := ⟨b, 0, none⟩) h.1 _⟩
  · exact (copyCheck_used b w h.cell0).mono fun e w' ⟨he, hw⟩ => ⟨he, by rw [← hw]; exact h, by rw [← hw]; exact Below.refl B _⟩
set_option maxHeartbeats 1000000 in
set_option maxRecDepth 100000 in
theorem WriteString_any (B b : Nat) (bs : List Value) (s : ByteArray) (w : World) (h : Lib.IsBuilder 76 5 B b bs w) (hlen : bs.length ≤ 1000000) (hs : s.size ≤ 140737480000000) (hBw : B ≤ w.heap.size) :
    Calls Try.prog 48 #[.pointer (some ⟨b, 0, none⟩), .string s] w fun e w' => e = .returned (.tuple #[.int .i64 s.size, .nilIface]) ∧ Lib.BuilderAt 76 5 B b (.pointer (some ⟨b, 0, none⟩)) (bs ++ Lib.strCells s) w' ∧ Below B w w' := by
  obtain ⟨i0, hi, hz0, hz1, hz2⟩ := info_parts infoByte
  have Hi := Lib.hid hi
  clear hi
  go_enter Try.func48, Try.ntmps48
  go_wp2_with fail
  refine (copyCheck_any B b bs _ h).mono ?_
  rintro e w1 ⟨rfl, h1, hb1⟩
  have hlt := h1.lt
  obtain ⟨hB, v, hbk, hown, hne⟩ := h1
  have hsz := hb1.size
  have c1 : w1.cell? ⟨b, 1, none⟩ = some v := by rw [Lib.cell_of_heap hbk]; rfl
  have Hown := Lib.hid hown
  have Hbk := Lib.hid hbk
  clear hown hbk
  go_wp2_with (at_builtin; refine Lib.wpList_append_own_string _ rfl _ _ 74 9 rfl B 5 i0 Try.underlying74 Try.underlying9 Hi.out hz0 hz1 hz2 _ _ _ rfl Hown.out s rfl ?d3 ?d4 ?d5 ?_)
  case d3 => unfold maxLen; omega
  case d4 => omega
  case d5 => omega
  intro v' w2 hown' hgrow _
  have hb2 : w2.heap[b]? = some (.cells #[.pointer (some ⟨b, 0, none⟩), v] 76 (0, 0)) := by
    rw [hgrow.block b hlt (fun e => hne e.symm)]
    exact Hbk.out
  have d1 : w2.cell? ⟨b, 1, none⟩ = some v := by rw [Lib.cell_of_heap hb2]; rfl
  have f1 : w2.frozen? ⟨b, 1, none⟩ = false := Lib.frozen_of_heap hb2 1
  have hfin := Lib.hid (Lib.BuilderAt.put (T := 76) (e := 5) hB hb2 (bs' := bs ++ Lib.strCells s) (by simpa [Lib.strCells_length] using hown') (by decide))
  have hbel := Lib.hid ((hb1.grown hgrow (by omega) (fun k hk => (Hown.out.lt k hk).1)).setCell (p := ⟨b, 1, none⟩) hB v')
  obtain ⟨ao, n', cap, rfl⟩ : ∃ ao n' cap, v' = .slice ao n' cap := by
    rcases hown'.2 with ⟨hv, _⟩ | ⟨g, cap, cur, hv, _⟩
    · exact ⟨_, _, _, hv⟩
    · exact ⟨_, _, _, hv⟩
  clear hown' hgrow
  go_wp2_with fail
  go_ret2
  exact ⟨rfl, hfin.out, hbel.out⟩
end
section
open Go.RowKit
set_option linter.unusedSimpArgs false
theorem isb_below {B b : Nat} {bs : List Value} {w w' : World} (h : Lib.IsBuilder 76 5 B b bs w) (hb : Below w.heap.size w w') : Lib.IsBuilder 76 5 B b bs w' := by
  have key : ∀ p, Lib.BuilderAt 76 5 B b p bs w → Lib.BuilderAt 76 5 B b p bs w' := by
    intro p h
    have hlt := h.lt
    obtain ⟨hB, v, hbk, hown, hne⟩ := h
    exact ⟨hB, v, (hb.block b hlt).trans hbk, own_below hown hb, hne⟩
  rcases h with h | h
  · exact Or.inl (key _ h)
  · exact Or.inr (key _ h)
end
section
open Go.RowKit
theorem rep_one (a : UInt8) (n : Nat) : Lib.repeatL [a] n = List.replicate n a := by
  induction n with
  | zero => rfl
  | succ n ih => simp [Lib.repeatL, List.replicate_succ] at *; first | exact ih | simp [ih] | (rw [ih])
end
open Go.RowKit
set_option linter.unusedSimpArgs false
def rv (r : UInt8 × Nat) : List Value := [.string ⟨#[r.1]⟩, .int .i64 (r.2 : Int)]
def runsL (rs : List (UInt8 × Nat)) : List UInt8 := rs.flatMap fun r => List.replicate r.2 r.1
theorem runs_next {rs : List (UInt8 × Nat)} {k : Nat} {r : UInt8 × Nat} (h : rs[k]? = some r) : runsL (rs.take (k + 1)) = runsL (rs.take k) ++ List.replicate r.2 r.1 := by
  unfold runsL
  rw [List.take_add_one, h]; simp
theorem runs_len {rs : List (UInt8 × Nat)} (h : ∀ r ∈ rs, r.2 ≤ 100) : ∀ k, (runsL (rs.take k)).length ≤ rs.length * 100 := by
  have key : ∀ l : List (UInt8 × Nat), (∀ r ∈ l, r.2 ≤ 100) → (runsL l).length ≤ l.length * 100 := by
    intro l
    induction l with
    | nil => intro _; simp [runsL]
    | cons r l ih =>
      intro h
      have h1 := h r (by simp)
      have h2 := ih (fun x hx => h x (by simp [hx]))
      unfold runsL at h2 ⊢
      rw [List.flatMap_cons, List.length_append, List.length_replicate, List.length_cons]
      omega
  intro k
  have h1 := key (rs.take k) (fun r hr => h r (List.mem_of_mem_take hr))
  have h2 : (rs.take k).length ≤ rs.length := by rw [List.length_take]; omega
  have := Nat.mul_le_mul_right 100 h2
  omega
theorem cells_app (a b : List UInt8) : Lib.byteCells (a ++ b) = Lib.byteCells a ++ Lib.byteCells b := by unfold Lib.byteCells; rw [List.map_append]
theorem cells_len (a : List UInt8) : (Lib.byteCells a).length = a.length := by unfold Lib.byteCells; rw [List.length_map]
set_option maxHeartbeats 4000000 in
set_option maxRecDepth 100000 in
theorem word_any (rs : List (UInt8 × Nat)) (n : Nat) (hn : rs.length = n) (hn2 : n ≤ 10) (hr : ∀ r ∈ rs, r.2 ≤ 100) (g : Nat) (w : World) (hg : g < w.heap.size) (hat : ∀ (k : Nat) r, rs[k]? = some r → w.rangeAt g (k * 2) (rv r)) :
    Calls Try.prog 37 #[.slice (some ⟨g, 0, none⟩) n n] w fun e w' => e = .returned (.string ⟨(runsL rs).toArray⟩) ∧ Below w.heap.size w w' := by
  have HN := Lib.hid hn
  have HR := Lib.hid hr
  have HG := Lib.hid hg
  have HAT := Lib.hid hat
  have HLN := Lib.hid (runs_len hr)
  clear hn hr hat
  go_enter Try.func37, Try.ntmps37
  go_wp2_with fail
  obtain ⟨b, hb⟩ : ∃ b, b = w.heap.size := ⟨_, rfl⟩
  obtain ⟨w1, hw1⟩ : ∃ W, W = w.alloc (.cells #[.pointer none, .slice none 0 0] 76) := ⟨_, rfl⟩
  rw [← hw1]
  have HI := Lib.hid (show Lib.IsBuilder 76 5 b b (Lib.byteCells []) w1 from .inl ⟨Nat.le_refl _, .slice none 0 0, by rw [hw1, hb]; exact heap_alloc_new _ _, World.ownsRow_nil _ _ _ _, by simp [Value.ownBlock]⟩)
  have HBa := Lib.hid (show Below w.heap.size w w1 by rw [hw1]; exact below_alloc _ _)
  have hb1 : b < w1.heap.size := by rw [hw1, hb]; simp
  have HBE := Lib.hid hb
  rw [← hb]
  clear hw1 hb
  rename World => w1
  go_loopw [8] (fun i wx => ∃ k : Nat, k ≤ n ∧ i = .int .i64 k ∧ Lib.IsBuilder 76 5 b b (Lib.byteCells (runsL (rs.take k))) wx ∧ Below w.heap.size w wx ∧ b < wx.heap.size) (fun i _ => n - (intOf i).toNat)
  case atStart => exact ⟨0, Nat.zero_le _, rfl, HI.out, HBa.out, hb1⟩
  case round =>
    obtain ⟨k, hk, rfl, hI, hbx, hbb⟩ := hrel
    rename World => wx
    have HIx := Lib.hid hI
    have HBx := Lib.hid hbx
    clear hI hbx
    have hln := HLN.out k
    rw [HN.out] at hln
    by_cases hkl : k < n
    · obtain ⟨r, hr⟩ : ∃ r, rs[k]? = some r := ⟨_, List.getElem?_eq_getElem (by rw [HN.out]; exact hkl)⟩
      have k0 : (0 : Int) ≤ (k : Int) := by omega
      have k1 : (k : Int) < (n : Int) := by omega
      have h100 := HR.out r (List.mem_of_getElem? hr)
      have HRG := Lib.hid (show wx.rangeAt g (k * 2) (rv r) from fun j v hj => (HBx.out.cell (p := ⟨g, k * 2 + j, none⟩) HG.out).trans (HAT.out k r hr j v hj))
      have HNX := Lib.hid (runs_next hr)
      have CR := Lib.hid (fun W => Try.strings_Repeat ⟨#[r.1]⟩ r.2 W (by omega) (by show 1 * r.2 ≤ _; omega))
      have HRO := Lib.hid (rep_one r.1 r.2)
      clear hr
      go_wp2_with (refine wpList_load_mid rfl _ _ rfl g (k * 2) rfl [.string ⟨#[r.1]⟩, .int .i64 (r.2 : Int)] _ HRG.out Try.underlying56 rfl (by kernel_rfl) ?_)
      refine (CR.out _).mono ?_
      rintro e w2 ⟨rfl, hb2⟩
      have hb2' : Below wx.heap.size wx w2 := (below_alloc wx _).trans (hb2.mono (by simp))
      have HI2 := Lib.hid (isb_below HIx.out hb2')
      have HB2 := Lib.hid (HBx.out.trans (hb2'.mono HBx.out.size))
      have hbb2 : b < w2.heap.size := by have := hb2'.size; omega
      rw [HRO.out]
      have CW := Lib.hid (WriteString_any b b (Lib.byteCells (runsL (rs.take k))) ⟨(List.replicate r.2 r.1).toArray⟩ w2 HI2.out (by rw [cells_len]; omega) (by show (List.replicate r.2 r.1).toArray.size ≤ _; simp only [List.size_toArray, List.length_replicate]; omega) (by omega))
      clear hb2 hb2'
      go_wp2_with fail
      refine CW.out.mono ?_
      rintro e w3 ⟨rfl, hI3, hb3⟩
      have HI3 := Lib.hid (show Lib.IsBuilder 76 5 b b (Lib.byteCells (runsL (rs.take (k + 1)))) w3 by rw [HNX.out, cells_app]; exact .inr hI3)
      have HB3 := Lib.hid (HB2.out.trans (hb3.mono (by rw [HBE.out]; exact Nat.le_refl _)))
      have hbb3 : b < w3.heap.size := by have := hb3.size; omega
      clear hI3 hb3
      go_wp2_with fail
      go_roundw
      case rel => exact ⟨k + 1, hkl, by go_num, HI3.out, HB3.out, hbb3⟩
      case measure => (simp [intOf] <;> omega)
    · have k1 : ¬ (k : Int) < (n : Int) := by omega
      have hall : rs.take k = rs := List.take_of_length_le (by rw [HN.out]; omega)
      rw [hall] at HIx
      have CS := Lib.hid (Try.Builder_String_any b b (runsL rs) wx HIx.out (by omega))
      go_wp2_with fail
      refine CS.out.mono ?_
      rintro e w2 ⟨rfl, hb2⟩
      have HB2 := Lib.hid (HBx.out.trans (hb2.mono (by rw [HBE.out]; exact Nat.le_refl _)))
      clear hb2
      go_wp2_with fail
      go_ret
      exact ⟨rfl, HB2.out⟩
end Go.Proofs.Ytgbdccoimmkmeaa
