/- Join of package words, whatever the fields. -/
import Derived.Test.YtjddleipancaoaaGreatDoorSE
namespace Go.Proofs.YtjddleipancaoaaGreatDoor
open Go.RowKit

theorem isb_below {B b : Nat} {bs : List Value} {w w' : World} (h : Lib.IsBuilder 75 5 B b bs w) (hb : Below w.heap.size w w') : Lib.IsBuilder 75 5 B b bs w' := by
  have key : ∀ p, Lib.BuilderAt 75 5 B b p bs w → Lib.BuilderAt 75 5 B b p bs w' := by
    intro p h
    have hlt := h.lt
    obtain ⟨hB, v, hbk, hown, hne⟩ := h
    exact ⟨hB, v, (hb.block b hlt).trans hbk, own_below hown hb, hne⟩
  rcases h with h | h
  · exact Or.inl (key _ h)
  · exact Or.inr (key _ h)
theorem joinSpec_many {fs : List Fld} (h : 64 < fs.length) : joinSpec fs = ([], 3) := by unfold joinSpec; rw [if_pos h]
theorem joinSpec_bad {fs : List Fld} {f : Fld} (h : ¬ 64 < fs.length) (hm : f ∈ fs) (hf : okF f = false) : joinSpec fs = ([], 2) := by
  unfold joinSpec
  rw [if_neg h, if_neg]
  intro ha
  rw [List.all_eq_true] at ha
  rw [ha f hm] at hf
  cases hf
theorem joinSpec_ok {fs : List Fld} (h : ¬ 64 < fs.length) (ha : ∀ x ∈ fs, okF x = true) : joinSpec fs = if 4096 < (joinL fs).length then ([], 3) else (joinL fs, 0) := by
  unfold joinSpec
  rw [if_neg h, if_pos (List.all_eq_true.2 ha)]

theorem bc_app (a b : List UInt8) : Lib.byteCells (a ++ b) = Lib.byteCells a ++ Lib.byteCells b := by simp [Lib.byteCells]

set_option maxHeartbeats 400000 in
theorem Join_many (fs : List Fld) (v : Value) (w : World) (hv : SFld w v fs) (hl : fs.length ≤ maxLen) (h : 64 < fs.length) :
    Calls Tryz.prog 16 #[v] w fun e w' => e = .returned (.tuple #[.string ⟨(joinSpec fs).1.toArray⟩, .int .i64 (joinSpec fs).2]) ∧ Below w.heap.size w w' := by
  rw [joinSpec_many h]
  obtain ⟨a, cap, rfl, hx⟩ := hv
  unfold maxLen at hl
  clear hx
  go_enter Tryz.func16, Tryz.ntmps16
  go_wp2_with fail
  go_ret2
  exact ⟨rfl, Below.refl _ _⟩

set_option maxHeartbeats 4000000 in
set_option maxRecDepth 100000 in
theorem Join_few (fs : List Fld) (v : Value) (w : World) (g : Glob w) (hv : SFld w v fs) (hs : ∀ f ∈ fs, f.2.length ≤ 1000000) (h : ¬ 64 < fs.length) :
    Calls Tryz.prog 16 #[v] w fun e w' => e = .returned (.tuple #[.string ⟨(joinSpec fs).1.toArray⟩, .int .i64 (joinSpec fs).2]) ∧ Below w.heap.size w w' := by
  obtain ⟨J, hJ⟩ : ∃ J, joinSpec fs = J := ⟨_, rfl⟩
  rw [hJ]
  obtain ⟨a, cap, rfl, hx⟩ := hv
  have HJ := Lib.hid hJ
  have Hx := Lib.hid hx
  have Hs := Lib.hid hs
  clear hJ hx hs
  go_enter Tryz.func16, Tryz.ntmps16
  go_wp2_with fail
  go_loopw [14] (fun i wr => ∃ k : Nat, k ≤ fs.length ∧ i = .int .i64 k ∧ (∀ x ∈ fs.take k, okF x = true) ∧ Lib.IsBuilder 75 5 w.heap.size w.heap.size (Lib.byteCells (joinL (fs.take k))) wr ∧ Below w.heap.size w wr) (fun i _ => fs.length - (intOf i).toNat)
  case atStart =>
    refine ⟨0, Nat.zero_le _, rfl, fun x hx => by simp at hx, Or.inl ⟨Nat.le_refl _, .slice none 0 0, ?_, World.ownsRow_nil _ _ _ _, by simp [Value.ownBlock]⟩, (Below.refl _ _).alloc (Nat.le_refl _) _⟩
    exact heap_alloc_new _ _
  case round =>
    obtain ⟨k, hk, rfl, hok, hbld, hbr⟩ := hrel
    have hbz := hbr.size
    have hjl := joinL_size _ hok
    have hjl2 : (joinL (fs.take k)).length ≤ 100000 := by
      have : (fs.take k).length ≤ 64 := by simp; omega
      omega
    have Hok := Lib.hid hok
    have Hbld := Lib.hid hbld
    have Hjl := Lib.hid hjl2
    clear hok hbld hjl hjl2
    by_cases hkl : k < fs.length
    · obtain ⟨b, off, rfl, hb, hc⟩ := Hx.out (by omega)
      obtain ⟨c0, c1⟩ := hc k hkl
      have c0' := (hbr.cell (p := ⟨b, off + k * 2, none⟩) hb).trans c0
      have c1' := (hbr.cell (p := ⟨b, off + k * 2 + 1, none⟩) hb).trans c1
      have htk := take_next hkl
      have hmem : fs[k] ∈ fs := List.getElem_mem hkl
      have hsz := Hs.out _ hmem
      generalize fs[k] = f at *
      obtain ⟨q, t⟩ := f
      simp only at c0' c1' hsz
      obtain ⟨T, hT⟩ : ∃ T : ByteArray, (⟨t.toArray⟩ : ByteArray) = T := ⟨_, rfl⟩
      have hTl : T.data.toList = t := by rw [← hT]
      rw [hT] at c1'
      have Htk := Lib.hid htk
      have Hmem := Lib.hid hmem
      have hw0 : Glob wr := g.next hbr
      have hW := writeField_any q T (wr.alloc (.cells #[.bool q, .string T] 42)) (hw0.next ((Below.refl _ _).alloc (Nat.le_refl _) _)) (by rw [← size_len, hTl]; exact hsz)
      rw [hTl] at hW
      obtain ⟨ok, hokd⟩ : ∃ ok, okF (q, t) = ok := ⟨_, rfl⟩
      rw [hokd] at hW
      have Hokd := Lib.hid hokd
      have hWr : ok = true → wrV (q, t) = Proofs.YtjddleipancaoaaGreatDoor.wr (q, t) := fun e => wrV_ok (by rw [hokd]; exact e)
      have HW := Lib.hid hW
      clear htk hc c0 c1 hmem hsz hT hTl hW hokd
      have n0 : (0 : Int) ≤ (k : Int) := by omega
      have n1 : (k : Int) < (fs.length : Int) := by omega
      go_wp2_with fail
      refine HW.out.mono ?_
      rintro e w1 ⟨rfl, hb1⟩
      have hbb : Below wr.heap.size wr w1 := ((Below.refl _ wr).alloc (Nat.le_refl _) _).trans (hb1.mono (by simp))
      have hbw1 : Below w.heap.size w w1 := hbr.trans (hbb.mono hbz)
      have hz1 := hbw1.size
      have Hb1 := Lib.hid hbw1
      have Hisb := Lib.hid (isb_below Hbld.out hbb)
      clear hb1 hbb hbw1 c0' c1' hw0
      cases ok with
      | false =>
        have hbad : J = ([], 2) := by rw [← HJ.out]; exact joinSpec_bad h Hmem.out Hokd.out
        have Hbad := Lib.hid hbad
        clear hbad
        go_wp2_with fail
        go_ret2
        exact ⟨by rw [Hbad.out]; rfl, Hb1.out⟩
      | true =>
        have hok2 : ∀ x ∈ fs.take (k + 1), okF x = true := by
          rw [Htk.out]
          intro x hx
          rcases List.mem_append.1 hx with hx | hx
          · exact Hok.out x hx
          · simp at hx; subst hx; exact Hokd.out
        have hj := joinL_snoc (q, t) (fs.take k)
        rw [← Htk.out] at hj
        have hwl := wr_len Hokd.out
        have hwv := hWr rfl
        obtain ⟨V, hV⟩ : ∃ V, wrV (q, t) = V := ⟨_, rfl⟩
        obtain ⟨S, hS⟩ : ∃ S : ByteArray, (⟨V.toArray⟩ : ByteArray) = S := ⟨_, rfl⟩
        rw [← hwv, hV] at hj hwl
        have hSl : S.data.toList = V := by rw [← hS]
        have hSs : S.size ≤ 402 := by rw [← size_len, hSl]; exact hwl
        obtain ⟨P, hP⟩ : ∃ P, joinL (fs.take k) = P := ⟨_, rfl⟩
        have hPl := Hjl.out
        have hPb := Hisb.out
        rw [hP] at hj hPl hPb
        have hPc : (Lib.byteCells P).length ≤ 1000000 := by rw [Lib.byteCells_length]; omega
        have Hj := Lib.hid hj
        have Hok2 := Lib.hid hok2
        have HPb := Lib.hid hPb
        have HSl := Lib.hid hSl
        rw [hV, hS]
        clear hj hok2 hPb hSl hP hV hS hwv hWr hwl
        by_cases hk0 : k = 0
        · subst hk0
          have hC := WriteString_any w.heap.size w.heap.size (Lib.byteCells P) S w1 HPb.out hPc (by omega) hz1
          go_wp2_with (go_at_call 35; refine hC.mono ?_; rintro e w2 ⟨rfl, hq2, hb2⟩)
          go_roundw
          case rel => exact ⟨1, by omega, by go_num, Hok2.out, Or.inr (by rw [Hj.out, show (fs.take 0).isEmpty = true from rfl, if_pos rfl, List.append_nil, bc_app, ← HSl.out]; exact hq2), Hb1.out.trans hb2⟩
          case measure => simp [intOf]; omega
        · have hkp : (0 : Int) < (k : Int) := by omega
          have HE : Hid ((fs.take k).isEmpty = false) := Lib.hid (by
            cases h : fs.take k with
            | nil =>
              have h1 := congrArg List.length h
              rw [List.length_take, List.length_nil] at h1
              omega
            | cons a r => rfl)
          have hC := WriteByte_any w.heap.size w.heap.size (Lib.byteCells P) 32 w1 HPb.out hPc hz1
          go_wp2_with fail
          refine hC.mono ?_
          rintro e w2 ⟨rfl, hq2, hb2⟩
          have hz2 := (Hb1.out.trans hb2).size
          have hPl2 : (Lib.byteCells P ++ [Value.int .u8 32]).length ≤ 1000000 := by
            have : (Lib.byteCells P ++ [Value.int .u8 32]).length = P.length + 1 := by simp [Lib.byteCells]
            omega
          have hC2 := WriteString_any w.heap.size w.heap.size (Lib.byteCells P ++ [.int .u8 32]) S w2 (Or.inr hq2) hPl2 (by omega) hz2
          have Hb2 := Lib.hid (Hb1.out.trans hb2)
          clear hC hq2 hb2
          go_wp2_with (go_at_call 35; refine hC2.mono ?_; rintro e w3 ⟨rfl, hq3, hb3⟩)
          go_roundw
          case rel => exact ⟨k + 1, by omega, by go_num, Hok2.out, Or.inr (by rw [Hj.out, HE.out, if_neg (by simp), bc_app, bc_app, ← HSl.out]; exact hq3), Hb2.out.trans hb3⟩
          case measure => simp [intOf]; omega
    · have ht : fs.take k = fs := List.take_of_length_le (by omega)
      have hJ2 := joinSpec_ok h (by have := Hok.out; rw [ht] at this; exact this)
      have hB2 := Hbld.out
      rw [ht] at hB2
      have hjl := Hjl.out
      rw [ht] at hjl
      rw [HJ.out] at hJ2
      obtain ⟨L, hL⟩ : ∃ L, joinL fs = L := ⟨_, rfl⟩
      rw [hL] at hJ2 hB2 hjl
      have hLen := Tryz.Builder_Len _ _ _ _ hB2
      have hStr := Tryz.Builder_String_any _ _ _ _ hB2 hbz
      rw [Lib.byteCells_length] at hLen
      have HLen := Lib.hid hLen
      have HStr := Lib.hid hStr
      have HJ2 := Lib.hid hJ2
      have Hbr := Lib.hid hbr
      clear hLen hStr hJ2 hB2 hL ht
      by_cases hbig : 4096 < L.length
      · have Hbad : Hid (J = ([], 3)) := Lib.hid (by rw [HJ2.out, if_pos hbig])
        go_wp2_with (go_at_call 36; refine HLen.out.mono ?_; rintro e w' ⟨rfl, rfl⟩)
        go_ret2
        exact ⟨by rw [Hbad.out]; rfl, Hbr.out⟩
      · have Hgood : Hid (J = (L, 0)) := Lib.hid (by rw [HJ2.out, if_neg hbig])
        go_wp2_with (first
          | (go_at_call 36; refine HLen.out.mono ?_; rintro e w' ⟨rfl, rfl⟩)
          | (go_at_call 37; refine HStr.out.mono ?_; rintro e w' ⟨rfl, hb5⟩))
        go_ret2
        exact ⟨by rw [Hgood.out]; rfl, Hbr.out.trans hb5⟩
end Go.Proofs.YtjddleipancaoaaGreatDoor
