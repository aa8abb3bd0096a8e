/- Words of stitches: words with other letters, walked on both sides. -/
import Derived.Test.YtmefpaoakblndaaGreatDoorVC
import Derived.Laws.IdiomStrings
import Derived.Lib.UnsafeStr
namespace Go.Proofs.YtmefpaoakblndaaGreatDoor
open Go.RowKit Go.Lib
theorem infoB : (Tryz.prog.info? 5).map (fun i => (i.zero, i.size, i.bytes)) = some (some (.int .u8 0), 1, 1) := by kernel_rfl
/-- append(v, x), x a byte: an own row grows by one. -/
theorem app_byte {ops : Array Oper} {rest : List Oper} {o : Oper} {a : Act} {Q : Exit → Act → World → Prop} {w w0 : World} (B : Nat) (v : Value) (zs : List UInt8) (x : UInt8)
    (hgd : o.guard = none) (s y : Operand) (ho : o.op = .call { callee := .builtin .append, args := #[s, y], argTypes := #[50, 50] }) (hs : a.eval s = v)
    (hown : w.ownsRow B 5 1 v zs.length (Lib.byteCells zs)) (hy : a.eval y = .slice (some ⟨w.heap.size, 0, none⟩) 1 1) (hl : zs.length < 100000) (hb : Below B w0 w) (hB : B ≤ w.heap.size)
    (h : ∀ g cap w', w'.ownsRow B 5 1 (.slice (some ⟨g, 0, none⟩) (zs.length + 1) cap) (zs.length + 1) (Lib.byteCells (zs ++ [x])) → Below B w0 w' → wpList Tryz.prog ops Q rest (a.put o.dst (.slice (some ⟨g, 0, none⟩) (zs.length + 1) cap)) w') :
    wpList Tryz.prog ops Q (o :: rest) a (w.alloc (.cells #[.int .u8 (x.toNat : Int)] 5)) := by
  obtain ⟨i0, hi, hz0, hz1, hz2⟩ := info_parts infoB
  refine wpList_append_own _ hgd s y 50 ho B 5 i0 (.int .u8 0) 1 1 Tryz.underlying50 hi hz0 hz1 hz2 rfl (by decide) v _ _ hs (hown.alloc _) ⟨w.heap.size, 0, none⟩ 1 1 [.int .u8 (x.toNat : Int)] hy rfl (cell_one_new _ _ _) (by simp [Value.oneCell']) (by unfold maxLen; omega) (by omega) (by simp; omega) ?_
  intro v' w' hown' hgrow _
  rcases hown'.2 with ⟨_, h0⟩ | ⟨g, cap, _, rfl, _⟩
  · omega
  · refine h g cap w' (by unfold Lib.byteCells at *; rw [List.map_append]; exact hown') ?_
    exact Below.grown (hb.alloc hB _) hgrow (by simp; omega) fun k e => (hown.lt k e).1
theorem own_str {w : World} {B : Nat} {a : Addr} {c : Nat} {l : List UInt8} {n : Nat} (hn : l.length = n) (h : w.ownsRow B 5 1 (.slice (some a) n c) n (Lib.byteCells l)) :
    (convert 50 9 (.slice (some a) n c)).run Tryz.prog w = .ok (.string ⟨l.toArray⟩) w := by
  subst hn
  refine run_convert_bytes_back w 50 9 5 a c l Tryz.underlying50 Tryz.underlying5 Tryz.underlying9 (fun j hj => ?_)
  rcases h.2 with ⟨e, _⟩ | ⟨g, cap, cur, e, _⟩
  · cases e
  · cases e
    have := h.cellAt j (by omega)
    unfold Lib.byteCells at this
    rw [List.getElem?_map, List.getElem?_eq_getElem hj] at this
    have e2 : (⟨g, 0, none⟩ : Addr).add j = ⟨g, j, none⟩ := by unfold Addr.add; split <;> simp_all
    rw [e2, this]; rfl
theorem mk_bytes (n : Nat) (hn : n < 100000) (W : World) : (Instr.makeSlice 50 (.int .i64 0) (.int .i64 (n : Int))).run Tryz.prog W = .ok (.slice (some ⟨W.heap.size, 0, none⟩) 0 n) (W.alloc (.cells (madeCells #[.int .u8 0] n) 5)) := by
  obtain ⟨i0, hi, hz0, hz1, hz2⟩ := info_parts infoB
  have h := run_make (P := Tryz.prog) W 50 5 i0 (.int .u8 0) Tryz.underlying50 hi hz0 .i64 .i64 (0 : Int) (n : Int) (by omega) (by omega) (by rw [hz2]; omega) (by omega)
  rw [hz1] at h
  simp at h
  exact h
theorem own_bytes (n B : Nat) (hn : n < 100000) (W : World) (hB : B ≤ W.heap.size) : (W.alloc (.cells (madeCells #[.int .u8 0] n) 5)).ownsRow B 5 1 (.slice (some ⟨W.heap.size, 0, none⟩) 0 n) 0 (Lib.byteCells []) :=
  World.ownsRow_made W _ n hB (by unfold maxLen; omega) (by rw [size_madeCells]; simp)
/-- A table of changed letters. -/
def isTab (t : ByteArray) (f : UInt8 → UInt8) : Prop := t.size = 9 ∧ ∀ c, isLt c = true → 0 ≤ firstIdx lettersP c ∧ firstIdx lettersP c < 9 ∧ t.data.toList[(firstIdx lettersP c).toNat]? = some (f c)
set_option maxHeartbeats 1000000 in
set_option maxRecDepth 100000 in
theorem exchanged_any (s t : ByteArray) (f : UInt8 → UInt8) (ht : isTab t f) (hs : s.size ≤ 16) (hall : s.data.toList.all isLt = true) (w : World) :
    Calls Tryz.prog 46 #[.string s, .string t] w fun e w' => ∃ g c, e = .returned (.slice (some ⟨g, 0, none⟩) s.size c) ∧ w'.ownsRow w.heap.size 5 1 (.slice (some ⟨g, 0, none⟩) s.size c) s.size (Lib.byteCells (s.data.toList.map f)) ∧ Below w.heap.size w w' := by
  obtain ⟨ht9, htab⟩ := ht
  have HT := Lib.hid htab
  have HA := Lib.hid hall
  have hmk := fun W => mk_bytes s.size (by omega) W
  have HO := Lib.hid (own_bytes s.size w.heap.size (by omega) w (Nat.le_refl _))
  have HB := Lib.hid (below_alloc w (.cells (madeCells #[.int .u8 0] s.size) 5))
  clear htab hall
  go_enter Tryz.func46, Tryz.ntmps46
  go_wp2_with fail
  clear hmk
  go_loopw [5, 12] (fun vo i wr => ∃ (k : Nat) (g c : Nat), k ≤ s.size ∧ i = .int .i64 k ∧ vo = .slice (some ⟨g, 0, none⟩) k c ∧ wr.ownsRow w.heap.size 5 1 (.slice (some ⟨g, 0, none⟩) k c) k (Lib.byteCells ((s.data.toList.map f).take k)) ∧ Below w.heap.size w wr) (fun _ i _ => s.size - (intOf i).toNat)
  case atStart => exact ⟨0, w.heap.size, s.size, Nat.zero_le _, rfl, rfl, by rw [List.take_zero]; exact HO.out, HB.out⟩
  case round =>
    obtain ⟨k, g, c, hk, rfl, rfl, hown, hbw⟩ := hrel
    have Hown := Lib.hid hown
    clear hown
    have hbs := hbw.size
    by_cases hkl : k < s.size
    · have k0 : (0 : Int) ≤ (k : Int) := by omega
      have k1 : (k : Int) < (s.size : Int) := by omega
      have hkb := byte_get hkl
      have hlt : isLt s[k] = true := List.all_eq_true.1 HA.out _ (List.mem_of_getElem? hkb)
      obtain ⟨i0, i1, it⟩ := HT.out _ hlt
      have CI := Lib.hid (fun w => ibS_any s[k] w)
      generalize firstIdx lettersP s[k] = z at *
      obtain ⟨p, rfl⟩ : ∃ p : Nat, z = (p : Int) := ⟨z.toNat, by omega⟩
      rw [Int.toNat_natCast] at it
      have hp9 : p < t.size := by omega
      have hp1 : (p : Int) < (t.size : Int) := by omega
      have hx : t[p] = f s[k] := by
        have := byte_get hp9
        rw [it] at this
        exact (Option.some.inj this).symm
      have hn : (s.data.toList.map f).take (k + 1) = (s.data.toList.map f).take k ++ [t[p]] := by
        rw [List.take_add_one, List.getElem?_map, hkb, hx]; rfl
      have hlen : ((s.data.toList.map f).take k).length = k := by rw [List.length_take, List.length_map]; simp; omega
      have HN := Lib.hid hn
      have HL := Lib.hid hlen
      clear hn hlen hx hkb hlt it
      go_wp2_with (first | (go_at_call 38; refine (CI.out _).mono ?_; rintro e w1 ⟨rfl, rfl⟩) | (at_builtin; refine app_byte (w0 := w) w.heap.size _ ((s.data.toList.map f).take k) t[p] rfl _ _ rfl rfl (by rw [HL.out]; exact Hown.out) rfl (by rw [HL.out]; omega) hbw hbs ?_; rw [HL.out]; intro g2 cap2 w1 hown1 hb1))
      have HO1 := Lib.hid hown1
      clear hown1
      go_wp2_with fail
      go_roundw
      case rel => exact ⟨k + 1, g2, cap2, hkl, by go_num, rfl, by rw [HN.out]; exact HO1.out, hb1⟩
      case measure => (simp [intOf] <;> omega)
    · have e : k = s.size := by omega
      subst e
      have k1 : ¬ (s.size : Int) < (s.size : Int) := by omega
      have Hf := Hown.out
      rw [List.take_of_length_le (by rw [List.length_map]; simp)] at Hf
      have HF := Lib.hid Hf
      clear Hf Hown
      go_wp2_with fail
      go_ret
      exact ⟨_, _, rfl, HF.out, hbw⟩
end Go.Proofs.YtmefpaoakblndaaGreatDoor
