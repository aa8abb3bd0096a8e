/- reduced: a part, reduced. -/
import Derived.Test.YtmefpaoakblndaaGreatDoorVX
namespace Go.Proofs.YtmefpaoakblndaaGreatDoor
open Go.RowKit
set_option linter.unusedSimpArgs false
theorem isb_below {B b : Nat} {bs : List Value} {w w' : World} (h : Lib.IsBuilder 79 5 B b bs w) (hb : Below w.heap.size w w') : Lib.IsBuilder 79 5 B b bs w' := by
  have key : ∀ p, Lib.BuilderAt 79 5 B b p bs w → Lib.BuilderAt 79 5 B b p bs w' := by
    intro p h
    have hlt := h.lt
    obtain ⟨hB, v, hbk, hown, hne⟩ := h
    exact ⟨hB, v, (hb.block b hlt).trans hbk, own_below hown hb, hne⟩
  rcases h with h | h
  · exact Or.inl (key _ h)
  · exact Or.inr (key _ h)
/-- The syllables of a part; the part, reduced. -/
def readS (l : List UInt8) : List Syl := l.foldl putS []
def redL (l : List UInt8) : List UInt8 := (readS l).flatMap wordL
theorem readS_next {l : List UInt8} {k : Nat} {c : UInt8} (h : l[k]? = some c) : readS (l.take (k + 1)) = putS (readS (l.take k)) c := by
  unfold readS
  rw [List.take_add_one, h, List.foldl_append]; rfl
theorem Syl.sm.mono {s : Syl} {n m : Int} (h : s.sm n) (hm : n ≤ m) : s.sm m := by
  obtain ⟨⟨h1, h2⟩, ⟨h3, h4⟩, h5, h6⟩ := h
  unfold Syl.sm
  omega
theorem sylOf_sm (c : UInt8) : (sylOf c).sm 1 := by
  obtain ⟨⟨t1, t2⟩, ⟨t3, t4⟩, t5, t6⟩ := tw_rng c
  unfold Syl.sm sylOf
  dsimp only
  omega
theorem addS_sm {L : List Syl} {t : Syl} {n : Int} {k : Nat} (h : ∀ s ∈ L, s.sm n) (ht : t.sm n) (hk : L.length ≤ k) : (∀ s ∈ addS L t, s.sm n) ∧ (addS L t).length ≤ k + 1 := by
  unfold addS
  split
  · exact ⟨h, by omega⟩
  · refine ⟨fun s hs => ?_, by rw [List.length_append, List.length_singleton]; omega⟩
    rw [List.mem_append, List.mem_singleton] at hs
    rcases hs with hs | rfl
    · exact h s hs
    · exact ht
theorem putS_sm {L : List Syl} {c : UInt8} {n : Int} {k : Nat} (hn : 0 ≤ n) (h : ∀ s ∈ L, s.sm n) (hk : L.length ≤ k) : (∀ s ∈ putS L c, s.sm (n + 1)) ∧ (putS L c).length ≤ k + 1 := by
  have hc := (sylOf_sm c).mono (m := n + 1) (by omega)
  rcases List.eq_nil_or_concat L with rfl | ⟨L0, s, rfl⟩
  · rw [putS_nil]
    exact addS_sm (fun s hs => by cases hs) hc hk
  · rw [List.concat_eq_append] at *
    by_cases hcr : s.cr = (sylOf c).cr
    · rw [putS_same hcr]
      rw [List.length_append, List.length_singleton] at hk
      have := addS_sm (L := L0) (t := s.add (sylOf c)) (n := n + 1) (k := k) (fun t ht => (h t (by simp [ht])).mono (by omega)) (by
        obtain ⟨⟨h1, h2⟩, ⟨h3, h4⟩, h5, h6⟩ := h s (by simp)
        obtain ⟨⟨k1, k2⟩, ⟨k3, k4⟩, k5, k6⟩ := sylOf_sm c
        unfold Syl.sm Syl.add
        dsimp only
        omega) (by omega)
      exact this
    · rw [putS_other hcr]
      exact addS_sm (fun t ht => (h t ht).mono (by omega)) hc hk
theorem readS_sm (l : List UInt8) : (∀ s ∈ readS l, s.sm l.length) ∧ (readS l).length ≤ l.length := by
  have key : ∀ (l : List UInt8) (L : List Syl) (n : Nat), (∀ s ∈ L, s.sm n) → L.length ≤ n → (∀ s ∈ l.foldl putS L, s.sm ((n + l.length : Nat) : Int)) ∧ (l.foldl putS L).length ≤ n + l.length := by
    intro l
    induction l with
    | nil => intro L n h hk; exact ⟨h, hk⟩
    | cons c l ih =>
      intro L n h hk
      have h1 := putS_sm (c := c) (by omega) h hk
      have := ih (putS L c) (n + 1) (by intro s hs; have := h1.1 s hs; exact_mod_cast this) h1.2
      rw [List.length_cons, show n + (l.length + 1) = n + 1 + l.length by omega]
      exact this
  have := key l [] 0 (fun s hs => by cases hs) (Nat.le_refl _)
  simpa [readS] using this
/-- A syllable has no more letters than were read. -/
theorem txt_len (s : Syl) : (txtL s).length = s.x.natAbs + (max 0 (max s.l s.r) - min 0 (min s.l s.r)).toNat := by
  have h1 := tmL_len 67 99 s.x
  have h2 := tmL_len 76 108 (s.l - s.both)
  have h3 := tmL_len 82 114 (s.r - s.both)
  have h4 := tmL_len 84 116 s.both
  unfold txtL
  simp only [List.length_append]
  unfold Syl.both at h2 h3 h4 ⊢
  omega
theorem max_add (a b c d : Int) : max 0 (max (a + c) (b + d)) ≤ max 0 (max a b) + max 0 (max c d) := by
  have h1 : a ≤ max 0 (max a b) := by omega
  have h2 : b ≤ max 0 (max a b) := by omega
  have h3 : c ≤ max 0 (max c d) := by omega
  have h4 : d ≤ max 0 (max c d) := by omega
  have h5 : 0 ≤ max 0 (max a b) := by omega
  have h6 : 0 ≤ max 0 (max c d) := by omega
  generalize max 0 (max a b) = x at *
  generalize max 0 (max c d) = y at *
  omega
theorem min_add (a b c d : Int) : min 0 (min a b) + min 0 (min c d) ≤ min 0 (min (a + c) (b + d)) := by
  have h1 : min 0 (min a b) ≤ a := by omega
  have h2 : min 0 (min a b) ≤ b := by omega
  have h3 : min 0 (min c d) ≤ c := by omega
  have h4 : min 0 (min c d) ≤ d := by omega
  have h5 : min 0 (min a b) ≤ 0 := by omega
  have h6 : min 0 (min c d) ≤ 0 := by omega
  generalize min 0 (min a b) = x at *
  generalize min 0 (min c d) = y at *
  omega
theorem txt_add (s t : Syl) : (txtL (s.add t)).length ≤ (txtL s).length + (txtL t).length := by
  rw [txt_len, txt_len, txt_len]
  unfold Syl.add
  dsimp only
  have h1 := max_add s.l s.r t.l t.r
  have h2 := min_add s.l s.r t.l t.r
  have h3 : 0 ≤ max 0 (max s.l s.r) := by omega
  have h4 : min 0 (min s.l s.r) ≤ 0 := by omega
  have h5 : 0 ≤ max 0 (max t.l t.r) := by omega
  have h6 : min 0 (min t.l t.r) ≤ 0 := by omega
  generalize max 0 (max (s.l + t.l) (s.r + t.r)) = x at *
  generalize min 0 (min (s.l + t.l) (s.r + t.r)) = y at *
  generalize max 0 (max s.l s.r) = x1 at *
  generalize min 0 (min s.l s.r) = y1 at *
  generalize max 0 (max t.l t.r) = x2 at *
  generalize min 0 (min t.l t.r) = y2 at *
  omega
theorem txt_one (c : UInt8) : (txtL (sylOf c)).length ≤ 1 := by
  have h : ∀ n, n < 256 → (txtL (sylOf (UInt8.ofNat n))).length ≤ 1 := by decide +kernel
  have := h c.toNat c.toNat_lt
  rwa [UInt8.ofNat_toNat] at this
theorem addS_txt {L : List Syl} {t : Syl} {n : Nat} (h : ∀ s ∈ L, (txtL s).length ≤ n) (ht : (txtL t).length ≤ n) : ∀ s ∈ addS L t, (txtL s).length ≤ n := by
  unfold addS
  split
  · exact h
  · intro s hs
    rw [List.mem_append, List.mem_singleton] at hs
    rcases hs with hs | rfl
    · exact h s hs
    · exact ht
theorem putS_txt {L : List Syl} {c : UInt8} {n : Nat} (h : ∀ s ∈ L, (txtL s).length ≤ n) : ∀ s ∈ putS L c, (txtL s).length ≤ n + 1 := by
  have hc := txt_one c
  rcases List.eq_nil_or_concat L with rfl | ⟨L0, s, rfl⟩
  · rw [putS_nil]
    exact addS_txt (fun s hs => by cases hs) (by omega)
  · rw [List.concat_eq_append] at *
    by_cases hcr : s.cr = (sylOf c).cr
    · rw [putS_same hcr]
      refine addS_txt (fun t ht => Nat.le_succ_of_le (h t (by simp [ht]))) ?_
      have h1 := txt_add s (sylOf c)
      have h2 := h s (by simp)
      omega
    · rw [putS_other hcr]
      exact addS_txt (fun t ht => Nat.le_succ_of_le (h t ht)) (by omega)
theorem readS_txt (l : List UInt8) : ∀ s ∈ readS l, (txtL s).length ≤ l.length := by
  have key : ∀ (l : List UInt8) (L : List Syl) (n : Nat), (∀ s ∈ L, (txtL s).length ≤ n) → ∀ s ∈ l.foldl putS L, (txtL s).length ≤ n + l.length := by
    intro l
    induction l with
    | nil => intro L n h; exact h
    | cons c l ih =>
      intro L n h
      have := ih (putS L c) (n + 1) (putS_txt h)
      rw [List.length_cons, show n + (l.length + 1) = n + 1 + l.length by omega]
      exact this
  have := key l [] 0 (fun s hs => by cases hs)
  simpa [readS] using this
theorem flat_len {l : List Syl} {n : Nat} (h : ∀ t ∈ l, (wordL t).length ≤ n) : (l.flatMap wordL).length ≤ l.length * n := by
  induction l with
  | nil => simp
  | cons t l ih =>
    have h1 := h t (by simp)
    have h2 := ih (fun t ht => h t (by simp [ht]))
    rw [List.flatMap_cons, List.length_append, List.length_cons, Nat.add_mul]
    omega
set_option maxHeartbeats 4000000 in
set_option maxRecDepth 100000 in
theorem reduced_any (s : ByteArray) (hs : s.size ≤ 16) (h12 : ∀ t ∈ readS s.data.toList, (txtL t).length ≤ 16) (w : World) : Calls Tryz.prog 50 #[.string s] w fun e w' => e = .returned (.string ⟨(redL s.data.toList).toArray⟩) ∧ Below w.heap.size w w' := by
  have HA := Lib.hid (show s.data.toList.take s.size = s.data.toList from List.take_of_length_le (by simp))
  have HSM := Lib.hid (fun k => readS_sm (s.data.toList.take k))
  have H12 := Lib.hid h12
  clear h12
  go_enter Tryz.func50, Tryz.ntmps50
  go_wp2_with fail
  go_loopw [3, 10] (fun vo i wr => ∃ (k : Nat) (ao : Option Addr) (cap : Nat) (L : List Syl), k ≤ s.size ∧ i = .int .i64 k ∧ L = readS (s.data.toList.take k) ∧ vo = .slice ao L.length cap ∧ YR w.heap.size wr ao cap L ∧ Below w.heap.size w wr) (fun _ i _ => s.size - (intOf i).toNat)
  case atStart => exact ⟨0, none, 0, [], Nat.zero_le _, rfl, rfl, rfl, YR.nil _ _, Below.refl _ w⟩
  case round =>
    obtain ⟨k, ao, cap, L, hk, rfl, hL, rfl, hY, hbw⟩ := hrel
    have hsm := HSM.out k
    rw [← hL, List.length_take] at hsm
    have HY := Lib.hid hY
    have HL := Lib.hid hL
    have hbs := hbw.size
    clear hY hL
    by_cases hkl : k < s.size
    · have k0 : (0 : Int) ≤ (k : Int) := by omega
      have k1 : (k : Int) < (s.size : Int) := by omega
      have HN := Lib.hid (show readS (s.data.toList.take (k + 1)) = putS L s[k] by rw [readS_next (byte_get hkl), ← HL.out])
      have CW := Lib.hid (withLetter_any s[k] w.heap.size ao cap L wr hbs (by omega) HY.out (fun t ht => (hsm.1 t ht).mono (by omega)))
      clear hsm
      go_wp2_with fail
      refine CW.out.mono ?_
      rintro e w1 ⟨ao1, cap1, rfl, hy1, hb1⟩
      have HY1 := Lib.hid hy1
      have HB1 := Lib.hid (hbw.trans hb1)
      clear hy1 hb1
      go_wp2_with fail
      go_roundw
      case rel => exact ⟨k + 1, ao1, cap1, putS L s[k], hkl, by go_num, HN.out.symm, rfl, HY1.out, HB1.out⟩
      case measure => (simp [intOf] <;> omega)
    · have k1 : ¬ (k : Int) < (s.size : Int) := by omega
      have e : k = s.size := by omega
      have hLr : L = readS s.data.toList := by rw [HL.out, e, HA.out]
      have HLr := Lib.hid hLr
      have hsm2 := hsm.1
      have hll : L.length ≤ 16 := by have := hsm.2; omega
      have H12' := Lib.hid (show ∀ t ∈ L, (txtL t).length ≤ 16 by rw [hLr]; exact H12.out)
      have HS2 := Lib.hid (show ∀ t ∈ L, t.sm 100 from fun t ht => (hsm2 t ht).mono (by omega))
      clear hsm hsm2 hLr e HL
      go_wp2_with fail
      obtain ⟨b, hb⟩ : ∃ b, b = wr.heap.size := ⟨_, rfl⟩
      obtain ⟨w1, hw1⟩ : ∃ W, W = wr.alloc (.cells #[.pointer none, .slice none 0 0] 79) := ⟨_, rfl⟩
      rw [← hw1]
      have hlt : ∀ bl off, ao = some ⟨bl, off, none⟩ → 0 < L.length → bl < b := fun bl off e h0 => by
        obtain ⟨b', off', e', _, h2, _⟩ := HY.out.row (by have := HY.out.le; omega)
        rw [e] at e'
        cases e'
        rw [hb]; exact h2
      have HLT := Lib.hid hlt
      have HI := Lib.hid (show Lib.IsBuilder 79 5 b b (Lib.byteCells []) w1 from .inl ⟨Nat.le_refl _, .slice none 0 0, by rw [hw1, hb]; exact heap_alloc_new _ _, World.ownsRow_nil _ _ _ _, by simp [Value.ownBlock]⟩)
      have HYa := Lib.hid (show YR w.heap.size w1 ao cap L by rw [hw1]; exact HY.out.below (below_alloc _ _))
      have HBa := Lib.hid (show Below w.heap.size w w1 by rw [hw1]; exact hbw.alloc hbs _)
      have hb1 : b < w1.heap.size := by rw [hw1, hb]; simp
      have hwb : w.heap.size ≤ b := by rw [hb]; exact hbs
      rw [← hb]
      clear hw1 hlt hbw hb
      rename World => w1
      go_loopw [21] (fun i wx => ∃ k : Nat, k ≤ L.length ∧ i = .int .i64 k ∧ Lib.IsBuilder 79 5 b b (Lib.byteCells ((L.take k).flatMap wordL)) wx ∧ YR w.heap.size wx ao cap L ∧ Below w.heap.size w wx ∧ b < wx.heap.size) (fun i _ => L.length - (intOf i).toNat)
      case atStart => exact ⟨0, Nat.zero_le _, rfl, HI.out, HYa.out, HBa.out, hb1⟩
      case round =>
        obtain ⟨k, hk, rfl, hI, hY, hbx, hbb⟩ := hrel
        rename World => wx
        have HIx := Lib.hid hI
        have HYx := Lib.hid hY
        have HBx := Lib.hid hbx
        clear hI
        by_cases hkl : k < L.length
        · obtain ⟨t, ht⟩ : ∃ t, L[k]? = some t := ⟨_, List.getElem?_eq_getElem hkl⟩
          obtain ⟨bl, off, rfl, _, hblx, hr, _⟩ := hY.at ht
          have hblb := HLT.out bl off rfl (by omega)
          have HLT2 := Lib.hid (show ∀ b' off', some (⟨bl, off, none⟩ : Addr) = some ⟨b', off', none⟩ → b' < b from fun b' off' e => by cases e; exact hblb)
          have k0 : (0 : Int) ≤ (k : Int) := by omega
          have k1 : (k : Int) < (L.length : Int) := by omega
          have HR := Lib.hid hr
          have CWd := Lib.hid (fun W => word_any t (HS2.out t (List.mem_of_getElem? ht)) (H12'.out t (List.mem_of_getElem? ht)) W)
          have hwl : (wordL t).length ≤ 16 := by rw [(word_perm t).length_eq]; exact H12'.out t (List.mem_of_getElem? ht)
          have HN := Lib.hid (show (L.take (k + 1)).flatMap wordL = (L.take k).flatMap wordL ++ wordL t by rw [List.take_add_one, ht]; simp)
          have hfl : (Lib.byteCells ((L.take k).flatMap wordL)).length ≤ 1000 := by
            unfold Lib.byteCells
            rw [List.length_map]
            have := flat_len (l := L.take k) (n := 16) (fun t ht => by rw [(word_perm t).length_eq]; exact H12'.out t (List.mem_of_mem_take ht))
            rw [List.length_take] at this
            have h3 : min k L.length ≤ 16 := by omega
            have := Nat.mul_le_mul_right 16 h3
            omega
          have HBC := Lib.hid (show Lib.byteCells ((L.take k).flatMap wordL ++ wordL t) = Lib.byteCells ((L.take k).flatMap wordL) ++ Lib.byteCells (wordL t) by unfold Lib.byteCells; rw [List.map_append])
          clear hr hY hbx ht
          go_wp2_with (refine wpList_load_mid rfl _ _ rfl bl (off + k * 3) rfl [.int .i64 t.x, .int .i64 t.l, .int .i64 t.r] _ HR.out Tryz.underlying81 rfl (by kernel_rfl) ?_)
          refine (CWd.out _).mono ?_
          rintro e w2 ⟨g, c, rfl, hbr, hb2⟩
          have hb2' : Below wx.heap.size wx w2 := (below_alloc wx _).trans (hb2.mono (by simp))
          have HI2 := Lib.hid (isb_below HIx.out hb2')
          have HY2 := Lib.hid (HYx.out.below hb2')
          have HB2 := Lib.hid (HBx.out.trans (hb2'.mono HBx.out.size))
          have hz2 := hb2'.size
          have hgb : g ≠ b := by
            have := hbr.le
            simp only [World.size_alloc] at this
            omega
          have CWr := Lib.hid (Write_any b b _ _ g _ c _ w2 HI2.out (by omega) (by omega) (by omega) hbr hgb)
          clear hb2 hb2' hbr
          go_wp2_with fail
          refine CWr.out.mono ?_
          rintro e w3 ⟨rfl, hi3, hb3, hz3⟩
          have HI3 := Lib.hid (show Lib.IsBuilder 79 5 b b (Lib.byteCells ((L.take (k + 1)).flatMap wordL)) w3 from .inr (by rw [HN.out, HBC.out]; exact hi3))
          have HY3 := Lib.hid (HY2.out.belowC hb3 HLT2.out)
          have HB3 := Lib.hid (HB2.out.trans (hb3.mono hwb))
          clear hi3 hb3
          go_wp2_with fail
          go_roundw
          case rel => exact ⟨k + 1, by omega, by go_num, HI3.out, HY3.out, HB3.out, by omega⟩
          case measure => (simp [intOf] <;> omega)
        · have k1 : ¬ (k : Int) < (L.length : Int) := by omega
          have HT := Lib.hid (show L.take k = L from List.take_of_length_le (by omega))
          have CSt := Lib.hid (Tryz.Builder_String_any b b ((L.take k).flatMap wordL) wx HIx.out (by omega))
          go_wp2_with fail
          refine CSt.out.mono ?_
          rintro e w2 ⟨rfl, hb2⟩
          have HB2 := Lib.hid (HBx.out.trans (hb2.mono hwb))
          clear hb2
          go_wp2_with fail
          go_ret
          unfold redL
          rw [← HLr.out, HT.out]
          exact ⟨rfl, HB2.out⟩
end Go.Proofs.YtmefpaoakblndaaGreatDoor
