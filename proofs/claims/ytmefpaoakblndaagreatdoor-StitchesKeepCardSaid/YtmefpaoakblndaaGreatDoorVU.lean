/- The word of a syllable (of at most twelve letters). -/
import Derived.Test.YtmefpaoakblndaaGreatDoorYL
import Derived.Test.YtmefpaoakblndaaGreatDoorVT
namespace Go.Proofs.YtmefpaoakblndaaGreatDoor
open Go.RowKit
/-- How many twists of both pairs there are. -/
def Syl.both (s : Syl) : Int := max 0 (min s.l s.r) + min 0 (max s.l s.r)
/-- The letters of a syllable, as times writes them. -/
def txtL (s : Syl) : List UInt8 := tmL 67 99 s.x ++ tmL 76 108 (s.l - s.both) ++ tmL 82 114 (s.r - s.both) ++ tmL 84 116 s.both
/-- They in the order of their bytes. -/
def wordL (s : Syl) : List UInt8 := List.replicate s.x.toNat 67 ++ List.replicate (s.l - s.both).toNat 76 ++ List.replicate (s.r - s.both).toNat 82 ++ List.replicate s.both.toNat 84 ++ List.replicate (-s.x).toNat 99 ++ List.replicate (-(s.l - s.both)).toNat 108 ++ List.replicate (-(s.r - s.both)).toNat 114 ++ List.replicate (-s.both).toNat 116
theorem tm_count (a b c : UInt8) (n : Int) : (tmL a b n).count c = (List.replicate n.toNat a).count c + (List.replicate (-n).toNat b).count c := by
  unfold tmL
  split
  · rw [show n.toNat = 0 by omega]; simp
  · rw [show (-n).toNat = 0 by omega]; simp
theorem word_perm (s : Syl) : (wordL s).Perm (txtL s) := by
  rw [List.perm_iff_count]
  intro c
  unfold wordL txtL
  simp only [List.count_append, tm_count]
  omega
theorem pair_rep (n : Nat) (a : UInt8) : (List.replicate n a).Pairwise (fun x y => x.toNat ≤ y.toNat) := by
  rw [List.pairwise_replicate]
  exact .inr (Nat.le_refl _)
theorem pair_more {L : List UInt8} {a : UInt8} {n : Nat} (h : L.Pairwise (fun x y => x.toNat ≤ y.toNat)) (hb : ∀ x ∈ L, x.toNat ≤ a.toNat) : (L ++ List.replicate n a).Pairwise (fun x y => x.toNat ≤ y.toNat) := by
  rw [List.pairwise_append]
  refine ⟨h, pair_rep n a, fun x hx y hy => ?_⟩
  rw [List.eq_of_mem_replicate hy]
  exact hb x hx
theorem mem_more {L : List UInt8} {a b : UInt8} {n : Nat} (hb : ∀ x ∈ L, x.toNat ≤ a.toNat) (hab : a.toNat ≤ b.toNat) : ∀ x ∈ L ++ List.replicate n a, x.toNat ≤ b.toNat := by
  intro x hx
  rw [List.mem_append] at hx
  rcases hx with hx | hx
  · exact Nat.le_trans (hb x hx) hab
  · rw [List.eq_of_mem_replicate hx]; exact hab
theorem word_pair (s : Syl) : (wordL s).Pairwise (fun x y => x.toNat ≤ y.toNat) := by
  unfold wordL
  have m1 : ∀ x ∈ List.replicate s.x.toNat (67 : UInt8), x.toNat ≤ (76 : UInt8).toNat := fun x hx => by rw [List.eq_of_mem_replicate hx]; decide
  have m2 := mem_more (n := (s.l - s.both).toNat) m1 (show (76 : UInt8).toNat ≤ (82 : UInt8).toNat by decide)
  have m3 := mem_more (n := (s.r - s.both).toNat) m2 (show (82 : UInt8).toNat ≤ (84 : UInt8).toNat by decide)
  have m4 := mem_more (n := s.both.toNat) m3 (show (84 : UInt8).toNat ≤ (99 : UInt8).toNat by decide)
  have m5 := mem_more (n := (-s.x).toNat) m4 (show (99 : UInt8).toNat ≤ (108 : UInt8).toNat by decide)
  have m6 := mem_more (n := (-(s.l - s.both)).toNat) m5 (show (108 : UInt8).toNat ≤ (114 : UInt8).toNat by decide)
  have m7 := mem_more (n := (-(s.r - s.both)).toNat) m6 (show (114 : UInt8).toNat ≤ (116 : UInt8).toNat by decide)
  exact pair_more (pair_more (pair_more (pair_more (pair_more (pair_more (pair_more (pair_rep _ _) m1) m2) m3) m4) m5) m6) m7
theorem sorted_word {s : Syl} {R : List UInt8} (hp : R.Perm (txtL s)) (hs : R.Pairwise (fun a b => a.toNat ≤ b.toNat)) : R = wordL s :=
  List.Perm.eq_of_pairwise (le := fun a b : UInt8 => a.toNat ≤ b.toNat) (fun a b _ _ h1 h2 => UInt8.toNat_inj.1 (by omega)) hs (word_pair s) (hp.trans (word_perm s).symm)
theorem both_rng {s : Syl} {n : Int} (h : s.sm n) (_ : 0 ≤ n) : -n ≤ s.both ∧ s.both ≤ n := by
  obtain ⟨_, ⟨h3, h4⟩, h5, h6⟩ := h
  unfold Syl.both
  omega
theorem load_i (b o : Nat) (v : Value) (w : World) (h : w.cell? ⟨b, o, none⟩ = some v) : (Instr.loadAt 3 (.pointer (some ⟨b, o, none⟩))).run Tryz.prog w = .ok v w := load_int _ _ _ h
theorem bytes_conv (TL : List UInt8) (wy : World) (B : Nat) (hB : B ≤ wy.heap.size) :
    (convert 9 50 (.string ⟨TL.toArray⟩)).run Tryz.prog wy = .ok (.slice (some ⟨wy.heap.size, 0, none⟩) TL.length (grownCap wy TL.length 0 5)) (wy.drew.alloc (.cells (bytesRow ⟨TL.toArray⟩ (grownCap wy TL.length 0 5)) 5 ((bytesRow ⟨TL.toArray⟩ (grownCap wy TL.length 0 5)).size, (bytesRow ⟨TL.toArray⟩ (grownCap wy TL.length 0 5)).size + 1))) ∧
    BR (wy.drew.alloc (.cells (bytesRow ⟨TL.toArray⟩ (grownCap wy TL.length 0 5)) 5 ((bytesRow ⟨TL.toArray⟩ (grownCap wy TL.length 0 5)).size, (bytesRow ⟨TL.toArray⟩ (grownCap wy TL.length 0 5)).size + 1))) B wy.heap.size TL.length TL ∧
    Below B wy (wy.drew.alloc (.cells (bytesRow ⟨TL.toArray⟩ (grownCap wy TL.length 0 5)) 5 ((bytesRow ⟨TL.toArray⟩ (grownCap wy TL.length 0 5)).size, (bytesRow ⟨TL.toArray⟩ (grownCap wy TL.length 0 5)).size + 1))) := by
  have hsz : (⟨TL.toArray⟩ : ByteArray).size = TL.length := by show TL.toArray.size = _; simp
  have h := run_bytes_of_string (P := Tryz.prog) wy 9 50 5 ⟨TL.toArray⟩ Tryz.underlying9 Tryz.underlying50 Tryz.underlying5
  rw [hsz] at h
  refine ⟨h, ⟨rfl, hB, by simp, fun p x hx => ?_, fun p hp => ?_⟩, (Below.refl _ wy).drew.alloc hB _⟩
  · have hh := heap_alloc_new wy.drew (.cells (bytesRow ⟨TL.toArray⟩ (grownCap wy TL.length 0 5)) 5 ((bytesRow ⟨TL.toArray⟩ (grownCap wy TL.length 0 5)).size, (bytesRow ⟨TL.toArray⟩ (grownCap wy TL.length 0 5)).size + 1))
    have hp := (List.getElem?_eq_some_iff.1 hx).1
    refine (cell_of_row _ _ p _ _ _ hh).trans ?_
    rw [bytesRow_at _ _ p (by simpa using hp)]
    have h2 := (List.getElem?_eq_some_iff.1 hx).2
    simp [h2]
  · refine (World.frozen?_alloc_mark wy.drew _ _ _ _ p).trans ?_
    have : p < (bytesRow ⟨TL.toArray⟩ (grownCap wy TL.length 0 5)).size := by
      unfold bytesRow
      simp; omega
    simp; omega
attribute [local irreducible] wpQuiet
set_option maxHeartbeats 8000000 in
set_option maxRecDepth 100000 in
theorem word_any (s : Syl) (hs : s.sm 100) (hl : (txtL s).length ≤ 16) (w : World) : Calls Tryz.prog 71 #[s.val] w fun e w' => ∃ g c, e = .returned (.slice (some ⟨g, 0, none⟩) (wordL s).length c) ∧ BR w' w.heap.size g (wordL s).length (wordL s) ∧ Below w.heap.size w w' := by
  have hlen : (wordL s).length = (txtL s).length := (word_perm s).length_eq
  have HW := Lib.hid (fun R hp hq => sorted_word (s := s) (R := R) hp hq)
  have hbr := both_rng hs (by omega)
  obtain ⟨⟨h1, h2⟩, ⟨h3, h4⟩, h5, h6⟩ := hs
  have hbd : s.both = max 0 (min s.l s.r) + min 0 (max s.l s.r) := rfl
  have CX := fun W => times_any 67 99 s.x (by omega) W
  have CL := fun W => times_any 76 108 (s.l - s.both) (by omega) W
  have CR := fun W => times_any 82 114 (s.r - s.both) (by omega) W
  have CT := fun W => times_any 84 116 s.both (by omega) W
  have eL : IntKind.i64.wrap (s.l - s.both) = s.l - s.both := IntWalk.i64_in _ (by omega)
  have eR : IntKind.i64.wrap (s.r - s.both) = s.r - s.both := IntWalk.i64_in _ (by omega)
  have t1 := tmL_len 67 99 s.x
  have t2 := tmL_len 76 108 (s.l - s.both)
  have t3 := tmL_len 82 114 (s.r - s.both)
  have t4 := tmL_len 84 116 s.both
  have hT : txtL s = tmL 67 99 s.x ++ tmL 76 108 (s.l - s.both) ++ tmL 82 114 (s.r - s.both) ++ tmL 84 116 s.both := rfl
  rw [hlen]
  generalize wordL s = WL at *
  generalize txtL s = TL at *
  have l1 : (tmL 67 99 s.x).length ≤ 1000 := by split at t1 <;> omega
  have l2 : (tmL 76 108 (s.l - s.both)).length ≤ 1000 := by split at t2 <;> omega
  have l3 : (tmL 82 114 (s.r - s.both)).length ≤ 1000 := by split at t3 <;> omega
  have l4 : (tmL 84 116 s.both).length ≤ 1000 := by split at t4 <;> omega
  generalize tmL 67 99 s.x = A1 at *
  generalize tmL 76 108 (s.l - s.both) = A2 at *
  generalize tmL 82 114 (s.r - s.both) = A3 at *
  generalize tmL 84 116 s.both = A4 at *
  clear t1 t2 t3 t4
  obtain ⟨dl, hdl⟩ : ∃ d, d = s.l - s.both := ⟨_, rfl⟩
  obtain ⟨dr, hdr⟩ : ∃ d, d = s.r - s.both := ⟨_, rfl⟩
  rw [← hdl] at CL eL
  rw [← hdr] at CR eR
  have eL' : IntKind.i64.wrap (s.l - s.both) = dl := by rw [← hdl]; exact eL
  have eR' : IntKind.i64.wrap (s.r - s.both) = dr := by rw [← hdr]; exact eR
  clear hdl hdr eL eR
  generalize s.both = bo at *
  obtain ⟨xx, hxx⟩ : ∃ x, x = s.x := ⟨_, rfl⟩
  obtain ⟨ll, hll⟩ : ∃ x, x = s.l := ⟨_, rfl⟩
  obtain ⟨rr, hrr⟩ : ∃ x, x = s.r := ⟨_, rfl⟩
  unfold Syl.val
  rw [← hxx] at h1 h2 CX ⊢
  rw [← hll] at h3 h4 hbd eL' ⊢
  rw [← hrr] at h5 h6 hbd eR' ⊢
  clear hxx hll hrr
  have HL := Lib.hid eL'
  have HR := Lib.hid eR'
  obtain ⟨S1, e1⟩ : ∃ S : ByteArray, S = ⟨A1.toArray⟩ := ⟨_, rfl⟩
  obtain ⟨S2, e2⟩ : ∃ S : ByteArray, S = ⟨A2.toArray⟩ := ⟨_, rfl⟩
  obtain ⟨S3, e3⟩ : ∃ S : ByteArray, S = ⟨A3.toArray⟩ := ⟨_, rfl⟩
  obtain ⟨S4, e4⟩ : ∃ S : ByteArray, S = ⟨A4.toArray⟩ := ⟨_, rfl⟩
  obtain ⟨S12, e12⟩ : ∃ S : ByteArray, S = ⟨(A1 ++ A2).toArray⟩ := ⟨_, rfl⟩
  obtain ⟨S123, e123⟩ : ∃ S : ByteArray, S = ⟨(A1 ++ A2 ++ A3).toArray⟩ := ⟨_, rfl⟩
  obtain ⟨S, e1234⟩ : ∃ S : ByteArray, S = ⟨(A1 ++ A2 ++ A3 ++ A4).toArray⟩ := ⟨_, rfl⟩
  have s1 : S1.size ≤ 1000 := by rw [e1]; show A1.toArray.size ≤ 1000; simpa using l1
  have s2 : S2.size ≤ 1000 := by rw [e2]; show A2.toArray.size ≤ 1000; simpa using l2
  have s3 : S3.size ≤ 1000 := by rw [e3]; show A3.toArray.size ≤ 1000; simpa using l3
  have s4 : S4.size ≤ 1000 := by rw [e4]; show A4.toArray.size ≤ 1000; simpa using l4
  have s12 : S12.size ≤ 3000 := by rw [e12]; show (A1 ++ A2).toArray.size ≤ 3000; simp; omega
  have s123 : S123.size ≤ 3000 := by rw [e123]; show (A1 ++ A2 ++ A3).toArray.size ≤ 3000; simp; omega
  have k12 : S1 ++ S2 = S12 := by rw [e1, e2, e12]; exact cat_lit A1 A2
  have k123 : S12 ++ S3 = S123 := by rw [e12, e3, e123]; exact cat_lit (A1 ++ A2) A3
  have k1234 : S123 ++ S4 = S := by rw [e123, e4, e1234]; exact cat_lit (A1 ++ A2 ++ A3) A4
  have HS := Lib.hid (show S = ⟨TL.toArray⟩ by rw [e1234, hT])
  rw [← e1] at CX
  rw [← e2] at CL
  rw [← e3] at CR
  rw [← e4] at CT
  have HX := Lib.hid CX
  have HLc := Lib.hid CL
  have HRc := Lib.hid CR
  have HTc := Lib.hid CT
  clear e1 e2 e3 e4 e12 e123 e1234
  have HB := Lib.hid hbd
  clear CX CL CR CT hT eL' eR' l1 l2 l3 l4 hbd
  have hbe : max 0 (min ll rr) + min 0 (max ll rr) = bo := HB.out.symm
  go_enter Tryz.func71, Tryz.ntmps71
  go_wp2_with fail
  clear hbe
  obtain ⟨wr, hwr⟩ : ∃ W, W = w.alloc (.cells #[.int .i64 xx, .int .i64 ll, .int .i64 rr] 81) := ⟨_, rfl⟩
  rw [← hwr]
  have HH := Lib.hid (show wr.heap[w.heap.size]? = some (.cells #[.int .i64 xx, .int .i64 ll, .int .i64 rr] 81 (0, 0)) by rw [hwr]; exact heap_alloc_new _ _)
  have HBW := Lib.hid (show Below w.heap.size w wr by rw [hwr]; exact below_alloc w _)
  clear hwr
  have c0 : wr.cell? ⟨w.heap.size, 0, none⟩ = some (.int .i64 xx) := cell_of_row _ _ 0 _ _ _ HH.out
  have c1 : wr.cell? ⟨w.heap.size, 1, none⟩ = some (.int .i64 ll) := cell_of_row _ _ 1 _ _ _ HH.out
  have c2 : wr.cell? ⟨w.heap.size, 2, none⟩ = some (.int .i64 rr) := cell_of_row _ _ 2 _ _ _ HH.out
  have HG : w.heap.size < wr.heap.size := (Array.getElem?_eq_some_iff.1 HH.out).1
  refine wp_region_class (fun w' => Below wr.heap.size wr w') 18 (by kernel_rfl) (by kernel_rfl) (Below.refl _ wr).drew ?_
  simp only [List.take_succ_cons, List.take_zero, List.drop_succ_cons, List.drop_zero]
  refine quiet_still rfl (.pointer (some ⟨w.heap.size, 0, none⟩)) (fun w _ => by go_simp) ?_
  simp only [Act.put, List.setIfInBounds_toArray, List.set_cons_zero, List.set_cons_succ]
  refine quiet_load1 rfl _ _ rfl ⟨w.heap.size, 0, none⟩ rfl (.int .i64 xx) (load_int _ _) (fun _ h => (h.cell (p := ⟨w.heap.size, 0, none⟩) HG).trans c0) ?_
  simp only [Act.put, List.setIfInBounds_toArray, List.set_cons_zero, List.set_cons_succ]
  refine quiet_call rfl 90 _ _ rfl (enter_of Tryz.func90 (by decide) (by intro h; cases h)) _ (fun W h => (HX.out W).mono fun e w' ⟨he, hw⟩ => ⟨he, h.trans (hw.mono h.size)⟩) ?_
  simp only [Act.put, List.setIfInBounds_toArray, List.set_cons_zero, List.set_cons_succ]
  refine quiet_still rfl (.pointer (some ⟨w.heap.size, 1, none⟩)) (fun w _ => by go_simp) ?_
  simp only [Act.put, List.setIfInBounds_toArray, List.set_cons_zero, List.set_cons_succ]
  refine quiet_load1 rfl _ _ rfl ⟨w.heap.size, 1, none⟩ rfl (.int .i64 ll) (load_int _ _) (fun _ h => (h.cell (p := ⟨w.heap.size, 1, none⟩) HG).trans c1) ?_
  simp only [Act.put, List.setIfInBounds_toArray, List.set_cons_zero, List.set_cons_succ]
  refine quiet_moveV rfl _ rfl (.int .i64 bo) rfl ?_
  simp only [Act.put, List.setIfInBounds_toArray, List.set_cons_zero, List.set_cons_succ]
  refine quiet_still rfl (.int .i64 dl) (fun w _ => by first | (go_simp; done) | (go_simp; exact HL.out)) ?_
  simp only [Act.put, List.setIfInBounds_toArray, List.set_cons_zero, List.set_cons_succ]
  refine quiet_call rfl 90 _ _ rfl (enter_of Tryz.func90 (by decide) (by intro h; cases h)) _ (fun W h => (HLc.out W).mono fun e w' ⟨he, hw⟩ => ⟨he, h.trans (hw.mono h.size)⟩) ?_
  simp only [Act.put, List.setIfInBounds_toArray, List.set_cons_zero, List.set_cons_succ]
  refine quiet_still rfl (.string S12) (fun w _ => by first | (go_simp; done) | (go_simp; simp [k12]; done) | (go_simp; omega)) ?_
  simp only [Act.put, List.setIfInBounds_toArray, List.set_cons_zero, List.set_cons_succ]
  refine quiet_still rfl (.pointer (some ⟨w.heap.size, 2, none⟩)) (fun w _ => by go_simp) ?_
  simp only [Act.put, List.setIfInBounds_toArray, List.set_cons_zero, List.set_cons_succ]
  refine quiet_load1 rfl _ _ rfl ⟨w.heap.size, 2, none⟩ rfl (.int .i64 rr) (load_int _ _) (fun _ h => (h.cell (p := ⟨w.heap.size, 2, none⟩) HG).trans c2) ?_
  simp only [Act.put, List.setIfInBounds_toArray, List.set_cons_zero, List.set_cons_succ]
  refine quiet_moveV rfl _ rfl (.int .i64 bo) rfl ?_
  simp only [Act.put, List.setIfInBounds_toArray, List.set_cons_zero, List.set_cons_succ]
  refine quiet_still rfl (.int .i64 dr) (fun w _ => by first | (go_simp; done) | (go_simp; exact HR.out)) ?_
  simp only [Act.put, List.setIfInBounds_toArray, List.set_cons_zero, List.set_cons_succ]
  refine quiet_call rfl 90 _ _ rfl (enter_of Tryz.func90 (by decide) (by intro h; cases h)) _ (fun W h => (HRc.out W).mono fun e w' ⟨he, hw⟩ => ⟨he, h.trans (hw.mono h.size)⟩) ?_
  simp only [Act.put, List.setIfInBounds_toArray, List.set_cons_zero, List.set_cons_succ]
  refine quiet_still rfl (.string S123) (fun w _ => by first | (go_simp; done) | (go_simp; simp [k123]; done) | (go_simp; omega)) ?_
  simp only [Act.put, List.setIfInBounds_toArray, List.set_cons_zero, List.set_cons_succ]
  refine quiet_moveV rfl _ rfl (.int .i64 bo) rfl ?_
  simp only [Act.put, List.setIfInBounds_toArray, List.set_cons_zero, List.set_cons_succ]
  refine quiet_call rfl 90 _ _ rfl (enter_of Tryz.func90 (by decide) (by intro h; cases h)) _ (fun W h => (HTc.out W).mono fun e w' ⟨he, hw⟩ => ⟨he, h.trans (hw.mono h.size)⟩) ?_
  simp only [Act.put, List.setIfInBounds_toArray, List.set_cons_zero, List.set_cons_succ]
  refine quiet_still rfl (.string S) (fun w _ => by first | (go_simp; done) | (go_simp; simp [k1234]; done) | (go_simp; omega)) ?_
  simp only [Act.put, List.setIfInBounds_toArray, List.set_cons_zero, List.set_cons_succ]
  unfold wpQuiet
  intro wy hb
  clear k12 k123 k1234 c0 c1 c2
  have HB2 := Lib.hid (HBW.out.trans (hb.mono HBW.out.size))
  have hzy := HB2.out.size
  obtain ⟨hcv, hbr2, hbb⟩ := bytes_conv TL wy w.heap.size hzy
  rw [← HS.out] at hcv hbr2 hbb
  generalize grownCap wy TL.length 0 5 = cp at *
  have CS := Lib.hid (sort16 TL w.heap.size wy.heap.size cp TL.length rfl hl ((wy.alloc (.cells (bytesRow S cp) 5 ((bytesRow S cp).size, (bytesRow S cp).size + 1))).drew) hbr2 hzy)
  have HB3 := Lib.hid (HB2.out.trans hbb)
  clear hb hbb hbr2
  go_wp2_with fail
  refine CS.out.mono ?_
  rintro e w4 ⟨R, rfl, ho, hp, hs, hb4⟩
  obtain rfl := HW.out R hp hs
  have HB4 := Lib.hid (HB3.out.trans hb4)
  have HO4 := Lib.hid ho
  clear hb4 ho hp hs
  go_wp2_with fail
  go_ret
  exact ⟨_, _, rfl, HO4.out, HB4.out⟩
end Go.Proofs.YtmefpaoakblndaaGreatDoor
