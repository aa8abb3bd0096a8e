/- The usual stitches: Standard and Name on both sides. -/
import Derived.Test.YtmefpaoakblndaaGreatDoorVK
namespace Go.Proofs.YtmefpaoakblndaaGreatDoor
open Go.RowKit Go.Lib
def usualL : List (ByteArray × ByteArray) := [(⟨#[104, 97, 108, 102]⟩, ⟨#[67, 84]⟩), (⟨#[99, 108, 111, 116, 104]⟩, ⟨#[67, 84, 67]⟩), (⟨#[119, 104, 111, 108, 101]⟩, ⟨#[67, 84, 67, 84]⟩), (⟨#[104, 97, 108, 102, 112, 105, 110]⟩, ⟨#[67, 84, 80, 67, 84]⟩), (⟨#[99, 108, 111, 116, 104, 112, 105, 110]⟩, ⟨#[67, 84, 67, 80, 67, 84, 67]⟩), (⟨#[119, 104, 111, 108, 101, 112, 105, 110]⟩, ⟨#[67, 84, 67, 84, 80, 67, 84, 67, 84]⟩), (⟨#[116, 119, 105, 115, 116]⟩, ⟨#[84]⟩), (⟨#[110, 111, 110, 101]⟩, ⟨#[]⟩)]
def usualC : List Value := [.string ⟨#[104, 97, 108, 102]⟩, .string ⟨#[67, 84]⟩, .string ⟨#[99, 108, 111, 116, 104]⟩, .string ⟨#[67, 84, 67]⟩, .string ⟨#[119, 104, 111, 108, 101]⟩, .string ⟨#[67, 84, 67, 84]⟩, .string ⟨#[104, 97, 108, 102, 112, 105, 110]⟩, .string ⟨#[67, 84, 80, 67, 84]⟩, .string ⟨#[99, 108, 111, 116, 104, 112, 105, 110]⟩, .string ⟨#[67, 84, 67, 80, 67, 84, 67]⟩, .string ⟨#[119, 104, 111, 108, 101, 112, 105, 110]⟩, .string ⟨#[67, 84, 67, 84, 80, 67, 84, 67, 84]⟩, .string ⟨#[116, 119, 105, 115, 116]⟩, .string ⟨#[84]⟩, .string ⟨#[110, 111, 110, 101]⟩, .string ⟨#[]⟩]
/-- What the listed variables hold. -/
structure Glob (w : World) : Prop where
  us : ∃ t fr, w.heap[0]? = some (.cells usualC.toArray t fr)
  mx : ∃ m : Int, w.cell? ⟨1, 0, none⟩ = some (.int .i64 m)
  sz : 4 ≤ w.heap.size
theorem Glob.next {w w' : World} (g : Glob w) (h : Below w.heap.size w w') : Glob w' :=
  ⟨by rw [h.block _ (Nat.lt_of_lt_of_le (by decide) g.sz)]; exact g.us, by
    obtain ⟨m, hm⟩ := g.mx
    exact ⟨m, by rw [h.cell (Nat.lt_of_lt_of_le (by decide) g.sz)]; exact hm⟩, Nat.le_trans g.sz h.size⟩
def stdF (s : ByteArray) : Option ByteArray := (usualL.find? fun p => decide (p.1 = s)).map (·.2)
def namF (s : ByteArray) : Option ByteArray := (usualL.find? fun p => decide (p.2 = s)).map (·.1)
def gotS (o : Option ByteArray) : ByteArray := o.getD ByteArray.empty
def gotE (o : Option ByteArray) : Int := if o.isSome then 0 else 4
theorem usual_row {w : World} (g : Glob w) : w.rangeAt 0 0 usualC := by
  obtain ⟨t, fr, h⟩ := g.us
  intro j v hv
  rw [Nat.zero_add, cell_of_row _ _ j _ _ _ h, List.getElem?_toArray, hv]
theorem str_ne {a b : ByteArray} (h : ¬ a = b) : (a.toList == b.toList) = false := by
  rw [beq_eq_false_iff_ne, ByteArray.toList_eq, ByteArray.toList_eq]
  exact fun e => h (ByteArray.ext (Array.toList_inj.mp e))
set_option maxRecDepth 100000 in
theorem usual_at {k : Nat} {p : ByteArray × ByteArray} (hp : usualL[k]? = some p) (W : World) : (Instr.index 64 (.agg usualC.toArray) (.int .i64 (k : Int))).run Tryz.prog W = .ok (.agg #[.string p.1, .string p.2]) W := by
  have hk : k < 8 := (List.getElem?_eq_some_iff.1 hp).1
  rcases k with _ | _ | _ | _ | _ | _ | _ | _ | k
  all_goals first | (obtain rfl := Option.some.inj hp; go_simp; done) | (obtain rfl := Option.some.inj hp; go_simp; rfl) | (exfalso; omega)
set_option maxHeartbeats 2000000 in
set_option maxRecDepth 100000 in
theorem Standard_any (s : ByteArray) (w : World) (g : Glob w) : Calls Tryz.prog 29 #[.string s] w fun e w' => e = .returned (.tuple #[.string (gotS (stdF s)), .int .i64 (gotE (stdF s))]) ∧ Below w.heap.size w w' := by
  obtain ⟨ut, ufr, hus⟩ := g.us
  have HS := Lib.hid (show stdF s = (usualL.find? fun p => decide (p.1 = s)).map (·.2) from rfl)
  generalize stdF s = r at *
  go_enter Tryz.func29, Tryz.ntmps29
  go_wp2_with (refine wpList_load_row rfl 64 _ rfl 0 rfl _ usualC.toArray _ _ hus Tryz.underlying64 rfl (by kernel_rfl) ?_)
  go_loopw [7] (fun i wr => ∃ k : Nat, k ≤ 8 ∧ i = .int .i64 k ∧ (usualL.drop k).find? (fun p => decide (p.1 = s)) = usualL.find? (fun p => decide (p.1 = s)) ∧ Below w.heap.size w wr) (fun i _ => 8 - (intOf i).toNat)
  case atStart => exact ⟨0, Nat.zero_le _, rfl, rfl, Below.refl _ w⟩
  case round =>
    obtain ⟨k, hk, rfl, hf, hb⟩ := hrel
    have HF := Lib.hid hf
    clear hf
    by_cases hk8 : k < 8
    · obtain ⟨p, hp⟩ : ∃ p, usualL[k]? = some p := ⟨_, List.getElem?_eq_getElem hk8⟩
      have hx := usual_at hp
      have hd : usualL.drop k = p :: usualL.drop (k + 1) := by rw [List.drop_eq_getElem_cons hk8]; congr 1; exact Option.some.inj ((List.getElem?_eq_getElem hk8).symm.trans hp)
      have k0 : (0 : Int) ≤ (k : Int) := by omega
      have k1 : (k : Int) < 8 := by omega
      by_cases he : p.1 = s
      · have hq : decide (p.1 = s) = true := by simp [he]
        have HE := Lib.hid (show r = some p.2 by
          rw [HS.out, ← HF.out, hd, List.find?_cons, hq]; rfl)
        clear hd
        go_wp2_with fail
        go_ret2
        rw [HE.out]
        exact ⟨rfl, hb.alloc hb.size _⟩
      · have hq : decide (p.1 = s) = false := by simp [he]
        have hq2 := str_ne he
        have HN := Lib.hid (show (usualL.drop (k + 1)).find? (fun p => decide (p.1 = s)) = usualL.find? (fun p => decide (p.1 = s)) by
          rw [← HF.out, hd, List.find?_cons, hq])
        clear hd
        go_wp2_with fail
        go_roundw
        case rel => exact ⟨k + 1, by omega, by go_num, HN.out, hb.alloc hb.size _⟩
        case measure => (simp [intOf] <;> omega)
    · have k1 : ¬ (k : Int) < 8 := by omega
      have HE := Lib.hid (show r = none by
        rw [HS.out, ← HF.out, List.drop_eq_nil_of_le (by show 8 ≤ k; omega)]; rfl)
      go_wp2_with fail
      go_ret2
      rw [HE.out]
      exact ⟨rfl, hb⟩
set_option maxHeartbeats 2000000 in
set_option maxRecDepth 100000 in
theorem Name_ok (s : ByteArray) (hz : stV s = 0) (hm : s.size ≤ maxLen) (w : World) (g : Glob w) : Calls Tryz.prog 31 #[.string s] w fun e w' => e = .returned (.tuple #[.string (gotS (namF s)), .int .i64 (gotE (namF s))]) ∧ Below w.heap.size w w' := by
  obtain ⟨ut, ufr, hus⟩ := g.us
  have HS := Lib.hid (show namF s = (usualL.find? fun p => decide (p.2 = s)).map (·.1) from rfl)
  generalize namF s = r at *
  have CK := Lib.hid (fun W => stCheck_any s W hm)
  rw [hz] at CK
  clear hz
  go_enter Tryz.func31, Tryz.ntmps31
  go_wp2_with fail
  refine (CK.out _).mono ?_
  rintro e w1 ⟨rfl, hw⟩
  obtain rfl := hw.symm
  clear hw
  go_wp2_with (refine wpList_load_row rfl 64 _ rfl 0 rfl _ usualC.toArray _ _ hus Tryz.underlying64 rfl (by kernel_rfl) ?_)
  go_loopw [13] (fun i wr => ∃ k : Nat, k ≤ 8 ∧ i = .int .i64 k ∧ (usualL.drop k).find? (fun p => decide (p.2 = s)) = usualL.find? (fun p => decide (p.2 = s)) ∧ Below w.heap.size w wr) (fun i _ => 8 - (intOf i).toNat)
  case atStart => exact ⟨0, Nat.zero_le _, rfl, rfl, Below.refl _ w⟩
  case round =>
    obtain ⟨k, hk, rfl, hf, hb⟩ := hrel
    have HF := Lib.hid hf
    clear hf
    by_cases hk8 : k < 8
    · obtain ⟨p, hp⟩ : ∃ p, usualL[k]? = some p := ⟨_, List.getElem?_eq_getElem hk8⟩
      have hx := usual_at hp
      have hd : usualL.drop k = p :: usualL.drop (k + 1) := by rw [List.drop_eq_getElem_cons hk8]; congr 1; exact Option.some.inj ((List.getElem?_eq_getElem hk8).symm.trans hp)
      have k0 : (0 : Int) ≤ (k : Int) := by omega
      have k1 : (k : Int) < 8 := by omega
      by_cases he : p.2 = s
      · have hq : decide (p.2 = s) = true := by simp [he]
        have HE := Lib.hid (show r = some p.1 by
          rw [HS.out, ← HF.out, hd, List.find?_cons, hq]; rfl)
        clear hd
        go_wp2_with fail
        go_ret2
        rw [HE.out]
        exact ⟨rfl, hb.alloc hb.size _⟩
      · have hq : decide (p.2 = s) = false := by simp [he]
        have hq2 := str_ne he
        have HN := Lib.hid (show (usualL.drop (k + 1)).find? (fun p => decide (p.2 = s)) = usualL.find? (fun p => decide (p.2 = s)) by
          rw [← HF.out, hd, List.find?_cons, hq])
        clear hd
        go_wp2_with fail
        go_roundw
        case rel => exact ⟨k + 1, by omega, by go_num, HN.out, hb.alloc hb.size _⟩
        case measure => (simp [intOf] <;> omega)
    · have k1 : ¬ (k : Int) < 8 := by omega
      have HE := Lib.hid (show r = none by
        rw [HS.out, ← HF.out, List.drop_eq_nil_of_le (by show 8 ≤ k; omega)]; rfl)
      go_wp2_with fail
      go_ret2
      rw [HE.out]
      exact ⟨rfl, hb⟩
/-- What Name hands out. -/
def namS (s : ByteArray) : ByteArray := if stV s = 0 then gotS (namF s) else ByteArray.empty
def namE (s : ByteArray) : Int := if stV s = 0 then gotE (namF s) else stV s
set_option maxHeartbeats 1000000 in
set_option maxRecDepth 100000 in
theorem Name_any (s : ByteArray) (hm : s.size ≤ maxLen) (w : World) (g : Glob w) : Calls Tryz.prog 31 #[.string s] w fun e w' => e = .returned (.tuple #[.string (namS s), .int .i64 (namE s)]) ∧ Below w.heap.size w w' := by
  by_cases h0 : stV s = 0
  · have e1 : namS s = gotS (namF s) := if_pos h0
    have e2 : namE s = gotE (namF s) := if_pos h0
    rw [e1, e2]
    exact Name_ok s h0 hm w g
  · have e1 : namS s = ByteArray.empty := if_neg h0
    have e2 : namE s = stV s := if_neg h0
    rw [e1, e2]
    have CK := Lib.hid (fun W => stCheck_any s W hm)
    generalize stV s = z at *
    have hq : (z != 0) = true := by simpa using h0
    clear e1 e2 h0
    go_enter Tryz.func31, Tryz.ntmps31
    go_wp2_with fail
    refine (CK.out _).mono ?_
    rintro e w1 ⟨rfl, rfl⟩
    go_wp2_with fail
    go_ret2
    exact ⟨rfl, Below.refl _ _⟩
end Go.Proofs.YtmefpaoakblndaaGreatDoor
