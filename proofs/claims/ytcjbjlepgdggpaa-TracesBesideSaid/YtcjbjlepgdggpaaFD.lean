/- Check of layer 4 walked: all works are as is said. -/
import Derived.Test.YtcjbjlepgdggpaaFC
namespace Go.Proofs.Ytcjbjlepgdggpaa
open Go.RowKit Go.Lib
theorem infoWk : (Try.prog.info? 51).map (fun i => i.size) = some 3 := by kernel_rfl
/-- A slice value that reads as these works. -/
def WS (w : World) (v : Value) (W : List Wk) : Prop := ∃ a c, v = .slice a W.length c ∧ W.length ≤ c ∧ c ≤ maxLen ∧ ∀ (k : Nat) (x : Wk), W[k]? = some x → ∃ b off, a = some ⟨b, off, none⟩ ∧ b < w.heap.size ∧ w.rangeAt b (off + k * 3) [.int .i64 x.kd, .int .i64 x.pl, .string x.wd] ∧ x.wd.size ≤ maxLen
theorem range_below3 {w w' : World} {b o : Nat} {cs : List Value} (h : w.rangeAt b o cs) (hb : b < w.heap.size) (hB : Below w.heap.size w w') : w'.rangeAt b o cs := fun j v hj => (hB.cell (p := ⟨b, o + j, none⟩) hb).trans (h j v hj)
theorem WS.below {w w' : World} {v : Value} {W : List Wk} (h : WS w v W) (hb : Below w.heap.size w w') : WS w' v W := by
  obtain ⟨a, c, e, h1, h2, h3⟩ := h
  refine ⟨a, c, e, h1, h2, fun k x hx => ?_⟩
  obtain ⟨b, off, e1, e2, e3, e4⟩ := h3 k x hx
  exact ⟨b, off, e1, Nat.lt_of_lt_of_le e2 hb.size, range_below3 e3 e2 hb, e4⟩
/-- The closure of 'all' answers so of a work. -/
def AllOk (fv : Value) (is : Wk → Bool) (W : List Wk) (w : World) : Prop := ∀ (w' : World) (pb : Nat) (x : Wk), x ∈ W → Below w.heap.size w w' → pb < w'.heap.size → w'.cell? ⟨pb, 0, none⟩ = some fv →
  Calls Try.prog 79 #[x.val, .pointer (some ⟨pb, 0, none⟩)] w' fun e w'' => e = .returned (.bool (!is x)) ∧ Below w'.heap.size w' w''
set_option maxHeartbeats 1000000 in
set_option maxRecDepth 100000 in
theorem indexFunc_any (fv : Value) (is : Wk → Bool) (W : List Wk) (v : Value) (pb : Nat) (w w0 : World) (hw0 : Below w0.heap.size w0 w) (hv : WS w v W) (hpb : pb < w.heap.size) (hcb : w.cell? ⟨pb, 0, none⟩ = some fv) (H : AllOk fv is W w0) :
    Calls Try.prog 93 #[v, .func (.func 79) #[] #[.pointer (some ⟨pb, 0, none⟩)]] w fun e w' => ∃ z : Int, e = .returned (.int .i64 z) ∧ (0 ≤ z ↔ W.all is = false) ∧ Below w.heap.size w w' := by
  obtain ⟨a, c, rfl, h1, h2, hW⟩ := hv
  unfold maxLen at h2
  have HW := Lib.hid hW
  have HH := Lib.hid H
  have H0 := Lib.hid hw0
  have Hcb := Lib.hid hcb
  clear hW H hw0 hcb
  go_enter Try.func93, Try.ntmps93
  go_wp2_with fail
  go_loopw [8] (fun i wr => ∃ k : Nat, k ≤ W.length ∧ i = .int .i64 k ∧ (W.take k).all is = true ∧ Below w.heap.size w wr) (fun i _ => W.length - (intOf i).toNat)
  case atStart => exact ⟨0, Nat.zero_le _, rfl, rfl, Below.refl _ _⟩
  case round =>
    obtain ⟨k, hk, rfl, hall, hbw⟩ := hrel
    have Hall := Lib.hid hall
    have HB := Lib.hid hbw
    clear hall
    by_cases hkl : k < W.length
    · obtain ⟨x, hx⟩ : ∃ x, W[k]? = some x := ⟨_, List.getElem?_eq_getElem hkl⟩
      obtain ⟨b, off, rfl, hb, hr0, _⟩ := HW.out k x hx
      have hr := range_below3 hr0 hb hbw
      have hxm := List.mem_of_getElem? hx
      have CA := Lib.hid (HH.out wr pb x hxm (bon H0.out hbw) (Nat.lt_of_lt_of_le hpb hbw.size) ((hbw.cell (p := ⟨pb, 0, none⟩) hpb).trans Hcb.out))
      have j0 : (0 : Int) ≤ (k : Int) := by omega
      have j1 : (k : Int) < (W.length : Int) := by omega
      have Hx := Lib.hid hx
      unfold Wk.val at CA
      clear hr0 hbw hx
      by_cases hi : is x = true
      · rw [hi] at CA
        have Hi := Lib.hid hi
        clear hi
        go_wp2_with (refine wpList_load_mid rfl 51 (.tmp 14) rfl b (off + k * 3) rfl [.int .i64 x.kd, .int .i64 x.pl, .string x.wd] _ hr Try.underlying51 rfl infoWk ?_)
        refine CA.out.mono ?_
        rintro e w1 ⟨rfl, B1⟩
        have HB1 := Lib.hid (bon HB.out B1)
        clear B1
        go_wp2_with fail
        go_roundw
        case rel => exact ⟨k + 1, hkl, by go_num, by rw [List.take_add_one, Hx.out, List.all_append, Hall.out]; simp [Hi.out], HB1.out⟩
        case measure => (simp [intOf] <;> omega)
      · have hi' : is x = false := by simpa using hi
        rw [hi'] at CA
        have Hi := Lib.hid hi'
        clear hi hi'
        go_wp2_with (refine wpList_load_mid rfl 51 (.tmp 14) rfl b (off + k * 3) rfl [.int .i64 x.kd, .int .i64 x.pl, .string x.wd] _ hr Try.underlying51 rfl infoWk ?_)
        refine CA.out.mono ?_
        rintro e w1 ⟨rfl, B1⟩
        have HB1 := Lib.hid (bon HB.out B1)
        clear B1
        go_wp2_with fail
        go_ret
        refine ⟨k, rfl, ⟨fun _ => ?_, fun _ => by omega⟩, HB1.out⟩
        rw [List.all_eq_false]
        exact ⟨x, hxm, by rw [Hi.out]; simp⟩
    · have j1 : ¬ (k : Int) < (W.length : Int) := by omega
      have e : k = W.length := by omega
      have hf : W.all is = true := by have := Hall.out; rwa [e, List.take_length] at this
      have Hf := Lib.hid hf
      clear hf
      go_wp2_with fail
      go_ret
      refine ⟨-1, rfl, ⟨fun h => by omega, fun h => ?_⟩, hbw⟩
      exfalso
      first
        | (rw [Hf.out] at h; cases h)
        | (obtain ⟨x, hx, hf⟩ := h; have := List.all_eq_true.1 Hf.out x hx; rw [hf] at this; cases this)
set_option maxHeartbeats 400000 in
theorem containsFunc_any (fv : Value) (is : Wk → Bool) (W : List Wk) (v : Value) (pb : Nat) (w w0 : World) (hw0 : Below w0.heap.size w0 w) (hv : WS w v W) (hpb : pb < w.heap.size) (hcb : w.cell? ⟨pb, 0, none⟩ = some fv) (H : AllOk fv is W w0) :
    Calls Try.prog 78 #[v, .func (.func 79) #[] #[.pointer (some ⟨pb, 0, none⟩)]] w fun e w' => e = .returned (.bool (!W.all is)) ∧ Below w.heap.size w w' := by
  have CI := Lib.hid (indexFunc_any fv is W v pb w w0 hw0 hv hpb hcb H)
  obtain ⟨r, hr⟩ : ∃ r, r = W.all is := ⟨_, rfl⟩
  rw [← hr] at CI ⊢
  obtain ⟨a, c, rfl, _⟩ := hv
  clear hr H hcb hw0
  go_enter Try.func78, Try.ntmps78
  go_wp2_with fail
  refine CI.out.mono ?_
  rintro e w1 ⟨z, rfl, hz, B1⟩
  have HB1 := Lib.hid B1
  clear B1
  rcases r with _ | _
  · have h0 : (0 : Int) ≤ z := hz.2 rfl
    clear hz
    go_wp2_with fail
    go_ret
    exact ⟨by simp, HB1.out⟩
  · have h0 : ¬ (0 : Int) ≤ z := fun h => by have := hz.1 h; cases this
    clear hz
    go_wp2_with fail
    go_ret
    exact ⟨by simp; omega, HB1.out⟩
set_option maxHeartbeats 400000 in
theorem all_any (F : FuncId) (C : Array Value) (is : Wk → Bool) (W : List Wk) (v : Value) (w : World) (hv : WS w v W) (H : AllOk (.func (.func F) #[] C) is W w) :
    Calls Try.prog 65 #[v, .func (.func F) #[] C] w fun e w' => e = .returned (.bool (W.all is)) ∧ Below w.heap.size w w' := by
  have B1 := below_alloc w (.cells #[.func (.func F) #[] C] 100)
  have hr0 := heap_alloc_new w (.cells #[.func (.func F) #[] C] 100)
  have c0 : (w.alloc (.cells #[.func (.func F) #[] C] 100)).cell? ⟨w.heap.size, 0, none⟩ = some (.func (.func F) #[] C) := cell_of_row _ _ 0 _ _ _ hr0
  have CC := Lib.hid (containsFunc_any (.func (.func F) #[] C) is W v w.heap.size _ w B1 (hv.below B1) (by simp) c0 H)
  obtain ⟨r, hr⟩ : ∃ r, r = W.all is := ⟨_, rfl⟩
  rw [← hr] at CC ⊢
  obtain ⟨a, c, rfl, _⟩ := hv
  have HB1 := Lib.hid B1
  clear hr H B1 hr0 c0
  go_enter Try.func65, Try.ntmps65
  go_wp2_with fail
  refine CC.out.mono ?_
  rintro e w1 ⟨rfl, B2⟩
  have HB2 := Lib.hid (bon HB1.out B2)
  clear B2
  go_wp2_with fail
  go_ret
  exact ⟨by simp, HB2.out⟩
end Go.Proofs.Ytcjbjlepgdggpaa
