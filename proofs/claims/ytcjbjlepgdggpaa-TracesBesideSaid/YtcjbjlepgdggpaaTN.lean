/- The reference's Check. -/
import Derived.Test.YtcjbjlepgdggpaaTQ
import Derived.Test.YtcjbjlepgdggpaaFU
import Derived.Deep.CutBlock
import Derived.Deep.CutRange
import Derived.Deep.RegionLaw
import Derived.Deep.QuietTactic
import Derived.BigQuiet
import Derived.OwnWalk
namespace Go.Proofs.Ytcjbjlepgdggpaa
open Go.RowKit Go.Shelf
set_option linter.unusedSimpArgs false
theorem all_step {W : List Wk} {p : Wk → Bool} {k : Nat} {x : Wk} (h : (W.take k).all p = true) (hx : W[k]? = some x) (hp : p x = true) : (W.take (k + 1)).all p = true := by
  rw [List.take_add_one, hx, Option.toList_some, List.all_append, h]
  simpa using hp
theorem all_bad {W : List Wk} {p : Wk → Bool} {k : Nat} {x : Wk} (hx : W[k]? = some x) (hp : p x = false) : W.all p = false := by
  rw [List.all_eq_false]
  exact ⟨x, List.mem_of_getElem? hx, by rw [hp]; simp⟩
theorem all_end {W : List Wk} {p : Wk → Bool} {k : Nat} (h : (W.take k).all p = true) (hk : W.length ≤ k) : W.all p = true := by
  rwa [List.take_of_length_le hk] at h
theorem short_iff (x : Wk) : shortW x = decide (x.wd.size ≤ 16) := by
  unfold shortW stV
  by_cases h : 16 < x.wd.size
  · rw [if_pos h, decide_eq_true rfl, decide_eq_false (show ¬ x.wd.size ≤ 16 by omega)]
    rfl
  · rw [if_neg h, decide_eq_true (show x.wd.size ≤ 16 by omega)]
    split <;> rfl
set_option maxRecDepth 100000 in
set_option maxHeartbeats 16000000 in
theorem refCheck4_any (s : Sh) (v : Value) (w : World) (hv : SV w v s) : Calls Try.prog 32 #[v] w fun e w' => e = .returned (.int .i64 (chkS s)) ∧ Below w.heap.size w w' := by
  obtain ⟨u, rfl, hu⟩ := hv
  obtain ⟨ua, uc, rfl, k1, k2, hU⟩ := id hu
  have HU := Lib.hid hU
  have HC := Lib.hid (show chkS s = if 24 < s.pr then 3 else if 400 < s.ws.length then 3 else if s.ws.all shortW = false then 3 else if s.pr < 2 then 2 else if s.ws.all (fun x => x.fits s.pr) = false then 2 else if s.ws.all speltW = true then 0 else 6 from rfl)
  generalize chkS s = z at *
  clear hU hu
  have h0 := heap_alloc_new w (.cells #[.int .i64 s.pr, .slice ua s.ws.length uc] 24)
  have b0 := below_alloc w (.cells #[.int .i64 s.pr, .slice ua s.ws.length uc] 24)
  have z0 : (w.alloc (.cells #[.int .i64 s.pr, .slice ua s.ws.length uc] 24)).heap.size = w.heap.size + 1 := by simp
  by_cases c1 : 24 < s.pr
  · have e : z = 3 := by rw [HC.out, if_pos c1]
    subst e
    go_enter Try.func32, Try.ntmps32
    go_wp2_with fail
    go_ret
    exact ⟨rfl, b0⟩
  by_cases c2 : 400 < s.ws.length
  · have e : z = 3 := by rw [HC.out, if_neg c1, if_pos c2]
    have c2' : (400 : Int) < (s.ws.length : Int) := by omega
    subst e
    clear c2
    go_enter Try.func32, Try.ntmps32
    go_wp2_with fail
    go_ret
    exact ⟨rfl, b0⟩
  have HC2 := Lib.hid (show z = if s.ws.all shortW = false then 3 else if s.pr < 2 then 2 else if s.ws.all (fun x => x.fits s.pr) = false then 2 else if s.ws.all speltW = true then 0 else 6 by rw [HC.out, if_neg c1, if_neg c2])
  have c2' : ¬ (400 : Int) < (s.ws.length : Int) := by omega
  have hl4 : s.ws.length ≤ 400 := by omega
  have HPR := Lib.hid (show s.pr ≤ 24 by omega)
  clear c2 HC
  go_enter Try.func32, Try.ntmps32
  go_upto_region 3 with fail
  generalize w.alloc (.cells #[.int .i64 s.pr, .slice ua s.ws.length uc] 24) = w0 at *
  have H0 := Lib.hid h0
  have HB0 := Lib.hid b0
  have HZ0 := Lib.hid z0
  clear h0 b0 z0 c1 c2'
  go_wp2_with fail
  go_loopw [3] (fun i wr => ∃ k : Nat, k ≤ s.ws.length ∧ i = .int .i64 (k : Int) ∧ wr = w0 ∧ (s.ws.take k).all shortW = true) (fun i _ => s.ws.length - (intOf i).toNat)
  case atStart => exact ⟨0, Nat.zero_le _, rfl, rfl, rfl⟩
  case round =>
    obtain ⟨k, hk, rfl, hww, hall⟩ := hrel
    subst hww
    have HA := Lib.hid hall
    clear hall
    have g0 : wr.cell? ⟨w.heap.size, 0, none⟩ = some (.int .i64 s.pr) := cell_of_row wr _ 0 _ _ _ H0.out
    have g1 : wr.cell? ⟨w.heap.size, 1, none⟩ = some (.slice ua s.ws.length uc) := cell_of_row wr _ 1 _ _ _ H0.out
    by_cases hkl : k < s.ws.length
    · have j0 : (0 : Int) ≤ (k : Int) := by omega
      have j1 : (k : Int) < (s.ws.length : Int) := by omega
      obtain ⟨x, hx⟩ : ∃ x, s.ws[k]? = some x := ⟨_, List.getElem?_eq_getElem hkl⟩
      obtain ⟨b, off, rfl, hb, hr, hsz⟩ := HU.out k x hx
      have c2 : wr.cell? ⟨b, off + k * 3 + 2, none⟩ = some (.string x.wd) := (HB0.out.cell (p := ⟨b, off + k * 3 + 2, none⟩) hb).trans (hr 2 _ rfl)
      have HX := Lib.hid hx
      clear hx hr
      by_cases hbig : 16 < x.wd.size
      · have q5 : (16 : Int) < (x.wd.size : Int) := by omega
        have e : z = 3 := by rw [HC2.out, if_pos (all_bad HX.out (by rw [short_iff]; exact decide_eq_false (by omega)))]
        subst e
        clear hbig
        go_wp2_with fail
        go_ret
        exact ⟨rfl, HB0.out⟩
      · have q5 : ¬ (16 : Int) < (x.wd.size : Int) := by omega
        have HNN := Lib.hid (all_step (p := shortW) HA.out HX.out (by rw [short_iff]; exact decide_eq_true (by omega)))
        clear hbig
        go_wp2_with fail
        go_roundw
        case rel => exact ⟨k + 1, hkl, by go_num, by trivial, HNN.out⟩
        case measure => (simp [intOf] <;> omega)
    · have j1 : ¬ (k : Int) < (s.ws.length : Int) := by omega
      have HAS := Lib.hid (all_end HA.out (by omega))
      have HC3 := Lib.hid (show z = if s.pr < 2 then 2 else if s.ws.all (fun x => x.fits s.pr) = false then 2 else if s.ws.all speltW = true then 0 else 6 by rw [HC2.out, if_neg (by rw [HAS.out]; decide)])
      clear HC2
      by_cases hp2 : s.pr < 2
      · have e : z = 2 := by rw [HC3.out, if_pos hp2]
        subst e
        go_wp2_with fail
        go_ret
        exact ⟨rfl, HB0.out⟩
      · have HP2 := Lib.hid (show 2 ≤ s.pr by omega)
        have HC4 := Lib.hid (show z = if s.ws.all (fun x => x.fits s.pr) = false then 2 else if s.ws.all speltW = true then 0 else 6 by rw [HC3.out, if_neg hp2])
        clear HC3 HA
        go_wp2_with fail
        clear hkl hk j1 hp2 g0 g1
        go_loopw [4] (fun i wx => ∃ k : Nat, k ≤ s.ws.length ∧ i = .int .i64 (k : Int) ∧ Below wr.heap.size wr wx ∧ (s.ws.take k).all (fun x => x.fits s.pr) = true) (fun i _ => s.ws.length - (intOf i).toNat)
        case atStart => exact ⟨0, Nat.zero_le _, rfl, Below.refl _ _, rfl⟩
        case round =>
          obtain ⟨k, hk, rfl, hbx, hall⟩ := hrel
          rename World => wx
          have HA := Lib.hid hall
          have HBX := Lib.hid hbx
          clear hall hbx
          have hzr : w.heap.size < wr.heap.size := by have := HZ0.out; omega
          have HX0 := Lib.hid ((HBX.out.block _ hzr).trans H0.out)
          have g0 : wx.cell? ⟨w.heap.size, 0, none⟩ = some (.int .i64 s.pr) := cell_of_row wx _ 0 _ _ _ HX0.out
          have g1 : wx.cell? ⟨w.heap.size, 1, none⟩ = some (.slice ua s.ws.length uc) := cell_of_row wx _ 1 _ _ _ HX0.out
          by_cases hkl : k < s.ws.length
          · have j0 : (0 : Int) ≤ (k : Int) := by omega
            have j1 : (k : Int) < (s.ws.length : Int) := by omega
            obtain ⟨x, hx⟩ : ∃ x, s.ws[k]? = some x := ⟨_, List.getElem?_eq_getElem hkl⟩
            obtain ⟨b, off, rfl, hb, hr, hsz⟩ := HU.out k x hx
            have HRX := Lib.hid (range_below3 hr hb (HB0.out.trans (HBX.out.mono HB0.out.size)))
            have HX := Lib.hid hx
            have qw : IntKind.i64.wrap (s.pr - 2) = s.pr - 2 := IntWalk.i64_in _ (by have := HPR.out; have := HP2.out; omega)
            clear hx hr
            go_upto_region 14 with (refine wpList_load_mid rfl 51 (.tmp 44) rfl b (off + k * 3) rfl [.int .i64 x.kd, .int .i64 x.pl, .string x.wd] _ HRX.out Try.underlying51 rfl (by kernel_rfl) ?_)
            have h9 := heap_alloc_new wx (.cells #[.int .i64 x.kd, .int .i64 x.pl, .string x.wd] 51)
            have b9 := below_alloc wx (.cells #[.int .i64 x.kd, .int .i64 x.pl, .string x.wd] 51)
            have z9 := (Below.heap_alloc wx (.cells #[.int .i64 x.kd, .int .i64 x.pl, .string x.wd] 51) _ (Array.getElem?_eq_some_iff.1 HX0.out).1).trans HX0.out
            generalize wx.alloc (.cells #[.int .i64 x.kd, .int .i64 x.pl, .string x.wd] 51) = w9 at *
            have d0 : w9.cell? ⟨wx.heap.size, 0, none⟩ = some (.int .i64 x.kd) := cell_of_row w9 _ 0 _ _ _ h9
            have d1 : w9.cell? ⟨wx.heap.size, 1, none⟩ = some (.int .i64 x.pl) := cell_of_row w9 _ 1 _ _ _ h9
            have d2 : w9.cell? ⟨wx.heap.size, 2, none⟩ = some (.string x.wd) := cell_of_row w9 _ 2 _ _ _ h9
            have p0 : w9.cell? ⟨w.heap.size, 0, none⟩ = some (.int .i64 s.pr) := cell_of_row w9 _ 0 _ _ _ z9
            have HB9 := Lib.hid (HBX.out.trans (b9.mono HBX.out.size))
            clear h9 b9 z9 g0 g1
            by_cases hk1 : x.kd = 1
            · by_cases hp : x.pl < 0
              · have HPL := Lib.hid hp
                have n1 : (x.kd != 1) = false := by rw [hk1]; rfl
                have n2 : (x.kd == 2) = false := by rw [hk1]; rfl
                have HK := Lib.hid hk1
                have HFI := Lib.hid (show x.fits s.pr = false from (by unfold Wk.fits; rw [Bool.eq_false_iff]; intro hf; simp only [Bool.and_eq_true, Bool.or_eq_true, decide_eq_true_eq] at hf; omega))
                clear hk1
                have e : z = 2 := by rw [HC4.out, if_pos (all_bad HX.out HFI.out)]
                subst e
                go_wp2_with fail
                go_ret
                exact ⟨rfl, HB0.out.trans (HB9.out.mono HB0.out.size)⟩
              · by_cases hq : s.pr - 2 < x.pl
                · have n1 : (x.kd != 1) = false := by rw [hk1]; rfl
                  have n2 : (x.kd == 2) = false := by rw [hk1]; rfl
                  have HFI := Lib.hid (show x.fits s.pr = false from (by unfold Wk.fits; rw [Bool.eq_false_iff]; intro hf; simp only [Bool.and_eq_true, Bool.or_eq_true, decide_eq_true_eq] at hf; omega))
                  clear hk1
                  have e : z = 2 := by rw [HC4.out, if_pos (all_bad HX.out HFI.out)]
                  subst e
                  go_wp2_with fail
                  go_ret
                  exact ⟨rfl, HB0.out.trans (HB9.out.mono HB0.out.size)⟩
                · have n1 : (x.kd != 1) = false := by rw [hk1]; rfl
                  have n2 : (x.kd == 2) = false := by rw [hk1]; rfl
                  have HFI := Lib.hid (show x.fits s.pr = true from (by show x.fits s.pr = true; unfold Wk.fits; simp only [Bool.and_eq_true, Bool.or_eq_true, decide_eq_true_eq]; omega))
                  clear hk1
                  go_wp2_with fail
                  go_roundw
                  case rel => exact ⟨k + 1, hkl, by go_num, HB9.out, all_step (p := fun x => x.fits s.pr) HA.out HX.out HFI.out⟩
                  case measure => (simp [intOf] <;> omega)
            · by_cases hk2 : x.kd = 2
              · by_cases hp : x.pl < 0
                · have HPL := Lib.hid hp
                  have n1 : (x.kd != 1) = true := by rw [hk2]; rfl
                  have n2 : (x.kd == 2) = true := by rw [hk2]; rfl
                  have n3 : (x.kd != 2) = false := by rw [hk2]; rfl
                  have HK := Lib.hid hk2
                  have HFI := Lib.hid (show x.fits s.pr = false from (by unfold Wk.fits; rw [Bool.eq_false_iff]; intro hf; simp only [Bool.and_eq_true, Bool.or_eq_true, decide_eq_true_eq] at hf; omega))
                  clear hk1 hk2
                  have e : z = 2 := by rw [HC4.out, if_pos (all_bad HX.out HFI.out)]
                  subst e
                  go_wp2_with fail
                  go_ret
                  exact ⟨rfl, HB0.out.trans (HB9.out.mono HB0.out.size)⟩
                · by_cases hq : s.pr - 2 < x.pl
                  · have n1 : (x.kd != 1) = true := by rw [hk2]; rfl
                    have n2 : (x.kd == 2) = true := by rw [hk2]; rfl
                    have n3 : (x.kd != 2) = false := by rw [hk2]; rfl
                    have HFI := Lib.hid (show x.fits s.pr = false from (by unfold Wk.fits; rw [Bool.eq_false_iff]; intro hf; simp only [Bool.and_eq_true, Bool.or_eq_true, decide_eq_true_eq] at hf; omega))
                    clear hk1 hk2
                    have e : z = 2 := by rw [HC4.out, if_pos (all_bad HX.out HFI.out)]
                    subst e
                    go_wp2_with fail
                    go_ret
                    exact ⟨rfl, HB0.out.trans (HB9.out.mono HB0.out.size)⟩
                  · by_cases hw : x.wd.size = 0
                    · have n1 : (x.kd != 1) = true := by rw [hk2]; rfl
                      have n2 : (x.kd == 2) = true := by rw [hk2]; rfl
                      have n3 : (x.kd != 2) = false := by rw [hk2]; rfl
                      have HFI := Lib.hid (show x.fits s.pr = true from (by show x.fits s.pr = true; unfold Wk.fits; simp only [Bool.and_eq_true, Bool.or_eq_true, decide_eq_true_eq]; omega))
                      have hwl := toList_nil hw
                      clear hw hk1 hk2
                      go_wp2_with fail
                      go_roundw
                      case rel => exact ⟨k + 1, hkl, by go_num, HB9.out, all_step (p := fun x => x.fits s.pr) HA.out HX.out HFI.out⟩
                      case measure => (simp [intOf] <;> omega)
                    · have n1 : (x.kd != 1) = true := by rw [hk2]; rfl
                      have n2 : (x.kd == 2) = true := by rw [hk2]; rfl
                      have n3 : (x.kd != 2) = false := by rw [hk2]; rfl
                      have HFI := Lib.hid (show x.fits s.pr = false from (by unfold Wk.fits; rw [Bool.eq_false_iff]; intro hf; simp only [Bool.and_eq_true, Bool.or_eq_true, decide_eq_true_eq] at hf; omega))
                      have hwl := (toList_cons hw).1
                      have hwm := (toList_cons hw).2
                      clear hw hk1 hk2
                      have e : z = 2 := by rw [HC4.out, if_pos (all_bad HX.out HFI.out)]
                      subst e
                      go_wp2_with fail
                      go_ret
                      exact ⟨rfl, HB0.out.trans (HB9.out.mono HB0.out.size)⟩
              · have n1 : (x.kd != 1) = true := by rw [bne_iff_ne]; exact hk1
                have n3 : (x.kd != 2) = true := by rw [bne_iff_ne]; exact hk2
                have HFI := Lib.hid (show x.fits s.pr = false from (by unfold Wk.fits; rw [Bool.eq_false_iff]; intro hf; simp only [Bool.and_eq_true, Bool.or_eq_true, decide_eq_true_eq] at hf; omega))
                clear hk1 hk2
                have e : z = 2 := by rw [HC4.out, if_pos (all_bad HX.out HFI.out)]
                subst e
                go_wp2_with fail
                go_ret
                exact ⟨rfl, HB0.out.trans (HB9.out.mono HB0.out.size)⟩
          · have j1 : ¬ (k : Int) < (s.ws.length : Int) := by omega
            have HAS := Lib.hid (all_end HA.out (by omega))
            have HC5 := Lib.hid (show z = if s.ws.all speltW = true then 0 else 6 by rw [HC4.out, if_neg (by rw [HAS.out]; decide)])
            clear HC4 HA
            go_wp2_with fail
            clear hkl hk j1 g0 g1
            go_loopw [6] (fun i wy => ∃ k : Nat, k ≤ s.ws.length ∧ i = .int .i64 (k : Int) ∧ Below wx.heap.size wx wy ∧ (s.ws.take k).all speltW = true) (fun i _ => s.ws.length - (intOf i).toNat)
            case atStart => exact ⟨0, Nat.zero_le _, rfl, Below.refl _ _, rfl⟩
            case round =>
              obtain ⟨k, hk, rfl, hby, hall⟩ := hrel
              rename World => wy
              have HA := Lib.hid hall
              have HBY := Lib.hid hby
              clear hall hby
              have HY0 := Lib.hid ((HBY.out.block _ (Array.getElem?_eq_some_iff.1 HX0.out).1).trans HX0.out)
              have HBW := Lib.hid (HB0.out.trans ((HBX.out.trans (HBY.out.mono HBX.out.size)).mono HB0.out.size))
              have g1 : wy.cell? ⟨w.heap.size, 1, none⟩ = some (.slice ua s.ws.length uc) := cell_of_row wy _ 1 _ _ _ HY0.out
              by_cases hkl : k < s.ws.length
              · have j0 : (0 : Int) ≤ (k : Int) := by omega
                have j1 : (k : Int) < (s.ws.length : Int) := by omega
                obtain ⟨x, hx⟩ : ∃ x, s.ws[k]? = some x := ⟨_, List.getElem?_eq_getElem hkl⟩
                obtain ⟨b, off, rfl, hb, hr, hsz⟩ := HU.out k x hx
                have c2 : wy.cell? ⟨b, off + k * 3 + 2, none⟩ = some (.string x.wd) := (HBW.out.cell (p := ⟨b, off + k * 3 + 2, none⟩) hb).trans (hr 2 _ rfl)
                have HX := Lib.hid hx
                have CK := Lib.hid (fun W => refCheck3_any x.wd W)
                clear hx hr
                by_cases h0 : stV x.wd = 0
                · rw [h0] at CK
                  have HNN := Lib.hid (all_step (p := speltW) HA.out HX.out (by unfold speltW; exact decide_eq_true h0))
                  clear h0
                  go_wp2_with fail
                  refine (CK.out _).mono ?_
                  rintro e w5 ⟨rfl, hw5⟩
                  obtain rfl := hw5.symm
                  clear hw5
                  go_wp2_with fail
                  go_roundw
                  case rel => exact ⟨k + 1, hkl, by go_num, HBY.out, HNN.out⟩
                  case measure => (simp [intOf] <;> omega)
                · have hn : (stV x.wd != 0) = true := by rw [bne_iff_ne]; exact h0
                  have e : z = 6 := by rw [HC5.out, if_neg (by rw [all_bad HX.out (show speltW x = false by unfold speltW; exact decide_eq_false h0)]; decide)]
                  subst e
                  have HN := Lib.hid h0
                  clear h0
                  go_wp2_with fail
                  refine (CK.out _).mono ?_
                  rintro e w5 ⟨rfl, hw5⟩
                  obtain rfl := hw5.symm
                  clear hw5
                  go_wp2_with fail
                  go_ret
                  exact ⟨rfl, HB0.out.trans ((HBX.out.trans (HBY.out.mono HBX.out.size)).mono HB0.out.size)⟩
              · have j1 : ¬ (k : Int) < (s.ws.length : Int) := by omega
                have e : z = 0 := by rw [HC5.out, if_pos (all_end HA.out (by omega))]
                subst e
                go_wp2_with fail
                go_ret
                exact ⟨rfl, HBW.out⟩
end Go.Proofs.Ytcjbjlepgdggpaa
