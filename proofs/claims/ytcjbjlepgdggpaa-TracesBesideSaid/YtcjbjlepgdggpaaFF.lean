/- Check of a sheet walked. -/
import Derived.Test.YtcjbjlepgdggpaaFE
namespace Go.Proofs.Ytcjbjlepgdggpaa
open Go.RowKit Go.Lib
structure Sh where
  pr : Int
  ws : List Wk
/-- A value that reads as a sheet. -/
def SV (w : World) (v : Value) (s : Sh) : Prop := ∃ u, v = .agg #[.int .i64 s.pr, u] ∧ WS w u s.ws
theorem SV.below {w w' : World} {v : Value} {s : Sh} (h : SV w v s) (hb : Below w.heap.size w w') : SV w' v s := by
  obtain ⟨u, e, h1⟩ := h
  exact ⟨u, e, h1.below hb⟩
def shortW (x : Wk) : Bool := !decide (stV x.wd = 3)
def speltW (x : Wk) : Bool := decide (stV x.wd = 0)
/-- The error of a sheet. -/
def chkS (s : Sh) : Int := if 24 < s.pr then 3 else if 400 < s.ws.length then 3 else if s.ws.all shortW = false then 3 else if s.pr < 2 then 2 else if s.ws.all (fun x => x.fits s.pr) = false then 2 else if s.ws.all speltW = true then 0 else 6
theorem WS.sizes {w : World} {v : Value} {W : List Wk} (h : WS w v W) : ∀ x ∈ W, x.wd.size ≤ maxLen := fun x hx => by
  obtain ⟨k, hk⟩ := List.getElem?_of_mem hx
  obtain ⟨_, _, _, _, _, h3⟩ := h
  exact (h3 k x hk).elim fun b h => h.elim fun off h => h.2.2.2
set_option maxHeartbeats 1000000 in
set_option maxRecDepth 100000 in
theorem check_any (s : Sh) (v : Value) (w : World) (hv : SV w v s) :
    Calls Try.prog 46 #[v] w fun e w' => e = .returned (.int .i64 (chkS s)) ∧ Below w.heap.size w w' := by
  obtain ⟨u, rfl, hu⟩ := hv
  have hsz := hu.sizes
  have B1 := below_alloc w (.cells #[.int .i64 s.pr, u] 24)
  have hr0 := heap_alloc_new w (.cells #[.int .i64 s.pr, u] 24)
  have c0 : (w.alloc (.cells #[.int .i64 s.pr, u] 24)).cell? ⟨w.heap.size, 0, none⟩ = some (.int .i64 s.pr) := cell_of_row _ _ 0 _ _ _ hr0
  have c1 : (w.alloc (.cells #[.int .i64 s.pr, u] 24)).cell? ⟨w.heap.size, 1, none⟩ = some u := cell_of_row _ _ 1 _ _ _ hr0
  have hz0 : w.heap.size < (w.alloc (.cells #[.int .i64 s.pr, u] 24)).heap.size := by simp
  obtain ⟨W0, hW0⟩ : ∃ W0, W0 = w.alloc (.cells #[.int .i64 s.pr, u] 24) := ⟨_, rfl⟩
  have HB1 := Lib.hid B1
  have Hu := Lib.hid (hu.below B1)
  have Hc0 := Lib.hid c0
  have Hc1 := Lib.hid c1
  have CS := Lib.hid (fun W h => all_any 66 #[] shortW s.ws u W h (ok_short hsz))
  have CP := Lib.hid (fun W h => all_any 67 #[] speltW s.ws u W h (ok_spelt hsz))
  obtain ⟨pr, W⟩ := s
  dsimp only at *
  have CF := Lib.hid (fun (hp : -1000 ≤ pr ∧ pr ≤ 1000) (X : World) (h1 : w.heap.size < X.heap.size) (h2 : X.cell? ⟨w.heap.size, 0, none⟩ = some (.int .i64 pr)) h => all_any 63 #[.pointer (some ⟨w.heap.size, 0, none⟩)] (fun x => x.fits pr) W u X h (ok_fits hp h1 h2))
  have HE := Lib.hid (show chkS ⟨pr, W⟩ = (if 24 < pr then 3 else if 400 < W.length then 3 else if W.all shortW = false then 3 else if pr < 2 then 2 else if W.all (fun x => x.fits pr) = false then 2 else if W.all speltW = true then 0 else 6) from rfl)
  generalize chkS ⟨pr, W⟩ = z at *
  obtain ⟨a, c, rfl, h1, h2, _⟩ := hu
  unfold maxLen at h2
  rw [← hW0] at HB1 Hu Hc0 Hc1 c0 c1 hz0
  have hWr := hW0.symm
  clear hsz B1 hr0 hW0
  by_cases q1 : 24 < pr
  · have e : z = 3 := by rw [HE.out, if_pos q1]
    subst e
    clear HE CS CP CF
    go_enter Try.func46, Try.ntmps46
    go_wp2_with fail
    go_ret
    exact ⟨rfl, HB1.out⟩
  · by_cases q2 : 400 < W.length
    · have e : z = 3 := by rw [HE.out, if_neg q1, if_pos q2]
      subst e
      have q2' : (400 : Int) < (W.length : Int) := by omega
      clear HE CS CP CF
      go_enter Try.func46, Try.ntmps46
      go_wp2_with fail
      go_ret
      exact ⟨rfl, HB1.out⟩
    · have q2' : ¬ (400 : Int) < (W.length : Int) := by omega
      have HE2 := Lib.hid (HE.out.trans ((if_neg q1).trans (if_neg q2)))
      clear HE
      obtain ⟨r, hr⟩ : ∃ r, r = W.all shortW := ⟨_, rfl⟩
      rw [← hr] at CS HE2
      clear hr
      rcases r with _ | _
      · have e : z = 3 := by rw [HE2.out, if_pos rfl]
        subst e
        clear HE2 CP CF
        go_enter Try.func46, Try.ntmps46
        go_wp2_with fail
        refine (CS.out W0 Hu.out).mono ?_
        rintro e w1 ⟨rfl, B2⟩
        have HB2 := Lib.hid (bon HB1.out B2)
        clear B2
        go_wp2_with fail
        go_ret
        exact ⟨rfl, HB2.out⟩
      · have HE3 := Lib.hid (HE2.out.trans (if_neg (by decide)))
        clear HE2
        by_cases q3 : pr < 2
        · have e : z = 2 := by rw [HE3.out, if_pos q3]
          subst e
          clear HE3 CP CF
          go_enter Try.func46, Try.ntmps46
          go_wp2_with fail
          refine (CS.out W0 Hu.out).mono ?_
          rintro e w1 ⟨rfl, B2⟩
          have HB2 := Lib.hid (bon HB1.out B2)
          have d0 := (B2.cell (p := ⟨w.heap.size, 0, none⟩) hz0).trans Hc0.out
          clear B2
          go_wp2_with fail
          go_ret
          exact ⟨rfl, HB2.out⟩
        · have HE4 := Lib.hid (HE3.out.trans (if_neg q3))
          clear HE3
          obtain ⟨r, hr⟩ : ∃ r, r = W.all (fun x => x.fits pr) := ⟨_, rfl⟩
          rw [← hr] at CF HE4
          clear hr
          rcases r with _ | _
          · have e : z = 2 := by rw [HE4.out, if_pos rfl]
            subst e
            clear HE4 CP
            go_enter Try.func46, Try.ntmps46
            go_wp2_with fail
            refine (CS.out W0 Hu.out).mono ?_
            rintro e w1 ⟨rfl, B2⟩
            have HB2 := Lib.hid (bon HB1.out B2)
            have Hu2 := Lib.hid (Hu.out.below B2)
            have d0 := (B2.cell (p := ⟨w.heap.size, 0, none⟩) hz0).trans Hc0.out
            have d1 := (B2.cell (p := ⟨w.heap.size, 1, none⟩) hz0).trans Hc1.out
            have hz1 : w.heap.size < w1.heap.size := Nat.lt_of_lt_of_le hz0 B2.size
            clear B2
            go_wp2_with fail
            refine (CF.out (by omega) w1 hz1 d0 Hu2.out).mono ?_
            rintro e w2 ⟨rfl, B3⟩
            have HB3 := Lib.hid (bon HB2.out B3)
            clear B3
            go_wp2_with fail
            go_ret
            exact ⟨rfl, HB3.out⟩
          · have HE5 := Lib.hid (HE4.out.trans (if_neg (by decide)))
            clear HE4
            obtain ⟨r, hr⟩ : ∃ r, r = W.all speltW := ⟨_, rfl⟩
            rw [← hr] at CP HE5
            clear hr
            have e : z = if r = true then 0 else 6 := HE5.out
            clear HE5
            rcases r with _ | _
            all_goals
              subst e
              go_enter Try.func46, Try.ntmps46
              go_wp2_with fail
              refine (CS.out W0 Hu.out).mono ?_
              rintro e w1 ⟨rfl, B2⟩
              have HB2 := Lib.hid (bon HB1.out B2)
              have Hu2 := Lib.hid (Hu.out.below B2)
              have d0 := (B2.cell (p := ⟨w.heap.size, 0, none⟩) hz0).trans Hc0.out
              have d1 := (B2.cell (p := ⟨w.heap.size, 1, none⟩) hz0).trans Hc1.out
              have hz1 : w.heap.size < w1.heap.size := Nat.lt_of_lt_of_le hz0 B2.size
              clear B2
              go_wp2_with fail
              refine (CF.out (by omega) w1 hz1 d0 Hu2.out).mono ?_
              rintro e w2 ⟨rfl, B3⟩
              have HB3 := Lib.hid (bon HB2.out B3)
              have Hu3 := Lib.hid (Hu2.out.below B3)
              have e1 := (B3.cell (p := ⟨w.heap.size, 1, none⟩) hz1).trans d1
              clear B3
              go_wp2_with fail
              refine (CP.out w2 Hu3.out).mono ?_
              rintro e w3 ⟨rfl, B4⟩
              have HB4 := Lib.hid (bon HB3.out B4)
              clear B4
              go_wp2_with fail
              go_ret
              exact ⟨rfl, HB4.out⟩
end Go.Proofs.Ytcjbjlepgdggpaa
