/- What the law of kept distances asks of one matrix of a group. -/
import Derived.Test.YtjekfkmcgfnkaaaDoorIT
import Derived.Test.YtjekfkmcgfnkaaaDoorIU
import Derived.Test.YtjekfkmcgfnkaaaDoorHC
namespace Go.Proofs.YtjekfkmcgfnkaaaDoor
open Go.RowKit Go.Lib
def Nr (p : Pt) : Prop := (-10 ≤ p.x ∧ p.x ≤ 10) ∧ -10 ≤ p.y ∧ p.y ≤ 10
theorem nr_sm {p : Pt} (h : Nr p) : Sm p := by unfold Nr at h; unfold Sm; omega
theorem nr_ok {p : Pt} (h : Nr p) : okP p = true := by unfold Nr at h; rw [okP_iff]; omega
theorem img_rng {x : Mat} (hx : Mok x) {p : Pt} (h : Nr p) : (-200000 ≤ (image x p).x ∧ (image x p).x ≤ 200000) ∧ -200000 ≤ (image x p).y ∧ (image x p).y ≤ 200000 := by
  obtain ⟨ha, hb, hc, hd⟩ := hx
  have e1 := mulsum_rng ha hb h.1 h.2
  have e2 := mulsum_rng hc hd h.1 h.2
  simp only [image]
  omega
theorem okP0 : okP ⟨0, 0⟩ = true := by decide +kernel
theorem app_lin {x : Mat} (hx : Mok x) {p : Pt} (h : Nr p) : appV ⟨x, ⟨0, 0⟩⟩ p = image x p ∧ appE ⟨x, ⟨0, 0⟩⟩ p = 0 ∧ okP (image x p) = true := by
  have h1 := img_rng hx h
  have e1 : okV ⟨x, ⟨0, 0⟩⟩ = true := (okV_iff _).2 ⟨hx, okP0⟩
  have e2 : appl ⟨x, ⟨0, 0⟩⟩ p = image x p := by unfold appl image; simp
  have e3 : (image x p).w = image x p := by unfold Pt.w; rw [wrap64_id (by omega), wrap64_id (by omega)]
  have e4 : okP (image x p) = true := by rw [okP_iff]; omega
  unfold appV appE
  rw [e2, e3, e1, nr_ok h, e4]
  exact ⟨rfl, rfl, rfl⟩
theorem step_image (x : Mat) (p q : Pt) : stepP (image x p) (image x q) = image x (stepP p q) := by
  simp only [stepP, image, Pt.mk.injEq]
  refine ⟨?_, ?_⟩ <;> grind
theorem step_img_sm {x : Mat} (hx : Mok x) {p q : Pt} (hp : Nr p) (hq : Nr q) : Sm (stepP (image x p) (image x q)) := by
  have h1 := img_rng hx hp
  have h2 := img_rng hx hq
  unfold Sm stepP
  dsimp only
  omega
def sqv (l : Lat) (p q : Pt) : Int := gv (okL l && (okP p && okP q && okP q)) (wrap64 (prod l (stepP p q).w (stepP p q).w))
def sqe (l : Lat) (p q : Pt) : Int := errIf (okL l && (okP p && okP q && okP q))
def sdv (p q r : Pt) : Int := gv (okP p && okP q && okP r) (cmpI (wrap64 (crossP (stepP p q).w (stepP p r).w)) 0)
def sde (p q r : Pt) : Int := errIf (okP p && okP q && okP r)
theorem step_nr {p q : Pt} (hp : Nr p) (hq : Nr q) : Sm (stepP p q) := by
  unfold Nr at hp hq; unfold Sm stepP; dsimp only; omega
theorem sq_near {l : Lat} (hl : Ok l) {p q : Pt} (hp : Nr p) (hq : Nr q) : sqv l p q = prod l (stepP p q) (stepP p q) ∧ sqe l p q = 0 := by
  have s := step_nr hp hq
  unfold sqv sqe
  rw [(okL_iff l).2 hl, nr_ok hp, nr_ok hq, sm_w s, prod_id hl s s]
  exact ⟨rfl, rfl⟩
theorem sd_near {p q r : Pt} (hp : Nr p) (hq : Nr q) (hr : Nr r) : sdv p q r = cmpI (crossP (stepP p q) (stepP p r)) 0 ∧ sde p q r = 0 := by
  have s := step_nr hp hq
  have t := step_nr hp hr
  unfold sdv sde
  rw [nr_ok hp, nr_ok hq, nr_ok hr, sm_w s, sm_w t, cross_id s t]
  exact ⟨rfl, rfl⟩
theorem sq_kept {l : Lat} (hl : Ok l) {x : Mat} (e : led l x = l) {p q : Pt} (hp : Nr p) (hq : Nr q) : sqv l (image x p) (image x q) = sqv l p q ∧ sqe l (image x p) (image x q) = 0 := by
  have hx := keep_ok hl e
  have s := step_img_sm hx hp hq
  have h1 := (app_lin hx hp).2.2
  have h2 := (app_lin hx hq).2.2
  rw [(sq_near hl hp hq).1]
  unfold sqv sqe
  rw [(okL_iff l).2 hl, h1, h2, sm_w s, prod_id hl s s, step_image, prod_image, e]
  exact ⟨rfl, rfl⟩
theorem sd_kept {l : Lat} (hl : Ok l) {x : Mat} (e : led l x = l) {p q r : Pt} (hp : Nr p) (hq : Nr q) (hr : Nr r) : sdv (image x p) (image x q) (image x r) = x.det * sdv p q r ∧ sde (image x p) (image x q) (image x r) = 0 := by
  have hx := keep_ok hl e
  have s := step_img_sm hx hp hq
  have t := step_img_sm hx hp hr
  have h1 := (app_lin hx hp).2.2
  have h2 := (app_lin hx hq).2.2
  have h3 := (app_lin hx hr).2.2
  rw [(sd_near hp hq hr).1]
  unfold sdv sde
  rw [h1, h2, h3, sm_w s, sm_w t, cross_id s t, step_image, step_image, cross_image]
  exact ⟨cmpI_sign (unit_keeps hl e), rfl⟩
theorem inv_lin {l : Lat} (hl : Ok l) {x : Mat} (e : led l x = l) : invV ⟨x, ⟨0, 0⟩⟩ = ⟨x.inv, ⟨0, 0⟩⟩ ∧ invE ⟨x, ⟨0, 0⟩⟩ = 0 := by
  have hx := keep_ok hl e
  have u := unit_keeps hl e
  have e1 : okV ⟨x, ⟨0, 0⟩⟩ = true := (okV_iff _).2 ⟨hx, okP0⟩
  have e2 : unitB x = true := (unitB_iff x).2 u
  have e3 : back ⟨x, ⟨0, 0⟩⟩ = ⟨x.inv, ⟨0, 0⟩⟩ := by unfold back; simp [image]
  have e4 : okV ⟨x.inv, ⟨0, 0⟩⟩ = true := (okV_iff _).2 ⟨inv_ok hx u, okP0⟩
  unfold invV invE
  rw [e3, e1, e2, e4]
  exact ⟨rfl, rfl⟩
theorem sdv_rng {p q r : Pt} (hp : Nr p) (hq : Nr q) (hr : Nr r) : -1 ≤ sdv p q r ∧ sdv p q r ≤ 1 := by
  rw [(sd_near hp hq hr).1]
  unfold cmpI
  split <;> (try split) <;> omega
theorem inv_in {l : Lat} (hl : Ok l) {x : Mat} (e : led l x = l) : led l x.inv = l := by
  have u := unit_keeps hl e
  have h := led_times l x x.inv
  rw [times_inv u, led_one, e] at h
  exact h.symm
theorem times_in {l : Lat} {x y : Mat} (e : led l x = l) (f : led l y = l) : led l (x.times y) = l := by rw [led_times, e, f]
/-! A row of matrices that lies in one block. -/
theorem range_obj {w w' : World} {b o : Nat} {cs : List Value} {ob : Obj} (h : w.heap[b]? = some ob) (h' : w'.heap[b]? = some ob) (hr : w.rangeAt b o cs) : w'.rangeAt b o cs := fun j v hv => by
  rw [World.cell?_of_block (w := w) (a := ⟨b, o + j, none⟩) (h'.trans h.symm)]; exact hr j v hv
theorem ms_block {w : World} {ao : Option Addr} {G : List Mat} (h : MsAt w ao G) (hn : 0 < G.length) : ∃ b off ob, ao = some ⟨b, off, none⟩ ∧ b < w.heap.size ∧ w.heap[b]? = some ob ∧ ∀ k m, G[k]? = some m → w.rangeAt b (off + k * 4) (ml m) := by
  obtain ⟨b, off, e, hb, _⟩ := h 0 _ (List.getElem?_eq_getElem hn)
  refine ⟨b, off, w.heap[b], e, hb, Array.getElem?_eq_getElem hb, fun k m hm => ?_⟩
  obtain ⟨b', off', e', _, hr⟩ := h k m hm
  rw [e] at e'
  cases e'
  exact hr
end Go.Proofs.YtjekfkmcgfnkaaaDoor
