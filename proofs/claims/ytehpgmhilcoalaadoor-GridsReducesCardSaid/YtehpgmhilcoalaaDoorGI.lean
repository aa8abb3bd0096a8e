/- Regions that draw their order: Dot. -/
import Derived.Test.YtehpgmhilcoalaaDoorGH
namespace Go.Proofs.YtehpgmhilcoalaaDoor
open Go.RowKit Go.Lib
set_option linter.unusedSimpArgs false
set_option linter.unusedVariables false
theorem range2 {W w' : World} {b : Nat} {x y : Value} (hb : b < W.heap.size) (h0 : W.cell? ⟨b, 0, none⟩ = some x) (h1 : W.cell? ⟨b, 1, none⟩ = some y) (h : Below W.heap.size W w') : w'.rangeAt b 0 [x, y] := fun j v hv => by
  rw [h.cell (p := ⟨b, 0 + j, none⟩) hb, Nat.zero_add]
  match j, hv with
  | 0, hv => obtain rfl : x = v := Option.some.inj hv; exact h0
  | 1, hv => obtain rfl : y = v := Option.some.inj hv; exact h1
theorem range3 {W w' : World} {b : Nat} {x y z : Value} (hb : b < W.heap.size) (h0 : W.cell? ⟨b, 0, none⟩ = some x) (h1 : W.cell? ⟨b, 1, none⟩ = some y) (h2 : W.cell? ⟨b, 2, none⟩ = some z) (h : Below W.heap.size W w') : w'.rangeAt b 0 [x, y, z] := fun j v hv => by
  rw [h.cell (p := ⟨b, 0 + j, none⟩) hb, Nat.zero_add]
  match j, hv with
  | 0, hv => obtain rfl : x = v := Option.some.inj hv; exact h0
  | 1, hv => obtain rfl : y = v := Option.some.inj hv; exact h1
  | 2, hv => obtain rfl : z = v := Option.some.inj hv; exact h2
theorem range4 {W w' : World} {b : Nat} {x y z u : Value} (hb : b < W.heap.size) (h0 : W.cell? ⟨b, 0, none⟩ = some x) (h1 : W.cell? ⟨b, 1, none⟩ = some y) (h2 : W.cell? ⟨b, 2, none⟩ = some z) (h3 : W.cell? ⟨b, 3, none⟩ = some u) (h : Below W.heap.size W w') : w'.rangeAt b 0 [x, y, z, u] := fun j v hv => by
  rw [h.cell (p := ⟨b, 0 + j, none⟩) hb, Nat.zero_add]
  match j, hv with
  | 0, hv => obtain rfl : x = v := Option.some.inj hv; exact h0
  | 1, hv => obtain rfl : y = v := Option.some.inj hv; exact h1
  | 2, hv => obtain rfl : z = v := Option.some.inj hv; exact h2
  | 3, hv => obtain rfl : u = v := Option.some.inj hv; exact h3
theorem load_i64 (ad : Addr) (v : Value) (w : World) (h : w.cell? ad = some v) : (Instr.loadAt 2 (.pointer (some ad))).run Tryd.prog w = .ok v w := by go_simp
/-- A call in a class of worlds that only have grown. -/
theorem in_class {P : Program} {f : FuncId} {args : Array Value} {v : Value} {W : World} {R : World → World → Prop} (hR : ∀ w w', R w w' → Below w.heap.size w w') (h : ∀ w, Calls P f args w fun e w' => e = .returned v ∧ R w w') : ∀ w, Below W.heap.size W w → Calls P f args w fun e w' => e = .returned v ∧ Below W.heap.size W w' :=
  fun w hb => (h w).mono fun _ _ ⟨he, hr⟩ => ⟨he, hb.trans ((hR _ _ hr).mono hb.size)⟩
theorem in_class_b {P : Program} {f : FuncId} {args : Array Value} {v : Value} {W : World} (h : ∀ w, Calls P f args w fun e w' => e = .returned v ∧ Below w.heap.size w w') : ∀ w, Below W.heap.size W w → Calls P f args w fun e w' => e = .returned v ∧ Below W.heap.size W w' :=
  in_class (R := fun w w' => Below w.heap.size w w') (fun _ _ h => h) h
theorem in_class_e {P : Program} {f : FuncId} {args : Array Value} {v : Value} {W : World} (h : ∀ w, Calls P f args w fun e w' => e = .returned v ∧ w' = w) : ∀ w, Below W.heap.size W w → Calls P f args w fun e w' => e = .returned v ∧ Below W.heap.size W w' :=
  in_class (R := fun w w' => w' = w) (fun _ _ h => h ▸ Below.refl _ _) h
/-- A product of reckoned steps. -/
theorem prod_w (l : Lat) (s t : Pt) : wrap64 (prod l s.w t.w) = wrap64 (prod l s t) := by
  simp only [prod, Pt.w]
  obtain ⟨k1, e1⟩ := wrap64_q s.x
  obtain ⟨k2, e2⟩ := wrap64_q s.y
  obtain ⟨k3, e3⟩ := wrap64_q t.x
  obtain ⟨k4, e4⟩ := wrap64_q t.y
  rw [e1, e2, e3, e4]
  rw [← wrap64_k (l.a * s.x * t.x + l.b * (s.x * t.y + s.y * t.x) + l.c * s.y * t.y) (l.a * k1 * t.x + l.b * (k1 * t.y + k2 * t.x) + l.c * k2 * t.y + (l.a * s.x * k3 + l.b * (s.x * k4 + s.y * k3) + l.c * s.y * k4) - 18446744073709551616 * (l.a * k1 * k3 + l.b * (k1 * k4 + k2 * k3) + l.c * k2 * k4))]
  congr 1
  grind
theorem cross_w (s t : Pt) : wrap64 (crossP s.w t.w) = wrap64 (crossP s t) := by
  simp only [crossP, Pt.w]
  rw [← wrap64_sl, ← wrap64_sr]
  simp only [wrap64_ml, wrap64_mr, wrap64_sl, wrap64_sr]
theorem range_new {W : World} {b : Nat} {vs : List Value} {T : TypeId} (h : b = W.heap.size) : (W.alloc (.cells vs.toArray T)).rangeAt b 0 vs := fun j v hv => by
  subst h
  rw [Nat.zero_add, cell_of_row _ _ j _ _ _ (heap_alloc_new W _), List.getElem?_toArray, hv]
theorem range_below {W W' : World} {b n : Nat} {vs : List Value} (hb : Below n W W') (h : W.rangeAt b 0 vs) (hn : b < n) : W'.rangeAt b 0 vs := fun j v hv => by
  rw [hb.cell (p := ⟨b, 0 + j, none⟩) hn]; exact h j v hv
theorem range_old {W : World} {b : Nat} {vs : List Value} {o : Obj} (h : W.rangeAt b 0 vs) (hn : b < W.heap.size) : (W.alloc o).rangeAt b 0 vs :=
  range_below (below_alloc W o) h hn
theorem range_drew {W : World} {b : Nat} {vs : List Value} (h : W.rangeAt b 0 vs) : W.drew.rangeAt b 0 vs := h
theorem below_of {W W' : World} {n : Nat} (h : Below W.heap.size W W') (hn : n ≤ W.heap.size) : Below n W W' := h.mono hn
theorem range_cell0 {W : World} {b j : Nat} {vs : List Value} {v : Value} (h : W.rangeAt b 0 vs) (hv : vs[j]? = some v) : W.cell? ⟨b, j, none⟩ = some v := by have := h j v hv; rwa [Nat.zero_add] at this
def gv (b : Bool) (z : Int) : Int := if b then z else 0
set_option maxHeartbeats 1000000 in
set_option maxRecDepth 100000 in
theorem Dot_any (l : Lat) (o p q : Pt) (w : World) : Calls Tryd.prog 15 #[l.val, o.val, p.val, q.val] w fun e w' => e = .returned (.tuple #[.int .i64 (gv (okL l && (okP o && okP p && okP q)) (wrap64 (prod l (stepP o p).w (stepP o q).w))), .int .i64 (errIf (okL l && (okP o && okP p && okP q)))]) ∧ Below w.heap.size w w' := by
  have C1 := fun W => validLattice_any l W
  have C2 := fun W T B hB => vpts3 o p q W T B hB
  have C3 := fun W => step_any o p W
  have C4 := fun W => step_any o q W
  have C5 := fun W => product_any l (stepP o p).w (stepP o q).w W
  generalize okL l = b1 at *
  generalize (okP o && okP p && okP q) = b2 at *
  generalize wrap64 (prod l (stepP o p).w (stepP o q).w) = z at *
  generalize (stepP o p).w = s1 at *
  generalize (stepP o q).w = s2 at *
  unfold Lat.val Pt.val at *
  unfold gv errIf
  have H1 := Lib.hid C1
  have H2 := Lib.hid C2
  have H3 := Lib.hid C3
  have H4 := Lib.hid C4
  have H5 := Lib.hid C5
  clear C1 C2 C3 C4 C5
  cases b1
  · go_enter Tryd.func15, Tryd.ntmps15
    go_wp2_with fail
    refine (H1.out _).mono ?_
    rintro e w1 ⟨rfl, hb⟩
    have y1 := Below.size hb
    try simp only [World.size_alloc, World.size_drew] at y1
    have D1 := Lib.hid (show Below w.heap.size w w1 from Below.trans (by repeat (first | exact Below.refl _ _ | refine Below.alloc ?_ (by first | omega | (simp; omega) | simp) _)) (Below.mono hb (by first | omega | (simp; omega) | simp)))
    have z1 := D1.out.size
    obtain ⟨hc1, hf1⟩ := bcell hb
    have y1 := hb.size
    try simp only [World.size_alloc, World.size_drew] at y1
    clear hb
    go_wp2_with fail
    go_ret2
    exact ⟨rfl, (by repeat (first | exact D1.out | exact Below.refl _ _ | refine Below.alloc ?_ (by first | omega | (simp; omega) | simp) _))⟩
  · cases b2
    · go_enter Tryd.func15, Tryd.ntmps15
      go_wp2_with fail
      refine (H1.out _).mono ?_
      rintro e w1 ⟨rfl, hb⟩
      have y1 := Below.size hb
      try simp only [World.size_alloc, World.size_drew] at y1
      have D1 := Lib.hid (show Below w.heap.size w w1 from Below.trans (by repeat (first | exact Below.refl _ _ | refine Below.alloc ?_ (by first | omega | (simp; omega) | simp) _)) (Below.mono hb (by first | omega | (simp; omega) | simp)))
      have z1 := D1.out.size
      obtain ⟨hc1, hf1⟩ := bcell hb
      have y1 := hb.size
      try simp only [World.size_alloc, World.size_drew] at y1
      clear hb
      go_wp2_with fail
      refine (H2.out _ _ _ rfl).mono ?_
      rintro e w2 ⟨rfl, hb⟩
      have y2 := Below.size hb
      try simp only [World.size_alloc, World.size_drew] at y2
      have D2 := Lib.hid (show Below w.heap.size w w2 from Below.trans (by repeat (first | exact D1.out | exact Below.refl _ _ | refine Below.alloc ?_ (by first | omega | (simp; omega) | simp) _)) (Below.mono hb (by first | omega | (simp; omega) | simp)))
      have z2 := D2.out.size
      clear hb
      go_wp2_with fail
      go_ret2
      exact ⟨rfl, (by repeat (first | exact D2.out | exact Below.refl _ _ | refine Below.alloc ?_ (by first | omega | (simp; omega) | simp) _))⟩
    · go_enter Tryd.func15, Tryd.ntmps15
      go_wp2_with fail
      refine (H1.out _).mono ?_
      rintro e w1 ⟨rfl, hb⟩
      have r0 := range_below hb (b := w.heap.size) (vs := [.int .i64 l.a, .int .i64 l.b, .int .i64 l.c]) (by repeat (first | exact range_new (by first | omega | (simp; omega) | simp) | refine range_old ?_ (by first | omega | (simp; omega) | simp) | refine range_drew ?_)) (by first | omega | (simp; omega) | simp)
      have r1 := range_below hb (b := w.heap.size + 1) (vs := [.int .i64 o.x, .int .i64 o.y]) (by repeat (first | exact range_new (by first | omega | (simp; omega) | simp) | refine range_old ?_ (by first | omega | (simp; omega) | simp) | refine range_drew ?_)) (by first | omega | (simp; omega) | simp)
      have r2 := range_below hb (b := w.heap.size + 1 + 1) (vs := [.int .i64 p.x, .int .i64 p.y]) (by repeat (first | exact range_new (by first | omega | (simp; omega) | simp) | refine range_old ?_ (by first | omega | (simp; omega) | simp) | refine range_drew ?_)) (by first | omega | (simp; omega) | simp)
      have r3 := range_below hb (b := w.heap.size + 1 + 1 + 1) (vs := [.int .i64 q.x, .int .i64 q.y]) (by repeat (first | exact range_new (by first | omega | (simp; omega) | simp) | refine range_old ?_ (by first | omega | (simp; omega) | simp) | refine range_drew ?_)) (by first | omega | (simp; omega) | simp)
      obtain ⟨hc1, hf1⟩ := bcell hb
      have y1 := Below.size hb
      try simp only [World.size_alloc, World.size_drew] at y1
      have D1 := Lib.hid (show Below w.heap.size w w1 from Below.trans (by repeat (first | exact Below.refl _ _ | refine Below.alloc ?_ (by first | omega | (simp; omega) | simp) _)) (Below.mono hb (by first | omega | (simp; omega) | simp)))
      have z1 := D1.out.size
      have y1 := hb.size
      try simp only [World.size_alloc, World.size_drew] at y1
      clear hb
      go_wp2_with fail
      refine (H2.out _ _ _ rfl).mono ?_
      rintro e w2 ⟨rfl, hb⟩
      replace r0 := range_below hb r0 (by first | omega | (simp; omega) | simp)
      replace r1 := range_below hb r1 (by first | omega | (simp; omega) | simp)
      replace r2 := range_below hb r2 (by first | omega | (simp; omega) | simp)
      replace r3 := range_below hb r3 (by first | omega | (simp; omega) | simp)
      have y2 := Below.size hb
      try simp only [World.size_alloc, World.size_drew] at y2
      have D2 := Lib.hid (show Below w.heap.size w w2 from Below.trans (by repeat (first | exact D1.out | exact Below.refl _ _ | refine Below.alloc ?_ (by first | omega | (simp; omega) | simp) _)) (Below.mono hb (by first | omega | (simp; omega) | simp)))
      have z2 := D2.out.size
      clear hb hc1 hf1
      go_wp2_with fail
      have HB := Lib.hid D2.out
      refine wp_region_class (fun w' => Below w2.heap.size w2 w') 8 (by kernel_rfl) (by kernel_rfl) (Below.refl _ w2).drew ?_
      simp only [List.take_succ_cons, List.take_zero, List.drop_succ_cons, List.drop_zero]
      refine quiet_load_mid rfl _ _ rfl _ _ rfl _ _ (fun w' h => range_below h r0 (by first | omega | (simp; omega) | simp)) Tryd.underlying23 rfl (by kernel_rfl) ?_
      simp only [Act.put, List.setIfInBounds_toArray, List.set_cons_zero, List.set_cons_succ]
      refine quiet_load_mid rfl _ _ rfl _ _ rfl _ _ (fun w' h => range_below h r1 (by first | omega | (simp; omega) | simp)) Tryd.underlying25 rfl (by kernel_rfl) ?_
      simp only [Act.put, List.setIfInBounds_toArray, List.set_cons_zero, List.set_cons_succ]
      refine quiet_load_mid rfl _ _ rfl _ _ rfl _ _ (fun w' h => range_below h r2 (by first | omega | (simp; omega) | simp)) Tryd.underlying25 rfl (by kernel_rfl) ?_
      simp only [Act.put, List.setIfInBounds_toArray, List.set_cons_zero, List.set_cons_succ]
      refine quiet_call rfl 52 _ _ rfl (enter_of Tryd.func52 (by decide) (by intro h; cases h)) _ (in_class_b H3.out) ?_
      simp only [Act.put, List.setIfInBounds_toArray, List.set_cons_zero, List.set_cons_succ]
      refine quiet_load_mid rfl _ _ rfl _ _ rfl _ _ (fun w' h => range_below h r1 (by first | omega | (simp; omega) | simp)) Tryd.underlying25 rfl (by kernel_rfl) ?_
      simp only [Act.put, List.setIfInBounds_toArray, List.set_cons_zero, List.set_cons_succ]
      refine quiet_load_mid rfl _ _ rfl _ _ rfl _ _ (fun w' h => range_below h r3 (by first | omega | (simp; omega) | simp)) Tryd.underlying25 rfl (by kernel_rfl) ?_
      simp only [Act.put, List.setIfInBounds_toArray, List.set_cons_zero, List.set_cons_succ]
      refine quiet_call rfl 52 _ _ rfl (enter_of Tryd.func52 (by decide) (by intro h; cases h)) _ (in_class_b H4.out) ?_
      simp only [Act.put, List.setIfInBounds_toArray, List.set_cons_zero, List.set_cons_succ]
      refine quiet_call rfl 51 _ _ rfl (enter_of Tryd.func51 (by decide) (by intro h; cases h)) _ (in_class_b H5.out) ?_
      simp only [Act.put, List.setIfInBounds_toArray, List.set_cons_zero, List.set_cons_succ]
      intro w3 hb3
      go_wp2_with fail
      go_ret2
      exact ⟨rfl, D2.out.trans (hb3.mono (by first | omega | (simp; omega) | simp))⟩
end Go.Proofs.YtehpgmhilcoalaaDoor
