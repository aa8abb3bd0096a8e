/- The reference's Act walked. -/
import Derived.Test.YtnfppebcpagjpaaEE
namespace Go.Proofs.Ytnfppebcpagjpaa
open Go.RowKit Go.Lib
def tot (G : List (List Int)) : Nat := (G.map List.length).sum
theorem tot_snoc (G : List (List Int)) (l : List Int) : tot (G ++ [l]) = tot G + l.length := by simp [tot]
theorem tot_mem {G : List (List Int)} {k : Nat} {l : List Int} (h : G[k]? = some l) : l.length ≤ tot G := by
  unfold tot
  induction G generalizing k with
  | nil => cases h
  | cons x G ih =>
    cases k with
    | zero => simp at h; subst h; simp
    | succ k => simp at h; have := ih h; simp; omega
theorem tot_take {G : List (List Int)} {k : Nat} {l : List Int} (h : G[k]? = some l) : tot (G.take (k + 1)) = tot (G.take k) + l.length := by
  rw [List.take_add_one, h]; exact tot_snoc _ _
theorem tot_take_le (G : List (List Int)) (k : Nat) : tot (G.take k) ≤ tot G := by
  conv => rhs; rw [← List.take_append_drop k G]
  unfold tot
  rw [List.map_append, List.sum_append]
  omega
theorem tot_set (G : List (List Int)) (i : Nat) (a : List Int) : tot (G.set i a) ≤ tot G + a.length := by
  unfold tot
  induction G generalizing i with
  | nil => simp
  | cons x G ih =>
    cases i with
    | zero => simp; omega
    | succ i => have := ih i; simp only [List.set_cons_succ, List.map_cons, List.sum_cons]; omega
theorem tot_set2 (G : List (List Int)) (i j : Nat) (a b : List Int) : tot ((G.set i a).set j b) ≤ tot G + a.length + b.length := Nat.le_trans (tot_set _ _ _) (by have := tot_set G i a; omega)
theorem tot_gens (n : Nat) : tot (gens n) = n := by
  unfold tot gens
  induction n with
  | zero => rfl
  | succ n ih =>
    rw [List.map_map] at ih ⊢
    rw [List.range_succ, List.map_append, List.sum_append, ih]
    simp
/-- Act, as far as the letters become at most 4000. -/
def actF (o : Option (List (List Int))) (z : Int) : Option (List (List Int)) := o.bind fun g => if 4000 < tot (actS g z) then none else some (actS g z)
def actV (n : Nat) (w : List Int) : Option (List (List Int)) := w.foldl actF (some (gens n))
theorem actF_none (w : List Int) : w.foldl actF none = none := by
  induction w with
  | nil => rfl
  | cons z w ih => exact ih
theorem actV_more {n : Nat} {w : List Int} {k : Nat} {z : Int} (h : w[k]? = some z) : actV n (w.take (k + 1)) = actF (actV n (w.take k)) z := by
  rw [take_more h]; simp [actV]
theorem actV_none {n : Nat} {w : List Int} {k : Nat} (h : actV n (w.take k) = none) : actV n w = none := by
  rw [← List.take_append_drop k w]
  show (w.take k ++ w.drop k).foldl actF (some (gens n)) = none
  rw [List.foldl_append, show (w.take k).foldl actF (some (gens n)) = none from h, actF_none]
theorem actV_some {n : Nat} {w : List Int} : ∀ {G : List (List Int)}, actV n w = some G → G = actL n w ∧ (tot G ≤ 4000 ∨ G = gens n) := by
  induction w using snoc_ind with
  | h0 => intro G h; simp [actV] at h; exact ⟨h.symm, .inr h.symm⟩
  | h1 w z ih =>
    intro G h
    rw [show actV n (w ++ [z]) = actF (actV n w) z by simp [actV]] at h
    cases e : actV n w with
    | none => rw [e] at h; cases h
    | some g =>
      rw [e] at h
      obtain ⟨h1, _⟩ := ih e
      simp only [actF, Option.bind_some] at h
      split at h
      · cases h
      · rename_i hn
        simp only [Option.some.injEq] at h
        subst h
        rw [actL_snoc, h1]
        rw [h1] at hn
        exact ⟨rfl, .inl (by omega)⟩
theorem gens_more {n k : Nat} (h : k < n) : (gens n).take (k + 1) = (gens n).take k ++ [[(k : Int) + 1]] := by
  have : (gens n)[k]? = some [(k : Int) + 1] := by simp [gens, h]
  rw [List.take_add_one, this]; rfl
set_option maxHeartbeats 4000000 in
set_option maxRecDepth 100000 in
theorem refAct_any (n : Nat) (h1 : 1 ≤ n) (hn : n ≤ 12) (ws : List Int) (hw : Word n ws) (hl : ws.length ≤ 1000) (v : Value) (w : World) (hv : IS w v ws) :
    Calls Try.prog 41 #[.int .i64 (n : Int), v, .int .i64 4000] w fun e w' => ∃ v', e = .returned (.tuple #[v', .bool (actV n ws).isSome]) ∧ FS w' v' ((actV n ws).getD []) ∧ Below w.heap.size w w' := by
  obtain ⟨i1, hi, hz0, hz1, hz2⟩ := info_parts infoInts
  obtain ⟨sa, sc, rfl, k1, k2, k3, hI⟩ := hv
  unfold maxLen at k2
  have HI := Lib.hid hI
  have Hw := Lib.hid hw
  have Hi := Lib.hid hi
  clear hI hw hi
  go_enter Try.func41, Try.ntmps41
  go_wp2_with fail
  go_loopw [8, 9] (fun vo i wr => ∃ (k : Nat) (fs : List Value), k ≤ n ∧ i = .int .i64 k ∧ wr.ownsRow w.heap.size 22 1 vo k fs ∧ RW w.heap.size wr fs ((gens n).take k) ∧ Below w.heap.size w wr) (fun _ i _ => n - (intOf i).toNat)
  case atStart => exact ⟨0, [], Nat.zero_le _, rfl, World.ownsRow_nil _ _ _ _, fun k x h => by simp at h, Below.refl _ w⟩
  case round =>
    obtain ⟨k, fs, hk, rfl, hown, hrows, hbw⟩ := hrel
    have hbs := hbw.size
    by_cases hkn : k < n
    · have q1 : (k : Int) < (n : Int) := by omega
      have q2 : IntKind.i64.wrap ((k : Int) + 1) = (k : Int) + 1 := IntWalk.i64_in _ (by omega)
      obtain ⟨W, hW⟩ : ∃ W, W = wr.alloc (.cells #[.int .i64 ((k : Int) + 1)] 3) := ⟨_, rfl⟩
      have BW : Below wr.heap.size wr W := by rw [hW]; exact below_alloc _ _
      have hWz : W.heap.size = wr.heap.size + 1 := by rw [hW]; simp
      have hWn : W.ownsRow w.heap.size 3 1 (.slice (some ⟨wr.heap.size, 0, none⟩) 1 1) ([(k : Int) + 1] : List Int).length (([(k : Int) + 1] : List Int).map (Value.int .i64)) := by
        rw [hW]
        exact ⟨rfl, .inr ⟨wr.heap.size, 1, _, rfl, hbs, heap_alloc_new wr _, Nat.le_refl _, by unfold maxLen; omega, rfl, rfl⟩⟩
      obtain ⟨ao, co, rfl⟩ := own_form hown
      have H5 := Lib.hid hWn
      have HO5 := Lib.hid (own_below hown BW)
      have HR5 := Lib.hid (hrows.below BW)
      have HB5 := Lib.hid (bon hbw BW)
      have HBW := Lib.hid BW
      have HWz := Lib.hid hWz
      have HWe := Lib.hid hW
      have hfl := Lib.hid hown.1
      clear hown hrows hWn BW hWz hW
      go_wp2_with (at_builtin; rw [← HWe.out]; refine wpList_append_own _ rfl _ _ 31 rfl w.heap.size 22 i1 (.slice none 0 0) 1 24 Try.underlying31 Hi.out hz0 hz1 hz2 rfl (by decide) _ k fs rfl (HO5.out.alloc _) ⟨W.heap.size, 0, none⟩ 1 1 [Value.slice (some ⟨wr.heap.size, 0, none⟩) 1 1] (by rw [HWz.out]; rfl) rfl (cell_one_new _ _ _) (by simp [Value.oneCell']) (by unfold maxLen; omega) (by omega) (Nat.le_trans HB5.out.size (below_alloc W _).size) ?_; intro v6 w6 hown6 hgrow hnil)
      have hR6 : RW w.heap.size w6 (fs ++ [Value.slice (some ⟨wr.heap.size, 0, none⟩) 1 1]) ((gens n).take (k + 1)) := by
        rw [gens_more hkn]
        refine ((HR5.out.below (below_alloc W _)).grown (HO5.out.alloc _) hgrow).snoc ?_ ((H5.out.alloc _).kept hgrow (own_apart H5.out HO5.out (by decide)))
        rw [hfl.out, List.length_take, gens_len]
        omega
      have hB6 : Below w.heap.size w w6 := ((HB5.out.alloc HB5.out.size _).grown hgrow (Nat.le_trans HB5.out.size (below_alloc W _).size) (fun j hj => (HO5.out.lt j hj).1))
      have HR6 := Lib.hid hR6
      have HB6 := Lib.hid hB6
      have HO6 := Lib.hid hown6
      clear hR6 hB6 hown6 hgrow hnil
      go_wp2_with fail
      go_roundw
      case rel => exact ⟨k + 1, _, hkn, by go_num, HO6.out, HR6.out, HB6.out⟩
      case measure => (simp [intOf] <;> omega)
    · obtain rfl : k = n := by omega
      have q1 : ¬ (k : Int) < (k : Int) := by omega
      obtain ⟨gl, cap, rfl⟩ := own_pos hown h1
      rw [List.take_of_length_le (by rw [gens_len]; exact Nat.le_refl _)] at hrows
      have hgl := hown.lt gl rfl
      have hcap := own_cap hown
      have HO0 := Lib.hid hown
      have HR0 := Lib.hid hrows
      have HB0 := Lib.hid hbw
      clear hown hrows hbw
      go_wp2_with fail
      go_loopw [10] (fun i wz => ∃ (q : Nat) (fs : List Value) (G : List (List Int)), q ≤ ws.length ∧ i = .int .i64 q ∧ actV k (ws.take q) = some G ∧ wz.ownsRow w.heap.size 22 1 (.slice (some ⟨gl, 0, none⟩) k cap) k fs ∧ RW w.heap.size wz fs G ∧ Below w.heap.size w wz) (fun i _ => ws.length - (intOf i).toNat)
      case atStart => exact ⟨0, fs, gens k, Nat.zero_le _, rfl, by simp [actV], HO0.out, HR0.out, HB0.out⟩
      case round =>
        obtain ⟨q, fs, G, hq, rfl, hG, hown, hrows, hbw⟩ := hrel
        rename World => wz
        clear HO0 HR0 HB0
        by_cases hql : q < ws.length
        · obtain ⟨x, hx⟩ : ∃ x, ws[q]? = some x := ⟨_, List.getElem?_eq_getElem hql⟩
          have hlet : Letter k x := Hw.out x (List.mem_of_getElem? hx)
          obtain ⟨b0, off, rfl, hb0, hc⟩ := HI.out q x hx
          have hcx := (hbw.cell (p := ⟨b0, off + q, none⟩) hb0).trans hc
          obtain ⟨hGe, hGt⟩ := actV_some hG
          have hGl : G.length = k := by rw [hGe, actL_len]
          have hGr : ∀ l ∈ G, Ltr k l := by rw [hGe]; exact actL_ltr k _
          have htt : tot G ≤ 4000 := by
            rcases hGt with h | h
            · exact h
            · rw [h, tot_gens]; omega
          have hmore := actV_more (n := k) hx
          rw [hG] at hmore
          have hj := num_lt hlet
          obtain ⟨j, hjn⟩ : ∃ j, j = num x := ⟨_, rfl⟩
          have CN := Lib.hid (fun w => refsize_any x hlet.1 (by have := hlet.2; omega) w)
          rw [← hjn] at hj CN
          obtain ⟨A, hA⟩ : ∃ A, G[j]? = some A := ⟨_, List.getElem?_eq_getElem (by omega)⟩
          obtain ⟨C, hC⟩ : ∃ C, G[j + 1]? = some C := ⟨_, List.getElem?_eq_getElem (by omega)⟩
          obtain ⟨ua, hua, oA⟩ := hrows j A hA
          obtain ⟨uc, huc, oC⟩ := hrows (j + 1) C hC
          obtain ⟨a1, c1, rfl⟩ := own_form oA
          obtain ⟨a2, c2, rfl⟩ := own_form oC
          have lA := tot_mem hA
          have lC := tot_mem hC
          have rA : Ltr 50 A := fun z hz => by have := hGr A (List.mem_of_getElem? hA) z hz; omega
          have rC : Ltr 50 C := fun z hz => by have := hGr C (List.mem_of_getElem? hC) z hz; omega
          have ca : wz.cell? ⟨gl, j, none⟩ = some (.slice a1 A.length c1) := by rw [hown.cellAt j (by omega), hua]
          have cc : wz.cell? ⟨gl, j + 1, none⟩ = some (.slice a2 C.length c2) := by rw [hown.cellAt (j + 1) (by omega), huc]
          have hfl := hown.1
          have k0 : (0 : Int) ≤ (q : Int) := by omega
          have k1 : (q : Int) < (ws.length : Int) := by omega
          have j0 : (0 : Int) ≤ (j : Int) := by omega
          have j1 : (j : Int) < (k : Int) := by omega
          have j2 : (0 : Int) ≤ (j : Int) + 1 := by omega
          have j3 : (j : Int) + 1 < (k : Int) := by omega
          have j4 : ((j : Int) + 1).toNat = j + 1 := by omega
          have j5 : IntKind.i64.wrap (j : Int) = (j : Int) := IntWalk.i64_in _ (by omega)
          have HS := Lib.hid (show ∀ (o1 o2 : Bool), True from fun _ _ => trivial)
          have Hown := Lib.hid hown
          have Hrows := Lib.hid hrows
          have HB := Lib.hid hbw
          have HoA := Lib.hid oA
          have Hua := Lib.hid hua
          have Huc := Lib.hid huc
          have HoC := Lib.hid oC
          have HrA := Lib.hid rA
          have HrC := Lib.hid rC
          have Hmore := Lib.hid hmore
          have HhA := Lib.hid hA
          have HhC := Lib.hid hC
          have Hjn := Lib.hid hjn
          have HGl := Lib.hid hGl
          have Hfl := Lib.hid hfl
          have Hlet := Lib.hid hlet
          clear hown hrows hbw oA oC rA rC hmore hA hC hjn hGl hGr hGe hGt hfl hlet hua huc hx hc
          go_wp2_with fail
          refine (CN.out _).mono ?_
          rintro e w3 ⟨rfl, rfl⟩
          go_wp2_with fail
          go_quiet (fail)
          obtain ⟨W0, hW0⟩ : ∃ W0, W0 = w3.drewN nq := ⟨_, rfl⟩
          have BD : Below w3.heap.size w3 W0 := by rw [hW0]; exact below_drewN (Below.refl _ _) _
          have hcx1 : W0.cell? ⟨b0, off + q, none⟩ = some (.int .i64 x) := by rw [hW0]; exact hcx
          have HO1 := Lib.hid (own_below Hown.out BD)
          have HR1 := Lib.hid (Hrows.out.below BD)
          have HA1 := Lib.hid (own_below HoA.out BD)
          have HC1 := Lib.hid (own_below HoC.out BD)
          have HB1 := Lib.hid (bon HB.out BD)
          rw [← hW0]
          clear hW0 Hown Hrows HoA HoC HB hcx ca cc BD
          by_cases hp : 0 < x
          · go_wp2_with fail
            refine (refinverse_any A _ W0 (is_own HA1.out rfl) (fun z hz => by have := HrA.out z hz; omega) (by omega)).mono ?_
            rintro e w4 ⟨v4, rfl, O4, B4⟩
            have HA2 := Lib.hid (own_below HA1.out B4)
            have HC2 := Lib.hid (own_below HC1.out B4)
            have HO4 := Lib.hid O4
            have HB4 := Lib.hid B4
            clear O4 B4
            go_wp2_with fail
            refine (refproduct_any A C (inv A) _ _ v4 w4 (is_own HA2.out rfl) (is_own HC2.out rfl) (is_own HO4.out rfl) HrA.out HrC.out HrA.out.inv (by omega) (by omega) (by rw [inv_len]; omega)).mono ?_
            rintro e w5 ⟨v5, rfl, O5, B5⟩
            have B05 := bon HB4.out B5
            have HO5 := Lib.hid (own_below HO1.out B05)
            have HR5 := Lib.hid (HR1.out.below B05)
            have HA5 := Lib.hid (own_below HA1.out B05)
            have HB5 := Lib.hid (bon HB1.out B05)
            obtain ⟨P, hP⟩ : ∃ P, P = red (A ++ C ++ inv A) := ⟨_, rfl⟩
            rw [← hP] at O5
            obtain ⟨a5, c5, rfl⟩ := own_form O5
            have HP5 := Lib.hid (own_mono O5 (Nat.le_trans HB1.out.size HB4.out.size))
            have ca := (HO5.out.cellAt j (by omega)).trans Hua.out
            have cc := (HO5.out.cellAt (j + 1) (by omega)).trans Huc.out
            have HP := Lib.hid hP
            clear hP
            have fa := HO5.out.frozenAt j
            have fc := HO5.out.frozenAt (j + 1)
            have st1 := (HO5.out.stored j (.slice a5 P.length c5)).1
            have st2 := (st1.stored (j + 1) (.slice a1 A.length c1)).1
            have hlG : fs.length = G.length := by rw [HGl.out, Hfl.out]; omega
            have r6 := (HR5.out.setrow HO5.out j (.slice a5 P.length c5)).set hlG j (own_setrow HP5.out HO5.out j _)
            have r7 := (r6.setrow st1 (j + 1) (.slice a1 A.length c1)).set (by simp [hlG]) (j + 1) (own_setrow (own_setrow HA5.out HO5.out j _) st1 (j + 1) _)
            have b6 := HB5.out.setCell (p := ⟨gl, j, none⟩) hgl.1 (.slice a5 P.length c5)
            have b7 := b6.setCell (p := ⟨gl, j + 1, none⟩) hgl.1 (.slice a1 A.length c1)
            clear O5 B5 B05 HO5 HR5 HA5 HB5 HP5 HO1 HR1 HA1 HC1 HB1 HO4 HB4 HA2 HC2
            obtain ⟨W7, hW7⟩ : ∃ W7, W7 = (w5.setCell ⟨gl, j, none⟩ (.slice a5 P.length c5)).setCell ⟨gl, j + 1, none⟩ (.slice a1 A.length c1) := ⟨_, rfl⟩
            rw [← hW7] at st2 b7 r7
            have HO7 := Lib.hid st2
            have HR7 := Lib.hid r7
            have HB7 := Lib.hid b7
            have hGd : G.getD j [] = A := by rw [List.getD_eq_getElem?_getD, HhA.out]; rfl
            have hGe : G.getD (j + 1) [] = C := by rw [List.getD_eq_getElem?_getD, HhC.out]; rfl
            have hjx : x.natAbs - 1 = j := Hjn.out.symm
            have hG7 : (G.set j P).set (j + 1) A = actS G x := by unfold actS; rw [if_pos hp, hjx, hGd, hGe, HP.out]
            have hl7 : (actS G x).length = k := by rw [actS_len, HGl.out]
            rw [hG7] at HR7
            have Hl7 := Lib.hid hl7
            have hmr := Hmore.out
            rw [show actF (some G) x = if 4000 < tot (actS G x) then none else some (actS G x) from rfl] at hmr
            obtain ⟨G7, hG8⟩ : ∃ G7, G7 = actS G x := ⟨_, rfl⟩
            rw [← hG8] at HR7 Hl7 hmr
            have Hmr := Lib.hid hmr
            have hbnd : tot G7 ≤ 30000 := by
              rw [hG8, ← hG7]
              exact Nat.le_trans (tot_set2 G j (j + 1) _ _) (by have := red_len (A ++ C ++ inv A); rw [HP.out]; have e := inv_len A; have e2 := inv_len C; simp only [List.length_append] at this; omega)
            clear st1 st2 b6 b7 r6 r7 hG7 hG8 hl7 hmr hGd hGe hjx
            go_wp2_with fail
            try rw [← hW7]
            clear hW7 ca cc fa fc
            go_loopw [14, 15] (fun s i wy => ∃ p : Nat, p ≤ k ∧ i = .int .i64 p ∧ s = .int .i64 ((tot (G7.take p) : Nat) : Int) ∧ wy = W7) (fun _ i _ => k - (intOf i).toNat)
            case atStart => exact ⟨0, Nat.zero_le _, rfl, rfl, rfl⟩
            case round =>
              obtain ⟨p, hpk, rfl, rfl, rfl⟩ := hrel
              by_cases hpl : p < k
              · obtain ⟨l, hl'⟩ : ∃ l, G7[p]? = some l := ⟨_, List.getElem?_eq_getElem (by rw [Hl7.out]; exact hpl)⟩
                obtain ⟨u, hu, ou⟩ := HR7.out p l hl'
                obtain ⟨a9, c9, rfl⟩ := own_form ou
                have hll := tot_mem hl'
                have htk := tot_take hl'
                have htl := tot_take_le G7 (p + 1)
                have cp := HO7.out.cellAt p (by omega)
                rw [hu] at cp
                have p0 : (0 : Int) ≤ (p : Int) := by omega
                have p1 : (p : Int) < (k : Int) := by omega
                have hsw : IntKind.i64.wrap ((tot (G7.take p) : Int) + (l.length : Int)) = ((tot (G7.take (p + 1)) : Nat) : Int) := by rw [htk]; exact (IntWalk.i64_in _ (by omega)).trans (by omega)
                clear hl' hu ou htk
                go_wp2_with fail
                go_roundw
                case rel => exact ⟨p + 1, hpl, by go_num, by first | trivial | rfl | go_num | (congr 1)⟩
                case measure => (simp [intOf] <;> omega)
              · obtain rfl : p = k := by omega
                rw [List.take_of_length_le (by rw [Hl7.out]; exact Nat.le_refl _)]
                have p1 : ¬ (p : Int) < (p : Int) := by omega
                by_cases h4 : 4000 < tot G7
                · have h4' : (4000 : Int) < ((tot G7 : Nat) : Int) := by omega
                  have hv := Hmr.out
                  rw [if_pos h4] at hv
                  have HV2 := Lib.hid (actV_none hv)
                  clear hv
                  go_wp2_with fail
                  go_ret2
                  rw [HV2.out]
                  exact ⟨_, rfl, fs_nil _, HB7.out⟩
                · have h4' : ¬ (4000 : Int) < ((tot G7 : Nat) : Int) := by omega
                  have hv := Hmr.out
                  rw [if_neg h4] at hv
                  have Hv := Lib.hid hv
                  clear hv
                  go_wp2_with fail
                  go_roundw
                  case rel => exact ⟨q + 1, _, G7, hql, by go_num, Hv.out, HO7.out, HR7.out, HB7.out⟩
                  case measure => (simp [intOf] <;> omega)
          · go_wp2_with fail
            refine (refinverse_any C _ W0 (is_own HC1.out rfl) (fun z hz => by have := HrC.out z hz; omega) (by omega)).mono ?_
            rintro e w4 ⟨v4, rfl, O4, B4⟩
            have HA2 := Lib.hid (own_below HA1.out B4)
            have HC2 := Lib.hid (own_below HC1.out B4)
            have HO4 := Lib.hid O4
            have HB4 := Lib.hid B4
            clear O4 B4
            go_wp2_with fail
            refine (refproduct_any (inv C) A C v4 _ _ w4 (is_own HO4.out rfl) (is_own HA2.out rfl) (is_own HC2.out rfl) HrC.out.inv HrA.out HrC.out (by rw [inv_len]; omega) (by omega) (by omega)).mono ?_
            rintro e w5 ⟨v5, rfl, O5, B5⟩
            have B05 := bon HB4.out B5
            have HO5 := Lib.hid (own_below HO1.out B05)
            have HR5 := Lib.hid (HR1.out.below B05)
            have HA5 := Lib.hid (own_below HC1.out B05)
            have HB5 := Lib.hid (bon HB1.out B05)
            obtain ⟨P, hP⟩ : ∃ P, P = red (inv C ++ A ++ C) := ⟨_, rfl⟩
            rw [← hP] at O5
            obtain ⟨a5, c5, rfl⟩ := own_form O5
            have HP5 := Lib.hid (own_mono O5 (Nat.le_trans HB1.out.size HB4.out.size))
            have ca := (HO5.out.cellAt j (by omega)).trans Hua.out
            have cc := (HO5.out.cellAt (j + 1) (by omega)).trans Huc.out
            have HP := Lib.hid hP
            clear hP
            have fa := HO5.out.frozenAt j
            have fc := HO5.out.frozenAt (j + 1)
            have st1 := (HO5.out.stored j (.slice a2 C.length c2)).1
            have st2 := (st1.stored (j + 1) (.slice a5 P.length c5)).1
            have hlG : fs.length = G.length := by rw [HGl.out, Hfl.out]; omega
            have r6 := (HR5.out.setrow HO5.out j (.slice a2 C.length c2)).set hlG j (own_setrow HA5.out HO5.out j _)
            have r7 := (r6.setrow st1 (j + 1) (.slice a5 P.length c5)).set (by simp [hlG]) (j + 1) (own_setrow (own_setrow HP5.out HO5.out j _) st1 (j + 1) _)
            have b6 := HB5.out.setCell (p := ⟨gl, j, none⟩) hgl.1 (.slice a2 C.length c2)
            have b7 := b6.setCell (p := ⟨gl, j + 1, none⟩) hgl.1 (.slice a5 P.length c5)
            clear O5 B5 B05 HO5 HR5 HA5 HB5 HP5 HO1 HR1 HA1 HC1 HB1 HO4 HB4 HA2 HC2
            obtain ⟨W7, hW7⟩ : ∃ W7, W7 = (w5.setCell ⟨gl, j, none⟩ (.slice a2 C.length c2)).setCell ⟨gl, j + 1, none⟩ (.slice a5 P.length c5) := ⟨_, rfl⟩
            rw [← hW7] at st2 b7 r7
            have HO7 := Lib.hid st2
            have HR7 := Lib.hid r7
            have HB7 := Lib.hid b7
            have hGd : G.getD j [] = A := by rw [List.getD_eq_getElem?_getD, HhA.out]; rfl
            have hGe : G.getD (j + 1) [] = C := by rw [List.getD_eq_getElem?_getD, HhC.out]; rfl
            have hjx : x.natAbs - 1 = j := Hjn.out.symm
            have hG7 : (G.set j C).set (j + 1) P = actS G x := by unfold actS; rw [if_neg (show ¬ 0 < x by omega), hjx, hGd, hGe, HP.out]
            have hl7 : (actS G x).length = k := by rw [actS_len, HGl.out]
            rw [hG7] at HR7
            have Hl7 := Lib.hid hl7
            have hmr := Hmore.out
            rw [show actF (some G) x = if 4000 < tot (actS G x) then none else some (actS G x) from rfl] at hmr
            obtain ⟨G7, hG8⟩ : ∃ G7, G7 = actS G x := ⟨_, rfl⟩
            rw [← hG8] at HR7 Hl7 hmr
            have Hmr := Lib.hid hmr
            have hbnd : tot G7 ≤ 30000 := by
              rw [hG8, ← hG7]
              exact Nat.le_trans (tot_set2 G j (j + 1) _ _) (by have := red_len (inv C ++ A ++ C); rw [HP.out]; have e := inv_len A; have e2 := inv_len C; simp only [List.length_append] at this; omega)
            clear st1 st2 b6 b7 r6 r7 hG7 hG8 hl7 hmr hGd hGe hjx
            go_wp2_with fail
            try rw [← hW7]
            clear hW7 ca cc fa fc
            go_loopw [14, 15] (fun s i wy => ∃ p : Nat, p ≤ k ∧ i = .int .i64 p ∧ s = .int .i64 ((tot (G7.take p) : Nat) : Int) ∧ wy = W7) (fun _ i _ => k - (intOf i).toNat)
            case atStart => exact ⟨0, Nat.zero_le _, rfl, rfl, rfl⟩
            case round =>
              obtain ⟨p, hpk, rfl, rfl, rfl⟩ := hrel
              by_cases hpl : p < k
              · obtain ⟨l, hl'⟩ : ∃ l, G7[p]? = some l := ⟨_, List.getElem?_eq_getElem (by rw [Hl7.out]; exact hpl)⟩
                obtain ⟨u, hu, ou⟩ := HR7.out p l hl'
                obtain ⟨a9, c9, rfl⟩ := own_form ou
                have hll := tot_mem hl'
                have htk := tot_take hl'
                have htl := tot_take_le G7 (p + 1)
                have cp := HO7.out.cellAt p (by omega)
                rw [hu] at cp
                have p0 : (0 : Int) ≤ (p : Int) := by omega
                have p1 : (p : Int) < (k : Int) := by omega
                have hsw : IntKind.i64.wrap ((tot (G7.take p) : Int) + (l.length : Int)) = ((tot (G7.take (p + 1)) : Nat) : Int) := by rw [htk]; exact (IntWalk.i64_in _ (by omega)).trans (by omega)
                clear hl' hu ou htk
                go_wp2_with fail
                go_roundw
                case rel => exact ⟨p + 1, hpl, by go_num, by first | trivial | rfl | go_num | (congr 1)⟩
                case measure => (simp [intOf] <;> omega)
              · obtain rfl : p = k := by omega
                rw [List.take_of_length_le (by rw [Hl7.out]; exact Nat.le_refl _)]
                have p1 : ¬ (p : Int) < (p : Int) := by omega
                by_cases h4 : 4000 < tot G7
                · have h4' : (4000 : Int) < ((tot G7 : Nat) : Int) := by omega
                  have hv := Hmr.out
                  rw [if_pos h4] at hv
                  have HV2 := Lib.hid (actV_none hv)
                  clear hv
                  go_wp2_with fail
                  go_ret2
                  rw [HV2.out]
                  exact ⟨_, rfl, fs_nil _, HB7.out⟩
                · have h4' : ¬ (4000 : Int) < ((tot G7 : Nat) : Int) := by omega
                  have hv := Hmr.out
                  rw [if_neg h4] at hv
                  have Hv := Lib.hid hv
                  clear hv
                  go_wp2_with fail
                  go_roundw
                  case rel => exact ⟨q + 1, _, G7, hql, by go_num, Hv.out, HO7.out, HR7.out, HB7.out⟩
                  case measure => (simp [intOf] <;> omega)
        · obtain rfl : q = ws.length := by omega
          rw [List.take_length] at hG
          have k1 : ¬ (ws.length : Int) < (ws.length : Int) := by omega
          have hGl : G.length = k := by rw [(actV_some hG).1, actL_len]
          have Hown := Lib.hid hown
          have Hrows := Lib.hid hrows
          have HG := Lib.hid hG
          clear hown hrows hG
          go_wp2_with fail
          go_ret2
          rw [HG.out]
          refine ⟨_, rfl, ?_, hbw⟩
          have := Hown.out
          rw [← hGl] at this ⊢
          exact Hrows.out.fs this
end Go.Proofs.Ytnfppebcpagjpaa
