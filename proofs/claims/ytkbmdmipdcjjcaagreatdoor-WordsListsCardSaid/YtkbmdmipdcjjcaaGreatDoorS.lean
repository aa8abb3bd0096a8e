/- itemsAt of package words: the iterator over the items that may begin at an index, for every loop body that keeps what lay below a block. -/
import Derived.Test.YtkbmdmipdcjjcaaGreatDoorR
import Derived.RangeFuncNested
import Derived.RangeFuncBound
import Derived.RangeFuncCalls
import Derived.RangeFuncLeaves
import Derived.Shelf.Abstract
import Derived.Shelf.RegionOpen
import Derived.OwnWalkIn
import Derived.TacticsInMore
import Derived.LoopNIn
import Derived.LoopIn
import Derived.Sort.QuietIn
namespace Go.Proofs.YtkbmdmipdcjjcaaGreatDoor
open Go.RowKit Go.Shelf
attribute [local go_sem] Oper.semAt_some

/-- How many places from j on meet p, one after the other. -/
def cntP (p : Nat → Bool) : Nat → Nat → Nat
  | 0, _ => 0
  | f + 1, j => if p j then cntP p f (j + 1) + 1 else 0
theorem cntP_le (p : Nat → Bool) : ∀ (f j : Nat), cntP p f j ≤ f
  | 0, _ => Nat.le_refl _
  | f + 1, j => by
    have := cntP_le p f (j + 1)
    unfold cntP
    split <;> omega
theorem cntP_eq (p : Nat → Bool) : ∀ (f m j : Nat), m < f → (∀ t, t < m → p (j + t) = true) → p (j + m) = false → cntP p f j = m
  | 0, m, _, h, _, _ => absurd h (Nat.not_lt_zero _)
  | f + 1, 0, j, _, _, h0 => by unfold cntP; rw [if_neg (by simpa using h0)]
  | f + 1, m + 1, j, hm, ht, h0 => by
    unfold cntP
    rw [if_pos (by simpa using ht 0 (by omega))]
    rw [cntP_eq p f m (j + 1) (by omega) (fun t h => by have := ht (t + 1) (by omega); rwa [show j + 1 + t = j + (t + 1) by omega]) (by rwa [show j + 1 + m = j + (m + 1) by omega])]

def upP (zs : List Int) (j : Nat) : Bool := decide (j < zs.length) && decide (zs.getD j 0 = zs.getD (j - 1) 0 + 1)
def eqP (zs : List Int) (i j : Nat) : Bool := decide (j < zs.length) && decide (zs.getD j 0 = zs.getD i 0)
abbrev ItA (L : Nat) := { x : ByteArray × Nat // 1 ≤ x.2 ∧ x.2 ≤ L ∧ x.1.size ≤ 64 }
def numS (z : Int) : ByteArray := ⟨(Lib.itoa z).toArray⟩
theorem numS_size (z : Int) (h0 : -9223372036854775808 ≤ z) (h1 : z ≤ 9223372036854775807) : (numS z).size ≤ 21 := by unfold numS; rw [mk_size]; exact Lib.itoa_length_le z h0 h1
def upS (zs : List Int) (i j : Nat) : ByteArray := numS (zs.getD i 0) ++ ⟨#[45]⟩ ++ numS (zs.getD j 0)
def eqS (zs : List Int) (i j : Nat) : ByteArray := numS ((j : Int) - (i : Int) + 1) ++ ⟨#[120]⟩ ++ numS (zs.getD i 0)
def firstI (zs : List Int) (i : Nat) : ByteArray × Nat := (numS (zs.getD i 0), i + 1)
def upI (zs : List Int) (i m : Nat) : ByteArray × Nat := (upS zs i (i + 1 + m), i + 1 + m + 1)
def eqI (zs : List Int) (i m : Nat) : ByteArray × Nat := (eqS zs i (i + 1 + m), i + 1 + m + 1)
def upN (zs : List Int) (i : Nat) : Nat := cntP (upP zs) zs.length (i + 1)
def eqN (zs : List Int) (i : Nat) : Nat := cntP (eqP zs i) zs.length (i + 1)
def itL (zs : List Int) (i : Nat) : List (ByteArray × Nat) := firstI zs i :: ((List.range (upN zs i)).map (upI zs i) ++ (List.range (eqN zs i)).map (eqI zs i))
theorem range_snoc {α : Type} (f : Nat → α) (m : Nat) : (List.range (m + 1)).map f = (List.range m).map f ++ [f m] := by simp [List.range_succ]
theorem upS_size (zs : List Int) (i j : Nat) (hz : ∀ z ∈ zs, 0 ≤ z ∧ z ≤ 9999) : (upS zs i j).size ≤ 64 := by
  have hg : ∀ k, 0 ≤ zs.getD k 0 ∧ zs.getD k 0 ≤ 9999 := by
    intro k
    rw [List.getD_eq_getElem?_getD]
    cases h : zs[k]? with
    | none => simp
    | some z => exact hz z (List.mem_of_getElem? h)
  have h1 := numS_size (zs.getD i 0) (by have := hg i; omega) (by have := hg i; omega)
  have h2 := numS_size (zs.getD j 0) (by have := hg j; omega) (by have := hg j; omega)
  unfold upS
  rw [ByteArray.size_append, ByteArray.size_append]
  have h3 : (ByteArray.mk #[45]).size = 1 := rfl
  omega
theorem getD_bd {zs : List Int} (hz : ∀ z ∈ zs, 0 ≤ z ∧ z ≤ 9999) (k : Nat) : 0 ≤ zs.getD k 0 ∧ zs.getD k 0 ≤ 9999 := by
  rw [List.getD_eq_getElem?_getD]
  cases h : zs[k]? with
  | none => simp
  | some z => exact hz z (List.mem_of_getElem? h)
theorem eqS_size (zs : List Int) (i j : Nat) (hz : ∀ z ∈ zs, 0 ≤ z ∧ z ≤ 9999) (hi : i ≤ 600) (hj : j ≤ 600) : (eqS zs i j).size ≤ 64 := by
  have hg := getD_bd hz i
  have h1 := numS_size (zs.getD i 0) (by omega) (by omega)
  have h2 := numS_size ((j : Int) - (i : Int) + 1) (by omega) (by omega)
  unfold eqS
  rw [ByteArray.size_append, ByteArray.size_append]
  have h3 : (ByteArray.mk #[120]).size = 1 := rfl
  omega

/-- Below n₀ all lies as it lay, but for block X. -/
structure BelowX (X B : Nat) (w w' : World) : Prop where
  os : w'.os = w.os
  tape : w'.tape = w.tape
  output : w'.output = w.output
  size : w.heap.size ≤ w'.heap.size
  block : ∀ k, k < B → k ≠ X → w'.heap[k]? = w.heap[k]?
theorem BelowX.of {X B : Nat} {w w' : World} (h : Below B w w') : BelowX X B w w' := ⟨h.os, h.tape, h.output, h.size, fun k hk _ => h.block k hk⟩
theorem BelowX.trans {X B : Nat} {a b c : World} (h : BelowX X B a b) (k : BelowX X B b c) : BelowX X B a c :=
  ⟨k.os.trans h.os, k.tape.trans h.tape, k.output.trans h.output, Nat.le_trans h.size k.size, fun j hj hx => (k.block j hj hx).trans (h.block j hj hx)⟩
theorem BelowX.cell {X B : Nat} {w w' : World} (h : BelowX X B w w') {p : Addr} (hp : p.block < B) (hx : p.block ≠ X) : w'.cell? p = w.cell? p := World.cell?_of_block (w := w) (h.block p.block hp hx)
theorem BelowX.drewN {X B : Nat} {a w : World} (h : BelowX X B a w) (n : Nat) : BelowX X B a (w.drewN n) := h.trans (BelowX.of (below_drewN (Below.refl _ _) n))
theorem Glob.belowX {X B : Nat} {w w' : World} (g : Glob w) (h : BelowX X B w w') (hB : 9 ≤ B) (hX : 9 ≤ X) : Glob w' := by
  have hb : Below 9 w w' := ⟨h.os, h.tape, h.output, h.size, fun k hk => h.block k (by omega) (by omega)⟩
  exact g.below hb (Nat.le_refl _)

set_option maxRecDepth 100000 in
set_option maxHeartbeats 4000000 in
theorem items1_in (n : Nat) (hn : 1 ≤ n) (l Bl Bi n₀ b off cap i : Nat) (zs : List Int) (hlen : zs.length ≤ 500) (hz : ∀ z ∈ zs, 0 ≤ z ∧ z ≤ 9999) (hi : i < zs.length) (hb : b < n₀) (hBl : Bl < n₀) (hBi : Bi < n₀) (hn9 : 9 ≤ n₀) (X : Nat) (hX9 : 9 ≤ X) (hXl : Bl ≠ X) (hXi : Bi ≠ X) (hXb : b ≠ X)
    (J Jx : List (ItA zs.length) → World → Prop)
    (hY : ∀ (pre : List (ItA zs.length)) (x : ItA zs.length) (W : World), J pre W → pre.length < 2 * zs.length + 1 → YieldAt Fence.wide (n - 1) Tryz.prog l #[.string x.1.1, .int .i64 (x.1.2 : Int)] W fun e W' =>
      (e = .returned (.bool true) ∧ J (pre ++ [x]) W' ∧ BelowX X n₀ W W') ∨ (e = .returned (.bool false) ∧ Jx (pre ++ [x]) W'))
    (W : World) (gW : Glob W) (hn₀ : n₀ ≤ W.heap.size) (hcl : W.cell? ⟨Bl, 0, none⟩ = some (.slice (some ⟨b, off, none⟩) zs.length cap)) (hci : W.cell? ⟨Bi, 0, none⟩ = some (.int .i64 i)) (hcs : ∀ j, j < zs.length → W.cell? ⟨b, off + j, none⟩ = some (.int .i64 (zs.getD j 0)))
    (hJ : ∀ pre A B, J pre A → Below A.heap.size A B → J pre B) (h0 : J [] W) :
    CallsIn Fence.wide n Tryz.prog 59 #[.func (.yield l) #[] #[], .pointer (some ⟨Bl, 0, none⟩), .pointer (some ⟨Bi, 0, none⟩)] W fun e W' => (∃ v, e = .returned v) ∧
      ((∃ ys : List (ItA zs.length), ys.map (·.1) = itL zs i ∧ J ys W') ∨ (∃ pre, Jx pre W')) := by
  have bdi := getD_bd hz i
  have hD := fun w g => Digits_any (zs.getD i 0) w g (by omega) (by omega)
  have hFl := Lib.itoa_length_le (zs.getD i 0) (by omega) (by omega)
  have hci0 := hcs i hi
  have Hcs := Lib.hid hcs
  have HY := Lib.hid hY
  have HJ := Lib.hid hJ
  have Hz := Lib.hid hz
  have Hcl := Lib.hid hcl
  have Hci := Lib.hid hci
  clear hcs hY hJ hz
  refine callsIn_of_wp Tryz.func59 rfl trivial ?_ rfl
  simp only [Tryz.ntmps59, List.size_toArray, List.length_cons, List.length_nil, Nat.reduceAdd, Nat.reduceSub, Array.replicate_succ, Array.replicate_zero, List.push_toArray, List.append_toArray, List.nil_append, List.cons_append]
  generalize hzi : zs.getD i 0 = zi at *
  have Hzi := Lib.hid hzi
  clear hzi
  gi_wp2_with fail
  refine ⟨trivial, ?_⟩
  refine (callsIn_wide.2 (hD _ gW)).mono ?_
  rintro e w1 ⟨rfl, hb1⟩
  have hJ1 := HJ.out _ _ _ h0 hb1
  have hbn1 : BelowX X n₀ W w1 := BelowX.of (hb1.mono hn₀)
  have hcl1 := (hbn1.cell (p := ⟨Bl, 0, none⟩) hBl hXl).trans hcl
  have hci1 := (hbn1.cell (p := ⟨Bi, 0, none⟩) hBi hXi).trans hci
  have hsz1 : (ByteArray.mk (Lib.itoa zi).toArray).size ≤ 64 := by have := numS_size zi (by omega) (by omega); unfold numS at this; omega
  obtain ⟨fn, tmps, assign, body, hy, hR⟩ := HY.out [] ⟨(⟨(Lib.itoa zi).toArray⟩, i + 1), by simp, hi, hsz1⟩ w1 hJ1 (by simp)
  simp only [Int.natCast_add, Int.natCast_one] at hy
  clear hD h0 hcl hci hci0
  gi_wp2_with fail
  refine hR.mono ?_
  clear hy hR
  rintro e W3 (⟨rfl, hJ3, hk3⟩ | ⟨rfl, hJx3⟩)
  case inr =>
    gi_wp2_with fail
    refine bodyPost_ret (results_none rfl _ _ _) rfl ?_
    exact ⟨⟨_, rfl⟩, .inr ⟨_, hJx3⟩⟩
  have hbn3 : BelowX X n₀ W W3 := hbn1.trans hk3
  have hcl3 := (hk3.cell (p := ⟨Bl, 0, none⟩) hBl hXl).trans hcl1
  have hci3 := (hk3.cell (p := ⟨Bi, 0, none⟩) hBi hXi).trans hci1
  clear hcl1 hci1 hJ1
  gi_wp2_with fail
  gi_loopw [5] (fun jv wr => ∃ (q : Nat) (pre : List (ItA zs.length)), jv = .int .i64 ((q : Int) + 1) ∧ i ≤ q ∧ q + 1 ≤ zs.length ∧ pre.map (·.1) = firstI zs i :: (List.range (q - i)).map (upI zs i) ∧ (∀ t, t < q - i → upP zs (i + 1 + t) = true) ∧ J pre wr ∧ BelowX X n₀ W wr) (fun jv _ => zs.length + 1 - (intOf jv).toNat)
  case atStart => exact ⟨i, _, rfl, Nat.le_refl _, hi, by rw [Nat.sub_self]; unfold firstI numS; rw [Hzi.out]; rfl, fun t ht => by omega, hJ3, hbn3⟩
  case round =>
    obtain ⟨q, pre, rfl, hiq, hq, hpre, hups, hJr, hbr⟩ := hrel
    have hclr := (hbr.cell (p := ⟨Bl, 0, none⟩) hBl hXl).trans ((hbn3.cell (p := ⟨Bl, 0, none⟩) hBl hXl).symm.trans hcl3)
    have hcir := (hbr.cell (p := ⟨Bi, 0, none⟩) hBi hXi).trans ((hbn3.cell (p := ⟨Bi, 0, none⟩) hBi hXi).symm.trans hci3)
    have Hpre := Lib.hid hpre
    have Hups := Lib.hid hups
    have n0 : (0 : Int) ≤ (q : Int) := by omega
    have n1 : (0 : Int) ≤ (q : Int) + 1 := by omega
    have n4 : IntKind.i64.wrap ((q : Int) + 1 - 1) = (q : Int) := by rw [show (q : Int) + 1 - 1 = (q : Int) by omega]; exact IntWalk.i64_in _ (by omega)
    clear hpre hups hcl3 hci3
    by_cases hj : q + 1 < zs.length
    · have hgt : (q : Int) + 1 < (zs.length : Int) := by omega
      have cq := (hbr.cell (p := ⟨b, off + q, none⟩) hb hXb).trans (Hcs.out q (by omega))
      have cj := (hbr.cell (p := ⟨b, off + (q + 1), none⟩) hb hXb).trans (Hcs.out (q + 1) hj)
      have bdq := getD_bd Hz.out q
      have bdj := getD_bd Hz.out (q + 1)
      have hup : upP zs (i + 1 + (q - i)) = decide (zs.getD (q + 1) 0 = zs.getD q 0 + 1) := by
        unfold upP
        rw [show i + 1 + (q - i) = q + 1 by omega]
        simp [hj]
      have hupI : upI zs i (q - i) = (⟨(Lib.itoa (zs.getD i 0)).toArray⟩ ++ ⟨#[45]⟩ ++ ⟨(Lib.itoa (zs.getD (q + 1) 0)).toArray⟩, q + 1 + 1) := by
        unfold upI upS numS
        rw [show i + 1 + (q - i) = q + 1 by omega]
      have hsz2 := upS_size zs i (q + 1) Hz.out
      unfold upS numS at hsz2
      have hD := fun w g => Digits_any (zs.getD (q + 1) 0) w g (by omega) (by omega)
      have hGl := Lib.itoa_length_le (zs.getD (q + 1) 0) (by omega) (by omega)
      rw [Hzi.out] at hupI hsz2
      generalize zs.getD (q + 1) 0 = zj at *
      generalize zs.getD q 0 = zq at *
      have Hup := Lib.hid hup
      have HupI := Lib.hid hupI
      clear hup hupI
      have n5 : IntKind.i64.wrap (zq + 1) = zq + 1 := IntWalk.i64_in _ (by omega)
      have n6 : ((q : Int) + 1).toNat = q + 1 := by omega
      by_cases heq : zj = zq + 1
      · have heq' : (zj == zq + 1) = true := by simpa using heq
        have Heq := Lib.hid heq
        clear heq
        gi_wp2_with fail
        gi_quiet (fail)
        clear n0 n1 n4 n5 n6 cq heq'
        gi_wp2_with fail
        have hJq := HJ.out _ _ _ hJr (below_drewN (Below.refl _ _) nq)
        have hbq : BelowX X n₀ W (wr.drewN nq) := hbr.drewN nq
        refine ⟨trivial, ?_⟩
        refine (callsIn_wide.2 (hD _ (gW.belowX hbq hn9 hX9))).mono ?_
        rintro e w5 ⟨rfl, hb5⟩
        have hJ5 := HJ.out _ _ _ hJq hb5
        have hb5n : BelowX X n₀ W w5 := hbq.trans (BelowX.of (hb5.mono (Nat.le_trans hn₀ hbq.size)))
        have hcl5 := (hb5n.cell (p := ⟨Bl, 0, none⟩) hBl hXl).trans ((hbr.cell (p := ⟨Bl, 0, none⟩) hBl hXl).symm.trans hclr)
        have hprl : pre.length = q - i + 1 := by have := congrArg List.length Hpre.out; simpa using this
        obtain ⟨fn, tmps, assign, body, hy, hR⟩ := HY.out pre ⟨(⟨(Lib.itoa zi).toArray⟩ ++ ⟨#[45]⟩ ++ ⟨(Lib.itoa zj).toArray⟩, q + 1 + 1), by simp, hj, hsz2⟩ w5 hJ5 (by omega)
        simp only [Int.natCast_add, Int.natCast_one] at hy
        have hpre2 : (pre ++ [(⟨(⟨(Lib.itoa zi).toArray⟩ ++ ⟨#[45]⟩ ++ ⟨(Lib.itoa zj).toArray⟩, q + 1 + 1), by simp, hj, hsz2⟩ : ItA zs.length)]).map (·.1) = firstI zs i :: (List.range (q + 1 - i)).map (upI zs i) := by
          rw [List.map_append, Hpre.out, show q + 1 - i = (q - i) + 1 by omega, range_snoc, HupI.out]; rfl
        have hups2 : ∀ t, t < q + 1 - i → upP zs (i + 1 + t) = true := by
          intro t ht
          by_cases htq : t < q - i
          · exact Hups.out t htq
          · obtain rfl : t = q - i := by omega
            rw [Hup.out]; simpa using Heq.out
        have Hpre2 := Lib.hid hpre2
        have Hups2 := Lib.hid hups2
        clear hD hprl hpre2 hups2
        gi_wp2_with fail
        refine hR.mono ?_
        clear hy hR
        rintro e W6 (⟨rfl, hJ6, hk6⟩ | ⟨rfl, hJx6⟩)
        · gi_wp2_with fail
          go_roundw
          case rel => exact ⟨q + 1, _, by go_num, by omega, by omega, Hpre2.out, Hups2.out, hJ6, hb5n.trans hk6⟩
          case measure => simp [intOf]; omega
        · gi_wp2_with fail
          refine bodyPost_ret (results_none rfl _ _ _) rfl ?_
          exact ⟨⟨_, rfl⟩, .inr ⟨_, hJx6⟩⟩
      · have heq' : (zj == zq + 1) = false := by simpa using heq
        have HU := Lib.hid (cntP_eq (upP zs) zs.length (q - i) (i + 1) (by omega) Hups.out (by rw [Hup.out]; simpa using heq))
        clear heq hD
        gi_wp2_with fail
        gi_quiet (fail)
        clear n0 n1 n4 n5 n6 cq heq' cj
        gi_wp2_with fail
        have hJe := HJ.out _ _ _ hJr (below_drewN (Below.refl _ _) nq)
        have hbe : BelowX X n₀ W (wr.drewN nq) := hbr.drewN nq
        generalize wr.drewN nq = we at *
        clear hJr hbr
        gi_loopw [6] (fun jv wx => ∃ (q2 : Nat) (pre2 : List (ItA zs.length)), jv = .int .i64 ((q2 : Int) + 1) ∧ i ≤ q2 ∧ q2 + 1 ≤ zs.length ∧ pre2.map (·.1) = firstI zs i :: ((List.range (q - i)).map (upI zs i) ++ (List.range (q2 - i)).map (eqI zs i)) ∧ (∀ t, t < q2 - i → eqP zs i (i + 1 + t) = true) ∧ J pre2 wx ∧ BelowX X n₀ W wx) (fun jv _ => zs.length + 1 - (intOf jv).toNat)
        case atStart => exact ⟨i, pre, rfl, Nat.le_refl _, hi, by rw [Nat.sub_self, Hpre.out]; simp, fun t ht => by omega, hJe, hbe⟩
        case round =>
          obtain ⟨q2, pre2, rfl, hiq2, hq2, hpre2, heqs, hJx, hbx⟩ := hrel
          rename World => wx
          have hclx := (hbx.cell (p := ⟨Bl, 0, none⟩) hBl hXl).trans Hcl.out
          have hcix := (hbx.cell (p := ⟨Bi, 0, none⟩) hBi hXi).trans Hci.out
          have Hpre2 := Lib.hid hpre2
          have Heqs := Lib.hid heqs
          have n0 : (0 : Int) ≤ (q2 : Int) := by omega
          have n1 : (0 : Int) ≤ (q2 : Int) + 1 := by omega
          clear hpre2 heqs hJe hbe
          by_cases hj2 : q2 + 1 < zs.length
          · have hgt2 : (q2 : Int) + 1 < (zs.length : Int) := by omega
            have cj := (hbx.cell (p := ⟨b, off + (q2 + 1), none⟩) hb hXb).trans (Hcs.out (q2 + 1) hj2)
            have ci := (hbx.cell (p := ⟨b, off + i, none⟩) hb hXb).trans (Hcs.out i hi)
            have bdj2 := getD_bd Hz.out (q2 + 1)
            have hep : eqP zs i (i + 1 + (q2 - i)) = decide (zs.getD (q2 + 1) 0 = zs.getD i 0) := by
              unfold eqP
              rw [show i + 1 + (q2 - i) = q2 + 1 by omega]
              simp [hj2]
            have heqI : eqI zs i (q2 - i) = (⟨(Lib.itoa ((q2 : Int) + 1 - (i : Int) + 1)).toArray⟩ ++ ⟨#[120]⟩ ++ ⟨(Lib.itoa (zs.getD i 0)).toArray⟩, q2 + 1 + 1) := by
              unfold eqI eqS numS
              rw [show i + 1 + (q2 - i) = q2 + 1 by omega, show ((q2 + 1 : Nat) : Int) = (q2 : Int) + 1 by omega]
            have hsz2 := eqS_size zs i (q2 + 1) Hz.out (by omega) (by omega)
            unfold eqS numS at hsz2
            have hD := fun w g => Digits_any ((q2 : Int) + 1 - (i : Int) + 1) w g (by omega) (by omega)
            have hGl := Lib.itoa_length_le ((q2 : Int) + 1 - (i : Int) + 1) (by omega) (by omega)
            rw [Hzi.out] at heqI hsz2 hep ci
            rw [show ((q2 + 1 : Nat) : Int) = (q2 : Int) + 1 by omega] at hsz2
            generalize zs.getD (q2 + 1) 0 = zj at *
            have Hep := Lib.hid hep
            have HeqI := Lib.hid heqI
            clear hep heqI
            have n6 : ((q2 : Int) + 1).toNat = q2 + 1 := by omega
            have n7 : ((i : Int)).toNat = i := by omega
            have n8 : (0 : Int) ≤ (i : Int) := by omega
            have n9 : (i : Int) < (zs.length : Int) := by omega
            by_cases heq2 : zj = zi
            · have heq2' : (zj == zi) = true := by simpa using heq2
              have Heq2 := Lib.hid heq2
              clear heq2
              gi_wp2_with fail
              gi_quiet (fail)
              clear n0 n1 n6 n7 ci heq2'
              gi_wp2_with fail
              have hJq := HJ.out _ _ _ hJx (below_drewN (Below.refl _ _) nq)
              have hbq : BelowX X n₀ W (wx.drewN nq) := hbx.drewN nq
              refine ⟨trivial, ?_⟩
              refine (callsIn_wide.2 (hD _ (gW.belowX hbq hn9 hX9))).mono ?_
              rintro e w5 ⟨rfl, hb5⟩
              have hJ5 := HJ.out _ _ _ hJq hb5
              have hb5n : BelowX X n₀ W w5 := hbq.trans (BelowX.of (hb5.mono (Nat.le_trans hn₀ hbq.size)))
              have hprl : pre2.length = (q - i) + (q2 - i) + 1 := by have := congrArg List.length Hpre2.out; simpa using this
              obtain ⟨fn, tmps, assign, body, hy, hR⟩ := HY.out pre2 ⟨(⟨(Lib.itoa ((q2 : Int) + 1 - (i : Int) + 1)).toArray⟩ ++ ⟨#[120]⟩ ++ ⟨(Lib.itoa zi).toArray⟩, q2 + 1 + 1), by simp, hj2, hsz2⟩ w5 hJ5 (by omega)
              simp only [Int.natCast_add, Int.natCast_one] at hy
              have hpre3 : (pre2 ++ [(⟨(⟨(Lib.itoa ((q2 : Int) + 1 - (i : Int) + 1)).toArray⟩ ++ ⟨#[120]⟩ ++ ⟨(Lib.itoa zi).toArray⟩, q2 + 1 + 1), by simp, hj2, hsz2⟩ : ItA zs.length)]).map (·.1) = firstI zs i :: ((List.range (q - i)).map (upI zs i) ++ (List.range (q2 + 1 - i)).map (eqI zs i)) := by
                rw [List.map_append, Hpre2.out, show q2 + 1 - i = (q2 - i) + 1 by omega, range_snoc, HeqI.out]; simp
              have heqs3 : ∀ t, t < q2 + 1 - i → eqP zs i (i + 1 + t) = true := by
                intro t ht
                by_cases htq : t < q2 - i
                · exact Heqs.out t htq
                · obtain rfl : t = q2 - i := by omega
                  rw [Hep.out]; simpa using Heq2.out
              have Hpre3 := Lib.hid hpre3
              have Heqs3 := Lib.hid heqs3
              clear hD hprl hpre3 heqs3
              gi_wp2_with fail
              refine hR.mono ?_
              clear hy hR
              rintro e W6 (⟨rfl, hJ6, hk6⟩ | ⟨rfl, hJx6⟩)
              · gi_wp2_with fail
                go_roundw
                case rel => exact ⟨q2 + 1, _, by go_num, by omega, by omega, Hpre3.out, Heqs3.out, hJ6, hb5n.trans hk6⟩
                case measure => simp [intOf]; omega
              · gi_wp2_with fail
                refine bodyPost_ret (results_none rfl _ _ _) rfl ?_
                exact ⟨⟨_, rfl⟩, .inr ⟨_, hJx6⟩⟩
            · have heq2' : (zj == zi) = false := by simpa using heq2
              have hE := Lib.hid (cntP_eq (eqP zs i) zs.length (q2 - i) (i + 1) (by omega) Heqs.out (by rw [Hep.out]; simpa using heq2))
              have hfin := Lib.hid (show pre2.map (·.1) = itL zs i by rw [Hpre2.out]; unfold itL upN eqN; rw [HU.out, hE.out])
              clear heq2
              gi_wp2_with fail
              gi_quiet (fail)
              gi_wp2_with fail
              go_end0
              exact ⟨⟨_, rfl⟩, .inl ⟨pre2, hfin.out, HJ.out _ _ _ hJx (below_drewN (Below.refl _ _) _)⟩⟩
          · have hgf2 : decide ((q2 : Int) + 1 < (zs.length : Int)) = false := by rw [decide_eq_false_iff_not]; omega
            have hE := Lib.hid (cntP_eq (eqP zs i) zs.length (q2 - i) (i + 1) (by omega) Heqs.out (by unfold eqP; rw [show i + 1 + (q2 - i) = q2 + 1 by omega]; simp [hj2]))
            have hfin := Lib.hid (show pre2.map (·.1) = itL zs i by rw [Hpre2.out]; unfold itL upN eqN; rw [HU.out, hE.out])
            gi_wp2_with fail
            gi_quiet (fail)
            gi_wp2_with fail
            go_end0
            exact ⟨⟨_, rfl⟩, .inl ⟨pre2, hfin.out, HJ.out _ _ _ hJx (below_drewN (Below.refl _ _) _)⟩⟩
    · have hgf : decide ((q : Int) + 1 < (zs.length : Int)) = false := by rw [decide_eq_false_iff_not]; omega
      have HU := Lib.hid (cntP_eq (upP zs) zs.length (q - i) (i + 1) (by omega) Hups.out (by unfold upP; rw [show i + 1 + (q - i) = q + 1 by omega]; simp [hj]))
      gi_wp2_with fail
      gi_quiet (fail)
      clear n0 n1 n4 hgf
      gi_wp2_with fail
      have hJe := HJ.out _ _ _ hJr (below_drewN (Below.refl _ _) nq)
      have hbe : BelowX X n₀ W (wr.drewN nq) := hbr.drewN nq
      generalize wr.drewN nq = we at *
      clear hJr hbr
      gi_loopw [6] (fun jv wx => ∃ (q2 : Nat) (pre2 : List (ItA zs.length)), jv = .int .i64 ((q2 : Int) + 1) ∧ i ≤ q2 ∧ q2 + 1 ≤ zs.length ∧ pre2.map (·.1) = firstI zs i :: ((List.range (q - i)).map (upI zs i) ++ (List.range (q2 - i)).map (eqI zs i)) ∧ (∀ t, t < q2 - i → eqP zs i (i + 1 + t) = true) ∧ J pre2 wx ∧ BelowX X n₀ W wx) (fun jv _ => zs.length + 1 - (intOf jv).toNat)
      case atStart => exact ⟨i, pre, rfl, Nat.le_refl _, hi, by rw [Nat.sub_self, Hpre.out]; simp, fun t ht => by omega, hJe, hbe⟩
      case round =>
        obtain ⟨q2, pre2, rfl, hiq2, hq2, hpre2, heqs, hJx, hbx⟩ := hrel
        rename World => wx
        have hclx := (hbx.cell (p := ⟨Bl, 0, none⟩) hBl hXl).trans Hcl.out
        have hcix := (hbx.cell (p := ⟨Bi, 0, none⟩) hBi hXi).trans Hci.out
        have Hpre2 := Lib.hid hpre2
        have Heqs := Lib.hid heqs
        have n0 : (0 : Int) ≤ (q2 : Int) := by omega
        have n1 : (0 : Int) ≤ (q2 : Int) + 1 := by omega
        clear hpre2 heqs hJe hbe
        by_cases hj2 : q2 + 1 < zs.length
        · have hgt2 : (q2 : Int) + 1 < (zs.length : Int) := by omega
          have cj := (hbx.cell (p := ⟨b, off + (q2 + 1), none⟩) hb hXb).trans (Hcs.out (q2 + 1) hj2)
          have ci := (hbx.cell (p := ⟨b, off + i, none⟩) hb hXb).trans (Hcs.out i hi)
          have bdj2 := getD_bd Hz.out (q2 + 1)
          have hep : eqP zs i (i + 1 + (q2 - i)) = decide (zs.getD (q2 + 1) 0 = zs.getD i 0) := by
            unfold eqP
            rw [show i + 1 + (q2 - i) = q2 + 1 by omega]
            simp [hj2]
          have heqI : eqI zs i (q2 - i) = (⟨(Lib.itoa ((q2 : Int) + 1 - (i : Int) + 1)).toArray⟩ ++ ⟨#[120]⟩ ++ ⟨(Lib.itoa (zs.getD i 0)).toArray⟩, q2 + 1 + 1) := by
            unfold eqI eqS numS
            rw [show i + 1 + (q2 - i) = q2 + 1 by omega, show ((q2 + 1 : Nat) : Int) = (q2 : Int) + 1 by omega]
          have hsz2 := eqS_size zs i (q2 + 1) Hz.out (by omega) (by omega)
          unfold eqS numS at hsz2
          have hD := fun w g => Digits_any ((q2 : Int) + 1 - (i : Int) + 1) w g (by omega) (by omega)
          have hGl := Lib.itoa_length_le ((q2 : Int) + 1 - (i : Int) + 1) (by omega) (by omega)
          rw [Hzi.out] at heqI hsz2 hep ci
          rw [show ((q2 + 1 : Nat) : Int) = (q2 : Int) + 1 by omega] at hsz2
          generalize zs.getD (q2 + 1) 0 = zj at *
          have Hep := Lib.hid hep
          have HeqI := Lib.hid heqI
          clear hep heqI
          have n6 : ((q2 : Int) + 1).toNat = q2 + 1 := by omega
          have n7 : ((i : Int)).toNat = i := by omega
          have n8 : (0 : Int) ≤ (i : Int) := by omega
          have n9 : (i : Int) < (zs.length : Int) := by omega
          by_cases heq2 : zj = zi
          · have heq2' : (zj == zi) = true := by simpa using heq2
            have Heq2 := Lib.hid heq2
            clear heq2
            gi_wp2_with fail
            gi_quiet (fail)
            clear n0 n1 n6 n7 ci heq2'
            gi_wp2_with fail
            have hJq := HJ.out _ _ _ hJx (below_drewN (Below.refl _ _) nq)
            have hbq : BelowX X n₀ W (wx.drewN nq) := hbx.drewN nq
            refine ⟨trivial, ?_⟩
            refine (callsIn_wide.2 (hD _ (gW.belowX hbq hn9 hX9))).mono ?_
            rintro e w5 ⟨rfl, hb5⟩
            have hJ5 := HJ.out _ _ _ hJq hb5
            have hb5n : BelowX X n₀ W w5 := hbq.trans (BelowX.of (hb5.mono (Nat.le_trans hn₀ hbq.size)))
            have hprl : pre2.length = (q - i) + (q2 - i) + 1 := by have := congrArg List.length Hpre2.out; simpa using this
            obtain ⟨fn, tmps, assign, body, hy, hR⟩ := HY.out pre2 ⟨(⟨(Lib.itoa ((q2 : Int) + 1 - (i : Int) + 1)).toArray⟩ ++ ⟨#[120]⟩ ++ ⟨(Lib.itoa zi).toArray⟩, q2 + 1 + 1), by simp, hj2, hsz2⟩ w5 hJ5 (by omega)
            simp only [Int.natCast_add, Int.natCast_one] at hy
            have hpre3 : (pre2 ++ [(⟨(⟨(Lib.itoa ((q2 : Int) + 1 - (i : Int) + 1)).toArray⟩ ++ ⟨#[120]⟩ ++ ⟨(Lib.itoa zi).toArray⟩, q2 + 1 + 1), by simp, hj2, hsz2⟩ : ItA zs.length)]).map (·.1) = firstI zs i :: ((List.range (q - i)).map (upI zs i) ++ (List.range (q2 + 1 - i)).map (eqI zs i)) := by
              rw [List.map_append, Hpre2.out, show q2 + 1 - i = (q2 - i) + 1 by omega, range_snoc, HeqI.out]; simp
            have heqs3 : ∀ t, t < q2 + 1 - i → eqP zs i (i + 1 + t) = true := by
              intro t ht
              by_cases htq : t < q2 - i
              · exact Heqs.out t htq
              · obtain rfl : t = q2 - i := by omega
                rw [Hep.out]; simpa using Heq2.out
            have Hpre3 := Lib.hid hpre3
            have Heqs3 := Lib.hid heqs3
            clear hD hprl hpre3 heqs3
            gi_wp2_with fail
            refine hR.mono ?_
            clear hy hR
            rintro e W6 (⟨rfl, hJ6, hk6⟩ | ⟨rfl, hJx6⟩)
            · gi_wp2_with fail
              go_roundw
              case rel => exact ⟨q2 + 1, _, by go_num, by omega, by omega, Hpre3.out, Heqs3.out, hJ6, hb5n.trans hk6⟩
              case measure => simp [intOf]; omega
            · gi_wp2_with fail
              refine bodyPost_ret (results_none rfl _ _ _) rfl ?_
              exact ⟨⟨_, rfl⟩, .inr ⟨_, hJx6⟩⟩
          · have heq2' : (zj == zi) = false := by simpa using heq2
            have hE := Lib.hid (cntP_eq (eqP zs i) zs.length (q2 - i) (i + 1) (by omega) Heqs.out (by rw [Hep.out]; simpa using heq2))
            have hfin := Lib.hid (show pre2.map (·.1) = itL zs i by rw [Hpre2.out]; unfold itL upN eqN; rw [HU.out, hE.out])
            clear heq2
            gi_wp2_with fail
            gi_quiet (fail)
            gi_wp2_with fail
            go_end0
            exact ⟨⟨_, rfl⟩, .inl ⟨pre2, hfin.out, HJ.out _ _ _ hJx (below_drewN (Below.refl _ _) _)⟩⟩
        · have hgf2 : decide ((q2 : Int) + 1 < (zs.length : Int)) = false := by rw [decide_eq_false_iff_not]; omega
          have hE := Lib.hid (cntP_eq (eqP zs i) zs.length (q2 - i) (i + 1) (by omega) Heqs.out (by unfold eqP; rw [show i + 1 + (q2 - i) = q2 + 1 by omega]; simp [hj2]))
          have hfin := Lib.hid (show pre2.map (·.1) = itL zs i by rw [Hpre2.out]; unfold itL upN eqN; rw [HU.out, hE.out])
          gi_wp2_with fail
          gi_quiet (fail)
          gi_wp2_with fail
          go_end0
          exact ⟨⟨_, rfl⟩, .inl ⟨pre2, hfin.out, HJ.out _ _ _ hJx (below_drewN (Below.refl _ _) _)⟩⟩
end Go.Proofs.YtkbmdmipdcjjcaaGreatDoor
