/- A row of at most twelve matrices sorted by the library. -/
import Derived.Test.YtehpgmhilcoalaaDoorGV
import Derived.Test.YtehpgmhilcoalaaDoorGQ
import Derived.Test.YtehpgmhilcoalaaDoorShelf
namespace Go.Proofs.YtehpgmhilcoalaaDoor
open Go.RowKit Go.Lib Go.Sort Go.Shelf Go.Proofs
instance : Inhabited Mat := ⟨⟨0, 0, 0, 0⟩⟩
/-- Where the matrices lie. -/
def MsAt (w : World) (sa : Option Addr) (ms : List Mat) : Prop := ∀ (k : Nat) (m : Mat), ms[k]? = some m → ∃ b off, sa = some ⟨b, off, none⟩ ∧ b < w.heap.size ∧ w.rangeAt b (off + k * 4) (ml m)
theorem cmpM_lt (x y : Mat) : ltOf cmpM x y = mlt x y := by
  unfold ltOf
  rw [Bool.eq_iff_iff, mlt_iff, decide_eq_true_eq]
  unfold cmpM
  obtain ⟨a, b, c, d⟩ := x
  obtain ⟨a', b', c', d'⟩ := y
  simp only [firstOf, cmpI]
  repeat' split
  all_goals simp_all
  all_goals omega
theorem swoM : SWO (ltOf cmpM) where
  irrefl x := by rw [cmpM_lt]; simpa using mlt_irrefl x
  trans x y z h1 h2 := by rw [cmpM_lt] at *; exact mlt_trans h1 h2
  ntrans x y z h1 h2 := by
    rw [cmpM_lt] at *
    rcases hv : mlt x z with _ | _
    · rfl
    · rcases mlt_total x y with h | rfl | h
      · rw [h] at h1; cases h1
      · rw [hv] at h2; cases h2
      · have := mlt_trans h hv
        rw [this] at h2; cases h2
theorem drew_grow (W : World) (os : Array Obj) : (grow W os).drew = grow (W.drewN 1) os := rfl
theorem cmpLaysM (blk off size : Nat) (w : World) : CmpLays Tryd.prog 66 #[] ml 4 cmpM blk off size w :=
  fun m os dk _ x y => (compare_any x y _).mono fun e w' ⟨he, hw⟩ => ⟨he, 1, #[.cells #[.int .i64 x.a, .int .i64 x.b, .int .i64 x.c, .int .i64 x.d] 40, .cells #[.int .i64 y.a, .int .i64 y.b, .int .i64 y.c, .int .i64 y.d] 40, .cells #[.int .i64 (cmpI x.a y.a), .int .i64 (cmpI x.b y.b), .int .i64 (cmpI x.c y.c), .int .i64 (cmpI x.d y.d)] 3], by
    rw [hw]
    simp only [alloc_eq_grow, grow_grow, drew_grow]
    rfl⟩
theorem hlenM (n : Nat) (W : World) (h : n ≤ 12) : Calls Tryd.prog 87 #[.int .u64 n] W fun e w' => (∃ l : Int, e = .returned (.int .i64 l)) ∧ w' = W :=
  (Any.bits_Len Tryd.lays125 n W (by omega) (by omega)).mono fun _ _ ⟨he, hw⟩ => ⟨⟨_, he⟩, hw⟩
theorem FR.holds {B b off cap : Nat} {w : World} {R : List Mat} (h : FR B w (some ⟨b, off, none⟩) cap R) (h0 : 0 < R.length) : HoldsK ml 4 w b off R.toArray ∧ b < w.heap.size ∧ B ≤ b := by
  have hle := h.le
  obtain ⟨b', off', e, h1, h2, h3, h4⟩ := h.row (by omega)
  cases e
  refine ⟨fun j hj => ?_, h2, h1⟩
  rw [size_flatK] at hj
  have hj' : j < R.length * 4 := by simpa using hj
  obtain ⟨x, hx⟩ : ∃ x, R[j / 4]? = some x := ⟨_, List.getElem?_eq_getElem (by omega)⟩
  refine ⟨?_, (h4 j (by omega)).2⟩
  rw [show off + j = off + j / 4 * 4 + j % 4 by omega]
  rw [get_flatK ml 4 _ j hj]
  have hd : R.toArray[j / 4]! = x := by
    rw [getElem!_pos R.toArray (j / 4) (by simp; omega)]
    have := (List.getElem?_eq_some_iff.1 hx).2
    simpa using this
  rw [hd]
  refine h3 (j / 4) x hx (j % 4) _ ?_
  have h4' : j % 4 < (ml x).length := by rw [pl_len]; omega
  rw [List.getElem?_eq_getElem h4']
  show some _ = some (id ((ml x)[j % 4]!))
  rw [getElem!_pos (ml x) (j % 4) h4']
  rfl
theorem sort_any {B b off cap : Nat} {w : World} {R : List Mat} (h : FR B w (some ⟨b, off, none⟩) cap R) (h0 : 0 < R.length) (h12 : R.length ≤ 12) (hn : R.Nodup) :
    Calls Tryd.prog 65 #[.slice (some ⟨b, off, none⟩) R.length cap, .func (.func 66) #[] #[]] w fun e w' => e = .returned (.tuple #[]) ∧
      ∃ R' : List Mat, R'.Perm R ∧ R'.Pairwise (fun m n => mlt m n = true) ∧ MsAt w' (some ⟨b, off, none⟩) R' ∧ (∀ B w0, RowKit.Below B w0 w → B ≤ b → RowKit.Below B w0 w') := by
  obtain ⟨hH, hb, hB⟩ := h.holds h0
  refine (AnyQ.slices_SortFunc_small_sorted Tryd.sortM 4 Tryd.isAgg40 Tryd.sizeOf40 ml (fun _ => rfl) pl_one cmpM 66 #[] swoM b off cap R.toArray w (fun args w => enter_of Tryd.func66 (by decide) (by intro h; cases h) args w) (cmpLaysM b off _ w) hH hb (by simpa using h12) hlenM).mono ?_
  rintro e w' ⟨he, d', n, os, hp, hs, rfl⟩
  obtain ⟨hsz, _, hperm⟩ := hp
  have hsz' : d'.size = R.length := by simpa using hsz
  have hperm' : d'.toList.Perm R := by
    have e1 : d'.extract 0 R.toArray.size = d' := by rw [← hsz]; simp
    have e2 : R.toArray.extract 0 R.toArray.size = R.toArray := by simp
    rw [e1, e2] at hperm
    simpa using hperm
  have hnd : d'.toList.Nodup := hperm'.nodup_iff.2 hn
  refine ⟨he, d'.toList, hperm', ?_, ?_, ?_⟩
  · rw [List.pairwise_iff_getElem]
    intro i j hi hj hij
    have hi' : i < d'.size := by simpa using hi
    have hj' : j < d'.size := by simpa using hj
    have h1 := hs i j (Nat.zero_le _) hij (by rw [← hsz]; exact hj')
    rw [cmpM_lt, getElem!_pos d' i hi', getElem!_pos d' j hj'] at h1
    rcases mlt_total d'[i] d'[j] with h2 | h2 | h2
    · simpa using h2
    · exfalso
      have := (List.pairwise_iff_getElem.1 hnd) i j hi hj hij
      exact this (by simpa using h2)
    · rw [h2] at h1; cases h1
  · have hHW := holdsK_sortWorldK_c ml 4 w b off R.toArray d' n os hH hb hsz
    intro k m hk
    have hk' : k < d'.size := by
      have := (List.getElem?_eq_some_iff.1 hk).1
      simpa using this
    have hm : d'[k]! = m := by
      rw [getElem!_pos d' k hk']
      have := (List.getElem?_eq_some_iff.1 hk).2
      simpa using this
    refine ⟨b, off, rfl, (by unfold sortWorldK; rw [size_grow, size_putRowK]; exact Nat.lt_of_lt_of_le hb (Nat.le_add_right _ _)), fun j v hv => ?_⟩
    have hj : j < 4 := by
      have := (List.getElem?_eq_some_iff.1 hv).1
      rwa [pl_len] at this
    have := (hHW.cell hk' hj).1
    rw [hm] at this
    rw [this, getElem!_pos (ml m) j (by rw [pl_len]; exact hj)]
    have h5 := (List.getElem?_eq_some_iff.1 hv).2
    rw [h5]
  · intro B' w0 hbl hB'
    have hsame : ∀ k, k < B' → (sortWorldK ml 4 w b off n d' os).heap[k]? = w.heap[k]? := fun k hk => by
      unfold sortWorldK
      rw [heap_grow_old _ _ (by rw [size_putRowK]; show k < w.heap.size; omega)]
      unfold putRowK putRow mapBlock
      simp only [Array.getElem?_modify, if_neg (show ¬ b = k by omega)]
      rfl
    refine hbl.trans ⟨rfl, rfl, rfl, ?_, hsame⟩
    unfold sortWorldK
    rw [size_grow, size_putRowK]
    exact Nat.le_add_right _ _
end Go.Proofs.YtehpgmhilcoalaaDoor
