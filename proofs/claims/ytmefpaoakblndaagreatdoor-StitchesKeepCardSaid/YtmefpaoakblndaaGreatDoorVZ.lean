/- Reduce of the program. -/
import Derived.Test.YtmefpaoakblndaaGreatDoorVY
import Derived.Test.YtmefpaoakblndaaGreatDoorVF
import Derived.Lib.SplitLaws
import Derived.Lib.Join
namespace Go.Proofs.YtmefpaoakblndaaGreatDoor
section
open Go.Lib
theorem index_nil (c : UInt8) : index [] [c] = -1 := by simp [index]
theorem index_cons_eq (c : UInt8) (l : List UInt8) : index (c :: l) [c] = 0 := by simp [index, List.isPrefixOf]
theorem index_cons_ne {b c : UInt8} (l : List UInt8) (h : b ≠ c) : index (b :: l) [c] = if index l [c] == -1 then -1 else index l [c] + 1 := by
  have : ¬ ([c].isPrefixOf (b :: l) = true) := by simp [List.isPrefixOf]; exact fun e => h e.symm
  rw [index, if_neg this]
/-- A list cut at each c. -/
def splitL (c : UInt8) : List UInt8 → List (List UInt8)
  | [] => [[]]
  | b :: l => if b = c then [] :: splitL c l else ((b :: (splitL c l).headD []) :: (splitL c l).tail)
theorem splitL_ne (c : UInt8) (l : List UInt8) : splitL c l = (splitL c l).headD [] :: (splitL c l).tail := by
  cases l with
  | nil => rfl
  | cons b l => unfold splitL; split <;> rfl
theorem splitK_cons_ne {b c : UInt8} (h : b ≠ c) (k : Nat) (l : List UInt8) : splitK [c] 0 k (b :: l) = (b :: (splitK [c] 0 k l).headD []) :: (splitK [c] 0 k l).tail := by
  cases k with
  | zero => rfl
  | succ k =>
    rcases Int.lt_or_le (index l [c]) 0 with hm | hp
    · have hi : index l [c] = -1 := by have := index_ge l [c]; omega
      have hi2 : index (b :: l) [c] = -1 := by rw [index_cons_ne l h, hi]; rfl
      simp [splitK, hi, hi2]
    · obtain ⟨i, hi⟩ : ∃ i : Nat, index l [c] = i := ⟨(index l [c]).toNat, by omega⟩
      have hne : ¬ (index l [c] == -1) = true := by simp; omega
      have hi2 : index (b :: l) [c] = (i + 1 : Nat) := by rw [index_cons_ne l h, if_neg hne, hi]; rfl
      have hne2 : ¬ (index (b :: l) [c] == -1) = true := by rw [hi2]; simp; omega
      rw [splitK, if_neg hne2, splitK, if_neg hne, hi, hi2]
      simp
theorem splitK_all (c : UInt8) : ∀ l : List UInt8, splitK [c] 0 (l.count c) l = splitL c l
  | [] => rfl
  | b :: l => by
    by_cases hb : b = c
    · subst hb
      rw [List.count_cons_self, splitK, index_cons_eq, if_neg (by simp)]
      simp [splitL, splitK_all b l]
    · rw [splitK_cons_ne hb, List.count_cons_of_ne (fun e => hb (by simpa using e))]
      rw [splitK_all c l]
      conv => rhs; unfold splitL
      rw [if_neg hb]
theorem splitB_all_data (c : UInt8) (s : ByteArray) : (splitB ⟨#[c]⟩ 0 (countB s ⟨#[c]⟩) s).map (·.data.toList) = splitL c s.data.toList := by
  rw [splitB_data]
  show splitK [c] 0 (count s.data.toList [c]) s.data.toList = _
  rw [count_one]; exact splitK_all c _
theorem splitL_length (c : UInt8) : ∀ l : List UInt8, (splitL c l).length = l.count c + 1
  | [] => rfl
  | b :: l => by
    unfold splitL
    by_cases hb : b = c
    · subst hb; simp [splitL_length b l]
    · have := splitL_length c l
      rw [splitL_ne] at this
      simp [hb] at this ⊢
      exact this
end
open Go.RowKit
set_option linter.unusedSimpArgs false
/-- The parts of a word; how they are put together again. -/
def partsW (s : ByteArray) : List ByteArray := Lib.splitB ⟨#[80]⟩ 0 (Lib.countB s ⟨#[80]⟩) s
theorem partsW_data (s : ByteArray) : (partsW s).map (·.data.toList) = splitL 80 s.data.toList := splitB_all_data 80 s
theorem partsW_len (s : ByteArray) : (partsW s).length = Lib.countB s ⟨#[80]⟩ + 1 := Lib.splitB_all ⟨#[80]⟩ (by decide) 0 _ s rfl
theorem splitL_part {c : UInt8} : ∀ {l : List UInt8} {p : List UInt8}, p ∈ splitL c l → p.length ≤ l.length
  | [], p, h => by simp [splitL] at h; simp [h]
  | b :: l, p, h => by
    unfold splitL at h
    obtain ⟨h0, t0, e⟩ : ∃ h0 t0, splitL c l = h0 :: t0 := ⟨_, _, splitL_ne c l⟩
    have ih : ∀ {p : List UInt8}, p ∈ h0 :: t0 → p.length ≤ l.length := fun {p} hp => splitL_part (c := c) (by rw [e]; exact hp)
    rw [e] at h
    split at h
    · rw [List.mem_cons] at h
      rcases h with rfl | h
      · simp
      · have := ih h; simp; omega
    · simp only [List.headD_cons, List.tail_cons, List.mem_cons] at h
      rcases h with rfl | h
      · have := ih (p := h0) (by simp)
        simp; omega
      · have := ih (p := p) (by simp [h])
        simp; omega
def redB (p : ByteArray) : ByteArray := ⟨(redL p.data.toList).toArray⟩
/-- No syllable of a word is longer than sixteen letters. -/
def R12 (s : ByteArray) : Prop := ∀ p ∈ splitL 80 s.data.toList, ∀ t ∈ readS p, (txtL t).length ≤ 16
theorem R12_all {s : ByteArray} (h : s.size ≤ 16) : R12 s := fun p hp t ht => by
  have h1 := readS_txt p t ht
  have h2 := splitL_part hp
  have e2 : s.data.toList.length = s.size := by simp
  omega
/-- What Reduce hands out. -/
def redS (s : ByteArray) : ByteArray := if stV s = 0 then ⟨(Lib.join ((splitL 80 s.data.toList).map redL) [80]).toArray⟩ else ByteArray.empty
theorem mid_get {α β : Type} {f : α → β} {g : α → β} {l : List α} {k : Nat} {x : α} (h : l[k]? = some x) : ((l.take k).map f ++ (l.drop k).map g)[k]? = some (g x) := by
  have hk := (List.getElem?_eq_some_iff.1 h).1
  rw [List.getElem?_append_right (by simp; omega)]
  simp only [List.length_map, List.length_take, Nat.min_eq_left (Nat.le_of_lt hk), Nat.sub_self, List.getElem?_map, List.getElem?_drop, Nat.add_zero, h]
  rfl
theorem mid_set {α β : Type} {f : α → β} {g : α → β} {l : List α} {k : Nat} {x : α} (h : l[k]? = some x) : ((l.take k).map f ++ (l.drop k).map g).set k (f x) = (l.take (k + 1)).map f ++ (l.drop (k + 1)).map g := by
  have hk := (List.getElem?_eq_some_iff.1 h).1
  have hx := (List.getElem?_eq_some_iff.1 h).2
  rw [List.set_append_right _ _ (by simp; omega)]
  simp only [List.length_map, List.length_take, Nat.min_eq_left (Nat.le_of_lt hk), Nat.sub_self]
  rw [List.drop_eq_getElem_cons hk, List.take_add_one, h, hx]
  simp
theorem join_len (xs : List ByteArray) (h : ∀ x ∈ xs, x.data.toList.length ≤ 256) : (Lib.join (xs.map (·.data.toList)) (⟨#[80]⟩ : ByteArray).data.toList).length ≤ xs.length * 257 := by
  have key : ∀ (ys : List (List UInt8)), (∀ y ∈ ys, y.length ≤ 256) → ([80].intercalate ys : List UInt8).length ≤ ys.length * 257 := by
    intro ys
    induction ys with
    | nil => intro _; simp [List.intercalate]
    | cons y ys ih =>
      intro hy
      have h1 := hy y (by simp)
      have h2 := ih (fun z hz => hy z (by simp [hz]))
      cases ys with
      | nil => simp [List.intercalate] at *; omega
      | cons z zs =>
        simp only [List.intercalate, List.intersperse_cons_cons, List.flatten_cons, List.length_append, List.length_cons] at h2 ⊢
        simp at h2 ⊢
        omega
  have := key (xs.map (·.data.toList)) (fun y hy => by obtain ⟨x, hx, rfl⟩ := List.mem_map.1 hy; exact h x hx)
  rw [List.length_map] at this
  exact this
set_option maxHeartbeats 4000000 in
set_option maxRecDepth 100000 in
theorem Reduce_ok (s : ByteArray) (hz : stV s = 0) (h12 : R12 s) (hm : s.size ≤ maxLen) (w : World) (g : Glob w) : Calls Tryz.prog 25 #[.string s] w fun e w' => e = .returned (.tuple #[.string ⟨(Lib.join ((splitL 80 s.data.toList).map redL) [80]).toArray⟩, .int .i64 0]) ∧ Below w.heap.size w w' := by
  have CK := Lib.hid (fun W => stCheck_any s W hm)
  rw [hz] at CK
  have h16 := (st_ok hz).1
  obtain ⟨m, hmx⟩ := g.mx
  have CSp := Tryz.strings_Split s ⟨#[80]⟩ m w (by omega) hmx (by decide)
  have hpl := partsW_len s
  have hpd := partsW_data s
  rw [← hpl] at CSp
  change Calls _ _ _ _ (fun e w' => _ ∧ w' = w.alloc (.cells ((partsW s).map Value.string).toArray 9)) at CSp
  have hsm : ∀ p ∈ partsW s, p.size ≤ 16 := fun p hp => by
    have h1 : p.data.toList ∈ splitL 80 s.data.toList := by rw [← hpd]; exact List.mem_map.2 ⟨p, hp, rfl⟩
    have := splitL_part h1
    have e1 : p.data.toList.length = p.size := by simp
    have e2 : s.data.toList.length = s.size := by simp
    omega
  have h12' : ∀ p ∈ partsW s, ∀ t ∈ readS p.data.toList, (txtL t).length ≤ 16 := fun p hp => h12 _ (by rw [← hpd]; exact List.mem_map.2 ⟨p, hp, rfl⟩)
  have hpn : (partsW s).length ≤ 17 := by
    have h1 : (partsW s).length = (splitL 80 s.data.toList).length := by rw [← hpd]; simp
    rw [h1, splitL_length]
    have := List.count_le_length (a := (80 : UInt8)) (l := s.data.toList)
    have e2 : s.data.toList.length = s.size := by simp
    omega
  rw [← hpd]
  obtain ⟨J, hJ⟩ : ∃ J, J = Lib.join (((partsW s).map (·.data.toList)).map redL) [80] := ⟨_, rfl⟩
  rw [← hJ]
  have hrl : ∀ p ∈ partsW s, (redL p.data.toList).length ≤ 256 := fun p hp => by
    unfold redL
    have h1 := readS_sm p.data.toList
    have h2 := flat_len (l := readS p.data.toList) (n := 16) (fun t ht => by rw [(word_perm t).length_eq]; exact h12' p hp t ht)
    have h3 := hsm p hp
    have e1 : p.data.toList.length = p.size := by simp
    have := Nat.mul_le_mul_right 16 h1.2
    omega
  generalize partsW s = ps at *
  have HJJ := Lib.hid hJ
  clear hJ
  have HCS := Lib.hid CSp
  have HSM := Lib.hid hsm
  have H12 := Lib.hid h12'
  have HRL := Lib.hid hrl
  have HO := Lib.hid (World.ownsRow_lit w (ps.map Value.string).toArray ps.length (base := w.heap.size) (e := 9) (size := 1) (Nat.le_refl _) (by unfold maxLen; omega) (by simp))
  clear hz CSp hpl hpd hsm h12' h12 hrl hmx
  go_enter Tryz.func25, Tryz.ntmps25
  go_wp2_with fail
  refine (CK.out _).mono ?_
  rintro e w1 ⟨rfl, hw⟩
  obtain rfl := hw.symm
  clear hw
  go_wp2_with fail
  refine HCS.out.mono ?_
  rintro e w2 ⟨rfl, hw⟩
  have HO2 := Lib.hid (show w2.ownsRow w.heap.size 9 1 (.slice (some ⟨w.heap.size, 0, none⟩) ps.length ps.length) ps.length (ps.map Value.string) by rw [hw]; simpa using HO.out)
  have HB2 := Lib.hid (show Below w.heap.size w w2 by rw [hw]; exact below_alloc _ _)
  clear hw HO
  go_wp2_with fail
  go_loopw [17] (fun i wr => ∃ k : Nat, k ≤ ps.length ∧ i = .int .i64 k ∧ wr.ownsRow w.heap.size 9 1 (.slice (some ⟨w.heap.size, 0, none⟩) ps.length ps.length) ps.length ((ps.take k).map (fun p => Value.string (redB p)) ++ (ps.drop k).map Value.string) ∧ Below w.heap.size w wr) (fun i _ => ps.length - (intOf i).toNat)
  case atStart => exact ⟨0, Nat.zero_le _, rfl, by simpa using HO2.out, HB2.out⟩
  case round =>
    obtain ⟨k, hk, rfl, hown, hbw⟩ := hrel
    have Hown := Lib.hid hown
    have HBW := Lib.hid hbw
    by_cases hkl : k < ps.length
    · obtain ⟨p, hp⟩ : ∃ p, ps[k]? = some p := ⟨_, List.getElem?_eq_getElem hkl⟩
      have k0 : (0 : Int) ≤ (k : Int) := by omega
      have k1 : (k : Int) < (ps.length : Int) := by omega
      have hpm := List.mem_of_getElem? hp
      have cr : wr.cell? ⟨w.heap.size, k, none⟩ = some (.string p) := (hown.cellAt k (by omega)).trans (mid_get hp)
      have CR := Lib.hid (fun W => reduced_any p (HSM.out p hpm) (H12.out p hpm) W)
      have HN := Lib.hid (mid_set (f := fun p => Value.string (redB p)) (g := Value.string) hp)
      have HG := Lib.hid (mid_get (f := fun p => Value.string (redB p)) (g := Value.string) hp)
      clear hp hpm hown hbw
      go_wp2_with fail
      refine (CR.out _).mono ?_
      rintro e w3 ⟨rfl, hb3⟩
      have hown3 := own_below Hown.out hb3
      have HB3 := Lib.hid (HBW.out.trans (hb3.mono HBW.out.size))
      have cr3 : w3.cell? ⟨w.heap.size, k, none⟩ = some (.string p) := (hown3.cellAt k (by omega)).trans HG.out
      have fr3 := hown3.frozenAt k
      have hst := (hown3.stored k (Value.string (redB p))).1
      rw [HN.out] at hst
      have HS3 := Lib.hid hst
      have HB4 := Lib.hid (HB3.out.setCell (p := ⟨w.heap.size, k, none⟩) (Nat.le_refl _) (Value.string (redB p)))
      clear hst hown3 hb3 cr
      go_wp2_with fail
      go_roundw
      case rel => exact ⟨k + 1, hkl, by go_num, HS3.out, HB4.out⟩
      case measure => (simp [intOf] <;> omega)
    · have k1 : ¬ (k : Int) < (ps.length : Int) := by omega
      have e : k = ps.length := by omega
      have e1 : (ps.take k).map (fun p => Value.string (redB p)) ++ (ps.drop k).map Value.string = (ps.map redB).map Value.string := by
        rw [e, List.take_length, List.drop_length]; simp
      rw [e1] at hown
      have hbs : w.heap.size < wr.heap.size := (hown.lt w.heap.size rfl).2
      have CJ := Tryz.strings_Join w.heap.size 0 ps.length (ps.map redB) ⟨#[80]⟩ wr (fun j x hx => by
        rw [Nat.zero_add, hown.cellAt j (by have := (List.getElem?_eq_some_iff.1 hx).1; simpa using this), List.getElem?_map, hx]; rfl) hbs (by simp; omega) (by simp) (by
          have := join_len (ps.map redB) (fun x hx => by
            obtain ⟨p, hp, rfl⟩ := List.mem_map.1 hx
            show (redL p.data.toList).toArray.toList.length ≤ 256
            simpa using HRL.out p hp)
          rw [List.length_map] at this
          omega)
      rw [List.length_map] at CJ
      have hjm : (ps.map redB).map (·.data.toList) = (ps.map (·.data.toList)).map redL := by
        rw [List.map_map, List.map_map]; rfl
      rw [hjm, show (⟨#[80]⟩ : ByteArray).data.toList = [80] from rfl, ← HJJ.out] at CJ
      have HJ := Lib.hid CJ
      clear hown CJ e e1 hjm
      go_wp2_with fail
      refine HJ.out.mono ?_
      rintro e w3 ⟨rfl, hb3⟩
      have HB3 := Lib.hid (hbw.trans (hb3.mono hbw.size))
      clear hb3
      go_wp2_with fail
      go_ret2
      exact ⟨rfl, HB3.out⟩
end Go.Proofs.YtmefpaoakblndaaGreatDoor
