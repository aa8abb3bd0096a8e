/- parseItems of package words. -/
import Derived.Test.YtkbmdmipdcjjcaaGreatDoorL
namespace Go.Proofs.YtkbmdmipdcjjcaaGreatDoor
open Go.RowKit

abbrev Itm := Int × Int × Int
def icells (l : List Itm) : List Value := l.flatMap fun f => [.int .i64 f.1, .int .i64 f.2.1, .int .i64 f.2.2]
theorem icells_length (l : List Itm) : (icells l).length = l.length * 3 := by
  induction l with
  | nil => rfl
  | cons a l ih => simp only [icells, List.flatMap_cons, List.length_append, List.length_cons, List.length_nil] at ih ⊢; omega
theorem icells_app (a b : List Itm) : icells (a ++ b) = icells a ++ icells b := by simp [icells]

def itemsGo : List (List UInt8) → Option (List Itm)
  | [] => some []
  | x :: r => if (itmP x).2 then (itemsGo r).map ((itmP x).1 :: ·) else none
def itemsP (l : List UInt8) : Option (List Itm) := if l = [] then some [] else itemsGo (splitL 44 l)
def totI (acc : List Itm) (r : List (List UInt8)) : Option (List Itm) := (itemsGo r).map (acc ++ ·)
theorem totI_bad {acc : List Itm} {x : List UInt8} {r : List (List UInt8)} {i : Itm} (h : itmP x = (i, false)) : totI acc (x :: r) = none := by simp [totI, itemsGo, h]
theorem totI_next {acc : List Itm} {x : List UInt8} {r : List (List UInt8)} {i : Itm} (h : itmP x = (i, true)) : totI acc (x :: r) = totI (acc ++ [i]) r := by
  simp [totI, itemsGo, h, Option.map_map, Function.comp_def]
theorem totI_nil (acc : List Itm) : totI acc [] = some acc := by simp [totI, itemsGo]

theorem splitL_len (c : UInt8) : ∀ (l : List UInt8), ∀ p ∈ splitL c l, p.length ≤ l.length
  | [], p, hp => by simp [splitL] at hp; subst hp; simp
  | b :: l, p, hp => by
    have ih := splitL_len c l
    unfold splitL at hp
    split at hp
    · rcases List.mem_cons.1 hp with rfl | h
      · simp
      · have := ih p h; simp; omega
    · rw [splitL_ne] at ih
      generalize (splitL c l).headD [] = hd at *
      generalize (splitL c l).tail = tl at *
      rcases List.mem_cons.1 hp with rfl | h
      · have := ih _ (List.mem_cons_self ..); rw [List.length_cons, List.length_cons]; omega
      · have := ih p (List.mem_cons_of_mem _ h); rw [List.length_cons]; omega

def ItemsPost (w : World) (l : List UInt8) (e : Ending) (w' : World) : Prop :=
  ∃ v : Value, e = .returned (.tuple #[v, .bool (itemsP l).isSome]) ∧ w'.ownsRow w.heap.size 55 3 v ((itemsP l).getD []).length (icells ((itemsP l).getD [])) ∧ Below w.heap.size w w'
theorem items_bad {w w' : World} {l : List UInt8} (hn : itemsP l = none) (hb : Below w.heap.size w w') : ItemsPost w l (.returned (.tuple #[.slice none 0 0, .bool false])) w' := by
  unfold ItemsPost; rw [hn]; exact ⟨_, rfl, World.ownsRow_nil _ _ _ _, hb⟩
theorem items_good {w w' : World} {l : List UInt8} {is : List Itm} {v : Value} (hn : itemsP l = some is) (ho : w'.ownsRow w.heap.size 55 3 v is.length (icells is)) (hb : Below w.heap.size w w') : ItemsPost w l (.returned (.tuple #[v, .bool true])) w' := by
  unfold ItemsPost; rw [hn]; exact ⟨_, rfl, ho, hb⟩
theorem own_mono {w : World} {b b' : Nat} {e : TypeId} {size n : Nat} {v : Value} {xs : List Value} (h : w.ownsRow b e size v n xs) (hb : b' ≤ b) : w.ownsRow b' e size v n xs := by
  refine ⟨h.1, ?_⟩
  rcases h.2 with hn | ⟨g, cap, cur, h1, h2, h3⟩
  · exact .inl hn
  · exact .inr ⟨g, cap, cur, h1, Nat.le_trans hb h2, h3⟩
theorem infoItm : (Tryz.prog.info? 55).map (fun i => (i.zero, i.size, i.bytes)) = some (some (.agg #[.int .i64 0, .int .i64 0, .int .i64 0]), 3, 24) := by kernel_rfl
theorem cell_three_at (w : World) (a b c : Value) (t : TypeId) {k : Nat} (hk : w.heap.size = k) : ∀ (j : Nat) (u : Value), [a, b, c][j]? = some u → (w.alloc (.cells #[a, b, c] t)).cell? ((⟨k, 0, none⟩ : Addr).add j) = some u := by
  subst hk
  intro j u hu
  match j, hu with
  | 0, hu => obtain rfl : a = u := by simpa using hu
             exact cell_of_row _ _ 0 #[a, b, c] t (0, 0) (heap_alloc_new w _)
  | 1, hu => obtain rfl : b = u := by simpa using hu
             exact cell_of_row _ _ 1 #[a, b, c] t (0, 0) (heap_alloc_new w _)
  | 2, hu => obtain rfl : c = u := by simpa using hu
             exact cell_of_row _ _ 2 #[a, b, c] t (0, 0) (heap_alloc_new w _)
  | j + 3, hu => simp at hu

set_option maxHeartbeats 400000 in
theorem parseItems_empty (s : ByteArray) (w : World) (h : s.size = 0) :
    Calls Tryz.prog 22 #[.string s] w (ItemsPost w s.data.toList) := by
  have ht := toList_nil h
  have hP : ItemsPost w s.data.toList (.returned (.tuple #[.slice none 0 0, .bool true])) w :=
    items_good (is := []) (by unfold itemsP; rw [if_pos (by rw [← toList_data]; exact ht)]) (World.ownsRow_nil _ _ _ _) (Below.refl _ _)
  clear h
  go_enter Tryz.func22, Tryz.ntmps22
  go_wp2_with fail
  go_ret2
  exact hP

set_option maxHeartbeats 2000000 in
set_option maxRecDepth 100000 in
theorem parseItems_rest (s : ByteArray) (w : World) (g : Glob w) (hs : s.size < 4294967281) (h : ¬ s.size = 0) :
    Calls Tryz.prog 22 #[.string s] w (ItemsPost w s.data.toList) := by
  obtain ⟨ht, ht'⟩ := toList_cons h
  obtain ⟨m, hmx⟩ := g.mx
  have hS := Tryz.strings_Split s ⟨#[44]⟩ m w hs hmx (by decide)
  have hdata := splitB_all_data 44 s
  have hplen : (Lib.splitB ⟨#[44]⟩ 0 (Lib.countB s ⟨#[44]⟩) s).length = Lib.countB s ⟨#[44]⟩ + 1 := Lib.splitB_all ⟨#[44]⟩ (by decide) 0 _ s rfl
  have hcle : Lib.countB s ⟨#[44]⟩ ≤ s.size := Lib.countB_le ⟨#[44]⟩ (by decide) _ s (Nat.le_refl _)
  generalize Lib.splitB ⟨#[44]⟩ 0 (Lib.countB s ⟨#[44]⟩) s = ps at *
  generalize Lib.countB s ⟨#[44]⟩ = n at *
  have hpsz : ∀ p ∈ ps, p.size < 4294967281 := by
    intro p hp
    have := splitL_len 44 s.data.toList p.data.toList (by rw [← hdata]; exact List.mem_map_of_mem hp)
    rw [size_len, size_len] at this
    omega
  have hstart : totI [] (ps.map (·.data.toList)) = itemsP s.data.toList := by
    unfold totI itemsP
    rw [if_neg (by rw [← toList_data]; exact ht'), hdata]; simp
  have Hst := Lib.hid hstart
  have Hdata := Lib.hid hdata
  have Hplen := Lib.hid hplen
  obtain ⟨i0, hi, hz0, hz1, hz2⟩ := info_parts infoItm
  have Hi := Lib.hid hi
  obtain ⟨C, hC⟩ : ∃ C, (ps.map Value.string).toArray = C := ⟨_, rfl⟩
  have hCs : C.size = n + 1 := by rw [← hC]; simp [hplen]
  have hCat : ∀ k (hk : k < ps.length), C[k]? = some (.string ps[k]) := by intro k hk; rw [← hC]; simp [hk]
  rw [hC] at hS
  have HCat := Lib.hid hCat
  clear hstart hdata hplen hi hC hmx hCs hCat
  go_enter Tryz.func22, Tryz.ntmps22
  go_wp2_with fail
  refine hS.mono ?_
  rintro e w' ⟨rfl, rfl⟩
  go_wp2_with fail
  clear hS
  go_loopw [4, 14] (fun v i wr => ∃ (k : Nat) (acc : List Itm), k ≤ n + 1 ∧ i = .int .i64 k ∧ acc.length = k ∧ wr.ownsRow (w.heap.size + 1) 55 3 v acc.length (icells acc) ∧ Below (w.heap.size + 1) (w.alloc (.cells C 9)) wr ∧ totI acc ((ps.map (·.data.toList)).drop k) = itemsP s.data.toList) (fun _ i _ => n + 1 - (intOf i).toNat)
  case atStart => exact ⟨0, [], Nat.zero_le _, rfl, rfl, World.ownsRow_nil _ _ _ _, Below.refl _ _, Hst.out⟩
  case round =>
    obtain ⟨k, acc, hk, rfl, hacc, hown, hbw, htot⟩ := hrel
    have Hacc := Lib.hid hacc; clear hacc
    have Htot := Lib.hid htot; clear htot
    have hlen : ps.length ≤ n + 1 ∧ n + 1 ≤ ps.length := by rw [Hplen.out]; omega
    by_cases hlt : k < n + 1
    · have hkp : k < ps.length := by omega
      have hcell : wr.cell? ⟨w.heap.size, k, none⟩ = some (.string ps[k]) := by
        rw [hbw.cell (p := ⟨w.heap.size, k, none⟩) (Nat.lt_succ_self _), cell_of_row _ _ _ _ _ _ (heap_alloc_new w _)]
        exact HCat.out k hkp
      have hdrop : (ps.map (·.data.toList)).drop k = ps[k].data.toList :: (ps.map (·.data.toList)).drop (k + 1) := by
        rw [List.drop_eq_getElem_cons (by simpa using hkp)]; simp
      have hpk := hpsz ps[k] (List.getElem_mem hkp)
      have htot2 : totI acc (ps[k].data.toList :: (ps.map (·.data.toList)).drop (k + 1)) = itemsP s.data.toList := by rw [← hdrop]; exact Htot.out
      have hI := fun w g => parseItem_any ps[k] w g hpk
      generalize ps[k] = p at *
      clear hdrop
      have gw : Glob wr := (g.next ((Below.refl _ _).alloc (Nat.le_refl _) _)).below hbw (by have := g.sz; omega)
      rcases hit : itmP p.data.toList with ⟨⟨a, b, c⟩, ok⟩
      rw [hit] at hI
      simp only at hI
      have hal : acc.length ≤ n + 1 := by rw [Hacc.out]; exact hk
      have hwz : w.heap.size + 1 ≤ wr.heap.size := by have := hbw.size; simp at this; exact this
      cases ok with
      | false =>
        have Hbad := Lib.hid (show itemsP s.data.toList = none by rw [← htot2]; exact totI_bad hit)
        clear htot2 hit hown
        go_wp2_with fail
        refine (hI _ gw).mono ?_
        rintro e w1 ⟨rfl, hb1⟩
        go_wp2_with fail
        go_ret2
        exact items_bad Hbad.out ((((Below.refl _ w).alloc (Nat.le_refl _) _).trans (hbw.mono (Nat.le_succ _))).trans ((hb1.mono (by omega)).trans ((Below.refl _ w1).alloc (by have := hb1.size; omega) _)))
      | true =>
        have Hnx := Lib.hid (show totI (acc ++ [(a, b, c)]) ((ps.map (·.data.toList)).drop (k + 1)) = itemsP s.data.toList by rw [← htot2]; exact (totI_next hit).symm)
        clear htot2 hit
        have Hown := Lib.hid hown; clear hown
        go_wp2_with fail
        refine (hI _ gw).mono ?_
        rintro e w1 ⟨rfl, hb1⟩
        have hwz1 : w.heap.size + 1 ≤ w1.heap.size := Nat.le_trans hwz hb1.size
        have Hown2 := Lib.hid ((own_below Hown.out hb1).alloc (.cells #[.int .i64 a, .int .i64 b, .int .i64 c] 55) |>.alloc (.cells #[.int .i64 a, .int .i64 b, .int .i64 c] 55))
        go_wp2_with (at_builtin; refine wpList_append_own _ rfl _ _ 51 rfl (w.heap.size + 1) 55 i0 (.agg #[.int .i64 0, .int .i64 0, .int .i64 0]) 3 24 Tryz.underlying51 Hi.out hz0 hz1 hz2 rfl (by decide) _ _ _ rfl Hown2.out ⟨w1.heap.size + 1, 0, none⟩ 1 1 [.int .i64 a, .int .i64 b, .int .i64 c] rfl rfl ?c1 ?c2 ?c3 ?c4 ?c5 ?_)
        case c1 => exact cell_three_at _ _ _ _ _ (by simp)
        case c2 => simp [Value.oneCell']
        case c3 => unfold maxLen; omega
        case c4 => omega
        case c5 => simp; omega
        intro v' w3 hown3 hgrow _
        have hb3 : Below (w.heap.size + 1) (w.alloc (.cells C 9)) w3 := by
          refine Below.grown ((((hbw.trans (hb1.mono hwz)).alloc hwz1 _).alloc (by simp; omega) _)) hgrow (by simp; omega) ?_
          intro k' e'
          exact (Hown2.out.lt k' e').1
        have hown4 : w3.ownsRow (w.heap.size + 1) 55 3 v' (acc ++ [(a, b, c)]).length (icells (acc ++ [(a, b, c)])) := by
          rw [icells_app, List.length_append]; exact hown3
        have Hown4 := Lib.hid hown4
        clear hown3 hown4 hgrow
        go_wp2_with fail
        go_roundw
        case rel => exact ⟨k + 1, acc ++ [(a, b, c)], by omega, by go_num, by simp [Hacc.out], Hown4.out, hb3, Hnx.out⟩
        case measure => simp [intOf]; omega
    · have hfin : itemsP s.data.toList = some acc := by
        rw [← Htot.out, List.drop_of_length_le (by simp; omega), totI_nil]
      have Hfin := Lib.hid hfin; clear hfin
      have Hown := Lib.hid hown; clear hown
      go_wp2_with fail
      go_ret2
      exact items_good Hfin.out (own_mono Hown.out (Nat.le_succ _)) (((Below.refl _ w).alloc (Nat.le_refl _) _).trans (hbw.mono (Nat.le_succ _)))

theorem parseItems_any (s : ByteArray) (w : World) (g : Glob w) (hs : s.size < 4294967281) :
    Calls Tryz.prog 22 #[.string s] w (ItemsPost w s.data.toList) := by
  by_cases h : s.size = 0
  · exact parseItems_empty s w h
  · exact parseItems_rest s w g hs h
end Go.Proofs.YtkbmdmipdcjjcaaGreatDoor
