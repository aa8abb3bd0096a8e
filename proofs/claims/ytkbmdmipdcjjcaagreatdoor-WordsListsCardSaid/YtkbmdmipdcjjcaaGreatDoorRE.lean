/- The reference's ParseList. -/
import Derived.Test.YtkbmdmipdcjjcaaGreatDoorRC
import Derived.Deep.RegionHeld3
namespace Go.Proofs.YtkbmdmipdcjjcaaGreatDoor
open Go.RowKit

def rcells (l : List RItm) : List Value := l.flatMap fun x => [.string ⟨x.1.toArray⟩, .string ⟨x.2.1.toArray⟩, .string ⟨x.2.2.toArray⟩]
theorem rcells_length (l : List RItm) : (rcells l).length = l.length * 3 := by
  induction l with
  | nil => rfl
  | cons a l ih => simp only [rcells, List.flatMap_cons, List.length_append, List.length_cons, List.length_nil] at ih ⊢; omega
theorem rcells_app (a b : List RItm) : rcells (a ++ b) = rcells a ++ rcells b := by simp [rcells]
theorem rcells_at (l : List RItm) {k : Nat} (hk : k < l.length) : (rcells l)[k * 3]? = some (.string ⟨l[k].1.toArray⟩) ∧ (rcells l)[k * 3 + 1]? = some (.string ⟨l[k].2.1.toArray⟩) ∧ (rcells l)[k * 3 + 2]? = some (.string ⟨l[k].2.2.toArray⟩) := by
  have hc : ∀ t, t < 3 → (rcells l)[k * 3 + t]? = [Value.string ⟨l[k].1.toArray⟩, .string ⟨l[k].2.1.toArray⟩, .string ⟨l[k].2.2.toArray⟩][t]? := by
    intro t ht
    conv => lhs; rw [← List.take_append_drop k l]
    rw [rcells_app]
    have hl : (rcells (l.take k)).length = k * 3 := by rw [rcells_length]; simp; omega
    rw [List.getElem?_append_right (by omega), hl, show k * 3 + t - k * 3 = t by omega, List.drop_eq_getElem_cons hk]
    simp only [rcells, List.flatMap_cons]
    rw [List.getElem?_append_left (by simp; omega)]
  exact ⟨hc 0 (by omega), hc 1 (by omega), hc 2 (by omega)⟩
theorem infoRItm : (Tryz.prog.info? 59).map (fun i => (i.zero, i.size, i.bytes)) = some (some (.agg #[.string ⟨#[]⟩, .string ⟨#[]⟩, .string ⟨#[]⟩]), 3, 48) := by kernel_rfl
theorem rcell_items {w : World} {b g n cap : Nat} {l : List RItm} (h : w.ownsRow b 59 3 (.slice (some ⟨g, 0, none⟩) n cap) n (rcells l)) {k : Nat} (hk : k < l.length) (hn : n = l.length) :
    w.cell? ⟨g, k * 3, none⟩ = some (.string ⟨l[k].1.toArray⟩) ∧ w.cell? ⟨g, k * 3 + 1, none⟩ = some (.string ⟨l[k].2.1.toArray⟩) ∧ w.cell? ⟨g, k * 3 + 2, none⟩ = some (.string ⟨l[k].2.2.toArray⟩) := by
  obtain ⟨c0, c1, c2⟩ := rcells_at l hk
  refine ⟨?_, ?_, ?_⟩
  · rw [h.cellAt (k * 3) (by omega)]; exact c0
  · rw [h.cellAt (k * 3 + 1) (by omega)]; exact c1
  · rw [h.cellAt (k * 3 + 2) (by omega)]; exact c2
def PL (l : List UInt8) (ps : List (List UInt8)) (f k : Nat) : Prop :=
  (k ≤ l.length → splitL 44 l = ps ++ splitL 44 (l.drop f) ∧ ∀ x ∈ midL l f k, x ≠ 44) ∧ (k = l.length + 1 → splitL 44 l = ps)
def SZ (acc : List RItm) (N : Nat) : Prop := ∀ x ∈ acc, x.1.length ≤ N ∧ x.2.1.length ≤ N ∧ x.2.2.length ≤ N
theorem SZ.snoc {acc : List RItm} {N : Nat} (h : SZ acc N) {x : RItm} (hx : x.1.length ≤ N ∧ x.2.1.length ≤ N ∧ x.2.2.length ≤ N) : SZ (acc ++ [x]) N := by
  intro y hy
  rcases List.mem_append.1 hy with hy | hy
  · exact h y hy
  · rw [List.mem_singleton.1 hy]; exact hx
theorem rd_len {l n m t : List UInt8} {ok : Bool} (h : RD l n m t ok) : n.length ≤ l.length + 1 ∧ m.length ≤ l.length + 1 ∧ t.length ≤ l.length + 1 := by
  rcases h with ⟨a, b, hl, _, h1, h2, h3, _⟩ | ⟨a, b, hl, _, h1, h2, h3, _⟩ | ⟨_, h1, h2, h3, _⟩
  · rw [h1, h2, h3, hl]; simp; omega
  · rw [h1, h2, h3, hl]; simp; omega
  · rw [h1, h2, h3]; simp
theorem pl_here {s : ByteArray} {ps : List (List UInt8)} {f k : Nat} (h : PL s.data.toList ps f k) (hf : f ≤ k) (hk : k < s.size) (hc : s[k] = 44) :
    PL s.data.toList (ps ++ [midL s.data.toList f k]) (k + 1) (k + 1) ∧ splitL 44 s.data.toList = ps ++ midL s.data.toList f k :: splitL 44 (s.data.toList.drop (k + 1)) := by
  obtain ⟨h1, h2⟩ := h.1 (by rw [size_len]; omega)
  have hcut := mid_cut s f k hf hk
  rw [hc] at hcut
  have h3 : splitL 44 s.data.toList = ps ++ midL s.data.toList f k :: splitL 44 (s.data.toList.drop (k + 1)) := by rw [h1, hcut, split_piece 44 _ _ h2]
  refine ⟨⟨fun _ => ⟨by rw [h3]; simp, by simp [midL]⟩, fun e => by rw [size_len] at e; omega⟩, h3⟩
theorem pl_next {s : ByteArray} {ps : List (List UInt8)} {f k : Nat} (h : PL s.data.toList ps f k) (hf : f ≤ k) (hk : k < s.size) (hc : s[k] ≠ 44) : PL s.data.toList ps f (k + 1) := by
  obtain ⟨h1, h2⟩ := h.1 (by rw [size_len]; omega)
  refine ⟨fun _ => ⟨h1, ?_⟩, fun e => by rw [size_len] at e; omega⟩
  rw [mid_snoc s f k hf hk]
  intro x hx
  rcases List.mem_append.1 hx with hx | hx
  · exact h2 x hx
  · rw [List.mem_singleton.1 hx]; exact hc
theorem pl_end {s : ByteArray} {ps : List (List UInt8)} {f k : Nat} (h : PL s.data.toList ps f k) (hk : k = s.size) :
    PL s.data.toList (ps ++ [midL s.data.toList f k]) (k + 1) (k + 1) ∧ splitL 44 s.data.toList = ps ++ midL s.data.toList f k :: [] := by
  obtain ⟨h1, h2⟩ := h.1 (by rw [size_len]; omega)
  have hmf : midL s.data.toList f k = s.data.toList.drop f := by unfold midL; rw [List.take_of_length_le (by rw [size_len]; omega)]
  have h3 : splitL 44 s.data.toList = ps ++ midL s.data.toList f k :: [] := by rw [h1, ← hmf, split_none 44 _ h2]
  exact ⟨⟨fun e => by rw [size_len] at e; omega, fun _ => by rw [h3]⟩, h3⟩
theorem rpar_form {l p : List UInt8} {ps r : List (List UInt8)} {acc : List RItm} {n m t : List UInt8} (hl : l.length ≤ 2500) (h0 : l ≠ []) (hs : splitL 44 l = ps ++ p :: r) (ha : rdAll ps acc) (hp : RD p n m t false) : parP l = ([], 6) := by
  rw [parP_short hl, items_split h0, hs, rdAll_bad hp ha]; rfl

/-- So many times the list. -/
def repN (t : Nat) (R : List Int) : List Int := (List.replicate t R).flatten
theorem repN_succ (t : Nat) (R : List Int) : repN (t + 1) R = repN t R ++ R := by
  unfold repN; rw [List.replicate_succ']; simp
theorem repN_len (t : Nat) (R : List Int) : (repN t R).length = t * R.length := by
  induction t with
  | zero => simp [repN]
  | succ t ih => rw [repN_succ, List.length_append, ih, Nat.succ_mul]
theorem repN_one (a : Nat) (z : Int) : repN a [z] = List.replicate a z := by
  induction a with
  | zero => rfl
  | succ a ih => rw [repN_succ, ih, List.replicate_succ']
theorem rep_run (a b c : Nat) (h : a = 1 ∨ b = c) : repN a (runN 1 (c - b + 1) b) = runN a (c - b + 1) b := by
  rcases h with h | h
  · subst h
    rw [show (1 : Nat) = 0 + 1 from rfl, repN_succ]; rfl
  · subst h
    rw [Nat.sub_self, Nat.zero_add, run_same, run_same]
    exact repN_one a b
theorem int_num {l : List UInt8} (h : numB l = true) (lo hi : Int) (h0 : 0 ≤ lo) (h1 : lo ≤ hi) (h9 : hi ≤ 9999) : intP l lo hi = if lo ≤ (numV l : Int) ∧ (numV l : Int) ≤ hi then ((numV l : Int), 0) else (0, 7) := by
  unfold intP
  rw [if_neg (by omega), if_neg (by
    rw [trim_num h]
    rintro (e | e)
    · rw [h] at e; cases e
    · exact num_not_neg0 h e)]
  obtain ⟨p1, p2⟩ := parse_num h
  by_cases hb : numV l ≤ 9223372036854775807
  · rw [p1 hb]
    simp only
    by_cases hx : lo ≤ (numV l : Int) ∧ (numV l : Int) ≤ hi
    · rw [if_pos hx, if_neg (by omega)]
    · rw [if_neg hx, if_pos (by omega)]
  · rw [p2 (by omega), if_neg (by omega)]
theorem own_shape {w : World} {B : Nat} {e : TypeId} {size n : Nat} {v : Value} {xs : List Value} (h : w.ownsRow B e size v n xs) : ∃ (a : Option Addr) (c : Nat), v = .slice a n c := by
  rcases h.2 with ⟨rfl, h0⟩ | ⟨g, cap, cur, rfl, _⟩
  · exact ⟨none, 0, by rw [h0]⟩
  · exact ⟨_, cap, rfl⟩
theorem below_wide {B : Nat} {w w' : World} (h : Below w.heap.size w w') (hb : B ≤ w.heap.size) : Below B w w' := h.mono hb
theorem par_fin {w w' : World} {l : List UInt8} {zs : List Int} {v : Value} (h : parP l = (zs, 0)) (ho : w'.ownsRow w.heap.size 3 1 v zs.length (zs.map (Value.int .i64))) (hb : Below w.heap.size w w') : ParPost w l (.returned (.tuple #[v, .int .i64 0])) w' := by
  unfold ParPost; rw [h]; exact ⟨v, rfl, ho, hb⟩

set_option maxHeartbeats 4000000 in
set_option maxRecDepth 100000 in
theorem refPar_main (s : ByteArray) (w : World) (hs : s.size ≤ 2500) (h0 : s.size ≠ 0) :
    Calls Tryz.prog 10 #[.string s] w (ParPost w s.data.toList) := by
  have hne : s.data.toList ≠ [] := by intro e; rw [← size_len, e] at h0; exact h0 rfl
  have hl25 : s.data.toList.length ≤ 2500 := by rw [size_len]; exact hs
  have h0' : (0 : Int) < (s.size : Int) := by omega
  obtain ⟨i0, hi, hz0, hz1, hz2⟩ := info_parts infoRItm
  have Hi := Lib.hid hi
  obtain ⟨j0, hj, jz0, jz1, jz2⟩ := info_parts infoInt
  have Hj := Lib.hid hj
  have Hne := Lib.hid hne
  have Hl25 := Lib.hid hl25
  clear hi hj hne hl25
  go_enter Tryz.func10, Tryz.ntmps10
  go_wp2_with fail
  go_loopw [4, 5, 6] (fun vo fr i wr => ∃ (k f : Nat) (acc : List RItm) (ps : List (List UInt8)), k ≤ s.size + 1 ∧ f ≤ k ∧ i = .int .i64 k ∧ fr = .int .i64 f ∧ acc.length ≤ k ∧ wr.ownsRow w.heap.size 59 3 vo acc.length (rcells acc) ∧ Below w.heap.size w wr ∧ rdAll ps acc ∧ PL s.data.toList ps f k ∧ SZ acc (s.size + 1)) (fun _ _ i _ => s.size + 1 - (intOf i).toNat)
  case atStart => exact ⟨0, 0, [], [], by omega, by omega, rfl, rfl, by simp, World.ownsRow_nil _ _ _ _, Below.refl _ _, trivial, ⟨fun _ => ⟨by simp, by simp [midL]⟩, fun e => by omega⟩, fun x hx => by simp at hx⟩
  case round =>
    obtain ⟨k, f, acc, ps, hk, hfk, rfl, rfl, hak, hown, hbr, hall, hpl, hsz⟩ := hrel
    have Hown := Lib.hid hown
    have Hall := Lib.hid hall
    have Hpl := Lib.hid hpl
    have Hsz := Lib.hid hsz
    clear hown hall hpl hsz
    have hbz := hbr.size
    by_cases hlt : k ≤ s.size
    · have hread := read_any (s.extract f k) wr (by rw [ByteArray.size_extract]; unfold maxLen; omega)
      have hmid : (s.extract f k).data.toList = midL s.data.toList f k := by rw [mid_ext]
      have hml : (midL s.data.toList f k).length ≤ s.size := by unfold midL; simp; omega
      have Hread := Lib.hid hread
      have Hmid := Lib.hid hmid
      have Hml := Lib.hid hml
      clear hread hmid hml
      have n0 : (0 : Int) ≤ (f : Int) := by omega
      have n1 : (f : Int) ≤ (k : Int) := by omega
      have n2 : (k : Int) ≤ (s.size : Int) := by omega
      by_cases hk2 : k < s.size
      · have n3 : (k : Int) < (s.size : Int) := by omega
        by_cases hq : ((s[k]'hk2).toNat : Int) = 44
        · have q1 : (((s[k]'hk2).toNat : Int) != 44) = false := by simpa using hq
          have hc : s[k]'hk2 = 44 := byteI (by decide) hq
          obtain ⟨hp2, hs3⟩ := pl_here Hpl.out hfk hk2 hc
          have Hp2 := Lib.hid hp2
          have Hs3 := Lib.hid hs3
          clear hp2 hs3 hc hq
          go_wp2_with fail
          refine Hread.out.mono ?_
          rintro e w1 ⟨n, m, t, ok, rfl, hrd, hb1⟩
          rw [Hmid.out] at hrd
          have hln := rd_len hrd
          cases ok with
          | false =>
            have Hbad := Lib.hid (rpar_form Hl25.out Hne.out Hs3.out Hall.out hrd)
            clear hrd hln
            go_wp2_with fail
            go_ret2
            exact par_err Hbad.out ((hbr.trans (hb1.mono hbz)).alloc (Nat.le_trans hbz hb1.size) _)
          | true =>
            have hnn : rdOk (midL s.data.toList f k) (n.data.toList, m.data.toList, t.data.toList) := hrd
            have Hnx := Lib.hid (rdAll_snoc hnn Hall.out)
            have Hz2 := Lib.hid (Hsz.out.snoc (x := (n.data.toList, m.data.toList, t.data.toList)) (by have := Hml.out; simp only at hln ⊢; omega))
            clear hrd hln hnn
            have hwz1 : w.heap.size ≤ w1.heap.size := Nat.le_trans hbz hb1.size
            have Hown2 := Lib.hid ((own_below Hown.out hb1).alloc (.cells #[.string n, .string m, .string t] 59) |>.alloc (.cells #[.string n, .string m, .string t] 59))
            go_wp2_with (at_builtin; refine wpList_append_own _ rfl _ _ 57 rfl w.heap.size 59 i0 (.agg #[.string ⟨#[]⟩, .string ⟨#[]⟩, .string ⟨#[]⟩]) 3 48 Tryz.underlying57 Hi.out hz0 hz1 hz2 rfl (by decide) _ _ _ rfl Hown2.out ⟨w1.heap.size + 1, 0, none⟩ 1 1 [.string n, .string m, .string t] rfl rfl ?y1 ?y2 ?y3 ?y4 ?y5 ?_)
            case y1 => exact cell_three_at _ _ _ _ _ (by simp)
            case y2 => simp [Value.oneCell']
            case y3 => unfold maxLen; omega
            case y4 => omega
            case y5 => simp; omega
            intro v' w3 hown3 hgrow _
            have hb3 : Below w.heap.size w w3 := by
              refine Below.grown ((((hbr.trans (hb1.mono hbz)).alloc hwz1 _).alloc (by simp; omega) _)) hgrow (by simp; omega) ?_
              intro k' e'
              exact (Hown2.out.lt k' e').1
            have hown4 : w3.ownsRow w.heap.size 59 3 v' (acc ++ [(n.data.toList, m.data.toList, t.data.toList)]).length (rcells (acc ++ [(n.data.toList, m.data.toList, t.data.toList)])) := by
              rw [rcells_app, List.length_append]; exact hown3
            have Hown4 := Lib.hid hown4
            clear hown3 hown4 hgrow
            go_wp2_with fail
            go_roundw
            case rel => exact ⟨k + 1, k + 1, acc ++ [(n.data.toList, m.data.toList, t.data.toList)], ps ++ [midL s.data.toList f k], by omega, by omega, by go_num, by go_num, by simp; omega, Hown4.out, hb3, Hnx.out, Hp2.out, Hz2.out⟩
            case measure => simp [intOf]; omega
        · have q1 : (((s[k]'hk2).toNat : Int) != 44) = true := by simpa using hq
          have Hp2 := Lib.hid (pl_next Hpl.out hfk hk2 (fun e => hq (by rw [e]; rfl)))
          clear hq
          go_wp2_with fail
          go_roundw
          case rel => exact ⟨k + 1, f, acc, ps, by omega, by omega, by go_num, rfl, by omega, Hown.out, hbr, Hall.out, Hp2.out, Hsz.out⟩
          case measure => simp [intOf]; omega
      · have hke : k = s.size := by omega
        have n3 : ¬ (k : Int) < (s.size : Int) := by omega
        obtain ⟨hp2, hs3⟩ := pl_end Hpl.out hke
        have Hp2 := Lib.hid hp2
        have Hs3 := Lib.hid hs3
        clear hp2 hs3 hke
        go_wp2_with fail
        refine Hread.out.mono ?_
        rintro e w1 ⟨n, m, t, ok, rfl, hrd, hb1⟩
        rw [Hmid.out] at hrd
        have hln := rd_len hrd
        cases ok with
        | false =>
          have Hbad := Lib.hid (rpar_form Hl25.out Hne.out Hs3.out Hall.out hrd)
          clear hrd hln
          go_wp2_with fail
          go_ret2
          exact par_err Hbad.out ((hbr.trans (hb1.mono hbz)).alloc (Nat.le_trans hbz hb1.size) _)
        | true =>
          have hnn : rdOk (midL s.data.toList f k) (n.data.toList, m.data.toList, t.data.toList) := hrd
          have Hnx := Lib.hid (rdAll_snoc hnn Hall.out)
          have Hz2 := Lib.hid (Hsz.out.snoc (x := (n.data.toList, m.data.toList, t.data.toList)) (by have := Hml.out; simp only at hln ⊢; omega))
          clear hrd hln hnn
          have hwz1 : w.heap.size ≤ w1.heap.size := Nat.le_trans hbz hb1.size
          have Hown2 := Lib.hid ((own_below Hown.out hb1).alloc (.cells #[.string n, .string m, .string t] 59) |>.alloc (.cells #[.string n, .string m, .string t] 59))
          go_wp2_with (at_builtin; refine wpList_append_own _ rfl _ _ 57 rfl w.heap.size 59 i0 (.agg #[.string ⟨#[]⟩, .string ⟨#[]⟩, .string ⟨#[]⟩]) 3 48 Tryz.underlying57 Hi.out hz0 hz1 hz2 rfl (by decide) _ _ _ rfl Hown2.out ⟨w1.heap.size + 1, 0, none⟩ 1 1 [.string n, .string m, .string t] rfl rfl ?x1 ?x2 ?x3 ?x4 ?x5 ?_)
          case x1 => exact cell_three_at _ _ _ _ _ (by simp)
          case x2 => simp [Value.oneCell']
          case x3 => unfold maxLen; omega
          case x4 => omega
          case x5 => simp; omega
          intro v' w3 hown3 hgrow _
          have hb3 : Below w.heap.size w w3 := by
            refine Below.grown ((((hbr.trans (hb1.mono hbz)).alloc hwz1 _).alloc (by simp; omega) _)) hgrow (by simp; omega) ?_
            intro k' e'
            exact (Hown2.out.lt k' e').1
          have hown4 : w3.ownsRow w.heap.size 59 3 v' (acc ++ [(n.data.toList, m.data.toList, t.data.toList)]).length (rcells (acc ++ [(n.data.toList, m.data.toList, t.data.toList)])) := by
            rw [rcells_app, List.length_append]; exact hown3
          have Hown4 := Lib.hid hown4
          clear hown3 hown4 hgrow
          go_wp2_with fail
          go_roundw
          case rel => exact ⟨k + 1, k + 1, acc ++ [(n.data.toList, m.data.toList, t.data.toList)], ps ++ [midL s.data.toList f k], by omega, by omega, by go_num, by go_num, by simp; omega, Hown4.out, hb3, Hnx.out, Hp2.out, Hz2.out⟩
          case measure => simp [intOf]; omega
    · have n3 : ¬ (k : Int) ≤ (s.size : Int) := by omega
      have hsp := Hpl.out.2 (by rw [size_len]; omega)
      obtain ⟨hgo, hrg⟩ := rdAll_go Hall.out
      have hit : itemsP s.data.toList = some (acc.map fun x => toI (rN x)) := by rw [items_split Hne.out, hsp, hgo]
      have hap : 0 < acc.length := by
        rcases Nat.eq_zero_or_pos acc.length with h | h
        · exfalso
          have e0 : acc = [] := List.eq_nil_of_length_eq_zero h
          have ha := Hall.out
          rw [e0, ← hsp] at ha
          cases hs0 : splitL 44 s.data.toList with
          | nil => exact splitL_head 44 _ hs0
          | cons a r => rw [hs0] at ha; exact ha.elim
        · exact h
      have hown := Hown.out
      rcases hown.2 with ⟨rfl, hz⟩ | ⟨gg, cap, cur, rfl, hgb, hgg, _⟩
      · omega
      · have hglt := (hown.lt gg rfl).2
        have Hit := Lib.hid hit
        have Hrg := Lib.hid hrg
        clear hsp hgo hit hrg hown hgg Hall Hpl
        go_wp2_with fail
        have hD : ∀ w, Calls Tryz.prog 26 #[.int .i64 9999] w fun e w' => e = .returned (.string ⟨#[57, 57, 57, 57]⟩) ∧ Below w.heap.size w w' := fun w => by
          have h := refDigits_any 9999 w (by decide) (by decide)
          rw [show Lib.itoa 9999 = [57, 57, 57, 57] by decide +kernel] at h
          exact h
        have HD := Lib.hid hD
        clear hD
        go_loopw [9] (fun i wx => ∃ q : Nat, q ≤ acc.length ∧ i = .int .i64 q ∧ (∀ j (hj : j < acc.length), j < q → numV acc[j].2.1 ≤ 9999) ∧ Below wr.heap.size wr wx) (fun i _ => acc.length - (intOf i).toNat)
        case atStart => exact ⟨0, Nat.zero_le _, rfl, fun j hj h => absurd h (Nat.not_lt_zero _), Below.refl _ _⟩
        case round =>
          obtain ⟨q, hq, rfl, hle, hbx⟩ := hrel
          rename World => wx
          have Hle := Lib.hid hle
          clear hle
          by_cases hql : q < acc.length
          · obtain ⟨c0, c1, c2⟩ := rcell_items Hown.out hql rfl
            have c1' := (hbx.cell (p := ⟨gg, q * 3 + 1, none⟩) hglt).trans c1
            have hg := Hrg.out acc[q] (List.getElem_mem hql)
            have hz := Hsz.out acc[q] (List.getElem_mem hql)
            have hL := fun w => refLess_any ⟨#[57, 57, 57, 57]⟩ ⟨acc[q].2.1.toArray⟩ w
            simp only [nine_less hg.2.1] at hL
            have q0 : (0 : Int) ≤ (q : Int) := by omega
            have q1 : (q : Int) < (acc.length : Int) := by omega
            have hgx : gg < wx.heap.size := Nat.lt_of_lt_of_le hglt hbx.size
            have hmem : acc[q] ∈ acc := List.getElem_mem hql
            have Hmem := Lib.hid hmem
            have hbig : 9999 < numV acc[q].2.1 → parP s.data.toList = ([], 7) := fun h => rpar_big Hl25.out Hit.out ⟨acc[q], Hmem.out, h⟩
            have hsml : ¬ 9999 < numV acc[q].2.1 → ∀ j (hj : j < acc.length), j < q + 1 → numV acc[j].2.1 ≤ 9999 := fun h j hj hjq => by
              by_cases e : j = q
              · subst e; omega
              · exact Hle.out j hj (by omega)
            have Hbig := Lib.hid hbig
            have Hsml := Lib.hid hsml
            obtain ⟨M, hM⟩ : ∃ M, (⟨acc[q].2.1.toArray⟩ : ByteArray) = M := ⟨_, rfl⟩
            rw [hM] at c1' hL
            rw [hM] at c1
            have C1 := Lib.hid c1
            clear hM c0 c1 c2 hg hz hmem hbig hsml
            by_cases hb : 9999 < numV acc[q].2.1
            · have Hb := Lib.hid (Hbig.out hb)
              rw [decide_eq_true hb] at hL
              have HL := Lib.hid hL
              clear hL hb Hbig Hsml
              go_wp2_with fail
              go_region_held3 (fun w' => w'.cell? ⟨gg, q * 3 + 1, none⟩ = some (.string M) ∧ Below wr.heap.size wr w') (first | (go_split_ands; refine ⟨?_, ?_⟩ <;> (first | assumption | (simp only [go_sem]; assumption) | (simp; assumption) | (refine Below.drew ?_; assumption) | (refine below_drewN ?_ _; assumption))) | go_keep)
                (first
                  | (go_at_call 26; refine (HD.out _).mono ?_; rintro e w2 ⟨rfl, hbD⟩
                     have hSB : Below wr.heap.size wr w2 := below_on (by first | assumption | (refine Below.drew ?_; assumption) | (refine below_drewN ?_ _; assumption)) hbD
                     have hSC := (hSB.cell (p := ⟨gg, q * 3 + 1, none⟩) hglt).trans C1.out)
                  | (go_at_call 25; refine (HL.out _).mono ?_; rintro e w' ⟨rfl, rfl⟩))
              clear c1' hSC
              go_wp2_with fail
              go_ret2
              exact par_err Hb.out (hbr.trans (hSB.mono hbz))
            · have Hb := Lib.hid (Hsml.out hb)
              rw [decide_eq_false hb] at hL
              have HL := Lib.hid hL
              clear hL hb Hbig Hsml
              go_wp2_with fail
              go_region_held3 (fun w' => w'.cell? ⟨gg, q * 3 + 1, none⟩ = some (.string M) ∧ Below wr.heap.size wr w') (first | (go_split_ands; refine ⟨?_, ?_⟩ <;> (first | assumption | (simp only [go_sem]; assumption) | (simp; assumption) | (refine Below.drew ?_; assumption) | (refine below_drewN ?_ _; assumption))) | go_keep)
                (first
                  | (go_at_call 26; refine (HD.out _).mono ?_; rintro e w2 ⟨rfl, hbD⟩
                     have hSB : Below wr.heap.size wr w2 := below_on (by first | assumption | (refine Below.drew ?_; assumption) | (refine below_drewN ?_ _; assumption)) hbD
                     have hSC := (hSB.cell (p := ⟨gg, q * 3 + 1, none⟩) hglt).trans C1.out)
                  | (go_at_call 25; refine (HL.out _).mono ?_; rintro e w' ⟨rfl, rfl⟩))
              clear c1' hSC
              go_wp2_with fail
              go_roundw
              case rel => exact ⟨q + 1, by omega, by go_num, Hb.out, hSB⟩
              case measure => simp [intOf]; omega
          · have Hall9 := Lib.hid (show ∀ x ∈ acc, numV x.2.1 ≤ 9999 from fun x hx => by
              obtain ⟨j, hj, rfl⟩ := List.getElem_of_mem hx
              exact Hle.out j hj (by omega))
            clear Hle
            go_wp2_with fail
            have hownx := own_below Hown.out hbx
            have hbX : Below w.heap.size w wx := hbr.trans (hbx.mono hbz)
            have hgx : gg < wx.heap.size := Nat.lt_of_lt_of_le hglt hbx.size
            have HownX := Lib.hid hownx
            have hwx : w.heap.size ≤ wx.heap.size := Nat.le_trans hbz hbx.size
            clear hownx Hown hbx hbr hbz hglt HD
            go_loopw [10, 11] (fun vo i wy => ∃ q : Nat, q ≤ acc.length ∧ i = .int .i64 q ∧ sumN ((acc.take q).map rN) ≤ 500 ∧ wy.ownsRow wx.heap.size 3 1 vo (expN ((acc.take q).map rN)).length ((expN ((acc.take q).map rN)).map (Value.int .i64)) ∧ Below wx.heap.size wx wy) (fun _ i _ => acc.length - (intOf i).toNat)
            case atStart => exact ⟨0, Nat.zero_le _, rfl, Nat.zero_le _, World.ownsRow_nil _ _ _ _, Below.refl _ _⟩
            case round =>
              obtain ⟨q, hq, rfl, hsum, howny, hby⟩ := hrel
              rename World => wy
              have hyz := hby.size
              by_cases hql : q < acc.length
              · obtain ⟨c0, c1, c2⟩ := rcell_items HownX.out hql rfl
                have c0' := (hby.cell (p := ⟨gg, q * 3, none⟩) hgx).trans c0
                have c1' := (hby.cell (p := ⟨gg, q * 3 + 1, none⟩) hgx).trans c1
                have c2' := (hby.cell (p := ⟨gg, q * 3 + 2, none⟩) hgx).trans c2
                have hg := Hrg.out acc[q] (List.getElem_mem hql)
                have h9 := Hall9.out acc[q] (List.getElem_mem hql)
                have hz := Hsz.out acc[q] (List.getElem_mem hql)
                have hrn := rN_val hg h9
                have htk := take_next hql
                have htl : sumN ((acc.take (q + 1)).map rN) ≤ sumN (acc.map rN) := by rw [List.map_take]; exact sumN_take_le _
                rw [htk, List.map_append, sumN_both] at htl
                have hen : expN ((acc.take (q + 1)).map rN) = expN ((acc.take q).map rN) ++ expN [rN acc[q]] := by rw [htk, List.map_append, expN_both]; rfl
                have hsn : sumN ((acc.take (q + 1)).map rN) = sumN ((acc.take q).map rN) + numN (rN acc[q]) := by rw [htk, List.map_append, sumN_both]; rfl
                have htl2 : sumN ((acc.take q).map rN) + numN (rN acc[q]) ≤ sumN (acc.map rN) := htl
                have hel := expN_length ((acc.take q).map rN)
                generalize acc[q] = x at *
                obtain ⟨xn, xm, xt⟩ := x
                obtain ⟨g1, g2, g3, g4, g5, g6⟩ := hg
                simp only at c0' c1' c2' g1 g2 g3 g4 g5 g6 h9 hz hrn
                rw [hrn] at hen hsn htl2
                have hI1 := fun w => refInt_any ⟨xn.toArray⟩ 0 9999 w (by rw [mk_size]; unfold maxLen; omega)
                have hI2 := fun w => refInt_any ⟨xm.toArray⟩ 0 9999 w (by rw [mk_size]; unfold maxLen; omega)
                have hI3 := fun w => refInt_any ⟨xt.toArray⟩ 1 500 w (by rw [mk_size]; unfold maxLen; omega)
                simp only [int_num g1 0 9999 (by omega) (by omega) (by omega), if_pos (show (0 : Int) ≤ (numV xn : Int) ∧ (numV xn : Int) ≤ 9999 by omega)] at hI1
                simp only [int_num g2 0 9999 (by omega) (by omega) (by omega), if_pos (show (0 : Int) ≤ (numV xm : Int) ∧ (numV xm : Int) ≤ 9999 by omega)] at hI2
                simp only [int_num g3 1 500 (by omega) (by omega) (by omega)] at hI3
                have g6' : numV xt = 1 ∨ numV xn = numV xm := g6.elim Or.inl (fun e => Or.inr (by rw [e]))
                generalize numV xn = N at *
                generalize numV xm = M at *
                generalize numV xt = T at *
                generalize expN ((acc.take q).map rN) = E at *
                generalize sumN ((acc.take q).map rN) = S0 at *
                have hE5 : E.length ≤ 500 := by omega
                obtain ⟨oa, oc, rfl⟩ := own_shape howny
                obtain ⟨A, hA⟩ : ∃ A, (⟨xn.toArray⟩ : ByteArray) = A := ⟨_, rfl⟩
                obtain ⟨B, hB⟩ : ∃ A, (⟨xm.toArray⟩ : ByteArray) = A := ⟨_, rfl⟩
                obtain ⟨C, hC⟩ : ∃ A, (⟨xt.toArray⟩ : ByteArray) = A := ⟨_, rfl⟩
                rw [hA] at hI1 c0'
                rw [hB] at hI2 c1'
                rw [hC] at hI3 c2'
                have HI1 := Lib.hid hI1
                have HI2 := Lib.hid hI2
                have Howny := Lib.hid howny
                have Hen := Lib.hid hen
                have Hsn := Lib.hid hsn
                have Htl := Lib.hid htl2
                have Hel := Lib.hid hel
                have hgy : gg < wy.heap.size := Nat.lt_of_lt_of_le hgx hyz
                clear hI1 hI2 hA hB hC hrn htk htl hen hsn htl2 hel howny c0 c1 c2 g1 g2 g3 g6 hz
                by_cases ht : T ≤ 500
                · rw [Nat.min_eq_left (show T ≤ 10000 by omega)] at Hen Hsn Htl
                  simp only [if_pos (show (1 : Int) ≤ (T : Int) ∧ (T : Int) ≤ 500 by omega)] at hI3
                  have HI3 := Lib.hid hI3
                  clear hI3
                  have hP : (T : Int) * ((M : Int) - (N : Int) + 1) = ((T * (M - N + 1) : Nat) : Int) := by
                    rw [Int.natCast_mul, show ((M - N + 1 : Nat) : Int) = (M : Int) - (N : Int) + 1 by omega]
                  have hPle : T * (M - N + 1) ≤ 500 * 10000 := Nat.mul_le_mul ht (by omega)
                  have hnum : numN (T, N, M) = T * (M - N + 1) := rfl
                  obtain ⟨P, hPP⟩ : ∃ P, T * (M - N + 1) = P := ⟨_, rfl⟩
                  rw [hPP] at hP hPle hnum
                  rw [hnum] at Hsn Htl
                  have hmul0 : 0 ≤ (T : Int) * ((M : Int) - (N : Int) + 1) := by omega
                  have hmul : (T : Int) * ((M : Int) - (N : Int) + 1) ≤ 5000000 := by omega
                  have HPP := Lib.hid hPP
                  have HP := Lib.hid hP
                  by_cases hov : 500 < E.length + P
                  · have hbad : parP s.data.toList = ([], 3) := rpar_sum Hl25.out Hit.out Hall9.out (by have := Htl.out; have := Hel.out; omega)
                    have Hbad := Lib.hid hbad
                    have hgt : (500 : Int) - (E.length : Int) < (T : Int) * ((M : Int) - (N : Int) + 1) := by omega
                    clear hbad hP hPP hnum
                    go_wp2_with fail
                    refine (HI1.out _).mono ?_
                    rintro e y1 ⟨rfl, hy1⟩
                    have d1 := (hy1.cell (p := ⟨gg, q * 3 + 1, none⟩) hgy).trans c1'
                    have d2 := (hy1.cell (p := ⟨gg, q * 3 + 2, none⟩) hgy).trans c2'
                    have hgy1 := Nat.lt_of_lt_of_le hgy hy1.size
                    go_wp2_with fail
                    refine (HI2.out _).mono ?_
                    rintro e y2 ⟨rfl, hy2⟩
                    have e2 := (hy2.cell (p := ⟨gg, q * 3 + 2, none⟩) hgy1).trans d2
                    go_wp2_with fail
                    refine (HI3.out _).mono ?_
                    rintro e y3 ⟨rfl, hy3⟩
                    clear c0' c1' c2' d1 d2 e2
                    go_wp2_with fail
                    go_ret2
                    exact par_err Hbad.out (hbX.trans ((hby.mono hwx).trans (below_wide (below_on hy1 (below_on hy2 hy3)) (by omega))))
                  · have hgt : ¬ (500 : Int) - (E.length : Int) < (T : Int) * ((M : Int) - (N : Int) + 1) := by omega
                    clear hP hPP hnum
                    go_wp2_with fail
                    refine (HI1.out _).mono ?_
                    rintro e y1 ⟨rfl, hy1⟩
                    have d1 := (hy1.cell (p := ⟨gg, q * 3 + 1, none⟩) hgy).trans c1'
                    have d2 := (hy1.cell (p := ⟨gg, q * 3 + 2, none⟩) hgy).trans c2'
                    have hgy1 := Nat.lt_of_lt_of_le hgy hy1.size
                    go_wp2_with fail
                    refine (HI2.out _).mono ?_
                    rintro e y2 ⟨rfl, hy2⟩
                    have e2 := (hy2.cell (p := ⟨gg, q * 3 + 2, none⟩) hgy1).trans d2
                    go_wp2_with fail
                    refine (HI3.out _).mono ?_
                    rintro e y3 ⟨rfl, hy3⟩
                    clear c0' c1' c2' d1 d2 e2
                    go_wp2_with fail
                    have hown3 := own_below (own_below (own_below Howny.out hy1) hy2) hy3
                    have hb3 : Below wx.heap.size wx y3 := hby.trans (below_wide (below_on hy1 (below_on hy2 hy3)) hyz)
                    have hRl : (runN 1 (M - N + 1) N).length = M - N + 1 := by rw [runN_length, Nat.one_mul]
                    have hRR := rep_run T N M g6'
                    have hRM : runN 1 (M + 1 - N) N = runN 1 (M - N + 1) N := by rw [show M + 1 - N = M - N + 1 by omega]
                    obtain ⟨R, hR⟩ : ∃ R, runN 1 (M - N + 1) N = R := ⟨_, rfl⟩
                    rw [hR] at hRl hRR hRM
                    have Hown3 := Lib.hid hown3
                    have HRl := Lib.hid hRl
                    have HRR := Lib.hid hRR
                    have HRM := Lib.hid hRM
                    clear hown3 hRl hRR hRM hR hy1 hy2 hy3 hgy1 hgy hgt hmul hmul0 HI1 HI2 HI3
                    go_loopw [10, 18] (fun vo i wz => ∃ t : Nat, t ≤ T ∧ i = .int .i64 t ∧ wz.ownsRow wx.heap.size 3 1 vo (E ++ repN t R).length ((E ++ repN t R).map (Value.int .i64)) ∧ Below wx.heap.size wx wz) (fun _ i _ => T - (intOf i).toNat)
                    case atStart => exact ⟨0, Nat.zero_le _, rfl, by simpa [repN] using Hown3.out, hb3⟩
                    case round =>
                      obtain ⟨t, htt, rfl, hownz, hbz2⟩ := hrel
                      rename World => wz
                      have hrl : (repN t R).length ≤ 5000000 := by
                        rw [repN_len, HRl.out]
                        have := Nat.mul_le_mul (Nat.le_trans htt ht) (show M - N + 1 ≤ 10000 by omega)
                        omega
                      have hrs := repN_succ t R
                      have Hrs := Lib.hid hrs
                      have Hownz := Lib.hid hownz
                      clear hrs hownz
                      by_cases htl : t < T
                      · generalize repN t R = F at *
                        go_wp2_with fail
                        go_loopw [10, 19] (fun vo i wv => ∃ d : Nat, N ≤ d ∧ d ≤ M + 1 ∧ i = .int .i64 d ∧ wv.ownsRow wx.heap.size 3 1 vo (E ++ F ++ runN 1 (d - N) N).length ((E ++ F ++ runN 1 (d - N) N).map (Value.int .i64)) ∧ Below wx.heap.size wx wv) (fun _ i _ => M + 1 - (intOf i).toNat)
                        case atStart => exact ⟨N, Nat.le_refl _, by omega, rfl, by rw [Nat.sub_self]; simpa [runN] using Hownz.out, hbz2⟩
                        case round =>
                          obtain ⟨d, hd1, hd2, rfl, hownv, hbv⟩ := hrel
                          rename World => wv
                          have hvs := hbv.size
                          by_cases hdm : d ≤ M
                          · have hsnoc : runN 1 (d + 1 - N) N = runN 1 (d - N) N ++ [(d : Int)] := by
                              rw [show d + 1 - N = (d - N) + 1 by omega, runN_snoc, show N + (d - N) = d by omega]; rfl
                            have hgl : (E ++ F ++ runN 1 (d - N) N).length ≤ 20000000 := by
                              rw [List.length_append, List.length_append, runN_length]; omega
                            have Hsnoc := Lib.hid hsnoc
                            clear hsnoc
                            generalize hG : E ++ F ++ runN 1 (d - N) N = G at *
                            have HG := Lib.hid hG
                            have Hownv := Lib.hid (hownv.alloc (.cells #[.int .i64 (d : Int)] 3))
                            clear hG hownv
                            go_wp2_with (at_builtin; refine wpList_append_own _ rfl _ _ 22 rfl wx.heap.size 3 j0 (.int .i64 0) 1 8 Tryz.underlying22 Hj.out jz0 jz1 jz2 rfl (by decide) _ _ _ rfl Hownv.out ⟨wv.heap.size, 0, none⟩ 1 1 [.int .i64 (d : Int)] rfl rfl ?v1 ?v2 ?v3 ?v4 ?v5 ?_)
                            case v1 => exact cell_one_new _ _ _
                            case v2 => simp [Value.oneCell']
                            case v3 => unfold maxLen; omega
                            case v4 => omega
                            case v5 => simp; omega
                            intro v' w3 hown4 hgrow _
                            have hb4 : Below wx.heap.size wx w3 := by
                              refine Below.grown (hbv.alloc hvs _) hgrow (by simp; omega) ?_
                              intro k' e'
                              exact (Hownv.out.lt k' e').1
                            have hown5 : w3.ownsRow wx.heap.size 3 1 v' (E ++ F ++ runN 1 (d + 1 - N) N).length ((E ++ F ++ runN 1 (d + 1 - N) N).map (Value.int .i64)) := by
                              rw [Hsnoc.out, ← List.append_assoc, HG.out, List.length_append, List.map_append]; exact hown4
                            have Hown5 := Lib.hid hown5
                            clear hown4 hown5 hgrow
                            go_wp2_with fail
                            go_roundw
                            case rel => exact ⟨d + 1, by omega, by omega, by go_num, Hown5.out, hb4⟩
                            case measure => simp [intOf]; omega
                          · have hde : d = M + 1 := by omega
                            have hfin : E ++ F ++ runN 1 (d - N) N = E ++ repN (t + 1) R := by rw [Hrs.out, hde, HRM.out, List.append_assoc]
                            rw [hfin] at hownv
                            have Hownv := Lib.hid hownv
                            clear hfin hownv hde
                            go_wp2_with fail
                            go_roundw
                            case rel => exact ⟨t + 1, by omega, by go_num, Hownv.out, hbv⟩
                            case measure => simp [intOf]; omega
                      · have hte : t = T := by omega
                        have hfin : E ++ repN t R = expN ((acc.take (q + 1)).map rN) := by
                          rw [Hen.out, hte, HRR.out]
                          show _ = E ++ (runN T (M - N + 1) N ++ [])
                          rw [List.append_nil]
                        have hownw := Hownz.out
                        rw [hfin] at hownw
                        have Hownw := Lib.hid hownw
                        have Hs2 := Lib.hid (show sumN ((acc.take (q + 1)).map rN) ≤ 500 by have := Hsn.out; have := Hel.out; omega)
                        clear hfin hownw hte
                        go_wp2_with fail
                        go_roundw
                        case rel => exact ⟨q + 1, by omega, by go_num, Hs2.out, Hownw.out, hbz2⟩
                        case measure => simp [intOf]; omega
                · have hbad : parP s.data.toList = ([], 3) := rpar_sum Hl25.out Hit.out Hall9.out (by
                    have h1 := Htl.out
                    have h2 : numN (min T 10000, N, M) = min T 10000 * (M - N + 1) := rfl
                    have h3 : min T 10000 * 1 ≤ min T 10000 * (M - N + 1) := Nat.mul_le_mul_left _ (by omega)
                    omega)
                  have Hbad := Lib.hid hbad
                  simp only [if_neg (show ¬ ((1 : Int) ≤ (T : Int) ∧ (T : Int) ≤ 500) by omega)] at hI3
                  have HI3 := Lib.hid hI3
                  clear hI3 hbad
                  go_wp2_with fail
                  refine (HI1.out _).mono ?_
                  rintro e y1 ⟨rfl, hy1⟩
                  have d1 := (hy1.cell (p := ⟨gg, q * 3 + 1, none⟩) hgy).trans c1'
                  have d2 := (hy1.cell (p := ⟨gg, q * 3 + 2, none⟩) hgy).trans c2'
                  have hgy1 := Nat.lt_of_lt_of_le hgy hy1.size
                  go_wp2_with fail
                  refine (HI2.out _).mono ?_
                  rintro e y2 ⟨rfl, hy2⟩
                  have e2 := (hy2.cell (p := ⟨gg, q * 3 + 2, none⟩) hgy1).trans d2
                  go_wp2_with fail
                  refine (HI3.out _).mono ?_
                  rintro e y3 ⟨rfl, hy3⟩
                  clear c0' c1' c2' d1 d2 e2
                  go_wp2_with fail
                  go_ret2
                  exact par_err Hbad.out (hbX.trans ((hby.mono hwx).trans (below_wide (below_on hy1 (below_on hy2 hy3)) (by omega))))
              · have hkl : acc.take q = acc := List.take_of_length_le (by omega)
                rw [hkl] at hsum howny
                have hpar := rpar_fine Hl25.out Hit.out Hall9.out hsum
                have HP0 := Lib.hid hpar
                have Howny := Lib.hid howny
                clear hpar howny hkl hsum
                go_wp2_with fail
                go_ret2
                exact par_fin HP0.out (own_mono Howny.out hwx) (hbX.trans (hby.mono hwx))

set_option maxHeartbeats 1000000 in
theorem refPar_long (s : ByteArray) (w : World) (hs : 2500 < s.size) (hm : s.size ≤ maxLen) :
    Calls Tryz.prog 10 #[.string s] w (ParPost w s.data.toList) := by
  have hP : parP s.data.toList = ([], 3) := by unfold parP; rw [if_pos (by rw [size_len]; exact hs)]
  have HP := Lib.hid hP
  clear hP
  unfold maxLen at hm
  go_enter Tryz.func10, Tryz.ntmps10
  go_wp2_with fail
  go_ret2
  exact par_err HP.out (Below.refl _ _)
set_option maxHeartbeats 1000000 in
theorem refPar_nil (s : ByteArray) (w : World) (h0 : s.size = 0) :
    Calls Tryz.prog 10 #[.string s] w (ParPost w s.data.toList) := by
  have hP : parP s.data.toList = ([], 0) := by
    rw [List.eq_nil_of_length_eq_zero (show s.data.toList.length = 0 by rw [size_len]; exact h0)]; rfl
  have HP := Lib.hid hP
  clear hP
  have h1 : (s.size : Int) = 0 := by omega
  go_enter Tryz.func10, Tryz.ntmps10
  go_wp2_with fail
  go_loopw [4, 5, 6] (fun vo fr i wr => vo = .slice none 0 0 ∧ i = .int .i64 0 ∧ Below w.heap.size w wr) (fun _ _ _ _ => 0)
  case atStart => exact ⟨rfl, rfl, Below.refl _ _⟩
  case round =>
    obtain ⟨rfl, rfl, hb⟩ := hrel
    go_wp2_with fail
    go_loopw [9] (fun i wx => i = .int .i64 0 ∧ Below w.heap.size w wx) (fun _ _ => 0)
    case atStart => exact ⟨rfl, hb⟩
    case round =>
      obtain ⟨rfl, hbx⟩ := hrel
      rename World => wx
      go_wp2_with fail
      go_loopw [10, 11] (fun vo i wy => vo = .slice none 0 0 ∧ i = .int .i64 0 ∧ Below w.heap.size w wy) (fun _ _ _ => 0)
      case atStart => exact ⟨rfl, rfl, hbx⟩
      case round =>
        obtain ⟨rfl, rfl, hby⟩ := hrel
        rename World => wy
        go_wp2_with fail
        go_ret2
        exact par_fin HP.out (World.ownsRow_nil _ _ _ _) hby
theorem refPar_any (s : ByteArray) (w : World) (hm : s.size ≤ maxLen) :
    Calls Tryz.prog 10 #[.string s] w (ParPost w s.data.toList) := by
  by_cases h : 2500 < s.size
  · exact refPar_long s w h hm
  · by_cases h0 : s.size = 0
    · exact refPar_nil s w h0
    · exact refPar_main s w (by omega) h0
end Go.Proofs.YtkbmdmipdcjjcaaGreatDoor
