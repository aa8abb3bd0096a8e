/- The law of names. -/
import Derived.Test.YtojdihfcoijinaaDoorW
namespace Go.Proofs.YtojdihfcoijinaaDoor
open Go.RowKit

set_option maxHeartbeats 1000000 in
theorem names_any (s : ByteArray) (w : World) (g : Glob w) (hs : s.size ≤ maxLen) :
    Calls Tryd.prog 3 #[.string s] w fun e w' => e = .returned (.bool true) ∧ Below w.heap.size w w' := by
  have hm := hs
  unfold maxLen at hs
  by_cases h : 20000 < s.size
  · go_enter Tryd.func3, Tryd.ntmps3
    go_wp2_with (go_at_call 10; refine (shown_any _ g).mono ?_; rintro e w1 ⟨rfl, hb1⟩)
    go_ret
    exact ⟨rfl, hb1⟩
  · obtain ⟨b1, h1⟩ : ∃ b, nameB s.data.toList = b := ⟨_, rfl⟩
    obtain ⟨b2, h2⟩ : ∃ b, textB s.data.toList = b := ⟨_, rfl⟩
    have c1 := Name_any s w hm
    have c2 := Text_any s w hm
    have c3 := refName_any s w hm
    have c4 := refText_any s w hm
    rw [h1] at c1 c3
    rw [h2] at c2 c4
    have C1 := Lib.hid c1
    have C2 := Lib.hid c2
    have C3 := Lib.hid c3
    have C4 := Lib.hid c4
    clear c1 c2 c3 c4 h1 h2
    go_enter Tryd.func3, Tryd.ntmps3
    go_wp2_with (first
      | (go_at_call 10; refine (shown_any _ g).mono ?_; rintro e w1 ⟨rfl, hb1⟩)
      | (go_at_call 11; refine C1.out.mono ?_; rintro e w' ⟨rfl, rfl⟩)
      | (go_at_call 13; refine C2.out.mono ?_; rintro e w' ⟨rfl, rfl⟩)
      | (go_at_call 12; refine C3.out.mono ?_; rintro e w' ⟨rfl, rfl⟩)
      | (go_at_call 14; refine C4.out.mono ?_; rintro e w' ⟨rfl, rfl⟩))
    go_ret
    exact ⟨rfl, hb1⟩
end Go.Proofs.YtojdihfcoijinaaDoor
