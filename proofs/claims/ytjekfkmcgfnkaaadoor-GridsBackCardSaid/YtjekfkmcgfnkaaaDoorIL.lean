/- The law of moves that are undone and composed. -/
import Derived.Test.YtjekfkmcgfnkaaaDoorII
import Derived.Test.YtjekfkmcgfnkaaaDoorIJ
import Derived.Test.YtjekfkmcgfnkaaaDoorIK
namespace Go.Proofs.YtjekfkmcgfnkaaaDoor
open Go.RowKit Go.Lib
theorem back_any (l m n : Mov) (p : Pt) (w : World) (g : Glob w) : Calls Tryd.prog 11 #[.agg #[.int .i64 l.m.a, .int .i64 l.m.b, .int .i64 l.m.c, .int .i64 l.m.d, .int .i64 l.t.x, .int .i64 l.t.y, .int .i64 m.m.a, .int .i64 m.m.b, .int .i64 m.m.c, .int .i64 m.m.d, .int .i64 m.t.x, .int .i64 m.t.y, .int .i64 n.m.a, .int .i64 n.m.b, .int .i64 n.m.c, .int .i64 n.m.d, .int .i64 n.t.x, .int .i64 n.t.y], .agg #[.int .i64 p.x, .int .i64 p.y]] w fun e w' => e = .returned (.bool true) ∧ Below w.heap.size w w' := by
  by_cases qe : invE l = 0
  · by_cases qf : appE l p = 0
    · exact back_one l m n p w g qe qf
    · exact back_two l m n p w g qe qf
  · exact back_three l m n p w g qe
end Go.Proofs.YtjekfkmcgfnkaaaDoor
