/- Two nodes that differ in one cell at most. -/
import Derived.Test.YtlfnkplgjlpaaaaRow
import Derived.Laws.StructEq
namespace Go.Proofs.Ytlfnkplgjlpaaaa
open Go.RowKit Go.Sort
theorem nd_neq (a b c : Int) (x y : Bool) (w : World) : (binOp .neq 76 (.agg #[.int .i64 a, .int .i64 b, .int .i64 c, .bool x]) (.agg #[.int .i64 a, .int .i64 b, .int .i64 c, .bool y])).run Try.prog w = .ok (.bool (x != y)) w := by
  cases x <;> cases y <;> go_simp
end Go.Proofs.Ytlfnkplgjlpaaaa
