/- LeaseTimes: the walk. -/
import Derived.Test.YtikeiocgnjdhbaaAl
namespace Go.Proofs.Ytikeiocgnjdhbaa
open Go.RowKit Go.Sort
set_option linter.unusedVariables false
set_option linter.unusedSimpArgs false
set_option maxRecDepth 100000


set_option maxHeartbeats 2000000 in
theorem leaseTimes_law (a : Int) (wa : (Lit.int .u64 a).wf = true) (b : Int) (wb : (Lit.int .u64 b).wf = true) (w : World) :
    Calls Try.prog 5 #[.int .u64 a, .int .u64 b] w (LawOk w) := by
  have ha := bounds_u64 wa; have hb := bounds_u64 wb
  have C1 := Lib.hid (valid_any a b ⟨by omega, by omega⟩ ⟨by omega, by omega⟩)
  have C2 := Lib.hid (rvalid_any a b ⟨by omega, by omega⟩ ⟨by omega, by omega⟩)
  have C3 := Lib.hid (take_any a b ⟨by omega, by omega⟩ ⟨by omega, by omega⟩)
  have C4 := Lib.hid (rtake_any a b ⟨by omega, by omega⟩ ⟨by omega, by omega⟩)
  clear wa wb ha hb
  generalize validB a b = x at *
  generalize takeB a b = y at *
  have ex : (x == x) = true := by simp
  have ey : (y == y) = true := by simp
  go_enter Try.func5, Try.ntmps5
  go_wp2_with fail
  refine (alive_any _).mono ?_
  rintro e w1 ⟨rfl, l1⟩
  go_wp2_with fail
  refine (C1.out _).mono ?_
  rintro e w2 ⟨rfl, rfl⟩
  go_wp2_with fail
  refine (C2.out _).mono ?_
  rintro e w2 ⟨rfl, rfl⟩
  go_wp2_with fail
  refine (C3.out _).mono ?_
  rintro e w2 ⟨rfl, rfl⟩
  go_wp2_with fail
  refine (C4.out _).mono ?_
  rintro e w2 ⟨rfl, rfl⟩
  go_wp2_with fail
  go_ret
  exact ⟨rfl, l1⟩
end Go.Proofs.Ytikeiocgnjdhbaa
