/- ArcsParts: the walk. -/
import Derived.Test.YtjgmgcniemncjaaAlive
namespace Go.Proofs.Ytjgmgcniemncjaa
open Go.RowKit Go.Sort
set_option linter.unusedVariables false

set_option maxHeartbeats 2000000 in
theorem arcsParts_law (f : Int) (wf : (Lit.int .i64 f).wf = true) (s : Int) (ws : (Lit.int .i64 s).wf = true) (g : Int) (wg : (Lit.int .i64 g).wf = true) (t : Int) (wt : (Lit.int .i64 t).wf = true) (n : Int) (wn : (Lit.int .i64 n).wf = true) (w : World) :
    Calls Try.prog 4 #[.agg #[.int .i64 f, .int .i64 s], .agg #[.int .i64 g, .int .i64 t], .int .i64 n] w (LawOk w) := by
  obtain ⟨x0, x1, y0, y1, e0, S1, S2⟩ := split_two f s n
  obtain ⟨z0, z1, e1, J1, J2⟩ := join_two f s g t
  have S1 := Lib.hid S1; have S2 := Lib.hid S2; have J1 := Lib.hid J1; have J2 := Lib.hid J2
  clear wf ws wg wt wn
  go_enter Try.func4, Try.ntmps4
  go_wp2_with fail
  refine (S1.out _).mono ?_
  rintro e w1 ⟨rfl, l1⟩
  have m1 := (((Holds.nil w).new2 (.int .i64 f) (.int .i64 s) 23).new2 (.int .i64 g) (.int .i64 t) 23).below l1
  have n1 := below_of_alloc (below_of_alloc l1)
  obtain ⟨g1, g2, g3⟩ := m1.two
  obtain ⟨g4, g5, g6⟩ := m1.tail.tail.two
  simp only [World.size_alloc] at g1 g2 g3 g4 g5 g6
  have M1 := Lib.hid m1; clear m1 l1
  go_wp2_with fail
  refine (S2.out _).mono ?_
  rintro e w2 ⟨rfl, l2⟩
  have m2 := ((M1.out.new2 (.int .i64 x0) (.int .i64 x1) 23).new2 (.int .i64 y0) (.int .i64 y1) 23).below l2
  have n2 := below_next n1 (below_of_alloc (below_of_alloc l2))
  clear g1 g2 g3 g4 g5 g6 M1 l2 n1
  obtain ⟨g1, g2, g3⟩ := m2.tail.tail.tail.tail.two
  obtain ⟨g4, g5, g6⟩ := m2.tail.tail.tail.tail.tail.tail.two
  simp only [World.size_alloc] at g1 g2 g3 g4 g5 g6
  have M2 := Lib.hid m2; clear m2
  go_wp2_with fail
  refine (J1.out _).mono ?_
  rintro e w3 ⟨rfl, l3⟩
  have m3 := ((M2.out.new2 (.int .i64 x0) (.int .i64 x1) 23).new2 (.int .i64 y0) (.int .i64 y1) 23).below l3
  have n3 := below_next n2 (below_of_alloc (below_of_alloc l3))
  clear g1 g2 g3 g4 g5 g6 M2 l3 n2
  obtain ⟨g1, g2, g3⟩ := m3.tail.tail.tail.tail.tail.tail.tail.tail.two
  obtain ⟨g4, g5, g6⟩ := m3.tail.tail.tail.tail.tail.tail.tail.tail.tail.tail.two
  simp only [World.size_alloc] at g1 g2 g3 g4 g5 g6
  have M3 := Lib.hid m3; clear m3
  go_wp2_with fail
  refine (J2.out _).mono ?_
  rintro e w4 ⟨rfl, l4⟩
  have m4 := (M3.out.new2 (.int .i64 z0) (.int .i64 z1) 23).below l4
  have n4 := below_next n3 (below_of_alloc l4)
  clear g1 g2 g3 g4 g5 g6 M3 l4 n3
  have M4 := Lib.hid m4; clear m4
  go_wp2_with fail
  refine (alive_any _).mono ?_
  rintro e w5 ⟨rfl, l5⟩
  have m5 := (M4.out.new2 (.int .i64 z0) (.int .i64 z1) 23).below l5
  have n5 := below_next n4 (below_of_alloc l5)
  clear M4 l5 n4
  obtain ⟨a1, a2, a3⟩ := m5.two
  obtain ⟨b1, b2, b3⟩ := m5.tail.tail.two
  obtain ⟨c1, c2, c3⟩ := m5.tail.tail.tail.tail.two
  obtain ⟨d1, d2, d3⟩ := m5.tail.tail.tail.tail.tail.tail.two
  obtain ⟨e2, e3, e4⟩ := m5.tail.tail.tail.tail.tail.tail.tail.tail.two
  obtain ⟨f1, f2, f3⟩ := m5.tail.tail.tail.tail.tail.tail.tail.tail.tail.tail.two
  clear m5
  simp only [World.size_alloc] at a1 a2 b1 b2 c1 c2 d1 d2 e2 e3 f1 f2
  go_wp2_with fail
  go_ret
  exact ⟨by simp, n5⟩

end Go.Proofs.Ytjgmgcniemncjaa
