/- The live question of the statements of layer 2. -/
import Derived.Test.YtjgmgcniemncjaaParts
namespace Go.Proofs.Ytjgmgcniemncjaa
open Go.RowKit Go.Sort
set_option linter.unusedVariables false

set_option maxHeartbeats 1000000 in
theorem alive_any : Ret 13 #[] (.returned (.bool true)) := by
  intro w
  have c1 := split_in 60 8 4 (by decide) (by omega) (by omega)
  rw [show ((60 : Int) + 4) % 64 = 0 by decide, show (8 : Int) - 4 = 4 by decide] at c1
  have C1 := Lib.hid c1; clear c1
  have c2 := has_any 60 8 3
  rw [show hasB 60 8 3 = true by decide] at c2
  have C2 := Lib.hid c2; clear c2
  have c3 := has_any 60 8 4
  rw [show hasB 60 8 4 = false by decide] at c3
  have C3 := Lib.hid c3; clear c3
  go_enter Try.func13, Try.ntmps13
  go_wp2_with fail
  refine (C1.out _).mono ?_
  rintro e w1 ⟨rfl, l1⟩
  have m1 := ((Holds.nil w).new2 (.int .i64 60) (.int .i64 8) 23).below l1
  have n1 := below_of_alloc l1
  obtain ⟨g1, g2, g3⟩ := m1.two
  clear m1 l1
  go_wp2_with fail
  refine (C2.out _).mono ?_
  rintro e w2 ⟨rfl, l2⟩
  have n2 := below_next n1 (below_of_alloc (below_of_alloc l2))
  have h1 := (l2.cell (p := ⟨w.heap.size, 0, none⟩) (by simp; omega)).trans (show _ = some (.int .i64 60) by go_simp)
  have h2 := (l2.cell (p := ⟨w.heap.size, 1, none⟩) (by simp; omega)).trans (show _ = some (.int .i64 8) by go_simp)
  clear g1 g2 l2
  go_wp2_with fail
  refine (C3.out _).mono ?_
  rintro e w3 ⟨rfl, l3⟩
  go_wp2_with fail
  go_ret
  exact ⟨rfl, below_next n2 l3⟩

end Go.Proofs.Ytjgmgcniemncjaa
