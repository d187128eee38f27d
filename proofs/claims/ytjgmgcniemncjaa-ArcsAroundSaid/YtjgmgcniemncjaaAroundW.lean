/- ArcsAround: the walk. -/
import Derived.Test.YtjgmgcniemncjaaBetweenW
namespace Go.Proofs.Ytjgmgcniemncjaa
open Go.RowKit Go.Sort
set_option linter.unusedVariables false

set_option maxHeartbeats 2000000 in
theorem arcsAround_law (ah : Int) (wah : (Lit.int .u64 ah).wf = true) (al : Int) (wal : (Lit.int .u64 al).wf = true) (xh : Int) (wxh : (Lit.int .u64 xh).wf = true) (xl : Int) (wxl : (Lit.int .u64 xl).wf = true) (bh : Int) (wbh : (Lit.int .u64 bh).wf = true) (bl : Int) (wbl : (Lit.int .u64 bl).wf = true) (w : World) :
    Calls Try.prog 8 #[.agg #[.int .u64 ah, .int .u64 al], .agg #[.int .u64 xh, .int .u64 xl], .agg #[.int .u64 bh, .int .u64 bl]] w (LawOk w) := by
  clear wah wal wxh wxl wbh wbl
  have c1 := between_any ah al xh xl bh bl
  have c2 := between_any bh bl xh xl ah al
  have c3 := between_any ah al bh bl bh bl
  have c4 := between_any ah al ah al bh bl
  have CA := Lib.hid alive_any
  have hway : (ah = bh ∧ al = bl) ∨ (¬ ah = bh ∨ ah = bh ∧ ¬ al = bl) := by omega
  rcases hway with ⟨rfl, rfl⟩ | hne
  · rw [btw_same] at c1 c2 c3
    have C1 := Lib.hid c1; have C2 := Lib.hid c2; have C3 := Lib.hid c3; have C4 := Lib.hid c4
    clear c1 c2 c3 c4
    go_enter Try.func8, Try.ntmps8
    go_wp2_with fail
    refine (C1.out _).mono ?_
    rintro e w1 ⟨rfl, l1⟩
    have m1 := ((((Holds.nil w).new2 (.int .u64 ah) (.int .u64 al) 45).new2 (.int .u64 xh) (.int .u64 xl) 45).new2 (.int .u64 ah) (.int .u64 al) 45).below l1
    have n1 := below_of_alloc (below_of_alloc (below_of_alloc l1))
    clear l1
    obtain ⟨g1, g2, g3⟩ := m1.two
    obtain ⟨g4, g5, g6⟩ := m1.tail.tail.two
    obtain ⟨g7, g8, g9⟩ := m1.tail.tail.tail.tail.two
    simp only [World.size_alloc] at g1 g2 g3 g4 g5 g6 g7 g8 g9
    have M1 := Lib.hid m1; clear m1
    go_wp2_with fail
    refine (C2.out _).mono ?_
    rintro e w2 ⟨rfl, l2⟩
    have m2 := M1.out.below l2
    have n2 := below_next n1 l2
    clear g1 g2 g3 g4 g5 g6 g7 g8 g9 M1 l2 n1
    obtain ⟨g1, g2, g3⟩ := m2.two
    obtain ⟨g4, g5, g6⟩ := m2.tail.tail.two
    obtain ⟨g7, g8, g9⟩ := m2.tail.tail.tail.tail.two
    simp only [World.size_alloc] at g1 g2 g3 g4 g5 g6 g7 g8 g9
    have M2 := Lib.hid m2; clear m2
    go_wp2_with fail
    refine (C3.out _).mono ?_
    rintro e w3 ⟨rfl, l3⟩
    have m3 := M2.out.below l3
    have n3 := below_next n2 l3
    clear g1 g2 g3 g4 g5 g6 g7 g8 g9 M2 l3 n2
    obtain ⟨g1, g2, g3⟩ := m3.two
    obtain ⟨g4, g5, g6⟩ := m3.tail.tail.two
    obtain ⟨g7, g8, g9⟩ := m3.tail.tail.tail.tail.two
    simp only [World.size_alloc] at g1 g2 g3 g4 g5 g6 g7 g8 g9
    have M3 := Lib.hid m3; clear m3
    go_wp2_with fail
    refine (C4.out _).mono ?_
    rintro e w4 ⟨rfl, l4⟩
    have m4 := M3.out.below l4
    have n4 := below_next n3 l4
    clear g1 g2 g3 g4 g5 g6 g7 g8 g9 M3 l4 n3
    obtain ⟨g1, g2, g3⟩ := m4.two
    obtain ⟨g4, g5, g6⟩ := m4.tail.tail.two
    obtain ⟨g7, g8, g9⟩ := m4.tail.tail.tail.tail.two
    simp only [World.size_alloc] at g1 g2 g3 g4 g5 g6 g7 g8 g9
    have M4 := Lib.hid m4; clear m4
    go_wp2_with fail
    refine (CA.out _).mono ?_
    rintro e w5 ⟨rfl, l5⟩
    have m5 := M4.out.below l5
    have n5 := below_next n4 l5
    clear g1 g2 g3 g4 g5 g6 g7 g8 g9 M4 l5 n4
    obtain ⟨g1, g2, g3⟩ := m5.two
    obtain ⟨g4, g5, g6⟩ := m5.tail.tail.two
    obtain ⟨g7, g8, g9⟩ := m5.tail.tail.tail.tail.two
    simp only [World.size_alloc] at g1 g2 g3 g4 g5 g6 g7 g8 g9
    have M5 := Lib.hid m5; clear m5
    go_wp2_with fail
    go_ret
    exact ⟨by simp, n5⟩
  · have hne' : ¬ (ah = bh ∧ al = bl) := by omega
    rw [btw_end _ _ _ _ hne'] at c3
    rw [btw_start _ _ _ _ hne'] at c4
    rw [btw_not _ _ _ _ _ _ hne'] at c2
    have C3 := Lib.hid c3; have C4 := Lib.hid c4; clear c3 c4 hne'
    generalize btw ah al xh xl bh bl = r at *
    cases r
    all_goals
      simp only [Bool.not_true, Bool.not_false] at c2
      have C1 := Lib.hid c1; have C2 := Lib.hid c2; clear c1 c2
      rcases hne with hh | ⟨rfl, hl⟩
      · have e1 : (ah == bh) = false := by simp [hh]
        have e2 : (ah != bh) = true := by simp [hh]
        clear hh
        go_enter Try.func8, Try.ntmps8
        go_wp2_with fail
        refine (C1.out _).mono ?_
        rintro e w1 ⟨rfl, l1⟩
        have m1 := ((((Holds.nil w).new2 (.int .u64 ah) (.int .u64 al) 45).new2 (.int .u64 xh) (.int .u64 xl) 45).new2 (.int .u64 bh) (.int .u64 bl) 45).below l1
        have n1 := below_of_alloc (below_of_alloc (below_of_alloc l1))
        clear l1
        obtain ⟨g1, g2, g3⟩ := m1.two
        obtain ⟨g4, g5, g6⟩ := m1.tail.tail.two
        obtain ⟨g7, g8, g9⟩ := m1.tail.tail.tail.tail.two
        simp only [World.size_alloc] at g1 g2 g3 g4 g5 g6 g7 g8 g9
        have M1 := Lib.hid m1; clear m1
        go_wp2_with fail
        refine (C2.out _).mono ?_
        rintro e w2 ⟨rfl, l2⟩
        have m2 := M1.out.below l2
        have n2 := below_next n1 l2
        clear g1 g2 g3 g4 g5 g6 g7 g8 g9 M1 l2 n1
        obtain ⟨g1, g2, g3⟩ := m2.two
        obtain ⟨g4, g5, g6⟩ := m2.tail.tail.two
        obtain ⟨g7, g8, g9⟩ := m2.tail.tail.tail.tail.two
        simp only [World.size_alloc] at g1 g2 g3 g4 g5 g6 g7 g8 g9
        have M2 := Lib.hid m2; clear m2
        go_wp2_with fail
        refine (C3.out _).mono ?_
        rintro e w3 ⟨rfl, l3⟩
        have m3 := M2.out.below l3
        have n3 := below_next n2 l3
        clear g1 g2 g3 g4 g5 g6 g7 g8 g9 M2 l3 n2
        obtain ⟨g1, g2, g3⟩ := m3.two
        obtain ⟨g4, g5, g6⟩ := m3.tail.tail.two
        obtain ⟨g7, g8, g9⟩ := m3.tail.tail.tail.tail.two
        simp only [World.size_alloc] at g1 g2 g3 g4 g5 g6 g7 g8 g9
        have M3 := Lib.hid m3; clear m3
        go_wp2_with fail
        refine (C4.out _).mono ?_
        rintro e w4 ⟨rfl, l4⟩
        have m4 := M3.out.below l4
        have n4 := below_next n3 l4
        clear g1 g2 g3 g4 g5 g6 g7 g8 g9 M3 l4 n3
        obtain ⟨g1, g2, g3⟩ := m4.two
        obtain ⟨g4, g5, g6⟩ := m4.tail.tail.two
        obtain ⟨g7, g8, g9⟩ := m4.tail.tail.tail.tail.two
        simp only [World.size_alloc] at g1 g2 g3 g4 g5 g6 g7 g8 g9
        have M4 := Lib.hid m4; clear m4
        go_wp2_with fail
        refine (CA.out _).mono ?_
        rintro e w5 ⟨rfl, l5⟩
        have m5 := M4.out.below l5
        have n5 := below_next n4 l5
        clear g1 g2 g3 g4 g5 g6 g7 g8 g9 M4 l5 n4
        obtain ⟨g1, g2, g3⟩ := m5.two
        obtain ⟨g4, g5, g6⟩ := m5.tail.tail.two
        obtain ⟨g7, g8, g9⟩ := m5.tail.tail.tail.tail.two
        simp only [World.size_alloc] at g1 g2 g3 g4 g5 g6 g7 g8 g9
        have M5 := Lib.hid m5; clear m5
        go_wp2_with fail
        go_ret
        exact ⟨by simp, n5⟩
      · have e1 : (al == bl) = false := by simp [hl]
        have e2 : (al != bl) = true := by simp [hl]
        clear hl
        go_enter Try.func8, Try.ntmps8
        go_wp2_with fail
        refine (C1.out _).mono ?_
        rintro e w1 ⟨rfl, l1⟩
        have m1 := ((((Holds.nil w).new2 (.int .u64 ah) (.int .u64 al) 45).new2 (.int .u64 xh) (.int .u64 xl) 45).new2 (.int .u64 ah) (.int .u64 bl) 45).below l1
        have n1 := below_of_alloc (below_of_alloc (below_of_alloc l1))
        clear l1
        obtain ⟨g1, g2, g3⟩ := m1.two
        obtain ⟨g4, g5, g6⟩ := m1.tail.tail.two
        obtain ⟨g7, g8, g9⟩ := m1.tail.tail.tail.tail.two
        simp only [World.size_alloc] at g1 g2 g3 g4 g5 g6 g7 g8 g9
        have M1 := Lib.hid m1; clear m1
        go_wp2_with fail
        refine (C2.out _).mono ?_
        rintro e w2 ⟨rfl, l2⟩
        have m2 := M1.out.below l2
        have n2 := below_next n1 l2
        clear g1 g2 g3 g4 g5 g6 g7 g8 g9 M1 l2 n1
        obtain ⟨g1, g2, g3⟩ := m2.two
        obtain ⟨g4, g5, g6⟩ := m2.tail.tail.two
        obtain ⟨g7, g8, g9⟩ := m2.tail.tail.tail.tail.two
        simp only [World.size_alloc] at g1 g2 g3 g4 g5 g6 g7 g8 g9
        have M2 := Lib.hid m2; clear m2
        go_wp2_with fail
        refine (C3.out _).mono ?_
        rintro e w3 ⟨rfl, l3⟩
        have m3 := M2.out.below l3
        have n3 := below_next n2 l3
        clear g1 g2 g3 g4 g5 g6 g7 g8 g9 M2 l3 n2
        obtain ⟨g1, g2, g3⟩ := m3.two
        obtain ⟨g4, g5, g6⟩ := m3.tail.tail.two
        obtain ⟨g7, g8, g9⟩ := m3.tail.tail.tail.tail.two
        simp only [World.size_alloc] at g1 g2 g3 g4 g5 g6 g7 g8 g9
        have M3 := Lib.hid m3; clear m3
        go_wp2_with fail
        refine (C4.out _).mono ?_
        rintro e w4 ⟨rfl, l4⟩
        have m4 := M3.out.below l4
        have n4 := below_next n3 l4
        clear g1 g2 g3 g4 g5 g6 g7 g8 g9 M3 l4 n3
        obtain ⟨g1, g2, g3⟩ := m4.two
        obtain ⟨g4, g5, g6⟩ := m4.tail.tail.two
        obtain ⟨g7, g8, g9⟩ := m4.tail.tail.tail.tail.two
        simp only [World.size_alloc] at g1 g2 g3 g4 g5 g6 g7 g8 g9
        have M4 := Lib.hid m4; clear m4
        go_wp2_with fail
        refine (CA.out _).mono ?_
        rintro e w5 ⟨rfl, l5⟩
        have m5 := M4.out.below l5
        have n5 := below_next n4 l5
        clear g1 g2 g3 g4 g5 g6 g7 g8 g9 M4 l5 n4
        obtain ⟨g1, g2, g3⟩ := m5.two
        obtain ⟨g4, g5, g6⟩ := m5.tail.tail.two
        obtain ⟨g7, g8, g9⟩ := m5.tail.tail.tail.tail.two
        simp only [World.size_alloc] at g1 g2 g3 g4 g5 g6 g7 g8 g9
        have M5 := Lib.hid m5; clear m5
        go_wp2_with fail
        go_ret
        exact ⟨by simp, n5⟩

end Go.Proofs.Ytjgmgcniemncjaa
