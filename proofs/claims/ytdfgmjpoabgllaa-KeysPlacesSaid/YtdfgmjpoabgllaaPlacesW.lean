/- KeysPlaces: the walk. -/
import Derived.Test.YtdfgmjpoabgllaaHomes
import Derived.Test.YtdfgmjpoabgllaaTextsW
import Derived.Test.YtdfgmjpoabgllaaHolds
import Derived.Test.YtdfgmjpoabgllaaArrEq
namespace Go.Proofs.Ytdfgmjpoabgllaa
open Go.RowKit
set_option linter.unusedVariables false

abbrev Ret (n : Nat) (xs : Array Value) (r : Ending) : Prop := ∀ w, Calls Try.prog n xs w fun e w' => e = r ∧ Below w.heap.size w w'

theorem sym_two (h l i : Int) (h0 : 0 ≤ h) (h1 : h < 18446744073709551616) : ∃ x y z : Int,
    Ret 20 #[pos h l, .int .i64 i] (pairP x y z) ∧ Ret 21 #[pos h l, .int .i64 i] (pairP x y z) := by
  by_cases hi : 0 ≤ i ∧ i < 4
  · exact ⟨_, _, _, sym_in h l i h0 h1 hi.1 hi.2, rsym_in h l i h0 h1 hi.1 hi.2⟩
  · exact ⟨_, _, _, sym_out h l i hi, rsym_out h l i hi⟩
theorem place_two (a i : Int) : ∃ x z : Int,
    Ret 22 #[.int .i64 a, .int .i64 i] (pair x z) ∧ Ret 23 #[.int .i64 a, .int .i64 i] (pair x z) := by
  by_cases h : 0 ≤ a ∧ a < 64 ∧ 0 ≤ i ∧ i < 4
  · exact ⟨_, _, fun w => same_below (place_in a i h.1 h.2.1 h.2.2.1 h.2.2.2 w), fun w => same_below (rplace_in a i h.1 h.2.1 h.2.2.1 h.2.2.2 w)⟩
  · exact ⟨_, _, fun w => same_below (place_out a i h w), fun w => same_below (rplace_out a i h w)⟩
theorem bucketat_two (a i : Int) : ∃ x z : Int,
    Ret 24 #[.int .i64 a, .int .i64 i] (pair x z) ∧ Ret 25 #[.int .i64 a, .int .i64 i] (pair x z) := by
  by_cases h : 0 ≤ a ∧ a < 64 ∧ 0 ≤ i ∧ i < 4
  · exact ⟨_, _, fun w => same_below (bucketat_in a i h.1 h.2.1 h.2.2.1 h.2.2.2 w), fun w => same_below (rbucketat_in a i h.1 h.2.1 h.2.2.1 h.2.2.2 w)⟩
  · exact ⟨_, _, fun w => same_below (bucketat_out a i h w), fun w => same_below (rbucketat_out a i h w)⟩
theorem homes_two (a : Int) : ∃ x y z u e : Int,
    Ret 26 #[.int .i64 a] (pairH x y z u e) ∧ Ret 27 #[.int .i64 a] (pairH x y z u e) := by
  by_cases h : 0 ≤ a ∧ a < 64
  · exact ⟨_, _, _, _, _, homes_in a h.1 h.2, rhomes_in a h.1 h.2⟩
  · exact ⟨_, _, _, _, _, homes_out a h, rhomes_out a h⟩

set_option maxHeartbeats 2000000 in
theorem keysPlaces_law (h : Int) (wh : (Lit.int .u64 h).wf = true) (l : Int) (wl : (Lit.int .u64 l).wf = true) (a : Int) (wa : (Lit.int .i64 a).wf = true) (i : Int) (wi : (Lit.int .i64 i).wf = true) (w : World) :
    Calls Try.prog 4 #[.agg #[.int .u64 h, .int .u64 l], .int .i64 a, .int .i64 i] w (LawOk w) := by
  have hb := bounds_u64 wh
  obtain ⟨s0, s1, s2, S1, S2⟩ := sym_two h l i hb.1 (by omega)
  obtain ⟨p0, p1, P1, P2⟩ := place_two a i
  obtain ⟨b0, b1, B1, B2⟩ := bucketat_two a i
  obtain ⟨h0, h1, h2, h3, h4, H1, H2⟩ := homes_two a
  have S1 := Lib.hid S1; have S2 := Lib.hid S2; have P1 := Lib.hid P1; have P2 := Lib.hid P2; have B1 := Lib.hid B1; have B2 := Lib.hid B2; have H1 := Lib.hid H1; have H2 := Lib.hid H2
  clear hb wh wl wa wi
  go_enter Try.func4, Try.ntmps4
  go_wp2_with fail
  refine (S1.out _).mono ?_
  rintro e w1 ⟨rfl, l1⟩
  have m1 := ((Holds.nil w).new2 (.int .u64 h) (.int .u64 l) 24).below l1
  have n1 := below_of_alloc l1
  obtain ⟨g1, g2, g3⟩ := m1.two
  have M1 := Lib.hid m1; clear m1 l1
  go_wp2_with fail
  refine (S2.out _).mono ?_
  rintro e w2 ⟨rfl, l2⟩
  have m2 := (M1.out.new2 (.int .u64 s0) (.int .u64 s1) 24).below l2
  have n2 := below_next n1 (below_of_alloc l2)
  clear g1 g2 g3 M1 l2 n1
  obtain ⟨g1, g2, g3⟩ := m2.two
  have M2 := Lib.hid m2; clear m2
  go_wp2_with fail
  refine (P1.out _).mono ?_
  rintro e w3 ⟨rfl, l3⟩
  go_wp2_with fail
  refine (P2.out _).mono ?_
  rintro e w4 ⟨rfl, l4⟩
  go_wp2_with fail
  refine (B1.out _).mono ?_
  rintro e w5 ⟨rfl, l5⟩
  go_wp2_with fail
  refine (B2.out _).mono ?_
  rintro e w6 ⟨rfl, l6⟩
  go_wp2_with fail
  refine (H1.out _).mono ?_
  rintro e w7 ⟨rfl, l7⟩
  have k7 := below_next (below_next (below_next (below_next l3 l4) l5) l6) l7
  have m7 := (M2.out.new2 (.int .u64 s0) (.int .u64 s1) 24).below k7
  have n7 := below_next n2 (below_of_alloc k7)
  clear g1 g2 g3 M2 n2 l3 l4 l5 l6 l7 k7
  have M7 := Lib.hid m7; clear m7
  go_wp2_with fail
  refine (H2.out _).mono ?_
  rintro e w8 ⟨rfl, l8⟩
  have m8 := (M7.out.new4 (.int .i64 h0) (.int .i64 h1) (.int .i64 h2) (.int .i64 h3) 35).below l8
  have n8 := below_next n7 (below_of_alloc l8)
  clear M7 n7 l8
  have M8 := Lib.hid m8; clear m8
  go_wp2_with fail
  refine (alive_any _).mono ?_
  rintro e w9 ⟨rfl, l9⟩
  have m9 := (M8.out.new4 (.int .i64 h0) (.int .i64 h1) (.int .i64 h2) (.int .i64 h3) 35).below l9
  have n9 := below_next n8 (below_of_alloc l9)
  clear M8 n8 l9
  obtain ⟨f1, f2, f3, f4, _⟩ := m9.four
  obtain ⟨f5, f6, f7, f8, _⟩ := m9.tail.tail.tail.tail.four
  obtain ⟨f9, f10, _⟩ := m9.tail.tail.tail.tail.tail.tail.tail.tail.two
  obtain ⟨f11, f12, _⟩ := m9.tail.tail.tail.tail.tail.tail.tail.tail.tail.tail.two
  clear m9
  have AE : ∀ w, (binOp .eql 35 (.agg #[.int .i64 h0, .int .i64 h1, .int .i64 h2, .int .i64 h3]) (.agg #[.int .i64 h0, .int .i64 h1, .int .i64 h2, .int .i64 h3])).run Try.prog w = .ok (.bool true) w := fun w => by rw [eql_ints4]; simp
  go_wp2_with fail
  go_ret
  exact ⟨rfl, n9⟩

end Go.Proofs.Ytdfgmjpoabgllaa
