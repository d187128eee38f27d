/- NetNil: the walk. -/
import Derived.Test.YtggdhebbhkoogaaAwake
namespace Go.Proofs.Ytggdhebbhkoogaa
open Go.RowKit Go.Sort
set_option linter.unusedVariables false

theorem u64_nat {s : Int} (ws : (Lit.int .u64 s).wf = true) : ∃ k : Nat, s = (k : Int) ∧ k < 18446744073709551616 := by
  simp [Lit.wf, IntKind.min, IntKind.max, IntKind.signed, IntKind.bits] at ws
  exact ⟨s.toNat, by omega, by omega⟩

set_option maxRecDepth 100000 in
set_option maxHeartbeats 4000000 in
theorem netNil_law (id : Int) (wi : (Lit.int .u64 id).wf = true) (ao : Option Addr) (n cap : Nat) (l : List Nat) (hl : l.length = n) (hcap : n ≤ cap) (hmax : cap ≤ maxLen) (hz : n ≤ 140737488351232) (W : World) (hr : Rd W ao l) :
    Calls Try.prog 5 #[.int .u64 id, .slice ao n cap] W (LawOk W) := by
  clear hl hcap hmax hz hr
  obtain ⟨k, rfl, hk⟩ := u64_nat wi
  clear wi
  go_enter Try.func5, Try.ntmps5
  go_wp2_with fail
  refine (awake_any W).mono ?_; rintro e w1 ⟨rfl, b1⟩
  have B1 := Lib.hid b1; clear b1
  go_wp2_with fail
  refine (send_nil _ _ _ _).mono ?_; rintro e w2 ⟨rfl, rfl⟩
  go_wp2_with fail
  refine (take_nil _ _).mono ?_; rintro e w2 ⟨rfl, b2⟩
  have B2 := Lib.hid (below_alloc (below_next B1.out b2) zobj); clear b2
  go_wp2_with fail
  refine (look_nil _ _).mono ?_; rintro e w3 ⟨ao, cap, rfl, b3⟩
  have B3 := Lib.hid (below_alloc (below_next B2.out b3) (.cells #[.int .u64 0, .int .i64 0, .int .i64 0, .slice ao 0 cap] 52)); clear b3 B1 B2
  go_wp2_with fail
  refine (twice_nil _ _).mono ?_; rintro e w4 ⟨rfl, b4⟩
  have B4 := Lib.hid (below_next B3.out b4); clear b4 B3
  go_wp2_with fail
  refine (lose_nil _ _).mono ?_; rintro e w5 ⟨rfl, b5⟩
  have B5 := Lib.hid (below_next B4.out b5); clear b5 B4
  go_wp2_with fail
  refine (spoil_nil _ _ _ _).mono ?_; rintro e w6 ⟨rfl, b6⟩
  have B6 := Lib.hid (below_next B5.out b6); clear b6 B5
  go_wp2_with fail
  refine (forget_nil _ _).mono ?_; rintro e w7 ⟨rfl, b7⟩
  have B7 := Lib.hid (below_next B6.out b7); clear b7 B6
  go_wp2_with fail
  refine (list_nil _).mono ?_; rintro e w8 ⟨rfl, rfl⟩
  go_wp2_with fail
  refine (count_nil _).mono ?_; rintro e w8 ⟨rfl, rfl⟩
  go_wp2_with fail
  refine (told_nil _).mono ?_; rintro e w8 ⟨rfl, b8⟩
  have B8 := Lib.hid (below_next B7.out b8); clear b8 B7
  go_wp2_with fail
  go_ret
  exact ⟨rfl, B8.out⟩
end Go.Proofs.Ytggdhebbhkoogaa
