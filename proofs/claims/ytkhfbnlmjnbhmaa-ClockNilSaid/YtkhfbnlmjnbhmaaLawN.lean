/- ClockNil: the walk. -/
import Derived.Test.YtkhfbnlmjnbhmaaAwake
namespace Go.Proofs.Ytkhfbnlmjnbhmaa
open Go.RowKit Go.Sort
set_option linter.unusedVariables false

theorem u64_nat {s : Int} (ws : (Lit.int .u64 s).wf = true) : ∃ k : Nat, s = (k : Int) ∧ k < 18446744073709551616 := by
  simp [Lit.wf, IntKind.min, IntKind.max, IntKind.signed, IntKind.bits] at ws
  exact ⟨s.toNat, by omega, by omega⟩
theorem i64_ok {s : Int} (ws : (Lit.int .i64 s).wf = true) : okI s := by
  simp [Lit.wf, IntKind.min, IntKind.max, IntKind.signed, IntKind.bits] at ws
  exact ⟨by omega, by omega⟩

set_option maxHeartbeats 2000000 in
theorem clockNil_law (n : Int) (wn : (Lit.int .i64 n).wf = true) (id : Int) (wi : (Lit.int .u64 id).wf = true) (W : World) :
    Calls Try.prog 6 #[.int .i64 n, .int .u64 id] W (LawOk W) := by
  obtain ⟨k, rfl, hk⟩ := u64_nat wi
  clear wn wi
  go_enter Try.func6, Try.ntmps6
  go_wp2_with fail
  refine (awake_any W).mono ?_; rintro e w1 ⟨rfl, b1⟩
  have B1 := Lib.hid b1; clear b1
  go_wp2_with fail
  refine (next_nil _).mono ?_; rintro e w2 ⟨rfl, rfl⟩
  go_wp2_with fail
  refine (pass_nil _ _).mono ?_; rintro e w2 ⟨rfl, rfl⟩
  go_wp2_with fail
  refine (turn_nil _ _).mono ?_; rintro e w2 ⟨rfl, rfl⟩
  go_wp2_with fail
  refine (now_nil _).mono ?_; rintro e w2 ⟨rfl, rfl⟩
  go_wp2_with fail
  refine (set_nil _ _ _).mono ?_; rintro e w2 ⟨rfl, rfl⟩
  go_wp2_with fail
  refine (stop_nil _ _).mono ?_; rintro e w2 ⟨rfl, rfl⟩
  go_wp2_with fail
  refine (due_nil _).mono ?_; rintro e w2 ⟨rfl, b2⟩
  have B2 := Lib.hid (below_next B1.out b2); clear b2
  go_wp2_with fail
  refine (count_nil _).mono ?_; rintro e w3 ⟨rfl, rfl⟩
  go_wp2_with fail
  go_ret
  exact ⟨rfl, B2.out⟩
end Go.Proofs.Ytkhfbnlmjnbhmaa
