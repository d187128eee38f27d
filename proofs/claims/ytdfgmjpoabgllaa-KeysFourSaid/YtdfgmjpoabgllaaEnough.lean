/- Enough: the calls of keys.Enough and of the reference's, by four bools. -/
import Derived.Test.YtdfgmjpoabgllaaRows
import Derived.WalkKit
import Derived.WalkSpells
import Derived.WalkLawsBesides
namespace Go.Proofs.Ytdfgmjpoabgllaa
open Go.RowKit

def cnt (l : List Bool) : Int := ((l.filter id).length : Nat)
def enoughB (a b c d : Bool) : Bool := decide (3 ≤ cnt [a, b, c, d])
abbrev bools (a b c d : Bool) : Array Value := #[.bool a, .bool b, .bool c, .bool d]

set_option maxHeartbeats 400000 in
theorem enough_any (b0 b1 b2 b3 : Bool) (w : World) :
    Calls Try.prog 30 #[.agg (bools b0 b1 b2 b3)] w fun e w' => e = .returned (.bool (enoughB b0 b1 b2 b3)) ∧ w' = w.alloc (.cells (bools b0 b1 b2 b3) 39) := by
  have i0 : ∀ w : World, (Instr.index 39 (.agg #[.bool b0, .bool b1, .bool b2, .bool b3]) (.int .i64 0)).run Try.prog w = .ok (.bool b0) w := fun _ => by kernel_rfl
  have i1 : ∀ w : World, (Instr.index 39 (.agg #[.bool b0, .bool b1, .bool b2, .bool b3]) (.int .i64 1)).run Try.prog w = .ok (.bool b1) w := fun _ => by kernel_rfl
  have i2 : ∀ w : World, (Instr.index 39 (.agg #[.bool b0, .bool b1, .bool b2, .bool b3]) (.int .i64 2)).run Try.prog w = .ok (.bool b2) w := fun _ => by kernel_rfl
  have i3 : ∀ w : World, (Instr.index 39 (.agg #[.bool b0, .bool b1, .bool b2, .bool b3]) (.int .i64 3)).run Try.prog w = .ok (.bool b3) w := fun _ => by kernel_rfl
  go_enter Try.func30, Try.ntmps30
  go_wp2
  go_loop [3, 7] (fun t i => ∃ k : Nat, k ≤ 4 ∧ i = .int .i64 k ∧ t = .int .i64 (cnt ([b0, b1, b2, b3].take k))) (fun _ i => 4 - (intOf i).toNat)
  case atStart => exact ⟨0, Nat.zero_le _, rfl, rfl⟩
  case round =>
    obtain ⟨k, hk, rfl, rfl⟩ := hrel
    have hk5 : k = 0 ∨ k = 1 ∨ k = 2 ∨ k = 3 ∨ k = 4 := by omega
    rcases hk5 with rfl | rfl | rfl | rfl | rfl
    · cases b0
      all_goals
        go_wp2
        go_round
        case rel => exact ⟨1, by omega, rfl, by simp [cnt, wrap64]⟩
        case measure => simp [intOf]
    · cases b0 <;> cases b1
      all_goals
        go_wp2
        go_round
        case rel => exact ⟨2, by omega, rfl, by simp [cnt, wrap64]⟩
        case measure => simp [intOf]
    · cases b0 <;> cases b1 <;> cases b2
      all_goals
        go_wp2
        go_round
        case rel => exact ⟨3, by omega, rfl, by simp [cnt, wrap64]⟩
        case measure => simp [intOf]
    · cases b0 <;> cases b1 <;> cases b2 <;> cases b3
      all_goals
        go_wp2
        go_round
        case rel => exact ⟨4, by omega, rfl, by simp [cnt, wrap64]⟩
        case measure => simp [intOf]
    · go_wp2
      go_ret
      exact ⟨by simp [enoughB], rfl⟩

end Go.Proofs.Ytdfgmjpoabgllaa
