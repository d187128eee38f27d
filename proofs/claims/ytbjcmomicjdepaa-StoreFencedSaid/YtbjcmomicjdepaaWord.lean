/- keys.word: eight bytes from a place on, as a number. -/
import Derived.Test.YtbjcmomicjdepaaRows
import Derived.Test.YtbjcmomicjdepaaNum
import Derived.WalkSpells
import Derived.WalkLawsBesides
namespace Go.Proofs.Ytbjcmomicjdepaa
open Go.RowKit

set_option maxHeartbeats 400000 in
theorem word_any (s : ByteArray) (a : Nat) (ha : a ≤ 8) (hs : s.size ≤ maxLen) (w : World) :
    Calls Try.prog 100 #[.string s, .int .i64 a] w fun e w' => e = .returned (.int .u64 (word s a)) ∧ w = w' := by
  unfold maxLen at hs
  go_enter Try.func100, Try.ntmps100
  go_wp2
  go_loop [5, 6] (fun t i => ∃ k : Nat, k ≤ 8 ∧ i = .int .i64 (a + k : Nat) ∧ t = .int .u64 (wordTo s a k : Nat)) (fun _ i => 16 - (intOf i).toNat)
  case atStart => exact ⟨0, Nat.zero_le _, rfl, rfl⟩
  case round =>
    obtain ⟨k, hk, rfl, rfl⟩ := hrel
    by_cases h8 : k < 8
    · by_cases hin : a + k < s.size
      · have HS := Lib.hid (word_in s a k h8 hin)
        go_wp2
        go_round
        case rel => exact ⟨k + 1, by omega, by go_num, by rw [HS.out]⟩
        case measure => simp [intOf]; omega
      · have HS := Lib.hid (word_out s a k h8 hin)
        go_wp2
        go_round
        case rel => exact ⟨k + 1, by omega, by go_num, by rw [HS.out]⟩
        case measure => simp [intOf]; omega
    · go_wp2
      go_ret
      obtain rfl : k = 8 := by omega
      exact ⟨rfl, rfl⟩

end Go.Proofs.Ytbjcmomicjdepaa
