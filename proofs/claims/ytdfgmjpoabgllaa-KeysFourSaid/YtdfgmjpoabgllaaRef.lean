/- The reference's functions of layer 1 (texts, positions, ranges), each by what it computes. -/
import Derived.Test.YtdfgmjpoabgllaaCmp
import Derived.Test.YtdfgmjpoabgllaaEnough
namespace Go.Proofs.Ytdfgmjpoabgllaa
open Go.RowKit
set_option linter.unusedVariables false

set_option maxHeartbeats 400000 in
theorem rmaykey_any (s : ByteArray) (hs : s.size ≤ maxLen) (w : World) :
    Calls Try.prog 13 #[.string s] w fun e w' => e = .returned (.bool (decide (1 ≤ s.size ∧ s.size ≤ 32))) ∧ w = w' := by
  unfold maxLen at hs
  go_enter Try.func13, Try.ntmps13
  go_wp2_with fail
  all_goals
    go_ret
    refine ⟨?_, rfl⟩
    refine ret_bool ?_
    rw [Bool.eq_iff_iff]
    simp
    try omega

set_option maxHeartbeats 400000 in
theorem rmayvalue_any (s : ByteArray) (hs : s.size ≤ maxLen) (w : World) :
    Calls Try.prog 15 #[.string s] w fun e w' => e = .returned (.bool (decide ((s.size : Int) ≤ 64))) ∧ w = w' := by
  unfold maxLen at hs
  go_enter Try.func15, Try.ntmps15
  go_wp2_with fail
  go_ret
  exact ⟨rfl, rfl⟩

set_option maxHeartbeats 400000 in
theorem mayvalue_any (s : ByteArray) (hs : s.size ≤ maxLen) (w : World) :
    Calls Try.prog 14 #[.string s] w fun e w' => e = .returned (.bool (decide ((s.size : Int) ≤ 64))) ∧ w = w' := by
  unfold maxLen at hs
  go_enter Try.func14, Try.ntmps14
  go_wp2_with fail
  go_ret
  exact ⟨rfl, rfl⟩

set_option maxHeartbeats 400000 in
theorem rbucket_any (h l : Int) (h0 : 0 ≤ h) (h1 : h < 18446744073709551616) (w : World) :
    Calls Try.prog 18 #[pos h l] w fun e w' => e = .returned (.int .i64 (h / 288230376151711744)) ∧ Below w.heap.size w w' := by
  go_enter Try.func18, Try.ntmps18
  go_wp2_with fail
  go_ret
  exact ⟨rfl, (Below.refl _ _).alloc (Nat.le_refl _) _⟩

set_option maxHeartbeats 400000 in
theorem renough_any (b0 b1 b2 b3 : Bool) (w : World) :
    Calls Try.prog 31 #[.agg (bools b0 b1 b2 b3)] w fun e w' => e = .returned (.bool (enoughB b0 b1 b2 b3)) ∧ w' = w.alloc (.cells (bools b0 b1 b2 b3) 39) := by
  go_enter Try.func31, Try.ntmps31
  go_wp2
  go_loop [3, 4] (fun t i => ∃ k : Nat, k ≤ 4 ∧ i = .int .i64 k ∧ t = .int .i64 (cnt ([b0, b1, b2, b3].take k))) (fun _ i => 4 - (intOf i).toNat)
  case atStart => exact ⟨0, Nat.zero_le _, rfl, rfl⟩
  case round =>
    obtain ⟨k, hk, rfl, rfl⟩ := hrel
    have hk5 : k = 0 ∨ k = 1 ∨ k = 2 ∨ k = 3 ∨ k = 4 := by omega
    rcases hk5 with rfl | rfl | rfl | rfl | rfl
    · cases b0
      all_goals
        go_wp2
        go_round
        case rel => exact ⟨1, by omega, rfl, by simp [cnt, wrap64]⟩
        case measure => simp [intOf]
    · cases b0 <;> cases b1
      all_goals
        go_wp2
        go_round
        case rel => exact ⟨2, by omega, rfl, by simp [cnt, wrap64]⟩
        case measure => simp [intOf]
    · cases b0 <;> cases b1 <;> cases b2
      all_goals
        go_wp2
        go_round
        case rel => exact ⟨3, by omega, rfl, by simp [cnt, wrap64]⟩
        case measure => simp [intOf]
    · cases b0 <;> cases b1 <;> cases b2 <;> cases b3
      all_goals
        go_wp2
        go_round
        case rel => exact ⟨4, by omega, rfl, by simp [cnt, wrap64]⟩
        case measure => simp [intOf]
    · go_wp2
      go_ret
      exact ⟨by simp [enoughB], rfl⟩

set_option maxHeartbeats 400000 in
theorem rof_any (s : ByteArray) (hs : s.size ≤ maxLen) (w : World) :
    Calls Try.prog 16 #[.string s] w fun e w' => e = .returned (pos (word s 0) (word s 8)) ∧ Below w.heap.size w w' := by
  unfold maxLen at hs
  go_enter Try.func16, Try.ntmps16
  go_wp2
  go_loopw [4, 5] (fun i _ wr => ∃ k : Nat, k ≤ 16 ∧ i = .int .i64 k ∧ wr = (w.alloc (.cells #[.int .u64 0, .int .u64 0] 24)).alloc (.cells #[.int .u64 (wordTo s 0 (min k 8) : Nat), .int .u64 (wordTo s 8 (k - 8) : Nat)] 24)) (fun i _ _ => 16 - (intOf i).toNat)
  case atStart => exact ⟨0, by omega, rfl, rfl⟩
  case round =>
    obtain ⟨k, hk, rfl, rfl⟩ := hrel
    by_cases h16 : k < 16
    · by_cases h8 : k < 8
      · have e1 : min k 8 = k := by omega
        have e2 : k - 8 = 0 := by omega
        have e3 : min (k + 1) 8 = k + 1 := by omega
        have e4 : k + 1 - 8 = 0 := by omega
        rw [e1, e2]
        have s0 := wordTo_small s 0 k h8
        by_cases hin : k < s.size
        · have HW := Lib.hid (word_in2 s 0 k k h8 (by omega) hin)
          have E3 := Lib.hid e3
          have E4 := Lib.hid e4
          clear e1 e2 e3 e4
          simp only [show wordTo s 8 0 = 0 from rfl]
          go_wp2
          go_roundw
          case rel => exact ⟨k + 1, by omega, by go_num, by rw [HW.out, E3.out, E4.out]; rfl⟩
          case measure => simp [intOf]; omega
        · have HW := Lib.hid (word_out2 s 0 k (by omega))
          have E3 := Lib.hid e3
          have E4 := Lib.hid e4
          clear e1 e2 e3 e4
          simp only [show wordTo s 8 0 = 0 from rfl]
          go_wp2
          go_roundw
          case rel => exact ⟨k + 1, by omega, by go_num, by rw [HW.out, E3.out, E4.out]; rfl⟩
          case measure => simp [intOf]; omega
      · obtain ⟨j, rfl⟩ : ∃ j, k = 8 + j := ⟨k - 8, by omega⟩
        have e1 : min (8 + j) 8 = 8 := by omega
        have e2 : 8 + j - 8 = j := by omega
        have e3 : min (8 + j + 1) 8 = 8 := by omega
        have e4 : 8 + j + 1 - 8 = j + 1 := by omega
        rw [e1, e2]
        have s0 := wordTo_small s 8 j (by omega)
        by_cases hin : 8 + j < s.size
        · have HW := Lib.hid (word_in2 s 8 j (8 + j) (by omega) rfl hin)
          have E3 := Lib.hid e3
          have E4 := Lib.hid e4
          clear e1 e2 e3 e4
          go_wp2
          go_roundw
          case rel => exact ⟨8 + j + 1, by omega, by go_num, by rw [HW.out, E3.out, E4.out]⟩
          case measure => simp [intOf]; omega
        · have HW := Lib.hid (word_out2 s 8 j (by omega))
          have E3 := Lib.hid e3
          have E4 := Lib.hid e4
          clear e1 e2 e3 e4
          go_wp2
          go_roundw
          case rel => exact ⟨8 + j + 1, by omega, by go_num, by rw [HW.out, E3.out, E4.out]⟩
          case measure => simp [intOf]; omega
    · obtain rfl : k = 16 := by omega
      go_wp2
      exact bodyPost_ret (v := pos (word s 0) (word s 8)) (by simp [results, Try.results16, go_sem, word]) rfl ⟨rfl, (Below.refl _ _).alloc (Nat.le_refl _) _ |>.alloc (by simp) _⟩

end Go.Proofs.Ytdfgmjpoabgllaa
