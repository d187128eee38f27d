/- The small functions of package keys, each by what it computes. -/
import Derived.Test.YtbjcmomicjdepaaWord
import Derived.Test.YtbjcmomicjdepaaBi
import Derived.Deep.QuietTactic
import Derived.BigQuiet
import Derived.Deep.RegionWith
namespace Go.Proofs.Ytbjcmomicjdepaa
open Go.RowKit
set_option linter.unusedVariables false

abbrev pos (h l : Int) : Value := .agg #[.int .u64 h, .int .u64 l]

set_option maxHeartbeats 400000 in
theorem of_any (s : ByteArray) (hs : s.size ≤ maxLen) (w : World) :
    Calls Try.prog 96 #[.string s] w fun e w' => e = .returned (pos (word s 0) (word s 8)) ∧ Below w.heap.size w w' := by
  go_enter Try.func96, Try.ntmps96
  go_wp2_with fail
  refine (word_any s 0 (by omega) hs _).mono ?_
  rintro e w' ⟨rfl, rfl⟩
  go_wp2_with fail
  refine (word_any s 8 (by omega) hs _).mono ?_
  rintro e w' ⟨rfl, rfl⟩
  go_wp2_with fail
  exact bodyPost_ret (v := pos (word s 0) (word s 8)) (by simp [results, Try.results96, go_sem]) rfl ⟨rfl, (Below.refl _ _).alloc (Nat.le_refl _) _⟩

set_option maxHeartbeats 400000 in
theorem bucket_any (h l : Int) (h0 : 0 ≤ h) (h1 : h < 18446744073709551616) (w : World) :
    Calls Try.prog 95 #[pos h l] w fun e w' => e = .returned (.int .i64 (h / 288230376151711744)) ∧ Below w.heap.size w w' := by
  go_enter Try.func95, Try.ntmps95
  go_wp2_with fail
  go_ret
  exact ⟨rfl, (Below.refl _ _).alloc (Nat.le_refl _) _⟩

set_option maxHeartbeats 400000 in
theorem maykey_any (s : ByteArray) (hs : s.size ≤ maxLen) (w : World) :
    Calls Try.prog 64 #[.string s] w fun e w' => e = .returned (.bool (decide (1 ≤ s.size ∧ s.size ≤ 32))) ∧ w = w' := by
  unfold maxLen at hs
  go_enter Try.func64, Try.ntmps64
  go_wp2_with fail
  all_goals
    go_ret
    refine ⟨?_, rfl⟩
    refine ret_bool ?_
    rw [Bool.eq_iff_iff]
    simp
    try omega

set_option maxHeartbeats 400000 in
theorem isb_any (a : Int) (w : World) :
    Calls Try.prog 63 #[.int .i64 a] w fun e w' => e = .returned (.bool (decide (0 ≤ a ∧ a < 64))) ∧ w = w' := by
  go_enter Try.func63, Try.ntmps63
  go_wp2_with fail
  all_goals
    go_ret
    refine ⟨?_, rfl⟩
    refine ret_bool ?_
    rw [Bool.eq_iff_iff]
    simp
    try omega

set_option maxHeartbeats 400000 in
theorem isr_any (a : Int) (w : World) :
    Calls Try.prog 97 #[.int .i64 a] w fun e w' => e = .returned (.bool (decide (0 ≤ a ∧ a < 4))) ∧ w = w' := by
  go_enter Try.func97, Try.ntmps97
  go_wp2_with fail
  all_goals
    go_ret
    refine ⟨?_, rfl⟩
    refine ret_bool ?_
    rw [Bool.eq_iff_iff]
    simp
    try omega


abbrev pair (x e : Int) : Ending := .returned (.tuple #[.int .i64 x, .int .i64 e])

set_option maxHeartbeats 400000 in
theorem place_in (a i : Int) (h0 : 0 ≤ a) (h1 : a < 64) (h2 : 0 ≤ i) (h3 : i < 4) (w : World) :
    Calls Try.prog 71 #[.int .i64 a, .int .i64 i] w fun e w' => e = pair ((a + 16 * i) % 64) 0 ∧ w = w' := by
  go_enter Try.func71, Try.ntmps71
  go_wp2_with fail
  refine (isb_any a _).mono ?_
  rintro e w' ⟨rfl, rfl⟩
  go_wp2_with fail
  refine (isr_any i _).mono ?_
  rintro e w' ⟨rfl, rfl⟩
  go_wp2_with fail
  go_ret2
  exact ⟨rfl, rfl⟩

set_option maxHeartbeats 400000 in
theorem place_out (a i : Int) (h : ¬ (0 ≤ a ∧ a < 64 ∧ 0 ≤ i ∧ i < 4)) (w : World) :
    Calls Try.prog 71 #[.int .i64 a, .int .i64 i] w fun e w' => e = pair 0 1 ∧ w = w' := by
  by_cases hb : 0 ≤ a ∧ a < 64
  · have hr : ¬ (0 ≤ i ∧ i < 4) := by omega
    have e1 : decide (0 ≤ a ∧ a < 64) = true := by simpa using hb
    have e2 : decide (0 ≤ i ∧ i < 4) = false := by simpa using hr
    have c1 := isb_any a
    have c2 := isr_any i
    rw [e1] at c1
    rw [e2] at c2
    clear h hb hr e1 e2
    have C1 := Lib.hid c1; clear c1
    have C2 := Lib.hid c2; clear c2
    go_enter Try.func71, Try.ntmps71
    go_wp2_with fail
    refine (C1.out _).mono ?_
    rintro e w' ⟨rfl, rfl⟩
    go_wp2_with fail
    refine (C2.out _).mono ?_
    rintro e w' ⟨rfl, rfl⟩
    go_wp2_with fail
    go_ret2
    exact ⟨rfl, rfl⟩
  · have e1 : decide (0 ≤ a ∧ a < 64) = false := by simpa using hb
    have c1 := isb_any a
    rw [e1] at c1
    clear h hb e1
    have C1 := Lib.hid c1; clear c1
    go_enter Try.func71, Try.ntmps71
    go_wp2_with fail
    refine (C1.out _).mono ?_
    rintro e w' ⟨rfl, rfl⟩
    go_wp2_with fail
    go_ret2
    exact ⟨rfl, rfl⟩


theorem isb_yes (a : Int) (h0 : 0 ≤ a) (h1 : a < 64) (w : World) : Calls Try.prog 63 #[.int .i64 a] w fun e w' => e = .returned (.bool true) ∧ w = w' := by
  have := isb_any a w
  rwa [show decide (0 ≤ a ∧ a < 64) = true by simp; omega] at this
theorem isb_no (a : Int) (h : ¬ (0 ≤ a ∧ a < 64)) (w : World) : Calls Try.prog 63 #[.int .i64 a] w fun e w' => e = .returned (.bool false) ∧ w = w' := by
  have := isb_any a w
  rwa [show decide (0 ≤ a ∧ a < 64) = false by simp; omega] at this
abbrev ints4 (a b c d : Int) : Array Value := #[.int .i64 a, .int .i64 b, .int .i64 c, .int .i64 d]
abbrev pairH (a b c d e : Int) : Ending := .returned (.tuple #[.agg (ints4 a b c d), .int .i64 e])
/-- the homes of a bucket, the first k of them -/
def homesTo (b : Int) : Nat → Array Value
  | 0 => ints4 0 0 0 0
  | 1 => ints4 b 0 0 0
  | 2 => ints4 b ((b + 16) % 64) 0 0
  | 3 => ints4 b ((b + 16) % 64) ((b + 32) % 64) 0
  | _ => ints4 b ((b + 16) % 64) ((b + 32) % 64) ((b + 48) % 64)

set_option maxHeartbeats 400000 in
theorem homes_in (b : Int) (h0 : 0 ≤ b) (h1 : b < 64) (w : World) :
    Calls Try.prog 33 #[.int .i64 b] w fun e w' => e = pairH b ((b + 16) % 64) ((b + 32) % 64) ((b + 48) % 64) 0 ∧ Below w.heap.size w w' := by
  have R := Lib.hid (isb_yes b h0 h1)
  have hb : b % 64 = b := by omega
  go_enter Try.func33, Try.ntmps33
  go_wp2_with fail
  refine (R.out _).mono ?_
  rintro e w' ⟨rfl, rfl⟩
  go_wp2_with fail
  go_loopw [10] (fun i wr => ∃ k : Nat, k ≤ 4 ∧ i = .int .i64 k ∧ wr = (w.alloc (.cells (ints4 0 0 0 0) 80)).alloc (.cells (homesTo b k) 80)) (fun i _ => 4 - (intOf i).toNat)
  case atStart => exact ⟨0, Nat.zero_le _, rfl, rfl⟩
  case round =>
    obtain ⟨k, hk, rfl, rfl⟩ := hrel
    have hk5 : k = 0 ∨ k = 1 ∨ k = 2 ∨ k = 3 ∨ k = 4 := by omega
    rcases hk5 with rfl | rfl | rfl | rfl | rfl
    · simp only [homesTo]
      go_wp2
      go_roundw
      case rel => exact ⟨1, by omega, rfl, rfl⟩
      case measure => simp [intOf]
    · simp only [homesTo]
      go_wp2
      go_roundw
      case rel => exact ⟨2, by omega, rfl, rfl⟩
      case measure => simp [intOf]
    · simp only [homesTo]
      go_wp2
      go_roundw
      case rel => exact ⟨3, by omega, rfl, rfl⟩
      case measure => simp [intOf]
    · simp only [homesTo]
      go_wp2
      go_roundw
      case rel => exact ⟨4, by omega, rfl, rfl⟩
      case measure => simp [intOf]
    · simp only [homesTo]
      go_wp2
      refine bodyPost_ret (v := .tuple #[.agg (ints4 b ((b + 16) % 64) ((b + 32) % 64) ((b + 48) % 64)), .int .i64 0]) ?_ rfl ⟨rfl, ?_⟩
      · simp [results, Try.results33, go_sem]
      · exact below_alloc (below_alloc (Below.refl _ _) _) _

set_option maxHeartbeats 400000 in
theorem homes_out (b : Int) (h : ¬ (0 ≤ b ∧ b < 64)) (w : World) :
    Calls Try.prog 33 #[.int .i64 b] w fun e w' => e = pairH 0 0 0 0 1 ∧ Below w.heap.size w w' := by
  have R := Lib.hid (isb_no b h)
  clear h
  go_enter Try.func33, Try.ntmps33
  go_wp2_with fail
  refine (R.out _).mono ?_
  rintro e w' ⟨rfl, rfl⟩
  go_wp2_with fail
  refine bodyPost_ret (v := .tuple #[.agg (ints4 0 0 0 0), .int .i64 1]) ?_ rfl ⟨rfl, ?_⟩
  · simp [results, Try.results33, go_sem]
  · exact below_alloc (below_alloc (Below.refl _ _) _) _

set_option maxHeartbeats 400000 in
theorem mayvalue_any (s : ByteArray) (hs : s.size ≤ maxLen) (w : World) :
    Calls Try.prog 65 #[.string s] w fun e w' => e = .returned (.bool (decide ((s.size : Int) ≤ 64))) ∧ w = w' := by
  unfold maxLen at hs
  go_enter Try.func65, Try.ntmps65
  go_wp2_with fail
  go_ret
  exact ⟨rfl, rfl⟩

/-- a key's bucket -/
def kb (s : ByteArray) : Int := word s 0 / 288230376151711744

set_option maxHeartbeats 400000 in
theorem keybucket_any (s : ByteArray) (hs : s.size ≤ maxLen) (w : World) :
    Calls Try.prog 66 #[.string s] w fun e w' => e = .returned (.int .i64 (kb s)) ∧ Below w.heap.size w w' := by
  go_enter Try.func66, Try.ntmps66
  go_wp2_with fail
  refine (of_any s hs _).mono ?_
  rintro e w1 ⟨rfl, b1⟩
  go_wp2_with fail
  refine (bucket_any _ _ (word_nonneg _ _) (word_lt _ _) _).mono ?_
  rintro e w2 ⟨rfl, b2⟩
  go_wp2_with fail
  go_ret
  exact ⟨rfl, b1.trans (b2.mono b1.size)⟩


end Go.Proofs.Ytbjcmomicjdepaa
