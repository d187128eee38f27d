/- The four homes of a bucket, and the reference's buckets at places: package keys and the reference. -/
import Derived.Test.YtdfgmjpoabgllaaSym
namespace Go.Proofs.Ytdfgmjpoabgllaa
open Go.RowKit
set_option linter.unusedVariables false

set_option maxHeartbeats 400000 in
theorem rbucketat_in (a i : Int) (h0 : 0 ≤ a) (h1 : a < 64) (h2 : 0 ≤ i) (h3 : i < 4) (w : World) :
    Calls Try.prog 25 #[.int .i64 a, .int .i64 i] w fun e w' => e = pair ((a - 16 * i) % 64) 0 ∧ w = w' := by
  have R := Lib.hid (fun (b : Int) (k0 : 0 ≤ b) (k1 : b < 64) => rplace_in b i k0 k1 h2 h3)
  obtain ⟨t, ht⟩ : ∃ t : Int, t = (a - 16 * i) % 64 := ⟨_, rfl⟩
  have t0 : 0 ≤ t := by omega
  have t1 : t < 64 := by omega
  have hit : (t + 16 * i) % 64 = a := by omega
  have miss : ∀ b : Int, 0 ≤ b → b < t → (b + 16 * i) % 64 ≠ a := by intro b _ _; omega
  rw [← ht]
  have HT := Lib.hid hit
  have HM := Lib.hid miss
  clear ht hit miss
  go_enter Try.func25, Try.ntmps25
  go_wp2_with fail
  go_loop [6] (fun b => ∃ k : Nat, (k : Int) ≤ t ∧ b = .int .i64 k) (fun b => 64 - (intOf b).toNat)
  case atStart => exact ⟨0, by omega, rfl⟩
  case round =>
    obtain ⟨k, hk, rfl⟩ := hrel
    by_cases hlt : (k : Int) < t
    · have hne : ((((k : Int) + 16 * i) % 64) == a) = false := by simpa using HM.out k (by omega) hlt
      go_wp2_with fail
      refine (R.out k (by omega) (by omega) _).mono ?_
      rintro e w' ⟨rfl, rfl⟩
      go_wp2_with fail
      go_round
      case rel => exact ⟨k + 1, by omega, by go_num⟩
      case measure => simp [intOf]; omega
    · obtain rfl : t = (k : Int) := by omega
      have heq : ((((k : Int) + 16 * i) % 64) == a) = true := by simpa using HT.out
      go_wp2_with fail
      refine (R.out k (by omega) (by omega) _).mono ?_
      rintro e w' ⟨rfl, rfl⟩
      go_wp2_with fail
      go_ret2
      exact ⟨rfl, rfl⟩

set_option maxHeartbeats 400000 in
theorem rbucketat_out (a i : Int) (h : ¬ (0 ≤ a ∧ a < 64 ∧ 0 ≤ i ∧ i < 4)) (w : World) :
    Calls Try.prog 25 #[.int .i64 a, .int .i64 i] w fun e w' => e = pair 0 1 ∧ w = w' := by
  by_cases hi : 0 ≤ i ∧ i < 4
  · have R := Lib.hid (fun (b : Int) (k0 : 0 ≤ b) (k1 : b < 64) => rplace_in b i k0 k1 hi.1 hi.2)
    have HM := Lib.hid (show ∀ b : Int, (b + 16 * i) % 64 ≠ a by intro b; omega)
    clear h hi
    go_enter Try.func25, Try.ntmps25
    go_wp2_with fail
    go_loop [6] (fun b => ∃ k : Nat, k ≤ 64 ∧ b = .int .i64 k) (fun b => 64 - (intOf b).toNat)
    case atStart => exact ⟨0, by omega, rfl⟩
    case round =>
      obtain ⟨k, hk, rfl⟩ := hrel
      by_cases hlt : k < 64
      · have hne : ((((k : Int) + 16 * i) % 64) == a) = false := by simpa using HM.out k
        go_wp2_with fail
        refine (R.out k (by omega) (by omega) _).mono ?_
        rintro e w' ⟨rfl, rfl⟩
        go_wp2_with fail
        go_round
        case rel => exact ⟨k + 1, by omega, by go_num⟩
        case measure => simp [intOf]; omega
      · go_wp2_with fail
        go_ret2
        exact ⟨rfl, rfl⟩
  · have R := Lib.hid (fun (b : Int) => rplace_out b i (by omega))
    clear h hi
    go_enter Try.func25, Try.ntmps25
    go_wp2_with fail
    go_loop [6] (fun b => ∃ k : Nat, k ≤ 64 ∧ b = .int .i64 k) (fun b => 64 - (intOf b).toNat)
    case atStart => exact ⟨0, by omega, rfl⟩
    case round =>
      obtain ⟨k, hk, rfl⟩ := hrel
      by_cases hlt : k < 64
      · go_wp2_with fail
        refine (R.out k _).mono ?_
        rintro e w' ⟨rfl, rfl⟩
        go_wp2_with fail
        go_round
        case rel => exact ⟨k + 1, by omega, by go_num⟩
        case measure => simp [intOf]; omega
      · go_wp2_with fail
        go_ret2
        exact ⟨rfl, rfl⟩

abbrev ints4 (a b c d : Int) : Array Value := #[.int .i64 a, .int .i64 b, .int .i64 c, .int .i64 d]
abbrev pairH (a b c d e : Int) : Ending := .returned (.tuple #[.agg (ints4 a b c d), .int .i64 e])
/-- the homes of a bucket, the first k of them -/
def homesTo (b : Int) : Nat → Array Value
  | 0 => ints4 0 0 0 0
  | 1 => ints4 b 0 0 0
  | 2 => ints4 b ((b + 16) % 64) 0 0
  | 3 => ints4 b ((b + 16) % 64) ((b + 32) % 64) 0
  | _ => ints4 b ((b + 16) % 64) ((b + 32) % 64) ((b + 48) % 64)

set_option maxHeartbeats 400000 in
theorem homes_in (b : Int) (h0 : 0 ≤ b) (h1 : b < 64) (w : World) :
    Calls Try.prog 26 #[.int .i64 b] w fun e w' => e = pairH b ((b + 16) % 64) ((b + 32) % 64) ((b + 48) % 64) 0 ∧ Below w.heap.size w w' := by
  have R := Lib.hid (isb_yes b h0 h1)
  have hb : b % 64 = b := by omega
  go_enter Try.func26, Try.ntmps26
  go_wp2_with fail
  refine (R.out _).mono ?_
  rintro e w' ⟨rfl, rfl⟩
  go_wp2_with fail
  go_loopw [10] (fun i wr => ∃ k : Nat, k ≤ 4 ∧ i = .int .i64 k ∧ wr = (w.alloc (.cells (ints4 0 0 0 0) 35)).alloc (.cells (homesTo b k) 35)) (fun i _ => 4 - (intOf i).toNat)
  case atStart => exact ⟨0, Nat.zero_le _, rfl, rfl⟩
  case round =>
    obtain ⟨k, hk, rfl, rfl⟩ := hrel
    have hk5 : k = 0 ∨ k = 1 ∨ k = 2 ∨ k = 3 ∨ k = 4 := by omega
    rcases hk5 with rfl | rfl | rfl | rfl | rfl
    · simp only [homesTo]
      go_wp2
      go_roundw
      case rel => exact ⟨1, by omega, rfl, rfl⟩
      case measure => simp [intOf]
    · simp only [homesTo]
      go_wp2
      go_roundw
      case rel => exact ⟨2, by omega, rfl, rfl⟩
      case measure => simp [intOf]
    · simp only [homesTo]
      go_wp2
      go_roundw
      case rel => exact ⟨3, by omega, rfl, rfl⟩
      case measure => simp [intOf]
    · simp only [homesTo]
      go_wp2
      go_roundw
      case rel => exact ⟨4, by omega, rfl, rfl⟩
      case measure => simp [intOf]
    · simp only [homesTo]
      go_wp2
      refine bodyPost_ret (v := .tuple #[.agg (ints4 b ((b + 16) % 64) ((b + 32) % 64) ((b + 48) % 64)), .int .i64 0]) ?_ rfl ⟨rfl, ?_⟩
      · simp [results, Try.results26, go_sem]
      · exact below_alloc (below_alloc (Below.refl _ _) _) _

set_option maxHeartbeats 400000 in
theorem homes_out (b : Int) (h : ¬ (0 ≤ b ∧ b < 64)) (w : World) :
    Calls Try.prog 26 #[.int .i64 b] w fun e w' => e = pairH 0 0 0 0 1 ∧ Below w.heap.size w w' := by
  have R := Lib.hid (isb_no b h)
  clear h
  go_enter Try.func26, Try.ntmps26
  go_wp2_with fail
  refine (R.out _).mono ?_
  rintro e w' ⟨rfl, rfl⟩
  go_wp2_with fail
  refine bodyPost_ret (v := .tuple #[.agg (ints4 0 0 0 0), .int .i64 1]) ?_ rfl ⟨rfl, ?_⟩
  · simp [results, Try.results26, go_sem]
  · exact below_alloc (below_alloc (Below.refl _ _) _) _

set_option maxHeartbeats 400000 in
theorem rhomes_in (b : Int) (h0 : 0 ≤ b) (h1 : b < 64) (w : World) :
    Calls Try.prog 27 #[.int .i64 b] w fun e w' => e = pairH b ((b + 16) % 64) ((b + 32) % 64) ((b + 48) % 64) 0 ∧ Below w.heap.size w w' := by
  have R0 := Lib.hid (fun w => (rplace_in b 0 h0 h1 (by omega) (by omega) w))
  have R1 := Lib.hid (fun w => (rplace_in b 1 h0 h1 (by omega) (by omega) w))
  have R2 := Lib.hid (fun w => (rplace_in b 2 h0 h1 (by omega) (by omega) w))
  have R3 := Lib.hid (fun w => (rplace_in b 3 h0 h1 (by omega) (by omega) w))
  have hb : b % 64 = b := by omega
  go_enter Try.func27, Try.ntmps27
  go_wp2_with fail
  go_loopw [5] (fun i wr => ∃ k : Nat, k ≤ 4 ∧ i = .int .i64 k ∧ wr = (w.alloc (.cells (ints4 0 0 0 0) 35)).alloc (.cells (homesTo b k) 35)) (fun i _ => 4 - (intOf i).toNat)
  case atStart => exact ⟨0, Nat.zero_le _, rfl, rfl⟩
  case round =>
    obtain ⟨k, hk, rfl, rfl⟩ := hrel
    have hk5 : k = 0 ∨ k = 1 ∨ k = 2 ∨ k = 3 ∨ k = 4 := by omega
    rcases hk5 with rfl | rfl | rfl | rfl | rfl
    · simp only [homesTo]
      go_wp2_with fail
      refine (R0.out _).mono ?_
      rintro e w' ⟨rfl, rfl⟩
      go_wp2_with fail
      go_roundw
      case rel => exact ⟨1, by omega, rfl, rfl⟩
      case measure => simp [intOf]
    · simp only [homesTo]
      go_wp2_with fail
      refine (R1.out _).mono ?_
      rintro e w' ⟨rfl, rfl⟩
      go_wp2_with fail
      go_roundw
      case rel => exact ⟨2, by omega, rfl, rfl⟩
      case measure => simp [intOf]
    · simp only [homesTo]
      go_wp2_with fail
      refine (R2.out _).mono ?_
      rintro e w' ⟨rfl, rfl⟩
      go_wp2_with fail
      go_roundw
      case rel => exact ⟨3, by omega, rfl, rfl⟩
      case measure => simp [intOf]
    · simp only [homesTo]
      go_wp2_with fail
      refine (R3.out _).mono ?_
      rintro e w' ⟨rfl, rfl⟩
      go_wp2_with fail
      go_roundw
      case rel => exact ⟨4, by omega, rfl, rfl⟩
      case measure => simp [intOf]
    · simp only [homesTo]
      go_wp2_with fail
      refine bodyPost_ret (v := .tuple #[.agg (ints4 b ((b + 16) % 64) ((b + 32) % 64) ((b + 48) % 64)), .int .i64 0]) ?_ rfl ⟨rfl, ?_⟩
      · simp [results, Try.results27, go_sem]
      · exact below_alloc (below_alloc (Below.refl _ _) _) _

set_option maxHeartbeats 400000 in
theorem rhomes_out (b : Int) (h : ¬ (0 ≤ b ∧ b < 64)) (w : World) :
    Calls Try.prog 27 #[.int .i64 b] w fun e w' => e = pairH 0 0 0 0 1 ∧ Below w.heap.size w w' := by
  have R := Lib.hid (fun w => rplace_out b 0 (by omega) w)
  clear h
  go_enter Try.func27, Try.ntmps27
  go_wp2_with fail
  refine wp_loop_rounds 1 ?_
  rw [rounds_succ]
  go_wp2_with fail
  refine (R.out _).mono ?_
  rintro e w' ⟨rfl, rfl⟩
  go_wp2_with fail
  refine bodyPost_ret (v := .tuple #[.agg (ints4 0 0 0 0), .int .i64 1]) ?_ rfl ⟨rfl, ?_⟩
  · simp [results, Try.results27, go_sem]
  · exact below_alloc (below_alloc (Below.refl _ _) _) _

end Go.Proofs.Ytdfgmjpoabgllaa
