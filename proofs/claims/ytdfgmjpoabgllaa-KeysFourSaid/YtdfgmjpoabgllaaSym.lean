/- Symmetric positions, buckets at places: package keys and the reference. -/
import Derived.Test.YtdfgmjpoabgllaaRef
namespace Go.Proofs.Ytdfgmjpoabgllaa
open Go.RowKit
set_option linter.unusedVariables false

/-- the upper half of the i-th symmetric position -/
def symH (h i : Int) : Int := (h + i * 4611686018427387904) % 18446744073709551616

theorem symH_zero (h : Int) (h0 : 0 ≤ h) (h1 : h < 18446744073709551616) : symH h 0 = h := by unfold symH; omega
theorem symH_code (h i : Int) (h0 : 0 ≤ h) (h1 : h < 18446744073709551616) (i0 : 0 ≤ i) (i1 : i < 4) :
    IntKind.u64.wrap (h + i * 4611686018427387904) = symH h i := by
  rw [IntKind.wrap_u64]; unfold symH; omega
theorem symH_step (h k : Int) (h0 : 0 ≤ h) (h1 : h < 18446744073709551616) :
    IntKind.u64.wrap (symH h k + 4611686018427387904) = symH h (k + 1) := by
  rw [IntKind.wrap_u64]; unfold symH; omega
theorem symH_nonneg (h i : Int) : 0 ≤ symH h i := by unfold symH; omega
theorem symH_lt (h i : Int) : symH h i < 18446744073709551616 := by unfold symH; omega
theorem symH_twice (h i j : Int) : symH (symH h i) j = symH h ((i + j) % 4) := by unfold symH; omega
/-- the bucket of the i-th symmetric position -/
theorem symH_bucket (h i : Int) (h0 : 0 ≤ h) (h1 : h < 18446744073709551616) (i0 : 0 ≤ i) (i1 : i < 4) :
    symH h i / 288230376151711744 = (h / 288230376151711744 + 16 * i) % 64 := by unfold symH; omega

theorem pair_eq {x y e : Int} (h : x = y) : pair x e = pair y e := by rw [h]
abbrev pairP (h l e : Int) : Ending := .returned (.tuple #[pos h l, .int .i64 e])

theorem isr_yes (a : Int) (h0 : 0 ≤ a) (h1 : a < 4) (w : World) : Calls Try.prog 34 #[.int .i64 a] w fun e w' => e = .returned (.bool true) ∧ w = w' := by
  have := isr_any a w
  rwa [show decide (0 ≤ a ∧ a < 4) = true by simp; omega] at this
theorem isr_no (a : Int) (h : ¬ (0 ≤ a ∧ a < 4)) (w : World) : Calls Try.prog 34 #[.int .i64 a] w fun e w' => e = .returned (.bool false) ∧ w = w' := by
  have := isr_any a w
  rwa [show decide (0 ≤ a ∧ a < 4) = false by simp; omega] at this
theorem isp_yes (a : Int) (h0 : 0 ≤ a) (h1 : a < 64) (w : World) : Calls Try.prog 36 #[.int .i64 a] w fun e w' => e = .returned (.bool true) ∧ w = w' := by
  have := isp_any a w
  rwa [show decide (0 ≤ a ∧ a < 64) = true by simp; omega] at this
theorem isp_no (a : Int) (h : ¬ (0 ≤ a ∧ a < 64)) (w : World) : Calls Try.prog 36 #[.int .i64 a] w fun e w' => e = .returned (.bool false) ∧ w = w' := by
  have := isp_any a w
  rwa [show decide (0 ≤ a ∧ a < 64) = false by simp; omega] at this
theorem isb_yes (a : Int) (h0 : 0 ≤ a) (h1 : a < 64) (w : World) : Calls Try.prog 35 #[.int .i64 a] w fun e w' => e = .returned (.bool true) ∧ w = w' := by
  have := isb_any a w
  rwa [show decide (0 ≤ a ∧ a < 64) = true by simp; omega] at this
theorem isb_no (a : Int) (h : ¬ (0 ≤ a ∧ a < 64)) (w : World) : Calls Try.prog 35 #[.int .i64 a] w fun e w' => e = .returned (.bool false) ∧ w = w' := by
  have := isb_any a w
  rwa [show decide (0 ≤ a ∧ a < 64) = false by simp; omega] at this

set_option maxHeartbeats 400000 in
theorem sym_in (h l i : Int) (h0 : 0 ≤ h) (h1 : h < 18446744073709551616) (i0 : 0 ≤ i) (i1 : i < 4) (w : World) :
    Calls Try.prog 20 #[pos h l, .int .i64 i] w fun e w' => e = pairP (symH h i) l 0 ∧ Below w.heap.size w w' := by
  have HC := Lib.hid (symH_code h i h0 h1 i0 i1)
  have R := Lib.hid (isr_yes i i0 i1)
  clear h1
  go_enter Try.func20, Try.ntmps20
  go_wp2_with fail
  refine (R.out _).mono ?_
  rintro e w1 ⟨rfl, rfl⟩
  go_wp2_with fail
  refine bodyPost_ret (v := .tuple #[pos (symH h i) l, .int .i64 0]) ?_ rfl ⟨rfl, ?_⟩
  · simp [results, Try.results20, go_sem]
    exact HC.out
  · exact below_alloc (below_alloc (Below.refl _ _) _) _

set_option maxHeartbeats 400000 in
theorem sym_out (h l i : Int) (hi : ¬ (0 ≤ i ∧ i < 4)) (w : World) :
    Calls Try.prog 20 #[pos h l, .int .i64 i] w fun e w' => e = pairP 0 0 1 ∧ Below w.heap.size w w' := by
  have R := Lib.hid (isr_no i hi)
  clear hi
  go_enter Try.func20, Try.ntmps20
  go_wp2_with fail
  refine (R.out _).mono ?_
  rintro e w1 ⟨rfl, rfl⟩
  go_wp2_with fail
  refine bodyPost_ret (v := .tuple #[pos 0 0, .int .i64 1]) ?_ rfl ⟨rfl, ?_⟩
  · simp [results, Try.results20, go_sem]
  · exact below_alloc (below_alloc (Below.refl _ _) _) _

set_option maxHeartbeats 400000 in
theorem rsym_out (h l i : Int) (hi : ¬ (0 ≤ i ∧ i < 4)) (w : World) :
    Calls Try.prog 21 #[pos h l, .int .i64 i] w fun e w' => e = pairP 0 0 1 ∧ Below w.heap.size w w' := by
  have hw : i < 0 ∨ (¬ i < 0 ∧ 3 < i) := by omega
  clear hi
  rcases hw with hi | ⟨hi, hj⟩
  all_goals
    go_enter Try.func21, Try.ntmps21
    go_wp2_with fail
    refine bodyPost_ret (v := .tuple #[pos 0 0, .int .i64 1]) ?_ rfl ⟨rfl, ?_⟩
    · simp [results, Try.results21, go_sem]
    · exact below_alloc (below_alloc (Below.refl _ _) _) _

set_option maxHeartbeats 400000 in
theorem rsym_in (h l i : Int) (h0 : 0 ≤ h) (h1 : h < 18446744073709551616) (i0 : 0 ≤ i) (i1 : i < 4) (w : World) :
    Calls Try.prog 21 #[pos h l, .int .i64 i] w fun e w' => e = pairP (symH h i) l 0 ∧ Below w.heap.size w w' := by
  have HZ := Lib.hid (symH_zero h h0 h1)
  have HS := Lib.hid (fun k : Int => symH_step h k h0 h1)
  have HN := symH_nonneg h
  clear h1
  go_enter Try.func21, Try.ntmps21
  go_wp2_with fail
  go_loopw [6] (fun k wr => ∃ j : Nat, (j : Int) ≤ i ∧ k = .int .i64 j ∧ wr = (w.alloc (.cells #[.int .u64 (symH h j), .int .u64 l] 24)).alloc (.cells #[.int .u64 0, .int .u64 0] 24)) (fun k _ => (i - intOf k).toNat)
  case atStart => exact ⟨0, by omega, rfl, by rw [show ((0 : Nat) : Int) = 0 from rfl, HZ.out]⟩
  case round =>
    obtain ⟨j, hj, rfl, rfl⟩ := hrel
    by_cases hlt : (j : Int) < i
    · go_wp2_with fail
      go_roundw
      case rel => exact ⟨j + 1, by omega, by go_num, by rw [HS.out j]; rfl⟩
      case measure => simp [intOf]; omega
    · obtain rfl : i = (j : Int) := by omega
      go_wp2_with fail
      refine bodyPost_ret (v := .tuple #[pos (symH h j) l, .int .i64 0]) ?_ rfl ⟨rfl, ?_⟩
      · simp [results, Try.results21, go_sem]
      · exact below_alloc (below_alloc (Below.refl _ _) _) _

set_option maxHeartbeats 400000 in
theorem bucketat_in (a i : Int) (h0 : 0 ≤ a) (h1 : a < 64) (h2 : 0 ≤ i) (h3 : i < 4) (w : World) :
    Calls Try.prog 24 #[.int .i64 a, .int .i64 i] w fun e w' => e = pair ((a - 16 * i) % 64) 0 ∧ w = w' := by
  have R := Lib.hid (isp_yes a h0 h1)
  have S := Lib.hid (isr_yes i h2 h3)
  have HE := Lib.hid (show (a - 16 * i + 64) % 64 = (a - 16 * i) % 64 by omega)
  go_enter Try.func24, Try.ntmps24
  go_wp2_with fail
  refine (R.out _).mono ?_
  rintro e w' ⟨rfl, rfl⟩
  go_wp2_with fail
  refine (S.out _).mono ?_
  rintro e w' ⟨rfl, rfl⟩
  go_wp2_with fail
  go_ret2
  exact ⟨pair_eq HE.out, rfl⟩

set_option maxHeartbeats 400000 in
theorem bucketat_out (a i : Int) (h : ¬ (0 ≤ a ∧ a < 64 ∧ 0 ≤ i ∧ i < 4)) (w : World) :
    Calls Try.prog 24 #[.int .i64 a, .int .i64 i] w fun e w' => e = pair 0 1 ∧ w = w' := by
  by_cases hb : 0 ≤ a ∧ a < 64
  · have C1 := Lib.hid (isp_yes a hb.1 hb.2)
    have C2 := Lib.hid (isr_no i (by omega))
    clear h hb
    go_enter Try.func24, Try.ntmps24
    go_wp2_with fail
    refine (C1.out _).mono ?_
    rintro e w' ⟨rfl, rfl⟩
    go_wp2_with fail
    refine (C2.out _).mono ?_
    rintro e w' ⟨rfl, rfl⟩
    go_wp2_with fail
    go_ret2
    exact ⟨rfl, rfl⟩
  · have C1 := Lib.hid (isp_no a hb)
    clear h hb
    go_enter Try.func24, Try.ntmps24
    go_wp2_with fail
    refine (C1.out _).mono ?_
    rintro e w' ⟨rfl, rfl⟩
    go_wp2_with fail
    go_ret2
    exact ⟨rfl, rfl⟩

set_option maxHeartbeats 400000 in
theorem rplace_in (a i : Int) (h0 : 0 ≤ a) (h1 : a < 64) (h2 : 0 ≤ i) (h3 : i < 4) (w : World) :
    Calls Try.prog 23 #[.int .i64 a, .int .i64 i] w fun e w' => e = pair ((a + 16 * i) % 64) 0 ∧ w = w' := by
  go_enter Try.func23, Try.ntmps23
  go_wp2_with fail
  go_ret2
  exact ⟨rfl, rfl⟩

set_option maxHeartbeats 400000 in
theorem rplace_out (a i : Int) (h : ¬ (0 ≤ a ∧ a < 64 ∧ 0 ≤ i ∧ i < 4)) (w : World) :
    Calls Try.prog 23 #[.int .i64 a, .int .i64 i] w fun e w' => e = pair 0 1 ∧ w = w' := by
  have hw : a < 0 ∨ (¬ a < 0 ∧ 63 < a) ∨ (¬ a < 0 ∧ ¬ 63 < a ∧ i < 0) ∨ (¬ a < 0 ∧ ¬ 63 < a ∧ ¬ i < 0 ∧ 3 < i) := by omega
  clear h
  rcases hw with h1 | ⟨h1, h2⟩ | ⟨h1, h2, h3⟩ | ⟨h1, h2, h3, h4⟩
  all_goals
    go_enter Try.func23, Try.ntmps23
    go_wp2_with fail
    go_ret2
    exact ⟨rfl, rfl⟩

end Go.Proofs.Ytdfgmjpoabgllaa
