/- bits.Len; nextPowerOfTwo. -/
import Derived.Test.YthanjfnpohhebaaNext
import Derived.Lib.Strings
import Derived.Lib.Slices
import Derived.Lib.Small
import Derived.Lib.Walk
import Derived.Lib.BitFns
namespace Go.Proofs.Ythanjfnpohhebaa
open Go.RowKit Go.Sort
set_option linter.unusedVariables false

/-- what is read off the table, k bits on -/
theorem len_part (z y : Int) (k : Nat) (h0 : 0 ≤ z) (h1 : z < 18446744073709551616) (hy : y = ((z.toNat / 2 ^ k : Nat) : Int)) (h2 : k = 0 ∨ 2 ^ k ≤ z.toNat) (h3 : y < 256) : (k : Int) + Lib.len8 y = (Lib.bitLen z.toNat : Int) := by
  rw [Lib.len8_of y (by rw [hy]; exact Int.natCast_nonneg _) (by omega), hy, Int.toNat_natCast]
  rcases h2 with rfl | h2
  · simp
  · rw [Lib.bitLen_shift k z.toNat h2 (by omega)]; omega
set_option maxRecDepth 100000 in
set_option maxHeartbeats 4000000 in
theorem len64_any (z : Int) (h0 : 0 ≤ z) (h1 : z ≤ 18446744073709551615) (w : World) : Calls Try.prog 54 #[.int .u64 z] w (fun e w' => e = .returned (.int .i64 (Lib.bitLen z.toNat : Int)) ∧ w' = w) := by
  by_cases c32 : 4294967296 ≤ z
  ·
    by_cases c16 : 65536 ≤ z / 4294967296
    ·
      by_cases c8 : 256 ≤ z / 4294967296 / 65536
      ·
        have u0 : 0 ≤ z / 4294967296 / 65536 / 256 := by omega
        have u1 : z / 4294967296 / 65536 / 256 ≤ 255 := by omega
        have E := Lib.hid (len_part z (z / 4294967296 / 65536 / 256) 56 h0 (by omega) (by omega) (.inr (by omega)) (by omega))
        have B0 : 0 ≤ Lib.len8 (z / 4294967296 / 65536 / 256) ∧ Lib.len8 (z / 4294967296 / 65536 / 256) ≤ 255 := by rw [Lib.len8_of _ u0 u1]; have := Lib.bitLen_le8' (z / 4294967296 / 65536 / 256) u0 u1; omega
        go_enter Try.func54, Try.ntmps54
        go_wp2_with fail
        go_ret
        exact ⟨congrArg Ending.returned (congrArg (Value.int IntKind.i64) (by have := E.out; first | exact this | (simpa using this) | omega)), rfl⟩
      ·
        have u0 : 0 ≤ z / 4294967296 / 65536 := by omega
        have u1 : z / 4294967296 / 65536 ≤ 255 := by omega
        have E := Lib.hid (len_part z (z / 4294967296 / 65536) 48 h0 (by omega) (by omega) (.inr (by omega)) (by omega))
        have B0 : 0 ≤ Lib.len8 (z / 4294967296 / 65536) ∧ Lib.len8 (z / 4294967296 / 65536) ≤ 255 := by rw [Lib.len8_of _ u0 u1]; have := Lib.bitLen_le8' (z / 4294967296 / 65536) u0 u1; omega
        go_enter Try.func54, Try.ntmps54
        go_wp2_with fail
        go_ret
        exact ⟨congrArg Ending.returned (congrArg (Value.int IntKind.i64) (by have := E.out; first | exact this | (simpa using this) | omega)), rfl⟩
    ·
      by_cases c8 : 256 ≤ z / 4294967296
      ·
        have u0 : 0 ≤ z / 4294967296 / 256 := by omega
        have u1 : z / 4294967296 / 256 ≤ 255 := by omega
        have E := Lib.hid (len_part z (z / 4294967296 / 256) 40 h0 (by omega) (by omega) (.inr (by omega)) (by omega))
        have B0 : 0 ≤ Lib.len8 (z / 4294967296 / 256) ∧ Lib.len8 (z / 4294967296 / 256) ≤ 255 := by rw [Lib.len8_of _ u0 u1]; have := Lib.bitLen_le8' (z / 4294967296 / 256) u0 u1; omega
        go_enter Try.func54, Try.ntmps54
        go_wp2_with fail
        go_ret
        exact ⟨congrArg Ending.returned (congrArg (Value.int IntKind.i64) (by have := E.out; first | exact this | (simpa using this) | omega)), rfl⟩
      ·
        have u0 : 0 ≤ z / 4294967296 := by omega
        have u1 : z / 4294967296 ≤ 255 := by omega
        have E := Lib.hid (len_part z (z / 4294967296) 32 h0 (by omega) (by omega) (.inr (by omega)) (by omega))
        have B0 : 0 ≤ Lib.len8 (z / 4294967296) ∧ Lib.len8 (z / 4294967296) ≤ 255 := by rw [Lib.len8_of _ u0 u1]; have := Lib.bitLen_le8' (z / 4294967296) u0 u1; omega
        go_enter Try.func54, Try.ntmps54
        go_wp2_with fail
        go_ret
        exact ⟨congrArg Ending.returned (congrArg (Value.int IntKind.i64) (by have := E.out; first | exact this | (simpa using this) | omega)), rfl⟩
  ·
    by_cases c16 : 65536 ≤ z
    ·
      by_cases c8 : 256 ≤ z / 65536
      ·
        have u0 : 0 ≤ z / 65536 / 256 := by omega
        have u1 : z / 65536 / 256 ≤ 255 := by omega
        have E := Lib.hid (len_part z (z / 65536 / 256) 24 h0 (by omega) (by omega) (.inr (by omega)) (by omega))
        have B0 : 0 ≤ Lib.len8 (z / 65536 / 256) ∧ Lib.len8 (z / 65536 / 256) ≤ 255 := by rw [Lib.len8_of _ u0 u1]; have := Lib.bitLen_le8' (z / 65536 / 256) u0 u1; omega
        go_enter Try.func54, Try.ntmps54
        go_wp2_with fail
        go_ret
        exact ⟨congrArg Ending.returned (congrArg (Value.int IntKind.i64) (by have := E.out; first | exact this | (simpa using this) | omega)), rfl⟩
      ·
        have u0 : 0 ≤ z / 65536 := by omega
        have u1 : z / 65536 ≤ 255 := by omega
        have E := Lib.hid (len_part z (z / 65536) 16 h0 (by omega) (by omega) (.inr (by omega)) (by omega))
        have B0 : 0 ≤ Lib.len8 (z / 65536) ∧ Lib.len8 (z / 65536) ≤ 255 := by rw [Lib.len8_of _ u0 u1]; have := Lib.bitLen_le8' (z / 65536) u0 u1; omega
        go_enter Try.func54, Try.ntmps54
        go_wp2_with fail
        go_ret
        exact ⟨congrArg Ending.returned (congrArg (Value.int IntKind.i64) (by have := E.out; first | exact this | (simpa using this) | omega)), rfl⟩
    ·
      by_cases c8 : 256 ≤ z
      ·
        have u0 : 0 ≤ z / 256 := by omega
        have u1 : z / 256 ≤ 255 := by omega
        have E := Lib.hid (len_part z (z / 256) 8 h0 (by omega) (by omega) (.inr (by omega)) (by omega))
        have B0 : 0 ≤ Lib.len8 (z / 256) ∧ Lib.len8 (z / 256) ≤ 255 := by rw [Lib.len8_of _ u0 u1]; have := Lib.bitLen_le8' (z / 256) u0 u1; omega
        go_enter Try.func54, Try.ntmps54
        go_wp2_with fail
        go_ret
        exact ⟨congrArg Ending.returned (congrArg (Value.int IntKind.i64) (by have := E.out; first | exact this | (simpa using this) | omega)), rfl⟩
      ·
        have u0 : 0 ≤ z := by omega
        have u1 : z ≤ 255 := by omega
        have E := Lib.hid (len_part z (z) 0 h0 (by omega) (by omega) (.inl rfl) (by omega))
        have B0 : 0 ≤ Lib.len8 (z) ∧ Lib.len8 (z) ≤ 255 := by rw [Lib.len8_of _ u0 u1]; have := Lib.bitLen_le8' (z) u0 u1; omega
        go_enter Try.func54, Try.ntmps54
        go_wp2_with fail
        go_ret
        exact ⟨congrArg Ending.returned (congrArg (Value.int IntKind.i64) (by have := E.out; first | exact this | (simpa using this) | omega)), rfl⟩
theorem len_any (x : Nat) (hx : x < 4611686018427387904) (w : World) : Calls Try.prog 43 #[.int .u64 (x : Int)] w (fun e w' => e = .returned (.int .i64 (bitsLen x : Int)) ∧ w' = w) := by
  have h := len64_any (x : Int) (by omega) (by omega) w
  rw [Int.toNat_natCast, bitLen_eq _ (by omega)] at h
  have H := Lib.hid h; clear h
  go_enter Try.func43, Try.ntmps43
  go_wp2_with fail
  refine H.out.mono ?_
  rintro e w1 ⟨rfl, rfl⟩
  go_wp2_with fail
  go_ret
  exact ⟨rfl, rfl⟩
theorem pow2_any (x : Nat) (hx : x < 4611686018427387904) (w : World) : Calls Try.prog 56 #[.int .i64 (x : Int)] w (fun e w' => e = .returned (.int .u64 ((1 <<< bitsLen x : Nat) : Int)) ∧ w' = w) := by
  have H := Lib.hid (len_any x hx w)
  have hk : bitsLen x ≤ 62 := (bitsLen_le_iff x 62).2 (by omega)
  have hp := wrap_two_pow (bitsLen x) hk
  generalize bitsLen x = L at *
  go_enter Try.func56, Try.ntmps56
  go_wp2_with fail
  refine H.out.mono ?_
  rintro e w1 ⟨rfl, rfl⟩
  go_wp2_with fail
  go_ret
  exact ⟨rfl, rfl⟩
end Go.Proofs.Ythanjfnpohhebaa
