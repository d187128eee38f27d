/- The numbers: the mix, its being one to one; the upper half of a product. -/
import Derived.Test.YthjchlcmmemapaaBi
import Derived.Laws.Bits64
namespace Go.Proofs.Ythjchlcmmemapaa
open Go.RowKit
set_option linter.unusedVariables false

abbrev stepA : Nat := 11400714819323198485
/-- x with itself moved down by k, xored -/
def xs (k x : Nat) : Nat := x ^^^ x / 2 ^ k
theorem xs_lt (k x : Nat) (h : x < 18446744073709551616) : xs k x < 18446744073709551616 := Nat.xor_lt_two_pow (n := 64) h (Nat.lt_of_le_of_lt (Nat.div_le_self _ _) h)
theorem xs_back (k x : Nat) (h : x < 18446744073709551616) (hk : 22 ≤ k) : xs k x ^^^ (xs k x / 2 ^ k ^^^ xs k x / 2 ^ k / 2 ^ k) = x := by
  unfold xs
  simp only [Nat.xor_div_two_pow]
  have h0 : x / 2 ^ k / 2 ^ k / 2 ^ k = 0 := by
    rw [Nat.div_div_eq_div_mul, Nat.div_div_eq_div_mul, ← Nat.pow_add, ← Nat.pow_add]
    refine Nat.div_eq_of_lt (Nat.lt_of_lt_of_le h ?_)
    exact Nat.le_trans (show 18446744073709551616 ≤ 2 ^ 66 by decide) (Nat.pow_le_pow_right (by omega) (by omega))
  rw [h0, Nat.xor_zero]
  generalize x / 2 ^ k = a
  generalize a / 2 ^ k = b
  rw [Nat.xor_assoc a b b, Nat.xor_self, Nat.xor_zero, Nat.xor_assoc, Nat.xor_self, Nat.xor_zero]
theorem xs_inj {k x y : Nat} (hk : 22 ≤ k) (hx : x < 18446744073709551616) (hy : y < 18446744073709551616) (h : xs k x = xs k y) : x = y := by
  rw [← xs_back k x hx hk, ← xs_back k y hy hk, h]
theorem mul_inj {c d x y : Nat} (hcd : c * d % 18446744073709551616 = 1) (hx : x < 18446744073709551616) (hy : y < 18446744073709551616) (h : x * c % 18446744073709551616 = y * c % 18446744073709551616) : x = y := by
  have e : ∀ z, z < 18446744073709551616 → z * c % 18446744073709551616 * d % 18446744073709551616 = z := fun z hz => by
    rw [Nat.mul_mod, Nat.mod_mod, ← Nat.mul_mod, Nat.mul_assoc, Nat.mul_mod, hcd, Nat.mul_one, Nat.mod_mod]
    exact Nat.mod_eq_of_lt hz
  rw [← e x hx, ← e y hy, h]

def mix1 (x : Nat) : Nat := xs 30 x * 13787848793156543929 % 18446744073709551616
def mix2 (x : Nat) : Nat := xs 27 x * 10723151780598845931 % 18446744073709551616
def mixN (x : Nat) : Nat := xs 31 (mix2 (mix1 x))
theorem mix1_lt (x : Nat) : mix1 x < 18446744073709551616 := Nat.mod_lt _ (by decide)
theorem mix2_lt (x : Nat) : mix2 x < 18446744073709551616 := Nat.mod_lt _ (by decide)
theorem mixN_lt (x : Nat) : mixN x < 18446744073709551616 := xs_lt _ _ (mix2_lt _)
theorem mixN_inj {x y : Nat} (hx : x < 18446744073709551616) (hy : y < 18446744073709551616) (h : mixN x = mixN y) : x = y := by
  have h1 := xs_inj (by omega) (mix2_lt _) (mix2_lt _) h
  have h2 := xs_inj (by omega) (mix1_lt _) (mix1_lt _) (mul_inj (c := 10723151780598845931) (d := 3573116690164977347) (by decide) (xs_lt 27 _ (mix1_lt x)) (xs_lt 27 _ (mix1_lt y)) h1)
  exact xs_inj (by omega) hx hy (mul_inj (c := 13787848793156543929) (d := 10871156337175269513) (by decide) (xs_lt 30 _ hx) (xs_lt 30 _ hy) h2)

/-- the upper half of a product -/
def upN (x n : Nat) : Nat := x * n / 18446744073709551616
theorem upN_lt {x n : Nat} (hx : x < 18446744073709551616) (hn : 0 < n) : upN x n < n := by
  unfold upN
  rw [Nat.div_lt_iff_lt_mul (by decide), Nat.mul_comm n]
  exact Nat.mul_lt_mul_of_pos_right hx hn
theorem upN_zero (x : Nat) : upN x 0 = 0 := by simp [upN]
theorem upN_halves (x n : Nat) : upN x n = x / 4294967296 * (n / 4294967296) + (x / 4294967296 * (n % 4294967296) + x % 4294967296 * (n % 4294967296) / 4294967296) / 4294967296
    + (x % 4294967296 * (n / 4294967296) + (x / 4294967296 * (n % 4294967296) + x % 4294967296 * (n % 4294967296) / 4294967296) % 4294967296) / 4294967296 := by
  unfold upN
  have hx : x = 4294967296 * (x / 4294967296) + x % 4294967296 := by omega
  have hn : n = 4294967296 * (n / 4294967296) + n % 4294967296 := by omega
  have e : x * n = 18446744073709551616 * (x / 4294967296 * (n / 4294967296)) + 4294967296 * (x / 4294967296 * (n % 4294967296)) + 4294967296 * (x % 4294967296 * (n / 4294967296)) + x % 4294967296 * (n % 4294967296) := by
    generalize x / 4294967296 = a at *
    generalize x % 4294967296 = b at *
    generalize n / 4294967296 = c at *
    generalize n % 4294967296 = d at *
    subst hx hn
    rw [Nat.add_mul, Nat.mul_add, Nat.mul_add]
    have e1 : 4294967296 * a * (4294967296 * c) = 18446744073709551616 * (a * c) := by
      rw [Nat.mul_mul_mul_comm]
    have e2 : 4294967296 * a * d = 4294967296 * (a * d) := Nat.mul_assoc _ _ _
    have e3 : b * (4294967296 * c) = 4294967296 * (b * c) := Nat.mul_left_comm _ _ _
    rw [e1, e2, e3]
    omega
  rw [e]
  show _ / 18446744073709551616 = _
  generalize x / 4294967296 * (n / 4294967296) = A
  generalize x / 4294967296 * (n % 4294967296) = B
  generalize x % 4294967296 * (n / 4294967296) = C
  generalize x % 4294967296 * (n % 4294967296) = D
  omega
/-- halves of 64 bits: their products -/
theorem half_mul {a b : Nat} (ha : a < 4294967296) (hb : b < 4294967296) : a * b ≤ 18446744065119617025 := by
  have := Nat.mul_le_mul (show a ≤ 4294967295 by omega) (show b ≤ 4294967295 by omega)
  omega
end Go.Proofs.Ythjchlcmmemapaa
