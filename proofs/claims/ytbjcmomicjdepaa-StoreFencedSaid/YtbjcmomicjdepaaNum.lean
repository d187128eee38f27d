/- Plain numbers: a word of bytes; no program in sight. -/
import Derived.WalkKit
import Derived.Laws.BitsAllLaws
import Derived.Lib.Hide
namespace Go.Proofs.Ytbjcmomicjdepaa
open Go.RowKit

/-- byte i of a text, 0 behind its end -/
def byteAt (s : ByteArray) (i : Nat) : Nat := if h : i < s.size then s[i].toNat else 0
/-- the number of k bytes from a on -/
def wordTo (s : ByteArray) (a : Nat) : Nat → Nat
  | 0 => 0
  | k + 1 => wordTo s a k * 256 + byteAt s (a + k)
/-- the eight bytes from a on -/
def word (s : ByteArray) (a : Nat) : Int := (wordTo s a 8 : Nat)

theorem byteAt_lt (s : ByteArray) (i : Nat) : byteAt s i < 256 := by
  unfold byteAt; split
  · exact UInt8.toNat_lt _
  · omega

theorem wordTo_lt (s : ByteArray) (a k : Nat) : wordTo s a k < 256 ^ k := by
  induction k with
  | zero => simp [wordTo]
  | succ k ih => have := byteAt_lt s (a + k); rw [wordTo, Nat.pow_succ]; omega

theorem wordTo_small (s : ByteArray) (a k : Nat) (hk : k < 8) : wordTo s a k < 72057594037927936 :=
  Nat.lt_of_lt_of_le (wordTo_lt s a k) (by
    have : 256 ^ k ≤ 256 ^ 7 := Nat.pow_le_pow_right (by omega) (by omega)
    simpa using this)

theorem word_nonneg (s : ByteArray) (a : Nat) : 0 ≤ word s a := by unfold word; omega
theorem word_lt (s : ByteArray) (a : Nat) : word s a < 18446744073709551616 := by
  have := wordTo_lt s a 8
  unfold word
  have h : (256 : Nat) ^ 8 = 18446744073709551616 := by decide
  omega

theorem wrap_byte (n : Nat) (hn : n < 72057594037927936) : IntKind.u64.wrap ((n : Int) * 256) = ((n * 256 : Nat) : Int) := by
  rw [IntKind.wrap_u64]; omega

theorem shl_or (n c : Nat) (hn : n < 72057594037927936) (hc : c < 256) :
    bits .or .u64 (IntKind.u64.wrap ((n : Int) * 256)) (IntKind.u64.wrap (c : Int)) = ((n * 256 + c : Nat) : Int) := by
  have e2 : IntKind.u64.wrap (c : Int) = (c : Int) := by rw [IntKind.wrap_u64]; omega
  rw [wrap_byte n hn, e2, u64_or_nat _ _ (by omega) (by omega), nat_join 8 _ _ (by omega) (by omega)]

theorem word_in (s : ByteArray) (a k : Nat) (hk : k < 8) (h : a + k < s.size) :
    bits .or .u64 (IntKind.u64.wrap ((wordTo s a k : Int) * 256)) (IntKind.u64.wrap (s[a + k].toNat : Int)) = ((wordTo s a (k + 1) : Nat) : Int) := by
  have hb : byteAt s (a + k) = s[a + k].toNat := by simp [byteAt, h]
  rw [shl_or _ _ (wordTo_small s a k hk) (by rw [← hb]; exact byteAt_lt _ _), wordTo, hb]

theorem word_out (s : ByteArray) (a k : Nat) (hk : k < 8) (h : ¬ a + k < s.size) :
    IntKind.u64.wrap ((wordTo s a k : Int) * 256) = ((wordTo s a (k + 1) : Nat) : Int) := by
  have hb : byteAt s (a + k) = 0 := by simp [byteAt, h]
  rw [wrap_byte _ (wordTo_small s a k hk), wordTo, hb, Nat.add_zero]

theorem word_in2 (s : ByteArray) (a k i : Nat) (hk : k < 8) (hi : i = a + k) (h : i < s.size) :
    IntKind.u64.wrap (256 * (wordTo s a k : Int) + IntKind.u64.wrap (s[i].toNat : Int)) = ((wordTo s a (k + 1) : Nat) : Int) := by
  subst hi
  have hb : byteAt s (a + k) = s[a + k].toNat := by simp [byteAt, h]
  have h1 := wordTo_small s a k hk
  have h2 := byteAt_lt s (a + k)
  rw [hb] at h2
  rw [wordTo, hb, IntKind.wrap_u64, IntKind.wrap_u64]
  omega

theorem word_out2 (s : ByteArray) (a k : Nat) (h : ¬ a + k < s.size) :
    256 * (wordTo s a k : Int) = ((wordTo s a (k + 1) : Nat) : Int) := by
  have hb : byteAt s (a + k) = 0 := by simp [byteAt, h]
  rw [wordTo, hb]
  omega

end Go.Proofs.Ytbjcmomicjdepaa
