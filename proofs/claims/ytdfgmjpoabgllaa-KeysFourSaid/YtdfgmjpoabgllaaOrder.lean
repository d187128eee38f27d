/- The order of texts, and that of their positions: plain lists and numbers. -/
import Derived.Test.YtdfgmjpoabgllaaNum
import Derived.WalkLawsBesides
namespace Go.Proofs.Ytdfgmjpoabgllaa
open Go.RowKit

/-- k bytes of a list, zeros behind its end, as a number -/
def num : Nat → List UInt8 → Nat
  | 0, _ => 0
  | _ + 1, [] => 0
  | k + 1, c :: l => c.toNat * 256 ^ k + num k l

theorem num_lt : ∀ (k : Nat) (l : List UInt8), num k l < 256 ^ k
  | 0, _ => by simp [num]
  | k + 1, [] => by simp [num]; exact Nat.pow_pos (by omega)
  | k + 1, c :: l => by
    have h := num_lt k l
    have hc : c.toNat < 256 := UInt8.toNat_lt c
    rw [num, Nat.pow_succ]
    have : c.toNat * 256 ^ k + 256 ^ k ≤ 256 ^ k * 256 := by
      have : (c.toNat + 1) * 256 ^ k ≤ 256 * 256 ^ k := Nat.mul_le_mul_right _ (by omega)
      rw [Nat.add_mul] at this; omega
    omega

theorem num_mono : ∀ (k : Nat) (x y : List UInt8), Op.bytesLess x y = true → num k x ≤ num k y
  | 0, _, _, _ => by simp [num]
  | k + 1, [], y, _ => by simp [num]
  | k + 1, a :: x, [], h => by simp [Op.bytesLess] at h
  | k + 1, a :: x, b :: y, h => by
    simp [Op.bytesLess] at h
    rcases h with h | ⟨rfl, h⟩
    · have hx := num_lt k x
      have : (a.toNat + 1) * 256 ^ k ≤ b.toNat * 256 ^ k := Nat.mul_le_mul_right _ (UInt8.lt_iff_toNat_lt.1 h)
      rw [Nat.add_mul] at this
      simp only [num]; omega
    · have := num_mono k x y h
      simp only [num]; omega

/-- the same number, its last byte told apart -/
theorem num_snoc : ∀ (k : Nat) (l : List UInt8), num (k + 1) l = num k l * 256 + (l.getD k 0).toNat
  | 0, [] => by simp [num]
  | 0, c :: l => by simp [num]
  | k + 1, [] => by simp [num]
  | k + 1, c :: l => by
    rw [num, num_snoc k l, num, Nat.pow_succ]
    simp only [List.getD_cons_succ]
    rw [Nat.add_mul, Nat.mul_assoc]; omega

theorem byteAt_eq (s : ByteArray) (i : Nat) : byteAt s i = (s.data.toList.getD i 0).toNat := by
  unfold byteAt
  by_cases h : i < s.size
  · have h2 : i < s.data.size := h
    simp only [h, dif_pos, List.getD]
    rw [List.getElem?_eq_getElem (by simpa using h2)]
    rfl
  · have h2 : s.data.size ≤ i := by have : s.data.size = s.size := rfl; omega
    simp [h, List.getD]

theorem wordTo_num (s : ByteArray) (a k : Nat) : wordTo s a k = num k (s.data.toList.drop a) := by
  induction k with
  | zero => simp [wordTo, num]
  | succ k ih => rw [wordTo, num_snoc, ih, byteAt_eq]; simp [List.getD]

theorem num_join : ∀ (j k : Nat) (l : List UInt8), num (j + k) l = num j l * 256 ^ k + num k (l.drop j)
  | 0, k, l => by simp [num]
  | j + 1, 0, l => by simp [num]
  | j + 1, k + 1, [] => by simp [num]
  | j + 1, k + 1, c :: l => by
    have h := num_join j (k + 1) l
    rw [show j + 1 + (k + 1) = (j + (k + 1)) + 1 by omega, num, h, num, List.drop_succ_cons, Nat.add_mul, Nat.mul_assoc, ← Nat.pow_add]; omega

/-- the sixteen bytes as one number -/
theorem words_num (s : ByteArray) : (num 16 s.data.toList : Int) = word s 0 * 18446744073709551616 + word s 8 := by
  unfold word
  rw [wordTo_num, wordTo_num, num_join 8 8]
  simp

theorem words_le (a b : ByteArray) (h : Op.bytesLess a.toList b.toList = true ∨ a.toList = b.toList) :
    word a 0 * 18446744073709551616 + word a 8 ≤ word b 0 * 18446744073709551616 + word b 8 := by
  rw [← words_num, ← words_num]
  have hl : ∀ s : ByteArray, s.toList = s.data.toList := fun s => ByteArray.toList_eq s
  rw [hl, hl] at h
  rcases h with h | h
  · exact_mod_cast num_mono 16 _ _ h
  · rw [h]; exact Int.le_refl _

end Go.Proofs.Ytdfgmjpoabgllaa
