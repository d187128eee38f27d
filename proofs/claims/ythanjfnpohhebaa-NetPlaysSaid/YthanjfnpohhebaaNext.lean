/- xorshift's Next; bits.Len; nextPowerOfTwo. -/
import Derived.Test.YthanjfnpohhebaaPins
import Derived.Sort.LotD5
import Derived.Lib.EndianBits
import Derived.Sort.Walk7a
namespace Go.Proofs.Ythanjfnpohhebaa
open Go.RowKit Go.Sort
set_option linter.unusedVariables false

/-- one cell was written -/
theorem keep_put {w w1 : World} {sb : Nat} {u v : Value} (h : w1 = (w.drewN 1).setCell ⟨sb, 0, none⟩ v) (hc : w.cell? ⟨sb, 0, none⟩ = some u) (hf : w.frozen? ⟨sb, 0, none⟩ = false) : Keep [sb] w w1 ∧ w1.cell? ⟨sb, 0, none⟩ = some v ∧ w1.frozen? ⟨sb, 0, none⟩ = false := by
  subst h
  exact ⟨(show Keep [sb] w (w.drewN 1) from ⟨rfl, rfl, rfl, Nat.le_refl _, fun _ _ _ => rfl⟩).trans (Keep.setCell _ ⟨sb, 0, none⟩ _), World.cell?_setCell_same _ ⟨sb, 0, none⟩ _ hc, by rw [World.frozen?_setCell]; exact hf⟩

set_option maxRecDepth 100000 in
set_option maxHeartbeats 4000000 in
theorem next_any (sb X : Nat) (hX : X < 18446744073709551616) (w : World) (hc : w.cell? ⟨sb, 0, none⟩ = some (.int .u64 (X : Int))) (hf : w.frozen? ⟨sb, 0, none⟩ = false) :
    Calls Try.prog 57 #[.pointer (some ⟨sb, 0, none⟩)] w
      (fun e w' => e = .returned (.int .u64 (xorNextN X : Int)) ∧ Keep [sb] w w' ∧ w'.cell? ⟨sb, 0, none⟩ = some (.int .u64 (xorNextN X : Int)) ∧ w'.frozen? ⟨sb, 0, none⟩ = false) := by
  obtain ⟨A, hA⟩ : ∃ A : Nat, A = X ^^^ (X * 8192 % 18446744073709551616) := ⟨_, rfl⟩
  obtain ⟨B, hB⟩ : ∃ B : Nat, B = A ^^^ (A / 128) := ⟨_, rfl⟩
  obtain ⟨C, hC⟩ : ∃ C : Nat, C = B ^^^ (B * 131072 % 18446744073709551616) := ⟨_, rfl⟩
  have lA : A < 18446744073709551616 := by rw [hA]; exact Nat.xor_lt_two_pow (n := 64) (by omega) (by omega)
  have lB : B < 18446744073709551616 := by rw [hB]; exact Nat.xor_lt_two_pow (n := 64) (by omega) (by omega)
  have e1 : bits .xor .u64 (X : Int) (IntKind.u64.wrap ((X : Int) * 8192)) = (A : Int) := by
    rw [IntKind.wrap_u64, show ((X : Int) * 8192 % 18446744073709551616) = ((X * 8192 % 18446744073709551616 : Nat) : Int) by omega, bits_xor_u64_nat _ _ hX (by omega), hA]
  have e2 : bits .xor .u64 (A : Int) ((A : Int) / 128) = (B : Int) := by
    rw [show ((A : Int) / 128) = ((A / 128 : Nat) : Int) by omega, bits_xor_u64_nat _ _ lA (by omega), hB]
  have e3 : bits .xor .u64 (B : Int) (IntKind.u64.wrap ((B : Int) * 131072)) = (C : Int) := by
    rw [IntKind.wrap_u64, show ((B : Int) * 131072 % 18446744073709551616) = ((B * 131072 % 18446744073709551616 : Nat) : Int) by omega, bits_xor_u64_nat _ _ lB (by omega), hC]
  have hv : xorNextN X = C := by unfold xorNextN; simp only []; rw [← hA, ← hB, ← hC]
  rw [hv]
  clear hA hB hC hv
  go_enter Try.func57, Try.ntmps57
  go_wp2_with fail
  go_region
  all_goals go_upto_region 2 with fail
  obtain ⟨w1, hw1⟩ : ∃ x, x = (w.setCell ⟨sb, 0, none⟩ (.int .u64 (A : Int))).drew := ⟨_, rfl⟩
  first | rw [← hw1] | (rw [show w.drew.setCell ⟨sb, 0, none⟩ (.int .u64 (A : Int)) = w1 from hw1.symm])
  obtain ⟨k1, c1, f1⟩ := keep_put hw1 hc hf
  clear hw1
  replace k1 := Lib.hid k1
  go_region
  all_goals go_upto_region 3 with fail
  obtain ⟨w2, hw2⟩ : ∃ x, x = (w1.setCell ⟨sb, 0, none⟩ (.int .u64 (B : Int))).drew := ⟨_, rfl⟩
  first | rw [← hw2] | (rw [show w1.drew.setCell ⟨sb, 0, none⟩ (.int .u64 (B : Int)) = w2 from hw2.symm])
  obtain ⟨k2, c2, f2⟩ := keep_put hw2 c1 f1
  clear hw2
  replace k2 := Lib.hid k2
  go_region
  all_goals go_upto_region 4 with fail
  obtain ⟨w3, hw3⟩ : ∃ x, x = (w2.setCell ⟨sb, 0, none⟩ (.int .u64 (C : Int))).drew := ⟨_, rfl⟩
  first | rw [← hw3] | (rw [show w2.drew.setCell ⟨sb, 0, none⟩ (.int .u64 (C : Int)) = w3 from hw3.symm])
  obtain ⟨k3, c3, f3⟩ := keep_put hw3 c2 f2
  clear hw3
  replace k3 := Lib.hid k3
  go_wp2_with fail
  go_ret
  exact ⟨rfl, (k1.out.trans k2.out).trans k3.out, c3, f3⟩

theorem bitsLen_div (x k : Nat) (h : 2 ^ k ≤ x) : bitsLen (x / 2 ^ k) + k = bitsLen x := by
  have h1 : ∀ j, bitsLen (x / 2 ^ k) ≤ j ↔ bitsLen x ≤ j + k := fun j => by
    rw [bitsLen_le_iff, bitsLen_le_iff, Nat.div_lt_iff_lt_mul (Nat.two_pow_pos k), ← Nat.pow_add]
  have h2 : ¬ bitsLen x ≤ k := by rw [bitsLen_le_iff]; omega
  have h3 := (h1 (bitsLen x - k)).2 (by omega)
  have h4 := (h1 (bitsLen (x / 2 ^ k))).1 (Nat.le_refl _)
  omega
end Go.Proofs.Ythanjfnpohhebaa
