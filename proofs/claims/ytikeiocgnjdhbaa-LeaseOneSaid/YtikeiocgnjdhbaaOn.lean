/- How many places the nodes have: plain facts for LeaseOne. -/
import Derived.Test.YtikeiocgnjdhbaaAy
namespace Go.Proofs.Ytikeiocgnjdhbaa
open Go.RowKit Go.Sort
set_option linter.unusedVariables false
set_option linter.unusedSimpArgs false
set_option maxRecDepth 100000

/-- how many places some arcs have -/
def sizes : List (Nat × Nat) → Nat
  | [] => 0
  | x :: l => x.2 + sizes l
theorem sizes_append (l m : List (Nat × Nat)) : sizes (l ++ m) = sizes l + sizes m := by
  induction l with
  | nil => simp [sizes]
  | cons x l ih => simp [sizes, ih]; omega
theorem sizes_take (L : List (Nat × Nat)) (i : Nat) (hi : i < L.length) : sizes (L.take (i + 1)) = sizes (L.take i) + (atL L i).2 := by
  have e : atL L i = L[i] := by simp [atL, List.getD, hi]
  rw [List.take_add_one, sizes_append, e]
  simp [hi, sizes]
/-- sum of the first -/
def sumN (f : Nat → Nat) : Nat → Nat
  | 0 => 0
  | k + 1 => sumN f k + f k
theorem sumN_add (f g : Nat → Nat) : ∀ k, sumN (fun n => f n + g n) k = sumN f k + sumN g k
  | 0 => rfl
  | k + 1 => by simp only [sumN, sumN_add f g k]; omega
theorem sumN_congr {f g : Nat → Nat} : ∀ k, (∀ n, n < k → f n = g n) → sumN f k = sumN g k
  | 0, _ => rfl
  | k + 1, h => by simp only [sumN]; rw [sumN_congr k (fun n hn => h n (by omega)), h k (by omega)]
/-- how many of the first places are a node's -/
def cntP (U : Tb) (n : Nat) : Nat → Nat
  | 0 => 0
  | p + 1 => cntP U n p + (if ownB U (n : Int) p then 1 else 0)
theorem one_owner {n0 : Nat} (h : n0 < 12) : sumN (fun n => if n = n0 then 1 else 0) 12 = 1 := by
  have : n0 = 0 ∨ n0 = 1 ∨ n0 = 2 ∨ n0 = 3 ∨ n0 = 4 ∨ n0 = 5 ∨ n0 = 6 ∨ n0 = 7 ∨ n0 = 8 ∨ n0 = 9 ∨ n0 = 10 ∨ n0 = 11 := by omega
  rcases this with rfl | rfl | rfl | rfl | rfl | rfl | rfl | rfl | rfl | rfl | rfl | rfl <;> rfl
theorem cntP_all {U : Tb} (h : U.Ok) : ∀ P, P ≤ 64 → sumN (fun n => cntP U n P) 12 = P
  | 0, _ => rfl
  | P + 1, hP => by
    have ih := cntP_all h P (by omega)
    obtain ⟨n0, e, hn0, hm⟩ := h.o P (by omega)
    have h1 : sumN (fun n => cntP U n (P + 1)) 12 = sumN (fun n => cntP U n P) 12 + sumN (fun n => if n = n0 then 1 else 0) 12 := by
      rw [← sumN_add]
      refine sumN_congr 12 fun n hn => ?_
      simp only [cntP]
      congr 1
      unfold ownB
      rw [e, show isN (n : Int) = true from isN_spec.2 ⟨by omega, by omega⟩, Bool.true_and]
      by_cases hh : n = n0
      · subst hh; simp
      · rw [if_neg hh, if_neg (by simp; omega)]
    rw [h1, ih, one_owner hn0]
theorem count_cntP (U : Tb) (n : Nat) : ∀ P, ((List.range P).map fun p : Nat => ownB U (n : Int) p).count true = cntP U n P
  | 0 => rfl
  | P + 1 => by
    rw [List.range_succ, List.map_append, List.count_append, count_cntP U n P]
    simp only [cntP, List.map_cons, List.map_nil]
    cases ownB U (n : Int) P <;> simp
theorem ownL_count (U : Tb) (n : Nat) : (ownL U (n : Int)).count true = cntP U n 64 := by
  rw [← count_cntP]
  unfold ownL
  rw [upto_all]
  simp only [Int.toNat_natCast]
theorem rowC_count {bs : List Bool} {L : List (Nat × Nat)} (h : Good bs L) : ∀ i k, i < L.length → k ≤ (atL L i).2 → (rowC L i k).count true = sizes (L.take i) + k := by
  intro i
  induction i with
  | zero =>
    intro k
    induction k with
    | zero =>
      intro hi _
      rw [rowC_start]
      simp [zeros, sizes, List.count_replicate]
    | succ k ih =>
      intro hi hk
      have ih := ih hi (by omega)
      rw [rowC_succ, List.count_set (by rw [rowC_length]; omega), ih]
      have hb := h.fresh 0 k hi (by omega)
      have hg := rowC_get L 0 k (((atL L 0).1 + k) % 64) (by omega)
      rw [hb, ← in_get (by rw [rowC_length]; omega)] at hg
      rw [hg]; simp; omega
  | succ i ihi =>
    intro k
    induction k with
    | zero =>
      intro hi _
      rw [← rowC_next L i (by omega), ihi _ (by omega) (Nat.le_refl _), sizes_take L i (by omega)]
      omega
    | succ k ih =>
      intro hi hk
      have ih := ih hi (by omega)
      rw [rowC_succ, List.count_set (by rw [rowC_length]; omega), ih]
      have hb := h.fresh (i + 1) k hi (by omega)
      have hg := rowC_get L (i + 1) k (((atL L (i + 1)).1 + k) % 64) (by omega)
      rw [hb, ← in_get (by rw [rowC_length]; omega)] at hg
      rw [hg]; simp; omega
theorem good_sizes {bs : List Bool} {L : List (Nat × Nat)} (h : Good bs L) : sizes L = bs.count true := by
  have he := h.cover
  rcases Nat.eq_zero_or_pos L.length with h0 | h0
  · rw [List.length_eq_zero_iff.1 h0] at he ⊢
    have : rowC [] ([] : List (Nat × Nat)).length 0 = zeros := rowC_start []
    rw [this] at he
    rw [← he]; simp [zeros, sizes, List.count_replicate]
  · have h1 := rowC_count h (L.length - 1) _ (by omega) (Nat.le_refl _)
    rw [rowC_next L (L.length - 1) (by omega), show L.length - 1 + 1 = L.length by omega] at h1
    rw [he] at h1
    rw [h1, ← sizes_take L (L.length - 1) (by omega), show L.length - 1 + 1 = L.length by omega, List.take_length]
theorem sizes_own (U : Tb) (n : Nat) : sizes (ofL (ownL U (n : Int))) = cntP U n 64 := by
  rw [good_sizes (good_ofL (ownL_length U n)), ownL_count]
theorem all_64 {U : Tb} (h : U.Ok) : sumN (fun n => sizes (ofL (ownL U (n : Int)))) 12 = 64 := by
  rw [sumN_congr 12 (fun n _ => sizes_own U n)]
  exact cntP_all h 64 (Nat.le_refl _)
theorem cntP_le (U : Tb) (n : Nat) : ∀ P, cntP U n P ≤ P
  | 0 => Nat.le_refl _
  | P + 1 => by have := cntP_le U n P; simp only [cntP]; split <;> omega
theorem sumN_le (U : Tb) : ∀ k, sumN (fun n => sizes (ofL (ownL U (n : Int)))) k ≤ 64 * k
  | 0 => Nat.le_refl _
  | k + 1 => by
    have := sumN_le U k
    have h2 := cntP_le U k 64
    simp only [sumN, sizes_own U k] at this ⊢; omega
theorem sizes_take_le (L : List (Nat × Nat)) (j : Nat) : sizes (L.take j) ≤ sizes L := by
  have : sizes L = sizes (L.take j) + sizes (L.drop j) := by rw [← sizes_append, List.take_append_drop]
  omega
end Go.Proofs.Ytikeiocgnjdhbaa
