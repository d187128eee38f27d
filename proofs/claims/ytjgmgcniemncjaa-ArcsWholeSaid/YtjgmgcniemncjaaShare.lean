/- ArcsShare: how many places an arc has; plain numbers. -/
import Derived.Test.YtjgmgcniemncjaaOver
import Derived.Test.YtjgmgcniemncjaaPlaces
namespace Go.Proofs.Ytjgmgcniemncjaa
open Go.RowKit Go.Sort
set_option linter.unusedVariables false

theorem has_spec {f s p : Int} (hr : rightB f s = true) (h0 : 0 ≤ p) (h1 : p < 64) : hasB f s p = true ↔ (f ≤ p ∧ p < f + s) ∨ p < f + s - 64 := by
  have h := right_spec.1 hr
  unfold hasB
  rw [hr, show placeB p = true from place_spec.2 ⟨h0, h1⟩, Bool.true_and, Bool.true_and, decide_eq_true_eq]
  omega
theorem has_no {f s p : Int} (hr : rightB f s = false) : hasB f s p = false := by simp [hasB, hr]

/-- how many of the first k places are in -/
def cnt (F : Int → Bool) : Nat → Nat
  | 0 => 0
  | k + 1 => cnt F k + (if F k then 1 else 0)
theorem cnt_le (F : Int → Bool) : ∀ k, cnt F k ≤ k
  | 0 => Nat.le_refl _
  | k + 1 => by have := cnt_le F k; rw [cnt]; split <;> omega
theorem cnt_none {F : Int → Bool} (h : ∀ p, F p = false) : ∀ k, cnt F k = 0
  | 0 => rfl
  | k + 1 => by rw [cnt, cnt_none h k, h]; rfl
theorem cnt_low {f s : Int} (hr : rightB f s = true) (hs : f + s ≤ 64) : ∀ k : Nat, k ≤ 64 → ((k : Int) ≤ f → (cnt (hasB f s) k : Int) = 0) ∧ (f ≤ k → (k : Int) ≤ f + s → (cnt (hasB f s) k : Int) = k - f) ∧ (f + s ≤ k → (cnt (hasB f s) k : Int) = s)
  | 0, _ => by
    have h := right_spec.1 hr
    rw [cnt]; refine ⟨fun _ => ?_, fun _ _ => ?_, fun _ => ?_⟩ <;> omega
  | k + 1, hk => by
    have h := right_spec.1 hr
    have ih := cnt_low hr hs k (by omega)
    obtain ⟨i1, i2, i3⟩ := ih
    have sp := has_spec hr (p := k) (by omega) (by omega)
    rw [cnt]
    by_cases hv : hasB f s k = true
    · have hv' := sp.1 hv
      rw [if_pos hv]; clear sp hv
      refine ⟨fun _ => ?_, fun _ _ => ?_, fun _ => ?_⟩ <;> omega
    · have hv' : ¬ ((f ≤ (k : Int) ∧ (k : Int) < f + s) ∨ (k : Int) < f + s - 64) := fun x => hv (sp.2 x)
      rw [if_neg hv]; clear sp hv
      refine ⟨fun _ => ?_, fun _ _ => ?_, fun _ => ?_⟩ <;> omega
theorem cnt_high {f s : Int} (hr : rightB f s = true) (hs : ¬ f + s ≤ 64) : ∀ k : Nat, k ≤ 64 → ((k : Int) ≤ f + s - 64 → (cnt (hasB f s) k : Int) = k) ∧ (f + s - 64 ≤ k → (k : Int) ≤ f → (cnt (hasB f s) k : Int) = f + s - 64) ∧ (f ≤ k → (cnt (hasB f s) k : Int) = f + s - 64 + k - f)
  | 0, _ => by
    have h := right_spec.1 hr
    rw [cnt]; refine ⟨fun _ => ?_, fun _ _ => ?_, fun _ => ?_⟩ <;> omega
  | k + 1, hk => by
    have h := right_spec.1 hr
    have ih := cnt_high hr hs k (by omega)
    obtain ⟨i1, i2, i3⟩ := ih
    have sp := has_spec hr (p := k) (by omega) (by omega)
    rw [cnt]
    by_cases hv : hasB f s k = true
    · have hv' := sp.1 hv
      rw [if_pos hv]; clear sp hv
      refine ⟨fun _ => ?_, fun _ _ => ?_, fun _ => ?_⟩ <;> omega
    · have hv' : ¬ ((f ≤ (k : Int) ∧ (k : Int) < f + s) ∨ (k : Int) < f + s - 64) := fun x => hv (sp.2 x)
      rw [if_neg hv]; clear sp hv
      refine ⟨fun _ => ?_, fun _ _ => ?_, fun _ => ?_⟩ <;> omega
theorem cnt_all {f s : Int} (hr : rightB f s = true) : (cnt (hasB f s) 64 : Int) = s := by
  have h := right_spec.1 hr
  by_cases hs : f + s ≤ 64
  · have := (cnt_low hr hs 64 (by omega)).2.2 (by omega); omega
  · have := (cnt_high hr hs 64 (by omega)).2.2 (by omega); omega

/-- is one of the first k places in both -/
def both (f s g t : Int) (k : Nat) : Bool := (List.range k).any fun p : Nat => hasB f s p && hasB g t p
theorem both_succ (f s g t : Int) (k : Nat) : both f s g t (k + 1) = (both f s g t k || (hasB f s k && hasB g t k)) := by
  simp [both, List.range_succ]
theorem both_comm (f s g t : Int) : ovB g t f s = ovB f s g t := by
  unfold ovB; congr 1; funext p; rw [Bool.and_comm]

theorem own_form {w : World} {base e size n : Nat} {v : Value} {xs : List Value} (h : w.ownsRow base e size v n xs) : ∃ ao cap, v = .slice ao n cap := by
  rcases h.2 with ⟨h1, rfl⟩ | ⟨g, cap, cur, h, _⟩
  · exact ⟨_, _, h1⟩
  · exact ⟨_, _, h⟩
theorem places_length (f s : Int) : (places f s).length = if rightB f s then s.toNat else 0 := by
  unfold places; split <;> simp [pl_length]
end Go.Proofs.Ytjgmgcniemncjaa
