/- How positions stand: Cmp of package keys, Cmp of the document's answer. -/
import Derived.Test.YtjgmgcniemncjaaBase
namespace Go.Proofs.Ytjgmgcniemncjaa
open Go.RowKit
set_option linter.unusedVariables false

abbrev pos (h l : Int) : Value := .agg #[.int .u64 h, .int .u64 l]
/-- how two numbers stand -/
def cmpI (a b : Int) : Int := if a < b then -1 else if b < a then 1 else 0
/-- how two positions stand -/
def cmpP (h l h' l' : Int) : Int := if h = h' then cmpI l l' else cmpI h h'
theorem cmpP_lt {h l h' l' : Int} (k : h < h' ∨ h = h' ∧ l < l') : cmpP h l h' l' = -1 := by unfold cmpP cmpI; split <;> split <;> (try split) <;> omega
theorem cmpP_gt {h l h' l' : Int} (k : h' < h ∨ h = h' ∧ l' < l) : cmpP h l h' l' = 1 := by unfold cmpP cmpI; split <;> split <;> (try split) <;> omega
theorem cmpP_eq (h l : Int) : cmpP h l h l = 0 := by simp [cmpP, cmpI]

set_option maxHeartbeats 400000 in
theorem nan_any (a : Int) (w : World) :
    Calls Try.prog 37 #[.int .u64 a] w fun e w' => e = .returned (.bool false) ∧ w = w' := by
  go_enter Try.func37, Try.ntmps37
  go_wp2_with fail
  go_ret
  exact ⟨by simp, rfl⟩

set_option maxHeartbeats 400000 in
theorem compare_any (a b : Int) (w : World) :
    Calls Try.prog 36 #[.int .u64 a, .int .u64 b] w fun e w' => e = .returned (.int .i64 (cmpI a b)) ∧ w = w' := by
  have hway : a < b ∨ b < a ∨ a = b := by omega
  rcases hway with h | h | rfl
  · have hc : cmpI a b = -1 := by simp [cmpI, h]
    rw [hc]
    go_enter Try.func36, Try.ntmps36
    go_wp2_with fail
    refine (nan_any a _).mono ?_
    rintro e w1 ⟨rfl, rfl⟩
    go_wp2_with fail
    refine (nan_any b _).mono ?_
    rintro e w1 ⟨rfl, rfl⟩
    go_wp2_with fail
    go_ret
    exact ⟨rfl, rfl⟩
  · have hc : cmpI a b = 1 := by simp [cmpI, h]; omega
    rw [hc]
    go_enter Try.func36, Try.ntmps36
    go_wp2_with fail
    refine (nan_any a _).mono ?_
    rintro e w1 ⟨rfl, rfl⟩
    go_wp2_with fail
    refine (nan_any b _).mono ?_
    rintro e w1 ⟨rfl, rfl⟩
    go_wp2_with fail
    go_ret
    exact ⟨rfl, rfl⟩
  · have hc : cmpI a a = 0 := by simp [cmpI]
    rw [hc]
    go_enter Try.func36, Try.ntmps36
    go_wp2_with fail
    refine (nan_any a _).mono ?_
    rintro e w1 ⟨rfl, rfl⟩
    go_wp2_with fail
    refine (nan_any a _).mono ?_
    rintro e w1 ⟨rfl, rfl⟩
    go_wp2_with fail
    go_ret
    exact ⟨rfl, rfl⟩

set_option maxHeartbeats 400000 in
theorem cmp_any (h l h' l' : Int) : Ret 34 #[pos h l, pos h' l'] (.returned (.int .i64 (cmpP h l h' l'))) := by
  intro w
  by_cases he : h = h'
  · subst he
    have hc : cmpP h l h l' = cmpI l l' := by simp [cmpP]
    rw [hc]
    go_enter Try.func34, Try.ntmps34
    go_wp2_with fail
    refine (compare_any l l' _).mono ?_
    rintro e w1 ⟨rfl, rfl⟩
    go_wp2_with fail
    go_ret
    exact ⟨rfl, below_alloc (below_alloc (Below.refl _ _) _) _⟩
  · have hc : cmpP h l h' l' = cmpI h h' := by simp [cmpP, he]
    rw [hc]
    have hn : (h != h') = true := by simp [he]
    go_enter Try.func34, Try.ntmps34
    go_wp2_with fail
    refine (compare_any h h' _).mono ?_
    rintro e w1 ⟨rfl, rfl⟩
    go_wp2_with fail
    go_ret
    exact ⟨rfl, below_alloc (below_alloc (Below.refl _ _) _) _⟩

set_option maxHeartbeats 1000000 in
theorem rcmp_any (h l h' l' : Int) : Ret 35 #[pos h l, pos h' l'] (.returned (.int .i64 (cmpP h l h' l'))) := by
  intro w
  have hway : h < h' ∨ (h = h' ∧ l < l') ∨ (h = h' ∧ l = l') ∨ (h = h' ∧ l' < l) ∨ h' < h := by omega
  rcases hway with k | ⟨rfl, k⟩ | ⟨rfl, rfl⟩ | ⟨rfl, k⟩ | k
  · rw [cmpP_lt (.inl k)]
    go_enter Try.func35, Try.ntmps35
    go_wp2_with fail
    go_ret
    exact ⟨rfl, below_alloc (below_alloc (Below.refl _ _) _) _⟩
  · rw [cmpP_lt (.inr ⟨rfl, k⟩)]
    go_enter Try.func35, Try.ntmps35
    go_wp2_with fail
    go_ret
    exact ⟨rfl, below_alloc (below_alloc (Below.refl _ _) _) _⟩
  · rw [cmpP_eq]
    go_enter Try.func35, Try.ntmps35
    go_wp2_with fail
    go_ret
    exact ⟨rfl, below_alloc (below_alloc (Below.refl _ _) _) _⟩
  · rw [cmpP_gt (.inr ⟨rfl, k⟩)]
    have h1 : (l == l') = false := by simp; omega
    have h2 : decide (l < l') = false := by simp; omega
    go_enter Try.func35, Try.ntmps35
    go_wp2_with fail
    go_ret
    exact ⟨rfl, below_alloc (below_alloc (Below.refl _ _) _) _⟩
  · rw [cmpP_gt (.inl k)]
    have h1 : (h == h') = false := by simp; omega
    have h2 : decide (h < h') = false := by simp; omega
    go_enter Try.func35, Try.ntmps35
    go_wp2_with fail
    go_ret
    exact ⟨rfl, below_alloc (below_alloc (Below.refl _ _) _) _⟩

end Go.Proofs.Ytjgmgcniemncjaa
