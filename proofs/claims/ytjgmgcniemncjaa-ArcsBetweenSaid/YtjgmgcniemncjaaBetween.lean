/- Between: package arcs, and the document's answer; ArcsBetween, ArcsAround: the walks. -/
import Derived.Test.YtjgmgcniemncjaaAlive
import Derived.Test.YtjgmgcniemncjaaCmp
namespace Go.Proofs.Ytjgmgcniemncjaa
open Go.RowKit Go.Sort
set_option linter.unusedVariables false

/-- does x lie behind a, up to b, around the ring -/
def btw (ah al xh xl bh bl : Int) : Bool :=
  if cmpP ah al bh bl < 0 then decide (cmpP ah al xh xl < 0) && decide (cmpP xh xl bh bl ≤ 0) else decide (cmpP ah al xh xl < 0) || decide (cmpP xh xl bh bl ≤ 0)

theorem cmp3 (h l h' l' : Int) : cmpP h l h' l' = -1 ∧ (h < h' ∨ h = h' ∧ l < l') ∨ cmpP h l h' l' = 1 ∧ (h' < h ∨ h = h' ∧ l' < l) ∨ cmpP h l h' l' = 0 ∧ h = h' ∧ l = l' := by
  have hway : (h < h' ∨ h = h' ∧ l < l') ∨ (h' < h ∨ h = h' ∧ l' < l) ∨ (h = h' ∧ l = l') := by omega
  rcases hway with k | k | ⟨rfl, rfl⟩
  · exact .inl ⟨cmpP_lt k, k⟩
  · exact .inr (.inl ⟨cmpP_gt k, k⟩)
  · exact .inr (.inr ⟨cmpP_eq _ _, rfl, rfl⟩)

set_option maxHeartbeats 2000000 in
/-- the two tests of Between, and the answer -/
theorem between_any (ah al xh xl bh bl : Int) :
    Ret 27 #[pos ah al, pos xh xl, pos bh bl] (.returned (.bool (btw ah al xh xl bh bl))) := by
  intro w
  have C1 := Lib.hid cmp_any
  have k1 : (decide (cmpP ah al xh xl < 0) = true) ∨ (decide (cmpP ah al xh xl < 0) = false) := by by_cases h : cmpP ah al xh xl < 0 <;> simp [h]
  have k3 : (cmpP ah al bh bl < 0 ∧ decide (cmpP ah al bh bl < 0) = true) ∨ (¬ cmpP ah al bh bl < 0 ∧ decide (cmpP ah al bh bl < 0) = false) := by by_cases h : cmpP ah al bh bl < 0 <;> simp [h]
  unfold btw
  rcases k1 with q1 | q1 <;> rcases k3 with ⟨p3, q3⟩ | ⟨p3, q3⟩
  all_goals
    simp only [p3, q1, if_true, if_false, Bool.false_and, Bool.true_and, Bool.true_or, Bool.false_or]
    go_enter Try.func27, Try.ntmps27
    go_wp2_with fail
    have hW : Below w.heap.size w (((w.alloc (.cells #[.int .u64 ah, .int .u64 al] 45)).alloc (.cells #[.int .u64 xh, .int .u64 xl] 45)).alloc (.cells #[.int .u64 bh, .int .u64 bl] 45)) := below_alloc (below_alloc (below_alloc (Below.refl _ _) _) _) _
    have g1 : (((w.alloc (.cells #[.int .u64 ah, .int .u64 al] 45)).alloc (.cells #[.int .u64 xh, .int .u64 xl] 45)).alloc (.cells #[.int .u64 bh, .int .u64 bl] 45)).cell? ⟨w.heap.size, 0, none⟩ = some (.int .u64 ah) := by go_simp
    have g2 : (((w.alloc (.cells #[.int .u64 ah, .int .u64 al] 45)).alloc (.cells #[.int .u64 xh, .int .u64 xl] 45)).alloc (.cells #[.int .u64 bh, .int .u64 bl] 45)).cell? ⟨w.heap.size, 1, none⟩ = some (.int .u64 al) := by go_simp
    have g3 : (((w.alloc (.cells #[.int .u64 ah, .int .u64 al] 45)).alloc (.cells #[.int .u64 xh, .int .u64 xl] 45)).alloc (.cells #[.int .u64 bh, .int .u64 bl] 45)).cell? ⟨w.heap.size + 1, 0, none⟩ = some (.int .u64 xh) := by go_simp
    have g4 : (((w.alloc (.cells #[.int .u64 ah, .int .u64 al] 45)).alloc (.cells #[.int .u64 xh, .int .u64 xl] 45)).alloc (.cells #[.int .u64 bh, .int .u64 bl] 45)).cell? ⟨w.heap.size + 1, 1, none⟩ = some (.int .u64 xl) := by go_simp
    have g5 : (((w.alloc (.cells #[.int .u64 ah, .int .u64 al] 45)).alloc (.cells #[.int .u64 xh, .int .u64 xl] 45)).alloc (.cells #[.int .u64 bh, .int .u64 bl] 45)).cell? ⟨w.heap.size + 1 + 1, 0, none⟩ = some (.int .u64 bh) := by go_simp
    have g6 : (((w.alloc (.cells #[.int .u64 ah, .int .u64 al] 45)).alloc (.cells #[.int .u64 xh, .int .u64 xl] 45)).alloc (.cells #[.int .u64 bh, .int .u64 bl] 45)).cell? ⟨w.heap.size + 1 + 1, 1, none⟩ = some (.int .u64 bl) := by go_simp
    generalize ((w.alloc (.cells #[.int .u64 ah, .int .u64 al] 45)).alloc (.cells #[.int .u64 xh, .int .u64 xl] 45)).alloc (.cells #[.int .u64 bh, .int .u64 bl] 45) = W at *
    have r1 := cell_regrown g1; have r2 := cell_regrown g2; have r3 := cell_regrown g3; have r4 := cell_regrown g4; have r5 := cell_regrown g5; have r6 := cell_regrown g6
    refine wp_region_quiet_below (by kernel_rfl) (by kernel_rfl) ?_
    repeat (go_big_quiet_step (exact (C1.out _ _ _ _).re _ _ _))
    refine wpQuiet_nil ?_
    intro _ hw'
    obtain ⟨⟨dq, osq⟩, hw''⟩ := hw'
    subst hw''
    have lk := below_regrown W dq osq
    go_wp2_with fail
    refine (C1.out _ _ _ _ _).mono ?_
    rintro e w3 ⟨rfl, l3⟩
    go_wp2_with fail
    go_ret
    exact ⟨rfl, below_next (below_next hW lk) l3⟩

end Go.Proofs.Ytjgmgcniemncjaa
