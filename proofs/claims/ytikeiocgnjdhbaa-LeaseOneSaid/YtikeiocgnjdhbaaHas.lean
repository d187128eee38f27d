/- Has of package arcs. -/
import Derived.Test.YtikeiocgnjdhbaaBase
namespace Go.Proofs.Ytikeiocgnjdhbaa
open Go.RowKit Go.Sort
set_option linter.unusedVariables false

set_option maxHeartbeats 1000000 in
theorem has_any (f s p : Int) : Ret 18 #[arc f s, .int .i64 p] (.returned (.bool (hasB f s p))) := by
  intro w
  have c1 := right_any f s
  have c2 : Ret 31 #[.int .i64 p] (.returned (.bool (placeB p))) := fun w => same_below (isplace_any p w)
  have hb : hasB f s p = (rightB f s && (placeB p && decide ((p - f + 64) % 64 < s))) := rfl
  rw [hb]; clear hb
  cases hr : rightB f s <;> rw [hr] at c1
  · have C1 := Lib.hid c1; clear c1
    clear hr c2
    rw [Bool.false_and]
    go_enter Try.func18, Try.ntmps18
    go_wp2_with fail
    have hW : Below w.heap.size w (w.alloc (.cells #[.int .i64 f, .int .i64 s] 37)) := below_alloc (Below.refl _ _) _
    have k0 : (w.alloc (.cells #[.int .i64 f, .int .i64 s] 37)).cell? ⟨w.heap.size, 0, none⟩ = some (.int .i64 f) := by go_simp
    have k1 : (w.alloc (.cells #[.int .i64 f, .int .i64 s] 37)).cell? ⟨w.heap.size, 1, none⟩ = some (.int .i64 s) := by go_simp
    generalize w.alloc (.cells #[.int .i64 f, .int .i64 s] 37) = W at *
    have k0 := cell_regrown k0
    have k1 := cell_regrown k1
    refine wp_region_quiet_below (by kernel_rfl) (by kernel_rfl) ?_
    repeat (quiet_step (first | exact C1.out.re _ _ _))
    refine wpQuiet_nil ?_
    intro _ hw'
    obtain ⟨⟨dq, osq⟩, hw''⟩ := hw'
    subst hw''
    have lk := below_regrown W dq osq
    go_wp2_with fail
    go_ret
    exact ⟨rfl, below_next hW lk⟩
  · have hr' := right_spec.1 hr
    have C1 := Lib.hid c1; clear c1
    clear hr
    rw [Bool.true_and]
    cases hp : placeB p <;> rw [hp] at c2
    · have C2 := Lib.hid c2; clear c2
      clear hp hr'
      rw [Bool.false_and]
      go_enter Try.func18, Try.ntmps18
      go_wp2_with fail
      have hW : Below w.heap.size w (w.alloc (.cells #[.int .i64 f, .int .i64 s] 37)) := below_alloc (Below.refl _ _) _
      have k0 : (w.alloc (.cells #[.int .i64 f, .int .i64 s] 37)).cell? ⟨w.heap.size, 0, none⟩ = some (.int .i64 f) := by go_simp
      have k1 : (w.alloc (.cells #[.int .i64 f, .int .i64 s] 37)).cell? ⟨w.heap.size, 1, none⟩ = some (.int .i64 s) := by go_simp
      generalize w.alloc (.cells #[.int .i64 f, .int .i64 s] 37) = W at *
      have k0 := cell_regrown k0
      have k1 := cell_regrown k1
      refine wp_region_quiet_below (by kernel_rfl) (by kernel_rfl) ?_
      repeat (quiet_step (first | exact C1.out.re _ _ _ | exact C2.out.re _ _ _))
      refine wpQuiet_nil ?_
      intro _ hw'
      obtain ⟨⟨dq, osq⟩, hw''⟩ := hw'
      subst hw''
      have lk := below_regrown W dq osq
      go_wp2_with fail
      go_ret
      exact ⟨rfl, below_next hW lk⟩
    · have hp' := place_spec.1 hp
      have c3 : Ret 32 #[.int .i64 f, .int .i64 p] (.returned (.int .i64 ((p - f + 64) % 64))) := fun w => same_below (ahead_any f p (by omega) (by omega) (by omega) (by omega) w)
      have C2 := Lib.hid c2; clear c2
      have C3 := Lib.hid c3; clear c3
      clear hp
      rw [Bool.true_and]
      have hx : 0 ≤ (p - f + 64) % 64 ∧ (p - f + 64) % 64 < 64 := by omega
      generalize (p - f + 64) % 64 = x at *
      go_enter Try.func18, Try.ntmps18
      go_wp2_with fail
      have hW : Below w.heap.size w (w.alloc (.cells #[.int .i64 f, .int .i64 s] 37)) := below_alloc (Below.refl _ _) _
      have k0 : (w.alloc (.cells #[.int .i64 f, .int .i64 s] 37)).cell? ⟨w.heap.size, 0, none⟩ = some (.int .i64 f) := by go_simp
      have k1 : (w.alloc (.cells #[.int .i64 f, .int .i64 s] 37)).cell? ⟨w.heap.size, 1, none⟩ = some (.int .i64 s) := by go_simp
      generalize w.alloc (.cells #[.int .i64 f, .int .i64 s] 37) = W at *
      have k0 := cell_regrown k0
      have k1 := cell_regrown k1
      refine wp_region_quiet_below (by kernel_rfl) (by kernel_rfl) ?_
      repeat (quiet_step (first | exact C1.out.re _ _ _ | exact C2.out.re _ _ _ | exact C3.out.re _ _ _))
      refine wpQuiet_nil ?_
      intro _ hw'
      obtain ⟨⟨dq, osq⟩, hw''⟩ := hw'
      subst hw''
      have lk := below_regrown W dq osq
      go_wp2_with fail
      go_ret
      exact ⟨rfl, below_next hW lk⟩

end Go.Proofs.Ytikeiocgnjdhbaa
