/- StoreRights. -/
import Derived.Test.YtbjcmomicjdepaaRr
namespace Go.Proofs.Ytbjcmomicjdepaa
open Go.RowKit Go.Sort
set_option linter.unusedVariables false
set_option linter.unusedSimpArgs false
set_option maxRecDepth 100000
set_option maxHeartbeats 8000000 in
theorem storeRights_law (i : It) (s : Sd) (W0 : World) (h : EsR W0 s i.es) : Calls Try.prog 3 #[i.ag s] W0 (LawOk W0) := by
  obtain ⟨bk, ver, wt, es, i0, i1, i2, i3⟩ := i
  obtain ⟨W, hW⟩ : ∃ W, W = W0.alloc (.cells #[.int .i64 bk, .int .u32 ver, .bool wt, .slice s.ao es.length s.cap, .int .u32 i0, .int .u32 i1, .int .u32 i2, .int .u32 i3] 26) := ⟨_, rfl⟩
  have bW : Below W0.heap.size W0 W := by rw [hW]; exact below_alloc (Below.refl _ _) _
  have r1 : W.heap[W0.heap.size]? = some (.cells #[.int .i64 bk, .int .u32 ver, .bool wt, .slice s.ao es.length s.cap, .int .u32 i0, .int .u32 i1, .int .u32 i2, .int .u32 i3] 26 (0, 0)) := by rw [hW]; exact heap_alloc_new W0 _
  have AL := Lib.hid alive_any
  have C1 := Lib.hid (fun (w' : World) (k : Below W.heap.size W w') => right_any (s := s) w' ⟨bk, ver, wt, es, i0, i1, i2, i3⟩ ((h.below bW).below k))
  have C2 := Lib.hid (fun (w' : World) (k : Below W.heap.size W w') => rright_any (s := s) w' ⟨bk, ver, wt, es, i0, i1, i2, i3⟩ ((h.below bW).below k))
  generalize rightB ⟨bk, ver, wt, es, i0, i1, i2, i3⟩ = rb at *
  obtain ⟨a0, a1, a2, a3, a4, a5, a6, a7⟩ := item_cells r1
  have BW := Lib.hid bW
  clear h bW r1
  simp only [It.ag] at C1 C2 ⊢
  go_enter Try.func3, Try.ntmps3
  go_upto_region 1 with (fail)
  rw [← hW]
  clear hW
  generalize hbi : W0.heap.size = bi at a0 a1 a2 a3 a4 a5 a6 a7 ⊢
  replace a0 := cell_regrown a0; replace a1 := cell_regrown a1; replace a2 := cell_regrown a2; replace a3 := cell_regrown a3; replace a4 := cell_regrown a4; replace a5 := cell_regrown a5; replace a6 := cell_regrown a6; replace a7 := cell_regrown a7
  refine wp_region_quiet_below (by kernel_rfl) (by kernel_rfl) ?_
  repeat (go_big_quiet_step (first | (go_at_call 13; exact AL.out.re _ _ _) | (go_at_call 14; exact regr C1.out _ _) | (go_at_call 15; exact regr C2.out _ _)))
  refine wpQuiet_nil ?_
  intro _ hw'
  obtain ⟨⟨dq, osq⟩, hw''⟩ := hw'
  subst hw''
  have lk := Lib.hid (below_regrown W dq osq)
  clear a0 a1 a2 a3 a4 a5 a6 a7
  generalize grow (redrawn W dq) osq = w2 at *
  go_wp2_with fail
  go_ret
  exact ⟨by simp, below_next BW.out lk.out⟩
end Go.Proofs.Ytbjcmomicjdepaa
