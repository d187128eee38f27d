/- No store. -/
import Derived.Test.YtbjcmomicjdepaaArg
namespace Go.Proofs.Ytbjcmomicjdepaa
open Go.RowKit Go.Sort
set_option linter.unusedVariables false
set_option linter.unusedSimpArgs false
set_option maxRecDepth 100000
set_option maxHeartbeats 4000000 in
theorem read_nil (w : World) : Calls Try.prog 27 #[.pointer none, .int .i64 0, .int .i64 0] w fun e w' => e = .returned (.tuple #[.agg ⟨anL 0 0 0 ⟨none, 0⟩⟩, .int .i64 1]) ∧ Below w.heap.size w w' := by
  have F := Lib.hid (fun w => full_nil 0 0 w)
  have k1 : AnB (w.alloc (.cells #[.int .u32 0, .int .u32 0, .int .u32 0, .slice none 0 0] 64)) w.heap.size 0 0 0 ⟨none, 0⟩ := heap_alloc_new w _
  have B1 := Lib.hid (below_alloc (Below.refl w.heap.size w) (.cells #[.int .u32 0, .int .u32 0, .int .u32 0, .slice none 0 0] 64))
  have K1 := Lib.hid k1
  have TH := Lib.hid k1.there
  have K3 := Lib.hid (AnB.laid (inc' := 0) (ver' := 0) (n' := 0) (t' := ⟨none, 0⟩) k1)
  have KK := Lib.hid (keep_setCells w.heap.size (anL 0 0 0 ⟨none, 0⟩) 0 (w.alloc (.cells #[.int .u32 0, .int .u32 0, .int .u32 0, .slice none 0 0] 64)))
  clear k1
  go_enter Try.func27, Try.ntmps27
  go_wp2_with fail
  refine (F.out _).mono ?_; rintro e w1 ⟨rfl, rfl⟩
  go_wp2_with (refine wpList_store_mid rfl 64 (.tmp 6) (.tmp 19) rfl w.heap.size 0 ⟨anL 0 0 0 ⟨none, 0⟩⟩ rfl rfl TH.out (an_size _ _ _ _) (an_ones _ _ _ _) ?_)
  refine bodyPost_ret (res_c1t1 Try.results27 rfl (AnB.load K3.out) rfl) rfl ⟨rfl, ?_⟩
  exact B1.out.trans (KK.out.below B1.out.size (by simp))
set_option maxHeartbeats 4000000 in
theorem fence_nil (w : World) : Calls Try.prog 22 #[.pointer none, .int .i64 0, .int .i64 0, .int .i64 1, .int .u32 1] w (CpEnd w (newC 0 0) 1) := by
  have F := Lib.hid (fun w => full_nil 0 0 w)
  have k1 := cp_zero w
  have b1 := below_alloc (Below.refl w.heap.size w) (.cells #[.int .i64 0, .int .u32 0, .int .u32 0, .slice none 0 0, .slice none 0 0, .int .u32 0, .int .u32 0, .int .u32 0, .int .u32 0, .slice none 0 0] 42)
  have B1 := Lib.hid b1
  have TH := Lib.hid k1.there
  have K3 := Lib.hid (CpB.laid (c := newC 0 0) (s := newS) k1)
  have KK := Lib.hid (keep_setCells w.heap.size (Cp.list (newC 0 0) newS) 0 (w.alloc (.cells #[.int .i64 0, .int .u32 0, .int .u32 0, .slice none 0 0, .slice none 0 0, .int .u32 0, .int .u32 0, .int .u32 0, .int .u32 0, .slice none 0 0] 42)))
  clear k1 b1
  go_enter Try.func22, Try.ntmps22
  go_wp2_with fail
  refine (F.out _).mono ?_; rintro e w1 ⟨rfl, rfl⟩
  go_wp2_with (refine wpList_store_mid rfl 42 (.tmp 10) (.tmp 39) rfl w.heap.size 0 ⟨Cp.list (newC 0 0) newS⟩ rfl rfl TH.out (cp_size _ _) (cp_ones _ _) ?_)
  refine bodyPost_ret (res_c1t1 Try.results22 rfl (CpB.load K3.out) rfl) rfl ⟨newS, rfl, CpO.zero _ _, ?_⟩
  exact B1.out.trans (KK.out.below B1.out.size (by simp))
set_option maxHeartbeats 2000000 in
theorem open_nil : Ret 17 #[.pointer none, .int .i64 0, .int .i64 0, .int .u32 1, .bool true] (.returned (.int .i64 1)) := by
  intro w
  have F := Lib.hid (refusal_nil 0 0 w)
  go_enter Try.func17, Try.ntmps17
  go_wp2_with fail
  refine F.out.mono ?_; rintro e w1 ⟨rfl, rfl⟩
  go_wp2_with fail
  go_ret
  exact ⟨rfl, Below.refl _ _⟩
theorem drop_nil : Ret 28 #[.pointer none, .int .i64 0, .int .i64 0] (.returned (.int .i64 1)) := by
  intro w
  have F := Lib.hid (find_nil 0 0 w)
  go_enter Try.func28, Try.ntmps28
  go_wp2_with fail
  refine F.out.mono ?_; rintro e w1 ⟨rfl, rfl⟩
  go_wp2_with fail
  go_ret
  exact ⟨rfl, Below.refl _ _⟩
theorem state_nil : Ret 29 #[.pointer none, .int .i64 0, .int .i64 0] (.returned (.int .i64 0)) := by
  intro w
  have F := Lib.hid (find_nil 0 0 w)
  go_enter Try.func29, Try.ntmps29
  go_wp2_with fail
  refine F.out.mono ?_; rintro e w1 ⟨rfl, rfl⟩
  go_wp2_with fail
  go_ret
  exact ⟨rfl, Below.refl _ _⟩
theorem vote_nil (l : Lk) (t : Sd) : Ret 19 #[.pointer none, .int .i64 0, l.ag t] (.returned (.tuple #[.int .i64 0, .int .i64 1])) := by
  intro w
  have b1 := below_alloc (Below.refl w.heap.size w) (.cells (l.cells t) 38)
  have k1 := LkB.new w l t
  have F := Lib.hid (for_nil 0 l t (w.alloc (.cells (l.cells t) 38)))
  have RG := Lib.hid k1.range
  have B1 := Lib.hid b1
  clear b1 k1
  obtain ⟨tx, m0, m1, m2, ⟨bk, ver, wt, es, i0, i1, i2, i3⟩⟩ := l
  simp only [Lk.ag, Lk.cells] at F RG B1 ⊢
  go_enter Try.func19, Try.ntmps19
  go_wp2_with (refine wpList_load_mid rfl 38 (.tmp 5) rfl w.heap.size 0 rfl (Lk.list ⟨tx, m0, m1, m2, ⟨bk, ver, wt, es, i0, i1, i2, i3⟩⟩ t) _ RG.out Try.underlying38 rfl (lk_size _ _) ?_)
  refine F.out.mono ?_; rintro e w1 ⟨rfl, b2⟩
  have B2 := Lib.hid (below_next B1.out b2)
  clear b2
  go_wp2_with fail
  go_ret2
  exact ⟨rfl, B2.out⟩
theorem decide_nil (l : Lk) (t : Sd) : Ret 18 #[.pointer none, .int .i64 0, l.ag t, .bool true] (.returned (.int .i64 1)) := by
  intro w
  have b1 := below_alloc (Below.refl w.heap.size w) (.cells (l.cells t) 38)
  have k1 := LkB.new w l t
  have F := Lib.hid (for_nil 0 l t (w.alloc (.cells (l.cells t) 38)))
  have RG := Lib.hid k1.range
  have B1 := Lib.hid b1
  clear b1 k1
  obtain ⟨tx, m0, m1, m2, ⟨bk, ver, wt, es, i0, i1, i2, i3⟩⟩ := l
  simp only [Lk.ag, Lk.cells] at F RG B1 ⊢
  go_enter Try.func18, Try.ntmps18
  go_wp2_with (refine wpList_load_mid rfl 38 (.tmp 6) rfl w.heap.size 0 rfl (Lk.list ⟨tx, m0, m1, m2, ⟨bk, ver, wt, es, i0, i1, i2, i3⟩⟩ t) _ RG.out Try.underlying38 rfl (lk_size _ _) ?_)
  refine F.out.mono ?_; rintro e w1 ⟨rfl, b2⟩
  have B2 := Lib.hid (below_next B1.out b2)
  clear b2
  go_wp2_with fail
  go_ret
  exact ⟨rfl, B2.out⟩
theorem install_nil (x0 x1 x2 x3 x4 x5 x6 x7 x8 x9 : Value) : Ret 24 #[.pointer none, .int .i64 0, .int .i64 0, .agg #[x0, x1, x2, x3, x4, x5, x6, x7, x8, x9]] (.returned (.int .i64 1)) := by
  intro w
  have F := Lib.hid (fun w => refusal_nil 0 0 w)
  go_enter Try.func24, Try.ntmps24
  go_wp2_with fail
  refine (F.out _).mono ?_; rintro e w1 ⟨rfl, rfl⟩
  go_wp2_with fail
  go_ret
  exact ⟨rfl, below_alloc (Below.refl _ _) _⟩
set_option maxHeartbeats 4000000 in
theorem recover_nil (x0 x1 x2 x3 x4 x5 x6 x7 x8 x9 x10 x11 x12 x13 x14 x15 x16 x17 x18 x19 x20 x21 x22 x23 x24 x25 x26 x27 x28 x29 x30 x31 x32 x33 x34 x35 x36 x37 x38 x39 : Value) : Ret 23 #[.pointer none, .int .i64 0, .int .i64 0, .agg #[x0, x1, x2, x3, x4, x5, x6, x7, x8, x9, x10, x11, x12, x13, x14, x15, x16, x17, x18, x19, x20, x21, x22, x23, x24, x25, x26, x27, x28, x29, x30, x31, x32, x33, x34, x35, x36, x37, x38, x39]] (.returned (.int .i64 1)) := by
  intro w
  have F := Lib.hid (fun w => find_nil 0 0 w)
  go_enter Try.func23, Try.ntmps23
  go_wp2_with fail
  refine (F.out _).mono ?_; rintro e w1 ⟨rfl, rfl⟩
  go_wp2_with fail
  go_ret
  exact ⟨rfl, below_alloc (Below.refl _ _) _⟩
end Go.Proofs.Ytbjcmomicjdepaa
