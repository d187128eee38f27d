/- strings.Clone: the same bytes. The layout of the library's contract, in plain words. -/
import Derived.Shelf.Strconv.Clone
import Derived.Test.YtbjcmomicjdepaaBi
namespace Go.Proofs.Ytbjcmomicjdepaa
open Go.Shelf Go.RowKit
def cloneR : Go.Shelf.Ren := ⟨fun | 316 => 98 | n => n, fun | 5 => 5 | 9 => 9 | 3 => 3 | 4 => 4 | 37 => 139 | 127 => 140 | 0 => 0 | n => n, fun | n => n⟩
theorem cloneL : Go.Proofs.LaysM.n316 Try.prog cloneR := {
  mixed := by kernel_rfl
  f316 := Try.func98.trans (congrArg some (by kernel_rfl))
  t0 := Try.underlying0
  a0 := Try.isAgg0
  z0 := Try.sizeOf0
  v0 := Try.zeroValue0
  t3 := Try.underlying3
  a3 := Try.isAgg3
  z3 := Try.sizeOf3
  v3 := Try.zeroValue3
  t4 := Try.underlying4
  a4 := Try.isAgg4
  z4 := Try.sizeOf4
  v4 := Try.zeroValue4
  t9 := Try.underlying9
  a9 := Try.isAgg9
  z9 := Try.sizeOf9
  v9 := Try.zeroValue9
  t37 := Try.underlying139
  a37 := Try.isAgg139
  z37 := Try.sizeOf139
  v37 := Try.zeroValue139
  t127 := Try.underlying140
  a127 := Try.isAgg140
  z127 := Try.sizeOf140
  v127 := Try.zeroValue140
  t5 := Try.underlying5
  a5 := Try.isAgg5
  z5 := Try.sizeOf5
  v5 := Try.zeroValue5
  i0 := by kernel_rfl
  i3 := by kernel_rfl
  i4 := by kernel_rfl
  i5 := by kernel_rfl
  i9 := by kernel_rfl
  i37 := by kernel_rfl
  i127 := by kernel_rfl }
theorem clone_lite (s : ByteArray) (w : World) (h : s.size ≤ 281474976710656) : Calls Try.prog 98 #[.string s] w fun e w' => e = .returned (.string s) ∧ Below w.heap.size w w' := Any.stringslite_Clone cloneL s w h
set_option maxHeartbeats 400000 in
theorem clone_any (s : ByteArray) (w : World) (h : s.size ≤ 281474976710656) : Calls Try.prog 74 #[.string s] w fun e w' => e = .returned (.string s) ∧ Below w.heap.size w w' := by
  have C := clone_lite s w h
  clear h
  go_enter Try.func74, Try.ntmps74
  go_wp2_with fail
  refine C.mono ?_; rintro e w1 ⟨rfl, b1⟩
  go_wp2_with fail
  go_ret
  exact ⟨rfl, b1⟩
end Go.Proofs.Ytbjcmomicjdepaa
