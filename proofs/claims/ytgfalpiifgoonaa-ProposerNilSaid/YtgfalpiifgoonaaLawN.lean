/- ProposerNil. -/
import Derived.Test.YtgfalpiifgoonaaAw
namespace Go.Proofs.Ytgfalpiifgoonaa
open Go.RowKit Go.Sort
set_option linter.unusedVariables false
set_option linter.unusedSectionVars false
set_option linter.unusedSimpArgs false
set_option maxRecDepth 100000

theorem eql_bb (a b : Int) (w : World) : (binOp .eql 34 (.agg #[.int .u32 a, .int .u8 b]) (.agg #[.int .u32 a, .int .u8 b])).run Try.prog w = .ok (.bool true) w := by
  have := eql_bl a b a b w
  simpa using this
set_option maxHeartbeats 4000000 in
theorem proposerNil_law (fr : Int) (wfr : (Lit.int .i64 fr).wf = true) (br : Int) (wbr : (Lit.int .u32 br).wf = true) (bn : Int) (wbn : (Lit.int .u8 bn).wf = true) (v : ByteArray) (wv : v.size ≤ maxLen) (W : World) :
    Calls Try.prog 5 #[.int .i64 fr, .agg #[.int .u32 br, .int .u8 bn], .string v] W (LawOk W) := by
  have E1 := eql_bb 0 0
  have HP := Lib.hid (fun w => begin_nil 1 v w)
  have HQ := Lib.hid (fun w => promise_nil (b := ⟨br, bn⟩) (a := a0) fr w)
  have HA := Lib.hid (fun w => accepted_nil fr ⟨br, bn⟩ v w)
  clear wfr wbr wbn wv
  go_enter Try.func5, Try.ntmps5
  go_upto_region 3 with (fail)
  have r0' := Row2.new W ⟨br, bn⟩
  have B0 := Lib.hid (below_alloc (Below.refl W.heap.size W) (Bl.obj ⟨br, bn⟩))
  simp only [Bl.obj] at r0' B0
  generalize W.alloc (.cells #[.int .u32 br, .int .u8 bn] 34) = w0 at *
  generalize hbw : W.heap.size = bw at *
  have R0 := Lib.hid r0'
  clear r0'
  go_wp2_with fail
  refine (HP.out _).mono ?_; rintro e w1 ⟨rfl, b1⟩
  have b1a := below_alloc b1 (Bl.obj b0)
  have B1 := Lib.hid (B0.out.trans (b1a.mono (by have := B0.out.size; omega)))
  have R1 := Lib.hid (Row2.below R0.out b1a)
  have X1 := Lib.hid (Row2.new w1 b0)
  clear b1 b1a HP R0 B0
  simp only [Bl.obj] at B1 R1 X1
  go_upto_region 4 with (fail)
  generalize w1.alloc (.cells #[.int .u32 0, .int .u8 0] 34) = w2 at *
  generalize w1.heap.size = bx at *
  obtain ⟨c0, c1, _, _⟩ := Row2.all R1.out
  go_wp2_with fail
  refine (HQ.out _).mono ?_; rintro e w3 ⟨rfl, b3⟩
  have B3 := Lib.hid (B1.out.trans (b3.mono (by have := B1.out.size; omega)))
  have R3 := Lib.hid (Row2.below R1.out b3); have X3 := Lib.hid (Row2.below X1.out b3)
  clear b3 c0 c1 R1 X1 B1 HQ
  go_wp2_with fail
  refine (ballot_nil _).mono ?_; rintro e w4 ⟨rfl, b4⟩
  have b4a := below_alloc b4 (Bl.obj b0)
  have B4 := Lib.hid (B3.out.trans (b4a.mono (by have := B3.out.size; omega)))
  have R4 := Lib.hid (Row2.below R3.out b4a); have X4 := Lib.hid (Row2.below X3.out b4a); have Y4 := Lib.hid (Row2.new w4 b0)
  clear b4 b4a R3 X3 B3
  simp only [Bl.obj] at B4 R4 X4 Y4
  go_upto_region 6 with (fail)
  generalize w4.alloc (.cells #[.int .u32 0, .int .u8 0] 34) = w5 at *
  generalize w4.heap.size = bY at *
  obtain ⟨c0, c1, _, _⟩ := Row2.all R4.out
  go_wp2_with fail
  refine (HA.out _).mono ?_; rintro e w6 ⟨rfl, b6⟩
  have B6 := Lib.hid (B4.out.trans (b6.mono (by have := B4.out.size; omega)))
  have X6 := Lib.hid (Row2.below X4.out b6); have Y6 := Lib.hid (Row2.below Y4.out b6)
  clear b6 c0 c1 R4 X4 Y4 B4 HA
  go_wp2_with fail
  refine (chosen_nil _).mono ?_; rintro e w7 ⟨rfl, rfl⟩
  go_wp2_with fail
  refine (alive_any _).mono ?_; rintro e w8 ⟨rfl, b8⟩
  have B8 := Lib.hid (B6.out.trans (b8.mono (by have := B6.out.size; omega)))
  obtain ⟨x0, x1, _, _⟩ := Row2.all (Row2.below X6.out b8)
  obtain ⟨y0, y1, _, _⟩ := Row2.all (Row2.below Y6.out b8)
  simp only at x0 x1 y0 y1
  clear b8 B6 X6 Y6
  go_wp2_with fail
  go_ret
  exact ⟨rfl, by rw [hbw]; exact B8.out⟩
end Go.Proofs.Ytgfalpiifgoonaa
