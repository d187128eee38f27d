/- AcceptorNil. -/
import Derived.Test.YtgknmicblnldiaaEq
namespace Go.Proofs.Ytgknmicblnldiaa
open Go.RowKit Go.Sort
set_option linter.unusedVariables false

set_option maxRecDepth 100000 in
set_option maxHeartbeats 4000000 in
theorem acceptorNil_law (tx : Int) (wtx : (Lit.int .u64 tx).wf = true) (ib : Int) (wib : (Lit.int .i64 ib).wf = true) (ir : Int) (wir : (Lit.int .i64 ir).wf = true) (ix : Int) (wix : (Lit.int .u32 ix).wf = true) (br : Int) (wbr : (Lit.int .u32 br).wf = true) (bn : Int) (wbn : (Lit.int .u8 bn).wf = true) (W : World) :
    Calls Try.prog 5 #[.agg #[.int .u64 tx, .int .i64 ib, .int .i64 ir, .int .u32 ix], .agg #[.int .u32 br, .int .u8 bn]] W (LawOk W) := by
  have E1 := eql_bb 0 0
  have E2 := eql_aa false 0 0 ⟨#[]⟩
  have HP := Lib.hid (fun w => prepare_err (.pointer none) ⟨tx, ib, ir, ix⟩ ⟨br, bn⟩ 1 (by decide) w fun w' _ => place_nil ⟨tx, ib, ir, ix⟩ w')
  have HA := Lib.hid (fun w => accept_err (.pointer none) ⟨tx, ib, ir, ix⟩ ⟨br, bn⟩ ⟨#[118]⟩ 1 (by decide) w fun w' _ => place_nil ⟨tx, ib, ir, ix⟩ w')
  have HG := Lib.hid (fun w => get_nil ⟨tx, ib, ir, ix⟩ w)
  have HF := Lib.hid (fun w => forget_nil ⟨tx, ib, ir, ix⟩ w)
  clear wtx wib wir wix wbr wbn
  go_enter Try.func5, Try.ntmps5
  go_upto_region 2 with (fail)
  have b0' := below_alloc (below_alloc (Below.refl W.heap.size W) (In.obj ⟨tx, ib, ir, ix⟩)) (Bl.obj ⟨br, bn⟩)
  have k0 := (((At.nil W).alloc #[.int .u64 tx, .int .i64 ib, .int .i64 ir, .int .u32 ix] 36).alloc #[.int .u32 br, .int .u8 bn] 38)
  rw [show (W.alloc (.cells #[.int .u64 tx, .int .i64 ib, .int .i64 ir, .int .u32 ix] 36)).heap.size = W.heap.size + 1 by simp] at k0
  simp only [In.obj, Bl.obj] at b0'
  have HZ := Lib.hid (show ((W.alloc (.cells #[.int .u64 tx, .int .i64 ib, .int .i64 ir, .int .u32 ix] 36)).alloc (.cells #[.int .u32 br, .int .u8 bn] 38)).heap.size = W.heap.size + 2 by simp)
  generalize (W.alloc (.cells #[.int .u64 tx, .int .i64 ib, .int .i64 ir, .int .u32 ix] 36)).alloc (.cells #[.int .u32 br, .int .u8 bn] 38) = w0 at *
  obtain ⟨d0, d1, d2, d3⟩ := Row4.all (i := ⟨tx, ib, ir, ix⟩) k0.tail.head
  obtain ⟨c0, c1, _, _⟩ := Row2.all (b := ⟨br, bn⟩) k0.head
  simp only at d0 d1 d2 d3 c0 c1
  have K0 := Lib.hid k0; have HB := Lib.hid b0'
  generalize hbw : W.heap.size = b0 at *
  clear k0 b0'
  go_wp2_with fail
  refine (HP.out _).mono ?_; rintro e w1 ⟨rfl, b1⟩
  have b1' := below_alloc (below_alloc b1 (Ac.obj a0)) (Bl.obj Ytgknmicblnldiaa.b0)
  have k1 := ((K0.out.below b1).alloc #[.bool false, .int .u32 0, .int .u8 0, .string ⟨#[]⟩] 45).alloc #[.int .u32 0, .int .u8 0] 38
  rw [show (w1.alloc (.cells #[.bool false, .int .u32 0, .int .u8 0, .string ⟨#[]⟩] 45)).heap.size = w1.heap.size + 1 by simp] at k1
  have hb1 := HB.out.trans (b1'.mono (by have := HB.out.size; omega))
  have hz1 : b0 ≤ w1.heap.size := by have := b1.size; have := HB.out.size; omega
  simp only [Ac.obj, Bl.obj] at hb1
  clear d0 d1 d2 d3 c0 c1 K0 HB b1 b1' HP HZ
  go_upto_region 3 with (fail)
  generalize hbc : w1.heap.size = b1 at *
  generalize (w1.alloc (.cells #[.bool false, .int .u32 0, .int .u8 0, .string ⟨#[]⟩] 45)).alloc (.cells #[.int .u32 0, .int .u8 0] 38) = w2 at *
  obtain ⟨d0, d1, d2, d3⟩ := Row4.all (i := ⟨tx, ib, ir, ix⟩) k1.tail.tail.tail.head
  obtain ⟨c0, c1, _, _⟩ := Row2.all (b := ⟨br, bn⟩) k1.tail.tail.head
  simp only at d0 d1 d2 d3 c0 c1
  have K1 := Lib.hid k1; have HB := Lib.hid hb1
  clear k1 hb1
  go_wp2_with fail
  refine (HA.out _).mono ?_; rintro e w3 ⟨rfl, b3⟩
  have b3' := below_alloc b3 (Bl.obj Ytgknmicblnldiaa.b0)
  have k3 := (K1.out.below b3).alloc #[.int .u32 0, .int .u8 0] 38
  have hb3 := HB.out.trans (b3'.mono (by have := HB.out.size; omega))
  have hz3 : b0 ≤ w3.heap.size := by have := b3.size; have := HB.out.size; omega
  simp only [Bl.obj] at hb3
  clear d0 d1 d2 d3 c0 c1 K1 HB b3 b3' HA
  go_upto_region 4 with (fail)
  generalize hbd : w3.heap.size = b3 at *
  generalize w3.alloc (.cells #[.int .u32 0, .int .u8 0] 38) = w4 at *
  obtain ⟨d0, d1, d2, d3⟩ := Row4.all (i := ⟨tx, ib, ir, ix⟩) k3.tail.tail.tail.tail.head
  simp only at d0 d1 d2 d3
  have K3 := Lib.hid k3; have HB := Lib.hid hb3
  clear k3 hb3
  go_wp2_with fail
  refine (HG.out _).mono ?_; rintro e w5 ⟨rfl, b5⟩
  have b5' := below_alloc (below_alloc b5 (Bl.obj Ytgknmicblnldiaa.b0)) (Ac.obj a0)
  have k5 := ((K3.out.below b5).alloc #[.int .u32 0, .int .u8 0] 38).alloc #[.bool false, .int .u32 0, .int .u8 0, .string ⟨#[]⟩] 45
  rw [show (w5.alloc (.cells #[.int .u32 0, .int .u8 0] 38)).heap.size = w5.heap.size + 1 by simp] at k5
  have hb5 := HB.out.trans (b5'.mono (by have := HB.out.size; omega))
  have hz5 : b0 ≤ w5.heap.size := by have := b5.size; have := HB.out.size; omega
  simp only [Ac.obj, Bl.obj] at hb5
  clear d0 d1 d2 d3 K3 HB b5 b5' HG
  go_upto_region 5 with (fail)
  generalize hbe : w5.heap.size = b5 at *
  generalize (w5.alloc (.cells #[.int .u32 0, .int .u8 0] 38)).alloc (.cells #[.bool false, .int .u32 0, .int .u8 0, .string ⟨#[]⟩] 45) = w6 at *
  obtain ⟨a1', a2', a3', a4', _⟩ := RowA.all (a := a0) k5.head
  obtain ⟨q0, q1, _, _⟩ := Row2.all (b := Ytgknmicblnldiaa.b0) k5.tail.head
  obtain ⟨q2, q3, _, _⟩ := Row2.all (b := Ytgknmicblnldiaa.b0) k5.tail.tail.head
  obtain ⟨q4, q5, _, _⟩ := Row2.all (b := Ytgknmicblnldiaa.b0) k5.tail.tail.tail.head
  obtain ⟨f1, f2, f3, f4, _⟩ := RowA.all (a := a0) k5.tail.tail.tail.tail.head
  simp only at a1' a2' a3' a4' q0 q1 q2 q3 q4 q5 f1 f2 f3 f4
  have K5 := Lib.hid k5.tail.tail.tail.tail.tail.tail.head; have HB := Lib.hid hb5
  clear k5 hb5
  go_wp2_with fail
  clear a1' a2' a3' a4' q0 q1 q2 q3 q4 q5 f1 f2 f3 f4
  refine (alive_any _).mono ?_; rintro e w7 ⟨rfl, b7⟩
  have k7 : Row4 w7 b0 ⟨tx, ib, ir, ix⟩ := Row4.below K5.out b7
  obtain ⟨d0, d1, d2, d3⟩ := k7.all
  simp only at d0 d1 d2 d3
  have HB7 := Lib.hid (HB.out.trans (b7.mono (by have := HB.out.size; omega)))
  clear b7 k7 HB K5
  go_wp2_with fail
  refine (HF.out _).mono ?_; rintro e w8 ⟨rfl, b8⟩
  have HB8 := Lib.hid (HB7.out.trans (b8.mono (by have := HB7.out.size; omega)))
  clear b8 HB7 d0 d1 d2 d3
  go_wp2_with fail
  refine (count_nil _).mono ?_; rintro e w9 ⟨rfl, rfl⟩
  go_wp2_with fail
  go_ret
  exact ⟨rfl, by rw [hbw]; exact HB8.out⟩
end Go.Proofs.Ytgknmicblnldiaa
