/- alive; AcceptorNil. -/
import Derived.Test.YtgknmicblnldiaaFo
namespace Go.Proofs.Ytgknmicblnldiaa
open Go.RowKit Go.Sort
set_option linter.unusedVariables false

theorem in0 : (⟨0, 0, 0, 0⟩ : In).Ok := ⟨by decide, by decide, by decide, by decide⟩
abbrev fn0 : Fn := fun _ => none
theorem eql_bb (a b : Int) (w : World) : (binOp .eql 38 (.agg #[.int .u32 a, .int .u8 b]) (.agg #[.int .u32 a, .int .u8 b])).run Try.prog w = .ok (.bool true) w := by
  have := eql_bl a b a b w
  simpa using this
theorem TabW.gbel {w w' : World} {B hn gm most n : Nat} {f : Fn} (h : TabW w B hn gm most n f) (k : Keep [gm] w w') (hB : B ≤ w.heap.size) : Below B w w' := k.below hB (by simpa using h.gbase)
set_option maxRecDepth 100000 in
set_option maxHeartbeats 3200000 in
theorem alive_any (w : World) : Calls Try.prog 9 #[] w fun e w' => e = .returned (.bool true) ∧ Below w.heap.size w w' := by
  have HN := Lib.hid (fun w => new_yes 2 (by omega) (by omega) w)
  have EB := eql_bb 2 1
  go_enter Try.func9, Try.ntmps9
  go_wp2_with fail
  refine (HN.out _).mono ?_; rintro e w1 ⟨hn, gm, rfl, t1, b1⟩
  have T1 := Lib.hid (t1.alloc (Bl.obj ⟨2, 1⟩)); have B1 := Lib.hid (below_alloc b1 (Bl.obj ⟨2, 1⟩))
  have R1 := Lib.hid (Row2.new w1 ⟨2, 1⟩)
  have HG := Lib.hid (show w1.heap.size ∉ [gm] by have := t1.map.lt; simp; omega)
  have HS := Lib.hid (show w.heap.size ≤ w1.heap.size from b1.size)
  clear t1 b1 HN
  go_wp2_with fail
  refine (prepare_yes ⟨0, 0, 0, 0⟩ in0 ⟨2, 1⟩ _ T1.out (r := r0) rfl (by decide)).mono ?_; rintro e w2 ⟨rfl, t2, k2⟩
  have R2 := Lib.hid (row_keep R1.out k2 HG.out)
  have B2 := Lib.hid (B1.out.trans (T1.out.gbel k2 (by have := HS.out; simp; omega)))
  have T2 := Lib.hid t2
  generalize w1.heap.size = bb at *
  clear k2 t2 R1 B1 T1
  go_wp2_with fail
  have t3 := (T2.out.alloc (Ac.obj a0)).alloc (Bl.obj ⟨2, 1⟩)
  have b3 := below_alloc (below_alloc (Below.refl w2.heap.size w2) (Ac.obj a0)) (Bl.obj ⟨2, 1⟩)
  refine (accept_low ⟨0, 0, 0, 0⟩ in0 ⟨1, 9⟩ ⟨#[97]⟩ _ t3 (r := ⟨⟨2, 1⟩, a0⟩) rfl (by decide)).mono ?_; rintro e w3 ⟨rfl, c3⟩
  have b4 := below_alloc (below_next b3 c3) (Bl.obj ⟨2, 1⟩)
  have T4 := Lib.hid (T2.out.below b4)
  have r4 : Row2 _ bb ⟨2, 1⟩ := Row2.below R2.out b4
  obtain ⟨r0', r1', _, _⟩ := r4.all
  have R4 := Lib.hid r4
  have B4 := Lib.hid (B2.out.trans (b4.mono B2.out.size))
  have HB4 := Lib.hid (show bb < _ from r4.lt)
  simp only at r0' r1'
  clear t3 b3 c3 b4 T2 R2 B2 r4
  go_upto_region 7 with (fail)
  generalize w3.alloc (.cells #[.int .u32 2, .int .u8 1] 38) = w4 at *
  go_wp2_with fail
  refine (accept_yes ⟨0, 0, 0, 0⟩ in0 ⟨2, 1⟩ ⟨#[98]⟩ (by decide) _ T4.out (r := ⟨⟨2, 1⟩, a0⟩) rfl (by decide)).mono ?_; rintro e w5 ⟨rfl, t5, k5⟩
  have R5 : Row2 w5 bb ⟨2, 1⟩ := row_keep R4.out k5 HG.out
  have T5 := t5.alloc (Bl.obj ⟨2, 1⟩)
  have B5 := Lib.hid (B4.out.trans (T4.out.gbel k5 B4.out.size))
  have RR5 := Lib.hid R5
  clear t5 k5 R4 B4 T4 HB4 r0' r1' R5
  go_wp2_with fail
  have G := get_any ⟨0, 0, 0, 0⟩ in0 _ T5
  change Calls _ _ _ _ fun e w' => e = .returned (.tuple #[.agg #[.int .u32 2, .int .u8 1], .agg #[.bool true, .int .u32 2, .int .u8 1, .string ⟨#[98]⟩], .int .i64 0]) ∧ _ at G
  refine G.mono ?_; rintro e w6 ⟨rfl, c6⟩
  have b6 := below_next (below_alloc (Below.refl w5.heap.size w5) (Bl.obj ⟨2, 1⟩)) c6
  have r6 : Row2 _ bb ⟨2, 1⟩ := Row2.below RR5.out b6
  obtain ⟨x0, x1, _, _⟩ := r6.all
  have hlt := r6.lt
  have B6 := Lib.hid (B5.out.trans (b6.mono B5.out.size))
  simp only at x0 x1
  clear G b6 r6 RR5 B5 c6 T5
  go_wp2_with fail
  go_ret
  exact ⟨rfl, below_alloc (below_alloc B6.out _) _⟩
end Go.Proofs.Ytgknmicblnldiaa
