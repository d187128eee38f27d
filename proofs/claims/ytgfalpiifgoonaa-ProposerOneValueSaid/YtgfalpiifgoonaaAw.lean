/- alive; ProposerNil. -/
import Derived.Test.YtgfalpiifgoonaaLq
namespace Go.Proofs.Ytgfalpiifgoonaa
open Go.RowKit Go.Sort
set_option linter.unusedVariables false
set_option linter.unusedSectionVars false
set_option linter.unusedSimpArgs false
set_option maxRecDepth 100000

abbrev allS : Nat → Bool := fun _ => true
abbrev noS : Nat → Bool := fun _ => false
abbrev vb : ByteArray := ⟨#[98]⟩
theorem PrW.out {w w' : World} {B hn gm node n : Nat} {bal : Bl} {S : Nat → Bool} {best : Ac} (h : PrW w B hn gm node n bal S best) (k : Keep [hn, gm] w w') (hB : B ≤ w.heap.size) : Below B w w' := k.below hB (by intro q hq; simp at hq; rcases hq with rfl | rfl; exact h.base; exact h.gbase)
theorem LnW.out {w w' : World} {B ln gm n c : Nat} {last : List Ac} {ch : Ac} (h : LnW w B ln gm n last ch c) (k : Keep [ln, gm] w w') (hB : B ≤ w.heap.size) : Below B w w' := k.below hB (by intro q hq; simp at hq; rcases hq with rfl | rfl; exact h.base; exact h.gbase)
set_option maxHeartbeats 6400000 in
theorem alive_any (w : World) : Calls Try.prog 10 #[] w fun e w' => e = .returned (.bool true) ∧ Below w.heap.size w w' := by
  have HN := Lib.hid (fun w => pnew_yes 1 3 (by omega) (by omega) (by omega) w)
  have HL := Lib.hid (fun w => lnew_yes 3 (by omega) (by omega) w)
  go_enter Try.func10, Try.ntmps10
  go_wp2_with fail
  refine (HN.out _).mono ?_; rintro e w1 ⟨hn, gm, rfl, t1, b1⟩
  have T1 := Lib.hid t1; have B1 := Lib.hid b1
  clear t1 b1 HN
  go_wp2_with fail
  refine (HL.out _).mono ?_; rintro e w2 ⟨ln, gl, rfl, u2, b2⟩
  have T2 := Lib.hid (T1.out.below b2); have U2 := Lib.hid u2; have B2 := Lib.hid (below_next B1.out b2)
  have HS := Lib.hid (show hn < ln ∧ hn < gl ∧ gm < ln ∧ gm < gl ∧ w.heap.size ≤ w1.heap.size from by
    have h1 := T1.out.hlt; have h2 := T1.out.glt; have h3 := u2.base; have h4 := u2.gbase; have h5 := B1.out.size
    exact ⟨by omega, by omega, by omega, by omega, h5⟩)
  clear u2 b2 HL T1 B1
  have CB := Lib.hid (begin_ok 1 (by decide) (by decide) (by decide) ⟨#[97]⟩ (by decide) w2 T2.out)
  go_wp2_with fail
  refine CB.out.mono ?_; rintro e w3 ⟨rfl, t3, k3⟩
  have hs := HS.out
  have ba := below_alloc (Below.refl w3.heap.size w3) (Bl.obj ⟨1, 1⟩)
  have T3 := Lib.hid (t3.below ba)
  have U3 := Lib.hid ((U2.out.keep k3 (by simp; omega) (by simp; omega)).below ba)
  have B3 := Lib.hid ((B2.out.trans (T2.out.out k3 B2.out.size)).trans (ba.mono (by have := B2.out.size; have := k3.size; omega)))
  have R3 := Lib.hid (Row2.new w3 ⟨1, 1⟩)
  have HB := Lib.hid (show hn < w3.heap.size ∧ gm < w3.heap.size ∧ ln < w3.heap.size ∧ gl < w3.heap.size from ⟨t3.hlt, t3.glt, (U2.out.keep k3 (by simp; omega) (by simp; omega)).hlt, (U2.out.keep k3 (by simp; omega) (by simp; omega)).glt⟩)
  have r3 := Row2.new w3 ⟨1, 1⟩
  simp only [Bl.obj] at T3 U3 B3 R3 r3
  clear t3 k3 ba hs CB T2 U2 B2
  go_upto_region 6 with (fail)
  generalize hbb : w3.heap.size = bb at *
  generalize w3.alloc (.cells #[.int .u32 1, .int .u8 1] 34) = w4 at *
  obtain ⟨x0, x1, _, _⟩ := Row2.all r3
  have C1 := Lib.hid (promise_more (a := a0) 0 (by decide) (by decide) (by decide) w4 T3.out (by decide))
  clear r3
  go_wp2_with fail
  refine C1.out.mono ?_; rintro e w5 ⟨rfl, t5, k5⟩
  have hs := HS.out
  have hb := HB.out
  have T5 := Lib.hid t5
  have U5 := Lib.hid (U3.out.keep k5 (by simp; omega) (by simp; omega))
  have B5 := Lib.hid (B3.out.trans (T3.out.out k5 B3.out.size))
  have R5 := Lib.hid (show Row2 w5 bb ⟨1, 1⟩ from row_keep R3.out k5 (by simp; omega))
  obtain ⟨x0, x1, _, _⟩ := Row2.all R5.out
  have C2 := Lib.hid (promise_done (a := ⟨true, b0, vb⟩) 2 (by decide) (by decide) (by decide) w5 t5 (by decide))
  clear t5 k5 C1 T3 U3 B3 R3 hs hb
  go_wp2_with fail
  refine C2.out.mono ?_; rintro e w6 ⟨rfl, t6, k6⟩
  have hs := HS.out
  have hb := HB.out
  have U6 := Lib.hid (U5.out.keep k6 (by simp; omega) (by simp; omega))
  have B6 := Lib.hid (B5.out.trans (T5.out.out k6 B5.out.size))
  have R6 := Lib.hid (show Row2 w6 bb ⟨1, 1⟩ from row_keep R5.out k6 (by simp; omega))
  clear x0 x1
  obtain ⟨x0, x1, _, _⟩ := Row2.all R6.out
  have C3 := Lib.hid (accepted_go (old := a0) (b := ⟨1, 1⟩) (v := vb) 0 (by decide) rfl rfl (.inl rfl) ⟨by decide, by decide⟩ (by decide) (by decide) w6 U6.out rfl)
  clear t6 k6 C2 T5 U5 B5 R5 hs hb
  go_wp2_with fail
  refine C3.out.mono ?_; rintro e w7 ⟨k7, h7⟩
  rw [if_neg (by decide)] at h7
  obtain ⟨rfl, u7⟩ := h7
  have hs := HS.out
  have hb := HB.out
  have U7 := Lib.hid u7
  have B7 := Lib.hid (B6.out.trans (U6.out.down hs.2.2.2.2 |>.out k7 B6.out.size))
  have R7 := Lib.hid (show Row2 w7 bb ⟨1, 1⟩ from row_keep R6.out k7 (by simp; omega))
  clear x0 x1
  obtain ⟨x0, x1, _, _⟩ := Row2.all R7.out
  have C4 := Lib.hid (accepted_go (old := a0) (b := ⟨1, 1⟩) (v := vb) 1 (by decide) rfl rfl (.inl rfl) ⟨by decide, by decide⟩ (by decide) (by decide) w7 U7.out rfl)
  clear u7 k7 C3 U6 B6 R6 hs hb
  go_wp2_with fail
  refine C4.out.mono ?_; rintro e w8 ⟨k8, h8⟩
  rw [if_pos (by decide)] at h8
  obtain ⟨rfl, u8⟩ := h8
  have hs := HS.out
  have B8 := Lib.hid (B7.out.trans (U7.out.down hs.2.2.2.2 |>.out k8 B7.out.size))
  have HW := Lib.hid (show (wg (wg ⟨false, b0, ⟨#[97]⟩⟩ a0) ⟨true, b0, vb⟩).v = vb by decide)
  clear u8 k8 C4 U7 B7 R7 hs x0 x1
  rw [HW.out]
  go_wp2_with fail
  go_ret
  exact ⟨rfl, B8.out⟩
end Go.Proofs.Ytgfalpiifgoonaa
