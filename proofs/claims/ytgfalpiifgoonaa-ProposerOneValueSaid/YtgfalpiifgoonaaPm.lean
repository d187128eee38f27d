/- weigh, Promise. -/
import Derived.Test.YtgfalpiifgoonaaPb
namespace Go.Proofs.Ytgfalpiifgoonaa
open Go.RowKit Go.Sort
set_option linter.unusedVariables false
set_option linter.unusedSectionVars false
set_option maxRecDepth 100000

/-- which weighs more -/
def heavy (best a : Ac) : Bool := a.is && (!best.is || low best.b a.b)
def wg (best a : Ac) : Ac := if heavy best a = true then a else best
section
variable {w w' : World} {B hn gm node n : Nat} {bal b : Bl} {S : Nat → Bool} {best a : Ac}
/-- the answer of weigh -/
def WgEnd (w : World) (hn node n : Nat) (bal : Bl) (gm : Nat) (x : Ac) (e : Ending) (w' : World) : Prop := e = .returned (.tuple #[]) ∧ RowP w' hn node n bal gm x ∧ Keep [hn] w w'
set_option maxHeartbeats 1600000 in
theorem weigh_no (hh : heavy best a = false) (w : World) (h : RowP w hn node n bal gm best) : Calls Try.prog 26 #[.pointer (some ⟨hn, 0, none⟩), a.ag] w (WgEnd w hn node n bal gm best) := by
  have HB := Lib.hid (below_alloc (Below.refl w.heap.size w) a.obj)
  have r0 := RowP.below h HB.out
  have q0 := RowA.new w a
  obtain ⟨a0', a1, a2, a3, _⟩ := RowA.all q0
  obtain ⟨_, _, _, _, _, c5, c6, c7, _⟩ := RowP.all r0
  have HL := Lib.hid (RowP.lt h)
  have R0 := Lib.hid r0
  simp only [Ac.obj] at HB R0 a0' a1 a2 a3 c5 c6 c7
  clear r0 q0 h
  go_enter Try.func26, Try.ntmps26
  go_upto_region 1 with (fail)
  generalize hW : w.alloc (.cells #[.bool a.is, .int .u32 a.b.round, .int .u8 a.b.node, .string a.v] 42) = W at *
  generalize hbi : w.heap.size = bi at *
  have x0 := cell_regrown a0'; have x1 := cell_regrown a1; have x2 := cell_regrown a2
  have x5 := cell_regrown c5; have x6 := cell_regrown c6; have x7 := cell_regrown c7
  clear hW a0' a1 a2 a3 c5 c6 c7
  have fin : ∀ d os, WgEnd w hn node n bal gm best (.returned (.tuple #[])) (grow (redrawn W d) os) := fun d os => by
    have lk := below_regrown W d os
    have bw : Keep [hn] w W := Keep.of_below (by rw [hbi]; exact HB.out) _
    exact ⟨rfl, RowP.below R0.out lk, bw.trans (Keep.of_below lk _)⟩
  have FIN := Lib.hid fin
  clear fin HB R0
  cases his : a.is
  · rw [his] at x0
    refine wp_region_quiet_below (by kernel_rfl) (by kernel_rfl) ?_
    repeat (go_big_quiet_step (fail))
    refine wpQuiet_nil ?_
    intro _ hw'
    obtain ⟨⟨dq, osq⟩, hw''⟩ := hw'
    subst hw''
    have F := Lib.hid (FIN.out dq osq)
    clear FIN x0 x1 x2 x5 x6 x7
    generalize grow (redrawn W dq) osq = W2 at *
    go_wp2_with fail
    go_end0
    exact F.out
  · rw [his] at x0
    have hb : best.is = true := by
      unfold heavy at hh
      rw [his] at hh
      cases hq : best.is <;> simp [hq] at hh ⊢
    have hl : low best.b a.b = false := by
      unfold heavy at hh
      rw [his, hb] at hh
      simpa using hh
    rw [hb] at x5
    have WA := Lib.hid (fun d os => Calls.regrown_of (by have := less_any best.b a.b (grow (redrawn W d) os); rw [hl] at this; exact this))
    refine wp_region_quiet_below (by kernel_rfl) (by kernel_rfl) ?_
    repeat (go_big_quiet_step (exact WA.out _ _))
    refine wpQuiet_nil ?_
    intro _ hw'
    obtain ⟨⟨dq, osq⟩, hw''⟩ := hw'
    subst hw''
    have F := Lib.hid (FIN.out dq osq)
    clear FIN x0 x1 x2 x5 x6 x7 WA
    generalize grow (redrawn W dq) osq = W2 at *
    go_wp2_with fail
    go_end0
    exact F.out
set_option maxHeartbeats 1600000 in
theorem weigh_yes (hh : heavy best a = true) (hv : a.v.size ≤ 281474976710656) (w : World) (h : RowP w hn node n bal gm best) : Calls Try.prog 26 #[.pointer (some ⟨hn, 0, none⟩), a.ag] w (WgEnd w hn node n bal gm a) := by
  have HB := Lib.hid (below_alloc (Below.refl w.heap.size w) a.obj)
  have r0 := RowP.below h HB.out
  have q0 := RowA.new w a
  obtain ⟨a0', a1, a2, a3, _⟩ := RowA.all q0
  obtain ⟨_, _, _, _, _, c5, c6, c7, _⟩ := RowP.all r0
  have HL := Lib.hid (RowP.lt h)
  have R0 := Lib.hid r0
  have Q0 := Lib.hid q0
  have CL := Lib.hid (fun w => clone_any a.v w hv)
  have hai : a.is = true := by
    unfold heavy at hh
    simp at hh
    exact hh.1
  have hor : best.is = false ∨ low best.b a.b = true := by
    unfold heavy at hh
    simp at hh
    cases hq : best.is
    · exact .inl rfl
    · exact .inr (by simpa [hq] using hh.2)
  simp only [Ac.obj] at HB R0 Q0 a0' a1 a2 a3 c5 c6 c7
  have HAI := Lib.hid hai
  clear r0 q0 h hh hai
  go_enter Try.func26, Try.ntmps26
  go_upto_region 1 with (fail)
  generalize hW : w.alloc (.cells #[.bool a.is, .int .u32 a.b.round, .int .u8 a.b.node, .string a.v] 42) = W at *
  generalize hbi : w.heap.size = bi at *
  have hai := HAI.out
  rw [hai] at a0'
  have x0 := cell_regrown a0'; have x1 := cell_regrown a1; have x2 := cell_regrown a2
  have x5 := cell_regrown c5; have x6 := cell_regrown c6; have x7 := cell_regrown c7
  clear hW a0' a1 a2 a3 c5 c6 c7
  have fin : ∀ d os, RowP (grow (redrawn W d) os) hn node n bal gm best ∧ RowA (grow (redrawn W d) os) bi a ∧ Keep [hn] w (grow (redrawn W d) os) := fun d os => by
    have lk := below_regrown W d os
    have bw : Keep [hn] w W := Keep.of_below (by rw [hbi]; exact HB.out) _
    exact ⟨RowP.below R0.out lk, RowA.below Q0.out lk, bw.trans (Keep.of_below lk _)⟩
  have FIN := Lib.hid fin
  clear fin HB R0 Q0
  have hne : hn < bi := HL.out
  rcases hor with hb | hl
  · rw [hb] at x5
    refine wp_region_quiet_below (by kernel_rfl) (by kernel_rfl) ?_
    repeat (go_big_quiet_step (fail))
    refine wpQuiet_nil ?_
    intro _ hw'
    obtain ⟨⟨dq, osq⟩, hw''⟩ := hw'
    subst hw''
    have F := Lib.hid (FIN.out dq osq)
    clear FIN x0 x1 x2 x5 x6 x7
    generalize grow (redrawn W dq) osq = W2 at *
    obtain ⟨a0', a1, a2, a3, _⟩ := RowA.all F.out.2.1
    rw [hai] at a0'
    obtain ⟨_, _, _, _, _, c5, c6, c7, c8⟩ := RowP.all F.out.1
    have f5 := RowP.fr F.out.1 5
    have f6 := RowP.fr F.out.1 6
    have f7 := RowP.fr F.out.1 7
    have f8 := RowP.fr F.out.1 8
    go_upto_region 3 with (fail)
    have r1 := layQ_row (a := a) F.out.1
    have kk := layQ_keep W2 hn a
    have q1 : RowA _ bi a := row_keep F.out.2.1 kk (by simp; omega)
    have K1 := Lib.hid (F.out.2.2.trans kk)
    simp only [layQ, hai] at r1 q1 K1
    clear kk F a0' a1 a2 a3 c5 c6 c7 c8 f5 f6 f7 f8
    generalize (((W2.setCell ⟨hn, 5, none⟩ (.bool true)).setCell ⟨hn, 6, none⟩ (.int .u32 a.b.round)).setCell ⟨hn, 7, none⟩ (.int .u8 a.b.node)).setCell ⟨hn, 8, none⟩ (.string a.v) = W3 at *
    obtain ⟨_, _, _, a3, _⟩ := RowA.all q1
    have R1 := Lib.hid r1
    clear r1 q1
    go_wp2_with fail
    refine (CL.out _).mono ?_; rintro e w4 ⟨rfl, b4⟩
    have r4 := RowP.below R1.out b4
    have K4 := Lib.hid (K1.out.trans (Keep.of_below b4 _))
    obtain ⟨_, _, _, _, _, _, _, _, c8⟩ := RowP.all r4
    have f8 := RowP.fr r4 8
    have R4 := Lib.hid r4
    clear r4 b4 R1 K1 CL a3
    go_wp2_with fail
    go_end0
    exact ⟨rfl, heap_setCell_same w4 hn 8 _ _ _ R4.out, K4.out.trans (Keep.setCell w4 ⟨hn, 8, none⟩ _)⟩
  · have hb : best.is = true ∨ best.is = false := by cases best.is <;> simp
    have WA := Lib.hid (fun d os => Calls.regrown_of (by have := less_any best.b a.b (grow (redrawn W d) os); rw [hl] at this; exact this))
    rcases hb with hb | hb
    · rw [hb] at x5
      refine wp_region_quiet_below (by kernel_rfl) (by kernel_rfl) ?_
      repeat (go_big_quiet_step (exact WA.out _ _))
      refine wpQuiet_nil ?_
      intro _ hw'
      obtain ⟨⟨dq, osq⟩, hw''⟩ := hw'
      subst hw''
      have F := Lib.hid (FIN.out dq osq)
      clear FIN x0 x1 x2 x5 x6 x7 WA
      generalize grow (redrawn W dq) osq = W2 at *
      obtain ⟨a0', a1, a2, a3, _⟩ := RowA.all F.out.2.1
      rw [hai] at a0'
      obtain ⟨_, _, _, _, _, c5, c6, c7, c8⟩ := RowP.all F.out.1
      have f5 := RowP.fr F.out.1 5
      have f6 := RowP.fr F.out.1 6
      have f7 := RowP.fr F.out.1 7
      have f8 := RowP.fr F.out.1 8
      go_upto_region 3 with (fail)
      have r1 := layQ_row (a := a) F.out.1
      have kk := layQ_keep W2 hn a
      have q1 : RowA _ bi a := row_keep F.out.2.1 kk (by simp; omega)
      have K1 := Lib.hid (F.out.2.2.trans kk)
      simp only [layQ, hai] at r1 q1 K1
      clear kk F a0' a1 a2 a3 c5 c6 c7 c8 f5 f6 f7 f8
      generalize (((W2.setCell ⟨hn, 5, none⟩ (.bool true)).setCell ⟨hn, 6, none⟩ (.int .u32 a.b.round)).setCell ⟨hn, 7, none⟩ (.int .u8 a.b.node)).setCell ⟨hn, 8, none⟩ (.string a.v) = W3 at *
      obtain ⟨_, _, _, a3, _⟩ := RowA.all q1
      have R1 := Lib.hid r1
      clear r1 q1
      go_wp2_with fail
      refine (CL.out _).mono ?_; rintro e w4 ⟨rfl, b4⟩
      have r4 := RowP.below R1.out b4
      have K4 := Lib.hid (K1.out.trans (Keep.of_below b4 _))
      obtain ⟨_, _, _, _, _, _, _, _, c8⟩ := RowP.all r4
      have f8 := RowP.fr r4 8
      have R4 := Lib.hid r4
      clear r4 b4 R1 K1 CL a3
      go_wp2_with fail
      go_end0
      exact ⟨rfl, heap_setCell_same w4 hn 8 _ _ _ R4.out, K4.out.trans (Keep.setCell w4 ⟨hn, 8, none⟩ _)⟩
    · rw [hb] at x5
      refine wp_region_quiet_below (by kernel_rfl) (by kernel_rfl) ?_
      repeat (go_big_quiet_step (fail))
      refine wpQuiet_nil ?_
      intro _ hw'
      obtain ⟨⟨dq, osq⟩, hw''⟩ := hw'
      subst hw''
      have F := Lib.hid (FIN.out dq osq)
      clear FIN x0 x1 x2 x5 x6 x7 WA
      generalize grow (redrawn W dq) osq = W2 at *
      obtain ⟨a0', a1, a2, a3, _⟩ := RowA.all F.out.2.1
      rw [hai] at a0'
      obtain ⟨_, _, _, _, _, c5, c6, c7, c8⟩ := RowP.all F.out.1
      have f5 := RowP.fr F.out.1 5
      have f6 := RowP.fr F.out.1 6
      have f7 := RowP.fr F.out.1 7
      have f8 := RowP.fr F.out.1 8
      go_upto_region 3 with (fail)
      have r1 := layQ_row (a := a) F.out.1
      have kk := layQ_keep W2 hn a
      have q1 : RowA _ bi a := row_keep F.out.2.1 kk (by simp; omega)
      have K1 := Lib.hid (F.out.2.2.trans kk)
      simp only [layQ, hai] at r1 q1 K1
      clear kk F a0' a1 a2 a3 c5 c6 c7 c8 f5 f6 f7 f8
      generalize (((W2.setCell ⟨hn, 5, none⟩ (.bool true)).setCell ⟨hn, 6, none⟩ (.int .u32 a.b.round)).setCell ⟨hn, 7, none⟩ (.int .u8 a.b.node)).setCell ⟨hn, 8, none⟩ (.string a.v) = W3 at *
      obtain ⟨_, _, _, a3, _⟩ := RowA.all q1
      have R1 := Lib.hid r1
      clear r1 q1
      go_wp2_with fail
      refine (CL.out _).mono ?_; rintro e w4 ⟨rfl, b4⟩
      have r4 := RowP.below R1.out b4
      have K4 := Lib.hid (K1.out.trans (Keep.of_below b4 _))
      obtain ⟨_, _, _, _, _, _, _, _, c8⟩ := RowP.all r4
      have f8 := RowP.fr r4 8
      have R4 := Lib.hid r4
      clear r4 b4 R1 K1 CL a3
      go_wp2_with fail
      go_end0
      exact ⟨rfl, heap_setCell_same w4 hn 8 _ _ _ R4.out, K4.out.trans (Keep.setCell w4 ⟨hn, 8, none⟩ _)⟩
end
end Go.Proofs.Ytgfalpiifgoonaa
