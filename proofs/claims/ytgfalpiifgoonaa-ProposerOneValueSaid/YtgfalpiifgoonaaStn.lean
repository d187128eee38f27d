/- ProposerOneValue: way 9 of the law's own step. -/
import Derived.Test.YtgfalpiifgoonaaWt
import Derived.Deep.RegionHeld3
namespace Go.Proofs.Ytgfalpiifgoonaa
open Go.RowKit Go.Sort
set_option linter.unusedVariables false
set_option linter.unusedSectionVars false
set_option linter.unusedSimpArgs false
set_option maxRecDepth 100000
section
variable {w w' : World} {B xb n c d : Nat} {tg : Nat → Nat} {H : Hd} {vote : ByteArray} {x : PX} {U : List Nat}
set_option maxHeartbeats 6400000 in
theorem step_kn (kd : Int) (wk : (Lit.int .i64 kd).wf = true) (hkd : 5 < kd) (a b : Int) (v : ByteArray) (wa : (Lit.int .i64 a).wf = true) (wb : (Lit.int .i64 b).wf = true) (hv : v.size ≤ 281474976710656) (W : World) (h : WdW W B xb n tg H c d vote x) (hd : d ≤ 10000) (hcc : c < 100000) (hin : x.Inv n vote) (hna : x.Nn n) :
    Calls Try.prog 22 #[.pointer (some ⟨xb, 0, none⟩), .agg #[.int .i64 kd, .int .i64 a, .int .i64 b, .string v]] W (StEnd W B xb n tg c d vote x x.ds) := by
  have CP := Lib.hid (fun w => pick_any kd wk 6 (by omega) (by omega) w)
  have hp6 := pk_lt kd (n := 6) (by omega)
  obtain ⟨p, hp⟩ : ∃ p, p = pk kd 6 := ⟨_, rfl⟩
  rw [← hp] at hp6
  rw [← hp] at CP
  have hlv : ∃ so sc, x.lv H p = .slice so (x.ms p).length sc := by
    unfold PX.lv
    by_cases h2 : p < 2
    · rw [if_pos h2]
      refine ⟨none, 0, ?_⟩
      rcases (show p = 0 ∨ p = 1 by omega) with rfl | rfl <;> rfl
    · rw [if_neg h2]; exact ⟨_, _, rfl⟩
  have hlp : (x.ms p).length ≤ 10000 := by have := h.pt.len p; omega
  obtain ⟨so, sc, hlv⟩ := hlv
  have HLV := Lib.hid hlv
  clear hlv hp
  have hk1 : ¬ kd = 0 := by omega
  have hk2 : ¬ kd = 1 := by omega
  have hk3 : ¬ kd = 2 := by omega
  have hk4 : ¬ kd = 3 := by omega
  have hk5 : ¬ kd = 4 := by omega
  have hk6 : ¬ kd = 5 := by omega
  have hk7 : 1 < kd := by omega
  have hpi : (p : Int) < 6 := by omega
  have hpi0 : (0 : Int) ≤ (p : Int) := by omega
  obtain ⟨bx, hbx⟩ : ∃ bx, bx = W.heap.size := ⟨_, rfl⟩
  have hxl := h.lt
  have hn5 := h.pt.n5
  have hn1 := h.pt.n1
  have hw1 := h.ours.below (below_alloc (Below.refl _ _) (.cells #[.int .i64 kd, .int .i64 a, .int .i64 b, .string v] 73))
  have y0 := hw1.acc
  have yl := hw1.l hp6
  have W1 := Lib.hid hw1
  have H0 := Lib.hid h
  clear h hw1 wa
  go_enter Try.func22, Try.ntmps22
  go_upto_region 2 with (fail)
  have r0 := heap_alloc_new W (.cells #[.int .i64 kd, .int .i64 a, .int .i64 b, .string v] 73)
  have bw1 := below_alloc (Below.refl W.heap.size W) (.cells #[.int .i64 kd, .int .i64 a, .int .i64 b, .string v] 73)
  generalize W.alloc (.cells #[.int .i64 kd, .int .i64 a, .int .i64 b, .string v] 73) = w1 at *
  rw [← hbx] at r0
  have e0 := cell_of_row w1 bx 0 _ _ (0, 0) r0
  have e1 := cell_of_row w1 bx 1 _ _ (0, 0) r0
  have e2 := cell_of_row w1 bx 2 _ _ (0, 0) r0
  have e3 := cell_of_row w1 bx 3 _ _ (0, 0) r0
  simp only [List.getElem?_toArray, List.getElem?_cons_zero, List.getElem?_cons_succ] at e0 e1 e2 e3
  rw [← hbx]
  have R0 := Lib.hid r0
  have HBX := Lib.hid hbx
  clear r0 hbx
  go_quiet ((go_at_call 20; refine Calls.quiet_of_same ((CP.out _).mono (by rintro e w' ⟨h1, h2⟩; exact ⟨h1, h2.symm⟩))))
  have hw2 := W1.out.below (below_drewN (Below.refl _ _) nq)
  have r2 : (w1.drewN nq).heap[bx]? = _ := R0.out
  have BW2 := Lib.hid (bw1.trans ((below_drewN (Below.refl w1.heap.size w1) nq).mono bw1.size))
  clear bw1
  have b2 := below_drewN (Below.refl w1.heap.size w1) nq
  clear e0 e1 e2 e3 y0 yl W1 R0
  generalize w1.drewN nq = w2 at *
  have e0 := cell_of_row w2 bx 0 _ _ (0, 0) r2
  have e1 := cell_of_row w2 bx 1 _ _ (0, 0) r2
  have e2 := cell_of_row w2 bx 2 _ _ (0, 0) r2
  have e3 := cell_of_row w2 bx 3 _ _ (0, 0) r2
  simp only [List.getElem?_toArray, List.getElem?_cons_zero, List.getElem?_cons_succ] at e0 e1 e2 e3
  have W2 := Lib.hid hw2
  have R2 := Lib.hid r2
  have B2 := Lib.hid b2
  clear hw2 r2 b2
  go_upto_region 3 with (fail)
  rw [show x.lv H p = .slice so (x.ms p).length sc from HLV.out]
  generalize hL : (x.ms p).length = L at *
  by_cases hL0 : L = 0
  · subst hL0
    go_wp2_with fail
    go_end0
    have hB : B ≤ W.heap.size := by have := H0.out.base; have := H0.out.lt; omega
    exact ⟨rfl, _, H, x, (W2.out.up (by omega)).upc (by omega), hin, (Trn.below BW2.out hB).start, rfl, by omega, hna⟩
  · have hLi : ¬ (L : Int) = 0 := by omega
    go_upto_region 5 with (fail)
    have hw3 := W2.out.below (below_alloc (Below.refl _ _) (.cells #[.int .i64 0, .int .i64 0, .int .u32 0, .int .u8 0, .string ⟨#[]⟩, .bool false, .int .u32 0, .int .u8 0, .string ⟨#[]⟩] 105))
    have b3 := below_alloc B2.out (.cells #[.int .i64 0, .int .i64 0, .int .u32 0, .int .u8 0, .string ⟨#[]⟩, .bool false, .int .u32 0, .int .u8 0, .string ⟨#[]⟩] 105)
    have r3 := row_keep R2.out (Keep.of_below (below_alloc (Below.refl _ _) (.cells #[.int .i64 0, .int .i64 0, .int .u32 0, .int .u8 0, .string ⟨#[]⟩, .bool false, .int .u32 0, .int .u8 0, .string ⟨#[]⟩] 105)) []) (by simp)
    have m3 := heap_alloc_new w2 (.cells #[.int .i64 0, .int .i64 0, .int .u32 0, .int .u8 0, .string ⟨#[]⟩, .bool false, .int .u32 0, .int .u8 0, .string ⟨#[]⟩] 105)
    have b23 := Lib.hid (below_alloc (Below.refl w2.heap.size w2) (.cells #[.int .i64 0, .int .i64 0, .int .u32 0, .int .u8 0, .string ⟨#[]⟩, .bool false, .int .u32 0, .int .u8 0, .string ⟨#[]⟩] 105))
    have hbm := (Array.getElem?_eq_some_iff.1 R2.out).1
    generalize w2.alloc (.cells #[.int .i64 0, .int .i64 0, .int .u32 0, .int .u8 0, .string ⟨#[]⟩, .bool false, .int .u32 0, .int .u8 0, .string ⟨#[]⟩] 105) = w3 at *
    have hbm2 := W2.out.lt
    generalize hmb : w2.heap.size = mb at *
    clear e0 e1 e2 e3 R2
    have HMB := Lib.hid hmb
    clear hmb
    have e0 := cell_of_row w3 bx 0 _ _ (0, 0) r3
    have e1 := cell_of_row w3 bx 1 _ _ (0, 0) r3
    have e2 := cell_of_row w3 bx 2 _ _ (0, 0) r3
    simp only [List.getElem?_toArray, List.getElem?_cons_zero, List.getElem?_cons_succ] at e0 e1 e2
    have CB := Lib.hid (fun w => pick_any b wb L (by omega) (by omega) w)
    have hpj := pk_lt b (n := L) (by omega)
    generalize pk b L = j at *
    obtain ⟨m, hm⟩ : ∃ m, (x.ms p)[j]? = some m := ⟨_, List.getElem?_eq_getElem (by omega)⟩
    have hp2 : 2 ≤ p := by
      refine Nat.le_of_not_lt fun h2 => ?_
      rcases (show p = 0 ∨ p = 1 by omega) with e | e <;> (rw [e] at hm; cases hm)
    have hso : so = H.sl p := by
      have := HLV.out
      unfold PX.lv at this
      rw [if_neg (by omega)] at this
      simp only [Hd.sv, Value.slice.injEq] at this
      exact this.1.symm
    obtain ⟨g, hg1, hg2, hg3, hg4, hg5⟩ := hw3.mem hp2 (by omega) hm
    rw [← hso] at hg1
    have q0 := hg5 0 (by omega); have q1 := hg5 1 (by omega); have q2 := hg5 2 (by omega); have q3 := hg5 3 (by omega); have q4 := hg5 4 (by omega); have q5 := hg5 5 (by omega); have q6 := hg5 6 (by omega); have q7 := hg5 7 (by omega); have q8 := hg5 8 (by omega)
    simp only [List.getElem?_cons_zero, List.getElem?_cons_succ, Nat.add_zero] at q0 q1 q2 q3 q4 q5 q6 q7 q8
    have z0 := cell_of_row w3 mb 0 _ _ (0, 0) m3; have f0 := frozen_of_row w3 mb 0 _ _ m3
    have z1 := cell_of_row w3 mb 1 _ _ (0, 0) m3; have f1 := frozen_of_row w3 mb 1 _ _ m3
    have z2 := cell_of_row w3 mb 2 _ _ (0, 0) m3; have f2 := frozen_of_row w3 mb 2 _ _ m3
    have z3 := cell_of_row w3 mb 3 _ _ (0, 0) m3; have f3 := frozen_of_row w3 mb 3 _ _ m3
    have z4 := cell_of_row w3 mb 4 _ _ (0, 0) m3; have f4 := frozen_of_row w3 mb 4 _ _ m3
    have z5 := cell_of_row w3 mb 5 _ _ (0, 0) m3; have f5 := frozen_of_row w3 mb 5 _ _ m3
    have z6 := cell_of_row w3 mb 6 _ _ (0, 0) m3; have f6 := frozen_of_row w3 mb 6 _ _ m3
    have z7 := cell_of_row w3 mb 7 _ _ (0, 0) m3; have f7 := frozen_of_row w3 mb 7 _ _ m3
    have z8 := cell_of_row w3 mb 8 _ _ (0, 0) m3; have f8 := frozen_of_row w3 mb 8 _ _ m3
    simp only [List.getElem?_toArray, List.getElem?_cons_zero, List.getElem?_cons_succ] at z0 z1 z2 z3 z4 z5 z6 z7 z8
    have W3 := Lib.hid hw3; have R3 := Lib.hid r3; have M3 := Lib.hid m3; have B3 := Lib.hid b3; have HM := Lib.hid hm
    clear hw3 r3 m3 b3 hm hg5
    rw [hg1]
    have hji : (j : Int) < (L : Int) := by omega
    have hji0 : (0 : Int) ≤ (j : Int) := by omega
    go_wp2_with fail
    refine (CB.out _).mono ?_; rintro e w9 ⟨rfl, rfl⟩
    go_upto_region 7 with (fail)
    have hms : mb ≤ w3.heap.size := Nat.le_of_lt (Array.getElem?_eq_some_iff.1 M3.out).1
    have kp4 : Keep [mb] w3 (((((((((w3.setCell ⟨mb, 0, none⟩ (.int .i64 m.to_)).setCell ⟨mb, 1, none⟩ (.int .i64 m.fr)).setCell ⟨mb, 2, none⟩ (.int .u32 m.b.round)).setCell ⟨mb, 3, none⟩ (.int .u8 m.b.node)).setCell ⟨mb, 4, none⟩ (.string m.v)).setCell ⟨mb, 5, none⟩ (.bool m.a.is)).setCell ⟨mb, 6, none⟩ (.int .u32 m.a.b.round)).setCell ⟨mb, 7, none⟩ (.int .u8 m.a.b.node)).setCell ⟨mb, 8, none⟩ (.string m.a.v)) := layM_keep w3 mb m
    have hw4 : WdW (((((((((w3.setCell ⟨mb, 0, none⟩ (.int .i64 m.to_)).setCell ⟨mb, 1, none⟩ (.int .i64 m.fr)).setCell ⟨mb, 2, none⟩ (.int .u32 m.b.round)).setCell ⟨mb, 3, none⟩ (.int .u8 m.b.node)).setCell ⟨mb, 4, none⟩ (.string m.v)).setCell ⟨mb, 5, none⟩ (.bool m.a.is)).setCell ⟨mb, 6, none⟩ (.int .u32 m.a.b.round)).setCell ⟨mb, 7, none⟩ (.int .u8 m.a.b.node)).setCell ⟨mb, 8, none⟩ (.string m.a.v)) B xb n (ours tg W.heap.size) H c d vote x := W2.out.below (HMB.out.symm ▸ b23.out.trans (kp4.below hms (by simp)))
    have BW4 : Below W.heap.size W (((((((((w3.setCell ⟨mb, 0, none⟩ (.int .i64 m.to_)).setCell ⟨mb, 1, none⟩ (.int .i64 m.fr)).setCell ⟨mb, 2, none⟩ (.int .u32 m.b.round)).setCell ⟨mb, 3, none⟩ (.int .u8 m.b.node)).setCell ⟨mb, 4, none⟩ (.string m.v)).setCell ⟨mb, 5, none⟩ (.bool m.a.is)).setCell ⟨mb, 6, none⟩ (.int .u32 m.a.b.round)).setCell ⟨mb, 7, none⟩ (.int .u8 m.a.b.node)).setCell ⟨mb, 8, none⟩ (.string m.a.v)) := BW2.out.trans ((b23.out.trans (kp4.below hms (by simp))).mono (by have := BW2.out.size; have := HMB.out; omega))
    have r4 := row_keep R3.out kp4 (by simp; omega)
    have x4 : (((((((((w3.setCell ⟨mb, 0, none⟩ (.int .i64 m.to_)).setCell ⟨mb, 1, none⟩ (.int .i64 m.fr)).setCell ⟨mb, 2, none⟩ (.int .u32 m.b.round)).setCell ⟨mb, 3, none⟩ (.int .u8 m.b.node)).setCell ⟨mb, 4, none⟩ (.string m.v)).setCell ⟨mb, 5, none⟩ (.bool m.a.is)).setCell ⟨mb, 6, none⟩ (.int .u32 m.a.b.round)).setCell ⟨mb, 7, none⟩ (.int .u8 m.a.b.node)).setCell ⟨mb, 8, none⟩ (.string m.a.v)).heap[mb]? = _ := layM_row M3.out
    clear z0 z1 z2 z3 z4 z5 z6 z7 z8 f0 f1 f2 f3 f4 f5 f6 f7 f8 q0 q1 q2 q3 q4 q5 q6 q7 q8 e0 e1 e2 W3 R3 M3 kp4
    generalize ((((((((w3.setCell ⟨mb, 0, none⟩ (.int .i64 m.to_)).setCell ⟨mb, 1, none⟩ (.int .i64 m.fr)).setCell ⟨mb, 2, none⟩ (.int .u32 m.b.round)).setCell ⟨mb, 3, none⟩ (.int .u8 m.b.node)).setCell ⟨mb, 4, none⟩ (.string m.v)).setCell ⟨mb, 5, none⟩ (.bool m.a.is)).setCell ⟨mb, 6, none⟩ (.int .u32 m.a.b.round)).setCell ⟨mb, 7, none⟩ (.int .u8 m.a.b.node)).setCell ⟨mb, 8, none⟩ (.string m.a.v) = w4 at *
    have e0 := cell_of_row w4 bx 0 _ _ (0, 0) r4
    simp only [List.getElem?_toArray, List.getElem?_cons_zero, List.getElem?_cons_succ] at e0
    have HBW4 := Lib.hid BW4
    clear BW4
    have W4 := Lib.hid hw4; have R4 := Lib.hid r4; have X4 := Lib.hid x4
    clear hw4 r4 x4
    go_wp2_with fail
    go_end0
    have hB : B ≤ W.heap.size := by have := H0.out.base; have := H0.out.lt; omega
    exact ⟨rfl, _, H, x, (W4.out.up (by omega)).upc (by omega), hin, (Trn.below HBW4.out hB).start, rfl, by omega, hna⟩
set_option maxHeartbeats 6400000 in
theorem step_km (a b : Int) (v : ByteArray) (wa : (Lit.int .i64 a).wf = true) (wb : (Lit.int .i64 b).wf = true) (hv : v.size ≤ 281474976710656) (W : World) (h : WdW W B xb n tg H c d vote x) (hd : d ≤ 10000) (hcc : c < 100000) (kd : Int) (wk : (Lit.int .i64 kd).wf = true) (hkd : kd < 0) (hin : x.Inv n vote) (hna : x.Nn n) :
    Calls Try.prog 22 #[.pointer (some ⟨xb, 0, none⟩), .agg #[.int .i64 kd, .int .i64 a, .int .i64 b, .string v]] W (StEnd W B xb n tg c d vote x x.ds) := by
  have CP := Lib.hid (fun w => pick_any kd wk 6 (by omega) (by omega) w)
  have hp6 := pk_lt kd (n := 6) (by omega)
  obtain ⟨p, hp⟩ : ∃ p, p = pk kd 6 := ⟨_, rfl⟩
  rw [← hp] at CP hp6
  clear hp
  have hk1 : ¬ kd = 0 := by omega
  have hk2 : ¬ kd = 1 := by omega
  have hk3 : ¬ kd = 2 := by omega
  have hk4 : ¬ kd = 3 := by omega
  have hk5 : ¬ kd = 4 := by omega
  have hk6 : ¬ kd = 5 := by omega
  have hk7 : ¬ 1 < kd := by omega
  have hpi : (p : Int) < 6 := by omega
  have hpi0 : (0 : Int) ≤ (p : Int) := by omega
  obtain ⟨bx, hbx⟩ : ∃ bx, bx = W.heap.size := ⟨_, rfl⟩
  have hxl := h.lt
  have hn5 := h.pt.n5
  have hn1 := h.pt.n1
  have hw1 := h.ours.below (below_alloc (Below.refl _ _) (.cells #[.int .i64 kd, .int .i64 a, .int .i64 b, .string v] 73))
  have y0 := hw1.acc
  have yl := hw1.l hp6
  have W1 := Lib.hid hw1
  have H0 := Lib.hid h
  clear h hw1
  go_enter Try.func22, Try.ntmps22
  go_upto_region 2 with (fail)
  have r0 := heap_alloc_new W (.cells #[.int .i64 kd, .int .i64 a, .int .i64 b, .string v] 73)
  have bw1 := below_alloc (Below.refl W.heap.size W) (.cells #[.int .i64 kd, .int .i64 a, .int .i64 b, .string v] 73)
  generalize W.alloc (.cells #[.int .i64 kd, .int .i64 a, .int .i64 b, .string v] 73) = w1 at *
  rw [← hbx] at r0
  have e0 := cell_of_row w1 bx 0 _ _ (0, 0) r0
  simp only [List.getElem?_toArray, List.getElem?_cons_zero, List.getElem?_cons_succ] at e0
  rw [← hbx]
  have R0 := Lib.hid r0
  have HBX := Lib.hid hbx
  clear r0 hbx
  generalize x.lv H p = lvp at *
  go_quiet ((go_at_call 20; refine Calls.quiet_of_same ((CP.out _).mono (by rintro e w' ⟨h1, h2⟩; exact ⟨h1, h2.symm⟩))))
  have hw2 := W1.out.below (below_drewN (Below.refl _ _) nq)
  have r2 : (w1.drewN nq).heap[bx]? = _ := R0.out
  have b2 := below_next bw1 (below_drewN (Below.refl w1.heap.size w1) nq)
  clear e0 y0 yl W1 R0 bw1
  generalize w1.drewN nq = w2 at *
  have e0 := cell_of_row w2 bx 0 _ _ (0, 0) r2
  simp only [List.getElem?_toArray, List.getElem?_cons_zero, List.getElem?_cons_succ] at e0
  have W2 := Lib.hid hw2
  have R2 := Lib.hid r2
  have B2 := Lib.hid b2
  clear hw2 r2 b2
  go_upto_region 5 with (fail)
  have b3 := below_alloc (Below.refl w2.heap.size w2) (.cells #[.int .i64 0, .int .i64 0, .int .u32 0, .int .u8 0, .string ⟨#[]⟩, .bool false, .int .u32 0, .int .u8 0, .string ⟨#[]⟩] 105)
  have hw3 := W2.out.below b3
  have r3 := row_keep R2.out (Keep.of_below b3 []) (by simp)
  have BB := Lib.hid (below_next B2.out b3)
  generalize w2.alloc (.cells #[.int .i64 0, .int .i64 0, .int .u32 0, .int .u8 0, .string ⟨#[]⟩, .bool false, .int .u32 0, .int .u8 0, .string ⟨#[]⟩] 105) = w3 at *
  clear e0
  have e0 := cell_of_row w3 bx 0 _ _ (0, 0) r3
  simp only [List.getElem?_toArray, List.getElem?_cons_zero, List.getElem?_cons_succ] at e0
  have W3 := Lib.hid hw3
  clear hw3 r3 b3
  go_wp2_with fail
  go_end0
  have hB : B ≤ W.heap.size := by have := H0.out.base; have := H0.out.lt; omega
  exact ⟨rfl, _, H, x, (W3.out.up (by omega)).upc (by omega), hin, (Trn.below BB.out hB).start, rfl, by omega, hna⟩
end
end Go.Proofs.Ytgfalpiifgoonaa
