/- step -/
import Derived.Test.YtgfalpiifgoonaaWs
import Derived.Deep.CutRange
import Derived.Deep.AppendLies
import Derived.StillTailTactics
namespace Go.Proofs.Ytgfalpiifgoonaa
open Go.RowKit Go.Sort
set_option linter.unusedVariables false
set_option linter.unusedSectionVars false
set_option linter.unusedSimpArgs false
set_option maxRecDepth 100000
section
variable {w w' : World} {B xb n c d : Nat} {tg : Nat → Nat} {H : Hd} {vote : ByteArray} {x : PX} {U : List Nat}
set_option maxHeartbeats 3200000 in
theorem step_k5 (a b : Int) (v : ByteArray) (wa : (Lit.int .i64 a).wf = true) (wb : (Lit.int .i64 b).wf = true) (hv : v.size ≤ 281474976710656) (W : World) (h : WdW W B xb n tg H c d vote x) (hd : d ≤ 10000) (hcc : c < 100000) (hin : x.Inv n vote) (hna : x.Nn n) :
    Calls Try.prog 22 #[.pointer (some ⟨xb, 0, none⟩), .agg #[.int .i64 5, .int .i64 a, .int .i64 b, .string v]] W (StEnd W B xb n tg c d vote x x.ds) := by
  have hlen := h.pt.len 5
  have CP := Lib.hid (fun w => pick_any 5 (by decide) 6 (by omega) (by omega) w)
  obtain ⟨p, hp⟩ : ∃ p, p = pk 5 6 := ⟨_, rfl⟩
  have hp5 : p = 5 := hp.trans (by decide)
  have hp6 : p < 6 := by omega
  rw [← hp] at CP
  have hlv : x.lv H p = .slice (H.sl p) (x.ms p).length (H.cap p) := by rw [hp5]; rfl
  have HP5 := Lib.hid hp5
  have hp25 : 2 ≤ p ∧ p ≤ 5 := by omega
  have hlp : (x.ms p).length ≤ 10000 := by rw [hp5]; omega
  clear hlen
  have HLV := Lib.hid hlv
  clear hp5 hp hlv
  have hpi : (p : Int) < 6 := by omega
  have hpi0 : (0 : Int) ≤ (p : Int) := by omega
  obtain ⟨bx, hbx⟩ : ∃ bx, bx = W.heap.size := ⟨_, rfl⟩
  have hxl := h.lt
  have hn5 := h.pt.n5
  have hn1 := h.pt.n1
  have hw1 := h.below (below_alloc (Below.refl _ _) (.cells #[.int .i64 5, .int .i64 a, .int .i64 b, .string v] 73))
  have y0 := hw1.acc
  have yl := hw1.l hp6
  have W1 := Lib.hid hw1
  have H0 := Lib.hid h
  clear h hw1 wa
  go_enter Try.func22, Try.ntmps22
  go_upto_region 2 with (fail)
  have r0 := heap_alloc_new W (.cells #[.int .i64 5, .int .i64 a, .int .i64 b, .string v] 73)
  have bw1 := below_alloc (Below.refl W.heap.size W) (.cells #[.int .i64 5, .int .i64 a, .int .i64 b, .string v] 73)
  generalize W.alloc (.cells #[.int .i64 5, .int .i64 a, .int .i64 b, .string v] 73) = w1 at *
  rw [← hbx] at r0
  have e0 := cell_of_row w1 bx 0 _ _ (0, 0) r0
  have e1 := cell_of_row w1 bx 1 _ _ (0, 0) r0
  have e2 := cell_of_row w1 bx 2 _ _ (0, 0) r0
  have e3 := cell_of_row w1 bx 3 _ _ (0, 0) r0
  simp only [List.getElem?_toArray, List.getElem?_cons_zero, List.getElem?_cons_succ] at e0 e1 e2 e3
  rw [← hbx]
  have R0 := Lib.hid r0
  clear r0 hbx
  go_quiet ((go_at_call 20; refine Calls.quiet_of_same ((CP.out _).mono (by rintro e w' ⟨h1, h2⟩; exact ⟨h1, h2.symm⟩))))
  have hw2 := W1.out.below (below_drewN (Below.refl _ _) nq)
  have r2 : (w1.drewN nq).heap[bx]? = _ := R0.out
  have BW2 := Lib.hid (bw1.trans ((below_drewN (Below.refl w1.heap.size w1) nq).mono bw1.size))
  clear bw1
  have b2 := below_drewN (Below.refl w1.heap.size w1) nq
  clear e0 e1 e2 e3 y0 yl W1 R0
  generalize w1.drewN nq = w2 at *
  have e0 := cell_of_row w2 bx 0 _ _ (0, 0) r2
  have e1 := cell_of_row w2 bx 1 _ _ (0, 0) r2
  have e2 := cell_of_row w2 bx 2 _ _ (0, 0) r2
  have e3 := cell_of_row w2 bx 3 _ _ (0, 0) r2
  simp only [List.getElem?_toArray, List.getElem?_cons_zero, List.getElem?_cons_succ] at e0 e1 e2 e3
  have W2 := Lib.hid hw2
  have R2 := Lib.hid r2
  have B2 := Lib.hid b2
  clear hw2 r2 b2
  go_upto_region 3 with (fail)
  rw [show x.lv H p = .slice (H.sl p) (x.ms p).length (H.cap p) from HLV.out]
  generalize hL : (x.ms p).length = L at *
  by_cases hL0 : L = 0
  · subst hL0
    go_wp2_with fail
    go_end0
    have hB : B ≤ W.heap.size := by have := H0.out.base; have := H0.out.lt; omega
    exact ⟨rfl, tg, H, x, (W2.out.up (by omega)).upc (by omega), hin, ⟨BW2.out.mono hB, fun q hq ht => ⟨BW2.out.block q hq, ht⟩⟩, rfl, by omega, hna⟩
  · have hLi : ¬ (L : Int) = 0 := by omega
    go_upto_region 5 with (fail)
    have hw3 := W2.out.below (below_alloc (Below.refl _ _) (.cells #[.int .i64 0, .int .i64 0, .int .u32 0, .int .u8 0, .string ⟨#[]⟩, .bool false, .int .u32 0, .int .u8 0, .string ⟨#[]⟩] 105))
    have b3 := below_alloc B2.out (.cells #[.int .i64 0, .int .i64 0, .int .u32 0, .int .u8 0, .string ⟨#[]⟩, .bool false, .int .u32 0, .int .u8 0, .string ⟨#[]⟩] 105)
    have r3 := row_keep R2.out (Keep.of_below (below_alloc (Below.refl _ _) (.cells #[.int .i64 0, .int .i64 0, .int .u32 0, .int .u8 0, .string ⟨#[]⟩, .bool false, .int .u32 0, .int .u8 0, .string ⟨#[]⟩] 105)) []) (by simp)
    have m3 := heap_alloc_new w2 (.cells #[.int .i64 0, .int .i64 0, .int .u32 0, .int .u8 0, .string ⟨#[]⟩, .bool false, .int .u32 0, .int .u8 0, .string ⟨#[]⟩] 105)
    have b23 := Lib.hid (below_alloc (Below.refl w2.heap.size w2) (.cells #[.int .i64 0, .int .i64 0, .int .u32 0, .int .u8 0, .string ⟨#[]⟩, .bool false, .int .u32 0, .int .u8 0, .string ⟨#[]⟩] 105))
    have hbm := (Array.getElem?_eq_some_iff.1 R2.out).1
    generalize w2.alloc (.cells #[.int .i64 0, .int .i64 0, .int .u32 0, .int .u8 0, .string ⟨#[]⟩, .bool false, .int .u32 0, .int .u8 0, .string ⟨#[]⟩] 105) = w3 at *
    have hbm2 := W2.out.lt
    generalize hmb : w2.heap.size = mb at *
    clear e0 e1 e2 e3 R2
    have HMB := Lib.hid hmb
    clear hmb
    have e0 := cell_of_row w3 bx 0 _ _ (0, 0) r3
    have e1 := cell_of_row w3 bx 1 _ _ (0, 0) r3
    have e2 := cell_of_row w3 bx 2 _ _ (0, 0) r3
    simp only [List.getElem?_toArray, List.getElem?_cons_zero, List.getElem?_cons_succ] at e0 e1 e2
    have CB := Lib.hid (fun w => pick_any b wb L (by omega) (by omega) w)
    have hpj := pk_lt b (n := L) (by omega)
    generalize pk b L = j at *
    obtain ⟨m, hm⟩ : ∃ m, (x.ms p)[j]? = some m := ⟨_, List.getElem?_eq_getElem (by omega)⟩
    obtain ⟨g, hg1, hg2, hg3, hg4, hg5⟩ := hw3.mem (by omega : 2 ≤ p) (by omega) hm
    have q0 := hg5 0 (by omega); have q1 := hg5 1 (by omega); have q2 := hg5 2 (by omega); have q3 := hg5 3 (by omega); have q4 := hg5 4 (by omega); have q5 := hg5 5 (by omega); have q6 := hg5 6 (by omega); have q7 := hg5 7 (by omega); have q8 := hg5 8 (by omega)
    simp only [List.getElem?_cons_zero, List.getElem?_cons_succ, Nat.add_zero] at q0 q1 q2 q3 q4 q5 q6 q7 q8
    have z0 := cell_of_row w3 mb 0 _ _ (0, 0) m3; have f0 := frozen_of_row w3 mb 0 _ _ m3
    have z1 := cell_of_row w3 mb 1 _ _ (0, 0) m3; have f1 := frozen_of_row w3 mb 1 _ _ m3
    have z2 := cell_of_row w3 mb 2 _ _ (0, 0) m3; have f2 := frozen_of_row w3 mb 2 _ _ m3
    have z3 := cell_of_row w3 mb 3 _ _ (0, 0) m3; have f3 := frozen_of_row w3 mb 3 _ _ m3
    have z4 := cell_of_row w3 mb 4 _ _ (0, 0) m3; have f4 := frozen_of_row w3 mb 4 _ _ m3
    have z5 := cell_of_row w3 mb 5 _ _ (0, 0) m3; have f5 := frozen_of_row w3 mb 5 _ _ m3
    have z6 := cell_of_row w3 mb 6 _ _ (0, 0) m3; have f6 := frozen_of_row w3 mb 6 _ _ m3
    have z7 := cell_of_row w3 mb 7 _ _ (0, 0) m3; have f7 := frozen_of_row w3 mb 7 _ _ m3
    have z8 := cell_of_row w3 mb 8 _ _ (0, 0) m3; have f8 := frozen_of_row w3 mb 8 _ _ m3
    simp only [List.getElem?_toArray, List.getElem?_cons_zero, List.getElem?_cons_succ] at z0 z1 z2 z3 z4 z5 z6 z7 z8
    have W3 := Lib.hid hw3; have R3 := Lib.hid r3; have M3 := Lib.hid m3; have B3 := Lib.hid b3; have HM := Lib.hid hm
    clear hw3 r3 m3 b3 hm hg5
    rw [hg1]
    have hji : (j : Int) < (L : Int) := by omega
    have hji0 : (0 : Int) ≤ (j : Int) := by omega
    go_wp2_with fail
    refine (CB.out _).mono ?_; rintro e w9 ⟨rfl, rfl⟩
    go_upto_region 7 with (fail)
    have hms : mb ≤ w3.heap.size := Nat.le_of_lt (Array.getElem?_eq_some_iff.1 M3.out).1
    have kp4 : Keep [mb] w3 (((((((((w3.setCell ⟨mb, 0, none⟩ (.int .i64 m.to_)).setCell ⟨mb, 1, none⟩ (.int .i64 m.fr)).setCell ⟨mb, 2, none⟩ (.int .u32 m.b.round)).setCell ⟨mb, 3, none⟩ (.int .u8 m.b.node)).setCell ⟨mb, 4, none⟩ (.string m.v)).setCell ⟨mb, 5, none⟩ (.bool m.a.is)).setCell ⟨mb, 6, none⟩ (.int .u32 m.a.b.round)).setCell ⟨mb, 7, none⟩ (.int .u8 m.a.b.node)).setCell ⟨mb, 8, none⟩ (.string m.a.v)) := layM_keep w3 mb m
    have hw4 : WdW (((((((((w3.setCell ⟨mb, 0, none⟩ (.int .i64 m.to_)).setCell ⟨mb, 1, none⟩ (.int .i64 m.fr)).setCell ⟨mb, 2, none⟩ (.int .u32 m.b.round)).setCell ⟨mb, 3, none⟩ (.int .u8 m.b.node)).setCell ⟨mb, 4, none⟩ (.string m.v)).setCell ⟨mb, 5, none⟩ (.bool m.a.is)).setCell ⟨mb, 6, none⟩ (.int .u32 m.a.b.round)).setCell ⟨mb, 7, none⟩ (.int .u8 m.a.b.node)).setCell ⟨mb, 8, none⟩ (.string m.a.v)) B xb n tg H c d vote x := W2.out.below (HMB.out.symm ▸ b23.out.trans (kp4.below hms (by simp)))
    have BW4 : Below W.heap.size W (((((((((w3.setCell ⟨mb, 0, none⟩ (.int .i64 m.to_)).setCell ⟨mb, 1, none⟩ (.int .i64 m.fr)).setCell ⟨mb, 2, none⟩ (.int .u32 m.b.round)).setCell ⟨mb, 3, none⟩ (.int .u8 m.b.node)).setCell ⟨mb, 4, none⟩ (.string m.v)).setCell ⟨mb, 5, none⟩ (.bool m.a.is)).setCell ⟨mb, 6, none⟩ (.int .u32 m.a.b.round)).setCell ⟨mb, 7, none⟩ (.int .u8 m.a.b.node)).setCell ⟨mb, 8, none⟩ (.string m.a.v)) := BW2.out.trans ((b23.out.trans (kp4.below hms (by simp))).mono (by have := BW2.out.size; have := HMB.out; omega))
    have r4 := row_keep R3.out kp4 (by simp; omega)
    have x4 : (((((((((w3.setCell ⟨mb, 0, none⟩ (.int .i64 m.to_)).setCell ⟨mb, 1, none⟩ (.int .i64 m.fr)).setCell ⟨mb, 2, none⟩ (.int .u32 m.b.round)).setCell ⟨mb, 3, none⟩ (.int .u8 m.b.node)).setCell ⟨mb, 4, none⟩ (.string m.v)).setCell ⟨mb, 5, none⟩ (.bool m.a.is)).setCell ⟨mb, 6, none⟩ (.int .u32 m.a.b.round)).setCell ⟨mb, 7, none⟩ (.int .u8 m.a.b.node)).setCell ⟨mb, 8, none⟩ (.string m.a.v)).heap[mb]? = _ := layM_row M3.out
    clear z0 z1 z2 z3 z4 z5 z6 z7 z8 f0 f1 f2 f3 f4 f5 f6 f7 f8 q0 q1 q2 q3 q4 q5 q6 q7 q8 e0 e1 e2 W3 R3 M3 kp4
    generalize ((((((((w3.setCell ⟨mb, 0, none⟩ (.int .i64 m.to_)).setCell ⟨mb, 1, none⟩ (.int .i64 m.fr)).setCell ⟨mb, 2, none⟩ (.int .u32 m.b.round)).setCell ⟨mb, 3, none⟩ (.int .u8 m.b.node)).setCell ⟨mb, 4, none⟩ (.string m.v)).setCell ⟨mb, 5, none⟩ (.bool m.a.is)).setCell ⟨mb, 6, none⟩ (.int .u32 m.a.b.round)).setCell ⟨mb, 7, none⟩ (.int .u8 m.a.b.node)).setCell ⟨mb, 8, none⟩ (.string m.a.v) = w4 at *
    have e0 := cell_of_row w4 bx 0 _ _ (0, 0) r4
    simp only [List.getElem?_toArray, List.getElem?_cons_zero, List.getElem?_cons_succ] at e0
    have HBW4 := Lib.hid BW4
    clear BW4
    have W4 := Lib.hid hw4; have R4 := Lib.hid r4; have X4 := Lib.hid x4
    clear hw4 r4 x4
    go_upto_region 35 with (fail)
    have hmo : m.Ok n p := W4.out.pt.mok p m (List.mem_of_getElem? HM.out)
    have hto : m.to_ < 3 := by have := hmo.to_; rw [HP5.out] at this; exact this
    have y2 := W4.out.lea
    obtain ⟨ga, pv, ea, _, _, ea2, ea3, _⟩ := owns_cell1 W4.out.pt.sL m.to_ hto
    obtain rfl : H.aL = ga := by simpa using ea
    obtain rfl : pv = .pointer (some ⟨H.hL m.to_, 0, none⟩) := by
      simp only [ptrs, List.getElem?_map, List.getElem?_range hto, Option.map_some, Option.some.injEq] at ea2
      exact ea2.symm
    have t0 := cell_of_row w4 mb 0 _ _ (0, 0) X4.out
    have t1 := cell_of_row w4 mb 1 _ _ (0, 0) X4.out
    have t2 := cell_of_row w4 mb 2 _ _ (0, 0) X4.out
    have t3 := cell_of_row w4 mb 3 _ _ (0, 0) X4.out
    have t4 := cell_of_row w4 mb 4 _ _ (0, 0) X4.out
    simp only [List.getElem?_toArray, List.getElem?_cons_zero, List.getElem?_cons_succ] at t0 t1 t2 t3 t4
    have htoi : (m.to_ : Int) < 3 := by omega
    have htoi0 : (0 : Int) ≤ (m.to_ : Int) := by omega
    have HMO := Lib.hid hmo
    clear hmo ea ea2
    go_still_tail 14, (by kernel_rfl)
    change wpList _ _ _ _ _ w4.drew
    have b5 := (Below.refl w4.heap.size w4).drew
    have hw5 := W4.out.below b5
    have C5 := accepted_any (n := n) m.fr (hin.fit m.to_ hto) HMO.out.bok HMO.out.vz hcc w4.drew (hw5.pt.lea m.to_ hto).1
    have HC5 := Lib.hid C5
    have HW5 := Lib.hid hw5
    have HB5 := Lib.hid b5
    clear b5 hw5 C5
    generalize w4.drew = w5 at *
    go_wp2_with fail
    refine (HC5.out).mono ?_; rintro e w6 ⟨rfl, l6, k6⟩
    go_wp2_with fail
    go_end0
    have hk0 : 0 ≤ m.fr := HMO.out.fr2 (by have := HP5.out; omega)
    obtain ⟨h1, h2, h3⟩ := HW5.out.pt.lea m.to_ hto
    have hxn : xb ∉ [H.hL m.to_, H.gL m.to_] := fun hq => by
      have := HW5.out.xt
      simp only [List.mem_cons, List.not_mem_nil, or_false] at hq
      rcases hq with e | e
      · rw [e, h2] at this; omega
      · rw [e, h3] at this; omega
    have hm5 : m ∈ x.m5 := by
      have := List.mem_of_getElem? HM.out
      rw [HP5.out] at this
      exact this
    have hB : B ≤ W.heap.size := by have := H0.out.base; have := H0.out.lt; omega
    refine ⟨rfl, tg, H, {x with L := upP x.L m.to_ (accL n (x.L m.to_) m.fr m.b m.v).s}, WdW.up (d := d) ⟨HW5.out.pt.learn hto k6 _ l6, row_keep HW5.out.row k6 hxn, HW5.out.xt, HW5.out.base⟩ (by omega), inv_hear hin hto hm5 (k := m.fr.toNat) (by omega), ⟨?_, fun q hq ht => ⟨?_, ht⟩⟩, rfl, by show x.rd ≤ x.rd + 1; omega, hna⟩
    · refine (HBW4.out.mono hB).trans ((HB5.out.mono (by have := HBW4.out.size; omega)).trans (k6.below (by have := HBW4.out.size; have := HB5.out.size; omega) fun q hq => ?_))
      simp only [List.mem_cons, List.not_mem_nil, or_false] at hq
      rcases hq with rfl | rfl
      · exact h1.base
      · exact h1.gbase
    · have l4 := HBW4.out.size
      have l5 := HB5.out.size
      refine (k6.block q (by omega) fun hm => ?_).trans ((HB5.out.block q (by omega)).trans (HBW4.out.block q hq))
      simp only [List.mem_cons, List.not_mem_nil, or_false] at hm
      rcases hm with e | e
      · rw [e, h2] at ht; omega
      · rw [e, h3] at ht; omega
end
end Go.Proofs.Ytgfalpiifgoonaa
