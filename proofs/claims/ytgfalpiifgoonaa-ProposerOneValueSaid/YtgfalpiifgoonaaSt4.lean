/- ProposerOneValue: way 4 of the law's own step. -/
import Derived.Test.YtgfalpiifgoonaaWt
import Derived.Deep.RegionHeld3
namespace Go.Proofs.Ytgfalpiifgoonaa
open Go.RowKit Go.Sort
set_option linter.unusedVariables false
set_option linter.unusedSectionVars false
set_option linter.unusedSimpArgs false
set_option maxRecDepth 100000
section
variable {w w' : World} {B xb n c d : Nat} {tg : Nat → Nat} {H : Hd} {vote : ByteArray} {x : PX} {U : List Nat}
set_option maxHeartbeats 6400000 in
theorem step_k4 (a b : Int) (v : ByteArray) (wa : (Lit.int .i64 a).wf = true) (wb : (Lit.int .i64 b).wf = true) (hv : v.size ≤ 281474976710656) (W : World) (h : WdW W B xb n tg H c d vote x) (hd : d ≤ 10000) (hcc : c < 100000) (hin : x.Inv n vote) (hna : x.Nn n) :
    Calls Try.prog 22 #[.pointer (some ⟨xb, 0, none⟩), .agg #[.int .i64 4, .int .i64 a, .int .i64 b, .string v]] W (StEnd W B xb n tg c d vote x x.ds) := by
  have hlen := h.pt.len 4
  have CP := Lib.hid (fun w => pick_any 4 (by decide) 6 (by omega) (by omega) w)
  obtain ⟨p, hp⟩ : ∃ p, p = pk 4 6 := ⟨_, rfl⟩
  have hp5 : p = 4 := hp.trans (by decide)
  have hp6 : p < 6 := by omega
  rw [← hp] at CP
  have hlv : x.lv H p = .slice (H.sl p) (x.ms p).length (H.cap p) := by rw [hp5]; rfl
  have HP5 := Lib.hid hp5
  have hp25 : 2 ≤ p ∧ p ≤ 5 := by omega
  have hlp : (x.ms p).length ≤ 10000 := by rw [hp5]; omega
  clear hlen
  have HLV := Lib.hid hlv
  clear hp5 hp hlv
  have hpi : (p : Int) < 6 := by omega
  have hpi0 : (0 : Int) ≤ (p : Int) := by omega
  obtain ⟨bx, hbx⟩ : ∃ bx, bx = W.heap.size := ⟨_, rfl⟩
  have hxl := h.lt
  have hn5 := h.pt.n5
  have hn1 := h.pt.n1
  have hw1 := h.ours.below (below_alloc (Below.refl _ _) (.cells #[.int .i64 4, .int .i64 a, .int .i64 b, .string v] 73))
  have y0 := hw1.acc
  have yl := hw1.l hp6
  have W1 := Lib.hid hw1
  have H0 := Lib.hid h
  clear h hw1 wa
  go_enter Try.func22, Try.ntmps22
  go_upto_region 2 with (fail)
  have r0 := heap_alloc_new W (.cells #[.int .i64 4, .int .i64 a, .int .i64 b, .string v] 73)
  have bw1 := below_alloc (Below.refl W.heap.size W) (.cells #[.int .i64 4, .int .i64 a, .int .i64 b, .string v] 73)
  generalize W.alloc (.cells #[.int .i64 4, .int .i64 a, .int .i64 b, .string v] 73) = w1 at *
  rw [← hbx] at r0
  have e0 := cell_of_row w1 bx 0 _ _ (0, 0) r0
  have e1 := cell_of_row w1 bx 1 _ _ (0, 0) r0
  have e2 := cell_of_row w1 bx 2 _ _ (0, 0) r0
  have e3 := cell_of_row w1 bx 3 _ _ (0, 0) r0
  simp only [List.getElem?_toArray, List.getElem?_cons_zero, List.getElem?_cons_succ] at e0 e1 e2 e3
  rw [← hbx]
  have R0 := Lib.hid r0
  have HBX := Lib.hid hbx
  clear r0 hbx
  go_quiet ((go_at_call 20; refine Calls.quiet_of_same ((CP.out _).mono (by rintro e w' ⟨h1, h2⟩; exact ⟨h1, h2.symm⟩))))
  have hw2 := W1.out.below (below_drewN (Below.refl _ _) nq)
  have r2 : (w1.drewN nq).heap[bx]? = _ := R0.out
  have BW2 := Lib.hid (bw1.trans ((below_drewN (Below.refl w1.heap.size w1) nq).mono bw1.size))
  clear bw1
  have b2 := below_drewN (Below.refl w1.heap.size w1) nq
  clear e0 e1 e2 e3 y0 yl W1 R0
  generalize w1.drewN nq = w2 at *
  have e0 := cell_of_row w2 bx 0 _ _ (0, 0) r2
  have e1 := cell_of_row w2 bx 1 _ _ (0, 0) r2
  have e2 := cell_of_row w2 bx 2 _ _ (0, 0) r2
  have e3 := cell_of_row w2 bx 3 _ _ (0, 0) r2
  simp only [List.getElem?_toArray, List.getElem?_cons_zero, List.getElem?_cons_succ] at e0 e1 e2 e3
  have W2 := Lib.hid hw2
  have R2 := Lib.hid r2
  have B2 := Lib.hid b2
  clear hw2 r2 b2
  go_upto_region 3 with (fail)
  rw [show x.lv H p = .slice (H.sl p) (x.ms p).length (H.cap p) from HLV.out]
  generalize hL : (x.ms p).length = L at *
  by_cases hL0 : L = 0
  · subst hL0
    go_wp2_with fail
    go_end0
    have hB : B ≤ W.heap.size := by have := H0.out.base; have := H0.out.lt; omega
    exact ⟨rfl, _, H, x, (W2.out.up (by omega)).upc (by omega), hin, (Trn.below BW2.out hB).start, rfl, by omega, hna⟩
  · have hLi : ¬ (L : Int) = 0 := by omega
    go_upto_region 5 with (fail)
    have hw3 := W2.out.below (below_alloc (Below.refl _ _) (.cells #[.int .i64 0, .int .i64 0, .int .u32 0, .int .u8 0, .string ⟨#[]⟩, .bool false, .int .u32 0, .int .u8 0, .string ⟨#[]⟩] 105))
    have b3 := below_alloc B2.out (.cells #[.int .i64 0, .int .i64 0, .int .u32 0, .int .u8 0, .string ⟨#[]⟩, .bool false, .int .u32 0, .int .u8 0, .string ⟨#[]⟩] 105)
    have r3 := row_keep R2.out (Keep.of_below (below_alloc (Below.refl _ _) (.cells #[.int .i64 0, .int .i64 0, .int .u32 0, .int .u8 0, .string ⟨#[]⟩, .bool false, .int .u32 0, .int .u8 0, .string ⟨#[]⟩] 105)) []) (by simp)
    have m3 := heap_alloc_new w2 (.cells #[.int .i64 0, .int .i64 0, .int .u32 0, .int .u8 0, .string ⟨#[]⟩, .bool false, .int .u32 0, .int .u8 0, .string ⟨#[]⟩] 105)
    have b23 := Lib.hid (below_alloc (Below.refl w2.heap.size w2) (.cells #[.int .i64 0, .int .i64 0, .int .u32 0, .int .u8 0, .string ⟨#[]⟩, .bool false, .int .u32 0, .int .u8 0, .string ⟨#[]⟩] 105))
    have hbm := (Array.getElem?_eq_some_iff.1 R2.out).1
    generalize w2.alloc (.cells #[.int .i64 0, .int .i64 0, .int .u32 0, .int .u8 0, .string ⟨#[]⟩, .bool false, .int .u32 0, .int .u8 0, .string ⟨#[]⟩] 105) = w3 at *
    have hbm2 := W2.out.lt
    generalize hmb : w2.heap.size = mb at *
    clear e0 e1 e2 e3 R2
    have HMB := Lib.hid hmb
    clear hmb
    have e0 := cell_of_row w3 bx 0 _ _ (0, 0) r3
    have e1 := cell_of_row w3 bx 1 _ _ (0, 0) r3
    have e2 := cell_of_row w3 bx 2 _ _ (0, 0) r3
    simp only [List.getElem?_toArray, List.getElem?_cons_zero, List.getElem?_cons_succ] at e0 e1 e2
    have CB := Lib.hid (fun w => pick_any b wb L (by omega) (by omega) w)
    have hpj := pk_lt b (n := L) (by omega)
    generalize pk b L = j at *
    obtain ⟨m, hm⟩ : ∃ m, (x.ms p)[j]? = some m := ⟨_, List.getElem?_eq_getElem (by omega)⟩
    obtain ⟨g, hg1, hg2, hg3, hg4, hg5⟩ := hw3.mem (by omega : 2 ≤ p) (by omega) hm
    have q0 := hg5 0 (by omega); have q1 := hg5 1 (by omega); have q2 := hg5 2 (by omega); have q3 := hg5 3 (by omega); have q4 := hg5 4 (by omega); have q5 := hg5 5 (by omega); have q6 := hg5 6 (by omega); have q7 := hg5 7 (by omega); have q8 := hg5 8 (by omega)
    simp only [List.getElem?_cons_zero, List.getElem?_cons_succ, Nat.add_zero] at q0 q1 q2 q3 q4 q5 q6 q7 q8
    have z0 := cell_of_row w3 mb 0 _ _ (0, 0) m3; have f0 := frozen_of_row w3 mb 0 _ _ m3
    have z1 := cell_of_row w3 mb 1 _ _ (0, 0) m3; have f1 := frozen_of_row w3 mb 1 _ _ m3
    have z2 := cell_of_row w3 mb 2 _ _ (0, 0) m3; have f2 := frozen_of_row w3 mb 2 _ _ m3
    have z3 := cell_of_row w3 mb 3 _ _ (0, 0) m3; have f3 := frozen_of_row w3 mb 3 _ _ m3
    have z4 := cell_of_row w3 mb 4 _ _ (0, 0) m3; have f4 := frozen_of_row w3 mb 4 _ _ m3
    have z5 := cell_of_row w3 mb 5 _ _ (0, 0) m3; have f5 := frozen_of_row w3 mb 5 _ _ m3
    have z6 := cell_of_row w3 mb 6 _ _ (0, 0) m3; have f6 := frozen_of_row w3 mb 6 _ _ m3
    have z7 := cell_of_row w3 mb 7 _ _ (0, 0) m3; have f7 := frozen_of_row w3 mb 7 _ _ m3
    have z8 := cell_of_row w3 mb 8 _ _ (0, 0) m3; have f8 := frozen_of_row w3 mb 8 _ _ m3
    simp only [List.getElem?_toArray, List.getElem?_cons_zero, List.getElem?_cons_succ] at z0 z1 z2 z3 z4 z5 z6 z7 z8
    have W3 := Lib.hid hw3; have R3 := Lib.hid r3; have M3 := Lib.hid m3; have B3 := Lib.hid b3; have HM := Lib.hid hm
    clear hw3 r3 m3 b3 hm hg5
    rw [hg1]
    have hji : (j : Int) < (L : Int) := by omega
    have hji0 : (0 : Int) ≤ (j : Int) := by omega
    go_wp2_with fail
    refine (CB.out _).mono ?_; rintro e w9 ⟨rfl, rfl⟩
    go_upto_region 7 with (fail)
    have hms : mb ≤ w3.heap.size := Nat.le_of_lt (Array.getElem?_eq_some_iff.1 M3.out).1
    have kp4 : Keep [mb] w3 (((((((((w3.setCell ⟨mb, 0, none⟩ (.int .i64 m.to_)).setCell ⟨mb, 1, none⟩ (.int .i64 m.fr)).setCell ⟨mb, 2, none⟩ (.int .u32 m.b.round)).setCell ⟨mb, 3, none⟩ (.int .u8 m.b.node)).setCell ⟨mb, 4, none⟩ (.string m.v)).setCell ⟨mb, 5, none⟩ (.bool m.a.is)).setCell ⟨mb, 6, none⟩ (.int .u32 m.a.b.round)).setCell ⟨mb, 7, none⟩ (.int .u8 m.a.b.node)).setCell ⟨mb, 8, none⟩ (.string m.a.v)) := layM_keep w3 mb m
    have hw4 : WdW (((((((((w3.setCell ⟨mb, 0, none⟩ (.int .i64 m.to_)).setCell ⟨mb, 1, none⟩ (.int .i64 m.fr)).setCell ⟨mb, 2, none⟩ (.int .u32 m.b.round)).setCell ⟨mb, 3, none⟩ (.int .u8 m.b.node)).setCell ⟨mb, 4, none⟩ (.string m.v)).setCell ⟨mb, 5, none⟩ (.bool m.a.is)).setCell ⟨mb, 6, none⟩ (.int .u32 m.a.b.round)).setCell ⟨mb, 7, none⟩ (.int .u8 m.a.b.node)).setCell ⟨mb, 8, none⟩ (.string m.a.v)) B xb n (ours tg W.heap.size) H c d vote x := W2.out.below (HMB.out.symm ▸ b23.out.trans (kp4.below hms (by simp)))
    have BW4 : Below W.heap.size W (((((((((w3.setCell ⟨mb, 0, none⟩ (.int .i64 m.to_)).setCell ⟨mb, 1, none⟩ (.int .i64 m.fr)).setCell ⟨mb, 2, none⟩ (.int .u32 m.b.round)).setCell ⟨mb, 3, none⟩ (.int .u8 m.b.node)).setCell ⟨mb, 4, none⟩ (.string m.v)).setCell ⟨mb, 5, none⟩ (.bool m.a.is)).setCell ⟨mb, 6, none⟩ (.int .u32 m.a.b.round)).setCell ⟨mb, 7, none⟩ (.int .u8 m.a.b.node)).setCell ⟨mb, 8, none⟩ (.string m.a.v)) := BW2.out.trans ((b23.out.trans (kp4.below hms (by simp))).mono (by have := BW2.out.size; have := HMB.out; omega))
    have r4 := row_keep R3.out kp4 (by simp; omega)
    have x4 : (((((((((w3.setCell ⟨mb, 0, none⟩ (.int .i64 m.to_)).setCell ⟨mb, 1, none⟩ (.int .i64 m.fr)).setCell ⟨mb, 2, none⟩ (.int .u32 m.b.round)).setCell ⟨mb, 3, none⟩ (.int .u8 m.b.node)).setCell ⟨mb, 4, none⟩ (.string m.v)).setCell ⟨mb, 5, none⟩ (.bool m.a.is)).setCell ⟨mb, 6, none⟩ (.int .u32 m.a.b.round)).setCell ⟨mb, 7, none⟩ (.int .u8 m.a.b.node)).setCell ⟨mb, 8, none⟩ (.string m.a.v)).heap[mb]? = _ := layM_row M3.out
    clear z0 z1 z2 z3 z4 z5 z6 z7 z8 f0 f1 f2 f3 f4 f5 f6 f7 f8 q0 q1 q2 q3 q4 q5 q6 q7 q8 e0 e1 e2 W3 R3 M3 kp4
    generalize ((((((((w3.setCell ⟨mb, 0, none⟩ (.int .i64 m.to_)).setCell ⟨mb, 1, none⟩ (.int .i64 m.fr)).setCell ⟨mb, 2, none⟩ (.int .u32 m.b.round)).setCell ⟨mb, 3, none⟩ (.int .u8 m.b.node)).setCell ⟨mb, 4, none⟩ (.string m.v)).setCell ⟨mb, 5, none⟩ (.bool m.a.is)).setCell ⟨mb, 6, none⟩ (.int .u32 m.a.b.round)).setCell ⟨mb, 7, none⟩ (.int .u8 m.a.b.node)).setCell ⟨mb, 8, none⟩ (.string m.a.v) = w4 at *
    have e0 := cell_of_row w4 bx 0 _ _ (0, 0) r4
    simp only [List.getElem?_toArray, List.getElem?_cons_zero, List.getElem?_cons_succ] at e0
    have HBW4 := Lib.hid BW4
    clear BW4
    have W4 := Lib.hid hw4; have R4 := Lib.hid r4; have X4 := Lib.hid x4
    clear hw4 r4 x4
    go_upto_region 29 with (fail)
    clear e0
    have hmo : m.Ok n p := W4.out.pt.mok p m (List.mem_of_getElem? HM.out)
    have hto : m.to_ < 3 := by have := hmo.to_; rw [HP5.out] at this; exact this
    have HTO := Lib.hid hto
    have y2 := W4.out.pro
    obtain ⟨ga, pv, ea, _, _, ea2, ea3, _⟩ := owns_cell1 W4.out.pt.sP m.to_ hto
    obtain rfl : H.aP = ga := by simpa using ea
    obtain rfl : pv = .pointer (some ⟨H.hP m.to_, 0, none⟩) := by
      simp only [ptrs, List.getElem?_map, List.getElem?_range hto, Option.map_some, Option.some.injEq] at ea2
      exact ea2.symm
    have htoi : (m.to_ : Int) < 3 := by omega
    have htoi0 : (0 : Int) ≤ (m.to_ : Int) := by omega
    have HMBS : Hid (W.heap.size ≤ mb) := Lib.hid (by have := BW2.out.size; have := HMB.out; omega)
    have HMO := Lib.hid hmo
    clear hmo
    have hw4 := W4.out
    have xl4 := (Array.getElem?_eq_some_iff.1 X4.out).1
    have hga := (owns_blk hw4.pt.sP H.aP (by simp [blk])).2
    obtain ⟨R, hR⟩ : ∃ R : PR, R = prmP n (x.P m.to_) m.fr m.b m.a := ⟨_, rfl⟩
    have HR := Lib.hid hR
    have HPP : Hid (Pr w4 B (H.hP m.to_) (H.gP m.to_) m.to_ n (x.P m.to_)) := Lib.hid (hw4.pt.pro m.to_ hto).1
    have CALL : Hid (∀ w', Below w4.heap.size w4 w' → Calls Try.prog 14 #[.pointer (some ⟨H.hP m.to_, 0, none⟩), .int .i64 m.fr, m.b.ag, m.a.ag] w' fun e w'' => e = .returned (.tuple #[.string R.v, .bool R.ok]) ∧ Pr w'' B (H.hP m.to_) (H.gP m.to_) m.to_ n R.s ∧ Keep [H.hP m.to_, H.gP m.to_] w' w'') := Lib.hid (fun w' bl => by
      rw [HR.out]
      exact promise_any (b := m.b) (a := m.a) m.fr (by have := HMO.out.fr; simp [Lit.wf, IntKind.min, IntKind.max, IntKind.signed, IntKind.bits]; omega) HMO.out.bok HMO.out.avz w' (HPP.out.below bl))
    have HL : Hid (Holds w4 [(⟨xb, 1, none⟩, .slice (some ⟨H.aP, 0, none⟩) 3 H.cP), (⟨mb, 0, none⟩, .int .i64 (m.to_ : Int)), (⟨H.aP, m.to_, none⟩, .pointer (some ⟨H.hP m.to_, 0, none⟩)), (⟨mb, 1, none⟩, .int .i64 m.fr), (⟨mb, 2, none⟩, .int .u32 m.b.round), (⟨mb, 3, none⟩, .int .u8 m.b.node), (⟨mb, 5, none⟩, .bool m.a.is), (⟨mb, 6, none⟩, .int .u32 m.a.b.round), (⟨mb, 7, none⟩, .int .u8 m.a.b.node), (⟨mb, 8, none⟩, .string m.a.v)]) := Lib.hid (.cons hw4.pro hw4.lt (.cons (cell_of_row w4 mb 0 _ _ (0, 0) X4.out) xl4 (.cons ea3 hga (.cons (cell_of_row w4 mb 1 _ _ (0, 0) X4.out) xl4 (.cons (cell_of_row w4 mb 2 _ _ (0, 0) X4.out) xl4 (.cons (cell_of_row w4 mb 3 _ _ (0, 0) X4.out) xl4 (.cons (cell_of_row w4 mb 5 _ _ (0, 0) X4.out) xl4 (.cons (cell_of_row w4 mb 6 _ _ (0, 0) X4.out) xl4 (.cons (cell_of_row w4 mb 7 _ _ (0, 0) X4.out) xl4 (.cons (cell_of_row w4 mb 8 _ _ (0, 0) X4.out) xl4 (.nil _)))))))))))
    have HPN : Hid (∀ p ∈ ([(⟨xb, 1, none⟩, .slice (some ⟨H.aP, 0, none⟩) 3 H.cP), (⟨mb, 0, none⟩, .int .i64 (m.to_ : Int)), (⟨H.aP, m.to_, none⟩, .pointer (some ⟨H.hP m.to_, 0, none⟩)), (⟨mb, 1, none⟩, .int .i64 m.fr), (⟨mb, 2, none⟩, .int .u32 m.b.round), (⟨mb, 3, none⟩, .int .u8 m.b.node), (⟨mb, 5, none⟩, .bool m.a.is), (⟨mb, 6, none⟩, .int .u32 m.a.b.round), (⟨mb, 7, none⟩, .int .u8 m.a.b.node), (⟨mb, 8, none⟩, .string m.a.v)] : List (Addr × Value)), p.1.block ∉ [H.hP m.to_, H.gP m.to_]) := Lib.hid (by
      have t1 := hw4.xt
      have t2 := hw4.pt.tP
      have t3 : ours tg W.heap.size mb = 4 := ours_ge HMBS.out
      obtain ⟨_, t4, t5⟩ := hw4.pt.pro m.to_ hto
      intro p hp
      have hb : ours tg W.heap.size p.1.block = 0 ∨ ours tg W.heap.size p.1.block = 2 ∨ ours tg W.heap.size p.1.block = 4 := by
        simp only [List.mem_cons, List.not_mem_nil, or_false] at hp
        rcases hp with rfl | rfl | rfl | rfl | rfl | rfl | rfl | rfl | rfl | rfl
        · exact .inl t1
        · exact .inr (.inr t3)
        · exact .inr (.inl t2)
        all_goals exact .inr (.inr t3)
      simp only [List.mem_cons, List.not_mem_nil, or_false]
      rintro (e | e)
      · rw [e, t4] at hb; omega
      · rw [e, t5] at hb; omega)
    clear y2 ea ea2 ea3 xl4 hga hw4 hR hto
    refine wp_region_held_drew (S := fun w' => Holds w' [(⟨xb, 1, none⟩, .slice (some ⟨H.aP, 0, none⟩) 3 H.cP), (⟨mb, 0, none⟩, .int .i64 (m.to_ : Int)), (⟨H.aP, m.to_, none⟩, .pointer (some ⟨H.hP m.to_, 0, none⟩)), (⟨mb, 1, none⟩, .int .i64 m.fr), (⟨mb, 2, none⟩, .int .u32 m.b.round), (⟨mb, 3, none⟩, .int .u8 m.b.node), (⟨mb, 5, none⟩, .bool m.a.is), (⟨mb, 6, none⟩, .int .u32 m.a.b.round), (⟨mb, 7, none⟩, .int .u8 m.a.b.node), (⟨mb, 8, none⟩, .string m.a.v)]) (by kernel_rfl) (HL.out.drew) (fun s0 => ?_)
    have KP : Hid (Keep [H.hP m.to_, H.gP m.to_] w4 w4.drew) := Lib.hid (Keep.of_below (Below.refl _ _).drew _)
    have BE : Hid (Below w4.heap.size w4 w4.drew) := Lib.hid (Below.refl _ _).drew
    have SS := Lib.hid s0
    clear s0
    generalize w4.drew = v0 at *
    refine wpAnyH_take (i := 0) (v := .pointer (some ⟨xb, 0, none⟩)) rfl (by kernel_rfl) (by kernel_rfl) (by kernel_rfl) (fun _ _ _ h => h) (Or.inl ⟨by rfl, fun w' hw' => by go_simp⟩) SS.out ?_
    try simp only [Act.put, List.getElem_toArray, List.getElem_cons_succ, List.getElem_cons_zero, List.setIfInBounds_toArray, List.set_cons_zero, List.set_cons_succ, Nat.zero_add, List.nil_append]
    refine wpAnyH_take (i := 1) (v := .pointer (some ⟨xb, 0, none⟩)) rfl (by kernel_rfl) (by kernel_rfl) (by kernel_rfl) (fun _ _ _ h => h) (Or.inl ⟨by rfl, fun w' hw' => by go_simp⟩) SS.out ?_
    try simp only [Act.put, List.getElem_toArray, List.getElem_cons_succ, List.getElem_cons_zero, List.setIfInBounds_toArray, List.set_cons_zero, List.set_cons_succ, Nat.zero_add, List.nil_append]
    refine wpAnyH_take (i := 2) (v := .pointer (some ⟨xb, 1, none⟩)) rfl (by kernel_rfl) (by kernel_rfl) (by kernel_rfl) (fun _ _ _ h => h) (Or.inl ⟨by rfl, fun w' hw' => by go_simp⟩) SS.out ?_
    try simp only [Act.put, List.getElem_toArray, List.getElem_cons_succ, List.getElem_cons_zero, List.setIfInBounds_toArray, List.set_cons_zero, List.set_cons_succ, Nat.zero_add, List.nil_append]
    refine wpAnyH_take (i := 3) (v := .slice (some ⟨H.aP, 0, none⟩) 3 H.cP) rfl (by kernel_rfl) (by kernel_rfl) (by kernel_rfl) (fun _ _ _ h => h) (Or.inl ⟨by rfl, fun w' hw' => by have q0 := hw'.head; have q1 := hw'.tail.head; have q2 := hw'.tail.tail.head; have q3 := hw'.tail.tail.tail.head; have q4 := hw'.tail.tail.tail.tail.head; have q5 := hw'.tail.tail.tail.tail.tail.head; have q6 := hw'.tail.tail.tail.tail.tail.tail.head; have q7 := hw'.tail.tail.tail.tail.tail.tail.tail.head; have q8 := hw'.tail.tail.tail.tail.tail.tail.tail.tail.head; have q9 := hw'.tail.tail.tail.tail.tail.tail.tail.tail.tail.head; go_simp⟩) SS.out ?_
    try simp only [Act.put, List.getElem_toArray, List.getElem_cons_succ, List.getElem_cons_zero, List.setIfInBounds_toArray, List.set_cons_zero, List.set_cons_succ, Nat.zero_add, List.nil_append]
    refine wpAnyH_take (i := 4) (v := .pointer (some ⟨mb, 0, none⟩)) rfl (by kernel_rfl) (by kernel_rfl) (by kernel_rfl) (fun _ _ _ h => h) (Or.inl ⟨by rfl, fun w' hw' => by go_simp⟩) SS.out ?_
    try simp only [Act.put, List.getElem_toArray, List.getElem_cons_succ, List.getElem_cons_zero, List.setIfInBounds_toArray, List.set_cons_zero, List.set_cons_succ, Nat.zero_add, List.nil_append]
    refine wpAnyH_take (i := 5) (v := .int .i64 (m.to_ : Int)) rfl (by kernel_rfl) (by kernel_rfl) (by kernel_rfl) (fun _ _ _ h => h) (Or.inl ⟨by rfl, fun w' hw' => by have q0 := hw'.head; have q1 := hw'.tail.head; have q2 := hw'.tail.tail.head; have q3 := hw'.tail.tail.tail.head; have q4 := hw'.tail.tail.tail.tail.head; have q5 := hw'.tail.tail.tail.tail.tail.head; have q6 := hw'.tail.tail.tail.tail.tail.tail.head; have q7 := hw'.tail.tail.tail.tail.tail.tail.tail.head; have q8 := hw'.tail.tail.tail.tail.tail.tail.tail.tail.head; have q9 := hw'.tail.tail.tail.tail.tail.tail.tail.tail.tail.head; go_simp⟩) SS.out ?_
    try simp only [Act.put, List.getElem_toArray, List.getElem_cons_succ, List.getElem_cons_zero, List.setIfInBounds_toArray, List.set_cons_zero, List.set_cons_succ, Nat.zero_add, List.nil_append]
    refine wpAnyH_take (i := 6) (v := .pointer (some ⟨H.aP, m.to_, none⟩)) rfl (by kernel_rfl) (by kernel_rfl) (by kernel_rfl) (fun _ _ _ h => h) (Or.inl ⟨by rfl, fun w' hw' => by go_simp⟩) SS.out ?_
    try simp only [Act.put, List.getElem_toArray, List.getElem_cons_succ, List.getElem_cons_zero, List.setIfInBounds_toArray, List.set_cons_zero, List.set_cons_succ, Nat.zero_add, List.nil_append]
    refine wpAnyH_take (i := 7) (v := .pointer (some ⟨H.hP m.to_, 0, none⟩)) rfl (by kernel_rfl) (by kernel_rfl) (by kernel_rfl) (fun _ _ _ h => h) (Or.inl ⟨by rfl, fun w' hw' => by have q0 := hw'.head; have q1 := hw'.tail.head; have q2 := hw'.tail.tail.head; have q3 := hw'.tail.tail.tail.head; have q4 := hw'.tail.tail.tail.tail.head; have q5 := hw'.tail.tail.tail.tail.tail.head; have q6 := hw'.tail.tail.tail.tail.tail.tail.head; have q7 := hw'.tail.tail.tail.tail.tail.tail.tail.head; have q8 := hw'.tail.tail.tail.tail.tail.tail.tail.tail.head; have q9 := hw'.tail.tail.tail.tail.tail.tail.tail.tail.tail.head; go_simp⟩) SS.out ?_
    try simp only [Act.put, List.getElem_toArray, List.getElem_cons_succ, List.getElem_cons_zero, List.setIfInBounds_toArray, List.set_cons_zero, List.set_cons_succ, Nat.zero_add, List.nil_append]
    refine wpAnyH_take (i := 8) (v := .pointer (some ⟨mb, 1, none⟩)) rfl (by kernel_rfl) (by kernel_rfl) (by kernel_rfl) (fun _ _ _ h => h) (Or.inl ⟨by rfl, fun w' hw' => by go_simp⟩) SS.out ?_
    try simp only [Act.put, List.getElem_toArray, List.getElem_cons_succ, List.getElem_cons_zero, List.setIfInBounds_toArray, List.set_cons_zero, List.set_cons_succ, Nat.zero_add, List.nil_append]
    refine wpAnyH_take (i := 9) (v := .int .i64 m.fr) rfl (by kernel_rfl) (by kernel_rfl) (by kernel_rfl) (fun _ _ _ h => h) (Or.inl ⟨by rfl, fun w' hw' => by have q0 := hw'.head; have q1 := hw'.tail.head; have q2 := hw'.tail.tail.head; have q3 := hw'.tail.tail.tail.head; have q4 := hw'.tail.tail.tail.tail.head; have q5 := hw'.tail.tail.tail.tail.tail.head; have q6 := hw'.tail.tail.tail.tail.tail.tail.head; have q7 := hw'.tail.tail.tail.tail.tail.tail.tail.head; have q8 := hw'.tail.tail.tail.tail.tail.tail.tail.tail.head; have q9 := hw'.tail.tail.tail.tail.tail.tail.tail.tail.tail.head; go_simp⟩) SS.out ?_
    try simp only [Act.put, List.getElem_toArray, List.getElem_cons_succ, List.getElem_cons_zero, List.setIfInBounds_toArray, List.set_cons_zero, List.set_cons_succ, Nat.zero_add, List.nil_append]
    refine wpAnyH_take (i := 10) (v := .pointer (some ⟨mb, 2, none⟩)) rfl (by kernel_rfl) (by kernel_rfl) (by kernel_rfl) (fun _ _ _ h => h) (Or.inl ⟨by rfl, fun w' hw' => by go_simp⟩) SS.out ?_
    try simp only [Act.put, List.getElem_toArray, List.getElem_cons_succ, List.getElem_cons_zero, List.setIfInBounds_toArray, List.set_cons_zero, List.set_cons_succ, Nat.zero_add, List.nil_append]
    refine wpAnyH_take (i := 11) (v := m.b.ag) rfl (by kernel_rfl) (by kernel_rfl) (by kernel_rfl) (fun _ _ _ h => h) (Or.inl ⟨by rfl, fun w' hw' => by have q0 := hw'.head; have q1 := hw'.tail.head; have q2 := hw'.tail.tail.head; have q3 := hw'.tail.tail.tail.head; have q4 := hw'.tail.tail.tail.tail.head; have q5 := hw'.tail.tail.tail.tail.tail.head; have q6 := hw'.tail.tail.tail.tail.tail.tail.head; have q7 := hw'.tail.tail.tail.tail.tail.tail.tail.head; have q8 := hw'.tail.tail.tail.tail.tail.tail.tail.tail.head; have q9 := hw'.tail.tail.tail.tail.tail.tail.tail.tail.tail.head; go_simp⟩) SS.out ?_
    try simp only [Act.put, List.getElem_toArray, List.getElem_cons_succ, List.getElem_cons_zero, List.setIfInBounds_toArray, List.set_cons_zero, List.set_cons_succ, Nat.zero_add, List.nil_append]
    refine wpAnyH_take (i := 12) (v := .pointer (some ⟨mb, 5, none⟩)) rfl (by kernel_rfl) (by kernel_rfl) (by kernel_rfl) (fun _ _ _ h => h) (Or.inl ⟨by rfl, fun w' hw' => by go_simp⟩) SS.out ?_
    try simp only [Act.put, List.getElem_toArray, List.getElem_cons_succ, List.getElem_cons_zero, List.setIfInBounds_toArray, List.set_cons_zero, List.set_cons_succ, Nat.zero_add, List.nil_append]
    refine wpAnyH_take (i := 13) (v := m.a.ag) rfl (by kernel_rfl) (by kernel_rfl) (by kernel_rfl) (fun _ _ _ h => h) (Or.inl ⟨by rfl, fun w' hw' => by have q0 := hw'.head; have q1 := hw'.tail.head; have q2 := hw'.tail.tail.head; have q3 := hw'.tail.tail.tail.head; have q4 := hw'.tail.tail.tail.tail.head; have q5 := hw'.tail.tail.tail.tail.tail.head; have q6 := hw'.tail.tail.tail.tail.tail.tail.head; have q7 := hw'.tail.tail.tail.tail.tail.tail.tail.head; have q8 := hw'.tail.tail.tail.tail.tail.tail.tail.tail.head; have q9 := hw'.tail.tail.tail.tail.tail.tail.tail.tail.tail.head; go_simp⟩) SS.out ?_
    try simp only [Act.put, List.getElem_toArray, List.getElem_cons_succ, List.getElem_cons_zero, List.setIfInBounds_toArray, List.set_cons_zero, List.set_cons_succ, Nat.zero_add, List.nil_append]
    refine wpAnyH_ready (rs := [14]) (by kernel_rfl) (by simp) ?_
    refine AllReadyH.cons rfl (fun K hK => ?_) AllReadyH.nil
    go_simp
    refine (CALL.out v0 BE.out).mono ?_
    rintro e v1 ⟨rfl, po, kk⟩
    have SS : Hid (Holds v1 [(⟨xb, 1, none⟩, .slice (some ⟨H.aP, 0, none⟩) 3 H.cP), (⟨mb, 0, none⟩, .int .i64 (m.to_ : Int)), (⟨H.aP, m.to_, none⟩, .pointer (some ⟨H.hP m.to_, 0, none⟩)), (⟨mb, 1, none⟩, .int .i64 m.fr), (⟨mb, 2, none⟩, .int .u32 m.b.round), (⟨mb, 3, none⟩, .int .u8 m.b.node), (⟨mb, 5, none⟩, .bool m.a.is), (⟨mb, 6, none⟩, .int .u32 m.a.b.round), (⟨mb, 7, none⟩, .int .u8 m.a.b.node), (⟨mb, 8, none⟩, .string m.a.v)]) := Lib.hid (SS.out.keep kk HPN.out)
    have PO := Lib.hid po
    have KP : Hid (Keep [H.hP m.to_, H.gP m.to_] w4 v1) := Lib.hid (KP.out.trans kk)
    clear po kk
    refine hK.out _ _ SS.out (fun _ => ?_)
    clear hK K
    try simp only [Act.put, List.getElem_toArray, List.getElem_cons_succ, List.getElem_cons_zero, List.setIfInBounds_toArray, List.set_cons_zero, List.set_cons_succ, Nat.zero_add, List.nil_append]
    refine wpAnyH_take (i := 15) (v := .tuple #[.string R.v, .bool R.ok]) rfl (by kernel_rfl) (by kernel_rfl) (by kernel_rfl) (fun _ _ _ h => h) (Or.inl ⟨by rfl, fun w' hw' => by go_simp⟩) SS.out ?_
    try simp only [Act.put, List.getElem_toArray, List.getElem_cons_succ, List.getElem_cons_zero, List.setIfInBounds_toArray, List.set_cons_zero, List.set_cons_succ, Nat.zero_add, List.nil_append]
    refine wpAnyH_take (i := 16) (v := .string R.v) rfl (by kernel_rfl) (by kernel_rfl) (by kernel_rfl) (fun _ _ _ h => h) (Or.inl ⟨by rfl, fun w' hw' => by go_simp⟩) SS.out ?_
    try simp only [Act.put, List.getElem_toArray, List.getElem_cons_succ, List.getElem_cons_zero, List.setIfInBounds_toArray, List.set_cons_zero, List.set_cons_succ, Nat.zero_add, List.nil_append]
    refine wpAnyH_take (i := 17) (v := .bool R.ok) rfl (by kernel_rfl) (by kernel_rfl) (by kernel_rfl) (fun _ _ _ h => h) (Or.inl ⟨by rfl, fun w' hw' => by go_simp⟩) SS.out ?_
    try simp only [Act.put, List.getElem_toArray, List.getElem_cons_succ, List.getElem_cons_zero, List.setIfInBounds_toArray, List.set_cons_zero, List.set_cons_succ, Nat.zero_add, List.nil_append]
    refine wpAnyH_take (i := 18) (v := .string R.v) rfl (by kernel_rfl) (by kernel_rfl) (by kernel_rfl) (fun _ _ _ h => h) (Or.inl ⟨by rfl, fun w' hw' => by go_simp⟩) SS.out ?_
    try simp only [Act.put, List.getElem_toArray, List.getElem_cons_succ, List.getElem_cons_zero, List.setIfInBounds_toArray, List.set_cons_zero, List.set_cons_succ, Nat.zero_add, List.nil_append]
    refine wpAnyH_take (i := 19) (v := .bool R.ok) rfl (by kernel_rfl) (by kernel_rfl) (by kernel_rfl) (fun _ _ _ h => h) (Or.inl ⟨by rfl, fun w' hw' => by go_simp⟩) SS.out ?_
    try simp only [Act.put, List.getElem_toArray, List.getElem_cons_succ, List.getElem_cons_zero, List.setIfInBounds_toArray, List.set_cons_zero, List.set_cons_succ, Nat.zero_add, List.nil_append]
    refine wpAnyH_done (by kernel_rfl) ?_ _
    clear SS BE
    obtain ⟨w6, hw6e⟩ : ∃ q, q = v1 := ⟨_, rfl⟩
    rw [← hw6e] at PO KP ⊢
    clear hw6e
    have k6 := KP.out
    have l6 := PO.out
    have HW5 := W4
    have HB5 : Hid (Below w4.heap.size w4 w4) := Lib.hid (Below.refl _ _)
    have hB : B ≤ W.heap.size := by have := H0.out.base; have := H0.out.lt; omega
    have hw6 := HW5.out.prop HTO.out k6 _ l6
    have HTR := Lib.hid ((Trn.below (below_next HBW4.out HB5.out) hB).trans (HW5.out.trn_prop HTO.out k6))
    have HMB4 : Hid (ours tg W.heap.size mb = 4) := Lib.hid (ours_ge HMBS.out)
    have X6 : Hid (w6.heap[mb]? = _) := Lib.hid ((HW5.out.trn_prop HTO.out k6).row (row_keep X4.out (Keep.of_below HB5.out []) (by simp)) HMB4.out).1
    obtain ⟨kk, HSAY⟩ : ∃ kk, Hid (x.Say n m kk) := by
      have hm4 : m ∈ x.m4 := by
        have := List.mem_of_getElem? HM.out
        rw [HP5.out] at this
        exact this
      obtain ⟨kk, h1⟩ := hin.say m hm4
      exact ⟨kk, Lib.hid h1⟩
    obtain ⟨x2, hx2⟩ : ∃ q : PX, ({x with P := upP x.P m.to_ R.s} : PX) = q := ⟨_, rfl⟩
    rw [hx2] at hw6
    have HX2 := Lib.hid hx2
    have W6 := Lib.hid hw6
    clear hw6 hx2 l6 k6 KP PO CALL HL HPN
    obtain ⟨rs, rv, rok⟩ := R
    by_cases hok : rok = true
    · subst hok
      obtain ⟨mk, hmk⟩ : ∃ mk : Nat → Mg, mk = fun k => ⟨k, (m.to_ : Int), m.b, rv, a0⟩ := ⟨_, rfl⟩
      have HMK : Hid (∀ k, mk k = ⟨k, (m.to_ : Int), m.b, rv, a0⟩) := Lib.hid (fun k => by rw [hmk])
      clear hmk
      have HRV : Hid (rv.size ≤ 281474976710656) := Lib.hid (by
        have hp := (HW5.out.pt.pro m.to_ HTO.out).1
        have hr := HR.out
        unfold prmP at hr
        split at hr
        · split at hr
          · simp only [PR.mk.injEq] at hr
            rw [hr.2.1]
            rcases wg_cases (x.P m.to_).best m.a with ⟨_, e, _⟩ | ⟨_, e, _⟩
            · rw [e]; exact HMO.out.avz
            · rw [e]; exact hp.vok
          · simp only [PR.mk.injEq] at hr; exact absurd hr.2.2 (by decide)
        · simp only [PR.mk.injEq] at hr; exact absurd hr.2.2 (by decide))
      go_wp2_with fail
      go_loopw [21] (fun v21 wr => ∃ k : Nat, v21 = .int .i64 (k : Int) ∧ k ≤ n ∧ ∃ tg' H', WdW wr B xb n tg' H' c (d + k) vote (x2.adds 3 ((List.range k).map mk)) ∧ Trn B (ours tg W.heap.size) tg' w6 wr) (fun v21 _ => n - (intOf v21).toNat)
      case atStart => exact ⟨0, rfl, Nat.zero_le _, _, _, by rw [List.range_zero, List.map_nil, PX.adds_nil]; exact W6.out, Trn.refl _ _ _⟩
      case round =>
        obtain ⟨k, rfl, hk, tg', H', hw, ht⟩ := hrel
        by_cases hkn : k < n
        · have hki : (k : Int) < (n : Int) := by omega
          go_upto_region 33 with (fail)
          obtain ⟨hrowm, htm⟩ := ht.row X6.out HMB4.out
          have ZB : Hid (WdW wr B xb n tg' H' c (d + k) vote (x2.adds 3 ((List.range k).map mk))) := Lib.hid hw
          have HT := Lib.hid ht
          have hrlm := (Array.getElem?_eq_some_iff.1 hrowm).1
          have HL : Hid (Holds wr [(⟨mb, 0, none⟩, .int .i64 (m.to_ : Int)), (⟨mb, 2, none⟩, .int .u32 m.b.round), (⟨mb, 3, none⟩, .int .u8 m.b.node)]) := Lib.hid (.cons (cell_of_row wr mb 0 _ _ (0, 0) hrowm) hrlm (.cons (cell_of_row wr mb 2 _ _ (0, 0) hrowm) hrlm (.cons (cell_of_row wr mb 3 _ _ (0, 0) hrowm) hrlm (.nil _))))
          have HLO : Hid (∀ p ∈ ([(⟨mb, 0, none⟩, .int .i64 (m.to_ : Int)), (⟨mb, 2, none⟩, .int .u32 m.b.round), (⟨mb, 3, none⟩, .int .u8 m.b.node)] : List (Addr × Value)), tg' p.1.block = 4 ∨ tg' p.1.block = 0) := Lib.hid (by
            intro p hp
            simp only [List.mem_cons, List.not_mem_nil, or_false] at hp
            rcases hp with rfl | rfl | rfl <;> exact .inl htm)
          have HN0 : Hid (mb ≠ xb) := Lib.hid (fun e => by have := hw.xt; rw [← e, htm] at this; omega)
          have DB : Hid (d + k ≤ 20000) := Lib.hid (by omega)
          have HMOK : Hid ((⟨k, (m.to_ : Int), m.b, rv, a0⟩ : Mg).Ok n 3) := Lib.hid ⟨hkn, ⟨show (-1 : Int) ≤ m.to_ by omega, show (m.to_ : Int) < 5 by omega⟩, fun _ => htoi0, fun h => absurd h (by decide), HMO.out.bok, HRV.out, b0_ok, Nat.zero_le _⟩
          obtain ⟨xk, hxk⟩ : ∃ q : PX, x2.adds 3 ((List.range k).map mk) = q := ⟨_, rfl⟩
          rw [hxk] at ZB
          have HXK := Lib.hid hxk
          clear hw ht hrowm htm hrlm hxk
          obtain ⟨so, hso⟩ : ∃ q, H'.sl 3 = q := ⟨_, rfl⟩
          obtain ⟨sn, hsn⟩ : ∃ q, ((xk).ms 3).length = q := ⟨_, rfl⟩
          obtain ⟨sc, hsc⟩ : ∃ q, H'.cap 3 = q := ⟨_, rfl⟩
          have HSO := Lib.hid hso; have HSN := Lib.hid hsn; have HSC := Lib.hid hsc
          clear hso hsn hsc
          obtain ⟨i0, hi0, hz0, hz1, hz2⟩ := info_parts sent_info
          have HI := Lib.hid hi0; have HZ0 := Lib.hid hz0; have HZ1 := Lib.hid hz1; have HZ2 := Lib.hid hz2
          clear hi0 hz0 hz1 hz2
          have HBz : Hid (B ≤ wr.heap.size) := Lib.hid (by have := ZB.out.base; have := ZB.out.lt; omega)
          refine wp_region_held_drew (S := fun w' => Holds w' [(⟨mb, 0, none⟩, .int .i64 (m.to_ : Int)), (⟨mb, 2, none⟩, .int .u32 m.b.round), (⟨mb, 3, none⟩, .int .u8 m.b.node)]) (by kernel_rfl) (HL.out.drew) (fun s0 => ?_)
          have BD : Hid (Below wr.heap.size wr wr.drew) := Lib.hid (Below.refl _ _).drew
          generalize wr.drew = wd at *
          have y0 := ((ZB.out.below BD.out).list (by omega) (by omega) HSO.out HSN.out HSC.out).2.1
          have HXL : Hid (xb < wd.heap.size) := Lib.hid (Nat.lt_of_lt_of_le ZB.out.lt BD.out.size)
          refine wpAnyH_take (i := 0) (v := .pointer (some ⟨xb, 0, none⟩)) rfl (by kernel_rfl) (by kernel_rfl) (by kernel_rfl) (fun _ _ _ h => h) (Or.inl ⟨by rfl, fun w' hw' => by go_simp⟩) s0 ?_
          try simp only [Act.put, List.getElem_toArray, List.getElem_cons_succ, List.getElem_cons_zero, List.setIfInBounds_toArray, List.set_cons_zero, List.set_cons_succ, Nat.zero_add, List.nil_append]
          refine wpAnyH_take (i := 1) (v := .pointer (some ⟨xb, 0, none⟩)) rfl (by kernel_rfl) (by kernel_rfl) (by kernel_rfl) (fun _ _ _ h => h) (Or.inl ⟨by rfl, fun w' hw' => by go_simp⟩) s0 ?_
          try simp only [Act.put, List.getElem_toArray, List.getElem_cons_succ, List.getElem_cons_zero, List.setIfInBounds_toArray, List.set_cons_zero, List.set_cons_succ, Nat.zero_add, List.nil_append]
          refine wpAnyH_take (i := 2) (v := .pointer (some ⟨xb, 0, none⟩)) rfl (by kernel_rfl) (by kernel_rfl) (by kernel_rfl) (fun _ _ _ h => h) (Or.inl ⟨by rfl, fun w' hw' => by go_simp⟩) s0 ?_
          try simp only [Act.put, List.getElem_toArray, List.getElem_cons_succ, List.getElem_cons_zero, List.setIfInBounds_toArray, List.set_cons_zero, List.set_cons_succ, Nat.zero_add, List.nil_append]
          refine wpAnyH_take (i := 3) (v := .pointer (some ⟨xb, 5, none⟩)) rfl (by kernel_rfl) (by kernel_rfl) (by kernel_rfl) (fun _ _ _ h => h) (Or.inl ⟨by rfl, fun w' hw' => by go_simp⟩) s0 ?_
          try simp only [Act.put, List.getElem_toArray, List.getElem_cons_succ, List.getElem_cons_zero, List.setIfInBounds_toArray, List.set_cons_zero, List.set_cons_succ, Nat.zero_add, List.nil_append]
          refine wpAnyH_take (i := 4) (v := .pointer (some ⟨xb, 8, none⟩)) rfl (by kernel_rfl) (by kernel_rfl) (by kernel_rfl) (fun _ _ _ h => h) (Or.inl ⟨by rfl, fun w' hw' => by go_simp⟩) s0 ?_
          try simp only [Act.put, List.getElem_toArray, List.getElem_cons_succ, List.getElem_cons_zero, List.setIfInBounds_toArray, List.set_cons_zero, List.set_cons_succ, Nat.zero_add, List.nil_append]
          refine wpAnyH_take (i := 6) (v := .int .i64 (k : Int)) rfl (by kernel_rfl) (by kernel_rfl) (by kernel_rfl) (fun _ _ _ h => h) (Or.inl ⟨by rfl, fun w' hw' => by go_simp⟩) s0 ?_
          try simp only [Act.put, List.getElem_toArray, List.getElem_cons_succ, List.getElem_cons_zero, List.setIfInBounds_toArray, List.set_cons_zero, List.set_cons_succ, Nat.zero_add, List.nil_append]
          refine wpAnyH_take (i := 7) (v := .pointer (some ⟨mb, 0, none⟩)) rfl (by kernel_rfl) (by kernel_rfl) (by kernel_rfl) (fun _ _ _ h => h) (Or.inl ⟨by rfl, fun w' hw' => by go_simp⟩) s0 ?_
          try simp only [Act.put, List.getElem_toArray, List.getElem_cons_succ, List.getElem_cons_zero, List.setIfInBounds_toArray, List.set_cons_zero, List.set_cons_succ, Nat.zero_add, List.nil_append]
          refine wpAnyH_take (i := 8) (v := .int .i64 (m.to_ : Int)) rfl (by kernel_rfl) (by kernel_rfl) (by kernel_rfl) (fun _ _ _ h => h) (Or.inl ⟨by rfl, fun w' hw' => by have q0 := hw'.head; have q1 := hw'.tail.head; have q2 := hw'.tail.tail.head; go_simp⟩) s0 ?_
          try simp only [Act.put, List.getElem_toArray, List.getElem_cons_succ, List.getElem_cons_zero, List.setIfInBounds_toArray, List.set_cons_zero, List.set_cons_succ, Nat.zero_add, List.nil_append]
          refine wpAnyH_take (i := 9) (v := .pointer (some ⟨mb, 2, none⟩)) rfl (by kernel_rfl) (by kernel_rfl) (by kernel_rfl) (fun _ _ _ h => h) (Or.inl ⟨by rfl, fun w' hw' => by go_simp⟩) s0 ?_
          try simp only [Act.put, List.getElem_toArray, List.getElem_cons_succ, List.getElem_cons_zero, List.setIfInBounds_toArray, List.set_cons_zero, List.set_cons_succ, Nat.zero_add, List.nil_append]
          refine wpAnyH_take (i := 10) (v := .agg #[.int .u32 m.b.round, .int .u8 m.b.node]) rfl (by kernel_rfl) (by kernel_rfl) (by kernel_rfl) (fun _ _ _ h => h) (Or.inl ⟨by rfl, fun w' hw' => by have q0 := hw'.head; have q1 := hw'.tail.head; have q2 := hw'.tail.tail.head; go_simp⟩) s0 ?_
          try simp only [Act.put, List.getElem_toArray, List.getElem_cons_succ, List.getElem_cons_zero, List.setIfInBounds_toArray, List.set_cons_zero, List.set_cons_succ, Nat.zero_add, List.nil_append]
          refine wpAnyH_take (i := 11) (v := .string rv) rfl (by kernel_rfl) (by kernel_rfl) (by kernel_rfl) (fun _ _ _ h => h) (Or.inl ⟨by rfl, fun w' hw' => by go_simp⟩) s0 ?_
          try simp only [Act.put, List.getElem_toArray, List.getElem_cons_succ, List.getElem_cons_zero, List.setIfInBounds_toArray, List.set_cons_zero, List.set_cons_succ, Nat.zero_add, List.nil_append]
          refine wpAnyH_take (i := 12) (v := .agg #[.int .i64 (k : Int), .int .i64 (m.to_ : Int), .int .u32 m.b.round, .int .u8 m.b.node, .string rv, .bool false, .int .u32 0, .int .u8 0, .string ⟨#[]⟩]) rfl (by kernel_rfl) (by kernel_rfl) (by kernel_rfl) (fun _ _ _ h => h) (Or.inl ⟨by rfl, fun w' hw' => by go_simp⟩) s0 ?_
          try simp only [Act.put, List.getElem_toArray, List.getElem_cons_succ, List.getElem_cons_zero, List.setIfInBounds_toArray, List.set_cons_zero, List.set_cons_succ, Nat.zero_add, List.nil_append]
          refine wpAnyH_take (i := 15) (v := .pointer (some ⟨xb, 0, none⟩)) rfl (by kernel_rfl) (by kernel_rfl) (by kernel_rfl) (fun _ _ _ h => h) (Or.inl ⟨by rfl, fun w' hw' => by go_simp⟩) s0 ?_
          try simp only [Act.put, List.getElem_toArray, List.getElem_cons_succ, List.getElem_cons_zero, List.setIfInBounds_toArray, List.set_cons_zero, List.set_cons_succ, Nat.zero_add, List.nil_append]
          refine wpAnyH_take (i := 16) (v := .pointer (some ⟨xb, 5, none⟩)) rfl (by kernel_rfl) (by kernel_rfl) (by kernel_rfl) (fun _ _ _ h => h) (Or.inl ⟨by rfl, fun w' hw' => by go_simp⟩) s0 ?_
          try simp only [Act.put, List.getElem_toArray, List.getElem_cons_succ, List.getElem_cons_zero, List.setIfInBounds_toArray, List.set_cons_zero, List.set_cons_succ, Nat.zero_add, List.nil_append]
          refine wpAnyH_ready (rs := [5, 13]) (by kernel_rfl) (by simp) ?_
          refine AllReadyH.cons rfl (fun K hK => ?_) (AllReadyH.cons rfl (fun K hK => ?_) AllReadyH.nil)
          · skip
            rw [if_pos (by rfl)]
            go_simp
            refine hK.out _ _ s0 (fun _ => ?_)
            clear hK K
            try simp only [Act.put, List.getElem_toArray, List.getElem_cons_succ, List.getElem_cons_zero, List.setIfInBounds_toArray, List.set_cons_zero, List.set_cons_succ, Nat.zero_add, List.nil_append]
            refine wpAnyH_ready (rs := [13]) (by kernel_rfl) (by simp) ?_
            refine AllReadyH.cons rfl (fun K hK => ?_) AllReadyH.nil
            rw [if_pos (by rfl)]
            go_simp
            have b1 : Below wd.heap.size wd (wd.alloc (.cells #[.int .i64 (k : Int), .int .i64 (m.to_ : Int), .int .u32 m.b.round, .int .u8 m.b.node, .string rv, .bool false, .int .u32 0, .int .u8 0, .string ⟨#[]⟩] 105)) := below_alloc (Below.refl _ _) _
            have r1 := heap_alloc_new wd (.cells #[.int .i64 (k : Int), .int .i64 (m.to_ : Int), .int .u32 m.b.round, .int .u8 m.b.node, .string rv, .bool false, .int .u32 0, .int .u8 0, .string ⟨#[]⟩] 105)
            have y1 := (b1.cell (p := ⟨xb, 8, none⟩) HXL.out).trans y0
            have s1 := s0.below b1
            generalize wd.alloc (.cells #[.int .i64 (k : Int), .int .i64 (m.to_ : Int), .int .u32 m.b.round, .int .u8 m.b.node, .string rv, .bool false, .int .u32 0, .int .u8 0, .string ⟨#[]⟩] 105) = v1 at *
            obtain ⟨nb, hnb⟩ : ∃ q, q = wd.heap.size := ⟨_, rfl⟩
            rw [← hnb] at r1 ⊢
            have BV := Lib.hid (BD.out.trans (b1.mono BD.out.size))
            have R1 := Lib.hid r1
            clear b1 r1 hnb
            refine hK.out _ _ s1 (fun _ => ?_)
            clear hK K
            try simp only [Act.put, List.getElem_toArray, List.getElem_cons_succ, List.getElem_cons_zero, List.setIfInBounds_toArray, List.set_cons_zero, List.set_cons_succ, Nat.zero_add, List.nil_append]
            refine wpAnyH_ready (rs := [14]) (by kernel_rfl) (by simp) ?_
            refine AllReadyH.cons rfl (fun K hK => ?_) AllReadyH.nil
            rw [if_pos (by rfl)]
            have lst := (ZB.out.below BV.out).list (by omega) (by omega) HSO.out HSN.out HSC.out
            refine wp_append_lies _ (.tmp 257) (.tmp 265) 63 rfl B 105 i0 _ 9 72 Try.underlying63 HI.out HZ0.out HZ1.out HZ2.out rfl (by decide) (.slice so sn sc) sn (fl cM ((xk).ms 3)) rfl lst.1 ⟨nb, 0, none⟩ 1 1 (cM ⟨k, (m.to_ : Int), m.b, rv, a0⟩) rfl rfl (news_cM R1.out) (cM_one _) (by decide) (by have := lst.2.2.2.1; have := DB.out; unfold maxLen; omega) (by have := lst.2.2.2.1; have := DB.out; omega) (Nat.le_trans HBz.out BV.out.size) _ rfl ?_
            intro ga ca v3 own3 gr3 at3 lt3
            obtain ⟨PU, kg, z0, z1⟩ := ZB.out.push (by omega) (by omega) HSO.out HSN.out HSC.out HMOK.out BV.out own3 gr3 at3
            have s3 := s1.keep kg (fun p hp => by rw [← HSO.out]; exact ZB.out.src_not (by omega) (by omega) (HLO.out p hp))
            have PU := Lib.hid PU
            clear own3 gr3 at3 lt3 kg lst y1
            refine hK.out _ _ s3 (fun _ => ?_)
            clear hK K
            try simp only [Act.put, List.getElem_toArray, List.getElem_cons_succ, List.getElem_cons_zero, List.setIfInBounds_toArray, List.set_cons_zero, List.set_cons_succ, Nat.zero_add, List.nil_append]
            refine wpAnyH_take (i := 17) (v := .pointer (some ⟨xb, 8, none⟩)) rfl (by kernel_rfl) (by kernel_rfl) (by kernel_rfl) (fun _ _ _ h => h) (Or.inl ⟨by rfl, fun w' hw' => by go_simp⟩) s3 ?_
            try simp only [Act.put, List.getElem_toArray, List.getElem_cons_succ, List.getElem_cons_zero, List.setIfInBounds_toArray, List.set_cons_zero, List.set_cons_succ, Nat.zero_add, List.nil_append]
            refine wpAnyH_ready (rs := [18]) (by kernel_rfl) (by simp) ?_
            refine AllReadyH.cons rfl (fun K hK => ?_) AllReadyH.nil
            rw [if_pos (by rfl)]
            go_simp
            have s4 := s3.set ⟨xb, 8, none⟩ (.slice (some ⟨ga, 0, none⟩) (sn + 1) ca) (by intro p hp; simp only [List.mem_cons, List.not_mem_nil, or_false] at hp; rcases hp with rfl | rfl | rfl <;> (intro e; simp only [Addr.mk.injEq] at e; exact HN0.out e.1))
            refine hK.out _ _ s4 (fun _ => ?_)
            clear hK K
            try simp only [Act.put, List.getElem_toArray, List.getElem_cons_succ, List.getElem_cons_zero, List.setIfInBounds_toArray, List.set_cons_zero, List.set_cons_succ, Nat.zero_add, List.nil_append]
            refine wpAnyH_done (by kernel_rfl) ?_ _
            replace PU := PU.out
            simp only [Nat.reduceAdd] at PU
            have PU := Lib.hid PU
            clear s0 s1 s3 s4 z0 z1
            generalize v3.setCell ⟨xb, 8, none⟩ (.slice (some ⟨ga, 0, none⟩) (sn + 1) ca) = w9 at *
            go_wp2_with fail
            go_roundw
            case rel =>
              obtain ⟨tg2, H2, g1', g2'⟩ := PU.out
              rw [← HXK.out, PX.adds_adds, ← HMK.out k, show (List.range k).map mk ++ [mk k] = (List.range (k + 1)).map mk by rw [List.range_succ, List.map_append]; rfl] at g1'
              exact ⟨k + 1, by go_num, by omega, tg2, H2, g1', HT.out.trans g2'⟩
            case measure => simp [intOf]; omega
          · skip
            rw [if_pos (by rfl)]
            go_simp
            have b1 : Below wd.heap.size wd (wd.alloc (.cells #[.int .i64 (k : Int), .int .i64 (m.to_ : Int), .int .u32 m.b.round, .int .u8 m.b.node, .string rv, .bool false, .int .u32 0, .int .u8 0, .string ⟨#[]⟩] 105)) := below_alloc (Below.refl _ _) _
            have r1 := heap_alloc_new wd (.cells #[.int .i64 (k : Int), .int .i64 (m.to_ : Int), .int .u32 m.b.round, .int .u8 m.b.node, .string rv, .bool false, .int .u32 0, .int .u8 0, .string ⟨#[]⟩] 105)
            have y1 := (b1.cell (p := ⟨xb, 8, none⟩) HXL.out).trans y0
            have s1 := s0.below b1
            generalize wd.alloc (.cells #[.int .i64 (k : Int), .int .i64 (m.to_ : Int), .int .u32 m.b.round, .int .u8 m.b.node, .string rv, .bool false, .int .u32 0, .int .u8 0, .string ⟨#[]⟩] 105) = v1 at *
            obtain ⟨nb, hnb⟩ : ∃ q, q = wd.heap.size := ⟨_, rfl⟩
            rw [← hnb] at r1 ⊢
            have BV := Lib.hid (BD.out.trans (b1.mono BD.out.size))
            have R1 := Lib.hid r1
            clear b1 r1 hnb
            refine hK.out _ _ s1 (fun _ => ?_)
            clear hK K
            try simp only [Act.put, List.getElem_toArray, List.getElem_cons_succ, List.getElem_cons_zero, List.setIfInBounds_toArray, List.set_cons_zero, List.set_cons_succ, Nat.zero_add, List.nil_append]
            refine wpAnyH_ready (rs := [5]) (by kernel_rfl) (by simp) ?_
            refine AllReadyH.cons rfl (fun K hK => ?_) AllReadyH.nil
            rw [if_pos (by rfl)]
            go_simp
            refine hK.out _ _ s1 (fun _ => ?_)
            clear hK K
            try simp only [Act.put, List.getElem_toArray, List.getElem_cons_succ, List.getElem_cons_zero, List.setIfInBounds_toArray, List.set_cons_zero, List.set_cons_succ, Nat.zero_add, List.nil_append]
            refine wpAnyH_ready (rs := [14]) (by kernel_rfl) (by simp) ?_
            refine AllReadyH.cons rfl (fun K hK => ?_) AllReadyH.nil
            rw [if_pos (by rfl)]
            have lst := (ZB.out.below BV.out).list (by omega) (by omega) HSO.out HSN.out HSC.out
            refine wp_append_lies _ (.tmp 257) (.tmp 265) 63 rfl B 105 i0 _ 9 72 Try.underlying63 HI.out HZ0.out HZ1.out HZ2.out rfl (by decide) (.slice so sn sc) sn (fl cM ((xk).ms 3)) rfl lst.1 ⟨nb, 0, none⟩ 1 1 (cM ⟨k, (m.to_ : Int), m.b, rv, a0⟩) rfl rfl (news_cM R1.out) (cM_one _) (by decide) (by have := lst.2.2.2.1; have := DB.out; unfold maxLen; omega) (by have := lst.2.2.2.1; have := DB.out; omega) (Nat.le_trans HBz.out BV.out.size) _ rfl ?_
            intro ga ca v3 own3 gr3 at3 lt3
            obtain ⟨PU, kg, z0, z1⟩ := ZB.out.push (by omega) (by omega) HSO.out HSN.out HSC.out HMOK.out BV.out own3 gr3 at3
            have s3 := s1.keep kg (fun p hp => by rw [← HSO.out]; exact ZB.out.src_not (by omega) (by omega) (HLO.out p hp))
            have PU := Lib.hid PU
            clear own3 gr3 at3 lt3 kg lst y1
            refine hK.out _ _ s3 (fun _ => ?_)
            clear hK K
            try simp only [Act.put, List.getElem_toArray, List.getElem_cons_succ, List.getElem_cons_zero, List.setIfInBounds_toArray, List.set_cons_zero, List.set_cons_succ, Nat.zero_add, List.nil_append]
            refine wpAnyH_take (i := 17) (v := .pointer (some ⟨xb, 8, none⟩)) rfl (by kernel_rfl) (by kernel_rfl) (by kernel_rfl) (fun _ _ _ h => h) (Or.inl ⟨by rfl, fun w' hw' => by go_simp⟩) s3 ?_
            try simp only [Act.put, List.getElem_toArray, List.getElem_cons_succ, List.getElem_cons_zero, List.setIfInBounds_toArray, List.set_cons_zero, List.set_cons_succ, Nat.zero_add, List.nil_append]
            refine wpAnyH_ready (rs := [18]) (by kernel_rfl) (by simp) ?_
            refine AllReadyH.cons rfl (fun K hK => ?_) AllReadyH.nil
            rw [if_pos (by rfl)]
            go_simp
            have s4 := s3.set ⟨xb, 8, none⟩ (.slice (some ⟨ga, 0, none⟩) (sn + 1) ca) (by intro p hp; simp only [List.mem_cons, List.not_mem_nil, or_false] at hp; rcases hp with rfl | rfl | rfl <;> (intro e; simp only [Addr.mk.injEq] at e; exact HN0.out e.1))
            refine hK.out _ _ s4 (fun _ => ?_)
            clear hK K
            try simp only [Act.put, List.getElem_toArray, List.getElem_cons_succ, List.getElem_cons_zero, List.setIfInBounds_toArray, List.set_cons_zero, List.set_cons_succ, Nat.zero_add, List.nil_append]
            refine wpAnyH_done (by kernel_rfl) ?_ _
            replace PU := PU.out
            simp only [Nat.reduceAdd] at PU
            have PU := Lib.hid PU
            clear s0 s1 s3 s4 z0 z1
            generalize v3.setCell ⟨xb, 8, none⟩ (.slice (some ⟨ga, 0, none⟩) (sn + 1) ca) = w9 at *
            go_wp2_with fail
            go_roundw
            case rel =>
              obtain ⟨tg2, H2, g1', g2'⟩ := PU.out
              rw [← HXK.out, PX.adds_adds, ← HMK.out k, show (List.range k).map mk ++ [mk k] = (List.range (k + 1)).map mk by rw [List.range_succ, List.map_append]; rfl] at g1'
              exact ⟨k + 1, by go_num, by omega, tg2, H2, g1', HT.out.trans g2'⟩
            case measure => simp [intOf]; omega
        · obtain rfl : k = n := by omega
          go_wp2_with fail
          go_end0
          refine ⟨rfl, tg', H', _, (hw.up (by omega)).upc (by omega), ?_, (HTR.out.trans ht).start, ?_, ?_, ?_⟩
          · have := inv_promise hin HTO.out HSAY.out ((List.range k).map mk) (fun q hq => by
              obtain ⟨i, _, rfl⟩ := List.mem_map.1 hq
              rw [HMK.out, ← HR.out]; exact ⟨rfl, rfl⟩)
            rw [← HR.out] at this
            simp only [if_true] at this
            rw [← HX2.out]
            exact this
          · rw [← HX2.out]; rfl
          · rw [← HX2.out]; show x.rd ≤ x.rd + 1; omega
          · rw [← HX2.out]; exact hna
    · have hok2 : rok = false := by simpa using hok
      subst hok2
      go_wp2_with fail
      refine wp_loop_rounds 1 ?_
      rw [rounds_succ]
      go_wp2_with fail
      go_end0
      refine ⟨rfl, _, H, x2, (W6.out.up (by omega)).upc (by omega), ?_, HTR.out.start, ?_, ?_, ?_⟩
      · have := inv_promise hin HTO.out HSAY.out [] (fun q hq => by cases hq)
        rw [← HR.out] at this
        simp only [Bool.false_eq_true, if_false, List.append_nil] at this
        rw [← HX2.out]
        exact this
      · rw [← HX2.out]
      · rw [← HX2.out]; show x.rd ≤ x.rd + 1; omega
      · rw [← HX2.out]; exact hna
end
end Go.Proofs.Ytgfalpiifgoonaa
