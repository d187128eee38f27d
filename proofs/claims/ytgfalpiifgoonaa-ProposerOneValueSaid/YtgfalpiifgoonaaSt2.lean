/- ProposerOneValue: way 2 of the law's own step. -/
import Derived.Test.YtgfalpiifgoonaaWt
import Derived.Deep.RegionHeld3
namespace Go.Proofs.Ytgfalpiifgoonaa
open Go.RowKit Go.Sort
set_option linter.unusedVariables false
set_option linter.unusedSectionVars false
set_option linter.unusedSimpArgs false
set_option maxRecDepth 100000
section
variable {w w' : World} {B xb n c d : Nat} {tg : Nat → Nat} {H : Hd} {vote : ByteArray} {x : PX} {U : List Nat}
set_option maxHeartbeats 6400000 in
theorem step_k2 (a b : Int) (v : ByteArray) (wa : (Lit.int .i64 a).wf = true) (wb : (Lit.int .i64 b).wf = true) (hv : v.size ≤ 281474976710656) (W : World) (h : WdW W B xb n tg H c d vote x) (hd : d ≤ 10000) (hcc : c < 100000) (hin : x.Inv n vote) (hna : x.Nn n) :
    Calls Try.prog 22 #[.pointer (some ⟨xb, 0, none⟩), .agg #[.int .i64 2, .int .i64 a, .int .i64 b, .string v]] W (StEnd W B xb n tg c d vote x x.ds) := by
  have hlen := h.pt.len 2
  have CP := Lib.hid (fun w => pick_any 2 (by decide) 6 (by omega) (by omega) w)
  obtain ⟨p, hp⟩ : ∃ p, p = pk 2 6 := ⟨_, rfl⟩
  have hp5 : p = 2 := hp.trans (by decide)
  have hp6 : p < 6 := by omega
  rw [← hp] at CP
  have hlv : x.lv H p = .slice (H.sl p) (x.ms p).length (H.cap p) := by rw [hp5]; rfl
  have HP5 := Lib.hid hp5
  have hp25 : 2 ≤ p ∧ p ≤ 5 := by omega
  have hlp : (x.ms p).length ≤ 10000 := by rw [hp5]; omega
  clear hlen
  have HLV := Lib.hid hlv
  clear hp5 hp hlv
  have hpi : (p : Int) < 6 := by omega
  have hpi0 : (0 : Int) ≤ (p : Int) := by omega
  obtain ⟨bx, hbx⟩ : ∃ bx, bx = W.heap.size := ⟨_, rfl⟩
  have hxl := h.lt
  have hn5 := h.pt.n5
  have hn1 := h.pt.n1
  have hw1 := h.ours.below (below_alloc (Below.refl _ _) (.cells #[.int .i64 2, .int .i64 a, .int .i64 b, .string v] 73))
  have y0 := hw1.acc
  have yl := hw1.l hp6
  have W1 := Lib.hid hw1
  have H0 := Lib.hid h
  clear h hw1 wa
  go_enter Try.func22, Try.ntmps22
  go_upto_region 2 with (fail)
  have r0 := heap_alloc_new W (.cells #[.int .i64 2, .int .i64 a, .int .i64 b, .string v] 73)
  have bw1 := below_alloc (Below.refl W.heap.size W) (.cells #[.int .i64 2, .int .i64 a, .int .i64 b, .string v] 73)
  generalize W.alloc (.cells #[.int .i64 2, .int .i64 a, .int .i64 b, .string v] 73) = w1 at *
  rw [← hbx] at r0
  have e0 := cell_of_row w1 bx 0 _ _ (0, 0) r0
  have e1 := cell_of_row w1 bx 1 _ _ (0, 0) r0
  have e2 := cell_of_row w1 bx 2 _ _ (0, 0) r0
  have e3 := cell_of_row w1 bx 3 _ _ (0, 0) r0
  simp only [List.getElem?_toArray, List.getElem?_cons_zero, List.getElem?_cons_succ] at e0 e1 e2 e3
  rw [← hbx]
  have R0 := Lib.hid r0
  have HBX := Lib.hid hbx
  clear r0 hbx
  go_quiet ((go_at_call 20; refine Calls.quiet_of_same ((CP.out _).mono (by rintro e w' ⟨h1, h2⟩; exact ⟨h1, h2.symm⟩))))
  have hw2 := W1.out.below (below_drewN (Below.refl _ _) nq)
  have r2 : (w1.drewN nq).heap[bx]? = _ := R0.out
  have BW2 := Lib.hid (bw1.trans ((below_drewN (Below.refl w1.heap.size w1) nq).mono bw1.size))
  clear bw1
  have b2 := below_drewN (Below.refl w1.heap.size w1) nq
  clear e0 e1 e2 e3 y0 yl W1 R0
  generalize w1.drewN nq = w2 at *
  have e0 := cell_of_row w2 bx 0 _ _ (0, 0) r2
  have e1 := cell_of_row w2 bx 1 _ _ (0, 0) r2
  have e2 := cell_of_row w2 bx 2 _ _ (0, 0) r2
  have e3 := cell_of_row w2 bx 3 _ _ (0, 0) r2
  simp only [List.getElem?_toArray, List.getElem?_cons_zero, List.getElem?_cons_succ] at e0 e1 e2 e3
  have W2 := Lib.hid hw2
  have R2 := Lib.hid r2
  have B2 := Lib.hid b2
  clear hw2 r2 b2
  go_upto_region 3 with (fail)
  rw [show x.lv H p = .slice (H.sl p) (x.ms p).length (H.cap p) from HLV.out]
  generalize hL : (x.ms p).length = L at *
  by_cases hL0 : L = 0
  · subst hL0
    go_wp2_with fail
    go_end0
    have hB : B ≤ W.heap.size := by have := H0.out.base; have := H0.out.lt; omega
    exact ⟨rfl, _, H, x, (W2.out.up (by omega)).upc (by omega), hin, (Trn.below BW2.out hB).start, rfl, by omega, hna⟩
  · have hLi : ¬ (L : Int) = 0 := by omega
    go_upto_region 5 with (fail)
    have hw3 := W2.out.below (below_alloc (Below.refl _ _) (.cells #[.int .i64 0, .int .i64 0, .int .u32 0, .int .u8 0, .string ⟨#[]⟩, .bool false, .int .u32 0, .int .u8 0, .string ⟨#[]⟩] 105))
    have b3 := below_alloc B2.out (.cells #[.int .i64 0, .int .i64 0, .int .u32 0, .int .u8 0, .string ⟨#[]⟩, .bool false, .int .u32 0, .int .u8 0, .string ⟨#[]⟩] 105)
    have r3 := row_keep R2.out (Keep.of_below (below_alloc (Below.refl _ _) (.cells #[.int .i64 0, .int .i64 0, .int .u32 0, .int .u8 0, .string ⟨#[]⟩, .bool false, .int .u32 0, .int .u8 0, .string ⟨#[]⟩] 105)) []) (by simp)
    have m3 := heap_alloc_new w2 (.cells #[.int .i64 0, .int .i64 0, .int .u32 0, .int .u8 0, .string ⟨#[]⟩, .bool false, .int .u32 0, .int .u8 0, .string ⟨#[]⟩] 105)
    have b23 := Lib.hid (below_alloc (Below.refl w2.heap.size w2) (.cells #[.int .i64 0, .int .i64 0, .int .u32 0, .int .u8 0, .string ⟨#[]⟩, .bool false, .int .u32 0, .int .u8 0, .string ⟨#[]⟩] 105))
    have hbm := (Array.getElem?_eq_some_iff.1 R2.out).1
    generalize w2.alloc (.cells #[.int .i64 0, .int .i64 0, .int .u32 0, .int .u8 0, .string ⟨#[]⟩, .bool false, .int .u32 0, .int .u8 0, .string ⟨#[]⟩] 105) = w3 at *
    have hbm2 := W2.out.lt
    generalize hmb : w2.heap.size = mb at *
    clear e0 e1 e2 e3 R2
    have HMB := Lib.hid hmb
    clear hmb
    have e0 := cell_of_row w3 bx 0 _ _ (0, 0) r3
    have e1 := cell_of_row w3 bx 1 _ _ (0, 0) r3
    have e2 := cell_of_row w3 bx 2 _ _ (0, 0) r3
    simp only [List.getElem?_toArray, List.getElem?_cons_zero, List.getElem?_cons_succ] at e0 e1 e2
    have CB := Lib.hid (fun w => pick_any b wb L (by omega) (by omega) w)
    have hpj := pk_lt b (n := L) (by omega)
    generalize pk b L = j at *
    obtain ⟨m, hm⟩ : ∃ m, (x.ms p)[j]? = some m := ⟨_, List.getElem?_eq_getElem (by omega)⟩
    obtain ⟨g, hg1, hg2, hg3, hg4, hg5⟩ := hw3.mem (by omega : 2 ≤ p) (by omega) hm
    have q0 := hg5 0 (by omega); have q1 := hg5 1 (by omega); have q2 := hg5 2 (by omega); have q3 := hg5 3 (by omega); have q4 := hg5 4 (by omega); have q5 := hg5 5 (by omega); have q6 := hg5 6 (by omega); have q7 := hg5 7 (by omega); have q8 := hg5 8 (by omega)
    simp only [List.getElem?_cons_zero, List.getElem?_cons_succ, Nat.add_zero] at q0 q1 q2 q3 q4 q5 q6 q7 q8
    have z0 := cell_of_row w3 mb 0 _ _ (0, 0) m3; have f0 := frozen_of_row w3 mb 0 _ _ m3
    have z1 := cell_of_row w3 mb 1 _ _ (0, 0) m3; have f1 := frozen_of_row w3 mb 1 _ _ m3
    have z2 := cell_of_row w3 mb 2 _ _ (0, 0) m3; have f2 := frozen_of_row w3 mb 2 _ _ m3
    have z3 := cell_of_row w3 mb 3 _ _ (0, 0) m3; have f3 := frozen_of_row w3 mb 3 _ _ m3
    have z4 := cell_of_row w3 mb 4 _ _ (0, 0) m3; have f4 := frozen_of_row w3 mb 4 _ _ m3
    have z5 := cell_of_row w3 mb 5 _ _ (0, 0) m3; have f5 := frozen_of_row w3 mb 5 _ _ m3
    have z6 := cell_of_row w3 mb 6 _ _ (0, 0) m3; have f6 := frozen_of_row w3 mb 6 _ _ m3
    have z7 := cell_of_row w3 mb 7 _ _ (0, 0) m3; have f7 := frozen_of_row w3 mb 7 _ _ m3
    have z8 := cell_of_row w3 mb 8 _ _ (0, 0) m3; have f8 := frozen_of_row w3 mb 8 _ _ m3
    simp only [List.getElem?_toArray, List.getElem?_cons_zero, List.getElem?_cons_succ] at z0 z1 z2 z3 z4 z5 z6 z7 z8
    have W3 := Lib.hid hw3; have R3 := Lib.hid r3; have M3 := Lib.hid m3; have B3 := Lib.hid b3; have HM := Lib.hid hm
    clear hw3 r3 m3 b3 hm hg5
    rw [hg1]
    have hji : (j : Int) < (L : Int) := by omega
    have hji0 : (0 : Int) ≤ (j : Int) := by omega
    go_wp2_with fail
    refine (CB.out _).mono ?_; rintro e w9 ⟨rfl, rfl⟩
    go_upto_region 7 with (fail)
    have hms : mb ≤ w3.heap.size := Nat.le_of_lt (Array.getElem?_eq_some_iff.1 M3.out).1
    have kp4 : Keep [mb] w3 (((((((((w3.setCell ⟨mb, 0, none⟩ (.int .i64 m.to_)).setCell ⟨mb, 1, none⟩ (.int .i64 m.fr)).setCell ⟨mb, 2, none⟩ (.int .u32 m.b.round)).setCell ⟨mb, 3, none⟩ (.int .u8 m.b.node)).setCell ⟨mb, 4, none⟩ (.string m.v)).setCell ⟨mb, 5, none⟩ (.bool m.a.is)).setCell ⟨mb, 6, none⟩ (.int .u32 m.a.b.round)).setCell ⟨mb, 7, none⟩ (.int .u8 m.a.b.node)).setCell ⟨mb, 8, none⟩ (.string m.a.v)) := layM_keep w3 mb m
    have hw4 : WdW (((((((((w3.setCell ⟨mb, 0, none⟩ (.int .i64 m.to_)).setCell ⟨mb, 1, none⟩ (.int .i64 m.fr)).setCell ⟨mb, 2, none⟩ (.int .u32 m.b.round)).setCell ⟨mb, 3, none⟩ (.int .u8 m.b.node)).setCell ⟨mb, 4, none⟩ (.string m.v)).setCell ⟨mb, 5, none⟩ (.bool m.a.is)).setCell ⟨mb, 6, none⟩ (.int .u32 m.a.b.round)).setCell ⟨mb, 7, none⟩ (.int .u8 m.a.b.node)).setCell ⟨mb, 8, none⟩ (.string m.a.v)) B xb n (ours tg W.heap.size) H c d vote x := W2.out.below (HMB.out.symm ▸ b23.out.trans (kp4.below hms (by simp)))
    have BW4 : Below W.heap.size W (((((((((w3.setCell ⟨mb, 0, none⟩ (.int .i64 m.to_)).setCell ⟨mb, 1, none⟩ (.int .i64 m.fr)).setCell ⟨mb, 2, none⟩ (.int .u32 m.b.round)).setCell ⟨mb, 3, none⟩ (.int .u8 m.b.node)).setCell ⟨mb, 4, none⟩ (.string m.v)).setCell ⟨mb, 5, none⟩ (.bool m.a.is)).setCell ⟨mb, 6, none⟩ (.int .u32 m.a.b.round)).setCell ⟨mb, 7, none⟩ (.int .u8 m.a.b.node)).setCell ⟨mb, 8, none⟩ (.string m.a.v)) := BW2.out.trans ((b23.out.trans (kp4.below hms (by simp))).mono (by have := BW2.out.size; have := HMB.out; omega))
    have r4 := row_keep R3.out kp4 (by simp; omega)
    have x4 : (((((((((w3.setCell ⟨mb, 0, none⟩ (.int .i64 m.to_)).setCell ⟨mb, 1, none⟩ (.int .i64 m.fr)).setCell ⟨mb, 2, none⟩ (.int .u32 m.b.round)).setCell ⟨mb, 3, none⟩ (.int .u8 m.b.node)).setCell ⟨mb, 4, none⟩ (.string m.v)).setCell ⟨mb, 5, none⟩ (.bool m.a.is)).setCell ⟨mb, 6, none⟩ (.int .u32 m.a.b.round)).setCell ⟨mb, 7, none⟩ (.int .u8 m.a.b.node)).setCell ⟨mb, 8, none⟩ (.string m.a.v)).heap[mb]? = _ := layM_row M3.out
    clear z0 z1 z2 z3 z4 z5 z6 z7 z8 f0 f1 f2 f3 f4 f5 f6 f7 f8 q0 q1 q2 q3 q4 q5 q6 q7 q8 e0 e1 e2 W3 R3 M3 kp4
    generalize ((((((((w3.setCell ⟨mb, 0, none⟩ (.int .i64 m.to_)).setCell ⟨mb, 1, none⟩ (.int .i64 m.fr)).setCell ⟨mb, 2, none⟩ (.int .u32 m.b.round)).setCell ⟨mb, 3, none⟩ (.int .u8 m.b.node)).setCell ⟨mb, 4, none⟩ (.string m.v)).setCell ⟨mb, 5, none⟩ (.bool m.a.is)).setCell ⟨mb, 6, none⟩ (.int .u32 m.a.b.round)).setCell ⟨mb, 7, none⟩ (.int .u8 m.a.b.node)).setCell ⟨mb, 8, none⟩ (.string m.a.v) = w4 at *
    have e0 := cell_of_row w4 bx 0 _ _ (0, 0) r4
    simp only [List.getElem?_toArray, List.getElem?_cons_zero, List.getElem?_cons_succ] at e0
    have HBW4 := Lib.hid BW4
    clear BW4
    have W4 := Lib.hid hw4; have R4 := Lib.hid r4; have X4 := Lib.hid x4
    clear hw4 r4 x4
    go_upto_region 19 with (fail)
    clear e0
    have hmo : m.Ok n p := W4.out.pt.mok p m (List.mem_of_getElem? HM.out)
    have hto : m.to_ < n := by have := hmo.to_; rw [HP5.out] at this; exact this
    have HTO := Lib.hid hto
    have hw4 := W4.out
    obtain ⟨ga, pv, ea, hga, _, ea2, ea3, _⟩ := owns_cell1 hw4.pt.sA m.to_ hto
    obtain rfl : H.aA = ga := by simpa using ea
    obtain rfl : pv = .pointer (some ⟨H.hA m.to_, 0, none⟩) := by
      simp only [ptrs, List.getElem?_map, List.getElem?_range hto, Option.map_some, Option.some.injEq] at ea2
      exact ea2.symm
    have htoi : (m.to_ : Int) < (n : Int) := by omega
    have htoi0 : (0 : Int) ≤ (m.to_ : Int) := by omega
    have xl4 := (Array.getElem?_eq_some_iff.1 X4.out).1
    have HMB : Hid (W.heap.size ≤ mb) := Lib.hid (by have := BW2.out.size; have := HMB.out; omega)
    have HMO := Lib.hid hmo
    have HL : Hid (Holds w4 [(⟨xb, 0, none⟩, .slice (some ⟨H.aA, 0, none⟩) n H.cA), (⟨mb, 0, none⟩, .int .i64 (m.to_ : Int)), (⟨H.aA, m.to_, none⟩, .pointer (some ⟨H.hA m.to_, 0, none⟩)), (⟨mb, 2, none⟩, .int .u32 m.b.round), (⟨mb, 3, none⟩, .int .u8 m.b.node)]) := Lib.hid (.cons hw4.acc hw4.lt (.cons (cell_of_row w4 mb 0 _ _ (0, 0) X4.out) xl4 (.cons ea3 hga (.cons (cell_of_row w4 mb 2 _ _ (0, 0) X4.out) xl4 (.cons (cell_of_row w4 mb 3 _ _ (0, 0) X4.out) xl4 (.nil _))))))
    have HPN : Hid (∀ p ∈ ([(⟨xb, 0, none⟩, .slice (some ⟨H.aA, 0, none⟩) n H.cA), (⟨mb, 0, none⟩, .int .i64 (m.to_ : Int)), (⟨H.aA, m.to_, none⟩, .pointer (some ⟨H.hA m.to_, 0, none⟩)), (⟨mb, 2, none⟩, .int .u32 m.b.round), (⟨mb, 3, none⟩, .int .u8 m.b.node)] : List (Addr × Value)), p.1.block ∉ [H.gA m.to_]) := Lib.hid (by
      have t1 := hw4.xt
      have t2 := hw4.pt.tA
      have t3 : ours tg W.heap.size mb = 4 := ours_ge HMB.out
      have t4 := (hw4.pt.tab m.to_ hto).2.2
      intro p hp
      have hb : ours tg W.heap.size p.1.block = 0 ∨ ours tg W.heap.size p.1.block = 1 ∨ ours tg W.heap.size p.1.block = 4 := by
        simp only [List.mem_cons, List.not_mem_nil, or_false] at hp
        rcases hp with rfl | rfl | rfl | rfl | rfl
        · exact .inl t1
        · exact .inr (.inr t3)
        · exact .inr (.inl t2)
        all_goals exact .inr (.inr t3)
      intro e
      rw [List.mem_singleton.1 e, t4] at hb
      omega)
    have HAL : Hid (H.hA m.to_ < w4.heap.size ∧ H.gA m.to_ < w4.heap.size) := Lib.hid ⟨(hw4.pt.tab m.to_ hto).1.hlt, (hw4.pt.tab m.to_ hto).1.map.lt⟩
    have HUL : Hid (∀ k ∈ [H.gA m.to_], k < w4.heap.size) := Lib.hid (fun k hk => by rw [List.mem_singleton.1 hk]; exact HAL.out.2)
    obtain ⟨R, hR⟩ : ∃ R : AR, R = prR (some (x.r m.to_)) m.b := ⟨_, rfl⟩
    have CALL : Hid (∀ w', Below w4.heap.size w4 w' → Calls Try.prog 30 #[.pointer (some ⟨H.hA m.to_, 0, none⟩), in0.ag, m.b.ag] w' fun e w'' => e = .returned (.tuple #[.agg #[.bool R.a.is, .int .u32 R.a.b.round, .int .u8 R.a.b.node, .string R.a.v], .agg #[.int .u32 R.p.round, .int .u8 R.p.node], .bool R.ok, .int .i64 R.e]) ∧ TabW w'' B (H.hA m.to_) (H.gA m.to_) 1 (nA (o2P x m.to_ m.b)) (fA (o2P x m.to_ m.b)) ∧ Keep [H.gA m.to_] w' w'') := Lib.hid (fun w' bl => by rw [hR]; exact prep_x W4.out HTO.out m.b w' bl)
    have POSTK : Hid (∀ v v' (V : List Nat), TabW v B (H.hA m.to_) (H.gA m.to_) 1 (nA (o2P x m.to_ m.b)) (fA (o2P x m.to_ m.b)) → Keep V v v' → (∀ k ∈ V, w4.heap.size ≤ k) → TabW v' B (H.hA m.to_) (H.gA m.to_) 1 (nA (o2P x m.to_ m.b)) (fA (o2P x m.to_ m.b))) := Lib.hid (fun v v' V h k hV => h.keep k (fun hm => by have := hV _ hm; have := HAL.out.1; omega) (fun hm => by have := hV _ hm; have := HAL.out.2; omega))
    have HR := Lib.hid hR
    clear hw4 ea ea2 ea3 hga hR hmo hto xl4
    go_cut [11, 12, 13, 14] from 138 to 154 (fun s11 s12 s13 s14 wx => ∃ g1 g2, s11 = .pointer (some ⟨g1, 0, none⟩) ∧ s12 = .pointer (some ⟨g2, 0, none⟩) ∧ s13 = .bool R.ok ∧ s14 = .int .i64 R.e ∧ w4.heap.size ≤ g1 ∧ w4.heap.size ≤ g2 ∧ wx.heap[g1]? = some (.cells #[.bool R.a.is, .int .u32 R.a.b.round, .int .u8 R.a.b.node, .string R.a.v] 42 (0, 0)) ∧ wx.heap[g2]? = some (.cells #[.int .u32 R.p.round, .int .u8 R.p.node] 34 (0, 0)) ∧ TabW wx B (H.hA m.to_) (H.gA m.to_) 1 (nA (o2P x m.to_ m.b)) (fA (o2P x m.to_ m.b)) ∧ Keep [H.gA m.to_] w4 wx)
    case first =>
      as_aux_lemma =>
        refine wp_region_held_drew (S := fun w' => Holds w' [(⟨xb, 0, none⟩, .slice (some ⟨H.aA, 0, none⟩) n H.cA), (⟨mb, 0, none⟩, .int .i64 (m.to_ : Int)), (⟨H.aA, m.to_, none⟩, .pointer (some ⟨H.hA m.to_, 0, none⟩)), (⟨mb, 2, none⟩, .int .u32 m.b.round), (⟨mb, 3, none⟩, .int .u8 m.b.node)]) (by kernel_rfl) (HL.out.drew) (fun s0 => ?_)
        have KP : Hid (Keep [H.gA m.to_] w4 w4.drew) := Lib.hid (Keep.of_below (Below.refl _ _).drew _)
        have BE : Hid (Below w4.heap.size w4 w4.drew) := Lib.hid (Below.refl _ _).drew
        have SS := Lib.hid s0
        clear s0
        generalize w4.drew = v0 at *
        refine wpAnyH_take (i := 0) (v := .pointer (some ⟨xb, 0, none⟩)) rfl (by kernel_rfl) (by kernel_rfl) (by kernel_rfl) (fun _ _ _ h => h) (Or.inl ⟨by rfl, fun w' hw' => by go_simp⟩) SS.out ?_
        try simp only [Act.put, List.getElem_toArray, List.getElem_cons_succ, List.getElem_cons_zero, List.setIfInBounds_toArray, List.set_cons_zero, List.set_cons_succ, Nat.zero_add, List.nil_append]
        refine wpAnyH_take (i := 1) (v := .pointer (some ⟨xb, 0, none⟩)) rfl (by kernel_rfl) (by kernel_rfl) (by kernel_rfl) (fun _ _ _ h => h) (Or.inl ⟨by rfl, fun w' hw' => by go_simp⟩) SS.out ?_
        try simp only [Act.put, List.getElem_toArray, List.getElem_cons_succ, List.getElem_cons_zero, List.setIfInBounds_toArray, List.set_cons_zero, List.set_cons_succ, Nat.zero_add, List.nil_append]
        refine wpAnyH_take (i := 2) (v := .pointer (some ⟨xb, 0, none⟩)) rfl (by kernel_rfl) (by kernel_rfl) (by kernel_rfl) (fun _ _ _ h => h) (Or.inl ⟨by rfl, fun w' hw' => by go_simp⟩) SS.out ?_
        try simp only [Act.put, List.getElem_toArray, List.getElem_cons_succ, List.getElem_cons_zero, List.setIfInBounds_toArray, List.set_cons_zero, List.set_cons_succ, Nat.zero_add, List.nil_append]
        refine wpAnyH_take (i := 3) (v := .slice (some ⟨H.aA, 0, none⟩) n H.cA) rfl (by kernel_rfl) (by kernel_rfl) (by kernel_rfl) (fun _ _ _ h => h) (Or.inl ⟨by rfl, fun w' hw' => by have q0 := hw'.head; have q1 := hw'.tail.head; have q2 := hw'.tail.tail.head; have q3 := hw'.tail.tail.tail.head; have q4 := hw'.tail.tail.tail.tail.head; go_simp⟩) SS.out ?_
        try simp only [Act.put, List.getElem_toArray, List.getElem_cons_succ, List.getElem_cons_zero, List.setIfInBounds_toArray, List.set_cons_zero, List.set_cons_succ, Nat.zero_add, List.nil_append]
        refine wpAnyH_take (i := 4) (v := .pointer (some ⟨mb, 0, none⟩)) rfl (by kernel_rfl) (by kernel_rfl) (by kernel_rfl) (fun _ _ _ h => h) (Or.inl ⟨by rfl, fun w' hw' => by go_simp⟩) SS.out ?_
        try simp only [Act.put, List.getElem_toArray, List.getElem_cons_succ, List.getElem_cons_zero, List.setIfInBounds_toArray, List.set_cons_zero, List.set_cons_succ, Nat.zero_add, List.nil_append]
        refine wpAnyH_take (i := 5) (v := .int .i64 (m.to_ : Int)) rfl (by kernel_rfl) (by kernel_rfl) (by kernel_rfl) (fun _ _ _ h => h) (Or.inl ⟨by rfl, fun w' hw' => by have q0 := hw'.head; have q1 := hw'.tail.head; have q2 := hw'.tail.tail.head; have q3 := hw'.tail.tail.tail.head; have q4 := hw'.tail.tail.tail.tail.head; go_simp⟩) SS.out ?_
        try simp only [Act.put, List.getElem_toArray, List.getElem_cons_succ, List.getElem_cons_zero, List.setIfInBounds_toArray, List.set_cons_zero, List.set_cons_succ, Nat.zero_add, List.nil_append]
        refine wpAnyH_take (i := 6) (v := .pointer (some ⟨H.aA, m.to_, none⟩)) rfl (by kernel_rfl) (by kernel_rfl) (by kernel_rfl) (fun _ _ _ h => h) (Or.inl ⟨by rfl, fun w' hw' => by go_simp⟩) SS.out ?_
        try simp only [Act.put, List.getElem_toArray, List.getElem_cons_succ, List.getElem_cons_zero, List.setIfInBounds_toArray, List.set_cons_zero, List.set_cons_succ, Nat.zero_add, List.nil_append]
        refine wpAnyH_take (i := 7) (v := .pointer (some ⟨H.hA m.to_, 0, none⟩)) rfl (by kernel_rfl) (by kernel_rfl) (by kernel_rfl) (fun _ _ _ h => h) (Or.inl ⟨by rfl, fun w' hw' => by have q0 := hw'.head; have q1 := hw'.tail.head; have q2 := hw'.tail.tail.head; have q3 := hw'.tail.tail.tail.head; have q4 := hw'.tail.tail.tail.tail.head; go_simp⟩) SS.out ?_
        try simp only [Act.put, List.getElem_toArray, List.getElem_cons_succ, List.getElem_cons_zero, List.setIfInBounds_toArray, List.set_cons_zero, List.set_cons_succ, Nat.zero_add, List.nil_append]
        refine wpAnyH_take (i := 8) (v := in0.ag) rfl (by kernel_rfl) (by kernel_rfl) (by kernel_rfl) (fun _ _ _ h => h) (Or.inl ⟨by rfl, fun w' hw' => by go_simp⟩) SS.out ?_
        try simp only [Act.put, List.getElem_toArray, List.getElem_cons_succ, List.getElem_cons_zero, List.setIfInBounds_toArray, List.set_cons_zero, List.set_cons_succ, Nat.zero_add, List.nil_append]
        refine wpAnyH_take (i := 9) (v := .pointer (some ⟨mb, 2, none⟩)) rfl (by kernel_rfl) (by kernel_rfl) (by kernel_rfl) (fun _ _ _ h => h) (Or.inl ⟨by rfl, fun w' hw' => by go_simp⟩) SS.out ?_
        try simp only [Act.put, List.getElem_toArray, List.getElem_cons_succ, List.getElem_cons_zero, List.setIfInBounds_toArray, List.set_cons_zero, List.set_cons_succ, Nat.zero_add, List.nil_append]
        refine wpAnyH_take (i := 10) (v := m.b.ag) rfl (by kernel_rfl) (by kernel_rfl) (by kernel_rfl) (fun _ _ _ h => h) (Or.inl ⟨by rfl, fun w' hw' => by have q0 := hw'.head; have q1 := hw'.tail.head; have q2 := hw'.tail.tail.head; have q3 := hw'.tail.tail.tail.head; have q4 := hw'.tail.tail.tail.tail.head; go_simp⟩) SS.out ?_
        try simp only [Act.put, List.getElem_toArray, List.getElem_cons_succ, List.getElem_cons_zero, List.setIfInBounds_toArray, List.set_cons_zero, List.set_cons_succ, Nat.zero_add, List.nil_append]
        refine wpAnyH_ready (rs := [11, 17, 18]) (by kernel_rfl) (by simp) ?_
        refine AllReadyH.cons rfl (fun K hK => ?_) (AllReadyH.cons rfl (fun K hK => ?_) (AllReadyH.cons rfl (fun K hK => ?_) AllReadyH.nil))
        · skip
          go_simp
          refine (CALL.out v0 BE.out).mono ?_
          rintro e v1 ⟨rfl, po, kk⟩
          have SS : Hid (Holds v1 [(⟨xb, 0, none⟩, .slice (some ⟨H.aA, 0, none⟩) n H.cA), (⟨mb, 0, none⟩, .int .i64 (m.to_ : Int)), (⟨H.aA, m.to_, none⟩, .pointer (some ⟨H.hA m.to_, 0, none⟩)), (⟨mb, 2, none⟩, .int .u32 m.b.round), (⟨mb, 3, none⟩, .int .u8 m.b.node)]) := Lib.hid (SS.out.keep kk HPN.out)
          have PO := Lib.hid po
          have KP : Hid (Keep [H.gA m.to_] w4 v1) := Lib.hid (KP.out.trans kk)
          clear po kk
          refine hK.out _ _ SS.out (fun _ => ?_)
          clear hK K
          try simp only [Act.put, List.getElem_toArray, List.getElem_cons_succ, List.getElem_cons_zero, List.setIfInBounds_toArray, List.set_cons_zero, List.set_cons_succ, Nat.zero_add, List.nil_append]
          refine wpAnyH_take (i := 12) (v := .tuple #[.agg #[.bool R.a.is, .int .u32 R.a.b.round, .int .u8 R.a.b.node, .string R.a.v], .agg #[.int .u32 R.p.round, .int .u8 R.p.node], .bool R.ok, .int .i64 R.e]) rfl (by kernel_rfl) (by kernel_rfl) (by kernel_rfl) (fun _ _ _ h => h) (Or.inl ⟨by rfl, fun w' hw' => by go_simp⟩) SS.out ?_
          try simp only [Act.put, List.getElem_toArray, List.getElem_cons_succ, List.getElem_cons_zero, List.setIfInBounds_toArray, List.set_cons_zero, List.set_cons_succ, Nat.zero_add, List.nil_append]
          refine wpAnyH_take (i := 13) (v := .agg #[.bool R.a.is, .int .u32 R.a.b.round, .int .u8 R.a.b.node, .string R.a.v]) rfl (by kernel_rfl) (by kernel_rfl) (by kernel_rfl) (fun _ _ _ h => h) (Or.inl ⟨by rfl, fun w' hw' => by go_simp⟩) SS.out ?_
          try simp only [Act.put, List.getElem_toArray, List.getElem_cons_succ, List.getElem_cons_zero, List.setIfInBounds_toArray, List.set_cons_zero, List.set_cons_succ, Nat.zero_add, List.nil_append]
          refine wpAnyH_take (i := 14) (v := .agg #[.int .u32 R.p.round, .int .u8 R.p.node]) rfl (by kernel_rfl) (by kernel_rfl) (by kernel_rfl) (fun _ _ _ h => h) (Or.inl ⟨by rfl, fun w' hw' => by go_simp⟩) SS.out ?_
          try simp only [Act.put, List.getElem_toArray, List.getElem_cons_succ, List.getElem_cons_zero, List.setIfInBounds_toArray, List.set_cons_zero, List.set_cons_succ, Nat.zero_add, List.nil_append]
          refine wpAnyH_take (i := 15) (v := .bool R.ok) rfl (by kernel_rfl) (by kernel_rfl) (by kernel_rfl) (fun _ _ _ h => h) (Or.inl ⟨by rfl, fun w' hw' => by go_simp⟩) SS.out ?_
          try simp only [Act.put, List.getElem_toArray, List.getElem_cons_succ, List.getElem_cons_zero, List.setIfInBounds_toArray, List.set_cons_zero, List.set_cons_succ, Nat.zero_add, List.nil_append]
          refine wpAnyH_take (i := 16) (v := .int .i64 R.e) rfl (by kernel_rfl) (by kernel_rfl) (by kernel_rfl) (fun _ _ _ h => h) (Or.inl ⟨by rfl, fun w' hw' => by go_simp⟩) SS.out ?_
          try simp only [Act.put, List.getElem_toArray, List.getElem_cons_succ, List.getElem_cons_zero, List.setIfInBounds_toArray, List.set_cons_zero, List.set_cons_succ, Nat.zero_add, List.nil_append]
          refine wpAnyH_ready (rs := [17, 18]) (by kernel_rfl) (by simp) ?_
          refine AllReadyH.cons rfl (fun K hK => ?_) (AllReadyH.cons rfl (fun K hK => ?_) AllReadyH.nil)
          · skip
            rw [if_pos (by rfl)]
            go_simp
            have bb := below_alloc (Below.refl v1.heap.size v1) (.cells #[.bool false, .int .u32 0, .int .u8 0, .string ⟨#[]⟩] 42)
            have rr := heap_alloc_new v1 (.cells #[.bool false, .int .u32 0, .int .u8 0, .string ⟨#[]⟩] 42)
            have ll : v1.heap.size < (v1.alloc (.cells #[.bool false, .int .u32 0, .int .u8 0, .string ⟨#[]⟩] 42)).heap.size := by simp
            generalize v1.alloc (.cells #[.bool false, .int .u32 0, .int .u8 0, .string ⟨#[]⟩] 42) = v2 at *
            obtain ⟨g1, hg⟩ : ∃ q, q = v1.heap.size := ⟨_, rfl⟩
            rw [← hg] at rr ll ⊢
            have GEg1 : Hid (w4.heap.size ≤ g1) := Lib.hid (by have := KP.out.size; omega)
            have ROWg1 := Lib.hid rr
            have LTg1 := Lib.hid ll
            have SS : Hid (Holds v2 [(⟨xb, 0, none⟩, .slice (some ⟨H.aA, 0, none⟩) n H.cA), (⟨mb, 0, none⟩, .int .i64 (m.to_ : Int)), (⟨H.aA, m.to_, none⟩, .pointer (some ⟨H.hA m.to_, 0, none⟩)), (⟨mb, 2, none⟩, .int .u32 m.b.round), (⟨mb, 3, none⟩, .int .u8 m.b.node)]) := Lib.hid (SS.out.below bb)
            have KP : Hid (Keep [H.gA m.to_] w4 v2) := Lib.hid (KP.out.trans (Keep.of_below bb _))
            have PO := Lib.hid (POSTK.out _ _ _ PO.out (Keep.of_below bb []) (by simp))
            clear bb rr ll hg
            refine hK.out _ _ SS.out (fun _ => ?_)
            clear hK K
            try simp only [Act.put, List.getElem_toArray, List.getElem_cons_succ, List.getElem_cons_zero, List.setIfInBounds_toArray, List.set_cons_zero, List.set_cons_succ, Nat.zero_add, List.nil_append]
            refine wpAnyH_ready (rs := [18]) (by kernel_rfl) (by simp) ?_
            refine AllReadyH.cons rfl (fun K hK => ?_) AllReadyH.nil
            rw [if_pos (by rfl)]
            go_simp
            have bb := below_alloc (Below.refl v2.heap.size v2) (.cells #[.int .u32 0, .int .u8 0] 34)
            have rr := heap_alloc_new v2 (.cells #[.int .u32 0, .int .u8 0] 34)
            have ll : v2.heap.size < (v2.alloc (.cells #[.int .u32 0, .int .u8 0] 34)).heap.size := by simp
            generalize v2.alloc (.cells #[.int .u32 0, .int .u8 0] 34) = v3 at *
            obtain ⟨g2, hg⟩ : ∃ q, q = v2.heap.size := ⟨_, rfl⟩
            rw [← hg] at rr ll ⊢
            have GEg2 : Hid (w4.heap.size ≤ g2) := Lib.hid (by have := KP.out.size; omega)
            have ROWg2 := Lib.hid rr
            have LTg2 := Lib.hid ll
            have SS : Hid (Holds v3 [(⟨xb, 0, none⟩, .slice (some ⟨H.aA, 0, none⟩) n H.cA), (⟨mb, 0, none⟩, .int .i64 (m.to_ : Int)), (⟨H.aA, m.to_, none⟩, .pointer (some ⟨H.hA m.to_, 0, none⟩)), (⟨mb, 2, none⟩, .int .u32 m.b.round), (⟨mb, 3, none⟩, .int .u8 m.b.node)]) := Lib.hid (SS.out.below bb)
            have NEg1g2 : Hid (g1 ≠ g2) := Lib.hid (by have := LTg1.out; omega)
            have ROWg1 : Hid (v3.heap[g1]? = _) := Lib.hid (row_keep ROWg1.out (Keep.of_below bb []) (by simp))
            have LTg1 : Hid (g1 < v3.heap.size) := Lib.hid (Nat.lt_of_lt_of_le LTg1.out bb.size)
            have KP : Hid (Keep [H.gA m.to_] w4 v3) := Lib.hid (KP.out.trans (Keep.of_below bb _))
            have PO := Lib.hid (POSTK.out _ _ _ PO.out (Keep.of_below bb []) (by simp))
            clear bb rr ll hg
            refine hK.out _ _ SS.out (fun _ => ?_)
            clear hK K
            try simp only [Act.put, List.getElem_toArray, List.getElem_cons_succ, List.getElem_cons_zero, List.setIfInBounds_toArray, List.set_cons_zero, List.set_cons_succ, Nat.zero_add, List.nil_append]
            refine wpAnyH_ready (rs := [19]) (by kernel_rfl) (by simp) ?_
            refine AllReadyH.cons rfl (fun K hK => ?_) AllReadyH.nil
            rw [if_pos (by rfl)]
            refine wp_store_row 42 (.tmp 11) (.tmp 151) rfl g1 #[.bool R.a.is, .int .u32 R.a.b.round, .int .u8 R.a.b.node, .string R.a.v] rfl rfl 42 #[.bool false, .int .u32 0, .int .u8 0, .string ⟨#[]⟩] ROWg1.out (by kernel_rfl) rfl (by kernel_rfl) ?_
            have kk := Keep.setRow v3 g1 #[.bool R.a.is, .int .u32 R.a.b.round, .int .u8 R.a.b.node, .string R.a.v]
            have rr := setRow_heap v3 g1 _ #[.bool R.a.is, .int .u32 R.a.b.round, .int .u8 R.a.b.node, .string R.a.v] _ _ ROWg1.out
            generalize v3.setRow g1 #[.bool R.a.is, .int .u32 R.a.b.round, .int .u8 R.a.b.node, .string R.a.v] = v4 at *
            have SS : Hid (Holds v4 [(⟨xb, 0, none⟩, .slice (some ⟨H.aA, 0, none⟩) n H.cA), (⟨mb, 0, none⟩, .int .i64 (m.to_ : Int)), (⟨H.aA, m.to_, none⟩, .pointer (some ⟨H.hA m.to_, 0, none⟩)), (⟨mb, 2, none⟩, .int .u32 m.b.round), (⟨mb, 3, none⟩, .int .u8 m.b.node)]) := Lib.hid (SS.out.keep kk (fun p hp hm => by have := (HL.out p hp).2; rw [List.mem_singleton.1 hm] at this; have := GEg1.out; omega))
            have PO := Lib.hid (POSTK.out _ _ _ PO.out kk (fun q hq => by rw [List.mem_singleton.1 hq]; exact GEg1.out))
            have KP : Hid (Keep [H.gA m.to_] w4 v4) := Lib.hid (((KP.out.mono (T := g1 :: [H.gA m.to_]) (fun q hq => .inl (List.mem_cons_of_mem _ hq))).trans (kk.mono (T := g1 :: [H.gA m.to_]) (fun q hq => .inl (by rw [List.mem_singleton.1 hq]; exact List.mem_cons_self ..)))).mono (fun q hq => by
              rcases List.mem_cons.1 hq with rfl | hq
              · exact .inr GEg1.out
              · exact .inl hq))
            have ROWg2 : Hid (v4.heap[g2]? = _) := Lib.hid (row_keep ROWg2.out kk (by simpa using NEg1g2.out.symm))
            have ROWg1 := Lib.hid rr
            clear kk rr
            refine hK.out _ _ SS.out (fun _ => ?_)
            clear hK K
            try simp only [Act.put, List.getElem_toArray, List.getElem_cons_succ, List.getElem_cons_zero, List.setIfInBounds_toArray, List.set_cons_zero, List.set_cons_succ, Nat.zero_add, List.nil_append]
            refine wpAnyH_ready (rs := [20]) (by kernel_rfl) (by simp) ?_
            refine AllReadyH.cons rfl (fun K hK => ?_) AllReadyH.nil
            rw [if_pos (by rfl)]
            refine wp_store_row 34 (.tmp 12) (.tmp 152) rfl g2 #[.int .u32 R.p.round, .int .u8 R.p.node] rfl rfl 34 #[.int .u32 0, .int .u8 0] ROWg2.out (by kernel_rfl) rfl (by kernel_rfl) ?_
            have kk := Keep.setRow v4 g2 #[.int .u32 R.p.round, .int .u8 R.p.node]
            have rr := setRow_heap v4 g2 _ #[.int .u32 R.p.round, .int .u8 R.p.node] _ _ ROWg2.out
            generalize v4.setRow g2 #[.int .u32 R.p.round, .int .u8 R.p.node] = v5 at *
            have SS : Hid (Holds v5 [(⟨xb, 0, none⟩, .slice (some ⟨H.aA, 0, none⟩) n H.cA), (⟨mb, 0, none⟩, .int .i64 (m.to_ : Int)), (⟨H.aA, m.to_, none⟩, .pointer (some ⟨H.hA m.to_, 0, none⟩)), (⟨mb, 2, none⟩, .int .u32 m.b.round), (⟨mb, 3, none⟩, .int .u8 m.b.node)]) := Lib.hid (SS.out.keep kk (fun p hp hm => by have := (HL.out p hp).2; rw [List.mem_singleton.1 hm] at this; have := GEg2.out; omega))
            have PO := Lib.hid (POSTK.out _ _ _ PO.out kk (fun q hq => by rw [List.mem_singleton.1 hq]; exact GEg2.out))
            have KP : Hid (Keep [H.gA m.to_] w4 v5) := Lib.hid (((KP.out.mono (T := g2 :: [H.gA m.to_]) (fun q hq => .inl (List.mem_cons_of_mem _ hq))).trans (kk.mono (T := g2 :: [H.gA m.to_]) (fun q hq => .inl (by rw [List.mem_singleton.1 hq]; exact List.mem_cons_self ..)))).mono (fun q hq => by
              rcases List.mem_cons.1 hq with rfl | hq
              · exact .inr GEg2.out
              · exact .inl hq))
            have ROWg1 : Hid (v5.heap[g1]? = _) := Lib.hid (row_keep ROWg1.out kk (by simpa using NEg1g2.out))
            have ROWg2 := Lib.hid rr
            clear kk rr
            refine hK.out _ _ SS.out (fun _ => ?_)
            clear hK K
            try simp only [Act.put, List.getElem_toArray, List.getElem_cons_succ, List.getElem_cons_zero, List.setIfInBounds_toArray, List.set_cons_zero, List.set_cons_succ, Nat.zero_add, List.nil_append]
            refine wpAnyH_take (i := 21) (v := .bool R.ok) rfl (by kernel_rfl) (by kernel_rfl) (by kernel_rfl) (fun _ _ _ h => h) (Or.inl ⟨by rfl, fun w' hw' => by go_simp⟩) SS.out ?_
            try simp only [Act.put, List.getElem_toArray, List.getElem_cons_succ, List.getElem_cons_zero, List.setIfInBounds_toArray, List.set_cons_zero, List.set_cons_succ, Nat.zero_add, List.nil_append]
            refine wpAnyH_take (i := 22) (v := .int .i64 R.e) rfl (by kernel_rfl) (by kernel_rfl) (by kernel_rfl) (fun _ _ _ h => h) (Or.inl ⟨by rfl, fun w' hw' => by go_simp⟩) SS.out ?_
            try simp only [Act.put, List.getElem_toArray, List.getElem_cons_succ, List.getElem_cons_zero, List.setIfInBounds_toArray, List.set_cons_zero, List.set_cons_succ, Nat.zero_add, List.nil_append]
            refine wpAnyH_done (by kernel_rfl) ?_ _
            clear SS BE
            go_wp2_with fail
            go_meet
            exact ⟨g1, g2, rfl, rfl, rfl, rfl, GEg1.out, GEg2.out, ROWg1.out, ROWg2.out, PO.out, KP.out⟩
          · skip
            rw [if_pos (by rfl)]
            go_simp
            have bb := below_alloc (Below.refl v1.heap.size v1) (.cells #[.int .u32 0, .int .u8 0] 34)
            have rr := heap_alloc_new v1 (.cells #[.int .u32 0, .int .u8 0] 34)
            have ll : v1.heap.size < (v1.alloc (.cells #[.int .u32 0, .int .u8 0] 34)).heap.size := by simp
            generalize v1.alloc (.cells #[.int .u32 0, .int .u8 0] 34) = v6 at *
            obtain ⟨g2, hg⟩ : ∃ q, q = v1.heap.size := ⟨_, rfl⟩
            rw [← hg] at rr ll ⊢
            have GEg2 : Hid (w4.heap.size ≤ g2) := Lib.hid (by have := KP.out.size; omega)
            have ROWg2 := Lib.hid rr
            have LTg2 := Lib.hid ll
            have SS : Hid (Holds v6 [(⟨xb, 0, none⟩, .slice (some ⟨H.aA, 0, none⟩) n H.cA), (⟨mb, 0, none⟩, .int .i64 (m.to_ : Int)), (⟨H.aA, m.to_, none⟩, .pointer (some ⟨H.hA m.to_, 0, none⟩)), (⟨mb, 2, none⟩, .int .u32 m.b.round), (⟨mb, 3, none⟩, .int .u8 m.b.node)]) := Lib.hid (SS.out.below bb)
            have KP : Hid (Keep [H.gA m.to_] w4 v6) := Lib.hid (KP.out.trans (Keep.of_below bb _))
            have PO := Lib.hid (POSTK.out _ _ _ PO.out (Keep.of_below bb []) (by simp))
            clear bb rr ll hg
            refine hK.out _ _ SS.out (fun _ => ?_)
            clear hK K
            try simp only [Act.put, List.getElem_toArray, List.getElem_cons_succ, List.getElem_cons_zero, List.setIfInBounds_toArray, List.set_cons_zero, List.set_cons_succ, Nat.zero_add, List.nil_append]
            refine wpAnyH_ready (rs := [17]) (by kernel_rfl) (by simp) ?_
            refine AllReadyH.cons rfl (fun K hK => ?_) AllReadyH.nil
            rw [if_pos (by rfl)]
            go_simp
            have bb := below_alloc (Below.refl v6.heap.size v6) (.cells #[.bool false, .int .u32 0, .int .u8 0, .string ⟨#[]⟩] 42)
            have rr := heap_alloc_new v6 (.cells #[.bool false, .int .u32 0, .int .u8 0, .string ⟨#[]⟩] 42)
            have ll : v6.heap.size < (v6.alloc (.cells #[.bool false, .int .u32 0, .int .u8 0, .string ⟨#[]⟩] 42)).heap.size := by simp
            generalize v6.alloc (.cells #[.bool false, .int .u32 0, .int .u8 0, .string ⟨#[]⟩] 42) = v7 at *
            obtain ⟨g1, hg⟩ : ∃ q, q = v6.heap.size := ⟨_, rfl⟩
            rw [← hg] at rr ll ⊢
            have GEg1 : Hid (w4.heap.size ≤ g1) := Lib.hid (by have := KP.out.size; omega)
            have ROWg1 := Lib.hid rr
            have LTg1 := Lib.hid ll
            have SS : Hid (Holds v7 [(⟨xb, 0, none⟩, .slice (some ⟨H.aA, 0, none⟩) n H.cA), (⟨mb, 0, none⟩, .int .i64 (m.to_ : Int)), (⟨H.aA, m.to_, none⟩, .pointer (some ⟨H.hA m.to_, 0, none⟩)), (⟨mb, 2, none⟩, .int .u32 m.b.round), (⟨mb, 3, none⟩, .int .u8 m.b.node)]) := Lib.hid (SS.out.below bb)
            have NEg2g1 : Hid (g2 ≠ g1) := Lib.hid (by have := LTg2.out; omega)
            have ROWg2 : Hid (v7.heap[g2]? = _) := Lib.hid (row_keep ROWg2.out (Keep.of_below bb []) (by simp))
            have LTg2 : Hid (g2 < v7.heap.size) := Lib.hid (Nat.lt_of_lt_of_le LTg2.out bb.size)
            have KP : Hid (Keep [H.gA m.to_] w4 v7) := Lib.hid (KP.out.trans (Keep.of_below bb _))
            have PO := Lib.hid (POSTK.out _ _ _ PO.out (Keep.of_below bb []) (by simp))
            clear bb rr ll hg
            refine hK.out _ _ SS.out (fun _ => ?_)
            clear hK K
            try simp only [Act.put, List.getElem_toArray, List.getElem_cons_succ, List.getElem_cons_zero, List.setIfInBounds_toArray, List.set_cons_zero, List.set_cons_succ, Nat.zero_add, List.nil_append]
            refine wpAnyH_ready (rs := [19]) (by kernel_rfl) (by simp) ?_
            refine AllReadyH.cons rfl (fun K hK => ?_) AllReadyH.nil
            rw [if_pos (by rfl)]
            refine wp_store_row 42 (.tmp 11) (.tmp 151) rfl g1 #[.bool R.a.is, .int .u32 R.a.b.round, .int .u8 R.a.b.node, .string R.a.v] rfl rfl 42 #[.bool false, .int .u32 0, .int .u8 0, .string ⟨#[]⟩] ROWg1.out (by kernel_rfl) rfl (by kernel_rfl) ?_
            have kk := Keep.setRow v7 g1 #[.bool R.a.is, .int .u32 R.a.b.round, .int .u8 R.a.b.node, .string R.a.v]
            have rr := setRow_heap v7 g1 _ #[.bool R.a.is, .int .u32 R.a.b.round, .int .u8 R.a.b.node, .string R.a.v] _ _ ROWg1.out
            generalize v7.setRow g1 #[.bool R.a.is, .int .u32 R.a.b.round, .int .u8 R.a.b.node, .string R.a.v] = v8 at *
            have SS : Hid (Holds v8 [(⟨xb, 0, none⟩, .slice (some ⟨H.aA, 0, none⟩) n H.cA), (⟨mb, 0, none⟩, .int .i64 (m.to_ : Int)), (⟨H.aA, m.to_, none⟩, .pointer (some ⟨H.hA m.to_, 0, none⟩)), (⟨mb, 2, none⟩, .int .u32 m.b.round), (⟨mb, 3, none⟩, .int .u8 m.b.node)]) := Lib.hid (SS.out.keep kk (fun p hp hm => by have := (HL.out p hp).2; rw [List.mem_singleton.1 hm] at this; have := GEg1.out; omega))
            have PO := Lib.hid (POSTK.out _ _ _ PO.out kk (fun q hq => by rw [List.mem_singleton.1 hq]; exact GEg1.out))
            have KP : Hid (Keep [H.gA m.to_] w4 v8) := Lib.hid (((KP.out.mono (T := g1 :: [H.gA m.to_]) (fun q hq => .inl (List.mem_cons_of_mem _ hq))).trans (kk.mono (T := g1 :: [H.gA m.to_]) (fun q hq => .inl (by rw [List.mem_singleton.1 hq]; exact List.mem_cons_self ..)))).mono (fun q hq => by
              rcases List.mem_cons.1 hq with rfl | hq
              · exact .inr GEg1.out
              · exact .inl hq))
            have ROWg2 : Hid (v8.heap[g2]? = _) := Lib.hid (row_keep ROWg2.out kk (by simpa using NEg2g1.out))
            have ROWg1 := Lib.hid rr
            clear kk rr
            refine hK.out _ _ SS.out (fun _ => ?_)
            clear hK K
            try simp only [Act.put, List.getElem_toArray, List.getElem_cons_succ, List.getElem_cons_zero, List.setIfInBounds_toArray, List.set_cons_zero, List.set_cons_succ, Nat.zero_add, List.nil_append]
            refine wpAnyH_ready (rs := [20]) (by kernel_rfl) (by simp) ?_
            refine AllReadyH.cons rfl (fun K hK => ?_) AllReadyH.nil
            rw [if_pos (by rfl)]
            refine wp_store_row 34 (.tmp 12) (.tmp 152) rfl g2 #[.int .u32 R.p.round, .int .u8 R.p.node] rfl rfl 34 #[.int .u32 0, .int .u8 0] ROWg2.out (by kernel_rfl) rfl (by kernel_rfl) ?_
            have kk := Keep.setRow v8 g2 #[.int .u32 R.p.round, .int .u8 R.p.node]
            have rr := setRow_heap v8 g2 _ #[.int .u32 R.p.round, .int .u8 R.p.node] _ _ ROWg2.out
            generalize v8.setRow g2 #[.int .u32 R.p.round, .int .u8 R.p.node] = v9 at *
            have SS : Hid (Holds v9 [(⟨xb, 0, none⟩, .slice (some ⟨H.aA, 0, none⟩) n H.cA), (⟨mb, 0, none⟩, .int .i64 (m.to_ : Int)), (⟨H.aA, m.to_, none⟩, .pointer (some ⟨H.hA m.to_, 0, none⟩)), (⟨mb, 2, none⟩, .int .u32 m.b.round), (⟨mb, 3, none⟩, .int .u8 m.b.node)]) := Lib.hid (SS.out.keep kk (fun p hp hm => by have := (HL.out p hp).2; rw [List.mem_singleton.1 hm] at this; have := GEg2.out; omega))
            have PO := Lib.hid (POSTK.out _ _ _ PO.out kk (fun q hq => by rw [List.mem_singleton.1 hq]; exact GEg2.out))
            have KP : Hid (Keep [H.gA m.to_] w4 v9) := Lib.hid (((KP.out.mono (T := g2 :: [H.gA m.to_]) (fun q hq => .inl (List.mem_cons_of_mem _ hq))).trans (kk.mono (T := g2 :: [H.gA m.to_]) (fun q hq => .inl (by rw [List.mem_singleton.1 hq]; exact List.mem_cons_self ..)))).mono (fun q hq => by
              rcases List.mem_cons.1 hq with rfl | hq
              · exact .inr GEg2.out
              · exact .inl hq))
            have ROWg1 : Hid (v9.heap[g1]? = _) := Lib.hid (row_keep ROWg1.out kk (by simpa using NEg2g1.out.symm))
            have ROWg2 := Lib.hid rr
            clear kk rr
            refine hK.out _ _ SS.out (fun _ => ?_)
            clear hK K
            try simp only [Act.put, List.getElem_toArray, List.getElem_cons_succ, List.getElem_cons_zero, List.setIfInBounds_toArray, List.set_cons_zero, List.set_cons_succ, Nat.zero_add, List.nil_append]
            refine wpAnyH_take (i := 21) (v := .bool R.ok) rfl (by kernel_rfl) (by kernel_rfl) (by kernel_rfl) (fun _ _ _ h => h) (Or.inl ⟨by rfl, fun w' hw' => by go_simp⟩) SS.out ?_
            try simp only [Act.put, List.getElem_toArray, List.getElem_cons_succ, List.getElem_cons_zero, List.setIfInBounds_toArray, List.set_cons_zero, List.set_cons_succ, Nat.zero_add, List.nil_append]
            refine wpAnyH_take (i := 22) (v := .int .i64 R.e) rfl (by kernel_rfl) (by kernel_rfl) (by kernel_rfl) (fun _ _ _ h => h) (Or.inl ⟨by rfl, fun w' hw' => by go_simp⟩) SS.out ?_
            try simp only [Act.put, List.getElem_toArray, List.getElem_cons_succ, List.getElem_cons_zero, List.setIfInBounds_toArray, List.set_cons_zero, List.set_cons_succ, Nat.zero_add, List.nil_append]
            refine wpAnyH_done (by kernel_rfl) ?_ _
            clear SS BE
            go_wp2_with fail
            go_meet
            exact ⟨g1, g2, rfl, rfl, rfl, rfl, GEg1.out, GEg2.out, ROWg1.out, ROWg2.out, PO.out, KP.out⟩
        · skip
          rw [if_pos (by rfl)]
          go_simp
          have bb := below_alloc (Below.refl v0.heap.size v0) (.cells #[.bool false, .int .u32 0, .int .u8 0, .string ⟨#[]⟩] 42)
          have rr := heap_alloc_new v0 (.cells #[.bool false, .int .u32 0, .int .u8 0, .string ⟨#[]⟩] 42)
          have ll : v0.heap.size < (v0.alloc (.cells #[.bool false, .int .u32 0, .int .u8 0, .string ⟨#[]⟩] 42)).heap.size := by simp
          generalize v0.alloc (.cells #[.bool false, .int .u32 0, .int .u8 0, .string ⟨#[]⟩] 42) = v10 at *
          obtain ⟨g1, hg⟩ : ∃ q, q = v0.heap.size := ⟨_, rfl⟩
          rw [← hg] at rr ll ⊢
          have GEg1 : Hid (w4.heap.size ≤ g1) := Lib.hid (by have := KP.out.size; omega)
          have ROWg1 := Lib.hid rr
          have LTg1 := Lib.hid ll
          have SS : Hid (Holds v10 [(⟨xb, 0, none⟩, .slice (some ⟨H.aA, 0, none⟩) n H.cA), (⟨mb, 0, none⟩, .int .i64 (m.to_ : Int)), (⟨H.aA, m.to_, none⟩, .pointer (some ⟨H.hA m.to_, 0, none⟩)), (⟨mb, 2, none⟩, .int .u32 m.b.round), (⟨mb, 3, none⟩, .int .u8 m.b.node)]) := Lib.hid (SS.out.below bb)
          have KP : Hid (Keep [H.gA m.to_] w4 v10) := Lib.hid (KP.out.trans (Keep.of_below bb _))
          have BE : Hid (Below w4.heap.size w4 v10) := Lib.hid (below_next BE.out bb)
          clear bb rr ll hg
          refine hK.out _ _ SS.out (fun _ => ?_)
          clear hK K
          try simp only [Act.put, List.getElem_toArray, List.getElem_cons_succ, List.getElem_cons_zero, List.setIfInBounds_toArray, List.set_cons_zero, List.set_cons_succ, Nat.zero_add, List.nil_append]
          refine wpAnyH_ready (rs := [11, 18]) (by kernel_rfl) (by simp) ?_
          refine AllReadyH.cons rfl (fun K hK => ?_) (AllReadyH.cons rfl (fun K hK => ?_) AllReadyH.nil)
          · skip
            go_simp
            refine (CALL.out v10 BE.out).mono ?_
            rintro e v11 ⟨rfl, po, kk⟩
            have SS : Hid (Holds v11 [(⟨xb, 0, none⟩, .slice (some ⟨H.aA, 0, none⟩) n H.cA), (⟨mb, 0, none⟩, .int .i64 (m.to_ : Int)), (⟨H.aA, m.to_, none⟩, .pointer (some ⟨H.hA m.to_, 0, none⟩)), (⟨mb, 2, none⟩, .int .u32 m.b.round), (⟨mb, 3, none⟩, .int .u8 m.b.node)]) := Lib.hid (SS.out.keep kk HPN.out)
            have PO := Lib.hid po
            have ROWg1 : Hid (v11.heap[g1]? = _) := Lib.hid (row_keep ROWg1.out kk (fun hm => by have := HUL.out _ hm; have := GEg1.out; omega))
            have LTg1 : Hid (g1 < v11.heap.size) := Lib.hid (Nat.lt_of_lt_of_le LTg1.out kk.size)
            have KP : Hid (Keep [H.gA m.to_] w4 v11) := Lib.hid (KP.out.trans kk)
            clear po kk
            refine hK.out _ _ SS.out (fun _ => ?_)
            clear hK K
            try simp only [Act.put, List.getElem_toArray, List.getElem_cons_succ, List.getElem_cons_zero, List.setIfInBounds_toArray, List.set_cons_zero, List.set_cons_succ, Nat.zero_add, List.nil_append]
            refine wpAnyH_take (i := 12) (v := .tuple #[.agg #[.bool R.a.is, .int .u32 R.a.b.round, .int .u8 R.a.b.node, .string R.a.v], .agg #[.int .u32 R.p.round, .int .u8 R.p.node], .bool R.ok, .int .i64 R.e]) rfl (by kernel_rfl) (by kernel_rfl) (by kernel_rfl) (fun _ _ _ h => h) (Or.inl ⟨by rfl, fun w' hw' => by go_simp⟩) SS.out ?_
            try simp only [Act.put, List.getElem_toArray, List.getElem_cons_succ, List.getElem_cons_zero, List.setIfInBounds_toArray, List.set_cons_zero, List.set_cons_succ, Nat.zero_add, List.nil_append]
            refine wpAnyH_take (i := 13) (v := .agg #[.bool R.a.is, .int .u32 R.a.b.round, .int .u8 R.a.b.node, .string R.a.v]) rfl (by kernel_rfl) (by kernel_rfl) (by kernel_rfl) (fun _ _ _ h => h) (Or.inl ⟨by rfl, fun w' hw' => by go_simp⟩) SS.out ?_
            try simp only [Act.put, List.getElem_toArray, List.getElem_cons_succ, List.getElem_cons_zero, List.setIfInBounds_toArray, List.set_cons_zero, List.set_cons_succ, Nat.zero_add, List.nil_append]
            refine wpAnyH_take (i := 14) (v := .agg #[.int .u32 R.p.round, .int .u8 R.p.node]) rfl (by kernel_rfl) (by kernel_rfl) (by kernel_rfl) (fun _ _ _ h => h) (Or.inl ⟨by rfl, fun w' hw' => by go_simp⟩) SS.out ?_
            try simp only [Act.put, List.getElem_toArray, List.getElem_cons_succ, List.getElem_cons_zero, List.setIfInBounds_toArray, List.set_cons_zero, List.set_cons_succ, Nat.zero_add, List.nil_append]
            refine wpAnyH_take (i := 15) (v := .bool R.ok) rfl (by kernel_rfl) (by kernel_rfl) (by kernel_rfl) (fun _ _ _ h => h) (Or.inl ⟨by rfl, fun w' hw' => by go_simp⟩) SS.out ?_
            try simp only [Act.put, List.getElem_toArray, List.getElem_cons_succ, List.getElem_cons_zero, List.setIfInBounds_toArray, List.set_cons_zero, List.set_cons_succ, Nat.zero_add, List.nil_append]
            refine wpAnyH_take (i := 16) (v := .int .i64 R.e) rfl (by kernel_rfl) (by kernel_rfl) (by kernel_rfl) (fun _ _ _ h => h) (Or.inl ⟨by rfl, fun w' hw' => by go_simp⟩) SS.out ?_
            try simp only [Act.put, List.getElem_toArray, List.getElem_cons_succ, List.getElem_cons_zero, List.setIfInBounds_toArray, List.set_cons_zero, List.set_cons_succ, Nat.zero_add, List.nil_append]
            refine wpAnyH_ready (rs := [18]) (by kernel_rfl) (by simp) ?_
            refine AllReadyH.cons rfl (fun K hK => ?_) AllReadyH.nil
            rw [if_pos (by rfl)]
            go_simp
            have bb := below_alloc (Below.refl v11.heap.size v11) (.cells #[.int .u32 0, .int .u8 0] 34)
            have rr := heap_alloc_new v11 (.cells #[.int .u32 0, .int .u8 0] 34)
            have ll : v11.heap.size < (v11.alloc (.cells #[.int .u32 0, .int .u8 0] 34)).heap.size := by simp
            generalize v11.alloc (.cells #[.int .u32 0, .int .u8 0] 34) = v12 at *
            obtain ⟨g2, hg⟩ : ∃ q, q = v11.heap.size := ⟨_, rfl⟩
            rw [← hg] at rr ll ⊢
            have GEg2 : Hid (w4.heap.size ≤ g2) := Lib.hid (by have := KP.out.size; omega)
            have ROWg2 := Lib.hid rr
            have LTg2 := Lib.hid ll
            have SS : Hid (Holds v12 [(⟨xb, 0, none⟩, .slice (some ⟨H.aA, 0, none⟩) n H.cA), (⟨mb, 0, none⟩, .int .i64 (m.to_ : Int)), (⟨H.aA, m.to_, none⟩, .pointer (some ⟨H.hA m.to_, 0, none⟩)), (⟨mb, 2, none⟩, .int .u32 m.b.round), (⟨mb, 3, none⟩, .int .u8 m.b.node)]) := Lib.hid (SS.out.below bb)
            have NEg1g2 : Hid (g1 ≠ g2) := Lib.hid (by have := LTg1.out; omega)
            have ROWg1 : Hid (v12.heap[g1]? = _) := Lib.hid (row_keep ROWg1.out (Keep.of_below bb []) (by simp))
            have LTg1 : Hid (g1 < v12.heap.size) := Lib.hid (Nat.lt_of_lt_of_le LTg1.out bb.size)
            have KP : Hid (Keep [H.gA m.to_] w4 v12) := Lib.hid (KP.out.trans (Keep.of_below bb _))
            have PO := Lib.hid (POSTK.out _ _ _ PO.out (Keep.of_below bb []) (by simp))
            clear bb rr ll hg
            refine hK.out _ _ SS.out (fun _ => ?_)
            clear hK K
            try simp only [Act.put, List.getElem_toArray, List.getElem_cons_succ, List.getElem_cons_zero, List.setIfInBounds_toArray, List.set_cons_zero, List.set_cons_succ, Nat.zero_add, List.nil_append]
            refine wpAnyH_ready (rs := [19]) (by kernel_rfl) (by simp) ?_
            refine AllReadyH.cons rfl (fun K hK => ?_) AllReadyH.nil
            rw [if_pos (by rfl)]
            refine wp_store_row 42 (.tmp 11) (.tmp 151) rfl g1 #[.bool R.a.is, .int .u32 R.a.b.round, .int .u8 R.a.b.node, .string R.a.v] rfl rfl 42 #[.bool false, .int .u32 0, .int .u8 0, .string ⟨#[]⟩] ROWg1.out (by kernel_rfl) rfl (by kernel_rfl) ?_
            have kk := Keep.setRow v12 g1 #[.bool R.a.is, .int .u32 R.a.b.round, .int .u8 R.a.b.node, .string R.a.v]
            have rr := setRow_heap v12 g1 _ #[.bool R.a.is, .int .u32 R.a.b.round, .int .u8 R.a.b.node, .string R.a.v] _ _ ROWg1.out
            generalize v12.setRow g1 #[.bool R.a.is, .int .u32 R.a.b.round, .int .u8 R.a.b.node, .string R.a.v] = v13 at *
            have SS : Hid (Holds v13 [(⟨xb, 0, none⟩, .slice (some ⟨H.aA, 0, none⟩) n H.cA), (⟨mb, 0, none⟩, .int .i64 (m.to_ : Int)), (⟨H.aA, m.to_, none⟩, .pointer (some ⟨H.hA m.to_, 0, none⟩)), (⟨mb, 2, none⟩, .int .u32 m.b.round), (⟨mb, 3, none⟩, .int .u8 m.b.node)]) := Lib.hid (SS.out.keep kk (fun p hp hm => by have := (HL.out p hp).2; rw [List.mem_singleton.1 hm] at this; have := GEg1.out; omega))
            have PO := Lib.hid (POSTK.out _ _ _ PO.out kk (fun q hq => by rw [List.mem_singleton.1 hq]; exact GEg1.out))
            have KP : Hid (Keep [H.gA m.to_] w4 v13) := Lib.hid (((KP.out.mono (T := g1 :: [H.gA m.to_]) (fun q hq => .inl (List.mem_cons_of_mem _ hq))).trans (kk.mono (T := g1 :: [H.gA m.to_]) (fun q hq => .inl (by rw [List.mem_singleton.1 hq]; exact List.mem_cons_self ..)))).mono (fun q hq => by
              rcases List.mem_cons.1 hq with rfl | hq
              · exact .inr GEg1.out
              · exact .inl hq))
            have ROWg2 : Hid (v13.heap[g2]? = _) := Lib.hid (row_keep ROWg2.out kk (by simpa using NEg1g2.out.symm))
            have ROWg1 := Lib.hid rr
            clear kk rr
            refine hK.out _ _ SS.out (fun _ => ?_)
            clear hK K
            try simp only [Act.put, List.getElem_toArray, List.getElem_cons_succ, List.getElem_cons_zero, List.setIfInBounds_toArray, List.set_cons_zero, List.set_cons_succ, Nat.zero_add, List.nil_append]
            refine wpAnyH_ready (rs := [20]) (by kernel_rfl) (by simp) ?_
            refine AllReadyH.cons rfl (fun K hK => ?_) AllReadyH.nil
            rw [if_pos (by rfl)]
            refine wp_store_row 34 (.tmp 12) (.tmp 152) rfl g2 #[.int .u32 R.p.round, .int .u8 R.p.node] rfl rfl 34 #[.int .u32 0, .int .u8 0] ROWg2.out (by kernel_rfl) rfl (by kernel_rfl) ?_
            have kk := Keep.setRow v13 g2 #[.int .u32 R.p.round, .int .u8 R.p.node]
            have rr := setRow_heap v13 g2 _ #[.int .u32 R.p.round, .int .u8 R.p.node] _ _ ROWg2.out
            generalize v13.setRow g2 #[.int .u32 R.p.round, .int .u8 R.p.node] = v14 at *
            have SS : Hid (Holds v14 [(⟨xb, 0, none⟩, .slice (some ⟨H.aA, 0, none⟩) n H.cA), (⟨mb, 0, none⟩, .int .i64 (m.to_ : Int)), (⟨H.aA, m.to_, none⟩, .pointer (some ⟨H.hA m.to_, 0, none⟩)), (⟨mb, 2, none⟩, .int .u32 m.b.round), (⟨mb, 3, none⟩, .int .u8 m.b.node)]) := Lib.hid (SS.out.keep kk (fun p hp hm => by have := (HL.out p hp).2; rw [List.mem_singleton.1 hm] at this; have := GEg2.out; omega))
            have PO := Lib.hid (POSTK.out _ _ _ PO.out kk (fun q hq => by rw [List.mem_singleton.1 hq]; exact GEg2.out))
            have KP : Hid (Keep [H.gA m.to_] w4 v14) := Lib.hid (((KP.out.mono (T := g2 :: [H.gA m.to_]) (fun q hq => .inl (List.mem_cons_of_mem _ hq))).trans (kk.mono (T := g2 :: [H.gA m.to_]) (fun q hq => .inl (by rw [List.mem_singleton.1 hq]; exact List.mem_cons_self ..)))).mono (fun q hq => by
              rcases List.mem_cons.1 hq with rfl | hq
              · exact .inr GEg2.out
              · exact .inl hq))
            have ROWg1 : Hid (v14.heap[g1]? = _) := Lib.hid (row_keep ROWg1.out kk (by simpa using NEg1g2.out))
            have ROWg2 := Lib.hid rr
            clear kk rr
            refine hK.out _ _ SS.out (fun _ => ?_)
            clear hK K
            try simp only [Act.put, List.getElem_toArray, List.getElem_cons_succ, List.getElem_cons_zero, List.setIfInBounds_toArray, List.set_cons_zero, List.set_cons_succ, Nat.zero_add, List.nil_append]
            refine wpAnyH_take (i := 21) (v := .bool R.ok) rfl (by kernel_rfl) (by kernel_rfl) (by kernel_rfl) (fun _ _ _ h => h) (Or.inl ⟨by rfl, fun w' hw' => by go_simp⟩) SS.out ?_
            try simp only [Act.put, List.getElem_toArray, List.getElem_cons_succ, List.getElem_cons_zero, List.setIfInBounds_toArray, List.set_cons_zero, List.set_cons_succ, Nat.zero_add, List.nil_append]
            refine wpAnyH_take (i := 22) (v := .int .i64 R.e) rfl (by kernel_rfl) (by kernel_rfl) (by kernel_rfl) (fun _ _ _ h => h) (Or.inl ⟨by rfl, fun w' hw' => by go_simp⟩) SS.out ?_
            try simp only [Act.put, List.getElem_toArray, List.getElem_cons_succ, List.getElem_cons_zero, List.setIfInBounds_toArray, List.set_cons_zero, List.set_cons_succ, Nat.zero_add, List.nil_append]
            refine wpAnyH_done (by kernel_rfl) ?_ _
            clear SS BE
            go_wp2_with fail
            go_meet
            exact ⟨g1, g2, rfl, rfl, rfl, rfl, GEg1.out, GEg2.out, ROWg1.out, ROWg2.out, PO.out, KP.out⟩
          · skip
            rw [if_pos (by rfl)]
            go_simp
            have bb := below_alloc (Below.refl v10.heap.size v10) (.cells #[.int .u32 0, .int .u8 0] 34)
            have rr := heap_alloc_new v10 (.cells #[.int .u32 0, .int .u8 0] 34)
            have ll : v10.heap.size < (v10.alloc (.cells #[.int .u32 0, .int .u8 0] 34)).heap.size := by simp
            generalize v10.alloc (.cells #[.int .u32 0, .int .u8 0] 34) = v15 at *
            obtain ⟨g2, hg⟩ : ∃ q, q = v10.heap.size := ⟨_, rfl⟩
            rw [← hg] at rr ll ⊢
            have GEg2 : Hid (w4.heap.size ≤ g2) := Lib.hid (by have := KP.out.size; omega)
            have ROWg2 := Lib.hid rr
            have LTg2 := Lib.hid ll
            have SS : Hid (Holds v15 [(⟨xb, 0, none⟩, .slice (some ⟨H.aA, 0, none⟩) n H.cA), (⟨mb, 0, none⟩, .int .i64 (m.to_ : Int)), (⟨H.aA, m.to_, none⟩, .pointer (some ⟨H.hA m.to_, 0, none⟩)), (⟨mb, 2, none⟩, .int .u32 m.b.round), (⟨mb, 3, none⟩, .int .u8 m.b.node)]) := Lib.hid (SS.out.below bb)
            have NEg1g2 : Hid (g1 ≠ g2) := Lib.hid (by have := LTg1.out; omega)
            have ROWg1 : Hid (v15.heap[g1]? = _) := Lib.hid (row_keep ROWg1.out (Keep.of_below bb []) (by simp))
            have LTg1 : Hid (g1 < v15.heap.size) := Lib.hid (Nat.lt_of_lt_of_le LTg1.out bb.size)
            have KP : Hid (Keep [H.gA m.to_] w4 v15) := Lib.hid (KP.out.trans (Keep.of_below bb _))
            have BE : Hid (Below w4.heap.size w4 v15) := Lib.hid (below_next BE.out bb)
            clear bb rr ll hg
            refine hK.out _ _ SS.out (fun _ => ?_)
            clear hK K
            try simp only [Act.put, List.getElem_toArray, List.getElem_cons_succ, List.getElem_cons_zero, List.setIfInBounds_toArray, List.set_cons_zero, List.set_cons_succ, Nat.zero_add, List.nil_append]
            refine wpAnyH_ready (rs := [11]) (by kernel_rfl) (by simp) ?_
            refine AllReadyH.cons rfl (fun K hK => ?_) AllReadyH.nil
            go_simp
            refine (CALL.out v15 BE.out).mono ?_
            rintro e v16 ⟨rfl, po, kk⟩
            have SS : Hid (Holds v16 [(⟨xb, 0, none⟩, .slice (some ⟨H.aA, 0, none⟩) n H.cA), (⟨mb, 0, none⟩, .int .i64 (m.to_ : Int)), (⟨H.aA, m.to_, none⟩, .pointer (some ⟨H.hA m.to_, 0, none⟩)), (⟨mb, 2, none⟩, .int .u32 m.b.round), (⟨mb, 3, none⟩, .int .u8 m.b.node)]) := Lib.hid (SS.out.keep kk HPN.out)
            have PO := Lib.hid po
            have ROWg1 : Hid (v16.heap[g1]? = _) := Lib.hid (row_keep ROWg1.out kk (fun hm => by have := HUL.out _ hm; have := GEg1.out; omega))
            have LTg1 : Hid (g1 < v16.heap.size) := Lib.hid (Nat.lt_of_lt_of_le LTg1.out kk.size)
            have ROWg2 : Hid (v16.heap[g2]? = _) := Lib.hid (row_keep ROWg2.out kk (fun hm => by have := HUL.out _ hm; have := GEg2.out; omega))
            have LTg2 : Hid (g2 < v16.heap.size) := Lib.hid (Nat.lt_of_lt_of_le LTg2.out kk.size)
            have KP : Hid (Keep [H.gA m.to_] w4 v16) := Lib.hid (KP.out.trans kk)
            clear po kk
            refine hK.out _ _ SS.out (fun _ => ?_)
            clear hK K
            try simp only [Act.put, List.getElem_toArray, List.getElem_cons_succ, List.getElem_cons_zero, List.setIfInBounds_toArray, List.set_cons_zero, List.set_cons_succ, Nat.zero_add, List.nil_append]
            refine wpAnyH_take (i := 12) (v := .tuple #[.agg #[.bool R.a.is, .int .u32 R.a.b.round, .int .u8 R.a.b.node, .string R.a.v], .agg #[.int .u32 R.p.round, .int .u8 R.p.node], .bool R.ok, .int .i64 R.e]) rfl (by kernel_rfl) (by kernel_rfl) (by kernel_rfl) (fun _ _ _ h => h) (Or.inl ⟨by rfl, fun w' hw' => by go_simp⟩) SS.out ?_
            try simp only [Act.put, List.getElem_toArray, List.getElem_cons_succ, List.getElem_cons_zero, List.setIfInBounds_toArray, List.set_cons_zero, List.set_cons_succ, Nat.zero_add, List.nil_append]
            refine wpAnyH_take (i := 13) (v := .agg #[.bool R.a.is, .int .u32 R.a.b.round, .int .u8 R.a.b.node, .string R.a.v]) rfl (by kernel_rfl) (by kernel_rfl) (by kernel_rfl) (fun _ _ _ h => h) (Or.inl ⟨by rfl, fun w' hw' => by go_simp⟩) SS.out ?_
            try simp only [Act.put, List.getElem_toArray, List.getElem_cons_succ, List.getElem_cons_zero, List.setIfInBounds_toArray, List.set_cons_zero, List.set_cons_succ, Nat.zero_add, List.nil_append]
            refine wpAnyH_take (i := 14) (v := .agg #[.int .u32 R.p.round, .int .u8 R.p.node]) rfl (by kernel_rfl) (by kernel_rfl) (by kernel_rfl) (fun _ _ _ h => h) (Or.inl ⟨by rfl, fun w' hw' => by go_simp⟩) SS.out ?_
            try simp only [Act.put, List.getElem_toArray, List.getElem_cons_succ, List.getElem_cons_zero, List.setIfInBounds_toArray, List.set_cons_zero, List.set_cons_succ, Nat.zero_add, List.nil_append]
            refine wpAnyH_take (i := 15) (v := .bool R.ok) rfl (by kernel_rfl) (by kernel_rfl) (by kernel_rfl) (fun _ _ _ h => h) (Or.inl ⟨by rfl, fun w' hw' => by go_simp⟩) SS.out ?_
            try simp only [Act.put, List.getElem_toArray, List.getElem_cons_succ, List.getElem_cons_zero, List.setIfInBounds_toArray, List.set_cons_zero, List.set_cons_succ, Nat.zero_add, List.nil_append]
            refine wpAnyH_take (i := 16) (v := .int .i64 R.e) rfl (by kernel_rfl) (by kernel_rfl) (by kernel_rfl) (fun _ _ _ h => h) (Or.inl ⟨by rfl, fun w' hw' => by go_simp⟩) SS.out ?_
            try simp only [Act.put, List.getElem_toArray, List.getElem_cons_succ, List.getElem_cons_zero, List.setIfInBounds_toArray, List.set_cons_zero, List.set_cons_succ, Nat.zero_add, List.nil_append]
            refine wpAnyH_ready (rs := [19]) (by kernel_rfl) (by simp) ?_
            refine AllReadyH.cons rfl (fun K hK => ?_) AllReadyH.nil
            rw [if_pos (by rfl)]
            refine wp_store_row 42 (.tmp 11) (.tmp 151) rfl g1 #[.bool R.a.is, .int .u32 R.a.b.round, .int .u8 R.a.b.node, .string R.a.v] rfl rfl 42 #[.bool false, .int .u32 0, .int .u8 0, .string ⟨#[]⟩] ROWg1.out (by kernel_rfl) rfl (by kernel_rfl) ?_
            have kk := Keep.setRow v16 g1 #[.bool R.a.is, .int .u32 R.a.b.round, .int .u8 R.a.b.node, .string R.a.v]
            have rr := setRow_heap v16 g1 _ #[.bool R.a.is, .int .u32 R.a.b.round, .int .u8 R.a.b.node, .string R.a.v] _ _ ROWg1.out
            generalize v16.setRow g1 #[.bool R.a.is, .int .u32 R.a.b.round, .int .u8 R.a.b.node, .string R.a.v] = v17 at *
            have SS : Hid (Holds v17 [(⟨xb, 0, none⟩, .slice (some ⟨H.aA, 0, none⟩) n H.cA), (⟨mb, 0, none⟩, .int .i64 (m.to_ : Int)), (⟨H.aA, m.to_, none⟩, .pointer (some ⟨H.hA m.to_, 0, none⟩)), (⟨mb, 2, none⟩, .int .u32 m.b.round), (⟨mb, 3, none⟩, .int .u8 m.b.node)]) := Lib.hid (SS.out.keep kk (fun p hp hm => by have := (HL.out p hp).2; rw [List.mem_singleton.1 hm] at this; have := GEg1.out; omega))
            have PO := Lib.hid (POSTK.out _ _ _ PO.out kk (fun q hq => by rw [List.mem_singleton.1 hq]; exact GEg1.out))
            have KP : Hid (Keep [H.gA m.to_] w4 v17) := Lib.hid (((KP.out.mono (T := g1 :: [H.gA m.to_]) (fun q hq => .inl (List.mem_cons_of_mem _ hq))).trans (kk.mono (T := g1 :: [H.gA m.to_]) (fun q hq => .inl (by rw [List.mem_singleton.1 hq]; exact List.mem_cons_self ..)))).mono (fun q hq => by
              rcases List.mem_cons.1 hq with rfl | hq
              · exact .inr GEg1.out
              · exact .inl hq))
            have ROWg2 : Hid (v17.heap[g2]? = _) := Lib.hid (row_keep ROWg2.out kk (by simpa using NEg1g2.out.symm))
            have ROWg1 := Lib.hid rr
            clear kk rr
            refine hK.out _ _ SS.out (fun _ => ?_)
            clear hK K
            try simp only [Act.put, List.getElem_toArray, List.getElem_cons_succ, List.getElem_cons_zero, List.setIfInBounds_toArray, List.set_cons_zero, List.set_cons_succ, Nat.zero_add, List.nil_append]
            refine wpAnyH_ready (rs := [20]) (by kernel_rfl) (by simp) ?_
            refine AllReadyH.cons rfl (fun K hK => ?_) AllReadyH.nil
            rw [if_pos (by rfl)]
            refine wp_store_row 34 (.tmp 12) (.tmp 152) rfl g2 #[.int .u32 R.p.round, .int .u8 R.p.node] rfl rfl 34 #[.int .u32 0, .int .u8 0] ROWg2.out (by kernel_rfl) rfl (by kernel_rfl) ?_
            have kk := Keep.setRow v17 g2 #[.int .u32 R.p.round, .int .u8 R.p.node]
            have rr := setRow_heap v17 g2 _ #[.int .u32 R.p.round, .int .u8 R.p.node] _ _ ROWg2.out
            generalize v17.setRow g2 #[.int .u32 R.p.round, .int .u8 R.p.node] = v18 at *
            have SS : Hid (Holds v18 [(⟨xb, 0, none⟩, .slice (some ⟨H.aA, 0, none⟩) n H.cA), (⟨mb, 0, none⟩, .int .i64 (m.to_ : Int)), (⟨H.aA, m.to_, none⟩, .pointer (some ⟨H.hA m.to_, 0, none⟩)), (⟨mb, 2, none⟩, .int .u32 m.b.round), (⟨mb, 3, none⟩, .int .u8 m.b.node)]) := Lib.hid (SS.out.keep kk (fun p hp hm => by have := (HL.out p hp).2; rw [List.mem_singleton.1 hm] at this; have := GEg2.out; omega))
            have PO := Lib.hid (POSTK.out _ _ _ PO.out kk (fun q hq => by rw [List.mem_singleton.1 hq]; exact GEg2.out))
            have KP : Hid (Keep [H.gA m.to_] w4 v18) := Lib.hid (((KP.out.mono (T := g2 :: [H.gA m.to_]) (fun q hq => .inl (List.mem_cons_of_mem _ hq))).trans (kk.mono (T := g2 :: [H.gA m.to_]) (fun q hq => .inl (by rw [List.mem_singleton.1 hq]; exact List.mem_cons_self ..)))).mono (fun q hq => by
              rcases List.mem_cons.1 hq with rfl | hq
              · exact .inr GEg2.out
              · exact .inl hq))
            have ROWg1 : Hid (v18.heap[g1]? = _) := Lib.hid (row_keep ROWg1.out kk (by simpa using NEg1g2.out))
            have ROWg2 := Lib.hid rr
            clear kk rr
            refine hK.out _ _ SS.out (fun _ => ?_)
            clear hK K
            try simp only [Act.put, List.getElem_toArray, List.getElem_cons_succ, List.getElem_cons_zero, List.setIfInBounds_toArray, List.set_cons_zero, List.set_cons_succ, Nat.zero_add, List.nil_append]
            refine wpAnyH_take (i := 21) (v := .bool R.ok) rfl (by kernel_rfl) (by kernel_rfl) (by kernel_rfl) (fun _ _ _ h => h) (Or.inl ⟨by rfl, fun w' hw' => by go_simp⟩) SS.out ?_
            try simp only [Act.put, List.getElem_toArray, List.getElem_cons_succ, List.getElem_cons_zero, List.setIfInBounds_toArray, List.set_cons_zero, List.set_cons_succ, Nat.zero_add, List.nil_append]
            refine wpAnyH_take (i := 22) (v := .int .i64 R.e) rfl (by kernel_rfl) (by kernel_rfl) (by kernel_rfl) (fun _ _ _ h => h) (Or.inl ⟨by rfl, fun w' hw' => by go_simp⟩) SS.out ?_
            try simp only [Act.put, List.getElem_toArray, List.getElem_cons_succ, List.getElem_cons_zero, List.setIfInBounds_toArray, List.set_cons_zero, List.set_cons_succ, Nat.zero_add, List.nil_append]
            refine wpAnyH_done (by kernel_rfl) ?_ _
            clear SS BE
            go_wp2_with fail
            go_meet
            exact ⟨g1, g2, rfl, rfl, rfl, rfl, GEg1.out, GEg2.out, ROWg1.out, ROWg2.out, PO.out, KP.out⟩
        · skip
          rw [if_pos (by rfl)]
          go_simp
          have bb := below_alloc (Below.refl v0.heap.size v0) (.cells #[.int .u32 0, .int .u8 0] 34)
          have rr := heap_alloc_new v0 (.cells #[.int .u32 0, .int .u8 0] 34)
          have ll : v0.heap.size < (v0.alloc (.cells #[.int .u32 0, .int .u8 0] 34)).heap.size := by simp
          generalize v0.alloc (.cells #[.int .u32 0, .int .u8 0] 34) = v19 at *
          obtain ⟨g2, hg⟩ : ∃ q, q = v0.heap.size := ⟨_, rfl⟩
          rw [← hg] at rr ll ⊢
          have GEg2 : Hid (w4.heap.size ≤ g2) := Lib.hid (by have := KP.out.size; omega)
          have ROWg2 := Lib.hid rr
          have LTg2 := Lib.hid ll
          have SS : Hid (Holds v19 [(⟨xb, 0, none⟩, .slice (some ⟨H.aA, 0, none⟩) n H.cA), (⟨mb, 0, none⟩, .int .i64 (m.to_ : Int)), (⟨H.aA, m.to_, none⟩, .pointer (some ⟨H.hA m.to_, 0, none⟩)), (⟨mb, 2, none⟩, .int .u32 m.b.round), (⟨mb, 3, none⟩, .int .u8 m.b.node)]) := Lib.hid (SS.out.below bb)
          have KP : Hid (Keep [H.gA m.to_] w4 v19) := Lib.hid (KP.out.trans (Keep.of_below bb _))
          have BE : Hid (Below w4.heap.size w4 v19) := Lib.hid (below_next BE.out bb)
          clear bb rr ll hg
          refine hK.out _ _ SS.out (fun _ => ?_)
          clear hK K
          try simp only [Act.put, List.getElem_toArray, List.getElem_cons_succ, List.getElem_cons_zero, List.setIfInBounds_toArray, List.set_cons_zero, List.set_cons_succ, Nat.zero_add, List.nil_append]
          refine wpAnyH_ready (rs := [11, 17]) (by kernel_rfl) (by simp) ?_
          refine AllReadyH.cons rfl (fun K hK => ?_) (AllReadyH.cons rfl (fun K hK => ?_) AllReadyH.nil)
          · skip
            go_simp
            refine (CALL.out v19 BE.out).mono ?_
            rintro e v20 ⟨rfl, po, kk⟩
            have SS : Hid (Holds v20 [(⟨xb, 0, none⟩, .slice (some ⟨H.aA, 0, none⟩) n H.cA), (⟨mb, 0, none⟩, .int .i64 (m.to_ : Int)), (⟨H.aA, m.to_, none⟩, .pointer (some ⟨H.hA m.to_, 0, none⟩)), (⟨mb, 2, none⟩, .int .u32 m.b.round), (⟨mb, 3, none⟩, .int .u8 m.b.node)]) := Lib.hid (SS.out.keep kk HPN.out)
            have PO := Lib.hid po
            have ROWg2 : Hid (v20.heap[g2]? = _) := Lib.hid (row_keep ROWg2.out kk (fun hm => by have := HUL.out _ hm; have := GEg2.out; omega))
            have LTg2 : Hid (g2 < v20.heap.size) := Lib.hid (Nat.lt_of_lt_of_le LTg2.out kk.size)
            have KP : Hid (Keep [H.gA m.to_] w4 v20) := Lib.hid (KP.out.trans kk)
            clear po kk
            refine hK.out _ _ SS.out (fun _ => ?_)
            clear hK K
            try simp only [Act.put, List.getElem_toArray, List.getElem_cons_succ, List.getElem_cons_zero, List.setIfInBounds_toArray, List.set_cons_zero, List.set_cons_succ, Nat.zero_add, List.nil_append]
            refine wpAnyH_take (i := 12) (v := .tuple #[.agg #[.bool R.a.is, .int .u32 R.a.b.round, .int .u8 R.a.b.node, .string R.a.v], .agg #[.int .u32 R.p.round, .int .u8 R.p.node], .bool R.ok, .int .i64 R.e]) rfl (by kernel_rfl) (by kernel_rfl) (by kernel_rfl) (fun _ _ _ h => h) (Or.inl ⟨by rfl, fun w' hw' => by go_simp⟩) SS.out ?_
            try simp only [Act.put, List.getElem_toArray, List.getElem_cons_succ, List.getElem_cons_zero, List.setIfInBounds_toArray, List.set_cons_zero, List.set_cons_succ, Nat.zero_add, List.nil_append]
            refine wpAnyH_take (i := 13) (v := .agg #[.bool R.a.is, .int .u32 R.a.b.round, .int .u8 R.a.b.node, .string R.a.v]) rfl (by kernel_rfl) (by kernel_rfl) (by kernel_rfl) (fun _ _ _ h => h) (Or.inl ⟨by rfl, fun w' hw' => by go_simp⟩) SS.out ?_
            try simp only [Act.put, List.getElem_toArray, List.getElem_cons_succ, List.getElem_cons_zero, List.setIfInBounds_toArray, List.set_cons_zero, List.set_cons_succ, Nat.zero_add, List.nil_append]
            refine wpAnyH_take (i := 14) (v := .agg #[.int .u32 R.p.round, .int .u8 R.p.node]) rfl (by kernel_rfl) (by kernel_rfl) (by kernel_rfl) (fun _ _ _ h => h) (Or.inl ⟨by rfl, fun w' hw' => by go_simp⟩) SS.out ?_
            try simp only [Act.put, List.getElem_toArray, List.getElem_cons_succ, List.getElem_cons_zero, List.setIfInBounds_toArray, List.set_cons_zero, List.set_cons_succ, Nat.zero_add, List.nil_append]
            refine wpAnyH_take (i := 15) (v := .bool R.ok) rfl (by kernel_rfl) (by kernel_rfl) (by kernel_rfl) (fun _ _ _ h => h) (Or.inl ⟨by rfl, fun w' hw' => by go_simp⟩) SS.out ?_
            try simp only [Act.put, List.getElem_toArray, List.getElem_cons_succ, List.getElem_cons_zero, List.setIfInBounds_toArray, List.set_cons_zero, List.set_cons_succ, Nat.zero_add, List.nil_append]
            refine wpAnyH_take (i := 16) (v := .int .i64 R.e) rfl (by kernel_rfl) (by kernel_rfl) (by kernel_rfl) (fun _ _ _ h => h) (Or.inl ⟨by rfl, fun w' hw' => by go_simp⟩) SS.out ?_
            try simp only [Act.put, List.getElem_toArray, List.getElem_cons_succ, List.getElem_cons_zero, List.setIfInBounds_toArray, List.set_cons_zero, List.set_cons_succ, Nat.zero_add, List.nil_append]
            refine wpAnyH_ready (rs := [17]) (by kernel_rfl) (by simp) ?_
            refine AllReadyH.cons rfl (fun K hK => ?_) AllReadyH.nil
            rw [if_pos (by rfl)]
            go_simp
            have bb := below_alloc (Below.refl v20.heap.size v20) (.cells #[.bool false, .int .u32 0, .int .u8 0, .string ⟨#[]⟩] 42)
            have rr := heap_alloc_new v20 (.cells #[.bool false, .int .u32 0, .int .u8 0, .string ⟨#[]⟩] 42)
            have ll : v20.heap.size < (v20.alloc (.cells #[.bool false, .int .u32 0, .int .u8 0, .string ⟨#[]⟩] 42)).heap.size := by simp
            generalize v20.alloc (.cells #[.bool false, .int .u32 0, .int .u8 0, .string ⟨#[]⟩] 42) = v21 at *
            obtain ⟨g1, hg⟩ : ∃ q, q = v20.heap.size := ⟨_, rfl⟩
            rw [← hg] at rr ll ⊢
            have GEg1 : Hid (w4.heap.size ≤ g1) := Lib.hid (by have := KP.out.size; omega)
            have ROWg1 := Lib.hid rr
            have LTg1 := Lib.hid ll
            have SS : Hid (Holds v21 [(⟨xb, 0, none⟩, .slice (some ⟨H.aA, 0, none⟩) n H.cA), (⟨mb, 0, none⟩, .int .i64 (m.to_ : Int)), (⟨H.aA, m.to_, none⟩, .pointer (some ⟨H.hA m.to_, 0, none⟩)), (⟨mb, 2, none⟩, .int .u32 m.b.round), (⟨mb, 3, none⟩, .int .u8 m.b.node)]) := Lib.hid (SS.out.below bb)
            have NEg2g1 : Hid (g2 ≠ g1) := Lib.hid (by have := LTg2.out; omega)
            have ROWg2 : Hid (v21.heap[g2]? = _) := Lib.hid (row_keep ROWg2.out (Keep.of_below bb []) (by simp))
            have LTg2 : Hid (g2 < v21.heap.size) := Lib.hid (Nat.lt_of_lt_of_le LTg2.out bb.size)
            have KP : Hid (Keep [H.gA m.to_] w4 v21) := Lib.hid (KP.out.trans (Keep.of_below bb _))
            have PO := Lib.hid (POSTK.out _ _ _ PO.out (Keep.of_below bb []) (by simp))
            clear bb rr ll hg
            refine hK.out _ _ SS.out (fun _ => ?_)
            clear hK K
            try simp only [Act.put, List.getElem_toArray, List.getElem_cons_succ, List.getElem_cons_zero, List.setIfInBounds_toArray, List.set_cons_zero, List.set_cons_succ, Nat.zero_add, List.nil_append]
            refine wpAnyH_ready (rs := [19]) (by kernel_rfl) (by simp) ?_
            refine AllReadyH.cons rfl (fun K hK => ?_) AllReadyH.nil
            rw [if_pos (by rfl)]
            refine wp_store_row 42 (.tmp 11) (.tmp 151) rfl g1 #[.bool R.a.is, .int .u32 R.a.b.round, .int .u8 R.a.b.node, .string R.a.v] rfl rfl 42 #[.bool false, .int .u32 0, .int .u8 0, .string ⟨#[]⟩] ROWg1.out (by kernel_rfl) rfl (by kernel_rfl) ?_
            have kk := Keep.setRow v21 g1 #[.bool R.a.is, .int .u32 R.a.b.round, .int .u8 R.a.b.node, .string R.a.v]
            have rr := setRow_heap v21 g1 _ #[.bool R.a.is, .int .u32 R.a.b.round, .int .u8 R.a.b.node, .string R.a.v] _ _ ROWg1.out
            generalize v21.setRow g1 #[.bool R.a.is, .int .u32 R.a.b.round, .int .u8 R.a.b.node, .string R.a.v] = v22 at *
            have SS : Hid (Holds v22 [(⟨xb, 0, none⟩, .slice (some ⟨H.aA, 0, none⟩) n H.cA), (⟨mb, 0, none⟩, .int .i64 (m.to_ : Int)), (⟨H.aA, m.to_, none⟩, .pointer (some ⟨H.hA m.to_, 0, none⟩)), (⟨mb, 2, none⟩, .int .u32 m.b.round), (⟨mb, 3, none⟩, .int .u8 m.b.node)]) := Lib.hid (SS.out.keep kk (fun p hp hm => by have := (HL.out p hp).2; rw [List.mem_singleton.1 hm] at this; have := GEg1.out; omega))
            have PO := Lib.hid (POSTK.out _ _ _ PO.out kk (fun q hq => by rw [List.mem_singleton.1 hq]; exact GEg1.out))
            have KP : Hid (Keep [H.gA m.to_] w4 v22) := Lib.hid (((KP.out.mono (T := g1 :: [H.gA m.to_]) (fun q hq => .inl (List.mem_cons_of_mem _ hq))).trans (kk.mono (T := g1 :: [H.gA m.to_]) (fun q hq => .inl (by rw [List.mem_singleton.1 hq]; exact List.mem_cons_self ..)))).mono (fun q hq => by
              rcases List.mem_cons.1 hq with rfl | hq
              · exact .inr GEg1.out
              · exact .inl hq))
            have ROWg2 : Hid (v22.heap[g2]? = _) := Lib.hid (row_keep ROWg2.out kk (by simpa using NEg2g1.out))
            have ROWg1 := Lib.hid rr
            clear kk rr
            refine hK.out _ _ SS.out (fun _ => ?_)
            clear hK K
            try simp only [Act.put, List.getElem_toArray, List.getElem_cons_succ, List.getElem_cons_zero, List.setIfInBounds_toArray, List.set_cons_zero, List.set_cons_succ, Nat.zero_add, List.nil_append]
            refine wpAnyH_ready (rs := [20]) (by kernel_rfl) (by simp) ?_
            refine AllReadyH.cons rfl (fun K hK => ?_) AllReadyH.nil
            rw [if_pos (by rfl)]
            refine wp_store_row 34 (.tmp 12) (.tmp 152) rfl g2 #[.int .u32 R.p.round, .int .u8 R.p.node] rfl rfl 34 #[.int .u32 0, .int .u8 0] ROWg2.out (by kernel_rfl) rfl (by kernel_rfl) ?_
            have kk := Keep.setRow v22 g2 #[.int .u32 R.p.round, .int .u8 R.p.node]
            have rr := setRow_heap v22 g2 _ #[.int .u32 R.p.round, .int .u8 R.p.node] _ _ ROWg2.out
            generalize v22.setRow g2 #[.int .u32 R.p.round, .int .u8 R.p.node] = v23 at *
            have SS : Hid (Holds v23 [(⟨xb, 0, none⟩, .slice (some ⟨H.aA, 0, none⟩) n H.cA), (⟨mb, 0, none⟩, .int .i64 (m.to_ : Int)), (⟨H.aA, m.to_, none⟩, .pointer (some ⟨H.hA m.to_, 0, none⟩)), (⟨mb, 2, none⟩, .int .u32 m.b.round), (⟨mb, 3, none⟩, .int .u8 m.b.node)]) := Lib.hid (SS.out.keep kk (fun p hp hm => by have := (HL.out p hp).2; rw [List.mem_singleton.1 hm] at this; have := GEg2.out; omega))
            have PO := Lib.hid (POSTK.out _ _ _ PO.out kk (fun q hq => by rw [List.mem_singleton.1 hq]; exact GEg2.out))
            have KP : Hid (Keep [H.gA m.to_] w4 v23) := Lib.hid (((KP.out.mono (T := g2 :: [H.gA m.to_]) (fun q hq => .inl (List.mem_cons_of_mem _ hq))).trans (kk.mono (T := g2 :: [H.gA m.to_]) (fun q hq => .inl (by rw [List.mem_singleton.1 hq]; exact List.mem_cons_self ..)))).mono (fun q hq => by
              rcases List.mem_cons.1 hq with rfl | hq
              · exact .inr GEg2.out
              · exact .inl hq))
            have ROWg1 : Hid (v23.heap[g1]? = _) := Lib.hid (row_keep ROWg1.out kk (by simpa using NEg2g1.out.symm))
            have ROWg2 := Lib.hid rr
            clear kk rr
            refine hK.out _ _ SS.out (fun _ => ?_)
            clear hK K
            try simp only [Act.put, List.getElem_toArray, List.getElem_cons_succ, List.getElem_cons_zero, List.setIfInBounds_toArray, List.set_cons_zero, List.set_cons_succ, Nat.zero_add, List.nil_append]
            refine wpAnyH_take (i := 21) (v := .bool R.ok) rfl (by kernel_rfl) (by kernel_rfl) (by kernel_rfl) (fun _ _ _ h => h) (Or.inl ⟨by rfl, fun w' hw' => by go_simp⟩) SS.out ?_
            try simp only [Act.put, List.getElem_toArray, List.getElem_cons_succ, List.getElem_cons_zero, List.setIfInBounds_toArray, List.set_cons_zero, List.set_cons_succ, Nat.zero_add, List.nil_append]
            refine wpAnyH_take (i := 22) (v := .int .i64 R.e) rfl (by kernel_rfl) (by kernel_rfl) (by kernel_rfl) (fun _ _ _ h => h) (Or.inl ⟨by rfl, fun w' hw' => by go_simp⟩) SS.out ?_
            try simp only [Act.put, List.getElem_toArray, List.getElem_cons_succ, List.getElem_cons_zero, List.setIfInBounds_toArray, List.set_cons_zero, List.set_cons_succ, Nat.zero_add, List.nil_append]
            refine wpAnyH_done (by kernel_rfl) ?_ _
            clear SS BE
            go_wp2_with fail
            go_meet
            exact ⟨g1, g2, rfl, rfl, rfl, rfl, GEg1.out, GEg2.out, ROWg1.out, ROWg2.out, PO.out, KP.out⟩
          · skip
            rw [if_pos (by rfl)]
            go_simp
            have bb := below_alloc (Below.refl v19.heap.size v19) (.cells #[.bool false, .int .u32 0, .int .u8 0, .string ⟨#[]⟩] 42)
            have rr := heap_alloc_new v19 (.cells #[.bool false, .int .u32 0, .int .u8 0, .string ⟨#[]⟩] 42)
            have ll : v19.heap.size < (v19.alloc (.cells #[.bool false, .int .u32 0, .int .u8 0, .string ⟨#[]⟩] 42)).heap.size := by simp
            generalize v19.alloc (.cells #[.bool false, .int .u32 0, .int .u8 0, .string ⟨#[]⟩] 42) = v24 at *
            obtain ⟨g1, hg⟩ : ∃ q, q = v19.heap.size := ⟨_, rfl⟩
            rw [← hg] at rr ll ⊢
            have GEg1 : Hid (w4.heap.size ≤ g1) := Lib.hid (by have := KP.out.size; omega)
            have ROWg1 := Lib.hid rr
            have LTg1 := Lib.hid ll
            have SS : Hid (Holds v24 [(⟨xb, 0, none⟩, .slice (some ⟨H.aA, 0, none⟩) n H.cA), (⟨mb, 0, none⟩, .int .i64 (m.to_ : Int)), (⟨H.aA, m.to_, none⟩, .pointer (some ⟨H.hA m.to_, 0, none⟩)), (⟨mb, 2, none⟩, .int .u32 m.b.round), (⟨mb, 3, none⟩, .int .u8 m.b.node)]) := Lib.hid (SS.out.below bb)
            have NEg2g1 : Hid (g2 ≠ g1) := Lib.hid (by have := LTg2.out; omega)
            have ROWg2 : Hid (v24.heap[g2]? = _) := Lib.hid (row_keep ROWg2.out (Keep.of_below bb []) (by simp))
            have LTg2 : Hid (g2 < v24.heap.size) := Lib.hid (Nat.lt_of_lt_of_le LTg2.out bb.size)
            have KP : Hid (Keep [H.gA m.to_] w4 v24) := Lib.hid (KP.out.trans (Keep.of_below bb _))
            have BE : Hid (Below w4.heap.size w4 v24) := Lib.hid (below_next BE.out bb)
            clear bb rr ll hg
            refine hK.out _ _ SS.out (fun _ => ?_)
            clear hK K
            try simp only [Act.put, List.getElem_toArray, List.getElem_cons_succ, List.getElem_cons_zero, List.setIfInBounds_toArray, List.set_cons_zero, List.set_cons_succ, Nat.zero_add, List.nil_append]
            refine wpAnyH_ready (rs := [11]) (by kernel_rfl) (by simp) ?_
            refine AllReadyH.cons rfl (fun K hK => ?_) AllReadyH.nil
            go_simp
            refine (CALL.out v24 BE.out).mono ?_
            rintro e v25 ⟨rfl, po, kk⟩
            have SS : Hid (Holds v25 [(⟨xb, 0, none⟩, .slice (some ⟨H.aA, 0, none⟩) n H.cA), (⟨mb, 0, none⟩, .int .i64 (m.to_ : Int)), (⟨H.aA, m.to_, none⟩, .pointer (some ⟨H.hA m.to_, 0, none⟩)), (⟨mb, 2, none⟩, .int .u32 m.b.round), (⟨mb, 3, none⟩, .int .u8 m.b.node)]) := Lib.hid (SS.out.keep kk HPN.out)
            have PO := Lib.hid po
            have ROWg2 : Hid (v25.heap[g2]? = _) := Lib.hid (row_keep ROWg2.out kk (fun hm => by have := HUL.out _ hm; have := GEg2.out; omega))
            have LTg2 : Hid (g2 < v25.heap.size) := Lib.hid (Nat.lt_of_lt_of_le LTg2.out kk.size)
            have ROWg1 : Hid (v25.heap[g1]? = _) := Lib.hid (row_keep ROWg1.out kk (fun hm => by have := HUL.out _ hm; have := GEg1.out; omega))
            have LTg1 : Hid (g1 < v25.heap.size) := Lib.hid (Nat.lt_of_lt_of_le LTg1.out kk.size)
            have KP : Hid (Keep [H.gA m.to_] w4 v25) := Lib.hid (KP.out.trans kk)
            clear po kk
            refine hK.out _ _ SS.out (fun _ => ?_)
            clear hK K
            try simp only [Act.put, List.getElem_toArray, List.getElem_cons_succ, List.getElem_cons_zero, List.setIfInBounds_toArray, List.set_cons_zero, List.set_cons_succ, Nat.zero_add, List.nil_append]
            refine wpAnyH_take (i := 12) (v := .tuple #[.agg #[.bool R.a.is, .int .u32 R.a.b.round, .int .u8 R.a.b.node, .string R.a.v], .agg #[.int .u32 R.p.round, .int .u8 R.p.node], .bool R.ok, .int .i64 R.e]) rfl (by kernel_rfl) (by kernel_rfl) (by kernel_rfl) (fun _ _ _ h => h) (Or.inl ⟨by rfl, fun w' hw' => by go_simp⟩) SS.out ?_
            try simp only [Act.put, List.getElem_toArray, List.getElem_cons_succ, List.getElem_cons_zero, List.setIfInBounds_toArray, List.set_cons_zero, List.set_cons_succ, Nat.zero_add, List.nil_append]
            refine wpAnyH_take (i := 13) (v := .agg #[.bool R.a.is, .int .u32 R.a.b.round, .int .u8 R.a.b.node, .string R.a.v]) rfl (by kernel_rfl) (by kernel_rfl) (by kernel_rfl) (fun _ _ _ h => h) (Or.inl ⟨by rfl, fun w' hw' => by go_simp⟩) SS.out ?_
            try simp only [Act.put, List.getElem_toArray, List.getElem_cons_succ, List.getElem_cons_zero, List.setIfInBounds_toArray, List.set_cons_zero, List.set_cons_succ, Nat.zero_add, List.nil_append]
            refine wpAnyH_take (i := 14) (v := .agg #[.int .u32 R.p.round, .int .u8 R.p.node]) rfl (by kernel_rfl) (by kernel_rfl) (by kernel_rfl) (fun _ _ _ h => h) (Or.inl ⟨by rfl, fun w' hw' => by go_simp⟩) SS.out ?_
            try simp only [Act.put, List.getElem_toArray, List.getElem_cons_succ, List.getElem_cons_zero, List.setIfInBounds_toArray, List.set_cons_zero, List.set_cons_succ, Nat.zero_add, List.nil_append]
            refine wpAnyH_take (i := 15) (v := .bool R.ok) rfl (by kernel_rfl) (by kernel_rfl) (by kernel_rfl) (fun _ _ _ h => h) (Or.inl ⟨by rfl, fun w' hw' => by go_simp⟩) SS.out ?_
            try simp only [Act.put, List.getElem_toArray, List.getElem_cons_succ, List.getElem_cons_zero, List.setIfInBounds_toArray, List.set_cons_zero, List.set_cons_succ, Nat.zero_add, List.nil_append]
            refine wpAnyH_take (i := 16) (v := .int .i64 R.e) rfl (by kernel_rfl) (by kernel_rfl) (by kernel_rfl) (fun _ _ _ h => h) (Or.inl ⟨by rfl, fun w' hw' => by go_simp⟩) SS.out ?_
            try simp only [Act.put, List.getElem_toArray, List.getElem_cons_succ, List.getElem_cons_zero, List.setIfInBounds_toArray, List.set_cons_zero, List.set_cons_succ, Nat.zero_add, List.nil_append]
            refine wpAnyH_ready (rs := [19]) (by kernel_rfl) (by simp) ?_
            refine AllReadyH.cons rfl (fun K hK => ?_) AllReadyH.nil
            rw [if_pos (by rfl)]
            refine wp_store_row 42 (.tmp 11) (.tmp 151) rfl g1 #[.bool R.a.is, .int .u32 R.a.b.round, .int .u8 R.a.b.node, .string R.a.v] rfl rfl 42 #[.bool false, .int .u32 0, .int .u8 0, .string ⟨#[]⟩] ROWg1.out (by kernel_rfl) rfl (by kernel_rfl) ?_
            have kk := Keep.setRow v25 g1 #[.bool R.a.is, .int .u32 R.a.b.round, .int .u8 R.a.b.node, .string R.a.v]
            have rr := setRow_heap v25 g1 _ #[.bool R.a.is, .int .u32 R.a.b.round, .int .u8 R.a.b.node, .string R.a.v] _ _ ROWg1.out
            generalize v25.setRow g1 #[.bool R.a.is, .int .u32 R.a.b.round, .int .u8 R.a.b.node, .string R.a.v] = v26 at *
            have SS : Hid (Holds v26 [(⟨xb, 0, none⟩, .slice (some ⟨H.aA, 0, none⟩) n H.cA), (⟨mb, 0, none⟩, .int .i64 (m.to_ : Int)), (⟨H.aA, m.to_, none⟩, .pointer (some ⟨H.hA m.to_, 0, none⟩)), (⟨mb, 2, none⟩, .int .u32 m.b.round), (⟨mb, 3, none⟩, .int .u8 m.b.node)]) := Lib.hid (SS.out.keep kk (fun p hp hm => by have := (HL.out p hp).2; rw [List.mem_singleton.1 hm] at this; have := GEg1.out; omega))
            have PO := Lib.hid (POSTK.out _ _ _ PO.out kk (fun q hq => by rw [List.mem_singleton.1 hq]; exact GEg1.out))
            have KP : Hid (Keep [H.gA m.to_] w4 v26) := Lib.hid (((KP.out.mono (T := g1 :: [H.gA m.to_]) (fun q hq => .inl (List.mem_cons_of_mem _ hq))).trans (kk.mono (T := g1 :: [H.gA m.to_]) (fun q hq => .inl (by rw [List.mem_singleton.1 hq]; exact List.mem_cons_self ..)))).mono (fun q hq => by
              rcases List.mem_cons.1 hq with rfl | hq
              · exact .inr GEg1.out
              · exact .inl hq))
            have ROWg2 : Hid (v26.heap[g2]? = _) := Lib.hid (row_keep ROWg2.out kk (by simpa using NEg2g1.out))
            have ROWg1 := Lib.hid rr
            clear kk rr
            refine hK.out _ _ SS.out (fun _ => ?_)
            clear hK K
            try simp only [Act.put, List.getElem_toArray, List.getElem_cons_succ, List.getElem_cons_zero, List.setIfInBounds_toArray, List.set_cons_zero, List.set_cons_succ, Nat.zero_add, List.nil_append]
            refine wpAnyH_ready (rs := [20]) (by kernel_rfl) (by simp) ?_
            refine AllReadyH.cons rfl (fun K hK => ?_) AllReadyH.nil
            rw [if_pos (by rfl)]
            refine wp_store_row 34 (.tmp 12) (.tmp 152) rfl g2 #[.int .u32 R.p.round, .int .u8 R.p.node] rfl rfl 34 #[.int .u32 0, .int .u8 0] ROWg2.out (by kernel_rfl) rfl (by kernel_rfl) ?_
            have kk := Keep.setRow v26 g2 #[.int .u32 R.p.round, .int .u8 R.p.node]
            have rr := setRow_heap v26 g2 _ #[.int .u32 R.p.round, .int .u8 R.p.node] _ _ ROWg2.out
            generalize v26.setRow g2 #[.int .u32 R.p.round, .int .u8 R.p.node] = v27 at *
            have SS : Hid (Holds v27 [(⟨xb, 0, none⟩, .slice (some ⟨H.aA, 0, none⟩) n H.cA), (⟨mb, 0, none⟩, .int .i64 (m.to_ : Int)), (⟨H.aA, m.to_, none⟩, .pointer (some ⟨H.hA m.to_, 0, none⟩)), (⟨mb, 2, none⟩, .int .u32 m.b.round), (⟨mb, 3, none⟩, .int .u8 m.b.node)]) := Lib.hid (SS.out.keep kk (fun p hp hm => by have := (HL.out p hp).2; rw [List.mem_singleton.1 hm] at this; have := GEg2.out; omega))
            have PO := Lib.hid (POSTK.out _ _ _ PO.out kk (fun q hq => by rw [List.mem_singleton.1 hq]; exact GEg2.out))
            have KP : Hid (Keep [H.gA m.to_] w4 v27) := Lib.hid (((KP.out.mono (T := g2 :: [H.gA m.to_]) (fun q hq => .inl (List.mem_cons_of_mem _ hq))).trans (kk.mono (T := g2 :: [H.gA m.to_]) (fun q hq => .inl (by rw [List.mem_singleton.1 hq]; exact List.mem_cons_self ..)))).mono (fun q hq => by
              rcases List.mem_cons.1 hq with rfl | hq
              · exact .inr GEg2.out
              · exact .inl hq))
            have ROWg1 : Hid (v27.heap[g1]? = _) := Lib.hid (row_keep ROWg1.out kk (by simpa using NEg2g1.out.symm))
            have ROWg2 := Lib.hid rr
            clear kk rr
            refine hK.out _ _ SS.out (fun _ => ?_)
            clear hK K
            try simp only [Act.put, List.getElem_toArray, List.getElem_cons_succ, List.getElem_cons_zero, List.setIfInBounds_toArray, List.set_cons_zero, List.set_cons_succ, Nat.zero_add, List.nil_append]
            refine wpAnyH_take (i := 21) (v := .bool R.ok) rfl (by kernel_rfl) (by kernel_rfl) (by kernel_rfl) (fun _ _ _ h => h) (Or.inl ⟨by rfl, fun w' hw' => by go_simp⟩) SS.out ?_
            try simp only [Act.put, List.getElem_toArray, List.getElem_cons_succ, List.getElem_cons_zero, List.setIfInBounds_toArray, List.set_cons_zero, List.set_cons_succ, Nat.zero_add, List.nil_append]
            refine wpAnyH_take (i := 22) (v := .int .i64 R.e) rfl (by kernel_rfl) (by kernel_rfl) (by kernel_rfl) (fun _ _ _ h => h) (Or.inl ⟨by rfl, fun w' hw' => by go_simp⟩) SS.out ?_
            try simp only [Act.put, List.getElem_toArray, List.getElem_cons_succ, List.getElem_cons_zero, List.setIfInBounds_toArray, List.set_cons_zero, List.set_cons_succ, Nat.zero_add, List.nil_append]
            refine wpAnyH_done (by kernel_rfl) ?_ _
            clear SS BE
            go_wp2_with fail
            go_meet
            exact ⟨g1, g2, rfl, rfl, rfl, rfl, GEg1.out, GEg2.out, ROWg1.out, ROWg2.out, PO.out, KP.out⟩
    case rest =>
      obtain ⟨g1, g2, rfl, rfl, rfl, rfl, hg1, hg2, hr1, hr2, hpo, hkp⟩ := hcut
      have hBW : B ≤ W.heap.size := by have := H0.out.base; have := H0.out.lt; omega
      have hw5 := W4.out.acc2 HTO.out hkp (o2P x m.to_ m.b) hpo
      have HTR := Lib.hid ((Trn.below HBW4.out hBW).trans (W4.out.trn_acc HTO.out hkp))
      have HMB4 : Hid (ours tg W.heap.size mb = 4) := Lib.hid (ours_ge HMB.out)
      have X5 : Hid (wc.heap[mb]? = _) := Lib.hid ((W4.out.trn_acc HTO.out hkp).row X4.out HMB4.out).1
      have HBL := Lib.hid HBW4.out.size
      clear hkp hpo
      by_cases hlow : low m.b (x.r m.to_).p = true
      · have hok : R.ok = false := by rw [HR.out]; simp [prR, hlow]
        have ho2 : o2P x m.to_ m.b = x.A m.to_ := by unfold o2P; rw [if_pos hlow]
        rw [ho2, PX.acc_same] at hw5
        rw [hok]
        clear hr2 hok ho2 hr1
        go_wp2_with fail
        go_end0
        exact ⟨rfl, _, H, x, (hw5.up (by omega)).upc (by omega), hin, HTR.out.start, rfl, by omega, hna⟩
      · have hlf : low m.b (x.r m.to_).p = false := by simpa using hlow
        have hR2 : R = ⟨(x.r m.to_).a, m.b, true, 0⟩ := by rw [HR.out]; simp [prR, hlf]
        have ho2 : o2P x m.to_ m.b = some ⟨m.b, (x.r m.to_).a⟩ := by unfold o2P; rw [if_neg hlow]
        rw [ho2] at hw5
        clear hlow ho2
        have HLF := Lib.hid hlf
        clear hlf HR
        subst hR2
        obtain ⟨AA, hAA⟩ : ∃ q, q = (x.r m.to_).a := ⟨_, rfl⟩
        rw [← hAA] at hr1 hw5
        have HAA := Lib.hid hAA
        obtain ⟨tf, htf⟩ : ∃ tf : Nat, m.fr = (tf : Int) := ⟨m.fr.toNat, by have := HMO.out.fr2 (by have := HP5.out; omega); omega⟩
        have htf3 : tf < 3 := by have := HMO.out.fr3 HP5.out; omega
        have X5 := X5.out
        rw [htf] at X5
        have HTF := Lib.hid htf
        clear htf hAA
        have xl5 := (Array.getElem?_eq_some_iff.1 X5).1
        have hl1 := (Array.getElem?_eq_some_iff.1 hr1).1
        have hl2 := (Array.getElem?_eq_some_iff.1 hr2).1
        have HAO : Hid (AA.b.Ok ∧ AA.v.size ≤ 281474976710656) := Lib.hid (by
          cases hq : (x.r m.to_).a.is
          · rw [HAA.out, hna _ HTO.out hq]; exact ⟨b0_ok, Nat.zero_le _⟩
          · obtain ⟨q, hq1, _, hq2, hq3⟩ := hin.aok m.to_ HTO.out hq
            have hok := W4.out.pt.mok 5 q hq1
            rw [HAA.out, ← hq2, ← hq3]
            exact ⟨hok.bok, hok.vz⟩)
        go_upto_region 21 with (fail)
        have HG14 : Hid (ours tg W.heap.size g1 = 4) := Lib.hid (ours_ge (by have := HBL.out; omega))
        have HG24 : Hid (ours tg W.heap.size g2 = 4) := Lib.hid (ours_ge (by have := HBL.out; omega))
        have HL : Hid (Holds wc [(⟨mb, 1, none⟩, .int .i64 (tf : Int)), (⟨mb, 0, none⟩, .int .i64 (m.to_ : Int)), (⟨g2, 0, none⟩, .int .u32 m.b.round), (⟨g2, 1, none⟩, .int .u8 m.b.node), (⟨g1, 0, none⟩, .bool AA.is), (⟨g1, 1, none⟩, .int .u32 AA.b.round), (⟨g1, 2, none⟩, .int .u8 AA.b.node), (⟨g1, 3, none⟩, .string AA.v)]) := Lib.hid (.cons (cell_of_row wc mb 1 _ _ (0, 0) X5) xl5 (.cons (cell_of_row wc mb 0 _ _ (0, 0) X5) xl5 (.cons (cell_of_row wc g2 0 _ _ (0, 0) hr2) hl2 (.cons (cell_of_row wc g2 1 _ _ (0, 0) hr2) hl2 (.cons (cell_of_row wc g1 0 _ _ (0, 0) hr1) hl1 (.cons (cell_of_row wc g1 1 _ _ (0, 0) hr1) hl1 (.cons (cell_of_row wc g1 2 _ _ (0, 0) hr1) hl1 (.cons (cell_of_row wc g1 3 _ _ (0, 0) hr1) hl1 (.nil _)))))))))
        have HLO : Hid (∀ p ∈ ([(⟨mb, 1, none⟩, .int .i64 (tf : Int)), (⟨mb, 0, none⟩, .int .i64 (m.to_ : Int)), (⟨g2, 0, none⟩, .int .u32 m.b.round), (⟨g2, 1, none⟩, .int .u8 m.b.node), (⟨g1, 0, none⟩, .bool AA.is), (⟨g1, 1, none⟩, .int .u32 AA.b.round), (⟨g1, 2, none⟩, .int .u8 AA.b.node), (⟨g1, 3, none⟩, .string AA.v)] : List (Addr × Value)), ours tg W.heap.size p.1.block = 4 ∨ ours tg W.heap.size p.1.block = 0) := Lib.hid (by
          intro p hp
          simp only [List.mem_cons, List.not_mem_nil, or_false] at hp
          rcases hp with rfl | rfl | rfl | rfl | rfl | rfl | rfl | rfl
          · exact .inl HMB4.out
          · exact .inl HMB4.out
          · exact .inl HG24.out
          · exact .inl HG24.out
          all_goals exact .inl HG14.out)
        have hxt := hw5.xt
        have HN0 : Hid (mb ≠ xb) := Lib.hid (fun e => by have := HMB4.out; rw [e, hxt] at this; omega)
        have HN1 : Hid (g1 ≠ xb) := Lib.hid (fun e => by have := HG14.out; rw [e, hxt] at this; omega)
        have HN2 : Hid (g2 ≠ xb) := Lib.hid (fun e => by have := HG24.out; rw [e, hxt] at this; omega)
        have DB : Hid (d ≤ 20000) := Lib.hid (by omega)
        have HMOK : Hid ((⟨tf, (m.to_ : Int), m.b, nov, AA⟩ : Mg).Ok n 4) := Lib.hid ⟨htf3, ⟨show (-1 : Int) ≤ m.to_ by omega, show (m.to_ : Int) < 5 by omega⟩, fun _ => htoi0, fun h => absurd h (by decide), HMO.out.bok, Nat.zero_le _, HAO.out.1, HAO.out.2⟩
        obtain ⟨x2, hx2⟩ : ∃ q : PX, ({x with A := fun i => if i = m.to_ then some ⟨m.b, AA⟩ else x.A i} : PX) = q := ⟨_, rfl⟩
        rw [hx2] at hw5
        have HX2 := Lib.hid hx2
        have ZB := Lib.hid hw5
        clear hw5 hx2 hr1 hr2 hl1 hl2 xl5 X5 hxt
        obtain ⟨so, hso⟩ : ∃ q, H.sl 4 = q := ⟨_, rfl⟩
        obtain ⟨sn, hsn⟩ : ∃ q, ((x2).ms 4).length = q := ⟨_, rfl⟩
        obtain ⟨sc, hsc⟩ : ∃ q, H.cap 4 = q := ⟨_, rfl⟩
        have HSO := Lib.hid hso; have HSN := Lib.hid hsn; have HSC := Lib.hid hsc
        clear hso hsn hsc
        obtain ⟨i0, hi0, hz0, hz1, hz2⟩ := info_parts sent_info
        have HI := Lib.hid hi0; have HZ0 := Lib.hid hz0; have HZ1 := Lib.hid hz1; have HZ2 := Lib.hid hz2
        clear hi0 hz0 hz1 hz2
        have HBz : Hid (B ≤ wc.heap.size) := Lib.hid (by have := ZB.out.base; have := ZB.out.lt; omega)
        refine wp_region_held_drew (S := fun w' => Holds w' [(⟨mb, 1, none⟩, .int .i64 (tf : Int)), (⟨mb, 0, none⟩, .int .i64 (m.to_ : Int)), (⟨g2, 0, none⟩, .int .u32 m.b.round), (⟨g2, 1, none⟩, .int .u8 m.b.node), (⟨g1, 0, none⟩, .bool AA.is), (⟨g1, 1, none⟩, .int .u32 AA.b.round), (⟨g1, 2, none⟩, .int .u8 AA.b.node), (⟨g1, 3, none⟩, .string AA.v)]) (by kernel_rfl) (HL.out.drew) (fun s0 => ?_)
        have BD : Hid (Below wc.heap.size wc wc.drew) := Lib.hid (Below.refl _ _).drew
        generalize wc.drew = wd at *
        have y0 := ((ZB.out.below BD.out).list (by omega) (by omega) HSO.out HSN.out HSC.out).2.1
        have HXL : Hid (xb < wd.heap.size) := Lib.hid (Nat.lt_of_lt_of_le ZB.out.lt BD.out.size)
        refine wpAnyH_take (i := 0) (v := .pointer (some ⟨xb, 0, none⟩)) rfl (by kernel_rfl) (by kernel_rfl) (by kernel_rfl) (fun _ _ _ h => h) (Or.inl ⟨by rfl, fun w' hw' => by go_simp⟩) s0 ?_
        try simp only [Act.put, List.getElem_toArray, List.getElem_cons_succ, List.getElem_cons_zero, List.setIfInBounds_toArray, List.set_cons_zero, List.set_cons_succ, Nat.zero_add, List.nil_append]
        refine wpAnyH_take (i := 1) (v := .pointer (some ⟨xb, 0, none⟩)) rfl (by kernel_rfl) (by kernel_rfl) (by kernel_rfl) (fun _ _ _ h => h) (Or.inl ⟨by rfl, fun w' hw' => by go_simp⟩) s0 ?_
        try simp only [Act.put, List.getElem_toArray, List.getElem_cons_succ, List.getElem_cons_zero, List.setIfInBounds_toArray, List.set_cons_zero, List.set_cons_succ, Nat.zero_add, List.nil_append]
        refine wpAnyH_take (i := 2) (v := .pointer (some ⟨xb, 0, none⟩)) rfl (by kernel_rfl) (by kernel_rfl) (by kernel_rfl) (fun _ _ _ h => h) (Or.inl ⟨by rfl, fun w' hw' => by go_simp⟩) s0 ?_
        try simp only [Act.put, List.getElem_toArray, List.getElem_cons_succ, List.getElem_cons_zero, List.setIfInBounds_toArray, List.set_cons_zero, List.set_cons_succ, Nat.zero_add, List.nil_append]
        refine wpAnyH_take (i := 3) (v := .pointer (some ⟨xb, 5, none⟩)) rfl (by kernel_rfl) (by kernel_rfl) (by kernel_rfl) (fun _ _ _ h => h) (Or.inl ⟨by rfl, fun w' hw' => by go_simp⟩) s0 ?_
        try simp only [Act.put, List.getElem_toArray, List.getElem_cons_succ, List.getElem_cons_zero, List.setIfInBounds_toArray, List.set_cons_zero, List.set_cons_succ, Nat.zero_add, List.nil_append]
        refine wpAnyH_take (i := 4) (v := .pointer (some ⟨xb, 9, none⟩)) rfl (by kernel_rfl) (by kernel_rfl) (by kernel_rfl) (fun _ _ _ h => h) (Or.inl ⟨by rfl, fun w' hw' => by go_simp⟩) s0 ?_
        try simp only [Act.put, List.getElem_toArray, List.getElem_cons_succ, List.getElem_cons_zero, List.setIfInBounds_toArray, List.set_cons_zero, List.set_cons_succ, Nat.zero_add, List.nil_append]
        refine wpAnyH_take (i := 6) (v := .pointer (some ⟨mb, 1, none⟩)) rfl (by kernel_rfl) (by kernel_rfl) (by kernel_rfl) (fun _ _ _ h => h) (Or.inl ⟨by rfl, fun w' hw' => by go_simp⟩) s0 ?_
        try simp only [Act.put, List.getElem_toArray, List.getElem_cons_succ, List.getElem_cons_zero, List.setIfInBounds_toArray, List.set_cons_zero, List.set_cons_succ, Nat.zero_add, List.nil_append]
        refine wpAnyH_take (i := 7) (v := .int .i64 (tf : Int)) rfl (by kernel_rfl) (by kernel_rfl) (by kernel_rfl) (fun _ _ _ h => h) (Or.inl ⟨by rfl, fun w' hw' => by have q0 := hw'.head; have q1 := hw'.tail.head; have q2 := hw'.tail.tail.head; have q3 := hw'.tail.tail.tail.head; have q4 := hw'.tail.tail.tail.tail.head; have q5 := hw'.tail.tail.tail.tail.tail.head; have q6 := hw'.tail.tail.tail.tail.tail.tail.head; have q7 := hw'.tail.tail.tail.tail.tail.tail.tail.head; go_simp⟩) s0 ?_
        try simp only [Act.put, List.getElem_toArray, List.getElem_cons_succ, List.getElem_cons_zero, List.setIfInBounds_toArray, List.set_cons_zero, List.set_cons_succ, Nat.zero_add, List.nil_append]
        refine wpAnyH_take (i := 8) (v := .pointer (some ⟨mb, 0, none⟩)) rfl (by kernel_rfl) (by kernel_rfl) (by kernel_rfl) (fun _ _ _ h => h) (Or.inl ⟨by rfl, fun w' hw' => by go_simp⟩) s0 ?_
        try simp only [Act.put, List.getElem_toArray, List.getElem_cons_succ, List.getElem_cons_zero, List.setIfInBounds_toArray, List.set_cons_zero, List.set_cons_succ, Nat.zero_add, List.nil_append]
        refine wpAnyH_take (i := 9) (v := .int .i64 (m.to_ : Int)) rfl (by kernel_rfl) (by kernel_rfl) (by kernel_rfl) (fun _ _ _ h => h) (Or.inl ⟨by rfl, fun w' hw' => by have q0 := hw'.head; have q1 := hw'.tail.head; have q2 := hw'.tail.tail.head; have q3 := hw'.tail.tail.tail.head; have q4 := hw'.tail.tail.tail.tail.head; have q5 := hw'.tail.tail.tail.tail.tail.head; have q6 := hw'.tail.tail.tail.tail.tail.tail.head; have q7 := hw'.tail.tail.tail.tail.tail.tail.tail.head; go_simp⟩) s0 ?_
        try simp only [Act.put, List.getElem_toArray, List.getElem_cons_succ, List.getElem_cons_zero, List.setIfInBounds_toArray, List.set_cons_zero, List.set_cons_succ, Nat.zero_add, List.nil_append]
        refine wpAnyH_take (i := 10) (v := .agg #[.int .u32 m.b.round, .int .u8 m.b.node]) rfl (by kernel_rfl) (by kernel_rfl) (by kernel_rfl) (fun _ _ _ h => h) (Or.inl ⟨by rfl, fun w' hw' => by have q0 := hw'.head; have q1 := hw'.tail.head; have q2 := hw'.tail.tail.head; have q3 := hw'.tail.tail.tail.head; have q4 := hw'.tail.tail.tail.tail.head; have q5 := hw'.tail.tail.tail.tail.tail.head; have q6 := hw'.tail.tail.tail.tail.tail.tail.head; have q7 := hw'.tail.tail.tail.tail.tail.tail.tail.head; go_simp⟩) s0 ?_
        try simp only [Act.put, List.getElem_toArray, List.getElem_cons_succ, List.getElem_cons_zero, List.setIfInBounds_toArray, List.set_cons_zero, List.set_cons_succ, Nat.zero_add, List.nil_append]
        refine wpAnyH_take (i := 11) (v := .agg #[.bool AA.is, .int .u32 AA.b.round, .int .u8 AA.b.node, .string AA.v]) rfl (by kernel_rfl) (by kernel_rfl) (by kernel_rfl) (fun _ _ _ h => h) (Or.inl ⟨by rfl, fun w' hw' => by have q0 := hw'.head; have q1 := hw'.tail.head; have q2 := hw'.tail.tail.head; have q3 := hw'.tail.tail.tail.head; have q4 := hw'.tail.tail.tail.tail.head; have q5 := hw'.tail.tail.tail.tail.tail.head; have q6 := hw'.tail.tail.tail.tail.tail.tail.head; have q7 := hw'.tail.tail.tail.tail.tail.tail.tail.head; go_simp⟩) s0 ?_
        try simp only [Act.put, List.getElem_toArray, List.getElem_cons_succ, List.getElem_cons_zero, List.setIfInBounds_toArray, List.set_cons_zero, List.set_cons_succ, Nat.zero_add, List.nil_append]
        refine wpAnyH_take (i := 12) (v := .agg #[.int .i64 (tf : Int), .int .i64 (m.to_ : Int), .int .u32 m.b.round, .int .u8 m.b.node, .string ⟨#[]⟩, .bool AA.is, .int .u32 AA.b.round, .int .u8 AA.b.node, .string AA.v]) rfl (by kernel_rfl) (by kernel_rfl) (by kernel_rfl) (fun _ _ _ h => h) (Or.inl ⟨by rfl, fun w' hw' => by go_simp⟩) s0 ?_
        try simp only [Act.put, List.getElem_toArray, List.getElem_cons_succ, List.getElem_cons_zero, List.setIfInBounds_toArray, List.set_cons_zero, List.set_cons_succ, Nat.zero_add, List.nil_append]
        refine wpAnyH_take (i := 15) (v := .pointer (some ⟨xb, 0, none⟩)) rfl (by kernel_rfl) (by kernel_rfl) (by kernel_rfl) (fun _ _ _ h => h) (Or.inl ⟨by rfl, fun w' hw' => by go_simp⟩) s0 ?_
        try simp only [Act.put, List.getElem_toArray, List.getElem_cons_succ, List.getElem_cons_zero, List.setIfInBounds_toArray, List.set_cons_zero, List.set_cons_succ, Nat.zero_add, List.nil_append]
        refine wpAnyH_take (i := 16) (v := .pointer (some ⟨xb, 5, none⟩)) rfl (by kernel_rfl) (by kernel_rfl) (by kernel_rfl) (fun _ _ _ h => h) (Or.inl ⟨by rfl, fun w' hw' => by go_simp⟩) s0 ?_
        try simp only [Act.put, List.getElem_toArray, List.getElem_cons_succ, List.getElem_cons_zero, List.setIfInBounds_toArray, List.set_cons_zero, List.set_cons_succ, Nat.zero_add, List.nil_append]
        refine wpAnyH_ready (rs := [5, 13]) (by kernel_rfl) (by simp) ?_
        refine AllReadyH.cons rfl (fun K hK => ?_) (AllReadyH.cons rfl (fun K hK => ?_) AllReadyH.nil)
        · skip
          rw [if_pos (by rfl)]
          go_simp
          refine hK.out _ _ s0 (fun _ => ?_)
          clear hK K
          try simp only [Act.put, List.getElem_toArray, List.getElem_cons_succ, List.getElem_cons_zero, List.setIfInBounds_toArray, List.set_cons_zero, List.set_cons_succ, Nat.zero_add, List.nil_append]
          refine wpAnyH_ready (rs := [13]) (by kernel_rfl) (by simp) ?_
          refine AllReadyH.cons rfl (fun K hK => ?_) AllReadyH.nil
          rw [if_pos (by rfl)]
          go_simp
          have b1 : Below wd.heap.size wd (wd.alloc (.cells #[.int .i64 (tf : Int), .int .i64 (m.to_ : Int), .int .u32 m.b.round, .int .u8 m.b.node, .string ⟨#[]⟩, .bool AA.is, .int .u32 AA.b.round, .int .u8 AA.b.node, .string AA.v] 105)) := below_alloc (Below.refl _ _) _
          have r1 := heap_alloc_new wd (.cells #[.int .i64 (tf : Int), .int .i64 (m.to_ : Int), .int .u32 m.b.round, .int .u8 m.b.node, .string ⟨#[]⟩, .bool AA.is, .int .u32 AA.b.round, .int .u8 AA.b.node, .string AA.v] 105)
          have y1 := (b1.cell (p := ⟨xb, 9, none⟩) HXL.out).trans y0
          have s1 := s0.below b1
          generalize wd.alloc (.cells #[.int .i64 (tf : Int), .int .i64 (m.to_ : Int), .int .u32 m.b.round, .int .u8 m.b.node, .string ⟨#[]⟩, .bool AA.is, .int .u32 AA.b.round, .int .u8 AA.b.node, .string AA.v] 105) = v1 at *
          obtain ⟨nb, hnb⟩ : ∃ q, q = wd.heap.size := ⟨_, rfl⟩
          rw [← hnb] at r1 ⊢
          have BV := Lib.hid (BD.out.trans (b1.mono BD.out.size))
          have R1 := Lib.hid r1
          clear b1 r1 hnb
          refine hK.out _ _ s1 (fun _ => ?_)
          clear hK K
          try simp only [Act.put, List.getElem_toArray, List.getElem_cons_succ, List.getElem_cons_zero, List.setIfInBounds_toArray, List.set_cons_zero, List.set_cons_succ, Nat.zero_add, List.nil_append]
          refine wpAnyH_ready (rs := [14]) (by kernel_rfl) (by simp) ?_
          refine AllReadyH.cons rfl (fun K hK => ?_) AllReadyH.nil
          rw [if_pos (by rfl)]
          have lst := (ZB.out.below BV.out).list (by omega) (by omega) HSO.out HSN.out HSC.out
          refine wp_append_lies _ (.tmp 161) (.tmp 169) 63 rfl B 105 i0 _ 9 72 Try.underlying63 HI.out HZ0.out HZ1.out HZ2.out rfl (by decide) (.slice so sn sc) sn (fl cM ((x2).ms 4)) rfl lst.1 ⟨nb, 0, none⟩ 1 1 (cM ⟨tf, (m.to_ : Int), m.b, nov, AA⟩) rfl rfl (news_cM R1.out) (cM_one _) (by decide) (by have := lst.2.2.2.1; have := DB.out; unfold maxLen; omega) (by have := lst.2.2.2.1; have := DB.out; omega) (Nat.le_trans HBz.out BV.out.size) _ rfl ?_
          intro ga ca v3 own3 gr3 at3 lt3
          obtain ⟨PU, kg, z0, z1⟩ := ZB.out.push (by omega) (by omega) HSO.out HSN.out HSC.out HMOK.out BV.out own3 gr3 at3
          have s3 := s1.keep kg (fun p hp => by rw [← HSO.out]; exact ZB.out.src_not (by omega) (by omega) (HLO.out p hp))
          have PU := Lib.hid PU
          clear own3 gr3 at3 lt3 kg lst y1
          refine hK.out _ _ s3 (fun _ => ?_)
          clear hK K
          try simp only [Act.put, List.getElem_toArray, List.getElem_cons_succ, List.getElem_cons_zero, List.setIfInBounds_toArray, List.set_cons_zero, List.set_cons_succ, Nat.zero_add, List.nil_append]
          refine wpAnyH_take (i := 17) (v := .pointer (some ⟨xb, 9, none⟩)) rfl (by kernel_rfl) (by kernel_rfl) (by kernel_rfl) (fun _ _ _ h => h) (Or.inl ⟨by rfl, fun w' hw' => by go_simp⟩) s3 ?_
          try simp only [Act.put, List.getElem_toArray, List.getElem_cons_succ, List.getElem_cons_zero, List.setIfInBounds_toArray, List.set_cons_zero, List.set_cons_succ, Nat.zero_add, List.nil_append]
          refine wpAnyH_ready (rs := [18]) (by kernel_rfl) (by simp) ?_
          refine AllReadyH.cons rfl (fun K hK => ?_) AllReadyH.nil
          rw [if_pos (by rfl)]
          go_simp
          have s4 := s3.set ⟨xb, 9, none⟩ (.slice (some ⟨ga, 0, none⟩) (sn + 1) ca) (by intro p hp; simp only [List.mem_cons, List.not_mem_nil, or_false] at hp; rcases hp with rfl | rfl | rfl | rfl | rfl | rfl | rfl | rfl <;> (intro e; simp only [Addr.mk.injEq] at e; first | exact HN0.out e.1 | exact HN1.out e.1 | exact HN2.out e.1))
          refine hK.out _ _ s4 (fun _ => ?_)
          clear hK K
          try simp only [Act.put, List.getElem_toArray, List.getElem_cons_succ, List.getElem_cons_zero, List.setIfInBounds_toArray, List.set_cons_zero, List.set_cons_succ, Nat.zero_add, List.nil_append]
          refine wpAnyH_done (by kernel_rfl) ?_ _
          replace PU := PU.out
          simp only [Nat.reduceAdd] at PU
          have PU := Lib.hid PU
          clear s0 s1 s3 s4 z0 z1
          generalize v3.setCell ⟨xb, 9, none⟩ (.slice (some ⟨ga, 0, none⟩) (sn + 1) ca) = w9 at *
          go_wp2_with fail
          go_end0
          obtain ⟨tg', H', g1', g2'⟩ := PU.out
          refine ⟨rfl, tg', H', _, (g1'.up (by omega)).upc (by omega), ?_, (HTR.out.trans g2').start, ?_, ?_, ?_⟩
          · have := inv_prepare hin HTO.out m.b HLF.out ⟨tf, (m.to_ : Int), m.b, nov, AA⟩ rfl rfl HAA.out
            rw [← HAA.out] at this
            rw [← HX2.out]
            exact this
          · rw [← HX2.out]; rfl
          · rw [← HX2.out]; show x.rd ≤ x.rd + 1; omega
          · rw [← HX2.out]
            intro i hi
            by_cases e : i = m.to_
            · subst e
              show ((if m.to_ = m.to_ then some ⟨m.b, AA⟩ else x.A m.to_).getD r0).a.is = false → ((if m.to_ = m.to_ then some ⟨m.b, AA⟩ else x.A m.to_).getD r0).a = a0
              rw [if_pos rfl, Option.getD_some, HAA.out]
              exact hna _ hi
            · show ((if i = m.to_ then some ⟨m.b, AA⟩ else x.A i).getD r0).a.is = false → ((if i = m.to_ then some ⟨m.b, AA⟩ else x.A i).getD r0).a = a0
              rw [if_neg e]
              exact hna _ hi
        · skip
          rw [if_pos (by rfl)]
          go_simp
          have b1 : Below wd.heap.size wd (wd.alloc (.cells #[.int .i64 (tf : Int), .int .i64 (m.to_ : Int), .int .u32 m.b.round, .int .u8 m.b.node, .string ⟨#[]⟩, .bool AA.is, .int .u32 AA.b.round, .int .u8 AA.b.node, .string AA.v] 105)) := below_alloc (Below.refl _ _) _
          have r1 := heap_alloc_new wd (.cells #[.int .i64 (tf : Int), .int .i64 (m.to_ : Int), .int .u32 m.b.round, .int .u8 m.b.node, .string ⟨#[]⟩, .bool AA.is, .int .u32 AA.b.round, .int .u8 AA.b.node, .string AA.v] 105)
          have y1 := (b1.cell (p := ⟨xb, 9, none⟩) HXL.out).trans y0
          have s1 := s0.below b1
          generalize wd.alloc (.cells #[.int .i64 (tf : Int), .int .i64 (m.to_ : Int), .int .u32 m.b.round, .int .u8 m.b.node, .string ⟨#[]⟩, .bool AA.is, .int .u32 AA.b.round, .int .u8 AA.b.node, .string AA.v] 105) = v1 at *
          obtain ⟨nb, hnb⟩ : ∃ q, q = wd.heap.size := ⟨_, rfl⟩
          rw [← hnb] at r1 ⊢
          have BV := Lib.hid (BD.out.trans (b1.mono BD.out.size))
          have R1 := Lib.hid r1
          clear b1 r1 hnb
          refine hK.out _ _ s1 (fun _ => ?_)
          clear hK K
          try simp only [Act.put, List.getElem_toArray, List.getElem_cons_succ, List.getElem_cons_zero, List.setIfInBounds_toArray, List.set_cons_zero, List.set_cons_succ, Nat.zero_add, List.nil_append]
          refine wpAnyH_ready (rs := [5]) (by kernel_rfl) (by simp) ?_
          refine AllReadyH.cons rfl (fun K hK => ?_) AllReadyH.nil
          rw [if_pos (by rfl)]
          go_simp
          refine hK.out _ _ s1 (fun _ => ?_)
          clear hK K
          try simp only [Act.put, List.getElem_toArray, List.getElem_cons_succ, List.getElem_cons_zero, List.setIfInBounds_toArray, List.set_cons_zero, List.set_cons_succ, Nat.zero_add, List.nil_append]
          refine wpAnyH_ready (rs := [14]) (by kernel_rfl) (by simp) ?_
          refine AllReadyH.cons rfl (fun K hK => ?_) AllReadyH.nil
          rw [if_pos (by rfl)]
          have lst := (ZB.out.below BV.out).list (by omega) (by omega) HSO.out HSN.out HSC.out
          refine wp_append_lies _ (.tmp 161) (.tmp 169) 63 rfl B 105 i0 _ 9 72 Try.underlying63 HI.out HZ0.out HZ1.out HZ2.out rfl (by decide) (.slice so sn sc) sn (fl cM ((x2).ms 4)) rfl lst.1 ⟨nb, 0, none⟩ 1 1 (cM ⟨tf, (m.to_ : Int), m.b, nov, AA⟩) rfl rfl (news_cM R1.out) (cM_one _) (by decide) (by have := lst.2.2.2.1; have := DB.out; unfold maxLen; omega) (by have := lst.2.2.2.1; have := DB.out; omega) (Nat.le_trans HBz.out BV.out.size) _ rfl ?_
          intro ga ca v3 own3 gr3 at3 lt3
          obtain ⟨PU, kg, z0, z1⟩ := ZB.out.push (by omega) (by omega) HSO.out HSN.out HSC.out HMOK.out BV.out own3 gr3 at3
          have s3 := s1.keep kg (fun p hp => by rw [← HSO.out]; exact ZB.out.src_not (by omega) (by omega) (HLO.out p hp))
          have PU := Lib.hid PU
          clear own3 gr3 at3 lt3 kg lst y1
          refine hK.out _ _ s3 (fun _ => ?_)
          clear hK K
          try simp only [Act.put, List.getElem_toArray, List.getElem_cons_succ, List.getElem_cons_zero, List.setIfInBounds_toArray, List.set_cons_zero, List.set_cons_succ, Nat.zero_add, List.nil_append]
          refine wpAnyH_take (i := 17) (v := .pointer (some ⟨xb, 9, none⟩)) rfl (by kernel_rfl) (by kernel_rfl) (by kernel_rfl) (fun _ _ _ h => h) (Or.inl ⟨by rfl, fun w' hw' => by go_simp⟩) s3 ?_
          try simp only [Act.put, List.getElem_toArray, List.getElem_cons_succ, List.getElem_cons_zero, List.setIfInBounds_toArray, List.set_cons_zero, List.set_cons_succ, Nat.zero_add, List.nil_append]
          refine wpAnyH_ready (rs := [18]) (by kernel_rfl) (by simp) ?_
          refine AllReadyH.cons rfl (fun K hK => ?_) AllReadyH.nil
          rw [if_pos (by rfl)]
          go_simp
          have s4 := s3.set ⟨xb, 9, none⟩ (.slice (some ⟨ga, 0, none⟩) (sn + 1) ca) (by intro p hp; simp only [List.mem_cons, List.not_mem_nil, or_false] at hp; rcases hp with rfl | rfl | rfl | rfl | rfl | rfl | rfl | rfl <;> (intro e; simp only [Addr.mk.injEq] at e; first | exact HN0.out e.1 | exact HN1.out e.1 | exact HN2.out e.1))
          refine hK.out _ _ s4 (fun _ => ?_)
          clear hK K
          try simp only [Act.put, List.getElem_toArray, List.getElem_cons_succ, List.getElem_cons_zero, List.setIfInBounds_toArray, List.set_cons_zero, List.set_cons_succ, Nat.zero_add, List.nil_append]
          refine wpAnyH_done (by kernel_rfl) ?_ _
          replace PU := PU.out
          simp only [Nat.reduceAdd] at PU
          have PU := Lib.hid PU
          clear s0 s1 s3 s4 z0 z1
          generalize v3.setCell ⟨xb, 9, none⟩ (.slice (some ⟨ga, 0, none⟩) (sn + 1) ca) = w9 at *
          go_wp2_with fail
          go_end0
          obtain ⟨tg', H', g1', g2'⟩ := PU.out
          refine ⟨rfl, tg', H', _, (g1'.up (by omega)).upc (by omega), ?_, (HTR.out.trans g2').start, ?_, ?_, ?_⟩
          · have := inv_prepare hin HTO.out m.b HLF.out ⟨tf, (m.to_ : Int), m.b, nov, AA⟩ rfl rfl HAA.out
            rw [← HAA.out] at this
            rw [← HX2.out]
            exact this
          · rw [← HX2.out]; rfl
          · rw [← HX2.out]; show x.rd ≤ x.rd + 1; omega
          · rw [← HX2.out]
            intro i hi
            by_cases e : i = m.to_
            · subst e
              show ((if m.to_ = m.to_ then some ⟨m.b, AA⟩ else x.A m.to_).getD r0).a.is = false → ((if m.to_ = m.to_ then some ⟨m.b, AA⟩ else x.A m.to_).getD r0).a = a0
              rw [if_pos rfl, Option.getD_some, HAA.out]
              exact hna _ hi
            · show ((if i = m.to_ then some ⟨m.b, AA⟩ else x.A i).getD r0).a.is = false → ((if i = m.to_ then some ⟨m.b, AA⟩ else x.A i).getD r0).a = a0
              rw [if_neg e]
              exact hna _ hi
end
end Go.Proofs.Ytgfalpiifgoonaa
