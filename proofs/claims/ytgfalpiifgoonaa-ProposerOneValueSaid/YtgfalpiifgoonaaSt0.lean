/- ProposerOneValue: way 0 of the law's own step. -/
import Derived.Test.YtgfalpiifgoonaaWt
import Derived.Deep.RegionHeld3
namespace Go.Proofs.Ytgfalpiifgoonaa
open Go.RowKit Go.Sort
set_option linter.unusedVariables false
set_option linter.unusedSectionVars false
set_option linter.unusedSimpArgs false
set_option maxRecDepth 100000
section
variable {w w' : World} {B xb n c d : Nat} {tg : Nat → Nat} {H : Hd} {vote : ByteArray} {x : PX} {U : List Nat}
set_option maxHeartbeats 6400000 in
theorem step_k0 (a b : Int) (v : ByteArray) (wa : (Lit.int .i64 a).wf = true) (wb : (Lit.int .i64 b).wf = true) (hv : v.size ≤ 281474976710656) (W : World) (h : WdW W B xb n tg H c d vote x) (hd : d ≤ 10000) (hcc : c < 100000) (hrd : x.rd ≤ 10000) (hin : x.Inv n vote) (hna : x.Nn n) :
    Calls Try.prog 22 #[.pointer (some ⟨xb, 0, none⟩), .agg #[.int .i64 0, .int .i64 a, .int .i64 b, .string v]] W (StEnd W B xb n tg c d vote x (x.ds ++ [v])) := by
  have CP := Lib.hid (fun w => pick_any 0 (by decide) 6 (by omega) (by omega) w)
  obtain ⟨p, hp⟩ : ∃ p, p = pk 0 6 := ⟨_, rfl⟩
  have hp5 : p = 0 := hp.trans (by decide)
  have hp6 : p < 6 := by omega
  rw [← hp] at CP
  clear hp5 hp
  have hpi : (p : Int) < 6 := by omega
  have hpi0 : (0 : Int) ≤ (p : Int) := by omega
  obtain ⟨bx, hbx⟩ : ∃ bx, bx = W.heap.size := ⟨_, rfl⟩
  have hxl := h.lt
  have hn5 := h.pt.n5
  have hn1 := h.pt.n1
  have hw1 := h.ours.below (below_alloc (Below.refl _ _) (.cells #[.int .i64 0, .int .i64 a, .int .i64 b, .string v] 73))
  have y0 := hw1.acc
  have yl := hw1.l hp6
  have W1 := Lib.hid hw1
  have H0 := Lib.hid h
  clear h hw1
  go_enter Try.func22, Try.ntmps22
  go_upto_region 2 with (fail)
  have r0 := heap_alloc_new W (.cells #[.int .i64 0, .int .i64 a, .int .i64 b, .string v] 73)
  have bw1 := below_alloc (Below.refl W.heap.size W) (.cells #[.int .i64 0, .int .i64 a, .int .i64 b, .string v] 73)
  generalize W.alloc (.cells #[.int .i64 0, .int .i64 a, .int .i64 b, .string v] 73) = w1 at *
  rw [← hbx] at r0
  have e0 := cell_of_row w1 bx 0 _ _ (0, 0) r0
  simp only [List.getElem?_toArray, List.getElem?_cons_zero, List.getElem?_cons_succ] at e0
  rw [← hbx]
  have R0 := Lib.hid r0
  have HBX := Lib.hid hbx
  clear r0 hbx
  generalize x.lv H p = lvp at *
  go_quiet ((go_at_call 20; refine Calls.quiet_of_same ((CP.out _).mono (by rintro e w' ⟨h1, h2⟩; exact ⟨h1, h2.symm⟩))))
  have hw2 := W1.out.below (below_drewN (Below.refl _ _) nq)
  have r2 : (w1.drewN nq).heap[bx]? = _ := R0.out
  have b2 := below_next bw1 (below_drewN (Below.refl w1.heap.size w1) nq)
  clear e0 y0 yl W1 R0 bw1
  generalize w1.drewN nq = w2 at *
  have e0 := cell_of_row w2 bx 0 _ _ (0, 0) r2
  simp only [List.getElem?_toArray, List.getElem?_cons_zero, List.getElem?_cons_succ] at e0
  have W2 := Lib.hid hw2
  have R2 := Lib.hid r2
  have B2 := Lib.hid b2
  clear hw2 r2 b2
  have CN := Lib.hid (fun w => pick_any a wa 3 (by omega) (by omega) w)
  have hjn := pk_lt a (n := 3) (by omega)
  generalize pk a 3 = j at *
  have HJN := Lib.hid hjn
  obtain ⟨rd, hrdx⟩ : ∃ q, x.rd = q := ⟨_, rfl⟩
  have HRD := Lib.hid hrdx
  have hr0 := hin.rd0
  have hpz := Lib.hid (hin.pz j hjn)
  rw [hrdx] at hrd hr0
  clear hrdx
  have hji : (j : Int) < 3 := by omega
  have hji0 : (0 : Int) ≤ (j : Int) := by omega
  go_upto_region 5 with (fail)
  have b3 := below_alloc (Below.refl w2.heap.size w2) (.cells #[.int .i64 0, .int .i64 0, .int .u32 0, .int .u8 0, .string ⟨#[]⟩, .bool false, .int .u32 0, .int .u8 0, .string ⟨#[]⟩] 105)
  have hw3 := W2.out.below b3
  have r3 := row_keep R2.out (Keep.of_below b3 []) (by simp)
  have BB := Lib.hid (below_next B2.out b3)
  generalize w2.alloc (.cells #[.int .i64 0, .int .i64 0, .int .u32 0, .int .u8 0, .string ⟨#[]⟩, .bool false, .int .u32 0, .int .u8 0, .string ⟨#[]⟩] 105) = w3 at *
  clear e0
  have e0 := cell_of_row w3 bx 0 _ _ (0, 0) r3
  have e1 := cell_of_row w3 bx 1 _ _ (0, 0) r3
  have y1 := hw3.pro
  simp only [List.getElem?_toArray, List.getElem?_cons_zero, List.getElem?_cons_succ] at e0 e1
  have W3 := Lib.hid hw3
  have R3 := Lib.hid r3
  clear hw3 r3 b3
  go_upto_region 9 with (fail)
  go_quiet ((go_at_call 20; refine Calls.quiet_of_same ((CN.out _).mono (by rintro e w' ⟨h1, h2⟩; exact ⟨h1, h2.symm⟩))))
  have b4 := below_drewN (Below.refl w3.heap.size w3) nq
  have hw4 := W3.out.below b4
  have r4 := row_keep R3.out (Keep.of_below b4 []) (by simp)
  have BB := Lib.hid (below_next BB.out b4)
  clear e0 e1 y1 W3 R3
  generalize w3.drewN nq = w4 at *
  have y3 := hw4.rd
  rw [HRD.out] at y3
  have f3 := hw4.fr 3
  have W4 := Lib.hid hw4
  have R4 := Lib.hid r4
  clear hw4 r4 b4
  go_upto_region 11 with (fail)
  have hw5 := W4.out.round (rd + 1)
  have k5 := Keep.setCell w4 ⟨xb, 3, none⟩ (.int .u32 (rd + 1))
  have hbxn : bx ≠ xb := by have := HBX.out; omega
  have HBN := Lib.hid hbxn
  have r5 := row_keep R4.out k5 (by simpa using hbxn)
  have TR5 : Hid (Trn B (ours tg W.heap.size) (ours tg W.heap.size) W (w4.setCell ⟨xb, 3, none⟩ (.int .u32 (rd + 1)))) := Lib.hid ((Trn.below BB.out (by have := H0.out.base; omega)).trans (Trn.keep k5 (fun g hg => by rw [List.mem_singleton.1 hg]; show _ ≠ 4; rw [ours_lt hxl, H0.out.xt]; decide) (by have := H0.out.base; have := BB.out.size; omega) (fun g hg => by rw [List.mem_singleton.1 hg]; exact H0.out.base)))
  clear y3 f3 k5 hbxn
  generalize w4.setCell ⟨xb, 3, none⟩ (.int .u32 (rd + 1)) = w5 at *
  obtain ⟨hP1, hP2, hP3⟩ := hw5.pt.pro j hjn
  obtain ⟨ga, pv, ea, hga, _, ea2, ea3, _⟩ := owns_cell1 hw5.pt.sP j hjn
  obtain rfl : H.aP = ga := by simpa using ea
  obtain rfl : pv = .pointer (some ⟨H.hP j, 0, none⟩) := by
    simp only [ptrs, List.getElem?_map, List.getElem?_range hjn, Option.map_some, Option.some.injEq] at ea2
    exact ea2.symm
  have HL : Hid (Holds w5 [(⟨xb, 1, none⟩, .slice (some ⟨H.aP, 0, none⟩) 3 H.cP), (⟨H.aP, j, none⟩, .pointer (some ⟨H.hP j, 0, none⟩)), (⟨xb, 3, none⟩, .int .u32 (rd + 1)), (⟨bx, 3, none⟩, .string v)]) := Lib.hid (.cons hw5.pro hw5.lt (.cons ea3 hga (.cons hw5.rd hw5.lt (.cons (cell_of_row w5 bx 3 _ _ (0, 0) r5) (Array.getElem?_eq_some_iff.1 r5).1 (.nil _)))))
  have HS5 : Hid (B ≤ w5.heap.size) := Lib.hid (by have := hw5.base; have := hw5.lt; omega)
  have HPN : Hid (∀ p ∈ ([(⟨xb, 1, none⟩, .slice (some ⟨H.aP, 0, none⟩) 3 H.cP), (⟨H.aP, j, none⟩, .pointer (some ⟨H.hP j, 0, none⟩)), (⟨xb, 3, none⟩, .int .u32 (rd + 1)), (⟨bx, 3, none⟩, .string v)] : List (Addr × Value)), p.1.block ∉ [H.hP j, H.gP j]) := Lib.hid (by
    have t1 := hw5.xt
    have t2 := hw5.pt.tP
    have t3 : ours tg W.heap.size bx = 4 := ours_ge (by rw [HBX.out]; exact Nat.le_refl _)
    intro p hp
    have hb : ours tg W.heap.size p.1.block = 0 ∨ ours tg W.heap.size p.1.block = 2 ∨ ours tg W.heap.size p.1.block = 4 := by
      simp only [List.mem_cons, List.not_mem_nil, or_false] at hp
      rcases hp with rfl | rfl | rfl | rfl
      · exact .inl t1
      · exact .inr (.inl t2)
      · exact .inl t1
      · exact .inr (.inr t3)
    simp only [List.mem_cons, List.not_mem_nil, or_false]
    rintro (e | e)
    · rw [e, hP2] at hb; omega
    · rw [e, hP3] at hb; omega)
  have HPR : Hid (Pr w5 B (H.hP j) (H.gP j) j n (x.P j) ∧ H.hP j < w5.heap.size ∧ H.gP j < w5.heap.size) := Lib.hid ⟨hP1, RowP.lt hP1.row, hP1.map.lt⟩
  have W5 := Lib.hid hw5
  clear hw5 hP1 hP2 hP3 ea ea2 ea3 hga
  have hbeg : begP j (x.P j) (rd + 1) v = ⟨⟨⟨rd + 1, j⟩, allS, ⟨false, b0, v⟩⟩, ⟨rd + 1, j⟩, 0⟩ := by
    obtain ⟨p1, p2, _⟩ := hpz.out
    rw [HRD.out] at p2
    unfold begP
    rw [if_neg (by omega), if_neg (by omega)]
  have BG : Hid (∀ w, Pr w B (H.hP j) (H.gP j) j n (x.P j) → Calls Try.prog 12 #[.pointer (some ⟨H.hP j, 0, none⟩), .int .u32 (rd + 1), .string v] w fun e w' => e = .returned (.tuple #[.agg #[.int .u32 (rd + 1), .int .u8 (j : Int)], .int .i64 0]) ∧ Pr w' B (H.hP j) (H.gP j) j n ⟨⟨rd + 1, j⟩, allS, ⟨false, b0, v⟩⟩ ∧ Keep [H.hP j, H.gP j] w w') := Lib.hid (fun w hw => by
    have := begin_any (rd + 1) (by simp [Lit.wf, IntKind.min, IntKind.max, IntKind.signed, IntKind.bits]; omega) hv w hw
    rw [hbeg] at this
    exact this)
  clear hbeg
  have R5 := Lib.hid r5
  clear r5
  go_cut [8, 9] from 73 to 89 (fun s8 s9 wx => ∃ gb, s8 = .pointer (some ⟨gb, 0, none⟩) ∧ s9 = .int .i64 0 ∧ w5.heap.size ≤ gb ∧ wx.heap[gb]? = some (.cells #[.int .u32 (rd + 1), .int .u8 (j : Int)] 34 (0, 0)) ∧ Pr wx B (H.hP j) (H.gP j) j n ⟨⟨rd + 1, j⟩, allS, ⟨false, b0, v⟩⟩ ∧ Keep [H.hP j, H.gP j] w5 wx)
  case first =>
    as_aux_lemma =>
      refine wp_region_held_drew (S := fun w' => Holds w' [(⟨xb, 1, none⟩, .slice (some ⟨H.aP, 0, none⟩) 3 H.cP), (⟨H.aP, j, none⟩, .pointer (some ⟨H.hP j, 0, none⟩)), (⟨xb, 3, none⟩, .int .u32 (rd + 1)), (⟨bx, 3, none⟩, .string v)]) (by kernel_rfl) (HL.out.drew) (fun s0 => ?_)
      have BD : Hid (Below w5.heap.size w5 w5.drew) := Lib.hid (Below.refl _ _).drew
      generalize w5.drew = wd at *
      refine wpAnyH_take (i := 0) (v := .pointer (some ⟨xb, 0, none⟩)) rfl (by kernel_rfl) (by kernel_rfl) (by kernel_rfl) (fun _ _ _ h => h) (Or.inl ⟨by rfl, fun w' hw' => by go_simp⟩) s0 ?_
      try simp only [Act.put, List.getElem_toArray, List.getElem_cons_succ, List.getElem_cons_zero, List.setIfInBounds_toArray, List.set_cons_zero, List.set_cons_succ, Nat.zero_add, List.nil_append]
      refine wpAnyH_take (i := 1) (v := .pointer (some ⟨xb, 0, none⟩)) rfl (by kernel_rfl) (by kernel_rfl) (by kernel_rfl) (fun _ _ _ h => h) (Or.inl ⟨by rfl, fun w' hw' => by go_simp⟩) s0 ?_
      try simp only [Act.put, List.getElem_toArray, List.getElem_cons_succ, List.getElem_cons_zero, List.setIfInBounds_toArray, List.set_cons_zero, List.set_cons_succ, Nat.zero_add, List.nil_append]
      refine wpAnyH_take (i := 2) (v := .pointer (some ⟨xb, 1, none⟩)) rfl (by kernel_rfl) (by kernel_rfl) (by kernel_rfl) (fun _ _ _ h => h) (Or.inl ⟨by rfl, fun w' hw' => by go_simp⟩) s0 ?_
      try simp only [Act.put, List.getElem_toArray, List.getElem_cons_succ, List.getElem_cons_zero, List.setIfInBounds_toArray, List.set_cons_zero, List.set_cons_succ, Nat.zero_add, List.nil_append]
      refine wpAnyH_take (i := 3) (v := .slice (some ⟨H.aP, 0, none⟩) 3 H.cP) rfl (by kernel_rfl) (by kernel_rfl) (by kernel_rfl) (fun _ _ _ h => h) (Or.inl ⟨by rfl, fun w' hw' => by have q0 := hw'.head; have q1 := hw'.tail.head; have q2 := hw'.tail.tail.head; have q3 := hw'.tail.tail.tail.head; go_simp⟩) s0 ?_
      try simp only [Act.put, List.getElem_toArray, List.getElem_cons_succ, List.getElem_cons_zero, List.setIfInBounds_toArray, List.set_cons_zero, List.set_cons_succ, Nat.zero_add, List.nil_append]
      refine wpAnyH_take (i := 4) (v := .int .i64 (j : Int)) rfl (by kernel_rfl) (by kernel_rfl) (by kernel_rfl) (fun _ _ _ h => h) (Or.inl ⟨by rfl, fun w' hw' => by go_simp⟩) s0 ?_
      try simp only [Act.put, List.getElem_toArray, List.getElem_cons_succ, List.getElem_cons_zero, List.setIfInBounds_toArray, List.set_cons_zero, List.set_cons_succ, Nat.zero_add, List.nil_append]
      refine wpAnyH_take (i := 5) (v := .pointer (some ⟨H.aP, j, none⟩)) rfl (by kernel_rfl) (by kernel_rfl) (by kernel_rfl) (fun _ _ _ h => h) (Or.inl ⟨by rfl, fun w' hw' => by go_simp⟩) s0 ?_
      try simp only [Act.put, List.getElem_toArray, List.getElem_cons_succ, List.getElem_cons_zero, List.setIfInBounds_toArray, List.set_cons_zero, List.set_cons_succ, Nat.zero_add, List.nil_append]
      refine wpAnyH_take (i := 6) (v := .pointer (some ⟨H.hP j, 0, none⟩)) rfl (by kernel_rfl) (by kernel_rfl) (by kernel_rfl) (fun _ _ _ h => h) (Or.inl ⟨by rfl, fun w' hw' => by have q0 := hw'.head; have q1 := hw'.tail.head; have q2 := hw'.tail.tail.head; have q3 := hw'.tail.tail.tail.head; go_simp⟩) s0 ?_
      try simp only [Act.put, List.getElem_toArray, List.getElem_cons_succ, List.getElem_cons_zero, List.setIfInBounds_toArray, List.set_cons_zero, List.set_cons_succ, Nat.zero_add, List.nil_append]
      refine wpAnyH_take (i := 7) (v := .pointer (some ⟨xb, 0, none⟩)) rfl (by kernel_rfl) (by kernel_rfl) (by kernel_rfl) (fun _ _ _ h => h) (Or.inl ⟨by rfl, fun w' hw' => by go_simp⟩) s0 ?_
      try simp only [Act.put, List.getElem_toArray, List.getElem_cons_succ, List.getElem_cons_zero, List.setIfInBounds_toArray, List.set_cons_zero, List.set_cons_succ, Nat.zero_add, List.nil_append]
      refine wpAnyH_take (i := 8) (v := .pointer (some ⟨xb, 0, none⟩)) rfl (by kernel_rfl) (by kernel_rfl) (by kernel_rfl) (fun _ _ _ h => h) (Or.inl ⟨by rfl, fun w' hw' => by go_simp⟩) s0 ?_
      try simp only [Act.put, List.getElem_toArray, List.getElem_cons_succ, List.getElem_cons_zero, List.setIfInBounds_toArray, List.set_cons_zero, List.set_cons_succ, Nat.zero_add, List.nil_append]
      refine wpAnyH_take (i := 9) (v := .pointer (some ⟨xb, 3, none⟩)) rfl (by kernel_rfl) (by kernel_rfl) (by kernel_rfl) (fun _ _ _ h => h) (Or.inl ⟨by rfl, fun w' hw' => by go_simp⟩) s0 ?_
      try simp only [Act.put, List.getElem_toArray, List.getElem_cons_succ, List.getElem_cons_zero, List.setIfInBounds_toArray, List.set_cons_zero, List.set_cons_succ, Nat.zero_add, List.nil_append]
      refine wpAnyH_take (i := 10) (v := .int .u32 (rd + 1)) rfl (by kernel_rfl) (by kernel_rfl) (by kernel_rfl) (fun _ _ _ h => h) (Or.inl ⟨by rfl, fun w' hw' => by have q0 := hw'.head; have q1 := hw'.tail.head; have q2 := hw'.tail.tail.head; have q3 := hw'.tail.tail.tail.head; go_simp⟩) s0 ?_
      try simp only [Act.put, List.getElem_toArray, List.getElem_cons_succ, List.getElem_cons_zero, List.setIfInBounds_toArray, List.set_cons_zero, List.set_cons_succ, Nat.zero_add, List.nil_append]
      refine wpAnyH_take (i := 11) (v := .pointer (some ⟨bx, 3, none⟩)) rfl (by kernel_rfl) (by kernel_rfl) (by kernel_rfl) (fun _ _ _ h => h) (Or.inl ⟨by rfl, fun w' hw' => by go_simp⟩) s0 ?_
      try simp only [Act.put, List.getElem_toArray, List.getElem_cons_succ, List.getElem_cons_zero, List.setIfInBounds_toArray, List.set_cons_zero, List.set_cons_succ, Nat.zero_add, List.nil_append]
      refine wpAnyH_take (i := 12) (v := .string v) rfl (by kernel_rfl) (by kernel_rfl) (by kernel_rfl) (fun _ _ _ h => h) (Or.inl ⟨by rfl, fun w' hw' => by have q0 := hw'.head; have q1 := hw'.tail.head; have q2 := hw'.tail.tail.head; have q3 := hw'.tail.tail.tail.head; go_simp⟩) s0 ?_
      try simp only [Act.put, List.getElem_toArray, List.getElem_cons_succ, List.getElem_cons_zero, List.setIfInBounds_toArray, List.set_cons_zero, List.set_cons_succ, Nat.zero_add, List.nil_append]
      refine wpAnyH_ready (rs := [13, 17]) (by kernel_rfl) (by simp) ?_
      refine AllReadyH.cons rfl (fun K hK => ?_) (AllReadyH.cons rfl (fun K hK => ?_) AllReadyH.nil)
      · skip
        go_simp
        refine (BG.out wd (HPR.out.1.below BD.out)).mono ?_
        rintro e v1 ⟨rfl, pr1, kk1⟩
        have s1 := s0.keep kk1 HPN.out
        have PR1 := Lib.hid pr1; have KK1 := Lib.hid kk1
        clear pr1 kk1
        refine hK.out _ _ s1 (fun _ => ?_)
        clear hK K
        try simp only [Act.put, List.getElem_toArray, List.getElem_cons_succ, List.getElem_cons_zero, List.setIfInBounds_toArray, List.set_cons_zero, List.set_cons_succ, Nat.zero_add, List.nil_append]
        refine wpAnyH_take (i := 14) (v := .tuple #[.agg #[.int .u32 (rd + 1), .int .u8 (j : Int)], .int .i64 0]) rfl (by kernel_rfl) (by kernel_rfl) (by kernel_rfl) (fun _ _ _ h => h) (Or.inl ⟨by rfl, fun w' hw' => by go_simp⟩) s1 ?_
        try simp only [Act.put, List.getElem_toArray, List.getElem_cons_succ, List.getElem_cons_zero, List.setIfInBounds_toArray, List.set_cons_zero, List.set_cons_succ, Nat.zero_add, List.nil_append]
        refine wpAnyH_take (i := 15) (v := .agg #[.int .u32 (rd + 1), .int .u8 (j : Int)]) rfl (by kernel_rfl) (by kernel_rfl) (by kernel_rfl) (fun _ _ _ h => h) (Or.inl ⟨by rfl, fun w' hw' => by go_simp⟩) s1 ?_
        try simp only [Act.put, List.getElem_toArray, List.getElem_cons_succ, List.getElem_cons_zero, List.setIfInBounds_toArray, List.set_cons_zero, List.set_cons_succ, Nat.zero_add, List.nil_append]
        refine wpAnyH_take (i := 16) (v := .int .i64 0) rfl (by kernel_rfl) (by kernel_rfl) (by kernel_rfl) (fun _ _ _ h => h) (Or.inl ⟨by rfl, fun w' hw' => by go_simp⟩) s1 ?_
        try simp only [Act.put, List.getElem_toArray, List.getElem_cons_succ, List.getElem_cons_zero, List.setIfInBounds_toArray, List.set_cons_zero, List.set_cons_succ, Nat.zero_add, List.nil_append]
        refine wpAnyH_ready (rs := [17]) (by kernel_rfl) (by simp) ?_
        refine AllReadyH.cons rfl (fun K hK => ?_) AllReadyH.nil
        rw [if_pos (by rfl)]
        go_simp
        have b2 := below_alloc (Below.refl v1.heap.size v1) (.cells #[.int .u32 0, .int .u8 0] 34)
        have r2 := heap_alloc_new v1 (.cells #[.int .u32 0, .int .u8 0] 34)
        have s2 := s1.below b2
        generalize v1.alloc (.cells #[.int .u32 0, .int .u8 0] 34) = v2 at *
        obtain ⟨gb, hgb⟩ : ∃ q, q = v1.heap.size := ⟨_, rfl⟩
        rw [← hgb] at r2 ⊢
        have ROW := Lib.hid r2
        have PRV := Lib.hid (PR1.out.below b2)
        have KPV : Hid (Keep [H.hP j, H.gP j] w5 v2) := Lib.hid ((Keep.of_below BD.out _).trans (KK1.out.trans (Keep.of_below b2 _)))
        have GE : Hid (w5.heap.size ≤ gb) := Lib.hid (by have := BD.out.size; have := KK1.out.size; omega)
        clear r2 b2 hgb
        refine hK.out _ _ s2 (fun _ => ?_)
        clear hK K
        try simp only [Act.put, List.getElem_toArray, List.getElem_cons_succ, List.getElem_cons_zero, List.setIfInBounds_toArray, List.set_cons_zero, List.set_cons_succ, Nat.zero_add, List.nil_append]
        refine wpAnyH_ready (rs := [18]) (by kernel_rfl) (by simp) ?_
        refine AllReadyH.cons rfl (fun K hK => ?_) AllReadyH.nil
        rw [if_pos (by rfl)]
        refine wp_store_row 34 (.tmp 8) (.tmp 88) rfl gb #[.int .u32 (rd + 1), .int .u8 (j : Int)] rfl rfl 34 #[.int .u32 0, .int .u8 0] ROW.out (by kernel_rfl) rfl (by kernel_rfl) ?_
        have s9 := s2.keep (Keep.setRow v2 gb #[.int .u32 (rd + 1), .int .u8 (j : Int)]) (fun p hp hm => by have := (HL.out p hp).2; rw [List.mem_singleton.1 hm] at this; have := GE.out; omega)
        refine hK.out _ _ s9 (fun _ => ?_)
        clear hK K
        try simp only [Act.put, List.getElem_toArray, List.getElem_cons_succ, List.getElem_cons_zero, List.setIfInBounds_toArray, List.set_cons_zero, List.set_cons_succ, Nat.zero_add, List.nil_append]
        refine wpAnyH_take (i := 19) (v := .int .i64 0) rfl (by kernel_rfl) (by kernel_rfl) (by kernel_rfl) (fun _ _ _ h => h) (Or.inl ⟨by rfl, fun w' hw' => by go_simp⟩) s9 ?_
        try simp only [Act.put, List.getElem_toArray, List.getElem_cons_succ, List.getElem_cons_zero, List.setIfInBounds_toArray, List.set_cons_zero, List.set_cons_succ, Nat.zero_add, List.nil_append]
        
        refine wpAnyH_done (by kernel_rfl) ?_ _
        have hg1 : H.hP j ≠ gb := by have := HPR.out.2.1; have := GE.out; omega
        have hg2 : H.gP j ≠ gb := by have := HPR.out.2.2; have := GE.out; omega
        have f1 := setRow_heap v2 gb _ #[.int .u32 (rd + 1), .int .u8 (j : Int)] _ _ ROW.out
        have f2 := PRV.out.keep (Keep.setRow v2 gb #[.int .u32 (rd + 1), .int .u8 (j : Int)]) (by simpa using hg1) (by simpa using hg2)
        have f3 : Keep [H.hP j, H.gP j] w5 (v2.setRow gb #[.int .u32 (rd + 1), .int .u8 (j : Int)]) := ((KPV.out.mono (T := [H.hP j, H.gP j, gb]) (fun k hk => .inl (by simp at hk ⊢; omega))).trans ((Keep.setRow v2 gb _).mono (T := [H.hP j, H.gP j, gb]) (fun k hk => .inl (by simp at hk ⊢; omega)))).mono (fun k hk => by have := GE.out; simp at hk ⊢; omega)
        generalize v2.setRow gb #[.int .u32 (rd + 1), .int .u8 (j : Int)] = v9 at *
        go_wp2_with fail
        go_meet
        exact ⟨gb, rfl, rfl, GE.out, f1, f2, f3⟩
      · skip
        rw [if_pos (by rfl)]
        go_simp
        have b1 := below_alloc (Below.refl wd.heap.size wd) (.cells #[.int .u32 0, .int .u8 0] 34)
        have r1 := heap_alloc_new wd (.cells #[.int .u32 0, .int .u8 0] 34)
        have s1 := s0.below b1
        generalize wd.alloc (.cells #[.int .u32 0, .int .u8 0] 34) = v1 at *
        obtain ⟨gb, hgb⟩ : ∃ q, q = wd.heap.size := ⟨_, rfl⟩
        rw [← hgb] at r1 ⊢
        have BE := Lib.hid (below_next BD.out b1)
        have GE : Hid (w5.heap.size ≤ gb) := Lib.hid (by have := BD.out.size; omega)
        have R1 := Lib.hid r1
        clear r1 b1 hgb
        refine hK.out _ _ s1 (fun _ => ?_)
        clear hK K
        try simp only [Act.put, List.getElem_toArray, List.getElem_cons_succ, List.getElem_cons_zero, List.setIfInBounds_toArray, List.set_cons_zero, List.set_cons_succ, Nat.zero_add, List.nil_append]
        refine wpAnyH_ready (rs := [13]) (by kernel_rfl) (by simp) ?_
        refine AllReadyH.cons rfl (fun K hK => ?_) AllReadyH.nil
        go_simp
        refine (BG.out v1 (HPR.out.1.below BE.out)).mono ?_
        rintro e v2 ⟨rfl, pr2, kk2⟩
        have s2 := s1.keep kk2 HPN.out
        have ROW : Hid (v2.heap[gb]? = _) := Lib.hid (row_keep R1.out kk2 (by have := HPR.out.2; have := GE.out; simp; omega))
        have PRV := Lib.hid pr2
        have KPV : Hid (Keep [H.hP j, H.gP j] w5 v2) := Lib.hid ((Keep.of_below BE.out _).trans kk2)
        clear pr2 kk2
        refine hK.out _ _ s2 (fun _ => ?_)
        clear hK K
        try simp only [Act.put, List.getElem_toArray, List.getElem_cons_succ, List.getElem_cons_zero, List.setIfInBounds_toArray, List.set_cons_zero, List.set_cons_succ, Nat.zero_add, List.nil_append]
        refine wpAnyH_take (i := 14) (v := .tuple #[.agg #[.int .u32 (rd + 1), .int .u8 (j : Int)], .int .i64 0]) rfl (by kernel_rfl) (by kernel_rfl) (by kernel_rfl) (fun _ _ _ h => h) (Or.inl ⟨by rfl, fun w' hw' => by go_simp⟩) s2 ?_
        try simp only [Act.put, List.getElem_toArray, List.getElem_cons_succ, List.getElem_cons_zero, List.setIfInBounds_toArray, List.set_cons_zero, List.set_cons_succ, Nat.zero_add, List.nil_append]
        refine wpAnyH_take (i := 15) (v := .agg #[.int .u32 (rd + 1), .int .u8 (j : Int)]) rfl (by kernel_rfl) (by kernel_rfl) (by kernel_rfl) (fun _ _ _ h => h) (Or.inl ⟨by rfl, fun w' hw' => by go_simp⟩) s2 ?_
        try simp only [Act.put, List.getElem_toArray, List.getElem_cons_succ, List.getElem_cons_zero, List.setIfInBounds_toArray, List.set_cons_zero, List.set_cons_succ, Nat.zero_add, List.nil_append]
        refine wpAnyH_take (i := 16) (v := .int .i64 0) rfl (by kernel_rfl) (by kernel_rfl) (by kernel_rfl) (fun _ _ _ h => h) (Or.inl ⟨by rfl, fun w' hw' => by go_simp⟩) s2 ?_
        try simp only [Act.put, List.getElem_toArray, List.getElem_cons_succ, List.getElem_cons_zero, List.setIfInBounds_toArray, List.set_cons_zero, List.set_cons_succ, Nat.zero_add, List.nil_append]
        refine wpAnyH_ready (rs := [18]) (by kernel_rfl) (by simp) ?_
        refine AllReadyH.cons rfl (fun K hK => ?_) AllReadyH.nil
        rw [if_pos (by rfl)]
        refine wp_store_row 34 (.tmp 8) (.tmp 88) rfl gb #[.int .u32 (rd + 1), .int .u8 (j : Int)] rfl rfl 34 #[.int .u32 0, .int .u8 0] ROW.out (by kernel_rfl) rfl (by kernel_rfl) ?_
        have s9 := s2.keep (Keep.setRow v2 gb #[.int .u32 (rd + 1), .int .u8 (j : Int)]) (fun p hp hm => by have := (HL.out p hp).2; rw [List.mem_singleton.1 hm] at this; have := GE.out; omega)
        refine hK.out _ _ s9 (fun _ => ?_)
        clear hK K
        try simp only [Act.put, List.getElem_toArray, List.getElem_cons_succ, List.getElem_cons_zero, List.setIfInBounds_toArray, List.set_cons_zero, List.set_cons_succ, Nat.zero_add, List.nil_append]
        refine wpAnyH_take (i := 19) (v := .int .i64 0) rfl (by kernel_rfl) (by kernel_rfl) (by kernel_rfl) (fun _ _ _ h => h) (Or.inl ⟨by rfl, fun w' hw' => by go_simp⟩) s9 ?_
        try simp only [Act.put, List.getElem_toArray, List.getElem_cons_succ, List.getElem_cons_zero, List.setIfInBounds_toArray, List.set_cons_zero, List.set_cons_succ, Nat.zero_add, List.nil_append]
        
        refine wpAnyH_done (by kernel_rfl) ?_ _
        have hg1 : H.hP j ≠ gb := by have := HPR.out.2.1; have := GE.out; omega
        have hg2 : H.gP j ≠ gb := by have := HPR.out.2.2; have := GE.out; omega
        have f1 := setRow_heap v2 gb _ #[.int .u32 (rd + 1), .int .u8 (j : Int)] _ _ ROW.out
        have f2 := PRV.out.keep (Keep.setRow v2 gb #[.int .u32 (rd + 1), .int .u8 (j : Int)]) (by simpa using hg1) (by simpa using hg2)
        have f3 : Keep [H.hP j, H.gP j] w5 (v2.setRow gb #[.int .u32 (rd + 1), .int .u8 (j : Int)]) := ((KPV.out.mono (T := [H.hP j, H.gP j, gb]) (fun k hk => .inl (by simp at hk ⊢; omega))).trans ((Keep.setRow v2 gb _).mono (T := [H.hP j, H.gP j, gb]) (fun k hk => .inl (by simp at hk ⊢; omega)))).mono (fun k hk => by have := GE.out; simp at hk ⊢; omega)
        generalize v2.setRow gb #[.int .u32 (rd + 1), .int .u8 (j : Int)] = v9 at *
        go_wp2_with fail
        go_meet
        exact ⟨gb, rfl, rfl, GE.out, f1, f2, f3⟩
  case rest =>
    obtain ⟨gb, rfl, rfl, hge, hrb, hpr, hkp⟩ := hcut
    have hw6 := (W5.out.prop hjn hkp _ hpr).ds (x.ds ++ [v])
    have TR6 := Lib.hid (TR5.out.trans (W5.out.trn_prop hjn hkp))
    have HTB : Hid (ours tg W.heap.size gb = 4) := Lib.hid (ours_ge (by have := TR5.out.bel.size; have := BB.out.size; have := HS5.out; have := H0.out.base; have := H0.out.lt; have := TR5.out.bel; have := this.size; omega))
    have hrbl := (Array.getElem?_eq_some_iff.1 hrb).1
    have HRB := Lib.hid hrb
    obtain ⟨x2, hx2⟩ : ∃ q : PX, ({({({x with rd := rd + 1} : PX) with P := upP x.P j ⟨⟨rd + 1, j⟩, allS, ⟨false, b0, v⟩⟩} : PX) with ds := x.ds ++ [v]} : PX) = q := ⟨_, rfl⟩
    have HX2 := Lib.hid hx2
    have W6 : Hid (WdW wc B xb n (ours tg W.heap.size) H c d vote x2) := Lib.hid (hx2 ▸ hw6)
    clear hw6 hge hrb hpr hkp hx2 HPR BG HL HPN
    obtain ⟨mk, hmk⟩ : ∃ mk : Nat → Mg, mk = fun k => ⟨k, (j : Int), ⟨rd + 1, (j : Int)⟩, nov, a0⟩ := ⟨_, rfl⟩
    have HMK : Hid (∀ k, mk k = ⟨k, (j : Int), ⟨rd + 1, (j : Int)⟩, nov, a0⟩) := Lib.hid (fun k => by rw [hmk])
    clear hmk
    go_wp2_with fail
    go_loopw [10] (fun v10 wr => ∃ k : Nat, v10 = .int .i64 (k : Int) ∧ k ≤ n ∧ ∃ tg' H', WdW wr B xb n tg' H' c (d + k) vote (x2.adds 2 ((List.range k).map mk)) ∧ Trn B (ours tg W.heap.size) tg' wc wr) (fun v10 _ => n - (intOf v10).toNat)
    case atStart => exact ⟨0, rfl, Nat.zero_le _, _, _, by rw [List.range_zero, List.map_nil, PX.adds_nil]; exact W6.out, Trn.refl _ _ _⟩
    case round =>
      obtain ⟨k, rfl, hk, tg', H', hw, ht⟩ := hrel
      by_cases hkn : k < n
      · have hki : (k : Int) < (n : Int) := by omega
        go_upto_region 15 with (fail)
        obtain ⟨hrow, htg⟩ := ht.row HRB.out HTB.out
        have ZB : Hid (WdW wr B xb n tg' H' c (d + k) vote (x2.adds 2 ((List.range k).map mk))) := Lib.hid hw
        have HT := Lib.hid ht
        have hrl := (Array.getElem?_eq_some_iff.1 hrow).1
        have HL : Hid (Holds wr [(⟨gb, 0, none⟩, .int .u32 (rd + 1)), (⟨gb, 1, none⟩, .int .u8 (j : Int))]) := Lib.hid (.cons (cell_of_row wr gb 0 _ _ (0, 0) hrow) hrl (.cons (cell_of_row wr gb 1 _ _ (0, 0) hrow) hrl (.nil _)))
        have HLO : Hid (∀ p ∈ [((⟨gb, 0, none⟩, .int .u32 (rd + 1)) : Addr × Value), (⟨gb, 1, none⟩, .int .u8 (j : Int))], tg' p.1.block = 4 ∨ tg' p.1.block = 0) := Lib.hid (by
          intro p hp
          simp only [List.mem_cons, List.not_mem_nil, or_false] at hp
          rcases hp with rfl | rfl <;> exact .inl htg)
        have HGN : Hid (gb ≠ xb) := Lib.hid (fun e => by have := hw.xt; rw [← e, htg] at this; omega)
        have DB : Hid (d + k ≤ 20000) := Lib.hid (by omega)
        have HMOK : Hid ((⟨k, (j : Int), ⟨rd + 1, (j : Int)⟩, nov, a0⟩ : Mg).Ok n 2) := Lib.hid ⟨hkn, ⟨show (-1 : Int) ≤ j by omega, show (j : Int) < 5 by omega⟩, fun _ => show (0 : Int) ≤ j by omega, fun _ => hji, ⟨by simp [Lit.wf, IntKind.min, IntKind.max, IntKind.signed, IntKind.bits]; omega, by simp [Lit.wf, IntKind.min, IntKind.max, IntKind.signed, IntKind.bits]; omega⟩, Nat.zero_le _, b0_ok, Nat.zero_le _⟩
        obtain ⟨xk, hxk⟩ : ∃ q : PX, x2.adds 2 ((List.range k).map mk) = q := ⟨_, rfl⟩
        rw [hxk] at ZB
        have HXK := Lib.hid hxk
        clear hw ht hrow htg hrl hxk
        obtain ⟨so, hso⟩ : ∃ q, H'.sl 2 = q := ⟨_, rfl⟩
        obtain ⟨sn, hsn⟩ : ∃ q, ((xk).ms 2).length = q := ⟨_, rfl⟩
        obtain ⟨sc, hsc⟩ : ∃ q, H'.cap 2 = q := ⟨_, rfl⟩
        have HSO := Lib.hid hso; have HSN := Lib.hid hsn; have HSC := Lib.hid hsc
        clear hso hsn hsc
        obtain ⟨i0, hi0, hz0, hz1, hz2⟩ := info_parts sent_info
        have HI := Lib.hid hi0; have HZ0 := Lib.hid hz0; have HZ1 := Lib.hid hz1; have HZ2 := Lib.hid hz2
        clear hi0 hz0 hz1 hz2
        have HBz : Hid (B ≤ wr.heap.size) := Lib.hid (by have := ZB.out.base; have := ZB.out.lt; omega)
        refine wp_region_held_drew (S := fun w' => Holds w' [(⟨gb, 0, none⟩, .int .u32 (rd + 1)), (⟨gb, 1, none⟩, .int .u8 (j : Int))]) (by kernel_rfl) (HL.out.drew) (fun s0 => ?_)
        have BD : Hid (Below wr.heap.size wr wr.drew) := Lib.hid (Below.refl _ _).drew
        generalize wr.drew = wd at *
        have y0 := ((ZB.out.below BD.out).list (by omega) (by omega) HSO.out HSN.out HSC.out).2.1
        have HXL : Hid (xb < wd.heap.size) := Lib.hid (Nat.lt_of_lt_of_le ZB.out.lt BD.out.size)
        refine wpAnyH_take (i := 0) (v := .pointer (some ⟨xb, 0, none⟩)) rfl (by kernel_rfl) (by kernel_rfl) (by kernel_rfl) (fun _ _ _ h => h) (Or.inl ⟨by rfl, fun w' hw' => by go_simp⟩) s0 ?_
        try simp only [Act.put, List.getElem_toArray, List.getElem_cons_succ, List.getElem_cons_zero, List.setIfInBounds_toArray, List.set_cons_zero, List.set_cons_succ, Nat.zero_add, List.nil_append]
        refine wpAnyH_take (i := 1) (v := .pointer (some ⟨xb, 0, none⟩)) rfl (by kernel_rfl) (by kernel_rfl) (by kernel_rfl) (fun _ _ _ h => h) (Or.inl ⟨by rfl, fun w' hw' => by go_simp⟩) s0 ?_
        try simp only [Act.put, List.getElem_toArray, List.getElem_cons_succ, List.getElem_cons_zero, List.setIfInBounds_toArray, List.set_cons_zero, List.set_cons_succ, Nat.zero_add, List.nil_append]
        refine wpAnyH_take (i := 2) (v := .pointer (some ⟨xb, 0, none⟩)) rfl (by kernel_rfl) (by kernel_rfl) (by kernel_rfl) (fun _ _ _ h => h) (Or.inl ⟨by rfl, fun w' hw' => by go_simp⟩) s0 ?_
        try simp only [Act.put, List.getElem_toArray, List.getElem_cons_succ, List.getElem_cons_zero, List.setIfInBounds_toArray, List.set_cons_zero, List.set_cons_succ, Nat.zero_add, List.nil_append]
        refine wpAnyH_take (i := 3) (v := .pointer (some ⟨xb, 5, none⟩)) rfl (by kernel_rfl) (by kernel_rfl) (by kernel_rfl) (fun _ _ _ h => h) (Or.inl ⟨by rfl, fun w' hw' => by go_simp⟩) s0 ?_
        try simp only [Act.put, List.getElem_toArray, List.getElem_cons_succ, List.getElem_cons_zero, List.setIfInBounds_toArray, List.set_cons_zero, List.set_cons_succ, Nat.zero_add, List.nil_append]
        refine wpAnyH_take (i := 4) (v := .pointer (some ⟨xb, 7, none⟩)) rfl (by kernel_rfl) (by kernel_rfl) (by kernel_rfl) (fun _ _ _ h => h) (Or.inl ⟨by rfl, fun w' hw' => by go_simp⟩) s0 ?_
        try simp only [Act.put, List.getElem_toArray, List.getElem_cons_succ, List.getElem_cons_zero, List.setIfInBounds_toArray, List.set_cons_zero, List.set_cons_succ, Nat.zero_add, List.nil_append]
        refine wpAnyH_take (i := 6) (v := .int .i64 (k : Int)) rfl (by kernel_rfl) (by kernel_rfl) (by kernel_rfl) (fun _ _ _ h => h) (Or.inl ⟨by rfl, fun w' hw' => by go_simp⟩) s0 ?_
        try simp only [Act.put, List.getElem_toArray, List.getElem_cons_succ, List.getElem_cons_zero, List.setIfInBounds_toArray, List.set_cons_zero, List.set_cons_succ, Nat.zero_add, List.nil_append]
        refine wpAnyH_take (i := 7) (v := .int .i64 (j : Int)) rfl (by kernel_rfl) (by kernel_rfl) (by kernel_rfl) (fun _ _ _ h => h) (Or.inl ⟨by rfl, fun w' hw' => by go_simp⟩) s0 ?_
        try simp only [Act.put, List.getElem_toArray, List.getElem_cons_succ, List.getElem_cons_zero, List.setIfInBounds_toArray, List.set_cons_zero, List.set_cons_succ, Nat.zero_add, List.nil_append]
        refine wpAnyH_take (i := 8) (v := .agg #[.int .u32 (rd + 1), .int .u8 (j : Int)]) rfl (by kernel_rfl) (by kernel_rfl) (by kernel_rfl) (fun _ _ _ h => h) (Or.inl ⟨by rfl, fun w' hw' => by have q0 := hw'.head; have q1 := hw'.tail.head; go_simp⟩) s0 ?_
        try simp only [Act.put, List.getElem_toArray, List.getElem_cons_succ, List.getElem_cons_zero, List.setIfInBounds_toArray, List.set_cons_zero, List.set_cons_succ, Nat.zero_add, List.nil_append]
        refine wpAnyH_take (i := 9) (v := .agg #[.int .i64 (k : Int), .int .i64 (j : Int), .int .u32 (rd + 1), .int .u8 (j : Int), .string ⟨#[]⟩, .bool false, .int .u32 0, .int .u8 0, .string ⟨#[]⟩]) rfl (by kernel_rfl) (by kernel_rfl) (by kernel_rfl) (fun _ _ _ h => h) (Or.inl ⟨by rfl, fun w' hw' => by go_simp⟩) s0 ?_
        try simp only [Act.put, List.getElem_toArray, List.getElem_cons_succ, List.getElem_cons_zero, List.setIfInBounds_toArray, List.set_cons_zero, List.set_cons_succ, Nat.zero_add, List.nil_append]
        refine wpAnyH_take (i := 12) (v := .pointer (some ⟨xb, 0, none⟩)) rfl (by kernel_rfl) (by kernel_rfl) (by kernel_rfl) (fun _ _ _ h => h) (Or.inl ⟨by rfl, fun w' hw' => by go_simp⟩) s0 ?_
        try simp only [Act.put, List.getElem_toArray, List.getElem_cons_succ, List.getElem_cons_zero, List.setIfInBounds_toArray, List.set_cons_zero, List.set_cons_succ, Nat.zero_add, List.nil_append]
        refine wpAnyH_take (i := 13) (v := .pointer (some ⟨xb, 5, none⟩)) rfl (by kernel_rfl) (by kernel_rfl) (by kernel_rfl) (fun _ _ _ h => h) (Or.inl ⟨by rfl, fun w' hw' => by go_simp⟩) s0 ?_
        try simp only [Act.put, List.getElem_toArray, List.getElem_cons_succ, List.getElem_cons_zero, List.setIfInBounds_toArray, List.set_cons_zero, List.set_cons_succ, Nat.zero_add, List.nil_append]
        refine wpAnyH_ready (rs := [5, 10]) (by kernel_rfl) (by simp) ?_
        refine AllReadyH.cons rfl (fun K hK => ?_) (AllReadyH.cons rfl (fun K hK => ?_) AllReadyH.nil)
        · skip
          rw [if_pos (by rfl)]
          go_simp
          refine hK.out _ _ s0 (fun _ => ?_)
          clear hK K
          try simp only [Act.put, List.getElem_toArray, List.getElem_cons_succ, List.getElem_cons_zero, List.setIfInBounds_toArray, List.set_cons_zero, List.set_cons_succ, Nat.zero_add, List.nil_append]
          refine wpAnyH_ready (rs := [10]) (by kernel_rfl) (by simp) ?_
          refine AllReadyH.cons rfl (fun K hK => ?_) AllReadyH.nil
          rw [if_pos (by rfl)]
          go_simp
          have b1 : Below wd.heap.size wd (wd.alloc (.cells #[.int .i64 (k : Int), .int .i64 (j : Int), .int .u32 (rd + 1), .int .u8 (j : Int), .string ⟨#[]⟩, .bool false, .int .u32 0, .int .u8 0, .string ⟨#[]⟩] 105)) := below_alloc (Below.refl _ _) _
          have r1 := heap_alloc_new wd (.cells #[.int .i64 (k : Int), .int .i64 (j : Int), .int .u32 (rd + 1), .int .u8 (j : Int), .string ⟨#[]⟩, .bool false, .int .u32 0, .int .u8 0, .string ⟨#[]⟩] 105)
          have y1 := (b1.cell (p := ⟨xb, 7, none⟩) HXL.out).trans y0
          have s1 := s0.below b1
          generalize wd.alloc (.cells #[.int .i64 (k : Int), .int .i64 (j : Int), .int .u32 (rd + 1), .int .u8 (j : Int), .string ⟨#[]⟩, .bool false, .int .u32 0, .int .u8 0, .string ⟨#[]⟩] 105) = v1 at *
          obtain ⟨nb, hnb⟩ : ∃ q, q = wd.heap.size := ⟨_, rfl⟩
          rw [← hnb] at r1 ⊢
          have BV := Lib.hid (BD.out.trans (b1.mono BD.out.size))
          have R1 := Lib.hid r1
          clear b1 r1 hnb
          refine hK.out _ _ s1 (fun _ => ?_)
          clear hK K
          try simp only [Act.put, List.getElem_toArray, List.getElem_cons_succ, List.getElem_cons_zero, List.setIfInBounds_toArray, List.set_cons_zero, List.set_cons_succ, Nat.zero_add, List.nil_append]
          refine wpAnyH_ready (rs := [11]) (by kernel_rfl) (by simp) ?_
          refine AllReadyH.cons rfl (fun K hK => ?_) AllReadyH.nil
          rw [if_pos (by rfl)]
          have lst := (ZB.out.below BV.out).list (by omega) (by omega) HSO.out HSN.out HSC.out
          refine wp_append_lies _ (.tmp 104) (.tmp 109) 63 rfl B 105 i0 _ 9 72 Try.underlying63 HI.out HZ0.out HZ1.out HZ2.out rfl (by decide) (.slice so sn sc) sn (fl cM ((xk).ms 2)) rfl lst.1 ⟨nb, 0, none⟩ 1 1 (cM ⟨k, (j : Int), ⟨rd + 1, (j : Int)⟩, nov, a0⟩) rfl rfl (news_cM R1.out) (cM_one _) (by decide) (by have := lst.2.2.2.1; have := DB.out; unfold maxLen; omega) (by have := lst.2.2.2.1; have := DB.out; omega) (Nat.le_trans HBz.out BV.out.size) _ rfl ?_
          intro ga ca v3 own3 gr3 at3 lt3
          obtain ⟨PU, kg, z0, z1⟩ := ZB.out.push (by omega) (by omega) HSO.out HSN.out HSC.out HMOK.out BV.out own3 gr3 at3
          have s3 := s1.keep kg (fun p hp => by rw [← HSO.out]; exact ZB.out.src_not (by omega) (by omega) (HLO.out p hp))
          have PU := Lib.hid PU
          clear own3 gr3 at3 lt3 kg lst y1
          refine hK.out _ _ s3 (fun _ => ?_)
          clear hK K
          try simp only [Act.put, List.getElem_toArray, List.getElem_cons_succ, List.getElem_cons_zero, List.setIfInBounds_toArray, List.set_cons_zero, List.set_cons_succ, Nat.zero_add, List.nil_append]
          refine wpAnyH_take (i := 14) (v := .pointer (some ⟨xb, 7, none⟩)) rfl (by kernel_rfl) (by kernel_rfl) (by kernel_rfl) (fun _ _ _ h => h) (Or.inl ⟨by rfl, fun w' hw' => by go_simp⟩) s3 ?_
          try simp only [Act.put, List.getElem_toArray, List.getElem_cons_succ, List.getElem_cons_zero, List.setIfInBounds_toArray, List.set_cons_zero, List.set_cons_succ, Nat.zero_add, List.nil_append]
          refine wpAnyH_ready (rs := [15]) (by kernel_rfl) (by simp) ?_
          refine AllReadyH.cons rfl (fun K hK => ?_) AllReadyH.nil
          rw [if_pos (by rfl)]
          go_simp
          have s4 := s3.set ⟨xb, 7, none⟩ (.slice (some ⟨ga, 0, none⟩) (sn + 1) ca) (by intro p hp; simp only [List.mem_cons, List.not_mem_nil, or_false] at hp; rcases hp with rfl | rfl <;> (intro e; simp only [Addr.mk.injEq] at e; exact HGN.out e.1))
          refine hK.out _ _ s4 (fun _ => ?_)
          clear hK K
          try simp only [Act.put, List.getElem_toArray, List.getElem_cons_succ, List.getElem_cons_zero, List.setIfInBounds_toArray, List.set_cons_zero, List.set_cons_succ, Nat.zero_add, List.nil_append]
          refine wpAnyH_done (by kernel_rfl) ?_ _
          replace PU := PU.out
          simp only [Nat.reduceAdd] at PU
          have PU := Lib.hid PU
          clear s0 s1 s3 s4 z0 z1
          generalize v3.setCell ⟨xb, 7, none⟩ (.slice (some ⟨ga, 0, none⟩) (sn + 1) ca) = w9 at *
          go_wp2_with fail
          go_roundw
          case rel =>
            obtain ⟨tg2, H2, g1, g2⟩ := PU.out
            rw [← HXK.out, PX.adds_adds, ← HMK.out k, show (List.range k).map mk ++ [mk k] = (List.range (k + 1)).map mk by rw [List.range_succ, List.map_append]; rfl] at g1
            exact ⟨k + 1, by go_num, by omega, tg2, H2, g1, HT.out.trans g2⟩
          case measure => simp [intOf]; omega
        · skip
          rw [if_pos (by rfl)]
          go_simp
          have b1 : Below wd.heap.size wd (wd.alloc (.cells #[.int .i64 (k : Int), .int .i64 (j : Int), .int .u32 (rd + 1), .int .u8 (j : Int), .string ⟨#[]⟩, .bool false, .int .u32 0, .int .u8 0, .string ⟨#[]⟩] 105)) := below_alloc (Below.refl _ _) _
          have r1 := heap_alloc_new wd (.cells #[.int .i64 (k : Int), .int .i64 (j : Int), .int .u32 (rd + 1), .int .u8 (j : Int), .string ⟨#[]⟩, .bool false, .int .u32 0, .int .u8 0, .string ⟨#[]⟩] 105)
          have y1 := (b1.cell (p := ⟨xb, 7, none⟩) HXL.out).trans y0
          have s1 := s0.below b1
          generalize wd.alloc (.cells #[.int .i64 (k : Int), .int .i64 (j : Int), .int .u32 (rd + 1), .int .u8 (j : Int), .string ⟨#[]⟩, .bool false, .int .u32 0, .int .u8 0, .string ⟨#[]⟩] 105) = v1 at *
          obtain ⟨nb, hnb⟩ : ∃ q, q = wd.heap.size := ⟨_, rfl⟩
          rw [← hnb] at r1 ⊢
          have BV := Lib.hid (BD.out.trans (b1.mono BD.out.size))
          have R1 := Lib.hid r1
          clear b1 r1 hnb
          refine hK.out _ _ s1 (fun _ => ?_)
          clear hK K
          try simp only [Act.put, List.getElem_toArray, List.getElem_cons_succ, List.getElem_cons_zero, List.setIfInBounds_toArray, List.set_cons_zero, List.set_cons_succ, Nat.zero_add, List.nil_append]
          refine wpAnyH_ready (rs := [5]) (by kernel_rfl) (by simp) ?_
          refine AllReadyH.cons rfl (fun K hK => ?_) AllReadyH.nil
          rw [if_pos (by rfl)]
          go_simp
          refine hK.out _ _ s1 (fun _ => ?_)
          clear hK K
          try simp only [Act.put, List.getElem_toArray, List.getElem_cons_succ, List.getElem_cons_zero, List.setIfInBounds_toArray, List.set_cons_zero, List.set_cons_succ, Nat.zero_add, List.nil_append]
          refine wpAnyH_ready (rs := [11]) (by kernel_rfl) (by simp) ?_
          refine AllReadyH.cons rfl (fun K hK => ?_) AllReadyH.nil
          rw [if_pos (by rfl)]
          have lst := (ZB.out.below BV.out).list (by omega) (by omega) HSO.out HSN.out HSC.out
          refine wp_append_lies _ (.tmp 104) (.tmp 109) 63 rfl B 105 i0 _ 9 72 Try.underlying63 HI.out HZ0.out HZ1.out HZ2.out rfl (by decide) (.slice so sn sc) sn (fl cM ((xk).ms 2)) rfl lst.1 ⟨nb, 0, none⟩ 1 1 (cM ⟨k, (j : Int), ⟨rd + 1, (j : Int)⟩, nov, a0⟩) rfl rfl (news_cM R1.out) (cM_one _) (by decide) (by have := lst.2.2.2.1; have := DB.out; unfold maxLen; omega) (by have := lst.2.2.2.1; have := DB.out; omega) (Nat.le_trans HBz.out BV.out.size) _ rfl ?_
          intro ga ca v3 own3 gr3 at3 lt3
          obtain ⟨PU, kg, z0, z1⟩ := ZB.out.push (by omega) (by omega) HSO.out HSN.out HSC.out HMOK.out BV.out own3 gr3 at3
          have s3 := s1.keep kg (fun p hp => by rw [← HSO.out]; exact ZB.out.src_not (by omega) (by omega) (HLO.out p hp))
          have PU := Lib.hid PU
          clear own3 gr3 at3 lt3 kg lst y1
          refine hK.out _ _ s3 (fun _ => ?_)
          clear hK K
          try simp only [Act.put, List.getElem_toArray, List.getElem_cons_succ, List.getElem_cons_zero, List.setIfInBounds_toArray, List.set_cons_zero, List.set_cons_succ, Nat.zero_add, List.nil_append]
          refine wpAnyH_take (i := 14) (v := .pointer (some ⟨xb, 7, none⟩)) rfl (by kernel_rfl) (by kernel_rfl) (by kernel_rfl) (fun _ _ _ h => h) (Or.inl ⟨by rfl, fun w' hw' => by go_simp⟩) s3 ?_
          try simp only [Act.put, List.getElem_toArray, List.getElem_cons_succ, List.getElem_cons_zero, List.setIfInBounds_toArray, List.set_cons_zero, List.set_cons_succ, Nat.zero_add, List.nil_append]
          refine wpAnyH_ready (rs := [15]) (by kernel_rfl) (by simp) ?_
          refine AllReadyH.cons rfl (fun K hK => ?_) AllReadyH.nil
          rw [if_pos (by rfl)]
          go_simp
          have s4 := s3.set ⟨xb, 7, none⟩ (.slice (some ⟨ga, 0, none⟩) (sn + 1) ca) (by intro p hp; simp only [List.mem_cons, List.not_mem_nil, or_false] at hp; rcases hp with rfl | rfl <;> (intro e; simp only [Addr.mk.injEq] at e; exact HGN.out e.1))
          refine hK.out _ _ s4 (fun _ => ?_)
          clear hK K
          try simp only [Act.put, List.getElem_toArray, List.getElem_cons_succ, List.getElem_cons_zero, List.setIfInBounds_toArray, List.set_cons_zero, List.set_cons_succ, Nat.zero_add, List.nil_append]
          refine wpAnyH_done (by kernel_rfl) ?_ _
          replace PU := PU.out
          simp only [Nat.reduceAdd] at PU
          have PU := Lib.hid PU
          clear s0 s1 s3 s4 z0 z1
          generalize v3.setCell ⟨xb, 7, none⟩ (.slice (some ⟨ga, 0, none⟩) (sn + 1) ca) = w9 at *
          go_wp2_with fail
          go_roundw
          case rel =>
            obtain ⟨tg2, H2, g1, g2⟩ := PU.out
            rw [← HXK.out, PX.adds_adds, ← HMK.out k, show (List.range k).map mk ++ [mk k] = (List.range (k + 1)).map mk by rw [List.range_succ, List.map_append]; rfl] at g1
            exact ⟨k + 1, by go_num, by omega, tg2, H2, g1, HT.out.trans g2⟩
          case measure => simp [intOf]; omega
      · obtain rfl : k = n := by omega
        go_wp2_with fail
        go_end0
        refine ⟨rfl, tg', H', _, (hw.up (by omega)).upc (by omega), ?_, (TR6.out.trans ht).start, ?_, ?_, ?_⟩
        · have := inv_begin hin j v (x.m2 ++ (List.range k).map mk)
          rw [HRD.out] at this
          rw [← HX2.out]
          exact this
        · rw [← HX2.out]; rfl
        · rw [← HX2.out]; show rd + 1 ≤ x.rd + 1; rw [HRD.out]; exact Int.le_refl _
        · rw [← HX2.out]; exact hna
end
end Go.Proofs.Ytgfalpiifgoonaa
