/- ProposerOneValue: way 1 of the law's own step. -/
import Derived.Test.YtgfalpiifgoonaaWt
import Derived.Deep.RegionHeld3
namespace Go.Proofs.Ytgfalpiifgoonaa
open Go.RowKit Go.Sort
set_option linter.unusedVariables false
set_option linter.unusedSectionVars false
set_option linter.unusedSimpArgs false
set_option maxRecDepth 100000
section
variable {w w' : World} {B xb n c d : Nat} {tg : Nat → Nat} {H : Hd} {vote : ByteArray} {x : PX} {U : List Nat}
set_option maxHeartbeats 6400000 in
theorem step_k1 (a b : Int) (v : ByteArray) (wa : (Lit.int .i64 a).wf = true) (wb : (Lit.int .i64 b).wf = true) (hv : v.size ≤ 281474976710656) (W : World) (h : WdW W B xb n tg H c d vote x) (hd : d ≤ 10000) (hcc : c < 100000) (hvs : vote.size ≤ 281474976710656) (hvd : vote ∈ x.ds) (hin : x.Inv n vote) (hna : x.Nn n) :
    Calls Try.prog 22 #[.pointer (some ⟨xb, 0, none⟩), .agg #[.int .i64 1, .int .i64 a, .int .i64 b, .string v]] W (StEnd W B xb n tg c d vote x x.ds) := by
  have CP := Lib.hid (fun w => pick_any 1 (by decide) 6 (by omega) (by omega) w)
  obtain ⟨p, hp⟩ : ∃ p, p = pk 1 6 := ⟨_, rfl⟩
  have hp5 : p = 1 := hp.trans (by decide)
  have hp6 : p < 6 := by omega
  rw [← hp] at CP
  clear hp5 hp
  have hpi : (p : Int) < 6 := by omega
  have hpi0 : (0 : Int) ≤ (p : Int) := by omega
  obtain ⟨bx, hbx⟩ : ∃ bx, bx = W.heap.size := ⟨_, rfl⟩
  have hxl := h.lt
  have hn5 := h.pt.n5
  have hn1 := h.pt.n1
  have hw1 := h.ours.below (below_alloc (Below.refl _ _) (.cells #[.int .i64 1, .int .i64 a, .int .i64 b, .string v] 73))
  have y0 := hw1.acc
  have yl := hw1.l hp6
  have W1 := Lib.hid hw1
  have H0 := Lib.hid h
  clear h hw1
  go_enter Try.func22, Try.ntmps22
  go_upto_region 2 with (fail)
  have r0 := heap_alloc_new W (.cells #[.int .i64 1, .int .i64 a, .int .i64 b, .string v] 73)
  have bw1 := below_alloc (Below.refl W.heap.size W) (.cells #[.int .i64 1, .int .i64 a, .int .i64 b, .string v] 73)
  generalize W.alloc (.cells #[.int .i64 1, .int .i64 a, .int .i64 b, .string v] 73) = w1 at *
  rw [← hbx] at r0
  have e0 := cell_of_row w1 bx 0 _ _ (0, 0) r0
  simp only [List.getElem?_toArray, List.getElem?_cons_zero, List.getElem?_cons_succ] at e0
  rw [← hbx]
  have R0 := Lib.hid r0
  have HBX := Lib.hid hbx
  clear r0 hbx
  generalize x.lv H p = lvp at *
  go_quiet ((go_at_call 20; refine Calls.quiet_of_same ((CP.out _).mono (by rintro e w' ⟨h1, h2⟩; exact ⟨h1, h2.symm⟩))))
  have hw2 := W1.out.below (below_drewN (Below.refl _ _) nq)
  have r2 : (w1.drewN nq).heap[bx]? = _ := R0.out
  have b2 := below_next bw1 (below_drewN (Below.refl w1.heap.size w1) nq)
  clear e0 y0 yl W1 R0 bw1
  generalize w1.drewN nq = w2 at *
  have e0 := cell_of_row w2 bx 0 _ _ (0, 0) r2
  simp only [List.getElem?_toArray, List.getElem?_cons_zero, List.getElem?_cons_succ] at e0
  have W2 := Lib.hid hw2
  have R2 := Lib.hid r2
  have B2 := Lib.hid b2
  clear hw2 r2 b2
  have CN := Lib.hid (fun w => pick_any a wa n (by omega) (by omega) w)
  have hkn := pk_lt a (n := n) (by omega)
  generalize pk a n = k at *
  have HKN := Lib.hid hkn
  clear hkn
  go_upto_region 5 with (fail)
  have b3 := below_alloc (Below.refl w2.heap.size w2) (.cells #[.int .i64 0, .int .i64 0, .int .u32 0, .int .u8 0, .string ⟨#[]⟩, .bool false, .int .u32 0, .int .u8 0, .string ⟨#[]⟩] 105)
  have hw3 := W2.out.below b3
  have r3 := row_keep R2.out (Keep.of_below b3 []) (by simp)
  have BB := Lib.hid (below_next B2.out b3)
  generalize w2.alloc (.cells #[.int .i64 0, .int .i64 0, .int .u32 0, .int .u8 0, .string ⟨#[]⟩, .bool false, .int .u32 0, .int .u8 0, .string ⟨#[]⟩] 105) = w3 at *
  clear e0
  have e0 := cell_of_row w3 bx 0 _ _ (0, 0) r3
  simp only [List.getElem?_toArray, List.getElem?_cons_zero, List.getElem?_cons_succ] at e0
  have ZB := Lib.hid hw3
  have HL : Hid (Holds w3 [(⟨bx, 1, none⟩, .int .i64 a), (⟨xb, 4, none⟩, .string vote)]) := Lib.hid (.cons (cell_of_row w3 bx 1 _ _ (0, 0) r3) (Array.getElem?_eq_some_iff.1 r3).1 (.cons hw3.vt hw3.lt (.nil _)))
  have HXT := Lib.hid hw3.xt
  have HBXL := Lib.hid (Array.getElem?_eq_some_iff.1 R2.out).1
  have HLO : Hid (∀ p ∈ [((⟨bx, 1, none⟩, .int .i64 a) : Addr × Value), (⟨xb, 4, none⟩, .string vote)], ours tg W.heap.size p.1.block = 4 ∨ ours tg W.heap.size p.1.block = 0) := Lib.hid (by
    intro p hp
    simp only [List.mem_cons, List.not_mem_nil, or_false] at hp
    rcases hp with rfl | rfl
    · exact .inl (ours_ge (by rw [HBX.out]; exact Nat.le_refl _))
    · exact .inr HXT.out)
  have HBN : Hid (bx ≠ xb) := Lib.hid (by have := HBX.out; omega)
  have DB : Hid (d ≤ 20000) := Lib.hid (by omega)
  have HMOK : Hid ((⟨k, -1, b0, vote, a0⟩ : Mg).Ok n 3) := Lib.hid ⟨HKN.out, ⟨Int.le_refl _, (by decide : (-1 : Int) < 5)⟩, fun h => absurd rfl h, fun h => absurd h (by decide), b0_ok, hvs, b0_ok, Nat.zero_le _⟩
  clear hw3 r3 b3 HBX
  go_upto_region 17 with (fail)
  clear e0
  obtain ⟨so, hso⟩ : ∃ q, H.sl 3 = q := ⟨_, rfl⟩
  obtain ⟨sn, hsn⟩ : ∃ q, ((x).ms 3).length = q := ⟨_, rfl⟩
  obtain ⟨sc, hsc⟩ : ∃ q, H.cap 3 = q := ⟨_, rfl⟩
  have HSO := Lib.hid hso; have HSN := Lib.hid hsn; have HSC := Lib.hid hsc
  clear hso hsn hsc
  obtain ⟨i0, hi0, hz0, hz1, hz2⟩ := info_parts sent_info
  have HI := Lib.hid hi0; have HZ0 := Lib.hid hz0; have HZ1 := Lib.hid hz1; have HZ2 := Lib.hid hz2
  clear hi0 hz0 hz1 hz2
  have HBz : Hid (B ≤ w3.heap.size) := Lib.hid (by have := ZB.out.base; have := ZB.out.lt; omega)
  refine wp_region_held_drew (S := fun w' => Holds w' [(⟨bx, 1, none⟩, .int .i64 a), (⟨xb, 4, none⟩, .string vote)]) (by kernel_rfl) (HL.out.drew) (fun s0 => ?_)
  have BD : Hid (Below w3.heap.size w3 w3.drew) := Lib.hid (Below.refl _ _).drew
  generalize w3.drew = wd at *
  have y0 := ((ZB.out.below BD.out).list (by omega) (by omega) HSO.out HSN.out HSC.out).2.1
  have HXL : Hid (xb < wd.heap.size) := Lib.hid (Nat.lt_of_lt_of_le ZB.out.lt BD.out.size)
  refine wpAnyH_take (i := 0) (v := .pointer (some ⟨xb, 0, none⟩)) rfl (by kernel_rfl) (by kernel_rfl) (by kernel_rfl) (fun _ _ _ h => h) (Or.inl ⟨by rfl, fun w' hw' => by go_simp⟩) s0 ?_
  try simp only [Act.put, List.getElem_toArray, List.getElem_cons_succ, List.getElem_cons_zero, List.setIfInBounds_toArray, List.set_cons_zero, List.set_cons_succ, Nat.zero_add, List.nil_append]
  refine wpAnyH_take (i := 1) (v := .pointer (some ⟨xb, 0, none⟩)) rfl (by kernel_rfl) (by kernel_rfl) (by kernel_rfl) (fun _ _ _ h => h) (Or.inl ⟨by rfl, fun w' hw' => by go_simp⟩) s0 ?_
  try simp only [Act.put, List.getElem_toArray, List.getElem_cons_succ, List.getElem_cons_zero, List.setIfInBounds_toArray, List.set_cons_zero, List.set_cons_succ, Nat.zero_add, List.nil_append]
  refine wpAnyH_take (i := 2) (v := .pointer (some ⟨xb, 0, none⟩)) rfl (by kernel_rfl) (by kernel_rfl) (by kernel_rfl) (fun _ _ _ h => h) (Or.inl ⟨by rfl, fun w' hw' => by go_simp⟩) s0 ?_
  try simp only [Act.put, List.getElem_toArray, List.getElem_cons_succ, List.getElem_cons_zero, List.setIfInBounds_toArray, List.set_cons_zero, List.set_cons_succ, Nat.zero_add, List.nil_append]
  refine wpAnyH_take (i := 3) (v := .pointer (some ⟨xb, 5, none⟩)) rfl (by kernel_rfl) (by kernel_rfl) (by kernel_rfl) (fun _ _ _ h => h) (Or.inl ⟨by rfl, fun w' hw' => by go_simp⟩) s0 ?_
  try simp only [Act.put, List.getElem_toArray, List.getElem_cons_succ, List.getElem_cons_zero, List.setIfInBounds_toArray, List.set_cons_zero, List.set_cons_succ, Nat.zero_add, List.nil_append]
  refine wpAnyH_take (i := 4) (v := .pointer (some ⟨xb, 8, none⟩)) rfl (by kernel_rfl) (by kernel_rfl) (by kernel_rfl) (fun _ _ _ h => h) (Or.inl ⟨by rfl, fun w' hw' => by go_simp⟩) s0 ?_
  try simp only [Act.put, List.getElem_toArray, List.getElem_cons_succ, List.getElem_cons_zero, List.setIfInBounds_toArray, List.set_cons_zero, List.set_cons_succ, Nat.zero_add, List.nil_append]
  refine wpAnyH_take (i := 6) (v := .pointer (some ⟨bx, 1, none⟩)) rfl (by kernel_rfl) (by kernel_rfl) (by kernel_rfl) (fun _ _ _ h => h) (Or.inl ⟨by rfl, fun w' hw' => by go_simp⟩) s0 ?_
  try simp only [Act.put, List.getElem_toArray, List.getElem_cons_succ, List.getElem_cons_zero, List.setIfInBounds_toArray, List.set_cons_zero, List.set_cons_succ, Nat.zero_add, List.nil_append]
  refine wpAnyH_take (i := 7) (v := .int .i64 a) rfl (by kernel_rfl) (by kernel_rfl) (by kernel_rfl) (fun _ _ _ h => h) (Or.inl ⟨by rfl, fun w' hw' => by have q0 := hw'.head; have q1 := hw'.tail.head; go_simp⟩) s0 ?_
  try simp only [Act.put, List.getElem_toArray, List.getElem_cons_succ, List.getElem_cons_zero, List.setIfInBounds_toArray, List.set_cons_zero, List.set_cons_succ, Nat.zero_add, List.nil_append]
  refine wpAnyH_take (i := 8) (v := .int .i64 (n : Int)) rfl (by kernel_rfl) (by kernel_rfl) (by kernel_rfl) (fun _ _ _ h => h) (Or.inl ⟨by rfl, fun w' hw' => by go_simp⟩) s0 ?_
  try simp only [Act.put, List.getElem_toArray, List.getElem_cons_succ, List.getElem_cons_zero, List.setIfInBounds_toArray, List.set_cons_zero, List.set_cons_succ, Nat.zero_add, List.nil_append]
  refine wpAnyH_take (i := 10) (v := .pointer (some ⟨xb, 0, none⟩)) rfl (by kernel_rfl) (by kernel_rfl) (by kernel_rfl) (fun _ _ _ h => h) (Or.inl ⟨by rfl, fun w' hw' => by go_simp⟩) s0 ?_
  try simp only [Act.put, List.getElem_toArray, List.getElem_cons_succ, List.getElem_cons_zero, List.setIfInBounds_toArray, List.set_cons_zero, List.set_cons_succ, Nat.zero_add, List.nil_append]
  refine wpAnyH_take (i := 11) (v := .pointer (some ⟨xb, 0, none⟩)) rfl (by kernel_rfl) (by kernel_rfl) (by kernel_rfl) (fun _ _ _ h => h) (Or.inl ⟨by rfl, fun w' hw' => by go_simp⟩) s0 ?_
  try simp only [Act.put, List.getElem_toArray, List.getElem_cons_succ, List.getElem_cons_zero, List.setIfInBounds_toArray, List.set_cons_zero, List.set_cons_succ, Nat.zero_add, List.nil_append]
  refine wpAnyH_take (i := 12) (v := .pointer (some ⟨xb, 4, none⟩)) rfl (by kernel_rfl) (by kernel_rfl) (by kernel_rfl) (fun _ _ _ h => h) (Or.inl ⟨by rfl, fun w' hw' => by go_simp⟩) s0 ?_
  try simp only [Act.put, List.getElem_toArray, List.getElem_cons_succ, List.getElem_cons_zero, List.setIfInBounds_toArray, List.set_cons_zero, List.set_cons_succ, Nat.zero_add, List.nil_append]
  refine wpAnyH_take (i := 13) (v := .string vote) rfl (by kernel_rfl) (by kernel_rfl) (by kernel_rfl) (fun _ _ _ h => h) (Or.inl ⟨by rfl, fun w' hw' => by have q0 := hw'.head; have q1 := hw'.tail.head; go_simp⟩) s0 ?_
  try simp only [Act.put, List.getElem_toArray, List.getElem_cons_succ, List.getElem_cons_zero, List.setIfInBounds_toArray, List.set_cons_zero, List.set_cons_succ, Nat.zero_add, List.nil_append]
  refine wpAnyH_take (i := 17) (v := .pointer (some ⟨xb, 0, none⟩)) rfl (by kernel_rfl) (by kernel_rfl) (by kernel_rfl) (fun _ _ _ h => h) (Or.inl ⟨by rfl, fun w' hw' => by go_simp⟩) s0 ?_
  try simp only [Act.put, List.getElem_toArray, List.getElem_cons_succ, List.getElem_cons_zero, List.setIfInBounds_toArray, List.set_cons_zero, List.set_cons_succ, Nat.zero_add, List.nil_append]
  refine wpAnyH_take (i := 18) (v := .pointer (some ⟨xb, 5, none⟩)) rfl (by kernel_rfl) (by kernel_rfl) (by kernel_rfl) (fun _ _ _ h => h) (Or.inl ⟨by rfl, fun w' hw' => by go_simp⟩) s0 ?_
  try simp only [Act.put, List.getElem_toArray, List.getElem_cons_succ, List.getElem_cons_zero, List.setIfInBounds_toArray, List.set_cons_zero, List.set_cons_succ, Nat.zero_add, List.nil_append]
  refine wpAnyH_ready (rs := [5, 9]) (by kernel_rfl) (by simp) ?_
  refine AllReadyH.cons rfl (fun K hK => ?_) (AllReadyH.cons rfl (fun K hK => ?_) AllReadyH.nil)
  · skip
    rw [if_pos (by rfl)]
    go_simp
    refine hK.out _ _ s0 (fun _ => ?_)
    clear hK K
    try simp only [Act.put, List.getElem_toArray, List.getElem_cons_succ, List.getElem_cons_zero, List.setIfInBounds_toArray, List.set_cons_zero, List.set_cons_succ, Nat.zero_add, List.nil_append]
    refine wpAnyH_ready (rs := [9]) (by kernel_rfl) (by simp) ?_
    refine AllReadyH.cons rfl (fun K hK => ?_) AllReadyH.nil
    go_simp
    refine (CN.out wd).mono ?_
    rintro e wq ⟨rfl, rfl⟩
    refine hK.out _ _ s0 (fun _ => ?_)
    clear hK K
    try simp only [Act.put, List.getElem_toArray, List.getElem_cons_succ, List.getElem_cons_zero, List.setIfInBounds_toArray, List.set_cons_zero, List.set_cons_succ, Nat.zero_add, List.nil_append]
    refine wpAnyH_take (i := 14) (v := .agg #[.int .i64 (k : Int), .int .i64 (-1), .int .u32 0, .int .u8 0, .string vote, .bool false, .int .u32 0, .int .u8 0, .string ⟨#[]⟩]) rfl (by kernel_rfl) (by kernel_rfl) (by kernel_rfl) (fun _ _ _ h => h) (Or.inl ⟨by rfl, fun w' hw' => by go_simp⟩) s0 ?_
    try simp only [Act.put, List.getElem_toArray, List.getElem_cons_succ, List.getElem_cons_zero, List.setIfInBounds_toArray, List.set_cons_zero, List.set_cons_succ, Nat.zero_add, List.nil_append]
    refine wpAnyH_ready (rs := [15]) (by kernel_rfl) (by simp) ?_
    refine AllReadyH.cons rfl (fun K hK => ?_) AllReadyH.nil
    rw [if_pos (by rfl)]
    go_simp
    have b1 : Below wd.heap.size wd (wd.alloc (.cells #[.int .i64 (k : Int), .int .i64 (-1), .int .u32 0, .int .u8 0, .string vote, .bool false, .int .u32 0, .int .u8 0, .string ⟨#[]⟩] 105)) := below_alloc (Below.refl _ _) _
    have r1 := heap_alloc_new wd (.cells #[.int .i64 (k : Int), .int .i64 (-1), .int .u32 0, .int .u8 0, .string vote, .bool false, .int .u32 0, .int .u8 0, .string ⟨#[]⟩] 105)
    have y1 := (b1.cell (p := ⟨xb, 8, none⟩) HXL.out).trans y0
    have s1 := s0.below b1
    generalize wd.alloc (.cells #[.int .i64 (k : Int), .int .i64 (-1), .int .u32 0, .int .u8 0, .string vote, .bool false, .int .u32 0, .int .u8 0, .string ⟨#[]⟩] 105) = v1 at *
    obtain ⟨nb, hnb⟩ : ∃ q, q = wd.heap.size := ⟨_, rfl⟩
    rw [← hnb] at r1 ⊢
    have BV := Lib.hid (BD.out.trans (b1.mono BD.out.size))
    have R1 := Lib.hid r1
    clear b1 r1 hnb
    refine hK.out _ _ s1 (fun _ => ?_)
    clear hK K
    try simp only [Act.put, List.getElem_toArray, List.getElem_cons_succ, List.getElem_cons_zero, List.setIfInBounds_toArray, List.set_cons_zero, List.set_cons_succ, Nat.zero_add, List.nil_append]
    refine wpAnyH_ready (rs := [16]) (by kernel_rfl) (by simp) ?_
    refine AllReadyH.cons rfl (fun K hK => ?_) AllReadyH.nil
    rw [if_pos (by rfl)]
    have lst := (ZB.out.below BV.out).list (by omega) (by omega) HSO.out HSN.out HSC.out
    refine wp_append_lies _ (.tmp 121) (.tmp 131) 63 rfl B 105 i0 _ 9 72 Try.underlying63 HI.out HZ0.out HZ1.out HZ2.out rfl (by decide) (.slice so sn sc) sn (fl cM ((x).ms 3)) rfl lst.1 ⟨nb, 0, none⟩ 1 1 (cM ⟨k, -1, b0, vote, a0⟩) rfl rfl (news_cM R1.out) (cM_one _) (by decide) (by have := lst.2.2.2.1; have := DB.out; unfold maxLen; omega) (by have := lst.2.2.2.1; have := DB.out; omega) (Nat.le_trans HBz.out BV.out.size) _ rfl ?_
    intro ga ca v3 own3 gr3 at3 lt3
    obtain ⟨PU, kg, z0, z1⟩ := ZB.out.push (by omega) (by omega) HSO.out HSN.out HSC.out HMOK.out BV.out own3 gr3 at3
    have s3 := s1.keep kg (fun p hp => by rw [← HSO.out]; exact ZB.out.src_not (by omega) (by omega) (HLO.out p hp))
    have PU := Lib.hid PU
    clear own3 gr3 at3 lt3 kg lst y1
    refine hK.out _ _ s3 (fun _ => ?_)
    clear hK K
    try simp only [Act.put, List.getElem_toArray, List.getElem_cons_succ, List.getElem_cons_zero, List.setIfInBounds_toArray, List.set_cons_zero, List.set_cons_succ, Nat.zero_add, List.nil_append]
    refine wpAnyH_take (i := 19) (v := .pointer (some ⟨xb, 8, none⟩)) rfl (by kernel_rfl) (by kernel_rfl) (by kernel_rfl) (fun _ _ _ h => h) (Or.inl ⟨by rfl, fun w' hw' => by go_simp⟩) s3 ?_
    try simp only [Act.put, List.getElem_toArray, List.getElem_cons_succ, List.getElem_cons_zero, List.setIfInBounds_toArray, List.set_cons_zero, List.set_cons_succ, Nat.zero_add, List.nil_append]
    refine wpAnyH_ready (rs := [20]) (by kernel_rfl) (by simp) ?_
    refine AllReadyH.cons rfl (fun K hK => ?_) AllReadyH.nil
    rw [if_pos (by rfl)]
    go_simp
    have s4 := s3.set ⟨xb, 8, none⟩ (.slice (some ⟨ga, 0, none⟩) (sn + 1) ca) (by intro p hp; simp only [List.mem_cons, List.not_mem_nil, or_false] at hp; rcases hp with rfl | rfl <;> (intro e; simp only [Addr.mk.injEq] at e; first | exact HBN.out e.1 | exact absurd e.2.1 (by decide)))
    refine hK.out _ _ s4 (fun _ => ?_)
    clear hK K
    try simp only [Act.put, List.getElem_toArray, List.getElem_cons_succ, List.getElem_cons_zero, List.setIfInBounds_toArray, List.set_cons_zero, List.set_cons_succ, Nat.zero_add, List.nil_append]
    refine wpAnyH_done (by kernel_rfl) ?_ _
    replace PU := PU.out
    simp only [Nat.reduceAdd] at PU
    have PU := Lib.hid PU
    clear s0 s1 s3 s4 z0 z1
    generalize v3.setCell ⟨xb, 8, none⟩ (.slice (some ⟨ga, 0, none⟩) (sn + 1) ca) = w9 at *
    go_wp2_with fail
    go_end0
    obtain ⟨tg', H', g1, g2⟩ := PU.out
    have hB : B ≤ W.heap.size := by have := H0.out.base; have := H0.out.lt; omega
    exact ⟨rfl, tg', H', _, (g1.up (by omega)).upc (by omega), inv_vote hin hvd ⟨k, -1, b0, vote, a0⟩ rfl rfl, ((Trn.below BB.out hB).trans g2).start, rfl, by show x.rd ≤ x.rd + 1; omega, hna⟩
  · skip
    go_simp
    refine (CN.out wd).mono ?_
    rintro e wq ⟨rfl, rfl⟩
    refine hK.out _ _ s0 (fun _ => ?_)
    clear hK K
    try simp only [Act.put, List.getElem_toArray, List.getElem_cons_succ, List.getElem_cons_zero, List.setIfInBounds_toArray, List.set_cons_zero, List.set_cons_succ, Nat.zero_add, List.nil_append]
    refine wpAnyH_take (i := 14) (v := .agg #[.int .i64 (k : Int), .int .i64 (-1), .int .u32 0, .int .u8 0, .string vote, .bool false, .int .u32 0, .int .u8 0, .string ⟨#[]⟩]) rfl (by kernel_rfl) (by kernel_rfl) (by kernel_rfl) (fun _ _ _ h => h) (Or.inl ⟨by rfl, fun w' hw' => by go_simp⟩) s0 ?_
    try simp only [Act.put, List.getElem_toArray, List.getElem_cons_succ, List.getElem_cons_zero, List.setIfInBounds_toArray, List.set_cons_zero, List.set_cons_succ, Nat.zero_add, List.nil_append]
    refine wpAnyH_ready (rs := [5, 15]) (by kernel_rfl) (by simp) ?_
    refine AllReadyH.cons rfl (fun K hK => ?_) (AllReadyH.cons rfl (fun K hK => ?_) AllReadyH.nil)
    · skip
      rw [if_pos (by rfl)]
      go_simp
      refine hK.out _ _ s0 (fun _ => ?_)
      clear hK K
      try simp only [Act.put, List.getElem_toArray, List.getElem_cons_succ, List.getElem_cons_zero, List.setIfInBounds_toArray, List.set_cons_zero, List.set_cons_succ, Nat.zero_add, List.nil_append]
      refine wpAnyH_ready (rs := [15]) (by kernel_rfl) (by simp) ?_
      refine AllReadyH.cons rfl (fun K hK => ?_) AllReadyH.nil
      rw [if_pos (by rfl)]
      go_simp
      have b1 : Below wd.heap.size wd (wd.alloc (.cells #[.int .i64 (k : Int), .int .i64 (-1), .int .u32 0, .int .u8 0, .string vote, .bool false, .int .u32 0, .int .u8 0, .string ⟨#[]⟩] 105)) := below_alloc (Below.refl _ _) _
      have r1 := heap_alloc_new wd (.cells #[.int .i64 (k : Int), .int .i64 (-1), .int .u32 0, .int .u8 0, .string vote, .bool false, .int .u32 0, .int .u8 0, .string ⟨#[]⟩] 105)
      have y1 := (b1.cell (p := ⟨xb, 8, none⟩) HXL.out).trans y0
      have s1 := s0.below b1
      generalize wd.alloc (.cells #[.int .i64 (k : Int), .int .i64 (-1), .int .u32 0, .int .u8 0, .string vote, .bool false, .int .u32 0, .int .u8 0, .string ⟨#[]⟩] 105) = v1 at *
      obtain ⟨nb, hnb⟩ : ∃ q, q = wd.heap.size := ⟨_, rfl⟩
      rw [← hnb] at r1 ⊢
      have BV := Lib.hid (BD.out.trans (b1.mono BD.out.size))
      have R1 := Lib.hid r1
      clear b1 r1 hnb
      refine hK.out _ _ s1 (fun _ => ?_)
      clear hK K
      try simp only [Act.put, List.getElem_toArray, List.getElem_cons_succ, List.getElem_cons_zero, List.setIfInBounds_toArray, List.set_cons_zero, List.set_cons_succ, Nat.zero_add, List.nil_append]
      refine wpAnyH_ready (rs := [16]) (by kernel_rfl) (by simp) ?_
      refine AllReadyH.cons rfl (fun K hK => ?_) AllReadyH.nil
      rw [if_pos (by rfl)]
      have lst := (ZB.out.below BV.out).list (by omega) (by omega) HSO.out HSN.out HSC.out
      refine wp_append_lies _ (.tmp 121) (.tmp 131) 63 rfl B 105 i0 _ 9 72 Try.underlying63 HI.out HZ0.out HZ1.out HZ2.out rfl (by decide) (.slice so sn sc) sn (fl cM ((x).ms 3)) rfl lst.1 ⟨nb, 0, none⟩ 1 1 (cM ⟨k, -1, b0, vote, a0⟩) rfl rfl (news_cM R1.out) (cM_one _) (by decide) (by have := lst.2.2.2.1; have := DB.out; unfold maxLen; omega) (by have := lst.2.2.2.1; have := DB.out; omega) (Nat.le_trans HBz.out BV.out.size) _ rfl ?_
      intro ga ca v3 own3 gr3 at3 lt3
      obtain ⟨PU, kg, z0, z1⟩ := ZB.out.push (by omega) (by omega) HSO.out HSN.out HSC.out HMOK.out BV.out own3 gr3 at3
      have s3 := s1.keep kg (fun p hp => by rw [← HSO.out]; exact ZB.out.src_not (by omega) (by omega) (HLO.out p hp))
      have PU := Lib.hid PU
      clear own3 gr3 at3 lt3 kg lst y1
      refine hK.out _ _ s3 (fun _ => ?_)
      clear hK K
      try simp only [Act.put, List.getElem_toArray, List.getElem_cons_succ, List.getElem_cons_zero, List.setIfInBounds_toArray, List.set_cons_zero, List.set_cons_succ, Nat.zero_add, List.nil_append]
      refine wpAnyH_take (i := 19) (v := .pointer (some ⟨xb, 8, none⟩)) rfl (by kernel_rfl) (by kernel_rfl) (by kernel_rfl) (fun _ _ _ h => h) (Or.inl ⟨by rfl, fun w' hw' => by go_simp⟩) s3 ?_
      try simp only [Act.put, List.getElem_toArray, List.getElem_cons_succ, List.getElem_cons_zero, List.setIfInBounds_toArray, List.set_cons_zero, List.set_cons_succ, Nat.zero_add, List.nil_append]
      refine wpAnyH_ready (rs := [20]) (by kernel_rfl) (by simp) ?_
      refine AllReadyH.cons rfl (fun K hK => ?_) AllReadyH.nil
      rw [if_pos (by rfl)]
      go_simp
      have s4 := s3.set ⟨xb, 8, none⟩ (.slice (some ⟨ga, 0, none⟩) (sn + 1) ca) (by intro p hp; simp only [List.mem_cons, List.not_mem_nil, or_false] at hp; rcases hp with rfl | rfl <;> (intro e; simp only [Addr.mk.injEq] at e; first | exact HBN.out e.1 | exact absurd e.2.1 (by decide)))
      refine hK.out _ _ s4 (fun _ => ?_)
      clear hK K
      try simp only [Act.put, List.getElem_toArray, List.getElem_cons_succ, List.getElem_cons_zero, List.setIfInBounds_toArray, List.set_cons_zero, List.set_cons_succ, Nat.zero_add, List.nil_append]
      refine wpAnyH_done (by kernel_rfl) ?_ _
      replace PU := PU.out
      simp only [Nat.reduceAdd] at PU
      have PU := Lib.hid PU
      clear s0 s1 s3 s4 z0 z1
      generalize v3.setCell ⟨xb, 8, none⟩ (.slice (some ⟨ga, 0, none⟩) (sn + 1) ca) = w9 at *
      go_wp2_with fail
      go_end0
      obtain ⟨tg', H', g1, g2⟩ := PU.out
      have hB : B ≤ W.heap.size := by have := H0.out.base; have := H0.out.lt; omega
      exact ⟨rfl, tg', H', _, (g1.up (by omega)).upc (by omega), inv_vote hin hvd ⟨k, -1, b0, vote, a0⟩ rfl rfl, ((Trn.below BB.out hB).trans g2).start, rfl, by show x.rd ≤ x.rd + 1; omega, hna⟩
    · skip
      rw [if_pos (by rfl)]
      go_simp
      have b1 : Below wd.heap.size wd (wd.alloc (.cells #[.int .i64 (k : Int), .int .i64 (-1), .int .u32 0, .int .u8 0, .string vote, .bool false, .int .u32 0, .int .u8 0, .string ⟨#[]⟩] 105)) := below_alloc (Below.refl _ _) _
      have r1 := heap_alloc_new wd (.cells #[.int .i64 (k : Int), .int .i64 (-1), .int .u32 0, .int .u8 0, .string vote, .bool false, .int .u32 0, .int .u8 0, .string ⟨#[]⟩] 105)
      have y1 := (b1.cell (p := ⟨xb, 8, none⟩) HXL.out).trans y0
      have s1 := s0.below b1
      generalize wd.alloc (.cells #[.int .i64 (k : Int), .int .i64 (-1), .int .u32 0, .int .u8 0, .string vote, .bool false, .int .u32 0, .int .u8 0, .string ⟨#[]⟩] 105) = v1 at *
      obtain ⟨nb, hnb⟩ : ∃ q, q = wd.heap.size := ⟨_, rfl⟩
      rw [← hnb] at r1 ⊢
      have BV := Lib.hid (BD.out.trans (b1.mono BD.out.size))
      have R1 := Lib.hid r1
      clear b1 r1 hnb
      refine hK.out _ _ s1 (fun _ => ?_)
      clear hK K
      try simp only [Act.put, List.getElem_toArray, List.getElem_cons_succ, List.getElem_cons_zero, List.setIfInBounds_toArray, List.set_cons_zero, List.set_cons_succ, Nat.zero_add, List.nil_append]
      refine wpAnyH_ready (rs := [5]) (by kernel_rfl) (by simp) ?_
      refine AllReadyH.cons rfl (fun K hK => ?_) AllReadyH.nil
      rw [if_pos (by rfl)]
      go_simp
      refine hK.out _ _ s1 (fun _ => ?_)
      clear hK K
      try simp only [Act.put, List.getElem_toArray, List.getElem_cons_succ, List.getElem_cons_zero, List.setIfInBounds_toArray, List.set_cons_zero, List.set_cons_succ, Nat.zero_add, List.nil_append]
      refine wpAnyH_ready (rs := [16]) (by kernel_rfl) (by simp) ?_
      refine AllReadyH.cons rfl (fun K hK => ?_) AllReadyH.nil
      rw [if_pos (by rfl)]
      have lst := (ZB.out.below BV.out).list (by omega) (by omega) HSO.out HSN.out HSC.out
      refine wp_append_lies _ (.tmp 121) (.tmp 131) 63 rfl B 105 i0 _ 9 72 Try.underlying63 HI.out HZ0.out HZ1.out HZ2.out rfl (by decide) (.slice so sn sc) sn (fl cM ((x).ms 3)) rfl lst.1 ⟨nb, 0, none⟩ 1 1 (cM ⟨k, -1, b0, vote, a0⟩) rfl rfl (news_cM R1.out) (cM_one _) (by decide) (by have := lst.2.2.2.1; have := DB.out; unfold maxLen; omega) (by have := lst.2.2.2.1; have := DB.out; omega) (Nat.le_trans HBz.out BV.out.size) _ rfl ?_
      intro ga ca v3 own3 gr3 at3 lt3
      obtain ⟨PU, kg, z0, z1⟩ := ZB.out.push (by omega) (by omega) HSO.out HSN.out HSC.out HMOK.out BV.out own3 gr3 at3
      have s3 := s1.keep kg (fun p hp => by rw [← HSO.out]; exact ZB.out.src_not (by omega) (by omega) (HLO.out p hp))
      have PU := Lib.hid PU
      clear own3 gr3 at3 lt3 kg lst y1
      refine hK.out _ _ s3 (fun _ => ?_)
      clear hK K
      try simp only [Act.put, List.getElem_toArray, List.getElem_cons_succ, List.getElem_cons_zero, List.setIfInBounds_toArray, List.set_cons_zero, List.set_cons_succ, Nat.zero_add, List.nil_append]
      refine wpAnyH_take (i := 19) (v := .pointer (some ⟨xb, 8, none⟩)) rfl (by kernel_rfl) (by kernel_rfl) (by kernel_rfl) (fun _ _ _ h => h) (Or.inl ⟨by rfl, fun w' hw' => by go_simp⟩) s3 ?_
      try simp only [Act.put, List.getElem_toArray, List.getElem_cons_succ, List.getElem_cons_zero, List.setIfInBounds_toArray, List.set_cons_zero, List.set_cons_succ, Nat.zero_add, List.nil_append]
      refine wpAnyH_ready (rs := [20]) (by kernel_rfl) (by simp) ?_
      refine AllReadyH.cons rfl (fun K hK => ?_) AllReadyH.nil
      rw [if_pos (by rfl)]
      go_simp
      have s4 := s3.set ⟨xb, 8, none⟩ (.slice (some ⟨ga, 0, none⟩) (sn + 1) ca) (by intro p hp; simp only [List.mem_cons, List.not_mem_nil, or_false] at hp; rcases hp with rfl | rfl <;> (intro e; simp only [Addr.mk.injEq] at e; first | exact HBN.out e.1 | exact absurd e.2.1 (by decide)))
      refine hK.out _ _ s4 (fun _ => ?_)
      clear hK K
      try simp only [Act.put, List.getElem_toArray, List.getElem_cons_succ, List.getElem_cons_zero, List.setIfInBounds_toArray, List.set_cons_zero, List.set_cons_succ, Nat.zero_add, List.nil_append]
      refine wpAnyH_done (by kernel_rfl) ?_ _
      replace PU := PU.out
      simp only [Nat.reduceAdd] at PU
      have PU := Lib.hid PU
      clear s0 s1 s3 s4 z0 z1
      generalize v3.setCell ⟨xb, 8, none⟩ (.slice (some ⟨ga, 0, none⟩) (sn + 1) ca) = w9 at *
      go_wp2_with fail
      go_end0
      obtain ⟨tg', H', g1, g2⟩ := PU.out
      have hB : B ≤ W.heap.size := by have := H0.out.base; have := H0.out.lt; omega
      exact ⟨rfl, tg', H', _, (g1.up (by omega)).upc (by omega), inv_vote hin hvd ⟨k, -1, b0, vote, a0⟩ rfl rfl, ((Trn.below BB.out hB).trans g2).start, rfl, by show x.rd ≤ x.rd + 1; omega, hna⟩
end
end Go.Proofs.Ytgfalpiifgoonaa
