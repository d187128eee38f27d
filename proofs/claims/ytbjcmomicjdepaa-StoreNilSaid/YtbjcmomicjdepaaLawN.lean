/- StoreNil. -/
import Derived.Test.YtbjcmomicjdepaaNl
namespace Go.Proofs.Ytbjcmomicjdepaa
open Go.RowKit Go.Sort
set_option linter.unusedVariables false
set_option linter.unusedSimpArgs false
set_option maxRecDepth 100000
set_option maxHeartbeats 16000000 in
theorem storeNil_law (l : Lk) (t : Sd) (x0 x1 x2 x3 x4 x5 x6 x7 x8 x9 : Value) (W0 : World) (hr : EsR W0 t l.it.es) : Calls Try.prog 8 #[l.ag t, .agg #[x0, x1, x2, x3, x4, x5, x6, x7, x8, x9]] W0 (LawOk W0) := by
  clear hr
  have AL := Lib.hid alive_any
  have VN := Lib.hid (vote_nil l t)
  have DN := Lib.hid (decide_nil l t)
  have RN := Lib.hid (recover_nil x0 x1 x2 x3 x4 x5 x6 x7 x8 x9 x0 x1 x2 x3 x4 x5 x6 x7 x8 x9 x0 x1 x2 x3 x4 x5 x6 x7 x8 x9 x0 x1 x2 x3 x4 x5 x6 x7 x8 x9)
  have IN := Lib.hid (install_nil x0 x1 x2 x3 x4 x5 x6 x7 x8 x9)
  have ON := Lib.hid open_nil; have DR := Lib.hid drop_nil; have SN := Lib.hid state_nil
  obtain ⟨tx, m0, m1, m2, ⟨bk, ver, wt, es, i0, i1, i2, i3⟩⟩ := l
  simp only [Lk.ag] at VN DN ⊢
  obtain ⟨w1, hw1⟩ : ∃ w1, w1 = (W0.alloc (.cells #[.int .u64 tx, .int .i64 m0, .int .i64 m1, .int .i64 m2, .int .i64 bk, .int .u32 ver, .bool wt, .slice t.ao es.length t.cap, .int .u32 i0, .int .u32 i1, .int .u32 i2, .int .u32 i3] 38)).alloc (.cells #[x0, x1, x2, x3, x4, x5, x6, x7, x8, x9] 42) := ⟨_, rfl⟩
  have B1 := Lib.hid (show Below W0.heap.size W0 w1 from by rw [hw1]; exact below_alloc (below_alloc (Below.refl _ _) _) _)
  have K1 := Lib.hid (show LkB w1 W0.heap.size ⟨tx, m0, m1, m2, ⟨bk, ver, wt, es, i0, i1, i2, i3⟩⟩ t from by rw [hw1]; exact (LkB.new W0 ⟨tx, m0, m1, m2, ⟨bk, ver, wt, es, i0, i1, i2, i3⟩⟩ t).below (below_alloc (Below.refl _ _) _))
  have Q1 := Lib.hid (show w1.heap[W0.heap.size + 1]? = some (.cells #[x0, x1, x2, x3, x4, x5, x6, x7, x8, x9] 42 (0, 0)) from by
    have := heap_alloc_new (W0.alloc (.cells #[.int .u64 tx, .int .i64 m0, .int .i64 m1, .int .i64 m2, .int .i64 bk, .int .u32 ver, .bool wt, .slice t.ao es.length t.cap, .int .u32 i0, .int .u32 i1, .int .u32 i2, .int .u32 i3] 38)) (.cells #[x0, x1, x2, x3, x4, x5, x6, x7, x8, x9] 42)
    rw [show (W0.alloc (.cells #[.int .u64 tx, .int .i64 m0, .int .i64 m1, .int .i64 m2, .int .i64 bk, .int .u32 ver, .bool wt, .slice t.ao es.length t.cap, .int .u32 i0, .int .u32 i1, .int .u32 i2, .int .u32 i3] 38)).heap.size = W0.heap.size + 1 by simp, ← hw1] at this
    exact this)
  go_enter Try.func8, Try.ntmps8
  go_upto_region 2 with (fail)
  rw [← hw1]
  clear hw1
  generalize hbi : W0.heap.size = bi at K1 Q1 ⊢
  go_wp2_with fail
  refine (read_nil w1).mono ?_; rintro e w2 ⟨rfl, b2⟩
  have K2 := Lib.hid (K1.out.below b2)
  have Q2 := Lib.hid (row_keep Q1.out (Keep.of_below b2 []) (by simp))
  have B2 := Lib.hid (below_next B1.out b2)
  clear b2 K1 Q1 B1

  have b3 := below_alloc (Below.refl w2.heap.size w2) (.cells ⟨anL 0 0 0 ⟨none, 0⟩⟩ 64)
  have K3 := Lib.hid (K2.out.below b3)
  have Q3 := Lib.hid (row_keep Q2.out (Keep.of_below b3 []) (by simp))
  have B3 := Lib.hid (below_next B2.out b3)
  clear b3 K2 Q2 B2

  go_upto_region 3 with (fail)
  simp only [anL, List.length_nil] at K3 Q3 B3
  generalize w2.alloc (.cells ⟨[.int .u32 0, .int .u32 0, .int .u32 0, .slice none 0 0]⟩ 64) = w3 at *
  have RG := Lib.hid K3.out.range
  go_wp2_with (refine wpList_load_mid rfl 38 (.tmp 2) rfl bi 0 rfl (Lk.list ⟨tx, m0, m1, m2, ⟨bk, ver, wt, es, i0, i1, i2, i3⟩⟩ t) _ RG.out Try.underlying38 rfl (lk_size _ _) ?_)
  clear RG
  refine (VN.out w3).mono ?_; rintro e w4 ⟨rfl, b4⟩
  have K4 := Lib.hid (K3.out.below b4)
  have Q4 := Lib.hid (row_keep Q3.out (Keep.of_below b4 []) (by simp))
  have B4 := Lib.hid (below_next B3.out b4)
  clear b4 K3 Q3 B3

  go_wp2_with fail
  refine (fence_nil w4).mono ?_; rintro e w5 ⟨s5, rfl, _, b5⟩
  have K5 := Lib.hid (K4.out.below b5)
  have Q5 := Lib.hid (row_keep Q4.out (Keep.of_below b5 []) (by simp))
  have B5 := Lib.hid (below_next B4.out b5)
  clear b5 K4 Q4 B4
  have b6 := below_alloc (Below.refl w5.heap.size w5) (.cells ⟨(newC 0 0).list s5⟩ 42)
  have K6 := Lib.hid (K5.out.below b6)
  have Q6 := Lib.hid (row_keep Q5.out (Keep.of_below b6 []) (by simp))
  have B6 := Lib.hid (below_next B5.out b6)
  clear b6 K5 Q5 B5

  go_upto_region 5 with (fail)
  simp only [Cp.list, newC, List.length_nil] at K6 Q6 B6
  generalize w5.alloc (.cells ⟨[.int .i64 0, .int .u32 0, .int .u32 0, .slice s5.d.ao 0 s5.d.cap, .slice s5.l.ao 0 s5.l.cap, .int .u32 0, .int .u32 0, .int .u32 0, .int .u32 0, .slice s5.v.ao 0 s5.v.cap]⟩ 42) = w6 at *
  go_wp2_with fail
  refine (extract_nil 0 0 w6).mono ?_; rintro e w7 ⟨s7, rfl, _, b7⟩
  have K7 := Lib.hid (K6.out.below b7)
  have Q7 := Lib.hid (row_keep Q6.out (Keep.of_below b7 []) (by simp))
  have B7 := Lib.hid (below_next B6.out b7)
  clear b7 K6 Q6 B6
  have b8 := below_alloc (Below.refl w7.heap.size w7) (.cells ⟨(newC 0 0).list s7⟩ 42)
  have K8 := Lib.hid (K7.out.below b8)
  have Q8 := Lib.hid (row_keep Q7.out (Keep.of_below b8 []) (by simp))
  have B8 := Lib.hid (below_next B7.out b8)
  clear b8 K7 Q7 B7

  go_upto_region 6 with (fail)
  simp only [Cp.list, newC, List.length_nil] at K8 Q8 B8
  generalize w7.alloc (.cells ⟨[.int .i64 0, .int .u32 0, .int .u32 0, .slice s7.d.ao 0 s7.d.cap, .slice s7.l.ao 0 s7.l.cap, .int .u32 0, .int .u32 0, .int .u32 0, .int .u32 0, .slice s7.v.ao 0 s7.v.cap]⟩ 42) = w8 at *
  go_wp2_with fail
  refine (AL.out w8).mono ?_; rintro e w9 ⟨rfl, b9⟩
  have K9 := Lib.hid (K8.out.below b9)
  have Q9 := Lib.hid (row_keep Q8.out (Keep.of_below b9 []) (by simp))
  have B9 := Lib.hid (below_next B8.out b9)
  clear b9 K8 Q8 B8

  go_wp2_with fail
  refine (ON.out w9).mono ?_; rintro e w10 ⟨rfl, b10⟩
  have K10 := Lib.hid (K9.out.below b10)
  have Q10 := Lib.hid (row_keep Q9.out (Keep.of_below b10 []) (by simp))
  have B10 := Lib.hid (below_next B9.out b10)
  clear b10 K9 Q9 B9

  go_wp2_with fail
  refine (DR.out w10).mono ?_; rintro e w11 ⟨rfl, b11⟩
  have K11 := Lib.hid (K10.out.below b11)
  have Q11 := Lib.hid (row_keep Q10.out (Keep.of_below b11 []) (by simp))
  have B11 := Lib.hid (below_next B10.out b11)
  clear b11 K10 Q10 B10

  go_wp2_with fail
  refine (SN.out w11).mono ?_; rintro e w12 ⟨rfl, b12⟩
  have K12 := Lib.hid (K11.out.below b12)
  have Q12 := Lib.hid (row_keep Q11.out (Keep.of_below b12 []) (by simp))
  have B12 := Lib.hid (below_next B11.out b12)
  clear b12 K11 Q11 B11

  have z0 := K12.out.c 0 _ rfl; have z1 := K12.out.c 1 _ rfl; have z2 := K12.out.c 2 _ rfl; have z3 := K12.out.c 3 _ rfl; have z4 := K12.out.c 4 _ rfl; have z5 := K12.out.c 5 _ rfl; have z6 := K12.out.c 6 _ rfl; have z7 := K12.out.c 7 _ rfl; have z8 := K12.out.c 8 _ rfl; have z9 := K12.out.c 9 _ rfl; have z10 := K12.out.c 10 _ rfl; have z11 := K12.out.c 11 _ rfl
  simp only at z0 z1 z2 z3 z4 z5 z6 z7 z8 z9 z10 z11
  go_wp2_with fail
  clear z0 z1 z2 z3 z4 z5 z6 z7 z8 z9 z10 z11
  refine (DN.out w12).mono ?_; rintro e w13 ⟨rfl, b13⟩
  have K13 := Lib.hid (K12.out.below b13)
  have Q13 := Lib.hid (row_keep Q12.out (Keep.of_below b13 []) (by simp))
  have B13 := Lib.hid (below_next B12.out b13)
  clear b13 K12 Q12 B12

  have z0 := cell_of_row w13 (bi + 1) 0 _ _ (0, 0) Q13.out; have z1 := cell_of_row w13 (bi + 1) 1 _ _ (0, 0) Q13.out; have z2 := cell_of_row w13 (bi + 1) 2 _ _ (0, 0) Q13.out; have z3 := cell_of_row w13 (bi + 1) 3 _ _ (0, 0) Q13.out; have z4 := cell_of_row w13 (bi + 1) 4 _ _ (0, 0) Q13.out; have z5 := cell_of_row w13 (bi + 1) 5 _ _ (0, 0) Q13.out; have z6 := cell_of_row w13 (bi + 1) 6 _ _ (0, 0) Q13.out; have z7 := cell_of_row w13 (bi + 1) 7 _ _ (0, 0) Q13.out; have z8 := cell_of_row w13 (bi + 1) 8 _ _ (0, 0) Q13.out; have z9 := cell_of_row w13 (bi + 1) 9 _ _ (0, 0) Q13.out
  simp only [List.getElem?_toArray, List.getElem?_cons_zero, List.getElem?_cons_succ] at z0 z1 z2 z3 z4 z5 z6 z7 z8 z9
  go_wp2_with fail
  clear z0 z1 z2 z3 z4 z5 z6 z7 z8 z9
  refine (RN.out w13).mono ?_; rintro e w14 ⟨rfl, b14⟩
  have K14 := Lib.hid (K13.out.below b14)
  have Q14 := Lib.hid (row_keep Q13.out (Keep.of_below b14 []) (by simp))
  have B14 := Lib.hid (below_next B13.out b14)
  clear b14 K13 Q13 B13

  have z0 := cell_of_row w14 (bi + 1) 0 _ _ (0, 0) Q14.out; have z1 := cell_of_row w14 (bi + 1) 1 _ _ (0, 0) Q14.out; have z2 := cell_of_row w14 (bi + 1) 2 _ _ (0, 0) Q14.out; have z3 := cell_of_row w14 (bi + 1) 3 _ _ (0, 0) Q14.out; have z4 := cell_of_row w14 (bi + 1) 4 _ _ (0, 0) Q14.out; have z5 := cell_of_row w14 (bi + 1) 5 _ _ (0, 0) Q14.out; have z6 := cell_of_row w14 (bi + 1) 6 _ _ (0, 0) Q14.out; have z7 := cell_of_row w14 (bi + 1) 7 _ _ (0, 0) Q14.out; have z8 := cell_of_row w14 (bi + 1) 8 _ _ (0, 0) Q14.out; have z9 := cell_of_row w14 (bi + 1) 9 _ _ (0, 0) Q14.out
  simp only [List.getElem?_toArray, List.getElem?_cons_zero, List.getElem?_cons_succ] at z0 z1 z2 z3 z4 z5 z6 z7 z8 z9
  go_wp2_with fail
  clear z0 z1 z2 z3 z4 z5 z6 z7 z8 z9
  refine (IN.out w14).mono ?_; rintro e w15 ⟨rfl, b15⟩
  have K15 := Lib.hid (K14.out.below b15)
  have Q15 := Lib.hid (row_keep Q14.out (Keep.of_below b15 []) (by simp))
  have B15 := Lib.hid (below_next B14.out b15)
  clear b15 K14 Q14 B14

  go_wp2_with fail
  go_ret
  exact ⟨rfl, by first | exact B15.out | (rw [← hbi]; exact B15.out)⟩
end Go.Proofs.Ytbjcmomicjdepaa
