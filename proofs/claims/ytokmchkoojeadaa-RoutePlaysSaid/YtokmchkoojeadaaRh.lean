/- The document's Handle. -/
import Derived.Test.YtokmchkoojeadaaRs
import Derived.Test.YtokmchkoojeadaaHd
import Derived.StillTailTactics
namespace Go.Proofs.Ytokmchkoojeadaa
open Go.RowKit Go.Sort
set_option linter.unusedVariables false
set_option linter.unusedSimpArgs false
set_option maxRecDepth 100000
section
variable {B b cap : Nat} {ao : Option Addr} {s p c : Pe} {F : List Pe} {cs : Array Value} {k f t id ph pl hops : Int}
set_option maxHeartbeats 16000000 in
theorem dhandle_f (w : World) (h : DbW w B b ao cap s p c F) (hm : MsgIs cs k f t id ph pl hops) (hbad : ((k != 21) || (t != s.n) || !isN f || !isN hops) = true) : Calls Try.prog 27 #[.pointer (some ⟨b, 0, none⟩), .agg cs] w fun e w' => e = .returned (.tuple #[.agg (msgC 0 0 0 (.slice none 0 0)), .int .i64 133]) ∧ Below w.heap.size w w' := by
  have B0 := below_alloc (Below.refl w.heap.size w) (.cells cs 66)
  have R0 := heap_alloc_new w (.cells cs 66)
  have B1 := below_alloc (Below.refl _ (w.alloc (.cells cs 66))) (.cells (msgC 0 0 0 (.slice none 0 0)) 66)
  have R1 := heap_alloc_new (w.alloc (.cells cs 66)) (.cells (msgC 0 0 0 (.slice none 0 0)) 66)
  rw [World.size_alloc] at R1
  have RM := Lib.hid (row_keep R0 (Keep.of_below B1 []) (by simp))
  have RZ := Lib.hid R1
  have BB := Lib.hid (below_next B0 B1)
  have H1 := Lib.hid (h.below BB.out)
  have HM := Lib.hid hm
  have IN := rnode_any f
  have IH := rnode_any hops
  obtain ⟨b0, g0⟩ : ∃ q, (k != 21) = q := ⟨_, rfl⟩
  obtain ⟨b1, g1⟩ : ∃ q, (t != s.n) = q := ⟨_, rfl⟩
  obtain ⟨b2, g2⟩ : ∃ q, isN f = q := ⟨_, rfl⟩
  obtain ⟨b3, g3⟩ : ∃ q, isN hops = q := ⟨_, rfl⟩
  rw [g0, g1, g2, g3] at hbad
  rw [g2] at IN
  rw [g3] at IH
  clear g2 g3
  replace IN := Lib.hid IN; replace IH := Lib.hid IH
  have HBASE := Lib.hid h.base
  have HBLT := Lib.hid h.row.lt
  clear B0 R0 B1 R1 h hm
  cases b0 <;> cases b1 <;> cases b2 <;> cases b3 <;> first | (cases hbad; done) | skip
  all_goals
    go_enter Try.func27, Try.ntmps27
    go_upto_region 1 with (refine wpList_alloc_msg rfl rfl (fun w1 hw1 => ?_))
    subst hw1
    generalize (w.alloc (.cells cs 66)).alloc (.cells (msgC 0 0 0 (.slice none 0 0)) 66) = w2 at *
    obtain ⟨x, hx⟩ : ∃ x, x = w.heap.size + 1 := ⟨_, rfl⟩
    rw [← hx] at RZ ⊢
    obtain ⟨y, hy⟩ : ∃ y, y = w.heap.size := ⟨_, rfl⟩
    rw [← hy] at RM ⊢
    have XX := Lib.hid (show w.heap.size ≤ x ∧ y < x from by omega)
    clear hx hy
    have m1 := (cell_of_row w2 y 1 _ _ (0, 0) RM.out).trans HM.out.f; have m47 := (cell_of_row w2 y 47 _ _ (0, 0) RM.out).trans HM.out.hops
    go_wp2_with fail
    refine (IN.out _).mono ?_; rintro e w3 ⟨rfl, rfl⟩
    go_wp2_with fail
    refine (IH.out _).mono ?_; rintro e w3 ⟨rfl, rfl⟩
    clear m1 m47
    rename World => w2
    have m0 := cell_regrown ((cell_of_row w2 y 0 _ _ (0, 0) RM.out).trans HM.out.k); have m2 := cell_regrown ((cell_of_row w2 y 2 _ _ (0, 0) RM.out).trans HM.out.t)
    have t0 := H1.out.row.at_ 0
    simp only [rowT, List.getElem?_toArray, List.getElem?_cons_zero] at t0
    replace t0 := cell_regrown t0
    go_upto_region 3 with (fail)
    refine wp_region_quiet_below (by kernel_rfl) (by kernel_rfl) ?_
    repeat (go_big_quiet_step (fail))
    refine wpQuiet_nil ?_
    intro _ hw'
    obtain ⟨⟨dq, osq⟩, hw''⟩ := hw'
    subst hw''
    have lk := below_regrown w2 dq osq
    have RM3 := Lib.hid (row_keep RM.out (Keep.of_below lk []) (by simp)); have RZ3 := Lib.hid (row_keep RZ.out (Keep.of_below lk []) (by simp))
    have H3 := Lib.hid (H1.out.below lk); have B3 := Lib.hid (below_next BB.out lk)
    clear lk m0 m2 t0
    generalize grow (redrawn w2 dq) osq = w3 at *
    go_wp2_with (first
      | (refine wpList_build_msg rfl rfl ?_)
      | (refine wpList_store_row rfl 66 (.tmp 4) (.tmp 38) rfl x (msgC 0 0 0 (.slice none 0 0)) rfl rfl 66 (msgC 0 0 0 (.slice none 0 0)) RZ3.out (by rw [msgC_size]; exact msg_size) rfl (msgC_one _ _ _ _ _ _) ?_))
    have r9 : (w3.setRow x (msgC 0 0 0 (.slice none 0 0))).heap[x]? = some (.cells (msgC 0 0 0 (.slice none 0 0)) 66 (0, 0)) := setRow_heap _ _ _ _ _ _ RZ3.out
    have k9 := Keep.setRow w3 x (msgC 0 0 0 (.slice none 0 0))
    have B9 := Lib.hid (B3.out.trans (k9.below B3.out.size (by have := XX.out.1; simpa using this)))
    generalize w3.setRow x (msgC 0 0 0 (.slice none 0 0)) = w9 at *
    refine bodyPost_ret (v := .tuple #[.agg (msgC 0 0 0 (.slice none 0 0)), .int .i64 133]) (results_cell_tmp Try.results27 rfl ?_ rfl) rfl ⟨rfl, B9.out⟩
    exact run_loadVar_row w9 x 66 66 _ (0, 0) _ r9 Try.underlying66 rfl (by rw [msgC_size]; exact msg_size)
set_option maxHeartbeats 16000000 in
theorem dhandle_n (w : World) (h : DbW w B b ao cap s p c F) (hm : MsgIs cs k f t id ph pl hops) (g0 : (k != 21) = false) (g1 : (t != s.n) = false) (g2 : isN f = true) (g3 : decide (hops < 0) = false) (g4 : decide (255 < hops) = false) (hL : F.length ≤ 1000) {qn qh ql er : Int} (hr : stepR s (nbP s p c) (nbC s c) F ph pl = (⟨qn, qh, ql⟩, false, er)) (he : (er != 0) = true) : Calls Try.prog 27 #[.pointer (some ⟨b, 0, none⟩), .agg cs] w fun e w' => e = .returned (.tuple #[.agg (msgC 0 0 0 (.slice none 0 0)), .int .i64 er]) ∧ Below w.heap.size w w' := by
  have B0 := below_alloc (Below.refl w.heap.size w) (.cells cs 66)
  have R0 := heap_alloc_new w (.cells cs 66)
  have B1 := below_alloc (Below.refl _ (w.alloc (.cells cs 66))) (.cells (msgC 0 0 0 (.slice none 0 0)) 66)
  have R1 := heap_alloc_new (w.alloc (.cells cs 66)) (.cells (msgC 0 0 0 (.slice none 0 0)) 66)
  rw [World.size_alloc] at R1
  have RM := Lib.hid (row_keep R0 (Keep.of_below B1 []) (by simp))
  have RZ := Lib.hid R1
  have BB := Lib.hid (below_next B0 B1)
  have H1 := Lib.hid (h.below BB.out)
  have HM := Lib.hid hm
  have IN := rnode_any f
  have IH := rnode_any hops
  have hnh : isN hops = true := by unfold isN; simp at g3 g4 ⊢; omega
  rw [g2] at IN
  rw [hnh] at IH
  clear hnh
  replace IN := Lib.hid IN; replace IH := Lib.hid IH
  have HBASE := Lib.hid h.base
  have HBLT := Lib.hid h.row.lt
  have HL := Lib.hid hL; have HR := Lib.hid hr
  clear hL hr
  clear B0 R0 B1 R1 h hm
  go_enter Try.func27, Try.ntmps27
  go_upto_region 1 with (refine wpList_alloc_msg rfl rfl (fun w1 hw1 => ?_))
  subst hw1
  generalize (w.alloc (.cells cs 66)).alloc (.cells (msgC 0 0 0 (.slice none 0 0)) 66) = w2 at *
  obtain ⟨x, hx⟩ : ∃ x, x = w.heap.size + 1 := ⟨_, rfl⟩
  rw [← hx] at RZ ⊢
  obtain ⟨y, hy⟩ : ∃ y, y = w.heap.size := ⟨_, rfl⟩
  rw [← hy] at RM ⊢
  have XX := Lib.hid (show w.heap.size ≤ x ∧ y < x from by omega)
  clear hx hy
  have m1 := (cell_of_row w2 y 1 _ _ (0, 0) RM.out).trans HM.out.f; have m47 := (cell_of_row w2 y 47 _ _ (0, 0) RM.out).trans HM.out.hops
  go_wp2_with fail
  refine (IN.out _).mono ?_; rintro e w3 ⟨rfl, rfl⟩
  go_wp2_with fail
  refine (IH.out _).mono ?_; rintro e w3 ⟨rfl, rfl⟩
  clear m1 m47
  rename World => w2
  have m0 := cell_regrown ((cell_of_row w2 y 0 _ _ (0, 0) RM.out).trans HM.out.k); have m2 := cell_regrown ((cell_of_row w2 y 2 _ _ (0, 0) RM.out).trans HM.out.t)
  have t0 := H1.out.row.at_ 0
  simp only [rowT, List.getElem?_toArray, List.getElem?_cons_zero] at t0
  replace t0 := cell_regrown t0
  go_upto_region 3 with (fail)
  refine wp_region_quiet_below (by kernel_rfl) (by kernel_rfl) ?_
  repeat (go_big_quiet_step (fail))
  refine wpQuiet_nil ?_
  intro _ hw'
  obtain ⟨⟨dq, osq⟩, hw''⟩ := hw'
  subst hw''
  have lk := below_regrown w2 dq osq
  have RM3 := Lib.hid (row_keep RM.out (Keep.of_below lk []) (by simp)); have RZ3 := Lib.hid (row_keep RZ.out (Keep.of_below lk []) (by simp))
  have H3 := Lib.hid (H1.out.below lk); have B3 := Lib.hid (below_next BB.out lk)
  clear lk m0 m2 t0
  generalize grow (redrawn w2 dq) osq = w3 at *
  have ST := dstep_any ph pl w3 H3.out HL.out
  rw [HR.out] at ST
  have ST := Lib.hid ST
  have m45 := (cell_of_row w3 y 45 _ _ (0, 0) RM3.out).trans HM.out.ph; have m46 := (cell_of_row w3 y 46 _ _ (0, 0) RM3.out).trans HM.out.pl
  go_wp2_with fail
  refine ST.out.mono ?_; rintro e w4 ⟨rfl, b4⟩
  dsimp only [stepV, Pe.v]
  have B5a := below_alloc (Below.refl w4.heap.size w4) (.cells #[.int .i64 qn, .int .u64 qh, .int .u64 ql] 26)
  have RQ := Lib.hid (heap_alloc_new w4 (.cells #[.int .i64 qn, .int .u64 qh, .int .u64 ql] 26))
  have b5 := below_next b4 B5a
  have RM5 := Lib.hid (row_keep RM3.out (Keep.of_below b5 []) (by simp)); have RZ5 := Lib.hid (row_keep RZ3.out (Keep.of_below b5 []) (by simp))
  have H5 := Lib.hid (H3.out.below b5); have B5 := Lib.hid (below_next B3.out b5)
  have HZX := Lib.hid (show x < w4.heap.size from Nat.lt_of_lt_of_le (Array.getElem?_eq_some_iff.1 RZ3.out).1 b4.size)
  clear m45 m46 b4 b5 B5a ST
  go_upto_region 6 with (fail)
  generalize w4.alloc (.cells #[.int .i64 qn, .int .u64 qh, .int .u64 ql] 26) = w5 at *
  obtain ⟨z, hz⟩ : ∃ z, z = w4.heap.size := ⟨_, rfl⟩
  rw [← hz] at RQ HZX ⊢
  clear hz
  go_wp2_with (first
    | (refine wpList_build_msg rfl rfl ?_)
    | (refine wpList_store_row rfl 66 (.tmp 4) (.tmp 49) rfl x (msgC 0 0 0 (.slice none 0 0)) rfl rfl 66 (msgC 0 0 0 (.slice none 0 0)) RZ5.out (by rw [msgC_size]; exact msg_size) rfl (msgC_one _ _ _ _ _ _) ?_))
  have r9 : (w5.setRow x (msgC 0 0 0 (.slice none 0 0))).heap[x]? = some (.cells (msgC 0 0 0 (.slice none 0 0)) 66 (0, 0)) := setRow_heap _ _ _ _ _ _ RZ5.out
  have k9 := Keep.setRow w5 x (msgC 0 0 0 (.slice none 0 0))
  have B9 := Lib.hid (B5.out.trans (k9.below B5.out.size (by have := XX.out.1; simpa using this)))
  generalize w5.setRow x (msgC 0 0 0 (.slice none 0 0)) = w9 at *
  refine bodyPost_ret (v := .tuple #[.agg (msgC 0 0 0 (.slice none 0 0)), .int .i64 er]) (results_cell_tmp Try.results27 rfl ?_ rfl) rfl ⟨rfl, B9.out⟩
  exact run_loadVar_row w9 x 66 66 _ (0, 0) _ r9 Try.underlying66 rfl (by rw [msgC_size]; exact msg_size)
set_option maxHeartbeats 16000000 in
theorem dhandle_h (w : World) (h : DbW w B b ao cap s p c F) (hm : MsgIs cs k f t id ph pl hops) (g0 : (k != 21) = false) (g1 : (t != s.n) = false) (g2 : isN f = true) (g3 : decide (hops < 0) = false) (g4 : decide (255 < hops) = false) (hL : F.length ≤ 1000) {qn qh ql : Int} (hr : stepR s (nbP s p c) (nbC s c) F ph pl = (⟨qn, qh, ql⟩, false, 0)) (hh : 8 ≤ hops) : Calls Try.prog 27 #[.pointer (some ⟨b, 0, none⟩), .agg cs] w fun e w' => e = .returned (.tuple #[.agg (msgC 0 0 0 (.slice none 0 0)), .int .i64 132]) ∧ Below w.heap.size w w' := by
  have B0 := below_alloc (Below.refl w.heap.size w) (.cells cs 66)
  have R0 := heap_alloc_new w (.cells cs 66)
  have B1 := below_alloc (Below.refl _ (w.alloc (.cells cs 66))) (.cells (msgC 0 0 0 (.slice none 0 0)) 66)
  have R1 := heap_alloc_new (w.alloc (.cells cs 66)) (.cells (msgC 0 0 0 (.slice none 0 0)) 66)
  rw [World.size_alloc] at R1
  have RM := Lib.hid (row_keep R0 (Keep.of_below B1 []) (by simp))
  have RZ := Lib.hid R1
  have BB := Lib.hid (below_next B0 B1)
  have H1 := Lib.hid (h.below BB.out)
  have HM := Lib.hid hm
  have IN := rnode_any f
  have IH := rnode_any hops
  have hnh : isN hops = true := by unfold isN; simp at g3 g4 ⊢; omega
  rw [g2] at IN
  rw [hnh] at IH
  clear hnh
  replace IN := Lib.hid IN; replace IH := Lib.hid IH
  have HBASE := Lib.hid h.base
  have HBLT := Lib.hid h.row.lt
  have HL := Lib.hid hL; have HR := Lib.hid hr
  clear hL hr
  clear B0 R0 B1 R1 h hm
  go_enter Try.func27, Try.ntmps27
  go_upto_region 1 with (refine wpList_alloc_msg rfl rfl (fun w1 hw1 => ?_))
  subst hw1
  generalize (w.alloc (.cells cs 66)).alloc (.cells (msgC 0 0 0 (.slice none 0 0)) 66) = w2 at *
  obtain ⟨x, hx⟩ : ∃ x, x = w.heap.size + 1 := ⟨_, rfl⟩
  rw [← hx] at RZ ⊢
  obtain ⟨y, hy⟩ : ∃ y, y = w.heap.size := ⟨_, rfl⟩
  rw [← hy] at RM ⊢
  have XX := Lib.hid (show w.heap.size ≤ x ∧ y < x from by omega)
  clear hx hy
  have m1 := (cell_of_row w2 y 1 _ _ (0, 0) RM.out).trans HM.out.f; have m47 := (cell_of_row w2 y 47 _ _ (0, 0) RM.out).trans HM.out.hops
  go_wp2_with fail
  refine (IN.out _).mono ?_; rintro e w3 ⟨rfl, rfl⟩
  go_wp2_with fail
  refine (IH.out _).mono ?_; rintro e w3 ⟨rfl, rfl⟩
  clear m1 m47
  rename World => w2
  have m0 := cell_regrown ((cell_of_row w2 y 0 _ _ (0, 0) RM.out).trans HM.out.k); have m2 := cell_regrown ((cell_of_row w2 y 2 _ _ (0, 0) RM.out).trans HM.out.t)
  have t0 := H1.out.row.at_ 0
  simp only [rowT, List.getElem?_toArray, List.getElem?_cons_zero] at t0
  replace t0 := cell_regrown t0
  go_upto_region 3 with (fail)
  refine wp_region_quiet_below (by kernel_rfl) (by kernel_rfl) ?_
  repeat (go_big_quiet_step (fail))
  refine wpQuiet_nil ?_
  intro _ hw'
  obtain ⟨⟨dq, osq⟩, hw''⟩ := hw'
  subst hw''
  have lk := below_regrown w2 dq osq
  have RM3 := Lib.hid (row_keep RM.out (Keep.of_below lk []) (by simp)); have RZ3 := Lib.hid (row_keep RZ.out (Keep.of_below lk []) (by simp))
  have H3 := Lib.hid (H1.out.below lk); have B3 := Lib.hid (below_next BB.out lk)
  clear lk m0 m2 t0
  generalize grow (redrawn w2 dq) osq = w3 at *
  have ST := dstep_any ph pl w3 H3.out HL.out
  rw [HR.out] at ST
  have ST := Lib.hid ST
  have m45 := (cell_of_row w3 y 45 _ _ (0, 0) RM3.out).trans HM.out.ph; have m46 := (cell_of_row w3 y 46 _ _ (0, 0) RM3.out).trans HM.out.pl
  go_wp2_with fail
  refine ST.out.mono ?_; rintro e w4 ⟨rfl, b4⟩
  dsimp only [stepV, Pe.v]
  have B5a := below_alloc (Below.refl w4.heap.size w4) (.cells #[.int .i64 qn, .int .u64 qh, .int .u64 ql] 26)
  have RQ := Lib.hid (heap_alloc_new w4 (.cells #[.int .i64 qn, .int .u64 qh, .int .u64 ql] 26))
  have b5 := below_next b4 B5a
  have RM5 := Lib.hid (row_keep RM3.out (Keep.of_below b5 []) (by simp)); have RZ5 := Lib.hid (row_keep RZ3.out (Keep.of_below b5 []) (by simp))
  have H5 := Lib.hid (H3.out.below b5); have B5 := Lib.hid (below_next B3.out b5)
  have HZX := Lib.hid (show x < w4.heap.size from Nat.lt_of_lt_of_le (Array.getElem?_eq_some_iff.1 RZ3.out).1 b4.size)
  clear m45 m46 b4 b5 B5a ST
  go_upto_region 6 with (fail)
  generalize w4.alloc (.cells #[.int .i64 qn, .int .u64 qh, .int .u64 ql] 26) = w5 at *
  obtain ⟨z, hz⟩ : ∃ z, z = w4.heap.size := ⟨_, rfl⟩
  rw [← hz] at RQ HZX ⊢
  clear hz
  have m47 := (cell_of_row w5 y 47 _ _ (0, 0) RM5.out).trans HM.out.hops
  have h8 : decide (8 ≤ hops) = true := decide_eq_true hh
  go_wp2_with (first
    | (refine wpList_build_msg rfl rfl ?_)
    | (refine wpList_store_row rfl 66 (.tmp 4) (.tmp 73) rfl x (msgC 0 0 0 (.slice none 0 0)) rfl rfl 66 (msgC 0 0 0 (.slice none 0 0)) RZ5.out (by rw [msgC_size]; exact msg_size) rfl (msgC_one _ _ _ _ _ _) ?_))
  have r9 : (w5.setRow x (msgC 0 0 0 (.slice none 0 0))).heap[x]? = some (.cells (msgC 0 0 0 (.slice none 0 0)) 66 (0, 0)) := setRow_heap _ _ _ _ _ _ RZ5.out
  have k9 := Keep.setRow w5 x (msgC 0 0 0 (.slice none 0 0))
  have B9 := Lib.hid (B5.out.trans (k9.below B5.out.size (by have := XX.out.1; simpa using this)))
  generalize w5.setRow x (msgC 0 0 0 (.slice none 0 0)) = w9 at *
  refine bodyPost_ret (v := .tuple #[.agg (msgC 0 0 0 (.slice none 0 0)), .int .i64 132]) (results_cell_tmp Try.results27 rfl ?_ rfl) rfl ⟨rfl, B9.out⟩
  exact run_loadVar_row w9 x 66 66 _ (0, 0) _ r9 Try.underlying66 rfl (by rw [msgC_size]; exact msg_size)
set_option maxHeartbeats 16000000 in
theorem dhandle_o (w : World) (h : DbW w B b ao cap s p c F) (hm : MsgIs cs k f t id ph pl hops) (g0 : (k != 21) = false) (g1 : (t != s.n) = false) (g2 : isN f = true) (g3 : decide (hops < 0) = false) (g4 : decide (255 < hops) = false) (hL : F.length ≤ 1000) {qn qh ql : Int} (hr : stepR s (nbP s p c) (nbC s c) F ph pl = (⟨qn, qh, ql⟩, true, 0)) (hid : 0 ≤ id ∧ id < 18446744073709551616) : Calls Try.prog 27 #[.pointer (some ⟨b, 0, none⟩), .agg cs] w fun e w' => ∃ g, e = .returned (.tuple #[.agg (msgZ 22 s.n (id % 256) id ph pl hops (.slice (some ⟨g, 0, none⟩) 1 1)), .int .i64 0]) ∧ w'.heap[g]? = some (.cells #[.int .i64 qn, .int .u64 qh, .int .u64 ql] 26 (0, 0)) ∧ w.heap.size ≤ g ∧ Below w.heap.size w w' := by
  have B0 := below_alloc (Below.refl w.heap.size w) (.cells cs 66)
  have R0 := heap_alloc_new w (.cells cs 66)
  have B1 := below_alloc (Below.refl _ (w.alloc (.cells cs 66))) (.cells (msgC 0 0 0 (.slice none 0 0)) 66)
  have R1 := heap_alloc_new (w.alloc (.cells cs 66)) (.cells (msgC 0 0 0 (.slice none 0 0)) 66)
  rw [World.size_alloc] at R1
  have RM := Lib.hid (row_keep R0 (Keep.of_below B1 []) (by simp))
  have RZ := Lib.hid R1
  have BB := Lib.hid (below_next B0 B1)
  have H1 := Lib.hid (h.below BB.out)
  have HM := Lib.hid hm
  have IN := rnode_any f
  have IH := rnode_any hops
  have hnh : isN hops = true := by unfold isN; simp at g3 g4 ⊢; omega
  rw [g2] at IN
  rw [hnh] at IH
  clear hnh
  replace IN := Lib.hid IN; replace IH := Lib.hid IH
  have HBASE := Lib.hid h.base
  have HBLT := Lib.hid h.row.lt
  have HL := Lib.hid hL; have HR := Lib.hid hr
  clear hL hr
  clear B0 R0 B1 R1 h hm
  go_enter Try.func27, Try.ntmps27
  go_upto_region 1 with (refine wpList_alloc_msg rfl rfl (fun w1 hw1 => ?_))
  subst hw1
  generalize (w.alloc (.cells cs 66)).alloc (.cells (msgC 0 0 0 (.slice none 0 0)) 66) = w2 at *
  obtain ⟨x, hx⟩ : ∃ x, x = w.heap.size + 1 := ⟨_, rfl⟩
  rw [← hx] at RZ ⊢
  obtain ⟨y, hy⟩ : ∃ y, y = w.heap.size := ⟨_, rfl⟩
  rw [← hy] at RM ⊢
  have XX := Lib.hid (show w.heap.size ≤ x ∧ y < x from by omega)
  clear hx hy
  have m1 := (cell_of_row w2 y 1 _ _ (0, 0) RM.out).trans HM.out.f; have m47 := (cell_of_row w2 y 47 _ _ (0, 0) RM.out).trans HM.out.hops
  go_wp2_with fail
  refine (IN.out _).mono ?_; rintro e w3 ⟨rfl, rfl⟩
  go_wp2_with fail
  refine (IH.out _).mono ?_; rintro e w3 ⟨rfl, rfl⟩
  clear m1 m47
  rename World => w2
  have m0 := cell_regrown ((cell_of_row w2 y 0 _ _ (0, 0) RM.out).trans HM.out.k); have m2 := cell_regrown ((cell_of_row w2 y 2 _ _ (0, 0) RM.out).trans HM.out.t)
  have t0 := H1.out.row.at_ 0
  simp only [rowT, List.getElem?_toArray, List.getElem?_cons_zero] at t0
  replace t0 := cell_regrown t0
  go_upto_region 3 with (fail)
  refine wp_region_quiet_below (by kernel_rfl) (by kernel_rfl) ?_
  repeat (go_big_quiet_step (fail))
  refine wpQuiet_nil ?_
  intro _ hw'
  obtain ⟨⟨dq, osq⟩, hw''⟩ := hw'
  subst hw''
  have lk := below_regrown w2 dq osq
  have RM3 := Lib.hid (row_keep RM.out (Keep.of_below lk []) (by simp)); have RZ3 := Lib.hid (row_keep RZ.out (Keep.of_below lk []) (by simp))
  have H3 := Lib.hid (H1.out.below lk); have B3 := Lib.hid (below_next BB.out lk)
  clear lk m0 m2 t0
  generalize grow (redrawn w2 dq) osq = w3 at *
  have ST := dstep_any ph pl w3 H3.out HL.out
  rw [HR.out] at ST
  have ST := Lib.hid ST
  have m45 := (cell_of_row w3 y 45 _ _ (0, 0) RM3.out).trans HM.out.ph; have m46 := (cell_of_row w3 y 46 _ _ (0, 0) RM3.out).trans HM.out.pl
  go_wp2_with fail
  refine ST.out.mono ?_; rintro e w4 ⟨rfl, b4⟩
  dsimp only [stepV, Pe.v]
  have B5a := below_alloc (Below.refl w4.heap.size w4) (.cells #[.int .i64 qn, .int .u64 qh, .int .u64 ql] 26)
  have RQ := Lib.hid (heap_alloc_new w4 (.cells #[.int .i64 qn, .int .u64 qh, .int .u64 ql] 26))
  have b5 := below_next b4 B5a
  have RM5 := Lib.hid (row_keep RM3.out (Keep.of_below b5 []) (by simp)); have RZ5 := Lib.hid (row_keep RZ3.out (Keep.of_below b5 []) (by simp))
  have H5 := Lib.hid (H3.out.below b5); have B5 := Lib.hid (below_next B3.out b5)
  have HZX := Lib.hid (show x < w4.heap.size from Nat.lt_of_lt_of_le (Array.getElem?_eq_some_iff.1 RZ3.out).1 b4.size)
  clear m45 m46 b4 b5 B5a ST
  go_upto_region 6 with (fail)
  generalize w4.alloc (.cells #[.int .i64 qn, .int .u64 qh, .int .u64 ql] 26) = w5 at *
  obtain ⟨z, hz⟩ : ∃ z, z = w4.heap.size := ⟨_, rfl⟩
  rw [← hz] at RQ HZX ⊢
  clear hz
  have HBX := Lib.hid (show b ≠ x from fun e => by
    have h1 := HBLT.out
    have := XX.out; omega)
  have LD := Lib.hid (show ∀ w', Keep [x] w5 w' → w'.cell? ⟨b, 0, none⟩ = some (.int .i64 s.n) ∧ w'.cell? ⟨y, 20, none⟩ = some (.int .u64 id) ∧ w'.cell? ⟨y, 45, none⟩ = some (.int .u64 ph) ∧ w'.cell? ⟨y, 46, none⟩ = some (.int .u64 pl) ∧ w'.cell? ⟨y, 47, none⟩ = some (.int .i64 hops) ∧ w'.cell? ⟨z, 0, none⟩ = some (.int .i64 qn) ∧ w'.cell? ⟨z, 1, none⟩ = some (.int .u64 qh) ∧ w'.cell? ⟨z, 2, none⟩ = some (.int .u64 ql) from fun w' k' => by
    have t0 := H5.out.row.at_ 0
    simp only [rowT, List.getElem?_toArray, List.getElem?_cons_zero] at t0
    have nyx : y ∉ [x] := by have := XX.out; simp; omega
    have nzx : z ∉ [x] := by have := HZX.out; simp; omega
    have ly := (Array.getElem?_eq_some_iff.1 RM5.out).1
    have lz := (Array.getElem?_eq_some_iff.1 RQ.out).1
    have q0 := cell_of_row w5 z 0 _ _ (0, 0) RQ.out; have q1 := cell_of_row w5 z 1 _ _ (0, 0) RQ.out; have q2 := cell_of_row w5 z 2 _ _ (0, 0) RQ.out
    simp only [List.getElem?_toArray, List.getElem?_cons_succ, List.getElem?_cons_zero] at q0 q1 q2
    exact ⟨(k'.cell (a := ⟨b, 0, none⟩) H5.out.row.lt (by simp; exact HBX.out)).trans t0, (k'.cell (a := ⟨y, 20, none⟩) ly nyx).trans ((cell_of_row w5 y 20 _ _ (0, 0) RM5.out).trans HM.out.id), (k'.cell (a := ⟨y, 45, none⟩) ly nyx).trans ((cell_of_row w5 y 45 _ _ (0, 0) RM5.out).trans HM.out.ph), (k'.cell (a := ⟨y, 46, none⟩) ly nyx).trans ((cell_of_row w5 y 46 _ _ (0, 0) RM5.out).trans HM.out.pl), (k'.cell (a := ⟨y, 47, none⟩) ly nyx).trans ((cell_of_row w5 y 47 _ _ (0, 0) RM5.out).trans HM.out.hops), (k'.cell (a := ⟨z, 0, none⟩) lz nzx).trans q0, (k'.cell (a := ⟨z, 1, none⟩) lz nzx).trans q1, (k'.cell (a := ⟨z, 2, none⟩) lz nzx).trans q2⟩)
  have HMOD := Lib.hid (show id.tmod 256 = id % 256 from Int.tmod_eq_emod_of_nonneg hid.1)
  have HWR := Lib.hid (show IntKind.i64.wrap (id % 256) = id % 256 from by rw [IntWalk.i64_in _ (by omega)])
  clear hid g0 g1 g2 g3 g4
  go_upto_region 9 with (fail)
  refine wp_region_held_drew (S := fun w' => Keep [x] w5 w') (by kernel_rfl) ((Keep.refl _ _).drew) (fun s0 => ?_)
  have RZ6 := Lib.hid (show w5.drew.heap[x]? = some (.cells (msgC 0 0 0 (.slice none 0 0)) 66 (0, 0)) from RZ5.out)
  have BD := Lib.hid (show Below w5.heap.size w5 w5.drew from (Below.refl _ _).drew)
  have ZLT := Lib.hid (show z < w5.heap.size from (Array.getElem?_eq_some_iff.1 RQ.out).1)
  generalize w5.drew = wd at *
  refine wpAnyH_take (i := 0) (v := .pointer (some ⟨b, 0, none⟩)) rfl (by kernel_rfl) (by kernel_rfl) (by kernel_rfl) (fun _ _ _ h => h) (Or.inl ⟨by rfl, fun w' hw' => by go_simp⟩) s0 ?_
  try simp only [Act.put, List.getElem_toArray, List.getElem_cons_succ, List.getElem_cons_zero, List.setIfInBounds_toArray, List.set_cons_zero, List.set_cons_succ, Nat.zero_add, List.nil_append]
  refine wpAnyH_take (i := 1) (v := .pointer (some ⟨b, 0, none⟩)) rfl (by kernel_rfl) (by kernel_rfl) (by kernel_rfl) (fun _ _ _ h => h) (Or.inl ⟨by rfl, fun w' hw' => by go_simp⟩) s0 ?_
  try simp only [Act.put, List.getElem_toArray, List.getElem_cons_succ, List.getElem_cons_zero, List.setIfInBounds_toArray, List.set_cons_zero, List.set_cons_succ, Nat.zero_add, List.nil_append]
  refine wpAnyH_take (i := 2) (v := .pointer (some ⟨b, 0, none⟩)) rfl (by kernel_rfl) (by kernel_rfl) (by kernel_rfl) (fun _ _ _ h => h) (Or.inl ⟨by rfl, fun w' hw' => by go_simp⟩) s0 ?_
  try simp only [Act.put, List.getElem_toArray, List.getElem_cons_succ, List.getElem_cons_zero, List.setIfInBounds_toArray, List.set_cons_zero, List.set_cons_succ, Nat.zero_add, List.nil_append]
  refine wpAnyH_take (i := 3) (v := .pointer (some ⟨b, 0, none⟩)) rfl (by kernel_rfl) (by kernel_rfl) (by kernel_rfl) (fun _ _ _ h => h) (Or.inl ⟨by rfl, fun w' hw' => by go_simp⟩) s0 ?_
  try simp only [Act.put, List.getElem_toArray, List.getElem_cons_succ, List.getElem_cons_zero, List.setIfInBounds_toArray, List.set_cons_zero, List.set_cons_succ, Nat.zero_add, List.nil_append]
  refine wpAnyH_take (i := 4) (v := .int .i64 s.n) rfl (by kernel_rfl) (by kernel_rfl) (by kernel_rfl) (fun _ _ _ h => h) (Or.inl ⟨by rfl, fun w' hw' => by obtain ⟨d0, d1, d2, d3, d4, d5, d6, d7⟩ := LD.out _ hw'; go_simp⟩) s0 ?_
  try simp only [Act.put, List.getElem_toArray, List.getElem_cons_succ, List.getElem_cons_zero, List.setIfInBounds_toArray, List.set_cons_zero, List.set_cons_succ, Nat.zero_add, List.nil_append]
  refine wpAnyH_take (i := 5) (v := .pointer (some ⟨y, 20, none⟩)) rfl (by kernel_rfl) (by kernel_rfl) (by kernel_rfl) (fun _ _ _ h => h) (Or.inl ⟨by rfl, fun w' hw' => by go_simp⟩) s0 ?_
  try simp only [Act.put, List.getElem_toArray, List.getElem_cons_succ, List.getElem_cons_zero, List.setIfInBounds_toArray, List.set_cons_zero, List.set_cons_succ, Nat.zero_add, List.nil_append]
  refine wpAnyH_take (i := 6) (v := .int .u64 id) rfl (by kernel_rfl) (by kernel_rfl) (by kernel_rfl) (fun _ _ _ h => h) (Or.inl ⟨by rfl, fun w' hw' => by obtain ⟨d0, d1, d2, d3, d4, d5, d6, d7⟩ := LD.out _ hw'; go_simp⟩) s0 ?_
  try simp only [Act.put, List.getElem_toArray, List.getElem_cons_succ, List.getElem_cons_zero, List.setIfInBounds_toArray, List.set_cons_zero, List.set_cons_succ, Nat.zero_add, List.nil_append]
  refine wpAnyH_take (i := 7) (v := .int .u64 (id % 256)) rfl (by kernel_rfl) (by kernel_rfl) (by kernel_rfl) (fun _ _ _ h => h) (Or.inl ⟨by rfl, fun w' hw' => by (go_simp; first | done | simp [HMOD.out])⟩) s0 ?_
  try simp only [Act.put, List.getElem_toArray, List.getElem_cons_succ, List.getElem_cons_zero, List.setIfInBounds_toArray, List.set_cons_zero, List.set_cons_succ, Nat.zero_add, List.nil_append]
  refine wpAnyH_take (i := 8) (v := .int .i64 (id % 256)) rfl (by kernel_rfl) (by kernel_rfl) (by kernel_rfl) (fun _ _ _ h => h) (Or.inl ⟨by rfl, fun w' hw' => by (go_simp; first | done | exact HWR.out | simp [HWR.out])⟩) s0 ?_
  try simp only [Act.put, List.getElem_toArray, List.getElem_cons_succ, List.getElem_cons_zero, List.setIfInBounds_toArray, List.set_cons_zero, List.set_cons_succ, Nat.zero_add, List.nil_append]
  refine wpAnyH_take (i := 9) (v := .pointer (some ⟨y, 45, none⟩)) rfl (by kernel_rfl) (by kernel_rfl) (by kernel_rfl) (fun _ _ _ h => h) (Or.inl ⟨by rfl, fun w' hw' => by go_simp⟩) s0 ?_
  try simp only [Act.put, List.getElem_toArray, List.getElem_cons_succ, List.getElem_cons_zero, List.setIfInBounds_toArray, List.set_cons_zero, List.set_cons_succ, Nat.zero_add, List.nil_append]
  refine wpAnyH_take (i := 10) (v := .agg #[.int .u64 ph, .int .u64 pl]) rfl (by kernel_rfl) (by kernel_rfl) (by kernel_rfl) (fun _ _ _ h => h) (Or.inl ⟨by rfl, fun w' hw' => by obtain ⟨d0, d1, d2, d3, d4, d5, d6, d7⟩ := LD.out _ hw'; go_simp⟩) s0 ?_
  try simp only [Act.put, List.getElem_toArray, List.getElem_cons_succ, List.getElem_cons_zero, List.setIfInBounds_toArray, List.set_cons_zero, List.set_cons_succ, Nat.zero_add, List.nil_append]
  refine wpAnyH_take (i := 11) (v := .pointer (some ⟨y, 20, none⟩)) rfl (by kernel_rfl) (by kernel_rfl) (by kernel_rfl) (fun _ _ _ h => h) (Or.inl ⟨by rfl, fun w' hw' => by go_simp⟩) s0 ?_
  try simp only [Act.put, List.getElem_toArray, List.getElem_cons_succ, List.getElem_cons_zero, List.setIfInBounds_toArray, List.set_cons_zero, List.set_cons_succ, Nat.zero_add, List.nil_append]
  refine wpAnyH_take (i := 12) (v := .int .u64 id) rfl (by kernel_rfl) (by kernel_rfl) (by kernel_rfl) (fun _ _ _ h => h) (Or.inl ⟨by rfl, fun w' hw' => by obtain ⟨d0, d1, d2, d3, d4, d5, d6, d7⟩ := LD.out _ hw'; go_simp⟩) s0 ?_
  try simp only [Act.put, List.getElem_toArray, List.getElem_cons_succ, List.getElem_cons_zero, List.setIfInBounds_toArray, List.set_cons_zero, List.set_cons_succ, Nat.zero_add, List.nil_append]
  refine wpAnyH_take (i := 13) (v := .pointer (some ⟨y, 47, none⟩)) rfl (by kernel_rfl) (by kernel_rfl) (by kernel_rfl) (fun _ _ _ h => h) (Or.inl ⟨by rfl, fun w' hw' => by go_simp⟩) s0 ?_
  try simp only [Act.put, List.getElem_toArray, List.getElem_cons_succ, List.getElem_cons_zero, List.setIfInBounds_toArray, List.set_cons_zero, List.set_cons_succ, Nat.zero_add, List.nil_append]
  refine wpAnyH_take (i := 14) (v := .int .i64 hops) rfl (by kernel_rfl) (by kernel_rfl) (by kernel_rfl) (fun _ _ _ h => h) (Or.inl ⟨by rfl, fun w' hw' => by obtain ⟨d0, d1, d2, d3, d4, d5, d6, d7⟩ := LD.out _ hw'; go_simp⟩) s0 ?_
  try simp only [Act.put, List.getElem_toArray, List.getElem_cons_succ, List.getElem_cons_zero, List.setIfInBounds_toArray, List.set_cons_zero, List.set_cons_succ, Nat.zero_add, List.nil_append]
  refine wpAnyH_take (i := 15) (v := .agg #[.int .i64 qn, .int .u64 qh, .int .u64 ql]) rfl (by kernel_rfl) (by kernel_rfl) (by kernel_rfl) (fun _ _ _ h => h) (Or.inl ⟨by rfl, fun w' hw' => by obtain ⟨d0, d1, d2, d3, d4, d5, d6, d7⟩ := LD.out _ hw'; go_simp⟩) s0 ?_
  try simp only [Act.put, List.getElem_toArray, List.getElem_cons_succ, List.getElem_cons_zero, List.setIfInBounds_toArray, List.set_cons_zero, List.set_cons_succ, Nat.zero_add, List.nil_append]
  refine wpAnyH_ready (rs := [16]) (by kernel_rfl) (by simp) ?_
  refine AllReadyH.cons rfl (fun K hK => ?_) AllReadyH.nil
  rw [if_pos (by rfl)]
  go_simp
  have r3 := heap_alloc_new wd (.cells #[.int .i64 qn, .int .u64 qh, .int .u64 ql] 26)
  have s1 := s0.alloc (.cells #[.int .i64 qn, .int .u64 qh, .int .u64 ql] 26)
  have hgs := s0.size
  have bal := below_alloc (Below.refl wd.heap.size wd) (.cells #[.int .i64 qn, .int .u64 qh, .int .u64 ql] 26)
  have RZ7 := Lib.hid (row_keep RZ6.out (Keep.of_below bal []) (by simp))
  have B7 := Lib.hid (below_next (below_next B5.out BD.out) bal)
  clear bal
  generalize wd.alloc (.cells #[.int .i64 qn, .int .u64 qh, .int .u64 ql] 26) = v3 at *
  obtain ⟨g, hg⟩ : ∃ q, q = wd.heap.size := ⟨_, rfl⟩
  rw [← hg] at r3 hgs ⊢
  have R3 := Lib.hid r3
  have HGS := Lib.hid hgs
  clear r3 hg hgs
  refine hK.out _ _ s1 (fun _ => ?_)
  clear hK K
  try simp only [Act.put, List.getElem_toArray, List.getElem_cons_succ, List.getElem_cons_zero, List.setIfInBounds_toArray, List.set_cons_zero, List.set_cons_succ, Nat.zero_add, List.nil_append]
  refine wpAnyH_take (i := 17) (v := .agg (msgZ 22 s.n (id % 256) id ph pl hops (.slice (some ⟨g, 0, none⟩) 1 1))) rfl (by kernel_rfl) (by kernel_rfl) (by kernel_rfl) (fun _ _ _ h => h) (Or.inl ⟨by rfl, fun w' hw' => by (unfold msgZ; go_simp)⟩) s1 ?_
  try simp only [Act.put, List.getElem_toArray, List.getElem_cons_succ, List.getElem_cons_zero, List.setIfInBounds_toArray, List.set_cons_zero, List.set_cons_succ, Nat.zero_add, List.nil_append]
  refine wpAnyH_ready (rs := [18]) (by kernel_rfl) (by simp) ?_
  refine AllReadyH.cons rfl (fun K hK => ?_) AllReadyH.nil
  rw [if_pos (by rfl)]
  refine wp_store_row 66 (.tmp 4) (.tmp 69) rfl x (msgZ 22 s.n (id % 256) id ph pl hops (.slice (some ⟨g, 0, none⟩) 1 1)) rfl rfl 66 (msgC 0 0 0 (.slice none 0 0)) RZ7.out (by rw [msgZ_size]; exact msg_size) rfl (msgZ_one _ _ _ _ _ _ _ _ _ _) ?_
  have s5 : Keep [x] w5 (v3.setRow x (msgZ 22 s.n (id % 256) id ph pl hops (.slice (some ⟨g, 0, none⟩) 1 1))) := s1.trans (Keep.setRow v3 x (msgZ 22 s.n (id % 256) id ph pl hops (.slice (some ⟨g, 0, none⟩) 1 1)))
  have HM9 := Lib.hid (show (v3.setRow x (msgZ 22 s.n (id % 256) id ph pl hops (.slice (some ⟨g, 0, none⟩) 1 1))).heap[x]? = some (.cells (msgZ 22 s.n (id % 256) id ph pl hops (.slice (some ⟨g, 0, none⟩) 1 1)) 66 (0, 0)) from setRow_heap _ _ _ _ _ _ RZ7.out)
  have HG9 := Lib.hid (row_keep R3.out (Keep.setRow v3 x (msgZ 22 s.n (id % 256) id ph pl hops (.slice (some ⟨g, 0, none⟩) 1 1))) (by have := HGS.out; have := ZLT.out; have := HZX.out; simp; omega))
  have B9 := Lib.hid (B7.out.trans ((Keep.setRow v3 x (msgZ 22 s.n (id % 256) id ph pl hops (.slice (some ⟨g, 0, none⟩) 1 1))).below B7.out.size (by have := XX.out.1; simpa using this)))
  refine hK.out _ _ s5 (fun _ => ?_)
  clear hK K
  try simp only [Act.put, List.getElem_toArray, List.getElem_cons_succ, List.getElem_cons_zero, List.setIfInBounds_toArray, List.set_cons_zero, List.set_cons_succ, Nat.zero_add, List.nil_append]
  refine wpAnyH_take (i := 19) (v := .int .i64 0) rfl (by kernel_rfl) (by kernel_rfl) (by kernel_rfl) (fun _ _ _ h => h) (Or.inl ⟨by rfl, fun w' hw' => by go_simp⟩) s5 ?_
  try simp only [Act.put, List.getElem_toArray, List.getElem_cons_succ, List.getElem_cons_zero, List.setIfInBounds_toArray, List.set_cons_zero, List.set_cons_succ, Nat.zero_add, List.nil_append]
  refine wpAnyH_done (by kernel_rfl) ?_ _
  generalize v3.setRow x (msgZ 22 s.n (id % 256) id ph pl hops (.slice (some ⟨g, 0, none⟩) 1 1)) = v5 at *
  have HGB := Lib.hid (show w.heap.size ≤ g from by have := HGS.out; have := ZLT.out; have := HZX.out; have := XX.out; omega)
  go_wp2_with fail
  exact bodyPost_ret (v := .tuple #[.agg (msgZ 22 s.n (id % 256) id ph pl hops (.slice (some ⟨g, 0, none⟩) 1 1)), .int .i64 0]) (results_cell_tmp Try.results27 rfl (run_loadVar_row v5 x 66 66 _ (0, 0) _ HM9.out Try.underlying66 rfl (by rw [msgZ_size]; exact msg_size)) rfl) rfl ⟨g, rfl, HG9.out, HGB.out, B9.out⟩
set_option maxHeartbeats 16000000 in
theorem dhandle_l (w : World) (h : DbW w B b ao cap s p c F) (hm : MsgIs cs k f t id ph pl hops) (g0 : (k != 21) = false) (g1 : (t != s.n) = false) (g2 : isN f = true) (g3 : decide (hops < 0) = false) (g4 : decide (255 < hops) = false) (hL : F.length ≤ 1000) {qn qh ql : Int} (hr : stepR s (nbP s p c) (nbC s c) F ph pl = (⟨qn, qh, ql⟩, false, 0)) (hh : hops < 8) : Calls Try.prog 27 #[.pointer (some ⟨b, 0, none⟩), .agg cs] w fun e w' => e = .returned (.tuple #[.agg (msgZ 21 s.n qn id ph pl (hops + 1) (.slice none 0 0)), .int .i64 0]) ∧ Below w.heap.size w w' := by
  have B0 := below_alloc (Below.refl w.heap.size w) (.cells cs 66)
  have R0 := heap_alloc_new w (.cells cs 66)
  have B1 := below_alloc (Below.refl _ (w.alloc (.cells cs 66))) (.cells (msgC 0 0 0 (.slice none 0 0)) 66)
  have R1 := heap_alloc_new (w.alloc (.cells cs 66)) (.cells (msgC 0 0 0 (.slice none 0 0)) 66)
  rw [World.size_alloc] at R1
  have RM := Lib.hid (row_keep R0 (Keep.of_below B1 []) (by simp))
  have RZ := Lib.hid R1
  have BB := Lib.hid (below_next B0 B1)
  have H1 := Lib.hid (h.below BB.out)
  have HM := Lib.hid hm
  have IN := rnode_any f
  have IH := rnode_any hops
  have hnh : isN hops = true := by unfold isN; simp at g3 g4 ⊢; omega
  rw [g2] at IN
  rw [hnh] at IH
  clear hnh
  replace IN := Lib.hid IN; replace IH := Lib.hid IH
  have HBASE := Lib.hid h.base
  have HBLT := Lib.hid h.row.lt
  have HL := Lib.hid hL; have HR := Lib.hid hr
  clear hL hr
  clear B0 R0 B1 R1 h hm
  go_enter Try.func27, Try.ntmps27
  go_upto_region 1 with (refine wpList_alloc_msg rfl rfl (fun w1 hw1 => ?_))
  subst hw1
  generalize (w.alloc (.cells cs 66)).alloc (.cells (msgC 0 0 0 (.slice none 0 0)) 66) = w2 at *
  obtain ⟨x, hx⟩ : ∃ x, x = w.heap.size + 1 := ⟨_, rfl⟩
  rw [← hx] at RZ ⊢
  obtain ⟨y, hy⟩ : ∃ y, y = w.heap.size := ⟨_, rfl⟩
  rw [← hy] at RM ⊢
  have XX := Lib.hid (show w.heap.size ≤ x ∧ y < x from by omega)
  clear hx hy
  have m1 := (cell_of_row w2 y 1 _ _ (0, 0) RM.out).trans HM.out.f; have m47 := (cell_of_row w2 y 47 _ _ (0, 0) RM.out).trans HM.out.hops
  go_wp2_with fail
  refine (IN.out _).mono ?_; rintro e w3 ⟨rfl, rfl⟩
  go_wp2_with fail
  refine (IH.out _).mono ?_; rintro e w3 ⟨rfl, rfl⟩
  clear m1 m47
  rename World => w2
  have m0 := cell_regrown ((cell_of_row w2 y 0 _ _ (0, 0) RM.out).trans HM.out.k); have m2 := cell_regrown ((cell_of_row w2 y 2 _ _ (0, 0) RM.out).trans HM.out.t)
  have t0 := H1.out.row.at_ 0
  simp only [rowT, List.getElem?_toArray, List.getElem?_cons_zero] at t0
  replace t0 := cell_regrown t0
  go_upto_region 3 with (fail)
  refine wp_region_quiet_below (by kernel_rfl) (by kernel_rfl) ?_
  repeat (go_big_quiet_step (fail))
  refine wpQuiet_nil ?_
  intro _ hw'
  obtain ⟨⟨dq, osq⟩, hw''⟩ := hw'
  subst hw''
  have lk := below_regrown w2 dq osq
  have RM3 := Lib.hid (row_keep RM.out (Keep.of_below lk []) (by simp)); have RZ3 := Lib.hid (row_keep RZ.out (Keep.of_below lk []) (by simp))
  have H3 := Lib.hid (H1.out.below lk); have B3 := Lib.hid (below_next BB.out lk)
  clear lk m0 m2 t0
  generalize grow (redrawn w2 dq) osq = w3 at *
  have ST := dstep_any ph pl w3 H3.out HL.out
  rw [HR.out] at ST
  have ST := Lib.hid ST
  have m45 := (cell_of_row w3 y 45 _ _ (0, 0) RM3.out).trans HM.out.ph; have m46 := (cell_of_row w3 y 46 _ _ (0, 0) RM3.out).trans HM.out.pl
  go_wp2_with fail
  refine ST.out.mono ?_; rintro e w4 ⟨rfl, b4⟩
  dsimp only [stepV, Pe.v]
  have B5a := below_alloc (Below.refl w4.heap.size w4) (.cells #[.int .i64 qn, .int .u64 qh, .int .u64 ql] 26)
  have RQ := Lib.hid (heap_alloc_new w4 (.cells #[.int .i64 qn, .int .u64 qh, .int .u64 ql] 26))
  have b5 := below_next b4 B5a
  have RM5 := Lib.hid (row_keep RM3.out (Keep.of_below b5 []) (by simp)); have RZ5 := Lib.hid (row_keep RZ3.out (Keep.of_below b5 []) (by simp))
  have H5 := Lib.hid (H3.out.below b5); have B5 := Lib.hid (below_next B3.out b5)
  have HZX := Lib.hid (show x < w4.heap.size from Nat.lt_of_lt_of_le (Array.getElem?_eq_some_iff.1 RZ3.out).1 b4.size)
  clear m45 m46 b4 b5 B5a ST
  go_upto_region 6 with (fail)
  generalize w4.alloc (.cells #[.int .i64 qn, .int .u64 qh, .int .u64 ql] 26) = w5 at *
  obtain ⟨z, hz⟩ : ∃ z, z = w4.heap.size := ⟨_, rfl⟩
  rw [← hz] at RQ HZX ⊢
  clear hz
  have m47 := (cell_of_row w5 y 47 _ _ (0, 0) RM5.out).trans HM.out.hops
  have h8 : decide (8 ≤ hops) = false := decide_eq_false (by omega)
  have HBX := Lib.hid (show b ≠ x from fun e => by
    have h1 := HBLT.out
    have := XX.out; omega)
  have LD := Lib.hid (show ∀ w', Keep [x] w5 w' → w'.cell? ⟨b, 0, none⟩ = some (.int .i64 s.n) ∧ w'.cell? ⟨y, 20, none⟩ = some (.int .u64 id) ∧ w'.cell? ⟨y, 45, none⟩ = some (.int .u64 ph) ∧ w'.cell? ⟨y, 46, none⟩ = some (.int .u64 pl) ∧ w'.cell? ⟨y, 47, none⟩ = some (.int .i64 hops) ∧ w'.cell? ⟨z, 0, none⟩ = some (.int .i64 qn) ∧ w'.cell? ⟨z, 1, none⟩ = some (.int .u64 qh) ∧ w'.cell? ⟨z, 2, none⟩ = some (.int .u64 ql) from fun w' k' => by
    have t0 := H5.out.row.at_ 0
    simp only [rowT, List.getElem?_toArray, List.getElem?_cons_zero] at t0
    have nyx : y ∉ [x] := by have := XX.out; simp; omega
    have nzx : z ∉ [x] := by have := HZX.out; simp; omega
    have ly := (Array.getElem?_eq_some_iff.1 RM5.out).1
    have lz := (Array.getElem?_eq_some_iff.1 RQ.out).1
    have q0 := cell_of_row w5 z 0 _ _ (0, 0) RQ.out; have q1 := cell_of_row w5 z 1 _ _ (0, 0) RQ.out; have q2 := cell_of_row w5 z 2 _ _ (0, 0) RQ.out
    simp only [List.getElem?_toArray, List.getElem?_cons_succ, List.getElem?_cons_zero] at q0 q1 q2
    exact ⟨(k'.cell (a := ⟨b, 0, none⟩) H5.out.row.lt (by simp; exact HBX.out)).trans t0, (k'.cell (a := ⟨y, 20, none⟩) ly nyx).trans ((cell_of_row w5 y 20 _ _ (0, 0) RM5.out).trans HM.out.id), (k'.cell (a := ⟨y, 45, none⟩) ly nyx).trans ((cell_of_row w5 y 45 _ _ (0, 0) RM5.out).trans HM.out.ph), (k'.cell (a := ⟨y, 46, none⟩) ly nyx).trans ((cell_of_row w5 y 46 _ _ (0, 0) RM5.out).trans HM.out.pl), (k'.cell (a := ⟨y, 47, none⟩) ly nyx).trans ((cell_of_row w5 y 47 _ _ (0, 0) RM5.out).trans HM.out.hops), (k'.cell (a := ⟨z, 0, none⟩) lz nzx).trans q0, (k'.cell (a := ⟨z, 1, none⟩) lz nzx).trans q1, (k'.cell (a := ⟨z, 2, none⟩) lz nzx).trans q2⟩)
  have HO := Lib.hid (show 0 ≤ hops from by simpa using g3)
  have HO8 := Lib.hid hh
  clear hh g0 g1 g2 g3 g4
  go_upto_region 12 with (fail)
  refine wp_region_held_drew (S := fun w' => Keep [x] w5 w') (by kernel_rfl) ((Keep.refl _ _).drew) (fun s0 => ?_)
  have RZ7 := Lib.hid (show w5.drew.heap[x]? = some (.cells (msgC 0 0 0 (.slice none 0 0)) 66 (0, 0)) from RZ5.out)
  have B7 := Lib.hid (B5.out.drew)
  have HWR := Lib.hid (show IntKind.i64.wrap (hops + 1) = hops + 1 from by rw [IntWalk.i64_in _ (by have := HO.out; have := HO8.out; omega)])
  generalize w5.drew = v3 at *
  refine wpAnyH_take (i := 0) (v := .pointer (some ⟨b, 0, none⟩)) rfl (by kernel_rfl) (by kernel_rfl) (by kernel_rfl) (fun _ _ _ h => h) (Or.inl ⟨by rfl, fun w' hw' => by go_simp⟩) s0 ?_
  try simp only [Act.put, List.getElem_toArray, List.getElem_cons_succ, List.getElem_cons_zero, List.setIfInBounds_toArray, List.set_cons_zero, List.set_cons_succ, Nat.zero_add, List.nil_append]
  refine wpAnyH_take (i := 1) (v := .pointer (some ⟨b, 0, none⟩)) rfl (by kernel_rfl) (by kernel_rfl) (by kernel_rfl) (fun _ _ _ h => h) (Or.inl ⟨by rfl, fun w' hw' => by go_simp⟩) s0 ?_
  try simp only [Act.put, List.getElem_toArray, List.getElem_cons_succ, List.getElem_cons_zero, List.setIfInBounds_toArray, List.set_cons_zero, List.set_cons_succ, Nat.zero_add, List.nil_append]
  refine wpAnyH_take (i := 2) (v := .pointer (some ⟨b, 0, none⟩)) rfl (by kernel_rfl) (by kernel_rfl) (by kernel_rfl) (fun _ _ _ h => h) (Or.inl ⟨by rfl, fun w' hw' => by go_simp⟩) s0 ?_
  try simp only [Act.put, List.getElem_toArray, List.getElem_cons_succ, List.getElem_cons_zero, List.setIfInBounds_toArray, List.set_cons_zero, List.set_cons_succ, Nat.zero_add, List.nil_append]
  refine wpAnyH_take (i := 3) (v := .pointer (some ⟨b, 0, none⟩)) rfl (by kernel_rfl) (by kernel_rfl) (by kernel_rfl) (fun _ _ _ h => h) (Or.inl ⟨by rfl, fun w' hw' => by go_simp⟩) s0 ?_
  try simp only [Act.put, List.getElem_toArray, List.getElem_cons_succ, List.getElem_cons_zero, List.setIfInBounds_toArray, List.set_cons_zero, List.set_cons_succ, Nat.zero_add, List.nil_append]
  refine wpAnyH_take (i := 4) (v := .int .i64 s.n) rfl (by kernel_rfl) (by kernel_rfl) (by kernel_rfl) (fun _ _ _ h => h) (Or.inl ⟨by rfl, fun w' hw' => by obtain ⟨d0, d1, d2, d3, d4, d5, d6, d7⟩ := LD.out _ hw'; go_simp⟩) s0 ?_
  try simp only [Act.put, List.getElem_toArray, List.getElem_cons_succ, List.getElem_cons_zero, List.setIfInBounds_toArray, List.set_cons_zero, List.set_cons_succ, Nat.zero_add, List.nil_append]
  refine wpAnyH_take (i := 5) (v := .pointer (some ⟨z, 0, none⟩)) rfl (by kernel_rfl) (by kernel_rfl) (by kernel_rfl) (fun _ _ _ h => h) (Or.inl ⟨by rfl, fun w' hw' => by go_simp⟩) s0 ?_
  try simp only [Act.put, List.getElem_toArray, List.getElem_cons_succ, List.getElem_cons_zero, List.setIfInBounds_toArray, List.set_cons_zero, List.set_cons_succ, Nat.zero_add, List.nil_append]
  refine wpAnyH_take (i := 6) (v := .int .i64 qn) rfl (by kernel_rfl) (by kernel_rfl) (by kernel_rfl) (fun _ _ _ h => h) (Or.inl ⟨by rfl, fun w' hw' => by obtain ⟨d0, d1, d2, d3, d4, d5, d6, d7⟩ := LD.out _ hw'; go_simp⟩) s0 ?_
  try simp only [Act.put, List.getElem_toArray, List.getElem_cons_succ, List.getElem_cons_zero, List.setIfInBounds_toArray, List.set_cons_zero, List.set_cons_succ, Nat.zero_add, List.nil_append]
  refine wpAnyH_take (i := 7) (v := .pointer (some ⟨y, 45, none⟩)) rfl (by kernel_rfl) (by kernel_rfl) (by kernel_rfl) (fun _ _ _ h => h) (Or.inl ⟨by rfl, fun w' hw' => by go_simp⟩) s0 ?_
  try simp only [Act.put, List.getElem_toArray, List.getElem_cons_succ, List.getElem_cons_zero, List.setIfInBounds_toArray, List.set_cons_zero, List.set_cons_succ, Nat.zero_add, List.nil_append]
  refine wpAnyH_take (i := 8) (v := .agg #[.int .u64 ph, .int .u64 pl]) rfl (by kernel_rfl) (by kernel_rfl) (by kernel_rfl) (fun _ _ _ h => h) (Or.inl ⟨by rfl, fun w' hw' => by obtain ⟨d0, d1, d2, d3, d4, d5, d6, d7⟩ := LD.out _ hw'; go_simp⟩) s0 ?_
  try simp only [Act.put, List.getElem_toArray, List.getElem_cons_succ, List.getElem_cons_zero, List.setIfInBounds_toArray, List.set_cons_zero, List.set_cons_succ, Nat.zero_add, List.nil_append]
  refine wpAnyH_take (i := 9) (v := .pointer (some ⟨y, 20, none⟩)) rfl (by kernel_rfl) (by kernel_rfl) (by kernel_rfl) (fun _ _ _ h => h) (Or.inl ⟨by rfl, fun w' hw' => by go_simp⟩) s0 ?_
  try simp only [Act.put, List.getElem_toArray, List.getElem_cons_succ, List.getElem_cons_zero, List.setIfInBounds_toArray, List.set_cons_zero, List.set_cons_succ, Nat.zero_add, List.nil_append]
  refine wpAnyH_take (i := 10) (v := .int .u64 id) rfl (by kernel_rfl) (by kernel_rfl) (by kernel_rfl) (fun _ _ _ h => h) (Or.inl ⟨by rfl, fun w' hw' => by obtain ⟨d0, d1, d2, d3, d4, d5, d6, d7⟩ := LD.out _ hw'; go_simp⟩) s0 ?_
  try simp only [Act.put, List.getElem_toArray, List.getElem_cons_succ, List.getElem_cons_zero, List.setIfInBounds_toArray, List.set_cons_zero, List.set_cons_succ, Nat.zero_add, List.nil_append]
  refine wpAnyH_take (i := 11) (v := .pointer (some ⟨y, 47, none⟩)) rfl (by kernel_rfl) (by kernel_rfl) (by kernel_rfl) (fun _ _ _ h => h) (Or.inl ⟨by rfl, fun w' hw' => by go_simp⟩) s0 ?_
  try simp only [Act.put, List.getElem_toArray, List.getElem_cons_succ, List.getElem_cons_zero, List.setIfInBounds_toArray, List.set_cons_zero, List.set_cons_succ, Nat.zero_add, List.nil_append]
  refine wpAnyH_take (i := 12) (v := .int .i64 hops) rfl (by kernel_rfl) (by kernel_rfl) (by kernel_rfl) (fun _ _ _ h => h) (Or.inl ⟨by rfl, fun w' hw' => by obtain ⟨d0, d1, d2, d3, d4, d5, d6, d7⟩ := LD.out _ hw'; go_simp⟩) s0 ?_
  try simp only [Act.put, List.getElem_toArray, List.getElem_cons_succ, List.getElem_cons_zero, List.setIfInBounds_toArray, List.set_cons_zero, List.set_cons_succ, Nat.zero_add, List.nil_append]
  refine wpAnyH_take (i := 13) (v := .int .i64 (hops + 1)) rfl (by kernel_rfl) (by kernel_rfl) (by kernel_rfl) (fun _ _ _ h => h) (Or.inl ⟨by rfl, fun w' hw' => by (go_simp; first | done | exact HWR.out | simp [HWR.out])⟩) s0 ?_
  try simp only [Act.put, List.getElem_toArray, List.getElem_cons_succ, List.getElem_cons_zero, List.setIfInBounds_toArray, List.set_cons_zero, List.set_cons_succ, Nat.zero_add, List.nil_append]
  refine wpAnyH_take (i := 14) (v := .agg (msgZ 21 s.n qn id ph pl (hops + 1) (.slice none 0 0))) rfl (by kernel_rfl) (by kernel_rfl) (by kernel_rfl) (fun _ _ _ h => h) (Or.inl ⟨by rfl, fun w' hw' => by (unfold msgZ; go_simp)⟩) s0 ?_
  try simp only [Act.put, List.getElem_toArray, List.getElem_cons_succ, List.getElem_cons_zero, List.setIfInBounds_toArray, List.set_cons_zero, List.set_cons_succ, Nat.zero_add, List.nil_append]
  refine wpAnyH_ready (rs := [15]) (by kernel_rfl) (by simp) ?_
  refine AllReadyH.cons rfl (fun K hK => ?_) AllReadyH.nil
  rw [if_pos (by rfl)]
  refine wp_store_row 66 (.tmp 4) (.tmp 88) rfl x (msgZ 21 s.n qn id ph pl (hops + 1) (.slice none 0 0)) rfl rfl 66 (msgC 0 0 0 (.slice none 0 0)) RZ7.out (by rw [msgZ_size]; exact msg_size) rfl (msgZ_zero _ _ _ _ _ _ _) ?_
  have s5 : Keep [x] w5 (v3.setRow x (msgZ 21 s.n qn id ph pl (hops + 1) (.slice none 0 0))) := s0.trans (Keep.setRow v3 x (msgZ 21 s.n qn id ph pl (hops + 1) (.slice none 0 0)))
  have HM9 := Lib.hid (show (v3.setRow x (msgZ 21 s.n qn id ph pl (hops + 1) (.slice none 0 0))).heap[x]? = some (.cells (msgZ 21 s.n qn id ph pl (hops + 1) (.slice none 0 0)) 66 (0, 0)) from setRow_heap _ _ _ _ _ _ RZ7.out)
  have B9 := Lib.hid (B7.out.trans ((Keep.setRow v3 x (msgZ 21 s.n qn id ph pl (hops + 1) (.slice none 0 0))).below B7.out.size (by have := XX.out.1; simpa using this)))
  refine hK.out _ _ s5 (fun _ => ?_)
  clear hK K
  try simp only [Act.put, List.getElem_toArray, List.getElem_cons_succ, List.getElem_cons_zero, List.setIfInBounds_toArray, List.set_cons_zero, List.set_cons_succ, Nat.zero_add, List.nil_append]
  refine wpAnyH_take (i := 16) (v := .int .i64 0) rfl (by kernel_rfl) (by kernel_rfl) (by kernel_rfl) (fun _ _ _ h => h) (Or.inl ⟨by rfl, fun w' hw' => by go_simp⟩) s5 ?_
  try simp only [Act.put, List.getElem_toArray, List.getElem_cons_succ, List.getElem_cons_zero, List.setIfInBounds_toArray, List.set_cons_zero, List.set_cons_succ, Nat.zero_add, List.nil_append]
  refine wpAnyH_done (by kernel_rfl) ?_ _
  generalize v3.setRow x (msgZ 21 s.n qn id ph pl (hops + 1) (.slice none 0 0)) = v5 at *
  go_wp2_with fail
  exact bodyPost_ret (v := .tuple #[.agg (msgZ 21 s.n qn id ph pl (hops + 1) (.slice none 0 0)), .int .i64 0]) (results_cell_tmp Try.results27 rfl (run_loadVar_row v5 x 66 66 _ (0, 0) _ HM9.out Try.underlying66 rfl (by rw [msgZ_size]; exact msg_size)) rfl) rfl ⟨rfl, B9.out⟩
end
end Go.Proofs.Ytokmchkoojeadaa
