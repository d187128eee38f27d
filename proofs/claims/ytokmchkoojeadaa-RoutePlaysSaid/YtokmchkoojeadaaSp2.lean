/- RoutePlays: a step of the script, kind 2, 4 and others. -/
import Derived.Test.YtokmchkoojeadaaSp0
namespace Go.Proofs.Ytokmchkoojeadaa
open Go.RowKit Go.Sort
set_option linter.unusedVariables false
set_option linter.unusedSimpArgs false
set_option maxRecDepth 100000
section
variable {w : World} {B b d : Nat} {s p c : Pe} {F : List Pe} {oc : List Value} {i : Int} {lo : Option Addr} {ln lc : Nat} {L : List Pe} {ph pl mk mf mt mid mph mpl mhops : Int}
set_option maxHeartbeats 4000000 in
theorem step_other {kind : Int} (ho : OpIs w B oc kind i lo ln lc L ph pl mk mf mt mid mph mpl mhops) (n1 : kind ≠ 1) (n2 : kind ≠ 2) (n3 : kind ≠ 3) (n4 : kind ≠ 4) (h2 : Two w B b d s p c F) : Calls Try.prog 10 #[.pointer (some ⟨b, 0, none⟩), .pointer (some ⟨d, 0, none⟩), .agg oc.toArray] w (Stepped B b d s p c w) := by
  obtain ⟨w1, hw1, hcell, b1, hlt1⟩ := box_op w ho.ol
  have HW1 := Lib.hid hw1; have BBz := Lib.hid b1
  have H2 := Lib.hid h2
  have k0 := hcell w1 (Below.refl _ _) 0 _ ho.ok
  have q1 : (kind == 1) = false := beq_eq_false_iff_ne.2 n1
  have q2 : (kind == 2) = false := beq_eq_false_iff_ne.2 n2
  have q3 : (kind == 3) = false := beq_eq_false_iff_ne.2 n3
  have q4 : (kind == 4) = false := beq_eq_false_iff_ne.2 n4
  clear hw1 hcell b1 ho h2 n1 n2 n3 n4
  go_enter Try.func10, Try.ntmps10
  go_upto_region 1 with (fail)
  rw [← HW1.out]
  go_wp2_with fail
  go_ret
  have e := Stepped.of H2.out BBz.out
  exact e
set_option maxHeartbeats 16000000 in
theorem step_step (ho : OpIs w B oc 2 i lo ln lc L ph pl mk mf mt mid mph mpl mhops) (h2 : Two w B b d s p c F) : Calls Try.prog 10 #[.pointer (some ⟨b, 0, none⟩), .pointer (some ⟨d, 0, none⟩), .agg oc.toArray] w (Stepped B b d s p c w) := by
  obtain ⟨w1, hw1, hcell, b1, hlt1⟩ := box_op w ho.ol
  have HW1 := Lib.hid hw1; have CL := Lib.hid hcell; have BB := Lib.hid b1; have HLT := Lib.hid hlt1
  have HO := Lib.hid ho; have H2 := Lib.hid h2; have T1 := Lib.hid (h2.below b1)
  obtain ⟨ao, cap, ad, cad, hta, hda, _⟩ := h2
  have ST := fun w1 (k : Below w.heap.size w w1) => step_any ph pl w1 (hta.below k) (by have := H2.out.len; omega) (H2.out.own ph pl)
  have DT := fun w1 (k : Below w.heap.size w w1) => dstep_any ph pl w1 (hda.below k) (by have := H2.out.len; omega)
  obtain ⟨⟨⟨rn, rh, rl⟩, rb, re⟩, hr⟩ : ∃ r, stepR s (nbP s p c) (nbC s c) F ph pl = r := ⟨_, rfl⟩
  rw [hr] at ST DT
  replace ST := Lib.hid ST; replace DT := Lib.hid DT
  clear hta hda hr
  clear hw1 hcell b1 hlt1 ho
  go_enter Try.func10, Try.ntmps10
  go_upto_region 1 with (fail)
  rw [← HW1.out]
  obtain ⟨x, hx⟩ : ∃ x, x = w.heap.size := ⟨_, rfl⟩
  rw [← hx] at CL HLT ⊢
  have HX := Lib.hid hx
  clear hx
  have hxl := HLT.out
  have k0 := CL.out w1 (Below.refl _ _) 0 _ HO.out.ok
  have k3 := CL.out w1 (Below.refl _ _) 3 _ HO.out.oph; have k4 := CL.out w1 (Below.refl _ _) 4 _ HO.out.opl
  go_wp2_with fail
  refine (ST.out w1 BB.out).mono ?_; rintro e w2 ⟨rfl, b2⟩
  dsimp only [stepV, Pe.v]
  have b3 := below_next b2 (below_alloc (Below.refl w2.heap.size w2) (.cells #[.int .i64 rn, .int .u64 rh, .int .u64 rl] 26))
  have R3 := Lib.hid (heap_alloc_new w2 (.cells #[.int .i64 rn, .int .u64 rh, .int .u64 rl] 26))
  have BB3 := Lib.hid (below_next BB.out b3)
  have CL3 := Lib.hid (fun j v h => CL.out _ b3 j v h)
  have HX3 := Lib.hid (Nat.lt_of_lt_of_le HLT.out b3.size)
  clear b2 b3 k0 k3 k4 hxl
  go_upto_region 14 with (fail)
  generalize w2.alloc (.cells #[.int .i64 rn, .int .u64 rh, .int .u64 rl] 26) = w3 at *
  obtain ⟨y, hy⟩ : ∃ y, y = w2.heap.size := ⟨_, rfl⟩
  rw [← hy] at R3 ⊢
  clear hy
  have k3 := CL3.out 3 _ HO.out.oph; have k4 := CL3.out 4 _ HO.out.opl
  have hxl := HX3.out
  go_wp2_with fail
  refine (DT.out w3 BB3.out).mono ?_; rintro e w4 ⟨rfl, b4⟩
  dsimp only [stepV, Pe.v]
  have b5 := below_next b4 (below_alloc (Below.refl w4.heap.size w4) (.cells #[.int .i64 rn, .int .u64 rh, .int .u64 rl] 26))
  have R5 := Lib.hid (heap_alloc_new w4 (.cells #[.int .i64 rn, .int .u64 rh, .int .u64 rl] 26))
  have R3 := Lib.hid (row_keep R3.out (Keep.of_below b5 []) (by simp))
  have BBz := Lib.hid (below_next BB3.out b5)
  clear b4 b5 k3 k4 hxl
  go_upto_region 15 with (fail)
  generalize w4.alloc (.cells #[.int .i64 rn, .int .u64 rh, .int .u64 rl] 26) = w5 at *
  obtain ⟨z, hz⟩ : ∃ z, z = w4.heap.size := ⟨_, rfl⟩
  rw [← hz] at R5 ⊢
  clear hz
  have c0 := cell_of_row w5 y 0 _ _ (0, 0) R3.out; have c1 := cell_of_row w5 y 1 _ _ (0, 0) R3.out; have c2 := cell_of_row w5 y 2 _ _ (0, 0) R3.out
  have d0 := cell_of_row w5 z 0 _ _ (0, 0) R5.out; have d1 := cell_of_row w5 z 1 _ _ (0, 0) R5.out; have d2 := cell_of_row w5 z 2 _ _ (0, 0) R5.out
  simp only [List.getElem?_toArray, List.getElem?_cons_succ, List.getElem?_cons_zero] at c0 c1 c2 d0 d1 d2
  have EP := fun w => eql_peer rn rh rl rn rh rl w
  simp only [beq_self_eq_true, Bool.and_self] at EP
  cases rb
  all_goals
    go_wp2_with fail
    go_ret
    have e := Stepped.of H2.out BBz.out
    exact e
set_option maxHeartbeats 16000000 in
theorem step_walk (ho : OpIs w B oc 4 i lo ln lc L ph pl mk mf mt mid mph mpl mhops) (h2 : Two w B b d s p c F) : Calls Try.prog 10 #[.pointer (some ⟨b, 0, none⟩), .pointer (some ⟨d, 0, none⟩), .agg oc.toArray] w (Stepped B b d s p c w) := by
  obtain ⟨w1, hw1, hcell, b1, hlt1⟩ := box_op w ho.ol
  have HW1 := Lib.hid hw1; have CL := Lib.hid hcell; have BB := Lib.hid b1; have HLT := Lib.hid hlt1
  have HO := Lib.hid ho; have H2 := Lib.hid h2; have T1 := Lib.hid (h2.below b1)
  obtain ⟨ao, cap, ad, cad, hta, hda, _⟩ := h2
  have ST := fun w1 (k : Below w.heap.size w w1) => walk_any ph pl w1 (hta.below k)
  have DT := fun w1 (k : Below w.heap.size w w1) => down_any ph pl w1 (hda.below k).row
  obtain ⟨ob, hob⟩ : ∃ q, dOwn s p c ph pl = q := ⟨_, rfl⟩
  have hwr : walkR s (nbP s p c) (nbC s c) ph pl = if ob then (s, true) else (c, false) := by
    unfold walkR
    rw [own_doc, hob]
    cases ob with
    | true => rfl
    | false =>
      have hcn : (c.n == s.n) = false := by
        unfold dOwn at hob
        cases hq : (c.n == s.n) with
        | false => rfl
        | true => rw [hq] at hob; simp at hob
      rw [(nb_two (p := p) hcn).2]
  rw [hwr] at ST
  rw [hob] at DT
  have HDR := Lib.hid (fun w1 (k : Below w.heap.size w w1) => (hda.below k).row)
  replace ST := Lib.hid ST; replace DT := Lib.hid DT
  clear hta hda hob hwr
  clear hw1 hcell b1 hlt1 ho
  go_enter Try.func10, Try.ntmps10
  go_upto_region 1 with (fail)
  rw [← HW1.out]
  obtain ⟨x, hx⟩ : ∃ x, x = w.heap.size := ⟨_, rfl⟩
  rw [← hx] at CL HLT ⊢
  have HX := Lib.hid hx
  clear hx
  have hxl := HLT.out
  have k0 := CL.out w1 (Below.refl _ _) 0 _ HO.out.ok
  have k3 := CL.out w1 (Below.refl _ _) 3 _ HO.out.oph; have k4 := CL.out w1 (Below.refl _ _) 4 _ HO.out.opl
  obtain ⟨⟨pn, ph', pl'⟩, hpv⟩ : ∃ q, (if ob then (s, true) else (c, false) : Pe × Bool).1 = q := ⟨_, rfl⟩
  have hb2 : (if ob then (s, true) else (c, false) : Pe × Bool).2 = ob := by cases ob <;> rfl
  rw [hpv, hb2] at ST
  have HPV := Lib.hid hpv
  clear hpv hb2
  go_wp2_with fail
  refine (ST.out w1 BB.out).mono ?_; rintro e w2 ⟨rfl, b2⟩
  dsimp only [Pe.v]
  have b3 := below_next b2 (below_alloc (Below.refl w2.heap.size w2) (.cells #[.int .i64 pn, .int .u64 ph', .int .u64 pl'] 26))
  have R3 := Lib.hid (heap_alloc_new w2 (.cells #[.int .i64 pn, .int .u64 ph', .int .u64 pl'] 26))
  have BB3 := Lib.hid (below_next BB.out b3)
  have CL3 := Lib.hid (fun j v h => CL.out _ b3 j v h)
  have HX3 := Lib.hid (Nat.lt_of_lt_of_le HLT.out b3.size)
  clear b2 b3 k0 k3 k4 hxl
  go_upto_region 22 with (fail)
  generalize w2.alloc (.cells #[.int .i64 pn, .int .u64 ph', .int .u64 pl'] 26) = w3 at *
  obtain ⟨y, hy⟩ : ∃ y, y = w2.heap.size := ⟨_, rfl⟩
  rw [← hy] at R3 ⊢
  clear hy
  have k3 := CL3.out 3 _ HO.out.oph; have k4 := CL3.out 4 _ HO.out.opl
  have hxl := HX3.out
  go_wp2_with fail
  refine (DT.out w3 BB3.out).mono ?_; rintro e w4 ⟨rfl, b4⟩
  have R3 := Lib.hid (row_keep R3.out (Keep.of_below b4 []) (by simp))
  have BB4 := Lib.hid (below_next BB3.out b4)
  clear b4 k3 k4 hxl
  have c0 := cell_regrown (cell_of_row w4 y 0 _ _ (0, 0) R3.out); have c1 := cell_regrown (cell_of_row w4 y 1 _ _ (0, 0) R3.out); have c2 := cell_regrown (cell_of_row w4 y 2 _ _ (0, 0) R3.out)
  have t0 := (HDR.out w4 BB4.out).at_ 0; have t1 := (HDR.out w4 BB4.out).at_ 1; have t2 := (HDR.out w4 BB4.out).at_ 2; have t6 := (HDR.out w4 BB4.out).at_ 6; have t7 := (HDR.out w4 BB4.out).at_ 7; have t8 := (HDR.out w4 BB4.out).at_ 8
  simp only [rowT, List.getElem?_toArray, List.getElem?_cons_succ, List.getElem?_cons_zero] at t0 t1 t2 t6 t7 t8
  replace t0 := cell_regrown t0; replace t1 := cell_regrown t1; replace t2 := cell_regrown t2; replace t6 := cell_regrown t6; replace t7 := cell_regrown t7; replace t8 := cell_regrown t8
  have EP := fun w => eql_peer pn ph' pl' pn ph' pl' w
  simp only [beq_self_eq_true, Bool.and_self] at EP
  cases ob
  all_goals
    have hpv := HPV.out
    simp only [if_true, Bool.false_eq_true, if_false] at hpv
    subst hpv
    go_upto_region 23 with (fail)
    refine wp_region_quiet_below (by kernel_rfl) (by kernel_rfl) ?_
    repeat (go_big_quiet_step (fail))
    refine wpQuiet_nil ?_
    intro _ hw'
    obtain ⟨⟨dq, osq⟩, hw''⟩ := hw'
    subst hw''
    have lk := below_regrown w4 dq osq
    have BBz := Lib.hid (below_next BB4.out lk)
    clear c0 c1 c2 t0 t1 t2 t6 t7 t8 lk
    generalize grow (redrawn w4 dq) osq = w5 at *
    go_wp2_with fail
    go_ret
    have e := Stepped.of H2.out BBz.out
    exact e
end
end Go.Proofs.Ytokmchkoojeadaa
