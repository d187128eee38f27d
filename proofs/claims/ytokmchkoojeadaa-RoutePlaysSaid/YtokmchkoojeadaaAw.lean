/- awake. -/
import Derived.Test.YtokmchkoojeadaaLn
import Derived.Test.YtokmchkoojeadaaSt
namespace Go.Proofs.Ytokmchkoojeadaa
open Go.RowKit Go.Sort
set_option linter.unusedVariables false
set_option linter.unusedSimpArgs false
set_option maxRecDepth 100000
set_option maxHeartbeats 800000 in
theorem at_any (n : Nat) (hn : n < 1000) : Ret 21 #[.int .i64 (n : Int)] (.returned (peer (n : Int) 0 (10 * (n : Int)))) := by
  intro w
  have h1 : IntKind.i64.wrap (10 * (n : Int)) = 10 * (n : Int) := by rw [IntWalk.i64_in _ (by omega)]
  have h2 : IntKind.u64.wrap (10 * (n : Int)) = 10 * (n : Int) := by rw [IntWalk.u64_in _ (by omega)]
  go_enter Try.func21, Try.ntmps21
  go_wp2_with fail
  refine bodyPost_ret (v := peer (n : Int) 0 (10 * (n : Int))) (results_cell1 Try.results21 rfl ?_) rfl ⟨rfl, ?_⟩
  · go_simp
  · exact below_alloc (Below.refl _ _) _
abbrev q1 : Pe := ⟨1, 0, 10⟩
abbrev q2 : Pe := ⟨2, 0, 20⟩
abbrev q3 : Pe := ⟨3, 0, 30⟩
abbrev q4 : Pe := ⟨4, 0, 40⟩
theorem step_one : stepR q1 q4 q2 [q2] 0 35 = (q2, false, 0) := by decide
theorem step_two : stepR q1 q4 q2 [q2, q3] 0 35 = (q3, false, 0) := by decide
theorem learnt_one : learnt q1 [q2] 1 [q3] = [q2, q3] := by decide
theorem own_one : own q1 q4 q2 0 35 = false := by decide
set_option maxHeartbeats 8000000 in
theorem awake_any : Ret 7 #[] (.returned (.bool true)) := by
  intro w
  have A1 := Lib.hid (at_any 1 (by decide)); have A2 := Lib.hid (at_any 2 (by decide)); have A3 := Lib.hid (at_any 3 (by decide)); have A4 := Lib.hid (at_any 4 (by decide))
  have NW := Lib.hid (fun w => new_yes q1 q4 q2 w (by decide) (by decide) (by decide) (by decide) (by decide))
  go_enter Try.func7, Try.ntmps7
  go_wp2_with fail
  refine (A1.out _).mono ?_; rintro e w1 ⟨rfl, b1⟩
  go_wp2_with fail
  refine (A4.out _).mono ?_; rintro e w2 ⟨rfl, b2⟩
  go_wp2_with fail
  refine (A2.out _).mono ?_; rintro e w3 ⟨rfl, b3⟩
  have BB := Lib.hid (below_next (below_next b1 b2) b3)
  have HBX := Lib.hid BB.out.size
  clear b1 b2 b3
  go_wp2_with fail
  refine (NW.out w3).mono ?_; rintro e w4 ⟨b, ao, cap, rfl, h4, b4, _⟩
  have BB := Lib.hid (below_next BB.out b4)
  rw [show fing0 q1 q2 = [q2] by decide] at h4
  have H4 := Lib.hid h4
  have S4 : Hid (∀ w, TbW w w3.heap.size b ao cap q1 q4 q2 [q2] → Calls Try.prog 19 #[.pointer (some ⟨b, 0, none⟩), pos 0 35] w fun e w' => e = .returned (.tuple #[peer 2 0 20, .bool false, .int .i64 0]) ∧ Below w.heap.size w w') := Lib.hid (fun w h => by have := step_any 0 35 w h (by decide) (.inr (by decide)); rw [step_one] at this; exact this)
  clear b4 h4 NW
  go_wp2_with fail
  refine (S4.out _ H4.out).mono ?_; rintro e w5 ⟨rfl, b5⟩
  have H5 := Lib.hid (H4.out.below b5)
  have BB := Lib.hid (below_next BB.out b5)
  have b6 := below_alloc (Below.refl w5.heap.size w5) (.cells #[.int .i64 2, .int .u64 0, .int .u64 20] 26)
  have r6 := heap_alloc_new w5 (.cells #[.int .i64 2, .int .u64 0, .int .u64 20] 26)
  have H6 := Lib.hid (H5.out.below b6)
  have R6 := Lib.hid r6
  have BB := Lib.hid (below_next BB.out b6)
  clear b5 b6 r6 S4
  go_upto_region 5 with (fail)
  generalize w5.alloc (.cells #[.int .i64 2, .int .u64 0, .int .u64 20] 26) = w6 at *
  obtain ⟨x1, hx1⟩ : ∃ x, x = w5.heap.size := ⟨_, rfl⟩
  rw [← hx1] at R6 ⊢
  have HX1 := Lib.hid (show x1 ∉ tbB b ao from fun hm => by have := (H5.out.blocks x1 hm).2; omega)
  clear hx1
  go_wp2_with fail
  refine (A3.out _).mono ?_; rintro e w7 ⟨rfl, b7⟩
  have H7 := Lib.hid (H6.out.below b7)
  have R7 := Lib.hid (row_keep R6.out (Keep.of_below b7 []) (by simp))
  have BB := Lib.hid (below_next BB.out b7)
  have b8 := below_alloc (Below.refl w7.heap.size w7) (.cells #[.int .i64 3, .int .u64 0, .int .u64 30] 26)
  have r8 := heap_alloc_new w7 (.cells #[.int .i64 3, .int .u64 0, .int .u64 30] 26)
  have H8 := H7.out.below b8
  have R8 := Lib.hid (row_keep R7.out (Keep.of_below b8 []) (by simp))
  have BB := Lib.hid (below_next BB.out b8)
  have hrd : PsRd (w7.alloc (.cells #[.int .i64 3, .int .u64 0, .int .u64 30] 26)) (some ⟨w7.heap.size, 0, none⟩) [q3] := fun j p hp => by
    obtain rfl : j = 0 := by have := (List.getElem?_eq_some_iff.1 hp).1; simp at this; exact this
    cases hp
    refine ⟨w7.heap.size, 0, rfl, (Array.getElem?_eq_some_iff.1 r8).1, fun q hq => ?_⟩
    rw [cell_of_row _ _ _ _ _ (0, 0) r8]
    match q, hq with
    | 0, _ => rfl
    | 1, _ => rfl
    | 2, _ => rfl
  have LN := Lib.hid (learn_yes (xc := 1) 1 _ H8 (by decide) (by decide) (by decide) (by decide) hrd rfl (by decide) (fun _ q hq hm => by simp only [blk, List.mem_singleton] at hq; have := (H7.out.blocks q hm).2; omega))
  rw [learnt_one] at LN
  clear b7 b8 r8 H8 hrd R6
  go_wp2_with fail
  refine LN.out.mono ?_; rintro e w9 ⟨rfl, ao9, cap9, h9, k9, _⟩
  have H9 := Lib.hid h9
  have R9 := Lib.hid (row_keep R8.out k9 HX1.out)
  have BB9 := Lib.hid (BB.out.trans (k9.below BB.out.size (fun q hq => Nat.le_trans HBX.out (H7.out.blocks q hq).1)))
  have S9 : Hid (∀ w, TbW w w3.heap.size b ao9 cap9 q1 q4 q2 [q2, q3] → Calls Try.prog 19 #[.pointer (some ⟨b, 0, none⟩), pos 0 35] w fun e w' => e = .returned (.tuple #[peer 3 0 30, .bool false, .int .i64 0]) ∧ Below w.heap.size w w') := Lib.hid (fun w h => by have := step_any 0 35 w h (by decide) (.inr (by decide)); rw [step_two] at this; exact this)
  clear h9 k9 LN R7 R8
  go_wp2_with fail
  refine (S9.out _ H9.out).mono ?_; rintro e w10 ⟨rfl, b10⟩
  have R10 := Lib.hid (row_keep R9.out (Keep.of_below b10 []) (by simp))
  have BB10 := Lib.hid (below_next BB9.out b10)
  have b11 := below_alloc (Below.refl w10.heap.size w10) (.cells #[.int .i64 3, .int .u64 0, .int .u64 30] 26)
  have r11 := heap_alloc_new w10 (.cells #[.int .i64 3, .int .u64 0, .int .u64 30] 26)
  have R11 := Lib.hid (row_keep R10.out (Keep.of_below b11 []) (by simp))
  have Q11 := Lib.hid r11
  have BB11 := Lib.hid (below_next BB10.out b11)
  clear b10 b11 r11 S9
  go_upto_region 7 with (fail)
  generalize w10.alloc (.cells #[.int .i64 3, .int .u64 0, .int .u64 30] 26) = w11 at *
  obtain ⟨x2, hx2⟩ : ∃ x, x = w10.heap.size := ⟨_, rfl⟩
  rw [← hx2] at Q11 ⊢
  clear hx2
  have a0 := cell_regrown (cell_of_row w11 x1 0 _ _ (0, 0) R11.out); have a1 := cell_regrown (cell_of_row w11 x1 1 _ _ (0, 0) R11.out); have a2 := cell_regrown (cell_of_row w11 x1 2 _ _ (0, 0) R11.out)
  have d0 := cell_regrown (cell_of_row w11 x2 0 _ _ (0, 0) Q11.out); have d1 := cell_regrown (cell_of_row w11 x2 1 _ _ (0, 0) Q11.out); have d2 := cell_regrown (cell_of_row w11 x2 2 _ _ (0, 0) Q11.out)
  simp only [List.getElem_toArray, List.getElem_cons_succ, List.getElem_cons_zero] at a0 a1 a2 d0 d1 d2
  have C2 := Lib.hid (fun d os => Calls.regrown_of (A2.out (grow (redrawn w11 d) os)))
  have C3 := Lib.hid (fun d os => Calls.regrown_of (A3.out (grow (redrawn w11 d) os)))
  have E2 := fun w => eql_peer 2 0 20 2 0 20 w
  have E3 := fun w => eql_peer 3 0 30 3 0 30 w
  simp only [beq_self_eq_true, Bool.and_self] at E2 E3
  refine wp_region_quiet_below (by kernel_rfl) (by kernel_rfl) ?_
  repeat (go_big_quiet_step (first | exact C2.out _ _ | exact C3.out _ _))
  refine wpQuiet_nil ?_
  intro _ hw'
  obtain ⟨⟨dq, osq⟩, hw''⟩ := hw'
  subst hw''
  have lk := below_regrown w11 dq osq
  clear a0 a1 a2 d0 d1 d2 E2 E3 C2 C3
  generalize grow (redrawn w11 dq) osq = w12 at *
  go_wp2_with fail
  go_ret
  exact ⟨rfl, below_next BB11.out lk⟩
end Go.Proofs.Ytokmchkoojeadaa
