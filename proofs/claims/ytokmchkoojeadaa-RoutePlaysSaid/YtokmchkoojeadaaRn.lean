/- The document's New. -/
import Derived.Test.YtokmchkoojeadaaRb
namespace Go.Proofs.Ytokmchkoojeadaa
open Go.RowKit Go.Sort
set_option linter.unusedVariables false
set_option linter.unusedSimpArgs false
set_option maxRecDepth 100000
set_option maxHeartbeats 8000000 in
theorem dnew_bad (s p c : Pe) (w : World) (hb : (isN s.n && isN p.n && isN c.n) = false) : Calls Try.prog 9 #[s.v, p.v, c.v] w fun e w' => e = .returned (.tuple #[.pointer none, .int .i64 1]) ∧ Below w.heap.size w w' := by
  obtain ⟨w1, hw1, q0, q1, q2, b1⟩ := peers3 w s p c
  have Q0 := Lib.hid q0; have Q1 := Lib.hid q1; have Q2 := Lib.hid q2; have B1 := Lib.hid b1; have HW1 := Lib.hid hw1
  have I0 := rnode_any s.n; have I1 := rnode_any p.n; have I2 := rnode_any c.n
  obtain ⟨n0, h0⟩ : ∃ b, isN s.n = b := ⟨_, rfl⟩
  obtain ⟨n1, h1⟩ : ∃ b, isN p.n = b := ⟨_, rfl⟩
  obtain ⟨n2, h2⟩ : ∃ b, isN c.n = b := ⟨_, rfl⟩
  rw [h0, h1, h2] at hb
  rw [h0] at I0; rw [h1] at I1; rw [h2] at I2
  replace I0 := Lib.hid I0; replace I1 := Lib.hid I1; replace I2 := Lib.hid I2
  clear h0 h1 h2 q0 q1 q2 b1 hw1
  cases n0 <;> cases n1 <;> cases n2 <;> first | (cases hb; done) | skip
  all_goals
    go_enter Try.func9, Try.ntmps9
    go_upto_region 1 with (fail)
    rw [← HW1.out]
    obtain ⟨x, hx⟩ : ∃ x, x = w.heap.size := ⟨_, rfl⟩
    rw [← hx] at Q0 Q1 Q2 ⊢
    have HX := Lib.hid hx
    clear hx HW1
    have a0 := cell_of_row _ _ 0 _ _ (0, 0) Q0.out; have a1 := cell_of_row _ _ 0 _ _ (0, 0) Q1.out; have a2 := cell_of_row _ _ 0 _ _ (0, 0) Q2.out
    simp only [List.getElem?_toArray, List.getElem?_cons_zero] at a0 a1 a2
    go_wp2_with fail
    refine (I0.out _).mono ?_; rintro e w2 ⟨rfl, rfl⟩
    go_wp2_with fail
    refine (I1.out _).mono ?_; rintro e w2 ⟨rfl, rfl⟩
    go_wp2_with fail
    refine (I2.out _).mono ?_; rintro e w2 ⟨rfl, rfl⟩
    go_wp2_with fail
    go_ret2
    exact ⟨rfl, B1.out⟩
set_option maxHeartbeats 8000000 in
theorem dnew_f1 (s p c : Pe) (w : World) (h0 : isN s.n = true) (h1 : isN p.n = true) (h2 : isN c.n = true) (hp : (p.n == s.n) = true) (hc : (c.n == s.n) = false) : Calls Try.prog 9 #[s.v, p.v, c.v] w fun e w' => e = .returned (.tuple #[.pointer none, .int .i64 133]) ∧ Below w.heap.size w w' := by
  obtain ⟨w1, hw1, q0, q1, q2, b1⟩ := peers3 w s p c
  have Q0 := Lib.hid q0; have Q1 := Lib.hid q1; have Q2 := Lib.hid q2; have B1 := Lib.hid b1; have HW1 := Lib.hid hw1
  have I0 := rnode_any s.n; have I1 := rnode_any p.n; have I2 := rnode_any c.n
  rw [h0] at I0; rw [h1] at I1; rw [h2] at I2
  replace I0 := Lib.hid I0; replace I1 := Lib.hid I1; replace I2 := Lib.hid I2
  clear h0 h1 h2 q0 q1 q2 b1 hw1
  have hpn : (p.n != s.n) = !true := by rw [bne, hp]
  have hcn : (c.n != s.n) = !false := by rw [bne, hc]
  simp only [Bool.not_true, Bool.not_false] at hpn hcn
  go_enter Try.func9, Try.ntmps9
  go_upto_region 1 with (fail)
  rw [← HW1.out]
  obtain ⟨x, hx⟩ : ∃ x, x = w.heap.size := ⟨_, rfl⟩
  rw [← hx] at Q0 Q1 Q2 ⊢
  have HX := Lib.hid hx
  clear hx HW1
  have a0 := cell_of_row _ _ 0 _ _ (0, 0) Q0.out; have a1 := cell_of_row _ _ 0 _ _ (0, 0) Q1.out; have a2 := cell_of_row _ _ 0 _ _ (0, 0) Q2.out
  simp only [List.getElem?_toArray, List.getElem?_cons_zero] at a0 a1 a2
  go_wp2_with fail
  refine (I0.out _).mono ?_; rintro e w2 ⟨rfl, rfl⟩
  go_wp2_with fail
  refine (I1.out _).mono ?_; rintro e w2 ⟨rfl, rfl⟩
  go_wp2_with fail
  refine (I2.out _).mono ?_; rintro e w2 ⟨rfl, rfl⟩
  go_wp2_with fail
  go_ret2
  exact ⟨rfl, B1.out⟩
set_option maxHeartbeats 8000000 in
theorem dnew_f2 (s p c : Pe) (w : World) (h0 : isN s.n = true) (h1 : isN p.n = true) (h2 : isN c.n = true) (hp : (p.n == s.n) = false) (hc : (c.n == s.n) = true) : Calls Try.prog 9 #[s.v, p.v, c.v] w fun e w' => e = .returned (.tuple #[.pointer none, .int .i64 133]) ∧ Below w.heap.size w w' := by
  obtain ⟨w1, hw1, q0, q1, q2, b1⟩ := peers3 w s p c
  have Q0 := Lib.hid q0; have Q1 := Lib.hid q1; have Q2 := Lib.hid q2; have B1 := Lib.hid b1; have HW1 := Lib.hid hw1
  have I0 := rnode_any s.n; have I1 := rnode_any p.n; have I2 := rnode_any c.n
  rw [h0] at I0; rw [h1] at I1; rw [h2] at I2
  replace I0 := Lib.hid I0; replace I1 := Lib.hid I1; replace I2 := Lib.hid I2
  clear h0 h1 h2 q0 q1 q2 b1 hw1
  have hpn : (p.n != s.n) = !false := by rw [bne, hp]
  have hcn : (c.n != s.n) = !true := by rw [bne, hc]
  simp only [Bool.not_true, Bool.not_false] at hpn hcn
  go_enter Try.func9, Try.ntmps9
  go_upto_region 1 with (fail)
  rw [← HW1.out]
  obtain ⟨x, hx⟩ : ∃ x, x = w.heap.size := ⟨_, rfl⟩
  rw [← hx] at Q0 Q1 Q2 ⊢
  have HX := Lib.hid hx
  clear hx HW1
  have a0 := cell_of_row _ _ 0 _ _ (0, 0) Q0.out; have a1 := cell_of_row _ _ 0 _ _ (0, 0) Q1.out; have a2 := cell_of_row _ _ 0 _ _ (0, 0) Q2.out
  simp only [List.getElem?_toArray, List.getElem?_cons_zero] at a0 a1 a2
  go_wp2_with fail
  refine (I0.out _).mono ?_; rintro e w2 ⟨rfl, rfl⟩
  go_wp2_with fail
  refine (I1.out _).mono ?_; rintro e w2 ⟨rfl, rfl⟩
  go_wp2_with fail
  refine (I2.out _).mono ?_; rintro e w2 ⟨rfl, rfl⟩
  go_wp2_with fail
  go_ret2
  exact ⟨rfl, B1.out⟩
set_option maxHeartbeats 8000000 in
theorem dnew_own (s p c : Pe) (w : World) (h0 : isN s.n = true) (h1 : isN p.n = true) (h2 : isN c.n = true) (hp : (p.n == s.n) = true) (hc : (c.n == s.n) = true) : Calls Try.prog 9 #[s.v, p.v, c.v] w fun e w' => ∃ b ao cap, e = .returned (.tuple #[.pointer (some ⟨b, 0, none⟩), .int .i64 0]) ∧ DbW w' w.heap.size b ao cap s p c (fing0 s (nbC s c)) ∧ Below w.heap.size w w' := by
  obtain ⟨w1, hw1, q0, q1, q2, b1⟩ := peers3 w s p c
  have Q0 := Lib.hid q0; have Q1 := Lib.hid q1; have Q2 := Lib.hid q2; have B1 := Lib.hid b1; have HW1 := Lib.hid hw1
  have I0 := rnode_any s.n; have I1 := rnode_any p.n; have I2 := rnode_any c.n
  rw [h0] at I0; rw [h1] at I1; rw [h2] at I2
  replace I0 := Lib.hid I0; replace I1 := Lib.hid I1; replace I2 := Lib.hid I2
  clear h0 h1 h2 q0 q1 q2 b1 hw1
  have hpn : (p.n != s.n) = !true := by rw [bne, hp]
  have hcn : (c.n != s.n) = !true := by rw [bne, hc]
  simp only [Bool.not_true, Bool.not_false] at hpn hcn
  have HFI := Lib.hid (show fing0 s (nbC s c) = [] from by
    rw [(nb_own (p := p) hc).2]; unfold fing0 aln; simp)
  go_enter Try.func9, Try.ntmps9
  go_upto_region 1 with (fail)
  rw [← HW1.out]
  obtain ⟨x, hx⟩ : ∃ x, x = w.heap.size := ⟨_, rfl⟩
  rw [← hx] at Q0 Q1 Q2 ⊢
  have HX := Lib.hid hx
  clear hx HW1
  have a0 := cell_of_row _ _ 0 _ _ (0, 0) Q0.out; have a1 := cell_of_row _ _ 0 _ _ (0, 0) Q1.out; have a2 := cell_of_row _ _ 0 _ _ (0, 0) Q2.out
  simp only [List.getElem?_toArray, List.getElem?_cons_zero] at a0 a1 a2
  go_wp2_with fail
  refine (I0.out _).mono ?_; rintro e w2 ⟨rfl, rfl⟩
  go_wp2_with fail
  refine (I1.out _).mono ?_; rintro e w2 ⟨rfl, rfl⟩
  go_wp2_with fail
  refine (I2.out _).mono ?_; rintro e w2 ⟨rfl, rfl⟩
  have a3 := cell_of_row _ _ 1 _ _ (0, 0) Q0.out; have a4 := cell_of_row _ _ 2 _ _ (0, 0) Q0.out; have a5 := cell_of_row _ _ 1 _ _ (0, 0) Q1.out; have a6 := cell_of_row _ _ 2 _ _ (0, 0) Q1.out; have a7 := cell_of_row _ _ 1 _ _ (0, 0) Q2.out; have a8 := cell_of_row _ _ 2 _ _ (0, 0) Q2.out
  simp only [List.getElem?_toArray, List.getElem?_cons_zero, List.getElem?_cons_succ] at a3 a4 a5 a6 a7 a8
  have B2 := Lib.hid (below_alloc (Below.refl w1.heap.size w1) (.cells #[.int .i64 s.n, .int .u64 s.h, .int .u64 s.l, .int .i64 p.n, .int .u64 p.h, .int .u64 p.l, .int .i64 c.n, .int .u64 c.h, .int .u64 c.l, .slice none 0 0] 72))
  have R2 := Lib.hid (heap_alloc_new w1 (.cells #[.int .i64 s.n, .int .u64 s.h, .int .u64 s.l, .int .i64 p.n, .int .u64 p.h, .int .u64 p.l, .int .i64 c.n, .int .u64 c.h, .int .u64 c.l, .slice none 0 0] 72))
  go_upto_region 9 with (fail)
  clear a0 a1 a2 a3 a4 a5 a6 a7 a8
  generalize w1.alloc (.cells #[.int .i64 s.n, .int .u64 s.h, .int .u64 s.l, .int .i64 p.n, .int .u64 p.h, .int .u64 p.l, .int .i64 c.n, .int .u64 c.h, .int .u64 c.l, .slice none 0 0] 72) = w2 at *
  obtain ⟨bt, hbt⟩ : ∃ x, x = w1.heap.size := ⟨_, rfl⟩
  rw [← hbt] at R2 ⊢
  have HBX : Hid (w.heap.size ≤ bt) := Lib.hid (by have := B1.out.size; omega)
  have BW := Lib.hid (B1.out.trans (B2.out.mono B1.out.size))
  clear hbt
  have Q0 := Lib.hid (row_keep Q0.out (Keep.of_below B2.out []) (by simp)); have Q2 := Lib.hid (row_keep Q2.out (Keep.of_below B2.out []) (by simp))
  have d3 := cell_of_row _ _ 0 _ _ (0, 0) Q0.out; have d0 := cell_of_row _ _ 0 _ _ (0, 0) Q2.out; have d1 := cell_of_row _ _ 1 _ _ (0, 0) Q2.out; have d2 := cell_of_row _ _ 2 _ _ (0, 0) Q2.out
  simp only [List.getElem?_toArray, List.getElem?_cons_zero, List.getElem?_cons_succ] at d0 d1 d2 d3
  go_wp2_with fail
  go_ret2
  rw [HFI.out]
  exact ⟨bt, none, 0, rfl, ⟨R2.out, HBX.out, World.ownsRow_nil _ _ _ _, by simp [blk]⟩, BW.out⟩
set_option maxHeartbeats 8000000 in
theorem dnew_two (s p c : Pe) (w : World) (h0 : isN s.n = true) (h1 : isN p.n = true) (h2 : isN c.n = true) (hp : (p.n == s.n) = false) (hc : (c.n == s.n) = false) : Calls Try.prog 9 #[s.v, p.v, c.v] w fun e w' => ∃ b ao cap, e = .returned (.tuple #[.pointer (some ⟨b, 0, none⟩), .int .i64 0]) ∧ DbW w' w.heap.size b ao cap s p c (fing0 s (nbC s c)) ∧ Below w.heap.size w w' := by
  obtain ⟨w1, hw1, q0, q1, q2, b1⟩ := peers3 w s p c
  have Q0 := Lib.hid q0; have Q1 := Lib.hid q1; have Q2 := Lib.hid q2; have B1 := Lib.hid b1; have HW1 := Lib.hid hw1
  have I0 := rnode_any s.n; have I1 := rnode_any p.n; have I2 := rnode_any c.n
  rw [h0] at I0; rw [h1] at I1; rw [h2] at I2
  replace I0 := Lib.hid I0; replace I1 := Lib.hid I1; replace I2 := Lib.hid I2
  clear h0 h1 h2 q0 q1 q2 b1 hw1
  have hpn : (p.n != s.n) = !false := by rw [bne, hp]
  have hcn : (c.n != s.n) = !false := by rw [bne, hc]
  simp only [Bool.not_true, Bool.not_false] at hpn hcn
  have HFI := Lib.hid (show fing0 s (nbC s c) = [c] from by
    rw [(nb_two (p := p) hc).2]; unfold fing0 aln; rw [hc]; rfl)
  go_enter Try.func9, Try.ntmps9
  go_upto_region 1 with (fail)
  rw [← HW1.out]
  obtain ⟨x, hx⟩ : ∃ x, x = w.heap.size := ⟨_, rfl⟩
  rw [← hx] at Q0 Q1 Q2 ⊢
  have HX := Lib.hid hx
  clear hx HW1
  have a0 := cell_of_row _ _ 0 _ _ (0, 0) Q0.out; have a1 := cell_of_row _ _ 0 _ _ (0, 0) Q1.out; have a2 := cell_of_row _ _ 0 _ _ (0, 0) Q2.out
  simp only [List.getElem?_toArray, List.getElem?_cons_zero] at a0 a1 a2
  go_wp2_with fail
  refine (I0.out _).mono ?_; rintro e w2 ⟨rfl, rfl⟩
  go_wp2_with fail
  refine (I1.out _).mono ?_; rintro e w2 ⟨rfl, rfl⟩
  go_wp2_with fail
  refine (I2.out _).mono ?_; rintro e w2 ⟨rfl, rfl⟩
  have a3 := cell_of_row _ _ 1 _ _ (0, 0) Q0.out; have a4 := cell_of_row _ _ 2 _ _ (0, 0) Q0.out; have a5 := cell_of_row _ _ 1 _ _ (0, 0) Q1.out; have a6 := cell_of_row _ _ 2 _ _ (0, 0) Q1.out; have a7 := cell_of_row _ _ 1 _ _ (0, 0) Q2.out; have a8 := cell_of_row _ _ 2 _ _ (0, 0) Q2.out
  simp only [List.getElem?_toArray, List.getElem?_cons_zero, List.getElem?_cons_succ] at a3 a4 a5 a6 a7 a8
  have B2 := Lib.hid (below_alloc (Below.refl w1.heap.size w1) (.cells #[.int .i64 s.n, .int .u64 s.h, .int .u64 s.l, .int .i64 p.n, .int .u64 p.h, .int .u64 p.l, .int .i64 c.n, .int .u64 c.h, .int .u64 c.l, .slice none 0 0] 72))
  have R2 := Lib.hid (heap_alloc_new w1 (.cells #[.int .i64 s.n, .int .u64 s.h, .int .u64 s.l, .int .i64 p.n, .int .u64 p.h, .int .u64 p.l, .int .i64 c.n, .int .u64 c.h, .int .u64 c.l, .slice none 0 0] 72))
  go_upto_region 9 with (fail)
  clear a0 a1 a2 a3 a4 a5 a6 a7 a8
  generalize w1.alloc (.cells #[.int .i64 s.n, .int .u64 s.h, .int .u64 s.l, .int .i64 p.n, .int .u64 p.h, .int .u64 p.l, .int .i64 c.n, .int .u64 c.h, .int .u64 c.l, .slice none 0 0] 72) = w2 at *
  obtain ⟨bt, hbt⟩ : ∃ x, x = w1.heap.size := ⟨_, rfl⟩
  rw [← hbt] at R2 ⊢
  have HBX : Hid (w.heap.size ≤ bt) := Lib.hid (by have := B1.out.size; omega)
  have BW := Lib.hid (B1.out.trans (B2.out.mono B1.out.size))
  clear hbt
  have Q0 := Lib.hid (row_keep Q0.out (Keep.of_below B2.out []) (by simp)); have Q2 := Lib.hid (row_keep Q2.out (Keep.of_below B2.out []) (by simp))
  have d3 := cell_of_row _ _ 0 _ _ (0, 0) Q0.out; have d0 := cell_of_row _ _ 0 _ _ (0, 0) Q2.out; have d1 := cell_of_row _ _ 1 _ _ (0, 0) Q2.out; have d2 := cell_of_row _ _ 2 _ _ (0, 0) Q2.out
  simp only [List.getElem?_toArray, List.getElem?_cons_zero, List.getElem?_cons_succ] at d0 d1 d2 d3
  have t9 := cell_of_row w2 bt 9 _ _ (0, 0) R2.out; have f9 := frozen_of_row w2 bt 9 _ _ R2.out
  simp only [List.getElem?_toArray, List.getElem?_cons_zero, List.getElem?_cons_succ] at t9
  have hlt := (Array.getElem?_eq_some_iff.1 R2.out).1
  go_upto_region 11 with (fail)
  have k4 := Keep.setCell w2 ⟨bt, 9, none⟩ (.slice (some ⟨w2.heap.size, 0, none⟩) 1 1)
  have r4 : DbR (w2.setCell ⟨bt, 9, none⟩ (.slice (some ⟨w2.heap.size, 0, none⟩) 1 1)) bt s p c (.slice (some ⟨w2.heap.size, 0, none⟩) 1 1) := heap_setCell_same w2 bt 9 _ _ _ R2.out
  have b5 := below_alloc (Below.refl _ (w2.setCell ⟨bt, 9, none⟩ (.slice (some ⟨w2.heap.size, 0, none⟩) 1 1))) (.cells #[.int .i64 c.n, .int .u64 c.h, .int .u64 c.l] 26)
  have r5 := r4.below b5
  have n5 := heap_alloc_new (w2.setCell ⟨bt, 9, none⟩ (.slice (some ⟨w2.heap.size, 0, none⟩) 1 1)) (.cells #[.int .i64 c.n, .int .u64 c.h, .int .u64 c.l] 26)
  have hsz : (w2.setCell ⟨bt, 9, none⟩ (.slice (some ⟨w2.heap.size, 0, none⟩) 1 1)).heap.size = w2.heap.size := by simp [World.setCell]
  rw [hsz] at n5
  have K5 := (Keep.of_below BW.out [bt]).trans (k4.trans (Keep.of_below b5 [bt]))
  obtain ⟨y, hy⟩ : ∃ y, y = w2.heap.size := ⟨_, rfl⟩
  have hby : bt < y := by rw [hy]; exact hlt
  have hwy : w.heap.size ≤ y := by have := HBX.out; omega
  rw [← hy] at n5 r5 K5 ⊢
  clear d0 d1 d2 d3 t9 f9 hlt k4 r4 b5 hsz hy
  generalize (w2.setCell ⟨bt, 9, none⟩ (.slice (some ⟨y, 0, none⟩) 1 1)).alloc (.cells #[.int .i64 c.n, .int .u64 c.h, .int .u64 c.l] 26) = w4 at *
  go_wp2_with fail
  go_ret2
  rw [HFI.out]
  exact ⟨bt, some ⟨y, 0, none⟩, 1, rfl, ⟨r5, HBX.out, ⟨rfl, .inr ⟨y, 1, #[.int .i64 c.n, .int .u64 c.h, .int .u64 c.l], rfl, hwy, n5, Nat.le_refl _, by decide, rfl, rfl⟩⟩, by simp [blk]; omega⟩, K5.below (Nat.le_refl _) (fun g hg => by simp only [List.mem_singleton] at hg; have := HBX.out; omega)⟩
theorem dnew_yes (s p c : Pe) (w : World) (h0 : isN s.n = true) (h1 : isN p.n = true) (h2 : isN c.n = true) (hpc : (p.n == s.n) = (c.n == s.n)) : Calls Try.prog 9 #[s.v, p.v, c.v] w fun e w' => ∃ b ao cap, e = .returned (.tuple #[.pointer (some ⟨b, 0, none⟩), .int .i64 0]) ∧ DbW w' w.heap.size b ao cap s p c (fing0 s (nbC s c)) ∧ Below w.heap.size w w' := by
  cases hc : (c.n == s.n) with
  | false => exact dnew_two s p c w h0 h1 h2 (by rw [hpc, hc]) hc
  | true => exact dnew_own s p c w h0 h1 h2 (by rw [hpc, hc]) hc
end Go.Proofs.Ytokmchkoojeadaa
