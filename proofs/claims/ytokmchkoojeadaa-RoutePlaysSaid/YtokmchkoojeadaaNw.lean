/- Tables: a whole table; New. -/
import Derived.Test.YtokmchkoojeadaaTb
namespace Go.Proofs.Ytokmchkoojeadaa
open Go.RowKit Go.Sort
set_option linter.unusedVariables false
set_option linter.unusedSimpArgs false
set_option maxRecDepth 100000
/-- a table with its fingers, in blocks from B on -/
structure TbW (w : World) (B b : Nat) (ao : Option Addr) (cap : Nat) (s p c : Pe) (F : List Pe) : Prop where
  row : TbR w b s p c (.slice ao F.length cap)
  base : B ≤ b
  own : w.ownsRow B 26 3 (.slice ao F.length cap) F.length (fl Pe.list F)
  ne : b ∉ blk ao
abbrev tbB (b : Nat) (ao : Option Addr) : List Nat := b :: blk ao
section
variable {w w' : World} {B b cap : Nat} {ao : Option Addr} {s p c : Pe} {F : List Pe}
theorem TbW.blocks (h : TbW w B b ao cap s p c F) : ∀ g ∈ tbB b ao, B ≤ g ∧ g < w.heap.size := fun g hg => by
  rcases List.mem_cons.1 hg with rfl | hg
  · exact ⟨h.base, h.row.lt⟩
  · exact owns_blk h.own g hg
theorem TbW.keep {U : List Nat} (h : TbW w B b ao cap s p c F) (k : Keep U w w') (hU : ∀ g ∈ tbB b ao, g ∉ U) : TbW w' B b ao cap s p c F :=
  ⟨h.row.keep k (hU b (List.mem_cons_self ..)), h.base, owns_keep h.own k (blk_own _ _ _ fun g hg => hU g (List.mem_cons_of_mem _ hg)), h.ne⟩
theorem TbW.below (h : TbW w B b ao cap s p c F) (k : Below w.heap.size w w') : TbW w' B b ao cap s p c F := h.keep (Keep.of_below k []) (by simp)
end
/-- the fingers at the beginning -/
def fing0 (s c : Pe) : List Pe := if aln s c then [] else [c]
/-- what New takes for the pred and for the succ -/
def nbP (s p c : Pe) : Pe := if c.n == s.n then s else p
def nbC (s c : Pe) : Pe := if c.n == s.n then s else c
/-- what New says -/
def newE (s p c : Pe) : Int := if (isN s.n && isN p.n && isN c.n) = false then 1 else if (p.n == s.n) != (c.n == s.n) then 133 else 0
theorem peers3 (w : World) (s p c : Pe) : ∃ w', w' = ((w.alloc (.cells #[.int .i64 s.n, .int .u64 s.h, .int .u64 s.l] 26)).alloc (.cells #[.int .i64 p.n, .int .u64 p.h, .int .u64 p.l] 26)).alloc (.cells #[.int .i64 c.n, .int .u64 c.h, .int .u64 c.l] 26) ∧
    w'.heap[w.heap.size]? = some (.cells #[.int .i64 s.n, .int .u64 s.h, .int .u64 s.l] 26 (0, 0)) ∧ w'.heap[w.heap.size + 1]? = some (.cells #[.int .i64 p.n, .int .u64 p.h, .int .u64 p.l] 26 (0, 0)) ∧ w'.heap[w.heap.size + 2]? = some (.cells #[.int .i64 c.n, .int .u64 c.h, .int .u64 c.l] 26 (0, 0)) ∧ Below w.heap.size w w' := by
  refine ⟨_, rfl, ?_, ?_, ?_, below_alloc (below_alloc (below_alloc (Below.refl _ _) _) _) _⟩
  · exact ((below_alloc (Below.refl _ _) _).block _ (by simp; omega)).trans (((below_alloc (Below.refl _ _) _).block _ (by simp)).trans (heap_alloc_new w _))
  · have h := heap_alloc_new (w.alloc (.cells #[.int .i64 s.n, .int .u64 s.h, .int .u64 s.l] 26)) (.cells #[.int .i64 p.n, .int .u64 p.h, .int .u64 p.l] 26)
    rw [World.size_alloc] at h
    exact ((below_alloc (Below.refl _ _) _).block _ (by simp)).trans h
  · have h := heap_alloc_new ((w.alloc (.cells #[.int .i64 s.n, .int .u64 s.h, .int .u64 s.l] 26)).alloc (.cells #[.int .i64 p.n, .int .u64 p.h, .int .u64 p.l] 26)) (.cells #[.int .i64 c.n, .int .u64 c.h, .int .u64 c.l] 26)
    rw [World.size_alloc, World.size_alloc] at h
    exact h
set_option maxHeartbeats 4000000 in
theorem new_a0 (s p c : Pe) (w : World) (h0 : isN s.n = false) : Calls Try.prog 8 #[s.v, p.v, c.v] w fun e w' => e = .returned (.tuple #[.pointer none, .int .i64 1]) ∧ Below w.heap.size w w' := by
  obtain ⟨w1, hw1, q0, q1, q2, b1⟩ := peers3 w s p c
  have Q0 := Lib.hid q0; have Q1 := Lib.hid q1; have Q2 := Lib.hid q2; have B1 := Lib.hid b1; have HW1 := Lib.hid hw1
  have I0 := isnode_any s.n
  rw [h0] at I0
  replace I0 := Lib.hid I0
  clear q0 q1 q2 b1 hw1 h0
  go_enter Try.func8, Try.ntmps8
  go_upto_region 1 with (fail)
  rw [← HW1.out]
  obtain ⟨x, hx⟩ : ∃ x, x = w.heap.size := ⟨_, rfl⟩
  rw [← hx] at Q0 Q1 Q2 ⊢
  have HX := Lib.hid hx
  clear hx HW1
  have a0 := cell_of_row _ _ 0 _ _ (0, 0) Q0.out; have a1 := cell_of_row _ _ 0 _ _ (0, 0) Q1.out; have a2 := cell_of_row _ _ 0 _ _ (0, 0) Q2.out
  simp only [List.getElem?_toArray, List.getElem?_cons_zero] at a0 a1 a2
  go_wp2_with fail
  refine (I0.out _).mono ?_; rintro e w2 ⟨rfl, rfl⟩
  go_wp2_with fail
  go_ret2
  exact ⟨rfl, B1.out⟩
set_option maxHeartbeats 4000000 in
theorem new_a1 (s p c : Pe) (w : World) (h0 : isN s.n = true) (h1 : isN p.n = false) : Calls Try.prog 8 #[s.v, p.v, c.v] w fun e w' => e = .returned (.tuple #[.pointer none, .int .i64 1]) ∧ Below w.heap.size w w' := by
  obtain ⟨w1, hw1, q0, q1, q2, b1⟩ := peers3 w s p c
  have Q0 := Lib.hid q0; have Q1 := Lib.hid q1; have Q2 := Lib.hid q2; have B1 := Lib.hid b1; have HW1 := Lib.hid hw1
  have I0 := isnode_any s.n
  rw [h0] at I0
  replace I0 := Lib.hid I0
  have I1 := isnode_any p.n
  rw [h1] at I1
  replace I1 := Lib.hid I1
  clear q0 q1 q2 b1 hw1 h0 h1
  go_enter Try.func8, Try.ntmps8
  go_upto_region 1 with (fail)
  rw [← HW1.out]
  obtain ⟨x, hx⟩ : ∃ x, x = w.heap.size := ⟨_, rfl⟩
  rw [← hx] at Q0 Q1 Q2 ⊢
  have HX := Lib.hid hx
  clear hx HW1
  have a0 := cell_of_row _ _ 0 _ _ (0, 0) Q0.out; have a1 := cell_of_row _ _ 0 _ _ (0, 0) Q1.out; have a2 := cell_of_row _ _ 0 _ _ (0, 0) Q2.out
  simp only [List.getElem?_toArray, List.getElem?_cons_zero] at a0 a1 a2
  go_wp2_with fail
  refine (I0.out _).mono ?_; rintro e w2 ⟨rfl, rfl⟩
  go_wp2_with fail
  refine (I1.out _).mono ?_; rintro e w2 ⟨rfl, rfl⟩
  go_wp2_with fail
  go_ret2
  exact ⟨rfl, B1.out⟩
set_option maxHeartbeats 4000000 in
theorem new_a2 (s p c : Pe) (w : World) (h0 : isN s.n = true) (h1 : isN p.n = true) (h2 : isN c.n = false) : Calls Try.prog 8 #[s.v, p.v, c.v] w fun e w' => e = .returned (.tuple #[.pointer none, .int .i64 1]) ∧ Below w.heap.size w w' := by
  obtain ⟨w1, hw1, q0, q1, q2, b1⟩ := peers3 w s p c
  have Q0 := Lib.hid q0; have Q1 := Lib.hid q1; have Q2 := Lib.hid q2; have B1 := Lib.hid b1; have HW1 := Lib.hid hw1
  have I0 := isnode_any s.n
  rw [h0] at I0
  replace I0 := Lib.hid I0
  have I1 := isnode_any p.n
  rw [h1] at I1
  replace I1 := Lib.hid I1
  have I2 := isnode_any c.n
  rw [h2] at I2
  replace I2 := Lib.hid I2
  clear q0 q1 q2 b1 hw1 h0 h1 h2
  go_enter Try.func8, Try.ntmps8
  go_upto_region 1 with (fail)
  rw [← HW1.out]
  obtain ⟨x, hx⟩ : ∃ x, x = w.heap.size := ⟨_, rfl⟩
  rw [← hx] at Q0 Q1 Q2 ⊢
  have HX := Lib.hid hx
  clear hx HW1
  have a0 := cell_of_row _ _ 0 _ _ (0, 0) Q0.out; have a1 := cell_of_row _ _ 0 _ _ (0, 0) Q1.out; have a2 := cell_of_row _ _ 0 _ _ (0, 0) Q2.out
  simp only [List.getElem?_toArray, List.getElem?_cons_zero] at a0 a1 a2
  go_wp2_with fail
  refine (I0.out _).mono ?_; rintro e w2 ⟨rfl, rfl⟩
  go_wp2_with fail
  refine (I1.out _).mono ?_; rintro e w2 ⟨rfl, rfl⟩
  go_wp2_with fail
  refine (I2.out _).mono ?_; rintro e w2 ⟨rfl, rfl⟩
  go_wp2_with fail
  go_ret2
  exact ⟨rfl, B1.out⟩
set_option maxHeartbeats 4000000 in
theorem new_f1 (s p c : Pe) (w : World) (h0 : isN s.n = true) (h1 : isN p.n = true) (h2 : isN c.n = true) (hp : (p.n == s.n) = true) (hc : (c.n == s.n) = false) : Calls Try.prog 8 #[s.v, p.v, c.v] w fun e w' => e = .returned (.tuple #[.pointer none, .int .i64 133]) ∧ Below w.heap.size w w' := by
  obtain ⟨w1, hw1, q0, q1, q2, b1⟩ := peers3 w s p c
  have Q0 := Lib.hid q0; have Q1 := Lib.hid q1; have Q2 := Lib.hid q2; have B1 := Lib.hid b1; have HW1 := Lib.hid hw1
  have I0 := isnode_any s.n
  rw [h0] at I0
  replace I0 := Lib.hid I0
  have I1 := isnode_any p.n
  rw [h1] at I1
  replace I1 := Lib.hid I1
  have I2 := isnode_any c.n
  rw [h2] at I2
  replace I2 := Lib.hid I2
  clear q0 q1 q2 b1 hw1 h0 h1 h2
  go_enter Try.func8, Try.ntmps8
  go_upto_region 1 with (fail)
  rw [← HW1.out]
  obtain ⟨x, hx⟩ : ∃ x, x = w.heap.size := ⟨_, rfl⟩
  rw [← hx] at Q0 Q1 Q2 ⊢
  have HX := Lib.hid hx
  clear hx HW1
  have a0 := cell_of_row _ _ 0 _ _ (0, 0) Q0.out; have a1 := cell_of_row _ _ 0 _ _ (0, 0) Q1.out; have a2 := cell_of_row _ _ 0 _ _ (0, 0) Q2.out
  simp only [List.getElem?_toArray, List.getElem?_cons_zero] at a0 a1 a2
  go_wp2_with fail
  refine (I0.out _).mono ?_; rintro e w2 ⟨rfl, rfl⟩
  go_wp2_with fail
  refine (I1.out _).mono ?_; rintro e w2 ⟨rfl, rfl⟩
  go_wp2_with fail
  refine (I2.out _).mono ?_; rintro e w2 ⟨rfl, rfl⟩
  go_wp2_with fail
  go_ret2
  exact ⟨rfl, B1.out⟩
set_option maxHeartbeats 4000000 in
theorem new_f2 (s p c : Pe) (w : World) (h0 : isN s.n = true) (h1 : isN p.n = true) (h2 : isN c.n = true) (hp : (p.n == s.n) = false) (hc : (c.n == s.n) = true) : Calls Try.prog 8 #[s.v, p.v, c.v] w fun e w' => e = .returned (.tuple #[.pointer none, .int .i64 133]) ∧ Below w.heap.size w w' := by
  obtain ⟨w1, hw1, q0, q1, q2, b1⟩ := peers3 w s p c
  have Q0 := Lib.hid q0; have Q1 := Lib.hid q1; have Q2 := Lib.hid q2; have B1 := Lib.hid b1; have HW1 := Lib.hid hw1
  have I0 := isnode_any s.n
  rw [h0] at I0
  replace I0 := Lib.hid I0
  have I1 := isnode_any p.n
  rw [h1] at I1
  replace I1 := Lib.hid I1
  have I2 := isnode_any c.n
  rw [h2] at I2
  replace I2 := Lib.hid I2
  clear q0 q1 q2 b1 hw1 h0 h1 h2
  go_enter Try.func8, Try.ntmps8
  go_upto_region 1 with (fail)
  rw [← HW1.out]
  obtain ⟨x, hx⟩ : ∃ x, x = w.heap.size := ⟨_, rfl⟩
  rw [← hx] at Q0 Q1 Q2 ⊢
  have HX := Lib.hid hx
  clear hx HW1
  have a0 := cell_of_row _ _ 0 _ _ (0, 0) Q0.out; have a1 := cell_of_row _ _ 0 _ _ (0, 0) Q1.out; have a2 := cell_of_row _ _ 0 _ _ (0, 0) Q2.out
  simp only [List.getElem?_toArray, List.getElem?_cons_zero] at a0 a1 a2
  go_wp2_with fail
  refine (I0.out _).mono ?_; rintro e w2 ⟨rfl, rfl⟩
  go_wp2_with fail
  refine (I1.out _).mono ?_; rintro e w2 ⟨rfl, rfl⟩
  go_wp2_with fail
  refine (I2.out _).mono ?_; rintro e w2 ⟨rfl, rfl⟩
  go_wp2_with fail
  go_ret2
  exact ⟨rfl, B1.out⟩
set_option maxHeartbeats 4000000 in
theorem new_two (s p c : Pe) (w : World) (h0 : isN s.n = true) (h1 : isN p.n = true) (h2 : isN c.n = true) (hp : (p.n == s.n) = false) (hc : (c.n == s.n) = false) : Calls Try.prog 8 #[s.v, p.v, c.v] w fun e w' => ∃ b ao cap, e = .returned (.tuple #[.pointer (some ⟨b, 0, none⟩), .int .i64 0]) ∧ TbW w' w.heap.size b ao cap s (nbP s p c) (nbC s c) (fing0 s (nbC s c)) ∧ Below w.heap.size w w' ∧ (ao = none ∧ fing0 s (nbC s c) = [] ∨ fing0 s (nbC s c) ≠ []) := by
  obtain ⟨w1, hw1, q0, q1, q2, b1⟩ := peers3 w s p c
  have Q0 := Lib.hid q0; have Q1 := Lib.hid q1; have Q2 := Lib.hid q2; have B1 := Lib.hid b1; have HW1 := Lib.hid hw1
  have I0 := isnode_any s.n
  rw [h0] at I0
  replace I0 := Lib.hid I0
  have I1 := isnode_any p.n
  rw [h1] at I1
  replace I1 := Lib.hid I1
  have I2 := isnode_any c.n
  rw [h2] at I2
  replace I2 := Lib.hid I2
  have HPQ := Lib.hid hp; have HCQ := Lib.hid hc
  rw [show nbP s p c = p by unfold nbP; rw [hc]; rfl, show nbC s c = c by unfold nbC; rw [hc]; rfl]
  clear q0 q1 q2 b1 hw1 h0 h1 h2
  go_enter Try.func8, Try.ntmps8
  go_upto_region 1 with (fail)
  rw [← HW1.out]
  obtain ⟨x, hx⟩ : ∃ x, x = w.heap.size := ⟨_, rfl⟩
  rw [← hx] at Q0 Q1 Q2 ⊢
  have HX := Lib.hid hx
  clear hx HW1
  have a0 := cell_of_row _ _ 0 _ _ (0, 0) Q0.out; have a1 := cell_of_row _ _ 0 _ _ (0, 0) Q1.out; have a2 := cell_of_row _ _ 0 _ _ (0, 0) Q2.out
  simp only [List.getElem?_toArray, List.getElem?_cons_zero] at a0 a1 a2
  go_wp2_with fail
  refine (I0.out _).mono ?_; rintro e w2 ⟨rfl, rfl⟩
  go_wp2_with fail
  refine (I1.out _).mono ?_; rintro e w2 ⟨rfl, rfl⟩
  go_wp2_with fail
  refine (I2.out _).mono ?_; rintro e w2 ⟨rfl, rfl⟩
  have a3 := cell_of_row _ _ 1 _ _ (0, 0) Q0.out; have a4 := cell_of_row _ _ 2 _ _ (0, 0) Q0.out; have a5 := cell_of_row _ _ 1 _ _ (0, 0) Q1.out; have a6 := cell_of_row _ _ 2 _ _ (0, 0) Q1.out; have a7 := cell_of_row _ _ 1 _ _ (0, 0) Q2.out; have a8 := cell_of_row _ _ 2 _ _ (0, 0) Q2.out
  simp only [List.getElem?_toArray, List.getElem?_cons_zero, List.getElem?_cons_succ] at a3 a4 a5 a6 a7 a8
  have B2 := Lib.hid (below_alloc (Below.refl w1.heap.size w1) (.cells #[.int .i64 s.n, .int .u64 s.h, .int .u64 s.l, .int .i64 p.n, .int .u64 p.h, .int .u64 p.l, .int .i64 c.n, .int .u64 c.h, .int .u64 c.l, .slice none 0 0] 94))
  have R2 := Lib.hid (heap_alloc_new w1 (.cells #[.int .i64 s.n, .int .u64 s.h, .int .u64 s.l, .int .i64 p.n, .int .u64 p.h, .int .u64 p.l, .int .i64 c.n, .int .u64 c.h, .int .u64 c.l, .slice none 0 0] 94))
  go_upto_region 8 with (fail)
  clear a0 a1 a2 a3 a4 a5 a6 a7 a8 hp hc
  generalize w1.alloc (.cells #[.int .i64 s.n, .int .u64 s.h, .int .u64 s.l, .int .i64 p.n, .int .u64 p.h, .int .u64 p.l, .int .i64 c.n, .int .u64 c.h, .int .u64 c.l, .slice none 0 0] 94) = w2 at *
  obtain ⟨bt, hbt⟩ : ∃ x, x = w1.heap.size := ⟨_, rfl⟩
  rw [← hbt] at R2 ⊢
  have HBT := Lib.hid hbt
  clear hbt
  have AL := Lib.hid (alone_any (s := s) (p := p) (c := c) w2 R2.out)
  have HAL := Lib.hid (show aln s c = false from by unfold aln; rw [HCQ.out]; rfl)
  rw [HAL.out] at AL
  go_wp2_with fail
  refine AL.out.mono ?_; rintro e w3 ⟨rfl, b3⟩
  have R3 := Lib.hid (TbR.below (s := s) (p := p) (c := c) R2.out b3)
  have BW := Lib.hid (B1.out.trans ((B2.out.trans (b3.mono B2.out.size)).mono B1.out.size))
  have X2 := Lib.hid (row_keep Q2.out (Keep.of_below (B2.out.trans (b3.mono B2.out.size)) []) (by simp))
  have HBX : Hid (w.heap.size ≤ bt) := Lib.hid (by have := HBT.out; have := B1.out.size; omega)
  clear b3 AL
  have d0 := cell_of_row _ _ 0 _ _ (0, 0) X2.out; have d1 := cell_of_row _ _ 1 _ _ (0, 0) X2.out; have d2 := cell_of_row _ _ 2 _ _ (0, 0) X2.out
  simp only [List.getElem?_toArray, List.getElem?_cons_zero, List.getElem?_cons_succ] at d0 d1 d2
  have t9 := R3.out.at_ 9; have f9 := R3.out.fr 9
  simp only [rowT, List.getElem?_toArray, List.getElem?_cons_zero, List.getElem?_cons_succ] at t9
  have hlt := R3.out.lt
  go_upto_region 10 with (fail)
  have k4 := Keep.setCell w3 ⟨bt, 9, none⟩ (.slice (some ⟨w3.heap.size, 0, none⟩) 1 1)
  have r4 : TbR (w3.setCell ⟨bt, 9, none⟩ (.slice (some ⟨w3.heap.size, 0, none⟩) 1 1)) bt s p c (.slice (some ⟨w3.heap.size, 0, none⟩) 1 1) := heap_setCell_same w3 bt 9 _ _ _ R3.out
  have b5 := below_alloc (Below.refl _ (w3.setCell ⟨bt, 9, none⟩ (.slice (some ⟨w3.heap.size, 0, none⟩) 1 1))) (.cells #[.int .i64 c.n, .int .u64 c.h, .int .u64 c.l] 26)
  have r5 := r4.below b5
  have n5 := heap_alloc_new (w3.setCell ⟨bt, 9, none⟩ (.slice (some ⟨w3.heap.size, 0, none⟩) 1 1)) (.cells #[.int .i64 c.n, .int .u64 c.h, .int .u64 c.l] 26)
  have hsz : (w3.setCell ⟨bt, 9, none⟩ (.slice (some ⟨w3.heap.size, 0, none⟩) 1 1)).heap.size = w3.heap.size := by simp [World.setCell]
  rw [hsz] at n5
  have K5 := (Keep.of_below BW.out [bt]).trans (k4.trans (Keep.of_below b5 [bt]))
  obtain ⟨y, hy⟩ : ∃ y, y = w3.heap.size := ⟨_, rfl⟩
  have hby : bt < y := by rw [hy]; exact hlt
  have hwy : w.heap.size ≤ y := by have := HBX.out; omega
  rw [← hy] at n5 r5 K5 ⊢
  clear d0 d1 d2 t9 f9 hlt k4 r4 b5 hsz hy R3 X2
  generalize (w3.setCell ⟨bt, 9, none⟩ (.slice (some ⟨y, 0, none⟩) 1 1)).alloc (.cells #[.int .i64 c.n, .int .u64 c.h, .int .u64 c.l] 26) = w4 at *
  go_wp2_with fail
  go_ret2
  refine ⟨bt, some ⟨y, 0, none⟩, 1, rfl, ?_, K5.below (Nat.le_refl _) (fun g hg => by simp only [List.mem_singleton] at hg; have := HBX.out; omega), .inr (by unfold fing0; rw [HAL.out]; simp)⟩
  rw [show fing0 s c = [c] by unfold fing0; rw [HAL.out]; rfl]
  exact ⟨r5, HBX.out, ⟨rfl, .inr ⟨y, 1, #[.int .i64 c.n, .int .u64 c.h, .int .u64 c.l], rfl, hwy, n5, Nat.le_refl _, by decide, rfl, rfl⟩⟩, by simp [blk]; omega⟩
set_option maxHeartbeats 4000000 in
theorem new_own (s p c : Pe) (w : World) (h0 : isN s.n = true) (h1 : isN p.n = true) (h2 : isN c.n = true) (hp : (p.n == s.n) = true) (hc : (c.n == s.n) = true) : Calls Try.prog 8 #[s.v, p.v, c.v] w fun e w' => ∃ b ao cap, e = .returned (.tuple #[.pointer (some ⟨b, 0, none⟩), .int .i64 0]) ∧ TbW w' w.heap.size b ao cap s (nbP s p c) (nbC s c) (fing0 s (nbC s c)) ∧ Below w.heap.size w w' ∧ (ao = none ∧ fing0 s (nbC s c) = [] ∨ fing0 s (nbC s c) ≠ []) := by
  obtain ⟨w1, hw1, q0, q1, q2, b1⟩ := peers3 w s p c
  have Q0 := Lib.hid q0; have Q1 := Lib.hid q1; have Q2 := Lib.hid q2; have B1 := Lib.hid b1; have HW1 := Lib.hid hw1
  have I0 := isnode_any s.n
  rw [h0] at I0
  replace I0 := Lib.hid I0
  have I1 := isnode_any p.n
  rw [h1] at I1
  replace I1 := Lib.hid I1
  have I2 := isnode_any c.n
  rw [h2] at I2
  replace I2 := Lib.hid I2
  have HPQ := Lib.hid hp; have HCQ := Lib.hid hc
  rw [show nbP s p c = s by unfold nbP; rw [hc]; rfl, show nbC s c = s by unfold nbC; rw [hc]; rfl]
  clear q0 q1 q2 b1 hw1 h0 h1 h2
  go_enter Try.func8, Try.ntmps8
  go_upto_region 1 with (fail)
  rw [← HW1.out]
  obtain ⟨x, hx⟩ : ∃ x, x = w.heap.size := ⟨_, rfl⟩
  rw [← hx] at Q0 Q1 Q2 ⊢
  have HX := Lib.hid hx
  clear hx HW1
  have a0 := cell_of_row _ _ 0 _ _ (0, 0) Q0.out; have a1 := cell_of_row _ _ 0 _ _ (0, 0) Q1.out; have a2 := cell_of_row _ _ 0 _ _ (0, 0) Q2.out
  simp only [List.getElem?_toArray, List.getElem?_cons_zero] at a0 a1 a2
  go_wp2_with fail
  refine (I0.out _).mono ?_; rintro e w2 ⟨rfl, rfl⟩
  go_wp2_with fail
  refine (I1.out _).mono ?_; rintro e w2 ⟨rfl, rfl⟩
  go_wp2_with fail
  refine (I2.out _).mono ?_; rintro e w2 ⟨rfl, rfl⟩
  have a3 := cell_of_row _ _ 1 _ _ (0, 0) Q0.out; have a4 := cell_of_row _ _ 2 _ _ (0, 0) Q0.out; have a5 := cell_of_row _ _ 1 _ _ (0, 0) Q1.out; have a6 := cell_of_row _ _ 2 _ _ (0, 0) Q1.out; have a7 := cell_of_row _ _ 1 _ _ (0, 0) Q2.out; have a8 := cell_of_row _ _ 2 _ _ (0, 0) Q2.out
  simp only [List.getElem?_toArray, List.getElem?_cons_zero, List.getElem?_cons_succ] at a3 a4 a5 a6 a7 a8
  have HSA := Lib.hid (show aln s s = true from by unfold aln; simp)
  go_upto_region 6 with (fail)
  have LD := Lib.hid (show ∀ w', Keep [x + 1, x + 2] w1 w' → w'.cell? ⟨x, 0, none⟩ = some (.int .i64 s.n) ∧ w'.cell? ⟨x, 1, none⟩ = some (.int .u64 s.h) ∧ w'.cell? ⟨x, 2, none⟩ = some (.int .u64 s.l) from fun w' k' => by
    have q := row_keep Q0.out k' (by simp)
    exact ⟨cell_of_row _ _ 0 _ _ (0, 0) q, cell_of_row _ _ 1 _ _ (0, 0) q, cell_of_row _ _ 2 _ _ (0, 0) q⟩)
  clear hp hc a0 a1 a2 a3 a4 a5 a6 a7 a8
  refine wp_region_held_drew (S := fun w' => Keep [x + 1, x + 2] w1 w') (by kernel_rfl) ((Keep.of_below (Below.refl _ _) _).trans (Keep.of_below (Below.refl _ _).drew _)) (fun s0 => ?_)
  have b0 : Below w1.heap.size w1 w1.drew := (Below.refl _ _).drew
  generalize w1.drew = wd at *
  refine wpAnyH_take (i := 0) (v := s.v) rfl (by kernel_rfl) (by kernel_rfl) (by kernel_rfl) (fun _ _ _ h => h) (Or.inl ⟨by rfl, fun w' hw' => by obtain ⟨z0, z1, z2⟩ := LD.out w' hw'; go_simp⟩) s0 ?_
  try simp only [Act.put, List.getElem_toArray, List.getElem_cons_succ, List.getElem_cons_zero, List.setIfInBounds_toArray, List.set_cons_zero, List.set_cons_succ, Nat.zero_add, List.nil_append]
  refine wpAnyH_take (i := 1) (v := s.v) rfl (by kernel_rfl) (by kernel_rfl) (by kernel_rfl) (fun _ _ _ h => h) (Or.inl ⟨by rfl, fun w' hw' => by obtain ⟨z0, z1, z2⟩ := LD.out w' hw'; go_simp⟩) s0 ?_
  try simp only [Act.put, List.getElem_toArray, List.getElem_cons_succ, List.getElem_cons_zero, List.setIfInBounds_toArray, List.set_cons_zero, List.set_cons_succ, Nat.zero_add, List.nil_append]
  refine wpAnyH_ready (rs := [2]) (by kernel_rfl) (by simp) ?_
  refine AllReadyH.cons rfl (fun K hK => ?_) AllReadyH.nil
  rw [if_pos (by rfl)]
  refine wp_store_row 26 (.tmp 4) (.tmp 41) rfl (x + 1) #[.int .i64 s.n, .int .u64 s.h, .int .u64 s.l] rfl rfl 26 #[.int .i64 p.n, .int .u64 p.h, .int .u64 p.l] (row_keep Q1.out (Keep.of_below b0 []) (by simp)) (by kernel_rfl) rfl (by kernel_rfl) ?_
  have s5 : Keep [x + 1, x + 2] w1 (wd.setRow (x + 1) #[.int .i64 s.n, .int .u64 s.h, .int .u64 s.l]) := s0.trans ((Keep.setRow wd (x + 1) _).mono (fun k hk => .inl (by simp at hk ⊢; omega)))
  have M1 := Lib.hid (setRow_heap _ _ _ #[.int .i64 s.n, .int .u64 s.h, .int .u64 s.l] _ _ (row_keep Q1.out (Keep.of_below b0 []) (by simp)))
  have M2 := Lib.hid (row_keep (row_keep Q2.out (Keep.of_below b0 []) (by simp)) (Keep.setRow wd (x + 1) #[.int .i64 s.n, .int .u64 s.h, .int .u64 s.l]) (by simp))
  have M0 := Lib.hid (row_keep Q0.out s5 (by simp))
  refine hK.out _ _ s5 (fun _ => ?_)
  clear hK K
  generalize wd.setRow (x + 1) #[.int .i64 s.n, .int .u64 s.h, .int .u64 s.l] = w2 at *
  try simp only [Act.put, List.getElem_toArray, List.getElem_cons_succ, List.getElem_cons_zero, List.setIfInBounds_toArray, List.set_cons_zero, List.set_cons_succ, Nat.zero_add, List.nil_append]
  refine wpAnyH_ready (rs := [3]) (by kernel_rfl) (by simp) ?_
  refine AllReadyH.cons rfl (fun K hK => ?_) AllReadyH.nil
  rw [if_pos (by rfl)]
  refine wp_store_row 26 (.tmp 5) (.tmp 42) rfl (x + 2) #[.int .i64 s.n, .int .u64 s.h, .int .u64 s.l] rfl rfl 26 #[.int .i64 c.n, .int .u64 c.h, .int .u64 c.l] M2.out (by kernel_rfl) rfl (by kernel_rfl) ?_
  have s6 : Keep [x + 1, x + 2] w1 (w2.setRow (x + 2) #[.int .i64 s.n, .int .u64 s.h, .int .u64 s.l]) := s5.trans ((Keep.setRow w2 (x + 2) _).mono (fun k hk => .inl (by simp at hk ⊢; omega)))
  have R2 := Lib.hid (setRow_heap _ _ _ #[.int .i64 s.n, .int .u64 s.h, .int .u64 s.l] _ _ M2.out)
  have R1 := Lib.hid (row_keep M1.out (Keep.setRow w2 (x + 2) #[.int .i64 s.n, .int .u64 s.h, .int .u64 s.l]) (by simp))
  have R0 := Lib.hid (row_keep M0.out (Keep.setRow w2 (x + 2) #[.int .i64 s.n, .int .u64 s.h, .int .u64 s.l]) (by simp))
  refine hK.out _ _ s6 (fun _ => ?_)
  clear hK K
  generalize w2.setRow (x + 2) #[.int .i64 s.n, .int .u64 s.h, .int .u64 s.l] = w3 at *
  try simp only [Act.put, List.getElem_toArray, List.getElem_cons_succ, List.getElem_cons_zero, List.setIfInBounds_toArray, List.set_cons_zero, List.set_cons_succ, Nat.zero_add, List.nil_append]
  refine wpAnyH_done (by kernel_rfl) ?_ _
  have BC := Lib.hid (B1.out.trans (s6.below B1.out.size (by have := HX.out; intro g hg; simp at hg; omega)))
  clear s0 s5 s6 b0 M0 M1 M2 LD Q0 Q1 Q2
  have a0 := cell_of_row _ _ 0 _ _ (0, 0) R0.out; have a1 := cell_of_row _ _ 1 _ _ (0, 0) R0.out; have a2 := cell_of_row _ _ 2 _ _ (0, 0) R0.out; have a3 := cell_of_row _ _ 0 _ _ (0, 0) R1.out; have a4 := cell_of_row _ _ 1 _ _ (0, 0) R1.out; have a5 := cell_of_row _ _ 2 _ _ (0, 0) R1.out; have a6 := cell_of_row _ _ 0 _ _ (0, 0) R2.out; have a7 := cell_of_row _ _ 1 _ _ (0, 0) R2.out; have a8 := cell_of_row _ _ 2 _ _ (0, 0) R2.out
  simp only [List.getElem?_toArray, List.getElem?_cons_zero, List.getElem?_cons_succ] at a0 a1 a2 a3 a4 a5 a6 a7 a8
  have B2 := Lib.hid (below_alloc (Below.refl w3.heap.size w3) (.cells #[.int .i64 s.n, .int .u64 s.h, .int .u64 s.l, .int .i64 s.n, .int .u64 s.h, .int .u64 s.l, .int .i64 s.n, .int .u64 s.h, .int .u64 s.l, .slice none 0 0] 94))
  have T2 := Lib.hid (heap_alloc_new w3 (.cells #[.int .i64 s.n, .int .u64 s.h, .int .u64 s.l, .int .i64 s.n, .int .u64 s.h, .int .u64 s.l, .int .i64 s.n, .int .u64 s.h, .int .u64 s.l, .slice none 0 0] 94))
  go_upto_region 8 with (fail)
  clear a0 a1 a2 a3 a4 a5 a6 a7 a8
  generalize w3.alloc (.cells #[.int .i64 s.n, .int .u64 s.h, .int .u64 s.l, .int .i64 s.n, .int .u64 s.h, .int .u64 s.l, .int .i64 s.n, .int .u64 s.h, .int .u64 s.l, .slice none 0 0] 94) = w4 at *
  have AL := Lib.hid (alone_any (s := s) (p := s) (c := s) w4 T2.out)
  rw [HSA.out] at AL
  have HBX : Hid (w.heap.size ≤ w3.heap.size) := Lib.hid BC.out.size
  go_wp2_with fail
  refine AL.out.mono ?_; rintro e w5 ⟨rfl, b5⟩
  have T3 := Lib.hid (TbR.below (s := s) (p := s) (c := s) T2.out b5)
  have BW := Lib.hid (below_next (BC.out.trans (B2.out.mono HBX.out)) b5)
  clear b5 AL
  go_wp2_with fail
  go_ret2
  have hf : fing0 s s = [] := by unfold fing0; rw [HSA.out]; rfl
  rw [hf]
  exact ⟨w3.heap.size, none, 0, rfl, ⟨T3.out, HBX.out, World.ownsRow_nil _ _ _ _, by simp [blk]⟩, BW.out, .inl ⟨rfl, rfl⟩⟩
theorem nb_two {s p c : Pe} (hc : (c.n == s.n) = false) : nbP s p c = p ∧ nbC s c = c := by unfold nbP nbC; rw [hc]; exact ⟨rfl, rfl⟩
theorem nb_own {s p c : Pe} (hc : (c.n == s.n) = true) : nbP s p c = s ∧ nbC s c = s := by unfold nbP nbC; rw [hc]; exact ⟨rfl, rfl⟩
theorem new_all (s p c : Pe) (w : World) (h0 : isN s.n = true) (h1 : isN p.n = true) (h2 : isN c.n = true) (hpc : (p.n == s.n) = (c.n == s.n)) : Calls Try.prog 8 #[s.v, p.v, c.v] w fun e w' => ∃ b ao cap, e = .returned (.tuple #[.pointer (some ⟨b, 0, none⟩), .int .i64 0]) ∧ TbW w' w.heap.size b ao cap s (nbP s p c) (nbC s c) (fing0 s (nbC s c)) ∧ Below w.heap.size w w' ∧ (ao = none ∧ fing0 s (nbC s c) = [] ∨ fing0 s (nbC s c) ≠ []) := by
  cases hc : (c.n == s.n) with
  | false => exact new_two s p c w h0 h1 h2 (by rw [hpc, hc]) hc
  | true => exact new_own s p c w h0 h1 h2 (by rw [hpc, hc]) hc
/-- in a ring: who is alone is its own succ -/
theorem new_yes (s p c : Pe) (w : World) (h0 : isN s.n = true) (h1 : isN p.n = true) (h2 : isN c.n = true) (hpc : (p.n == s.n) = (c.n == s.n)) (hs : (c.n == s.n) = true → p = s ∧ c = s) : Calls Try.prog 8 #[s.v, p.v, c.v] w fun e w' => ∃ b ao cap, e = .returned (.tuple #[.pointer (some ⟨b, 0, none⟩), .int .i64 0]) ∧ TbW w' w.heap.size b ao cap s p c (fing0 s c) ∧ Below w.heap.size w w' ∧ (ao = none ∧ fing0 s c = [] ∨ fing0 s c ≠ []) := by
  have h := new_all s p c w h0 h1 h2 hpc
  cases hc : (c.n == s.n) with
  | false => rw [(nb_two (p := p) hc).1, (nb_two (p := p) hc).2] at h; exact h
  | true =>
    obtain ⟨hp, hcs⟩ := hs hc
    rw [(nb_own (p := p) hc).1, (nb_own (p := p) hc).2] at h
    rw [hp, hcs]
    rw [hp, hcs] at h; exact h
end Go.Proofs.Ytokmchkoojeadaa
