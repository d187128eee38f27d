/- Same: two messages that routing made. -/
import Derived.Test.YtokmchkoojeadaaHd
import Derived.BigQuiet
namespace Go.Proofs.Ytokmchkoojeadaa
open Go.RowKit Go.Sort
set_option linter.unusedVariables false
set_option linter.unusedSimpArgs false
set_option maxRecDepth 100000
theorem neq_mans0 (w : World) : (binOp .neq 48 (.agg #[.int .i64 0, .int .i64 0, .int .i64 0]) (.agg #[.int .i64 0, .int .i64 0, .int .i64 0])).run Try.prog w = .ok (.bool false) w := by kernel_rfl
theorem neq_fences0 (w : World) : (binOp .neq 58 (.agg #[.int .u32 0, .int .u32 0, .int .u32 0, .int .u32 0]) (.agg #[.int .u32 0, .int .u32 0, .int .u32 0, .int .u32 0])).run Try.prog w = .ok (.bool false) w := by kernel_rfl
theorem two_rows (w : World) (A B : Array Value) (t u : TypeId) : ∃ w1, w1 = (w.alloc (.cells A t)).alloc (.cells B u) ∧ w1.heap[w.heap.size]? = some (.cells A t (0, 0)) ∧ w1.heap[w.heap.size + 1]? = some (.cells B u (0, 0)) ∧ Below w.heap.size w w1 := by
  refine ⟨_, rfl, ?_, ?_, below_alloc (below_alloc (Below.refl _ _) _) _⟩
  · exact row_keep (heap_alloc_new w _) (Keep.of_below (below_alloc (Below.refl _ _) _) []) (by simp)
  · have h := heap_alloc_new (w.alloc (.cells A t)) (.cells B u)
    rw [World.size_alloc] at h
    exact h
set_option maxHeartbeats 1000000 in
theorem entries_nil : Ret 39 #[.slice none 0 0, .slice none 0 0] (.returned (.bool true)) := by
  intro w
  go_enter Try.func39, Try.ntmps39
  go_wp2_with fail
  go_loopw [5] (fun v5 wr => v5 = .int .i64 0 ∧ wr = w) (fun _ _ => 0)
  case atStart => exact ⟨rfl, rfl⟩
  case round =>
    obtain ⟨rfl, rfl⟩ := hrel
    go_wp2_with fail
    go_ret
    exact ⟨rfl, Below.refl _ _⟩
set_option maxHeartbeats 4000000 in
theorem tx_zero : Ret 37 #[.agg #[.int .u64 0, .int .i64 0, .int .i64 0, .int .i64 0, .int .i64 0, .slice none 0 0], .agg #[.int .u64 0, .int .i64 0, .int .i64 0, .int .i64 0, .int .i64 0, .slice none 0 0]] (.returned (.bool true)) := by
  intro w
  have NM := neq_mans0
  obtain ⟨w1, hw1, q0, q1, bb⟩ := two_rows w #[.int .u64 0, .int .i64 0, .int .i64 0, .int .i64 0, .int .i64 0, .slice none 0 0] #[.int .u64 0, .int .i64 0, .int .i64 0, .int .i64 0, .int .i64 0, .slice none 0 0] 51 51
  have Q0 := Lib.hid q0; have Q1 := Lib.hid q1; have BB := Lib.hid bb; have HW1 := Lib.hid hw1
  clear q0 q1 bb hw1
  go_enter Try.func37, Try.ntmps37
  go_upto_region 1 with (fail)
  rw [← HW1.out]
  obtain ⟨x, hx⟩ : ∃ x, x = w.heap.size := ⟨_, rfl⟩
  rw [← hx] at Q0 Q1 ⊢
  clear hx HW1
  have a0 : w1.cell? ⟨x, 0, none⟩ = some (.int .u64 0) := (cell_of_row w1 x 0 _ _ (0, 0) Q0.out).trans rfl
  have a1 : w1.cell? ⟨x, 1, none⟩ = some (.int .i64 0) := (cell_of_row w1 x 1 _ _ (0, 0) Q0.out).trans rfl
  have a2 : w1.cell? ⟨x, 2, none⟩ = some (.int .i64 0) := (cell_of_row w1 x 2 _ _ (0, 0) Q0.out).trans rfl
  have a3 : w1.cell? ⟨x, 3, none⟩ = some (.int .i64 0) := (cell_of_row w1 x 3 _ _ (0, 0) Q0.out).trans rfl
  have a4 : w1.cell? ⟨x, 4, none⟩ = some (.int .i64 0) := (cell_of_row w1 x 4 _ _ (0, 0) Q0.out).trans rfl
  have a5 : w1.cell? ⟨x, 5, none⟩ = some (.slice none 0 0) := (cell_of_row w1 x 5 _ _ (0, 0) Q0.out).trans rfl
  have b0 : w1.cell? ⟨(x + 1), 0, none⟩ = some (.int .u64 0) := (cell_of_row w1 (x + 1) 0 _ _ (0, 0) Q1.out).trans rfl
  have b1 : w1.cell? ⟨(x + 1), 1, none⟩ = some (.int .i64 0) := (cell_of_row w1 (x + 1) 1 _ _ (0, 0) Q1.out).trans rfl
  have b2 : w1.cell? ⟨(x + 1), 2, none⟩ = some (.int .i64 0) := (cell_of_row w1 (x + 1) 2 _ _ (0, 0) Q1.out).trans rfl
  have b3 : w1.cell? ⟨(x + 1), 3, none⟩ = some (.int .i64 0) := (cell_of_row w1 (x + 1) 3 _ _ (0, 0) Q1.out).trans rfl
  have b4 : w1.cell? ⟨(x + 1), 4, none⟩ = some (.int .i64 0) := (cell_of_row w1 (x + 1) 4 _ _ (0, 0) Q1.out).trans rfl
  have b5 : w1.cell? ⟨(x + 1), 5, none⟩ = some (.slice none 0 0) := (cell_of_row w1 (x + 1) 5 _ _ (0, 0) Q1.out).trans rfl
  go_wp2_with fail
  go_loopw [5] (fun v5 wr => v5 = .int .i64 0 ∧ wr = w1) (fun _ _ => 0)
  case atStart => exact ⟨rfl, rfl⟩
  case round =>
    obtain ⟨rfl, rfl⟩ := hrel
    go_wp2_with fail
    go_ret
    exact ⟨rfl, BB.out⟩
set_option maxHeartbeats 4000000 in
theorem copy_zero : Ret 38 #[.agg #[.int .i64 0, .int .u32 0, .int .u32 0, .slice none 0 0, .slice none 0 0, .int .u32 0, .int .u32 0, .int .u32 0, .int .u32 0, .slice none 0 0], .agg #[.int .i64 0, .int .u32 0, .int .u32 0, .slice none 0 0, .slice none 0 0, .int .u32 0, .int .u32 0, .int .u32 0, .int .u32 0, .slice none 0 0]] (.returned (.bool true)) := by
  intro w
  have EN := Lib.hid entries_nil
  have NF := neq_fences0
  obtain ⟨w1, hw1, q0, q1, bb⟩ := two_rows w #[.int .i64 0, .int .u32 0, .int .u32 0, .slice none 0 0, .slice none 0 0, .int .u32 0, .int .u32 0, .int .u32 0, .int .u32 0, .slice none 0 0] #[.int .i64 0, .int .u32 0, .int .u32 0, .slice none 0 0, .slice none 0 0, .int .u32 0, .int .u32 0, .int .u32 0, .int .u32 0, .slice none 0 0] 61 61
  have Q0 := Lib.hid q0; have Q1 := Lib.hid q1; have BB := Lib.hid bb; have HW1 := Lib.hid hw1
  clear q0 q1 bb hw1
  go_enter Try.func38, Try.ntmps38
  go_upto_region 1 with (fail)
  rw [← HW1.out]
  obtain ⟨x, hx⟩ : ∃ x, x = w.heap.size := ⟨_, rfl⟩
  rw [← hx] at Q0 Q1 ⊢
  clear hx HW1
  have a3 : w1.cell? ⟨x, 3, none⟩ = some (.slice none 0 0) := (cell_of_row w1 x 3 _ _ (0, 0) Q0.out).trans rfl
  have b3 : w1.cell? ⟨(x + 1), 3, none⟩ = some (.slice none 0 0) := (cell_of_row w1 (x + 1) 3 _ _ (0, 0) Q1.out).trans rfl
  go_wp2_with fail
  refine (EN.out w1).mono ?_; rintro e w2 ⟨rfl, b2⟩
  have Q0 := Lib.hid (row_keep Q0.out (Keep.of_below b2 []) (by simp)); have Q1 := Lib.hid (row_keep Q1.out (Keep.of_below b2 []) (by simp))
  have BB := Lib.hid (below_next BB.out b2)
  clear b2 a3 b3
  have a0 : w2.cell? ⟨x, 0, none⟩ = some (.int .i64 0) := (cell_of_row w2 x 0 _ _ (0, 0) Q0.out).trans rfl
  have a1 : w2.cell? ⟨x, 1, none⟩ = some (.int .u32 0) := (cell_of_row w2 x 1 _ _ (0, 0) Q0.out).trans rfl
  have a2 : w2.cell? ⟨x, 2, none⟩ = some (.int .u32 0) := (cell_of_row w2 x 2 _ _ (0, 0) Q0.out).trans rfl
  have a3 : w2.cell? ⟨x, 3, none⟩ = some (.slice none 0 0) := (cell_of_row w2 x 3 _ _ (0, 0) Q0.out).trans rfl
  have a4 : w2.cell? ⟨x, 4, none⟩ = some (.slice none 0 0) := (cell_of_row w2 x 4 _ _ (0, 0) Q0.out).trans rfl
  have a5 : w2.cell? ⟨x, 5, none⟩ = some (.int .u32 0) := (cell_of_row w2 x 5 _ _ (0, 0) Q0.out).trans rfl
  have a6 : w2.cell? ⟨x, 6, none⟩ = some (.int .u32 0) := (cell_of_row w2 x 6 _ _ (0, 0) Q0.out).trans rfl
  have a7 : w2.cell? ⟨x, 7, none⟩ = some (.int .u32 0) := (cell_of_row w2 x 7 _ _ (0, 0) Q0.out).trans rfl
  have a8 : w2.cell? ⟨x, 8, none⟩ = some (.int .u32 0) := (cell_of_row w2 x 8 _ _ (0, 0) Q0.out).trans rfl
  have a9 : w2.cell? ⟨x, 9, none⟩ = some (.slice none 0 0) := (cell_of_row w2 x 9 _ _ (0, 0) Q0.out).trans rfl
  have b0 : w2.cell? ⟨(x + 1), 0, none⟩ = some (.int .i64 0) := (cell_of_row w2 (x + 1) 0 _ _ (0, 0) Q1.out).trans rfl
  have b1 : w2.cell? ⟨(x + 1), 1, none⟩ = some (.int .u32 0) := (cell_of_row w2 (x + 1) 1 _ _ (0, 0) Q1.out).trans rfl
  have b2 : w2.cell? ⟨(x + 1), 2, none⟩ = some (.int .u32 0) := (cell_of_row w2 (x + 1) 2 _ _ (0, 0) Q1.out).trans rfl
  have b3 : w2.cell? ⟨(x + 1), 3, none⟩ = some (.slice none 0 0) := (cell_of_row w2 (x + 1) 3 _ _ (0, 0) Q1.out).trans rfl
  have b4 : w2.cell? ⟨(x + 1), 4, none⟩ = some (.slice none 0 0) := (cell_of_row w2 (x + 1) 4 _ _ (0, 0) Q1.out).trans rfl
  have b5 : w2.cell? ⟨(x + 1), 5, none⟩ = some (.int .u32 0) := (cell_of_row w2 (x + 1) 5 _ _ (0, 0) Q1.out).trans rfl
  have b6 : w2.cell? ⟨(x + 1), 6, none⟩ = some (.int .u32 0) := (cell_of_row w2 (x + 1) 6 _ _ (0, 0) Q1.out).trans rfl
  have b7 : w2.cell? ⟨(x + 1), 7, none⟩ = some (.int .u32 0) := (cell_of_row w2 (x + 1) 7 _ _ (0, 0) Q1.out).trans rfl
  have b8 : w2.cell? ⟨(x + 1), 8, none⟩ = some (.int .u32 0) := (cell_of_row w2 (x + 1) 8 _ _ (0, 0) Q1.out).trans rfl
  have b9 : w2.cell? ⟨(x + 1), 9, none⟩ = some (.slice none 0 0) := (cell_of_row w2 (x + 1) 9 _ _ (0, 0) Q1.out).trans rfl
  go_wp2_with fail
  go_loopw [6] (fun v5 wr => v5 = .int .i64 0 ∧ wr = w2) (fun _ _ => 0)
  case atStart => exact ⟨rfl, rfl⟩
  case round =>
    obtain ⟨rfl, rfl⟩ := hrel
    rename World => w2
    go_wp2_with fail
    go_loopw [8] (fun v5 wr => v5 = .int .i64 0 ∧ wr = w2) (fun _ _ => 0)
    case atStart => exact ⟨rfl, rfl⟩
    case round =>
      obtain ⟨rfl, rfl⟩ := hrel
      go_wp2_with fail
      go_ret
      exact ⟨rfl, BB.out⟩
set_option maxHeartbeats 16000000 in
theorem samez_any (k f t id ph pl hops : Int) (p q : Option Addr) (m pc qc : Nat) (M : List Pe) (w : World) (hp : PsRd w p M) (hq : PsRd w q M) (hm : M.length = m) (hle : m ≤ 1000) :
    Calls Try.prog 28 #[.agg (msgZ k f t id ph pl hops (.slice p m pc)), .agg (msgZ k f t id ph pl hops (.slice q m qc))] w fun e w' => e = .returned (.bool true) ∧ Below w.heap.size w w' := by
  have TZ := Lib.hid tx_zero; have CZ := Lib.hid copy_zero; have EN := Lib.hid entries_nil
  have HP := Lib.hid hp; have HQ := Lib.hid hq; have HM := Lib.hid hm
  clear hp hq hm
  obtain ⟨w1, hw1, q0, q1, bb⟩ := two_rows w (msgZ k f t id ph pl hops (.slice p m pc)) (msgZ k f t id ph pl hops (.slice q m qc)) 66 66
  have Q0 := Lib.hid q0; have Q1 := Lib.hid q1; have BB := Lib.hid bb; have HW1 := Lib.hid hw1
  clear q0 q1 bb hw1
  go_enter Try.func28, Try.ntmps28
  go_upto_region 1 with (fail)
  rw [← HW1.out]
  obtain ⟨x, hx⟩ : ∃ x, x = w.heap.size := ⟨_, rfl⟩
  rw [← hx] at Q0 Q1 ⊢
  clear hx HW1
  have HP := Lib.hid (HP.out.below BB.out); have HQ := Lib.hid (HQ.out.below BB.out)
  have a14 : w1.cell? ⟨x, 14, none⟩ = some (.int .u64 0) := (cell_of_row w1 x 14 _ _ (0, 0) Q0.out).trans rfl
  have a15 : w1.cell? ⟨x, 15, none⟩ = some (.int .i64 0) := (cell_of_row w1 x 15 _ _ (0, 0) Q0.out).trans rfl
  have a16 : w1.cell? ⟨x, 16, none⟩ = some (.int .i64 0) := (cell_of_row w1 x 16 _ _ (0, 0) Q0.out).trans rfl
  have a17 : w1.cell? ⟨x, 17, none⟩ = some (.int .i64 0) := (cell_of_row w1 x 17 _ _ (0, 0) Q0.out).trans rfl
  have a18 : w1.cell? ⟨x, 18, none⟩ = some (.int .i64 0) := (cell_of_row w1 x 18 _ _ (0, 0) Q0.out).trans rfl
  have a19 : w1.cell? ⟨x, 19, none⟩ = some (.slice none 0 0) := (cell_of_row w1 x 19 _ _ (0, 0) Q0.out).trans rfl
  have b14 : w1.cell? ⟨(x + 1), 14, none⟩ = some (.int .u64 0) := (cell_of_row w1 (x + 1) 14 _ _ (0, 0) Q1.out).trans rfl
  have b15 : w1.cell? ⟨(x + 1), 15, none⟩ = some (.int .i64 0) := (cell_of_row w1 (x + 1) 15 _ _ (0, 0) Q1.out).trans rfl
  have b16 : w1.cell? ⟨(x + 1), 16, none⟩ = some (.int .i64 0) := (cell_of_row w1 (x + 1) 16 _ _ (0, 0) Q1.out).trans rfl
  have b17 : w1.cell? ⟨(x + 1), 17, none⟩ = some (.int .i64 0) := (cell_of_row w1 (x + 1) 17 _ _ (0, 0) Q1.out).trans rfl
  have b18 : w1.cell? ⟨(x + 1), 18, none⟩ = some (.int .i64 0) := (cell_of_row w1 (x + 1) 18 _ _ (0, 0) Q1.out).trans rfl
  have b19 : w1.cell? ⟨(x + 1), 19, none⟩ = some (.slice none 0 0) := (cell_of_row w1 (x + 1) 19 _ _ (0, 0) Q1.out).trans rfl
  go_wp2_with fail
  refine (TZ.out w1).mono ?_; rintro e w2 ⟨rfl, c2⟩
  have Q0 := Lib.hid (row_keep Q0.out (Keep.of_below c2 []) (by simp)); have Q1 := Lib.hid (row_keep Q1.out (Keep.of_below c2 []) (by simp))
  have BB := Lib.hid (below_next BB.out c2)
  have HP := Lib.hid (HP.out.below c2); have HQ := Lib.hid (HQ.out.below c2)
  clear c2 a14 b14 a15 b15 a16 b16 a17 b17 a18 b18 a19 b19
  have a32 : w2.cell? ⟨x, 32, none⟩ = some (.int .i64 0) := (cell_of_row w2 x 32 _ _ (0, 0) Q0.out).trans rfl
  have a33 : w2.cell? ⟨x, 33, none⟩ = some (.int .u32 0) := (cell_of_row w2 x 33 _ _ (0, 0) Q0.out).trans rfl
  have a34 : w2.cell? ⟨x, 34, none⟩ = some (.int .u32 0) := (cell_of_row w2 x 34 _ _ (0, 0) Q0.out).trans rfl
  have a35 : w2.cell? ⟨x, 35, none⟩ = some (.slice none 0 0) := (cell_of_row w2 x 35 _ _ (0, 0) Q0.out).trans rfl
  have a36 : w2.cell? ⟨x, 36, none⟩ = some (.slice none 0 0) := (cell_of_row w2 x 36 _ _ (0, 0) Q0.out).trans rfl
  have a37 : w2.cell? ⟨x, 37, none⟩ = some (.int .u32 0) := (cell_of_row w2 x 37 _ _ (0, 0) Q0.out).trans rfl
  have a38 : w2.cell? ⟨x, 38, none⟩ = some (.int .u32 0) := (cell_of_row w2 x 38 _ _ (0, 0) Q0.out).trans rfl
  have a39 : w2.cell? ⟨x, 39, none⟩ = some (.int .u32 0) := (cell_of_row w2 x 39 _ _ (0, 0) Q0.out).trans rfl
  have a40 : w2.cell? ⟨x, 40, none⟩ = some (.int .u32 0) := (cell_of_row w2 x 40 _ _ (0, 0) Q0.out).trans rfl
  have a41 : w2.cell? ⟨x, 41, none⟩ = some (.slice none 0 0) := (cell_of_row w2 x 41 _ _ (0, 0) Q0.out).trans rfl
  have b32 : w2.cell? ⟨(x + 1), 32, none⟩ = some (.int .i64 0) := (cell_of_row w2 (x + 1) 32 _ _ (0, 0) Q1.out).trans rfl
  have b33 : w2.cell? ⟨(x + 1), 33, none⟩ = some (.int .u32 0) := (cell_of_row w2 (x + 1) 33 _ _ (0, 0) Q1.out).trans rfl
  have b34 : w2.cell? ⟨(x + 1), 34, none⟩ = some (.int .u32 0) := (cell_of_row w2 (x + 1) 34 _ _ (0, 0) Q1.out).trans rfl
  have b35 : w2.cell? ⟨(x + 1), 35, none⟩ = some (.slice none 0 0) := (cell_of_row w2 (x + 1) 35 _ _ (0, 0) Q1.out).trans rfl
  have b36 : w2.cell? ⟨(x + 1), 36, none⟩ = some (.slice none 0 0) := (cell_of_row w2 (x + 1) 36 _ _ (0, 0) Q1.out).trans rfl
  have b37 : w2.cell? ⟨(x + 1), 37, none⟩ = some (.int .u32 0) := (cell_of_row w2 (x + 1) 37 _ _ (0, 0) Q1.out).trans rfl
  have b38 : w2.cell? ⟨(x + 1), 38, none⟩ = some (.int .u32 0) := (cell_of_row w2 (x + 1) 38 _ _ (0, 0) Q1.out).trans rfl
  have b39 : w2.cell? ⟨(x + 1), 39, none⟩ = some (.int .u32 0) := (cell_of_row w2 (x + 1) 39 _ _ (0, 0) Q1.out).trans rfl
  have b40 : w2.cell? ⟨(x + 1), 40, none⟩ = some (.int .u32 0) := (cell_of_row w2 (x + 1) 40 _ _ (0, 0) Q1.out).trans rfl
  have b41 : w2.cell? ⟨(x + 1), 41, none⟩ = some (.slice none 0 0) := (cell_of_row w2 (x + 1) 41 _ _ (0, 0) Q1.out).trans rfl
  go_wp2_with fail
  refine (CZ.out w2).mono ?_; rintro e w3 ⟨rfl, c3⟩
  have Q0 := Lib.hid (row_keep Q0.out (Keep.of_below c3 []) (by simp)); have Q1 := Lib.hid (row_keep Q1.out (Keep.of_below c3 []) (by simp))
  have BB := Lib.hid (below_next BB.out c3)
  have HP := Lib.hid (HP.out.below c3); have HQ := Lib.hid (HQ.out.below c3)
  clear c3 a32 b32 a33 b33 a34 b34 a35 b35 a36 b36 a37 b37 a38 b38 a39 b39 a40 b40 a41 b41
  have a31 : w3.cell? ⟨x, 31, none⟩ = some (.slice none 0 0) := (cell_of_row w3 x 31 _ _ (0, 0) Q0.out).trans rfl
  have b31 : w3.cell? ⟨(x + 1), 31, none⟩ = some (.slice none 0 0) := (cell_of_row w3 (x + 1) 31 _ _ (0, 0) Q1.out).trans rfl
  go_wp2_with fail
  refine (EN.out w3).mono ?_; rintro e w4 ⟨rfl, c4⟩
  have Q0 := Lib.hid (row_keep Q0.out (Keep.of_below c4 []) (by simp)); have Q1 := Lib.hid (row_keep Q1.out (Keep.of_below c4 []) (by simp))
  have BB := Lib.hid (below_next BB.out c4)
  have HP := Lib.hid (HP.out.below c4); have HQ := Lib.hid (HQ.out.below c4)
  clear c4 a31 b31
  have a44 : w4.cell? ⟨x, 44, none⟩ = some (.slice none 0 0) := (cell_of_row w4 x 44 _ _ (0, 0) Q0.out).trans rfl
  have a48 : w4.cell? ⟨x, 48, none⟩ = some (.slice p m pc) := (cell_of_row w4 x 48 _ _ (0, 0) Q0.out).trans rfl
  have b44 : w4.cell? ⟨(x + 1), 44, none⟩ = some (.slice none 0 0) := (cell_of_row w4 (x + 1) 44 _ _ (0, 0) Q1.out).trans rfl
  have b48 : w4.cell? ⟨(x + 1), 48, none⟩ = some (.slice q m qc) := (cell_of_row w4 (x + 1) 48 _ _ (0, 0) Q1.out).trans rfl
  go_wp2_with fail
  go_loopw [8] (fun v8 wr => v8 = .int .i64 0 ∧ wr = w4) (fun _ _ => 0)
  case atStart => exact ⟨rfl, rfl⟩
  case round =>
    obtain ⟨rfl, rfl⟩ := hrel
    rename World => w4
    go_wp2_with fail
    clear a44 b44 a48 b48
    go_loopw [10] (fun v10 wr => ∃ j : Nat, v10 = .int .i64 (j : Int) ∧ j ≤ m ∧ Hid (Below w4.heap.size w4 wr)) (fun v10 _ => m - (intOf v10).toNat)
    case atStart => exact ⟨0, rfl, Nat.zero_le _, Lib.hid (Below.refl _ _)⟩
    case round =>
      obtain ⟨j, rfl, hj, HBB⟩ := hrel
      have hj0 : (0 : Int) ≤ (j : Int) := by omega
      have Q0 := Lib.hid (row_keep Q0.out (Keep.of_below HBB.out []) (by simp)); have Q1 := Lib.hid (row_keep Q1.out (Keep.of_below HBB.out []) (by simp))
      have BB := Lib.hid (below_next BB.out HBB.out)
      have HP := Lib.hid (HP.out.below HBB.out); have HQ := Lib.hid (HQ.out.below HBB.out)
      have a48 : wr.cell? ⟨x, 48, none⟩ = some (.slice p m pc) := (cell_of_row wr x 48 _ _ (0, 0) Q0.out).trans rfl
      have b48 : wr.cell? ⟨(x + 1), 48, none⟩ = some (.slice q m qc) := (cell_of_row wr (x + 1) 48 _ _ (0, 0) Q1.out).trans rfl
      by_cases hlt : j < m
      · have hji : (j : Int) < (m : Int) := by omega
        obtain ⟨y, hy⟩ : ∃ y, M[j]? = some y := ⟨_, List.getElem?_eq_getElem (by rw [HM.out]; exact hlt)⟩
        obtain ⟨g1, o1, rfl, l1, r1⟩ := HP.out j y hy
        obtain ⟨g2, o2, rfl, l2, r2⟩ := HQ.out j y hy
        have e0 := cell_regrown (r1 0 (by omega)); have e1 := cell_regrown (r1 1 (by omega)); have e2 := cell_regrown (r1 2 (by omega)); have f0 := cell_regrown (r2 0 (by omega)); have f1 := cell_regrown (r2 1 (by omega)); have f2 := cell_regrown (r2 2 (by omega))
        simp only [List.getElem?_cons_succ, List.getElem?_cons_zero, Nat.add_zero] at e0 e1 e2 f0 f1 f2
        have a48r := cell_regrown a48; have b48r := cell_regrown b48
        clear r1 r2 l1 l2 hy
        go_upto_region 15 with (fail)
        refine wp_region_quiet_below (by kernel_rfl) (by kernel_rfl) ?_
        repeat (go_big_quiet_step (fail))
        refine wpQuiet_nil ?_
        intro _ hw'
        obtain ⟨⟨dq, osq⟩, hw''⟩ := hw'
        subst hw''
        have lk := below_regrown wr dq osq
        go_wp2_with fail
        go_roundw
        case rel => exact ⟨j + 1, by go_num, by omega, Lib.hid (below_next HBB.out lk)⟩
        case measure => simp [intOf]; omega
      · obtain rfl : m = j := by omega
        clear a48 b48
        have a0 : wr.cell? ⟨x, 0, none⟩ = some (.int .i64 k) := (cell_of_row wr x 0 _ _ (0, 0) Q0.out).trans rfl
        have a1 : wr.cell? ⟨x, 1, none⟩ = some (.int .i64 f) := (cell_of_row wr x 1 _ _ (0, 0) Q0.out).trans rfl
        have a2 : wr.cell? ⟨x, 2, none⟩ = some (.int .i64 t) := (cell_of_row wr x 2 _ _ (0, 0) Q0.out).trans rfl
        have a3 : wr.cell? ⟨x, 3, none⟩ = some (.int .u64 0) := (cell_of_row wr x 3 _ _ (0, 0) Q0.out).trans rfl
        have a4 : wr.cell? ⟨x, 4, none⟩ = some (.int .i64 0) := (cell_of_row wr x 4 _ _ (0, 0) Q0.out).trans rfl
        have a5 : wr.cell? ⟨x, 5, none⟩ = some (.int .i64 0) := (cell_of_row wr x 5 _ _ (0, 0) Q0.out).trans rfl
        have a6 : wr.cell? ⟨x, 6, none⟩ = some (.int .u32 0) := (cell_of_row wr x 6 _ _ (0, 0) Q0.out).trans rfl
        have a7 : wr.cell? ⟨x, 7, none⟩ = some (.int .u32 0) := (cell_of_row wr x 7 _ _ (0, 0) Q0.out).trans rfl
        have a8 : wr.cell? ⟨x, 8, none⟩ = some (.int .u8 0) := (cell_of_row wr x 8 _ _ (0, 0) Q0.out).trans rfl
        have a9 : wr.cell? ⟨x, 9, none⟩ = some (.bool false) := (cell_of_row wr x 9 _ _ (0, 0) Q0.out).trans rfl
        have a10 : wr.cell? ⟨x, 10, none⟩ = some (.int .u32 0) := (cell_of_row wr x 10 _ _ (0, 0) Q0.out).trans rfl
        have a11 : wr.cell? ⟨x, 11, none⟩ = some (.int .u8 0) := (cell_of_row wr x 11 _ _ (0, 0) Q0.out).trans rfl
        have a12 : wr.cell? ⟨x, 12, none⟩ = some (.string ⟨#[]⟩) := (cell_of_row wr x 12 _ _ (0, 0) Q0.out).trans rfl
        have a13 : wr.cell? ⟨x, 13, none⟩ = some (.string ⟨#[]⟩) := (cell_of_row wr x 13 _ _ (0, 0) Q0.out).trans rfl
        have a20 : wr.cell? ⟨x, 20, none⟩ = some (.int .u64 id) := (cell_of_row wr x 20 _ _ (0, 0) Q0.out).trans rfl
        have a21 : wr.cell? ⟨x, 21, none⟩ = some (.int .u32 0) := (cell_of_row wr x 21 _ _ (0, 0) Q0.out).trans rfl
        have a22 : wr.cell? ⟨x, 22, none⟩ = some (.int .u32 0) := (cell_of_row wr x 22 _ _ (0, 0) Q0.out).trans rfl
        have a23 : wr.cell? ⟨x, 23, none⟩ = some (.int .i64 0) := (cell_of_row wr x 23 _ _ (0, 0) Q0.out).trans rfl
        have a24 : wr.cell? ⟨x, 24, none⟩ = some (.int .i64 0) := (cell_of_row wr x 24 _ _ (0, 0) Q0.out).trans rfl
        have a25 : wr.cell? ⟨x, 25, none⟩ = some (.int .i64 0) := (cell_of_row wr x 25 _ _ (0, 0) Q0.out).trans rfl
        have a26 : wr.cell? ⟨x, 26, none⟩ = some (.int .u32 0) := (cell_of_row wr x 26 _ _ (0, 0) Q0.out).trans rfl
        have a27 : wr.cell? ⟨x, 27, none⟩ = some (.int .i64 0) := (cell_of_row wr x 27 _ _ (0, 0) Q0.out).trans rfl
        have a28 : wr.cell? ⟨x, 28, none⟩ = some (.int .u32 0) := (cell_of_row wr x 28 _ _ (0, 0) Q0.out).trans rfl
        have a29 : wr.cell? ⟨x, 29, none⟩ = some (.int .u32 0) := (cell_of_row wr x 29 _ _ (0, 0) Q0.out).trans rfl
        have a30 : wr.cell? ⟨x, 30, none⟩ = some (.int .u32 0) := (cell_of_row wr x 30 _ _ (0, 0) Q0.out).trans rfl
        have a31 : wr.cell? ⟨x, 31, none⟩ = some (.slice none 0 0) := (cell_of_row wr x 31 _ _ (0, 0) Q0.out).trans rfl
        have a42 : wr.cell? ⟨x, 42, none⟩ = some (.int .i64 0) := (cell_of_row wr x 42 _ _ (0, 0) Q0.out).trans rfl
        have a43 : wr.cell? ⟨x, 43, none⟩ = some (.int .i64 0) := (cell_of_row wr x 43 _ _ (0, 0) Q0.out).trans rfl
        have a45 : wr.cell? ⟨x, 45, none⟩ = some (.int .u64 ph) := (cell_of_row wr x 45 _ _ (0, 0) Q0.out).trans rfl
        have a46 : wr.cell? ⟨x, 46, none⟩ = some (.int .u64 pl) := (cell_of_row wr x 46 _ _ (0, 0) Q0.out).trans rfl
        have a47 : wr.cell? ⟨x, 47, none⟩ = some (.int .i64 hops) := (cell_of_row wr x 47 _ _ (0, 0) Q0.out).trans rfl
        have a48 : wr.cell? ⟨x, 48, none⟩ = some (.slice p m pc) := (cell_of_row wr x 48 _ _ (0, 0) Q0.out).trans rfl
        have b0 : wr.cell? ⟨(x + 1), 0, none⟩ = some (.int .i64 k) := (cell_of_row wr (x + 1) 0 _ _ (0, 0) Q1.out).trans rfl
        have b1 : wr.cell? ⟨(x + 1), 1, none⟩ = some (.int .i64 f) := (cell_of_row wr (x + 1) 1 _ _ (0, 0) Q1.out).trans rfl
        have b2 : wr.cell? ⟨(x + 1), 2, none⟩ = some (.int .i64 t) := (cell_of_row wr (x + 1) 2 _ _ (0, 0) Q1.out).trans rfl
        have b3 : wr.cell? ⟨(x + 1), 3, none⟩ = some (.int .u64 0) := (cell_of_row wr (x + 1) 3 _ _ (0, 0) Q1.out).trans rfl
        have b4 : wr.cell? ⟨(x + 1), 4, none⟩ = some (.int .i64 0) := (cell_of_row wr (x + 1) 4 _ _ (0, 0) Q1.out).trans rfl
        have b5 : wr.cell? ⟨(x + 1), 5, none⟩ = some (.int .i64 0) := (cell_of_row wr (x + 1) 5 _ _ (0, 0) Q1.out).trans rfl
        have b6 : wr.cell? ⟨(x + 1), 6, none⟩ = some (.int .u32 0) := (cell_of_row wr (x + 1) 6 _ _ (0, 0) Q1.out).trans rfl
        have b7 : wr.cell? ⟨(x + 1), 7, none⟩ = some (.int .u32 0) := (cell_of_row wr (x + 1) 7 _ _ (0, 0) Q1.out).trans rfl
        have b8 : wr.cell? ⟨(x + 1), 8, none⟩ = some (.int .u8 0) := (cell_of_row wr (x + 1) 8 _ _ (0, 0) Q1.out).trans rfl
        have b9 : wr.cell? ⟨(x + 1), 9, none⟩ = some (.bool false) := (cell_of_row wr (x + 1) 9 _ _ (0, 0) Q1.out).trans rfl
        have b10 : wr.cell? ⟨(x + 1), 10, none⟩ = some (.int .u32 0) := (cell_of_row wr (x + 1) 10 _ _ (0, 0) Q1.out).trans rfl
        have b11 : wr.cell? ⟨(x + 1), 11, none⟩ = some (.int .u8 0) := (cell_of_row wr (x + 1) 11 _ _ (0, 0) Q1.out).trans rfl
        have b12 : wr.cell? ⟨(x + 1), 12, none⟩ = some (.string ⟨#[]⟩) := (cell_of_row wr (x + 1) 12 _ _ (0, 0) Q1.out).trans rfl
        have b13 : wr.cell? ⟨(x + 1), 13, none⟩ = some (.string ⟨#[]⟩) := (cell_of_row wr (x + 1) 13 _ _ (0, 0) Q1.out).trans rfl
        have b20 : wr.cell? ⟨(x + 1), 20, none⟩ = some (.int .u64 id) := (cell_of_row wr (x + 1) 20 _ _ (0, 0) Q1.out).trans rfl
        have b21 : wr.cell? ⟨(x + 1), 21, none⟩ = some (.int .u32 0) := (cell_of_row wr (x + 1) 21 _ _ (0, 0) Q1.out).trans rfl
        have b22 : wr.cell? ⟨(x + 1), 22, none⟩ = some (.int .u32 0) := (cell_of_row wr (x + 1) 22 _ _ (0, 0) Q1.out).trans rfl
        have b23 : wr.cell? ⟨(x + 1), 23, none⟩ = some (.int .i64 0) := (cell_of_row wr (x + 1) 23 _ _ (0, 0) Q1.out).trans rfl
        have b24 : wr.cell? ⟨(x + 1), 24, none⟩ = some (.int .i64 0) := (cell_of_row wr (x + 1) 24 _ _ (0, 0) Q1.out).trans rfl
        have b25 : wr.cell? ⟨(x + 1), 25, none⟩ = some (.int .i64 0) := (cell_of_row wr (x + 1) 25 _ _ (0, 0) Q1.out).trans rfl
        have b26 : wr.cell? ⟨(x + 1), 26, none⟩ = some (.int .u32 0) := (cell_of_row wr (x + 1) 26 _ _ (0, 0) Q1.out).trans rfl
        have b27 : wr.cell? ⟨(x + 1), 27, none⟩ = some (.int .i64 0) := (cell_of_row wr (x + 1) 27 _ _ (0, 0) Q1.out).trans rfl
        have b28 : wr.cell? ⟨(x + 1), 28, none⟩ = some (.int .u32 0) := (cell_of_row wr (x + 1) 28 _ _ (0, 0) Q1.out).trans rfl
        have b29 : wr.cell? ⟨(x + 1), 29, none⟩ = some (.int .u32 0) := (cell_of_row wr (x + 1) 29 _ _ (0, 0) Q1.out).trans rfl
        have b30 : wr.cell? ⟨(x + 1), 30, none⟩ = some (.int .u32 0) := (cell_of_row wr (x + 1) 30 _ _ (0, 0) Q1.out).trans rfl
        have b31 : wr.cell? ⟨(x + 1), 31, none⟩ = some (.slice none 0 0) := (cell_of_row wr (x + 1) 31 _ _ (0, 0) Q1.out).trans rfl
        have b42 : wr.cell? ⟨(x + 1), 42, none⟩ = some (.int .i64 0) := (cell_of_row wr (x + 1) 42 _ _ (0, 0) Q1.out).trans rfl
        have b43 : wr.cell? ⟨(x + 1), 43, none⟩ = some (.int .i64 0) := (cell_of_row wr (x + 1) 43 _ _ (0, 0) Q1.out).trans rfl
        have b45 : wr.cell? ⟨(x + 1), 45, none⟩ = some (.int .u64 ph) := (cell_of_row wr (x + 1) 45 _ _ (0, 0) Q1.out).trans rfl
        have b46 : wr.cell? ⟨(x + 1), 46, none⟩ = some (.int .u64 pl) := (cell_of_row wr (x + 1) 46 _ _ (0, 0) Q1.out).trans rfl
        have b47 : wr.cell? ⟨(x + 1), 47, none⟩ = some (.int .i64 hops) := (cell_of_row wr (x + 1) 47 _ _ (0, 0) Q1.out).trans rfl
        have b48 : wr.cell? ⟨(x + 1), 48, none⟩ = some (.slice q m qc) := (cell_of_row wr (x + 1) 48 _ _ (0, 0) Q1.out).trans rfl
        have hsz : x + 1 < wr.heap.size := (Array.getElem?_eq_some_iff.1 Q1.out).1
        have hsz0 : x < wr.heap.size := by omega
        go_wp2_with fail
        go_ret
        exact ⟨by simp, below_alloc (below_alloc BB.out _) _⟩
end Go.Proofs.Ytokmchkoojeadaa
