/- bounded, within, isTime; a node's wait, silence, suspected, heard, judged. -/
import Derived.Test.YtlfnkplgjlpaaaaNd
namespace Go.Proofs.Ytlfnkplgjlpaaaa
open Go.RowKit
set_option linter.unusedVariables false

set_option maxHeartbeats 800000 in
theorem bounded64 (x lo hi : Int) (w : World) : Calls Try.prog 44 #[.int .i64 x, .int .i64 lo, .int .i64 hi] w fun e w' => e = .returned (.int .i64 (max lo (min x hi))) ∧ w' = w := by
  go_enter Try.func44, Try.ntmps44
  go_wp2_with fail
  all_goals (go_ret; refine ⟨?_, rfl⟩; refine ret_int ?_; omega)
set_option maxHeartbeats 800000 in
theorem boundedI (x lo hi : Int) (w : World) : Calls Try.prog 49 #[.int .i64 x, .int .i64 lo, .int .i64 hi] w fun e w' => e = .returned (.int .i64 (max lo (min x hi))) ∧ w' = w := by
  go_enter Try.func49, Try.ntmps49
  go_wp2_with fail
  all_goals (go_ret; refine ⟨?_, rfl⟩; refine ret_int ?_; omega)
theorem within_eq {x lo hi : Int} (h : lo ≤ hi) : (max lo (min x hi) == x) = decide (lo ≤ x ∧ x ≤ hi) := by
  rw [Bool.eq_iff_iff]; simp; omega
set_option maxHeartbeats 800000 in
theorem within64 (x lo hi : Int) (h : lo ≤ hi) (w : World) : Calls Try.prog 23 #[.int .i64 x, .int .i64 lo, .int .i64 hi] w fun e w' => e = .returned (.bool (decide (lo ≤ x ∧ x ≤ hi))) ∧ w' = w := by
  rw [← within_eq h]
  have C := bounded64 x lo hi w
  generalize max lo (min x hi) = m at *
  go_enter Try.func23, Try.ntmps23
  go_wp2_with fail
  refine C.mono ?_; rintro e w1 ⟨rfl, rfl⟩
  go_wp2_with fail
  go_ret
  exact ⟨rfl, rfl⟩
set_option maxHeartbeats 800000 in
theorem withinI (x lo hi : Int) (h : lo ≤ hi) (w : World) : Calls Try.prog 32 #[.int .i64 x, .int .i64 lo, .int .i64 hi] w fun e w' => e = .returned (.bool (decide (lo ≤ x ∧ x ≤ hi))) ∧ w' = w := by
  rw [← within_eq h]
  have C := boundedI x lo hi w
  generalize max lo (min x hi) = m at *
  go_enter Try.func32, Try.ntmps32
  go_wp2_with fail
  refine C.mono ?_; rintro e w1 ⟨rfl, rfl⟩
  go_wp2_with fail
  go_ret
  exact ⟨rfl, rfl⟩
/-- is it a time? -/
def isT (now : Int) : Bool := decide (0 ≤ now) && decide (now ≤ 1099511627776)
theorem isT_nat {now : Nat} (h : now ≤ 1099511627776) : isT (now : Int) = true := by unfold isT; simp; omega
theorem isT_some {now : Int} (h : isT now = true) : ∃ n : Nat, now = n ∧ n ≤ 1099511627776 := by
  unfold isT at h; simp at h; exact ⟨now.toNat, by omega, by omega⟩
set_option maxHeartbeats 800000 in
theorem isTime_any (now : Int) (w : World) : Calls Try.prog 33 #[.int .i64 now] w fun e w' => e = .returned (.bool (isT now)) ∧ w' = w := by
  unfold isT
  have C := within64 now 0 1099511627776 (by omega) w
  go_enter Try.func33, Try.ntmps33
  go_wp2_with fail
  refine C.mono ?_; rintro e w1 ⟨rfl, rfl⟩
  go_wp2_with fail
  go_ret
  exact ⟨rfl, rfl⟩
abbrev nobj (n : Nd) : Obj := .cells n.cells 76
theorem nobj_at (w : World) (n : Nd) (i : Nat) : (w.alloc (nobj n)).cell? ⟨w.heap.size, i, none⟩ = n.cells[i]? := cell_of_row _ _ i _ _ (0, 0) (heap_alloc_new w _)

set_option maxRecDepth 10000 in
set_option maxHeartbeats 800000 in
theorem wait_any (n : Nd) (h : n.Ok) (w : World) : Calls Try.prog 37 #[agv n] w fun e w' => e = .returned (.int .i64 (n.wait : Int)) ∧ Below w.heap.size w w' := by
  obtain ⟨id, last, mean, marg, bad⟩ := n
  obtain ⟨h1, h2, h3, h4, h5⟩ := h
  simp only at h1 h2 h3 h4 h5
  have C := bounded64 ((mean : Int) / 8 + (marg : Int)) 4 4096 (w.alloc (.cells #[.int .i64 (last : Int), .int .i64 (mean : Int), .int .i64 (marg : Int), .bool bad] 76))
  have hw : max (4 : Int) (min ((mean : Int) / 8 + (marg : Int)) 4096) = ((max 4 (min (mean / 8 + marg) 4096) : Nat) : Int) := by omega
  rw [hw] at C
  clear hw
  have hq : (mean : Int).tdiv 8 = (mean : Int) / 8 := Int.tdiv_eq_ediv_of_nonneg (by omega)
  have hq2 : 0 ≤ (mean : Int) / 8 ∧ (mean : Int) / 8 ≤ 4096 := by omega
  go_enter Try.func37, Try.ntmps37
  go_wp2_with fail
  refine C.mono ?_; rintro e w1 ⟨rfl, rfl⟩
  go_wp2_with fail
  go_ret
  exact ⟨rfl, below_alloc (Below.refl _ _) _⟩
set_option maxRecDepth 10000 in
set_option maxHeartbeats 800000 in
theorem silence_any (n : Nd) (h : n.Ok) {now : Nat} (hn : now ≤ 1099511627776) (w : World) : Calls Try.prog 50 #[agv n, .int .i64 (now : Int)] w fun e w' => e = .returned (.int .i64 (n.sil now : Int)) ∧ Below w.heap.size w w' := by
  obtain ⟨id, last, mean, marg, bad⟩ := n
  obtain ⟨h1, h2, h3, h4, h5⟩ := h
  simp only at h1 h2 h3 h4 h5
  go_enter Try.func50, Try.ntmps50
  go_wp2_with fail
  all_goals (go_ret; refine ⟨ret_int ?_, below_alloc (Below.refl _ _) _⟩; simp only [Nd.sil]; omega)
end Go.Proofs.Ytlfnkplgjlpaaaa
