/- The live question of the statements: a node alone that is asked. -/
import Derived.Test.YthdhpgpdbdjaeaaCmp
import Derived.Deep.AppendLies
import Derived.Deep.RegionLaw
namespace Go.Proofs.Ythdhpgpdbdjaeaa
open Go.RowKit Go.Sort
set_option linter.unusedVariables false
set_option maxRecDepth 100000

theorem results_cell1 {P : Program} {fn : Func} {t : Tmp} {u : TypeId} {tmps : Array Value} {w : World} {ad : Addr} {v : Value} (h : fn.results = #[.cell t u]) (ht : tmps.getD t undef = .pointer (some ad))
    (hl : (loadVar u ad).run P w = .ok v w) : (results fn tmps).run P w = .ok v w := by
  have ht' : tmps[t]?.getD undef = .pointer (some ad) := by simpa using ht
  simp [results, h, ht', asAddr, hl]
abbrev Still (n : Nat) (xs : Array Value) (r : Ending) : Prop := ∀ w, Calls Try.prog n xs w fun e w' => e = r ∧ w = w'
abbrev isN (a : Int) : Bool := decide (0 ≤ a) && decide (a ≤ 255)
set_option maxHeartbeats 400000 in
theorem isnode_any (a : Int) : Still 36 #[.int .i64 a] (.returned (.bool (isN a))) := by
  intro w
  unfold isN
  by_cases h : 0 ≤ a
  · rw [decide_eq_true h, Bool.true_and]
    go_enter Try.func36, Try.ntmps36
    go_wp2_with fail
    go_ret
    exact ⟨by simp, rfl⟩
  · rw [decide_eq_false h, Bool.false_and]
    go_enter Try.func36, Try.ntmps36
    go_wp2_with fail
    go_ret
    exact ⟨by simp, rfl⟩
abbrev peer (n h l : Int) : Value := .agg #[.int .i64 n, .int .u64 h, .int .u64 l]
set_option maxHeartbeats 800000 in
theorem at_any (n l : Int) : Ret 26 #[.int .i64 n, .int .u64 l] (.returned (peer n 0 l)) := by
  intro w
  go_enter Try.func26, Try.ntmps26
  go_wp2_with fail
  refine bodyPost_ret (v := peer n 0 l) (results_cell1 Try.results26 rfl ?_) rfl ⟨rfl, ?_⟩
  · go_simp
  · exact below_alloc (Below.refl _ _) _
/-- a node's own row -/
abbrev rowR (n h l n' h' l' : Int) (sv : Value) (j : Bool) (a : Int) : Array Value := #[.int .i64 n, .int .u64 h, .int .u64 l, .int .i64 n', .int .u64 h', .int .u64 l', sv, .bool j, .int .i64 a]
set_option maxHeartbeats 800000 in
theorem new_yes (n h l : Int) (hn : isN n = true) (w : World) : Calls Try.prog 25 #[peer n h l] w fun e w' => ∃ g, e = .returned (.tuple #[.pointer (some ⟨g, 0, none⟩), .int .i64 0]) ∧ w.heap.size ≤ g ∧ w'.heap[g]? = some (.cells (rowR n h l n h l (.slice none 0 0) false 0) 88 (0, 0)) ∧ Below w.heap.size w w' := by
  have I1 := isnode_any n
  rw [hn] at I1
  have I1 := Lib.hid I1
  clear hn
  go_enter Try.func25, Try.ntmps25
  go_wp2_with fail
  refine (I1.out _).mono ?_; rintro e w1 ⟨rfl, rfl⟩
  go_wp2_with fail
  go_ret2
  refine ⟨_, rfl, ?_, ?_, below_alloc (below_alloc (Below.refl _ _) _) _⟩
  · simp
  · have := heap_alloc_new (w.alloc (.cells #[.int .i64 n, .int .u64 h, .int .u64 l] 76)) (.cells (rowR n h l n h l (.slice none 0 0) false 0) 88)
    rwa [World.size_alloc] at this
set_option maxHeartbeats 800000 in
theorem new_no (n h l : Int) (hn : isN n = false) (w : World) : Calls Try.prog 25 #[peer n h l] w fun e w' => e = .returned (.tuple #[.pointer none, .int .i64 1]) ∧ Below w.heap.size w w' := by
  have I1 := isnode_any n
  rw [hn] at I1
  have I1 := Lib.hid I1
  clear hn
  go_enter Try.func25, Try.ntmps25
  go_wp2_with fail
  refine (I1.out _).mono ?_; rintro e w1 ⟨rfl, rfl⟩
  go_wp2_with fail
  go_ret2
  exact ⟨rfl, below_alloc (Below.refl _ _) _⟩
end Go.Proofs.Ythdhpgpdbdjaeaa
