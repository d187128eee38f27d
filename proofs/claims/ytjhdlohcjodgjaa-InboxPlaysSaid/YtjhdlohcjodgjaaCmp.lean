/- byNumber, byDue: the orders. -/
import Derived.Test.YtjhdlohcjodgjaaCal
import Derived.Deep.RegionWith
import Derived.Deep.Draws
import Derived.Sort.Grow
namespace Go.Proofs.Ytjhdlohcjodgjaa
open Go.RowKit Go.Sort
set_option linter.unusedVariables false

def cmpI (x y : Int) : Int := if x < y then -1 else if y < x then 1 else 0
set_option maxHeartbeats 400000 in
theorem nan64_any (x : Int) : Still 55 #[.int .i64 x] (.returned (.bool false)) := by
  intro w
  go_enter Try.func55, Try.ntmps55
  go_wp2_with fail
  all_goals
    go_ret
    exact ⟨ret_bool (by simp), rfl⟩
set_option maxHeartbeats 400000 in
theorem nanu64_any (x : Int) : Still 56 #[.int .u64 x] (.returned (.bool false)) := by
  intro w
  go_enter Try.func56, Try.ntmps56
  go_wp2_with fail
  all_goals
    go_ret
    exact ⟨ret_bool (by simp), rfl⟩
set_option maxHeartbeats 800000 in
theorem compare64_any (x y : Int) : Still 49 #[.int .i64 x, .int .i64 y] (.returned (.int .i64 (cmpI x y))) := by
  intro w
  have C1 := Lib.hid nan64_any
  go_enter Try.func49, Try.ntmps49
  go_wp2_with (go_at_call 55; refine (C1.out _ _).mono ?_; rintro e w1 ⟨rfl, rfl⟩)
  all_goals
    go_ret
    refine ⟨ret_int ?_, rfl⟩
    unfold cmpI
    split <;> (try split) <;> omega
set_option maxHeartbeats 800000 in
theorem compareu64_any (x y : Int) : Still 50 #[.int .u64 x, .int .u64 y] (.returned (.int .i64 (cmpI x y))) := by
  intro w
  have C1 := Lib.hid nanu64_any
  go_enter Try.func50, Try.ntmps50
  go_wp2_with (go_at_call 56; refine (C1.out _ _).mono ?_; rintro e w1 ⟨rfl, rfl⟩)
  all_goals
    go_ret
    refine ⟨ret_int ?_, rfl⟩
    unfold cmpI
    split <;> (try split) <;> omega
abbrev boxc (p : Cal) : Obj := .cells p.cells 70
/-- the orders as numbers -/
def cfNum (x y : Cal) : Int := cmpI x.id y.id
def cfDue (x y : Cal) : Int := if cmpI x.due y.due ≠ 0 then cmpI x.due y.due else cmpI x.id y.id
set_option maxHeartbeats 800000 in
theorem bynum_any (x y : Cal) (w : World) : Calls Try.prog 38 #[agv x, agv y] w fun e w' => e = .returned (.int .i64 (cfNum x y)) ∧ w' = (w.alloc (boxc x)).alloc (boxc y) := by
  have C1 := Lib.hid compareu64_any
  obtain ⟨i, t, s, tr, d⟩ := x
  obtain ⟨i', t', s', tr', d'⟩ := y
  go_enter Try.func38, Try.ntmps38
  go_wp2_with (go_at_call 50; refine (C1.out _ _ _).mono ?_; rintro e w1 ⟨rfl, rfl⟩)
  go_ret
  exact ⟨rfl, rfl⟩
/-- cmp.Or of two -/
def orI (a b : Int) : Int := if a ≠ 0 then a else b
set_option maxHeartbeats 800000 in
theorem or_any (a b : Int) (g : Nat) (w : World) (h0 : w.cell? ⟨g, 0, none⟩ = some (.int .i64 a)) (h1 : w.cell? ⟨g, 1, none⟩ = some (.int .i64 b)) :
    Calls Try.prog 48 #[.slice (some ⟨g, 0, none⟩) 2 2] w fun e w' => e = .returned (.int .i64 (orI a b)) ∧ w = w' := by
  by_cases ha : a = 0
  · subst ha
    by_cases hb : b = 0
    · subst hb
      go_enter Try.func48, Try.ntmps48
      go_wp2_with fail
      refine wp_loop_rounds 3 ?_
      rw [rounds_succ]
      go_wp2_with fail
      rw [rounds_succ]
      go_wp2_with fail
      rw [rounds_succ]
      go_wp2_with fail
      go_ret
      exact ⟨rfl, rfl⟩
    · go_enter Try.func48, Try.ntmps48
      go_wp2_with fail
      refine wp_loop_rounds 2 ?_
      rw [rounds_succ]
      go_wp2_with fail
      rw [rounds_succ]
      go_wp2_with fail
      go_ret
      exact ⟨ret_int (by simp [orI]), rfl⟩
  · go_enter Try.func48, Try.ntmps48
    go_wp2_with fail
    refine wp_loop_rounds 1 ?_
    rw [rounds_succ]
    go_wp2_with fail
    go_ret
    exact ⟨ret_int (by simp [orI, ha]), rfl⟩
end Go.Proofs.Ytjhdlohcjodgjaa
