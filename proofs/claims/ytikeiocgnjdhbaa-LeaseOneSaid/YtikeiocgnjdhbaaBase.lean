/- The small functions of package arcs and their likes of the document's answer: Right, Has, further, ahead, isPlace. -/
import Derived.Test.YtikeiocgnjdhbaaHolds
import Derived.WalkSpells
import Derived.WalkLawsBesides
import Derived.Deep.QuietTactic
import Derived.BigQuiet
import Derived.Deep.RegionWith
import Derived.Deep.RegionHeld3
import Derived.Lib.Hide
import Derived.Lib.QuietBelow
import Derived.IntWalk
namespace Go.Proofs.Ytikeiocgnjdhbaa
open Go.RowKit Go.Sort
set_option linter.unusedVariables false

theorem ret_bool {a b : Bool} (h : a = b) : Ending.returned (.bool a) = .returned (.bool b) := by rw [h]
theorem ret_int {k : IntKind} {a b : Int} (h : a = b) : Ending.returned (.int k a) = .returned (.int k b) := by rw [h]
theorem same_below {P : Program} {n : Nat} {xs : Array Value} {w : World} {r : Ending} (h : Calls P n xs w fun e w' => e = r ∧ w = w') : Calls P n xs w fun e w' => e = r ∧ Below w.heap.size w w' :=
  h.mono fun e w' ⟨h1, h2⟩ => ⟨h1, h2 ▸ Below.refl _ _⟩
abbrev Ret (n : Nat) (xs : Array Value) (r : Ending) : Prop := ∀ w, Calls Try.prog n xs w fun e w' => e = r ∧ Below w.heap.size w w'
theorem Ret.re {n : Nat} {xs : Array Value} {v : Value} (h : Ret n xs (.returned v)) (w : World) (d : Nat) (os : Array Obj) :
    Calls Try.prog n xs (grow (redrawn w d) os) fun e w'' => e = .returned v ∧ ∃ p : Regrown, w'' = grow (redrawn w p.d) p.os := Calls.regrown_of (h _)
abbrev arc (f s : Int) : Value := .agg #[.int .i64 f, .int .i64 s]

def placeB (p : Int) : Bool := decide (0 ≤ p ∧ p < 64)
/-- may the arc be -/
def rightB (f s : Int) : Bool := decide (0 ≤ f ∧ f < 64 ∧ 0 ≤ s ∧ s ≤ 64)
/-- has the arc the place -/
def hasB (f s p : Int) : Bool := rightB f s && (placeB p && decide ((p - f + 64) % 64 < s))

set_option maxHeartbeats 400000 in
theorem isplace_any (a : Int) (w : World) :
    Calls Try.prog 31 #[.int .i64 a] w fun e w' => e = .returned (.bool (placeB a)) ∧ w = w' := by
  go_enter Try.func31, Try.ntmps31
  go_wp2_with fail
  all_goals
    go_ret
    refine ⟨?_, rfl⟩
    refine ret_bool ?_
    unfold placeB
    rw [Bool.eq_iff_iff]
    simp
    try omega

set_option maxHeartbeats 400000 in
theorem further_any (p n : Int) (h0 : 0 ≤ p) (h1 : p < 64) (h2 : 0 ≤ n) (h3 : n ≤ 64) (w : World) :
    Calls Try.prog 40 #[.int .i64 p, .int .i64 n] w fun e w' => e = .returned (.int .i64 ((p + n) % 64)) ∧ w = w' := by
  go_enter Try.func40, Try.ntmps40
  go_wp2_with fail
  go_ret
  exact ⟨rfl, rfl⟩

set_option maxHeartbeats 400000 in
theorem ahead_any (f p : Int) (h0 : 0 ≤ p) (h1 : p < 64) (h2 : 0 ≤ f) (h3 : f < 64) (w : World) :
    Calls Try.prog 32 #[.int .i64 f, .int .i64 p] w fun e w' => e = .returned (.int .i64 ((p - f + 64) % 64)) ∧ w = w' := by
  go_enter Try.func32, Try.ntmps32
  go_wp2_with fail
  go_ret
  exact ⟨rfl, rfl⟩

/-- the world behind a call that boxes an arc -/
abbrev boxed (f s : Int) (w : World) : World := w.alloc (.cells #[.int .i64 f, .int .i64 s] 37)

set_option maxHeartbeats 400000 in
theorem right_at (f s : Int) (w : World) : Calls Try.prog 30 #[arc f s] w fun e w' => e = .returned (.bool (rightB f s)) ∧ w' = boxed f s w := by
  by_cases hp : 0 ≤ f ∧ f < 64
  · have c := isplace_any f
    rw [show placeB f = true by simp [placeB]; omega] at c
    have C := Lib.hid c; clear c
    go_enter Try.func30, Try.ntmps30
    go_wp2_with fail
    refine (C.out _).mono ?_
    rintro e w1 ⟨rfl, rfl⟩
    go_wp2_with fail
    all_goals
      go_ret
      refine ⟨ret_bool ?_, rfl⟩
      unfold rightB
      rw [Bool.eq_iff_iff]
      simp
      try omega
  · have c := isplace_any f
    rw [show placeB f = false by simp [placeB]; omega] at c
    have C := Lib.hid c; clear c
    have hr : rightB f s = false := by simp [rightB]; omega
    rw [hr]
    clear hp hr
    go_enter Try.func30, Try.ntmps30
    go_wp2_with fail
    refine (C.out _).mono ?_
    rintro e w1 ⟨rfl, rfl⟩
    go_wp2_with fail
    go_ret
    exact ⟨rfl, rfl⟩
theorem right_any (f s : Int) : Ret 30 #[arc f s] (.returned (.bool (rightB f s))) := fun w =>
  (right_at f s w).mono fun e w' ⟨h1, h2⟩ => ⟨h1, h2 ▸ below_alloc (Below.refl _ _) _⟩

set_option maxHeartbeats 400000 in
theorem rright_at (f s : Int) (w : World) : Calls Try.prog 36 #[arc f s] w fun e w' => e = .returned (.bool (rightB f s)) ∧ w' = boxed f s w := by
  go_enter Try.func36, Try.ntmps36
  go_wp2_with fail
  all_goals
    go_ret
    refine ⟨ret_bool ?_, rfl⟩
    unfold rightB
    rw [Bool.eq_iff_iff]
    simp
    try omega
theorem rright_any (f s : Int) : Ret 36 #[arc f s] (.returned (.bool (rightB f s))) := fun w =>
  (rright_at f s w).mono fun e w' ⟨h1, h2⟩ => ⟨h1, h2 ▸ below_alloc (Below.refl _ _) _⟩

theorem place_spec {p : Int} : placeB p = true ↔ 0 ≤ p ∧ p < 64 := by simp [placeB]
theorem right_spec {f s : Int} : rightB f s = true ↔ 0 ≤ f ∧ f < 64 ∧ 0 ≤ s ∧ s ≤ 64 := by simp [rightB]

end Go.Proofs.Ytikeiocgnjdhbaa
