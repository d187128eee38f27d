/- lease: isNode, Valid, MayTake, owns, and the document's. -/
import Derived.Test.YtikeiocgnjdhbaaTb
namespace Go.Proofs.Ytikeiocgnjdhbaa
open Go.RowKit Go.Sort
set_option linter.unusedVariables false
set_option linter.unusedSimpArgs false

abbrev Still (n : Nat) (xs : Array Value) (r : Ending) : Prop := ∀ w, Calls Try.prog n xs w fun e w' => e = r ∧ w = w'
def isN (a : Int) : Bool := decide (0 ≤ a ∧ a < 12)
theorem isN_spec {a : Int} : isN a = true ↔ 0 ≤ a ∧ a < 12 := by simp [isN]
theorem isnode_any (a : Int) : Still 33 #[.int .i64 a] (.returned (.bool (isN a))) := by
  intro w
  go_enter Try.func33, Try.ntmps33
  go_wp2_with fail
  all_goals
    go_ret
    refine ⟨?_, rfl⟩
    refine ret_bool ?_
    unfold isN
    rw [Bool.eq_iff_iff]
    simp
    try omega
/-- a lease holds -/
def validB (a s : Int) : Bool := decide (s ≤ a ∧ a - s < 1000)
def takeB (a s : Int) : Bool := decide (s ≤ a ∧ 1225 ≤ a - s)
theorem valid_any (a s : Int) (ha : 0 ≤ a ∧ a < 18446744073709551616) (hs : 0 ≤ s ∧ s < 18446744073709551616) : Still 19 #[.int .u64 a, .int .u64 s] (.returned (.bool (validB a s))) := by
  intro w
  obtain ⟨ha0, ha1⟩ := ha; obtain ⟨hs0, hs1⟩ := hs
  by_cases h : s ≤ a
  · have hw : IntKind.u64.wrap (a - s) = a - s := by rw [IntWalk.u64_in _ (by omega)]
    go_enter Try.func19, Try.ntmps19
    go_wp2_with fail
    go_ret
    refine ⟨ret_bool ?_, rfl⟩
    simp [validB, h, hw]
  · go_enter Try.func19, Try.ntmps19
    go_wp2_with fail
    go_ret
    refine ⟨ret_bool ?_, rfl⟩
    simp [validB]
    omega
theorem rvalid_any (a s : Int) (ha : 0 ≤ a ∧ a < 18446744073709551616) (hs : 0 ≤ s ∧ s < 18446744073709551616) : Still 20 #[.int .u64 a, .int .u64 s] (.returned (.bool (validB a s))) := by
  intro w
  obtain ⟨ha0, ha1⟩ := ha; obtain ⟨hs0, hs1⟩ := hs
  by_cases h : s ≤ a
  · have hw : IntKind.u64.wrap (a - s) = a - s := by rw [IntWalk.u64_in _ (by omega)]
    go_enter Try.func20, Try.ntmps20
    go_wp2_with fail
    go_ret
    refine ⟨ret_bool ?_, rfl⟩
    simp [validB, h, hw]
  · go_enter Try.func20, Try.ntmps20
    go_wp2_with fail
    go_ret
    refine ⟨ret_bool ?_, rfl⟩
    simp [validB]
    omega
theorem take_any (a s : Int) (ha : 0 ≤ a ∧ a < 18446744073709551616) (hs : 0 ≤ s ∧ s < 18446744073709551616) : Still 21 #[.int .u64 a, .int .u64 s] (.returned (.bool (takeB a s))) := by
  intro w
  obtain ⟨ha0, ha1⟩ := ha; obtain ⟨hs0, hs1⟩ := hs
  by_cases h : s ≤ a
  · have hw : IntKind.u64.wrap (a - s) = a - s := by rw [IntWalk.u64_in _ (by omega)]
    go_enter Try.func21, Try.ntmps21
    go_wp2_with fail
    go_ret
    refine ⟨ret_bool ?_, rfl⟩
    simp [takeB, h, hw]
  · go_enter Try.func21, Try.ntmps21
    go_wp2_with fail
    go_ret
    refine ⟨ret_bool ?_, rfl⟩
    simp [takeB]
    omega
theorem rtake_any (a s : Int) (ha : 0 ≤ a ∧ a < 18446744073709551616) (hs : 0 ≤ s ∧ s < 18446744073709551616) : Still 22 #[.int .u64 a, .int .u64 s] (.returned (.bool (takeB a s))) := by
  intro w
  obtain ⟨ha0, ha1⟩ := ha; obtain ⟨hs0, hs1⟩ := hs
  by_cases h : s ≤ a
  · have hw : IntKind.u64.wrap (a - s) = a - s := by rw [IntWalk.u64_in _ (by omega)]
    go_enter Try.func22, Try.ntmps22
    go_wp2_with fail
    go_ret
    refine ⟨ret_bool ?_, rfl⟩
    simp [takeB, h, hw]
  · go_enter Try.func22, Try.ntmps22
    go_wp2_with fail
    go_ret
    refine ⟨ret_bool ?_, rfl⟩
    simp [takeB]
    omega

/-- is the place the node's -/
def ownB (T : Tb) (n : Int) (p : Nat) : Bool := isN n && T.o p == n
set_option maxHeartbeats 1000000 in
theorem owns_any (T : Tb) (s : T.Sz) (n : Int) (p : Nat) (hp : p < 64) : Ret 27 #[.agg ⟨T.list⟩, .int .i64 n, .int .i64 (p : Int)] (.returned (.bool (ownB T n p))) := by
  intro w
  have C1 := Lib.hid (isnode_any n)
  have hb : ownB T n p = (isN n && T.o p == n) := rfl
  rw [hb]; clear hb
  have hc := (TbR.new w T).own s hp
  have hW : Below w.heap.size w (w.alloc (.cells ⟨T.list⟩ 29)) := below_alloc (Below.refl _ _) _
  generalize isN n = c at *
  go_enter Try.func27, Try.ntmps27
  cases c <;>
  · go_wp2_with fail
    refine (C1.out _).mono ?_
    rintro e w1 ⟨rfl, rfl⟩
    go_wp2_with fail
    go_ret
    exact ⟨rfl, hW⟩
end Go.Proofs.Ytikeiocgnjdhbaa
