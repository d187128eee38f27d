/- The state: New, Next, Skip, State, Below, Fork of package draws; Next, Below, Fork of the document's answer. -/
import Derived.Test.YthjchlcmmemapaaNum
namespace Go.Proofs.Ythjchlcmmemapaa
open Go.RowKit Go.Sort
set_option linter.unusedVariables false

/-- block g is a generator's, at state s -/
structure Gen (w : World) (B g s : Nat) : Prop where
  cell : w.cell? ⟨g, 0, none⟩ = some (.int .u64 (s : Int))
  free : w.frozen? ⟨g, 0, none⟩ = false
  lt : g < w.heap.size
  base : B ≤ g
  small : s < 18446744073709551616
theorem Gen.keep {w w' : World} {B g s : Nat} {S : List Nat} (h : Gen w B g s) (k : Keep S w w') (h1 : g ∉ S) : Gen w' B g s :=
  ⟨(k.cell (a := ⟨g, 0, none⟩) h.lt h1).trans h.cell, (k.frozen (a := ⟨g, 0, none⟩) h.lt h1).trans h.free, Nat.lt_of_lt_of_le h.lt k.size, h.base, h.small⟩
theorem Gen.below {w w' : World} {B g s : Nat} (h : Gen w B g s) (b : Below w.heap.size w w') : Gen w' B g s := h.keep (Keep.of_below b []) (by simp)
theorem Gen.set {w : World} {B g s : Nat} (h : Gen w B g s) (s' : Nat) (hs : s' < 18446744073709551616) : Gen (w.setCell ⟨g, 0, none⟩ (.int .u64 (s' : Int))) B g s' := by
  have hc := h.cell
  have hf := h.free
  refine ⟨?_, ?_, ?_, h.base, hs⟩
  · go_simp
  · go_simp
  · have := (Keep.setCell w ⟨g, 0, none⟩ (.int .u64 (s' : Int))).size
    exact Nat.lt_of_lt_of_le h.lt this
theorem Gen.new (w : World) (B s : Nat) (t : TypeId) (hB : B ≤ w.heap.size) (hs : s < 18446744073709551616) : Gen (w.alloc (.cells #[.int .u64 (s : Int)] t)) B w.heap.size s :=
  ⟨by go_simp, by go_simp, by simp, hB, hs⟩

/-- the state behind one number -/
def nx (s : Nat) : Nat := (s + 11400714819323198485) % 18446744073709551616
theorem nx_lt (s : Nat) : nx s < 18446744073709551616 := Nat.mod_lt _ (by decide)
theorem nx_eq (s : Nat) : IntKind.u64.wrap ((s : Int) + 11400714819323198485) = (nx s : Nat) := by
  rw [IntKind.wrap_u64]; unfold nx; omega

set_option maxHeartbeats 1000000 in
theorem new_any (s : Nat) (w : World) : Calls Try.prog 8 #[.int .u64 (s : Int)] w fun e w' => e = .returned (.pointer (some ⟨w.heap.size, 0, none⟩)) ∧ w' = w.alloc (.cells #[.int .u64 (s : Int)] 51) := by
  go_enter Try.func8, Try.ntmps8
  go_wp2_with fail
  go_ret
  exact ⟨rfl, rfl⟩

set_option maxHeartbeats 1000000 in
theorem next_any (B g s : Nat) (w : World) (h : Gen w B g s) : Calls Try.prog 9 #[.pointer (some ⟨g, 0, none⟩)] w fun e w' => e = .returned (.int .u64 (mixN (nx s) : Nat)) ∧ w' = w.setCell ⟨g, 0, none⟩ (.int .u64 (nx s : Nat)) := by
  have hc := h.cell; have hf := h.free; have hl := h.lt
  have M := Lib.hid (mix_any (nx s) (nx_lt s))
  have e1 := nx_eq s
  clear h
  go_enter Try.func9, Try.ntmps9
  go_wp2_with fail
  refine (M.out _).mono ?_; rintro e w1 ⟨rfl, rfl⟩
  go_wp2_with fail
  go_ret
  exact ⟨rfl, rfl⟩
theorem next_nil (w : World) : Calls Try.prog 9 #[.pointer none] w fun e w' => e = .returned (.int .u64 0) ∧ w = w' := by
  go_enter Try.func9, Try.ntmps9
  go_wp2_with fail
  go_ret
  exact ⟨rfl, rfl⟩
theorem a_any (w : World) : Calls Try.prog 12 #[] w fun e w' => e = .returned (.int .u64 11400714819323198485) ∧ w = w' := by
  go_enter Try.func12, Try.ntmps12
  go_wp2_with fail
  go_ret
  exact ⟨rfl, rfl⟩

set_option maxHeartbeats 2000000 in
theorem rnext_any (B g s : Nat) (w : World) (h : Gen w B g s) : Calls Try.prog 10 #[.pointer (some ⟨g, 0, none⟩)] w fun e w' => e = .returned (.int .u64 (mixN (nx s) : Nat)) ∧ Gen w' B g (nx s) ∧ Keep [g] w w' := by
  have hc := h.cell; have hf := h.free; have hl := h.lt
  have M := Lib.hid (rmix_any (nx s) (nx_lt s))
  have e1 := nx_eq s
  go_enter Try.func10, Try.ntmps10
  go_wp2_with fail
  go_region_with (refine (a_any _).mono ?_; rintro e w1 ⟨rfl, rfl⟩)
  all_goals
    go_wp2_with fail
    refine (M.out _).mono ?_; rintro e w2 ⟨rfl, rfl⟩
    go_wp2_with fail
    go_ret
    refine ⟨rfl, ?_, ?_⟩
    · first
        | exact (h.set _ (nx_lt s)).below (Below.refl _ _).drew
        | exact (h.below (Below.refl _ _).drew).set _ (nx_lt s)
    · first
        | exact (Keep.setCell w ⟨g, 0, none⟩ _).trans (Keep.of_below (Below.refl _ _).drew _)
        | exact (Keep.of_below (Below.refl _ _).drew _).trans (Keep.setCell _ ⟨g, 0, none⟩ _)
end Go.Proofs.Ythjchlcmmemapaa
