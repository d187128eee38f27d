/- Cmp and Span of package keys. -/
import Derived.Test.YtdfgmjpoabgllaaAlive
import Derived.Test.YtdfgmjpoabgllaaOrder
import Derived.Test.YtdfgmjpoabgllaaFrm
namespace Go.Proofs.Ytdfgmjpoabgllaa
open Go.RowKit

/-- how two numbers stand -/
def cmpI (a b : Int) : Int := if a < b then -1 else if b < a then 1 else 0
/-- how two positions stand -/
def cmpP (h l h' l' : Int) : Int := if h = h' then cmpI l l' else cmpI h h'

set_option maxHeartbeats 400000 in
theorem nan_any (a : Int) (w : World) :
    Calls Try.prog 38 #[.int .u64 a] w fun e w' => e = .returned (.bool false) ∧ w = w' := by
  go_enter Try.func38, Try.ntmps38
  go_wp2_with fail
  go_ret
  exact ⟨by simp, rfl⟩

set_option maxHeartbeats 400000 in
theorem compare_any (a b : Int) (w : World) :
    Calls Try.prog 37 #[.int .u64 a, .int .u64 b] w fun e w' => e = .returned (.int .i64 (cmpI a b)) ∧ w = w' := by
  have hway : a < b ∨ b < a ∨ a = b := by omega
  rcases hway with h | h | rfl
  · have hc : cmpI a b = -1 := by simp [cmpI, h]
    rw [hc]
    go_enter Try.func37, Try.ntmps37
    go_wp2_with fail
    refine (nan_any a _).mono ?_
    rintro e w1 ⟨rfl, rfl⟩
    go_wp2_with fail
    refine (nan_any b _).mono ?_
    rintro e w1 ⟨rfl, rfl⟩
    go_wp2_with fail
    go_ret
    exact ⟨rfl, rfl⟩
  · have hc : cmpI a b = 1 := by simp [cmpI, h]; omega
    rw [hc]
    go_enter Try.func37, Try.ntmps37
    go_wp2_with fail
    refine (nan_any a _).mono ?_
    rintro e w1 ⟨rfl, rfl⟩
    go_wp2_with fail
    refine (nan_any b _).mono ?_
    rintro e w1 ⟨rfl, rfl⟩
    go_wp2_with fail
    go_ret
    exact ⟨rfl, rfl⟩
  · have hc : cmpI a a = 0 := by simp [cmpI]
    rw [hc]
    go_enter Try.func37, Try.ntmps37
    go_wp2_with fail
    refine (nan_any a _).mono ?_
    rintro e w1 ⟨rfl, rfl⟩
    go_wp2_with fail
    refine (nan_any a _).mono ?_
    rintro e w1 ⟨rfl, rfl⟩
    go_wp2_with fail
    go_ret
    exact ⟨rfl, rfl⟩

set_option maxHeartbeats 400000 in
theorem cmp_any (h l h' l' : Int) (w : World) :
    Calls Try.prog 32 #[pos h l, pos h' l'] w fun e w' => e = .returned (.int .i64 (cmpP h l h' l')) ∧ Below w.heap.size w w' := by
  by_cases he : h = h'
  · subst he
    have hc : cmpP h l h l' = cmpI l l' := by simp [cmpP]
    rw [hc]
    go_enter Try.func32, Try.ntmps32
    go_wp2_with fail
    refine (compare_any l l' _).mono ?_
    rintro e w1 ⟨rfl, rfl⟩
    go_wp2_with fail
    go_ret
    exact ⟨rfl, below_alloc (below_alloc (Below.refl _ _) _) _⟩
  · have hc : cmpP h l h' l' = cmpI h h' := by simp [cmpP, he]
    rw [hc]
    have hn : (h != h') = true := by simp [he]
    go_enter Try.func32, Try.ntmps32
    go_wp2_with fail
    refine (compare_any h h' _).mono ?_
    rintro e w1 ⟨rfl, rfl⟩
    go_wp2_with fail
    go_ret
    exact ⟨rfl, below_alloc (below_alloc (Below.refl _ _) _) _⟩

abbrev three (x y z : Int) : Ending := .returned (.tuple #[.int .i64 x, .int .i64 y, .int .i64 z])
/-- a text is greater than another, as the walk has it -/
abbrev grt (a b : ByteArray) : Bool := !(Op.bytesLess a.toList b.toList || a.toList == b.toList)

set_option maxHeartbeats 400000 in
theorem span_in (a b : ByteArray) (ha : a.size ≤ maxLen) (hb : b.size ≤ maxLen) (h : grt a b = false) (w : World) :
    Calls Try.prog 28 #[.string a, .string b] w fun e w' => e = three (kb a) (kb b) 0 ∧ Below w.heap.size w w' := by
  go_enter Try.func28, Try.ntmps28
  go_wp2_with fail
  refine (keybucket_any a ha _).mono ?_
  rintro e w1 ⟨rfl, b1⟩
  go_wp2_with fail
  refine (keybucket_any b hb _).mono ?_
  rintro e w2 ⟨rfl, b2⟩
  go_wp2_with fail
  go_ret3
  exact ⟨rfl, below_next b1 b2⟩

set_option maxHeartbeats 400000 in
theorem span_out (a b : ByteArray) (h : grt a b = true) (w : World) :
    Calls Try.prog 28 #[.string a, .string b] w fun e w' => e = three 0 0 1 ∧ w = w' := by
  go_enter Try.func28, Try.ntmps28
  go_wp2_with fail
  go_ret3
  exact ⟨rfl, rfl⟩

end Go.Proofs.Ytdfgmjpoabgllaa
