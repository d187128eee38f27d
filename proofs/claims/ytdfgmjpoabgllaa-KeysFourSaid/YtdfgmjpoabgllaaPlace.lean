/- Places, buckets, homes, symmetric positions of package keys. -/
import Derived.Test.YtdfgmjpoabgllaaKeys
namespace Go.Proofs.Ytdfgmjpoabgllaa
open Go.RowKit

abbrev pair (x e : Int) : Ending := .returned (.tuple #[.int .i64 x, .int .i64 e])

set_option maxHeartbeats 400000 in
theorem place_in (a i : Int) (h0 : 0 ≤ a) (h1 : a < 64) (h2 : 0 ≤ i) (h3 : i < 4) (w : World) :
    Calls Try.prog 22 #[.int .i64 a, .int .i64 i] w fun e w' => e = pair ((a + 16 * i) % 64) 0 ∧ w = w' := by
  go_enter Try.func22, Try.ntmps22
  go_wp2_with fail
  refine (isb_any a _).mono ?_
  rintro e w' ⟨rfl, rfl⟩
  go_wp2_with fail
  refine (isr_any i _).mono ?_
  rintro e w' ⟨rfl, rfl⟩
  go_wp2_with fail
  go_ret2
  exact ⟨rfl, rfl⟩

set_option maxHeartbeats 400000 in
theorem place_out (a i : Int) (h : ¬ (0 ≤ a ∧ a < 64 ∧ 0 ≤ i ∧ i < 4)) (w : World) :
    Calls Try.prog 22 #[.int .i64 a, .int .i64 i] w fun e w' => e = pair 0 1 ∧ w = w' := by
  by_cases hb : 0 ≤ a ∧ a < 64
  · have hr : ¬ (0 ≤ i ∧ i < 4) := by omega
    have e1 : decide (0 ≤ a ∧ a < 64) = true := by simpa using hb
    have e2 : decide (0 ≤ i ∧ i < 4) = false := by simpa using hr
    have c1 := isb_any a
    have c2 := isr_any i
    rw [e1] at c1
    rw [e2] at c2
    clear h hb hr e1 e2
    have C1 := Lib.hid c1; clear c1
    have C2 := Lib.hid c2; clear c2
    go_enter Try.func22, Try.ntmps22
    go_wp2_with fail
    refine (C1.out _).mono ?_
    rintro e w' ⟨rfl, rfl⟩
    go_wp2_with fail
    refine (C2.out _).mono ?_
    rintro e w' ⟨rfl, rfl⟩
    go_wp2_with fail
    go_ret2
    exact ⟨rfl, rfl⟩
  · have e1 : decide (0 ≤ a ∧ a < 64) = false := by simpa using hb
    have c1 := isb_any a
    rw [e1] at c1
    clear h hb e1
    have C1 := Lib.hid c1; clear c1
    go_enter Try.func22, Try.ntmps22
    go_wp2_with fail
    refine (C1.out _).mono ?_
    rintro e w' ⟨rfl, rfl⟩
    go_wp2_with fail
    go_ret2
    exact ⟨rfl, rfl⟩

end Go.Proofs.Ytdfgmjpoabgllaa
