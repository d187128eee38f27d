/- KeyBucket, and the live question of the statements. -/
import Derived.Test.YtdfgmjpoabgllaaPlace
namespace Go.Proofs.Ytdfgmjpoabgllaa
open Go.RowKit

/-- the bucket of a key -/
def kb (s : ByteArray) : Int := word s 0 / 288230376151711744

set_option maxHeartbeats 400000 in
theorem keybucket_any (s : ByteArray) (hs : s.size ≤ maxLen) (w : World) :
    Calls Try.prog 19 #[.string s] w fun e w' => e = .returned (.int .i64 (kb s)) ∧ Below w.heap.size w w' := by
  go_enter Try.func19, Try.ntmps19
  go_wp2_with fail
  refine (of_any s hs _).mono ?_
  rintro e w1 ⟨rfl, b1⟩
  go_wp2_with fail
  refine (bucket_any _ _ (word_nonneg _ _) (word_lt _ _) _).mono ?_
  rintro e w2 ⟨rfl, b2⟩
  go_wp2_with fail
  go_ret
  exact ⟨rfl, b1.trans (b2.mono b1.size)⟩

set_option maxHeartbeats 400000 in
theorem alive_any (w : World) :
    Calls Try.prog 11 #[] w fun e w' => e = .returned (.bool true) ∧ Below w.heap.size w w' := by
  have c1 := place_in 60 1 (by omega) (by omega) (by omega) (by omega)
  have c2 := keybucket_any ⟨#[97]⟩ (by decide)
  have e2 : kb ⟨#[97]⟩ = 24 := by decide
  rw [e2] at c2
  clear e2
  have c3 := maykey_any ⟨#[97]⟩ (by decide)
  have e3 : decide (1 ≤ (⟨#[97]⟩ : ByteArray).size ∧ (⟨#[97]⟩ : ByteArray).size ≤ 32) = true := by decide
  rw [e3] at c3
  clear e3
  go_enter Try.func11, Try.ntmps11
  have C1 := Lib.hid c1; clear c1
  have C2 := Lib.hid c2; clear c2
  have C3 := Lib.hid c3; clear c3
  go_wp2_with fail
  refine (C1.out _).mono ?_
  rintro e w' ⟨rfl, rfl⟩
  go_wp2_with fail
  refine (C2.out _).mono ?_
  rintro e w2 ⟨rfl, b2⟩
  go_wp2_with fail
  refine (C3.out _).mono ?_
  rintro e w3 ⟨rfl, rfl⟩
  go_wp2_with fail
  go_ret
  exact ⟨rfl, b2⟩

end Go.Proofs.Ytdfgmjpoabgllaa
