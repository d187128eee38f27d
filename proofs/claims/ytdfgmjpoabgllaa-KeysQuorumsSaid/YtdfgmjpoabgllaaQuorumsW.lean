/- KeysQuorums: the walk. -/
import Derived.Test.YtdfgmjpoabgllaaFrm
import Derived.Test.YtdfgmjpoabgllaaEnough
import Derived.Test.YtdfgmjpoabgllaaAlive
namespace Go.Proofs.Ytdfgmjpoabgllaa
open Go.RowKit

def meet (l m : List Bool) : Int := (((l.zip m).filter fun p => p.1 && p.2).length : Nat)

theorem enough_yes (w : World) : Calls Try.prog 30 #[.agg #[.bool true, .bool true, .bool true, .bool false]] w fun e w' => e = .returned (.bool true) ∧ w' = w.alloc (.cells (bools true true true false) 39) :=
  enough_any true true true false w
theorem enough_no (w : World) : Calls Try.prog 30 #[.agg #[.bool true, .bool false, .bool true, .bool false]] w fun e w' => e = .returned (.bool false) ∧ w' = w.alloc (.cells (bools true false true false) 39) :=
  enough_any true false true false w
theorem meet_step {x y : Int} (h : x = y) : Value.int .i64 x = Value.int .i64 y := by rw [h]
theorem meet_s0 : ∀ a0 a1 a2 a3 b0 b1 b2 b3 : Bool, meet ([a0, a1, a2, a3].take 1) [b0, b1, b2, b3] = meet ([a0, a1, a2, a3].take 0) [b0, b1, b2, b3] + (if a0 && b0 then 1 else 0) := by decide
theorem meet_s1 : ∀ a0 a1 a2 a3 b0 b1 b2 b3 : Bool, meet ([a0, a1, a2, a3].take 2) [b0, b1, b2, b3] = meet ([a0, a1, a2, a3].take 1) [b0, b1, b2, b3] + (if a1 && b1 then 1 else 0) := by decide
theorem meet_s2 : ∀ a0 a1 a2 a3 b0 b1 b2 b3 : Bool, meet ([a0, a1, a2, a3].take 3) [b0, b1, b2, b3] = meet ([a0, a1, a2, a3].take 2) [b0, b1, b2, b3] + (if a2 && b2 then 1 else 0) := by decide
theorem meet_s3 : ∀ a0 a1 a2 a3 b0 b1 b2 b3 : Bool, meet ([a0, a1, a2, a3].take 4) [b0, b1, b2, b3] = meet ([a0, a1, a2, a3].take 3) [b0, b1, b2, b3] + (if a3 && b3 then 1 else 0) := by decide
theorem meet_le : ∀ a0 a1 a2 a3 b0 b1 b2 b3 : Bool, ∀ k : Fin 5, 0 ≤ meet ([a0, a1, a2, a3].take k) [b0, b1, b2, b3] ∧ meet ([a0, a1, a2, a3].take k) [b0, b1, b2, b3] ≤ 4 := by decide
theorem meets : ∀ a0 a1 a2 a3 b0 b1 b2 b3 : Bool, (!enoughB a0 a1 a2 a3 || (!enoughB b0 b1 b2 b3 || decide (2 ≤ meet [a0, a1, a2, a3] [b0, b1, b2, b3]))) = true := by decide

set_option maxHeartbeats 1000000 in
theorem keysQuorums_law (a0 a1 a2 a3 b0 b1 b2 b3 : Bool) (w : World) :
    Calls Try.prog 8 #[.agg #[.bool a0, .bool a1, .bool a2, .bool a3], .agg #[.bool b0, .bool b1, .bool b2, .bool b3]] w (LawOk w) := by
  go_enter Try.func8, Try.ntmps8
  go_wp2_with fail
  refine (enough_any a0 a1 a2 a3 _).mono ?_
  rintro e w1 ⟨rfl, rfl⟩
  go_wp2_with fail
  refine (enough_any b0 b1 b2 b3 _).mono ?_
  rintro e w2 ⟨rfl, rfl⟩
  go_wp2_with fail
  go_loop [7, 8] (fun t i => ∃ k : Nat, k ≤ 4 ∧ i = .int .i64 k ∧ t = .int .i64 (meet ([a0, a1, a2, a3].take k) [b0, b1, b2, b3])) (fun _ i => 4 - (intOf i).toNat)
  case atStart => exact ⟨0, Nat.zero_le _, rfl, rfl⟩
  case round =>
    obtain ⟨k, hk, rfl, rfl⟩ := hrel
    have hk5 : k = 0 ∨ k = 1 ∨ k = 2 ∨ k = 3 ∨ k = 4 := by omega
    rcases hk5 with rfl | rfl | rfl | rfl | rfl
    · have hs := Lib.hid (meet_s0 a0 a1 a2 a3 b0 b1 b2 b3)
      have hb := meet_le a0 a1 a2 a3 b0 b1 b2 b3 ⟨0, by omega⟩
      simp only at hb
      generalize meet (List.take 0 [a0, a1, a2, a3]) [b0, b1, b2, b3] = m0 at *
      cases a0 <;> cases b0
      all_goals
        go_wp2_with fail
        go_round
        case rel => exact ⟨1, by omega, rfl, meet_step (by rw [hs.out]; simp)⟩
        case measure => simp [intOf]
    · have hs := Lib.hid (meet_s1 a0 a1 a2 a3 b0 b1 b2 b3)
      have hb := meet_le a0 a1 a2 a3 b0 b1 b2 b3 ⟨1, by omega⟩
      simp only at hb
      generalize meet (List.take 1 [a0, a1, a2, a3]) [b0, b1, b2, b3] = m0 at *
      cases a1 <;> cases b1
      all_goals
        go_wp2_with fail
        go_round
        case rel => exact ⟨2, by omega, rfl, meet_step (by rw [hs.out]; simp)⟩
        case measure => simp [intOf]
    · have hs := Lib.hid (meet_s2 a0 a1 a2 a3 b0 b1 b2 b3)
      have hb := meet_le a0 a1 a2 a3 b0 b1 b2 b3 ⟨2, by omega⟩
      simp only at hb
      generalize meet (List.take 2 [a0, a1, a2, a3]) [b0, b1, b2, b3] = m0 at *
      cases a2 <;> cases b2
      all_goals
        go_wp2_with fail
        go_round
        case rel => exact ⟨3, by omega, rfl, meet_step (by rw [hs.out]; simp)⟩
        case measure => simp [intOf]
    · have hs := Lib.hid (meet_s3 a0 a1 a2 a3 b0 b1 b2 b3)
      have hb := meet_le a0 a1 a2 a3 b0 b1 b2 b3 ⟨3, by omega⟩
      simp only at hb
      generalize meet (List.take 3 [a0, a1, a2, a3]) [b0, b1, b2, b3] = m0 at *
      cases a3 <;> cases b3
      all_goals
        go_wp2_with fail
        go_round
        case rel => exact ⟨4, by omega, rfl, meet_step (by rw [hs.out]; simp)⟩
        case measure => simp [intOf]
    · have hm := meets a0 a1 a2 a3 b0 b1 b2 b3
      have c1 := Lib.hid enough_yes
      have c2 := Lib.hid enough_no
      have hway : enoughB a0 a1 a2 a3 = false ∨ (enoughB a0 a1 a2 a3 = true ∧ enoughB b0 b1 b2 b3 = false) ∨ (enoughB a0 a1 a2 a3 = true ∧ enoughB b0 b1 b2 b3 = true ∧ 2 ≤ meet [a0, a1, a2, a3] [b0, b1, b2, b3]) := by
        cases h1 : enoughB a0 a1 a2 a3 <;> cases h2 : enoughB b0 b1 b2 b3 <;> simp_all
      clear hm
      rcases hway with h1 | ⟨h1, h2⟩ | ⟨h1, h2, h3⟩
      all_goals
        go_wp2_with fail
        refine (alive_any _).mono ?_
        rintro e w3 ⟨rfl, bl⟩
        go_wp2_with fail
        refine (c1.out _).mono ?_
        rintro e w4 ⟨rfl, rfl⟩
        go_wp2_with fail
        refine (c2.out _).mono ?_
        rintro e w5 ⟨rfl, rfl⟩
        go_wp2_with fail
        go_ret
        refine ⟨rfl, ?_⟩
        exact below_alloc (below_alloc (below_of_alloc (below_of_alloc (below_of_alloc (below_of_alloc bl)))) _) _

end Go.Proofs.Ytdfgmjpoabgllaa
