/- Waits: isWait, Fair, isTime, isRoom, Wait, the document's Wait. -/
import Derived.Test.YtjhdlohcjodgjaaBs
namespace Go.Proofs.Ytjhdlohcjodgjaa
open Go.RowKit Go.Sort
set_option linter.unusedVariables false

abbrev Ret (n : Nat) (xs : Array Value) (r : Ending) : Prop := ∀ w, Calls Try.prog n xs w fun e w' => e = r ∧ Below w.heap.size w w'
theorem Ret.re {n : Nat} {xs : Array Value} {v : Value} (h : Ret n xs (.returned v)) (w : World) (d : Nat) (os : Array Obj) :
    Calls Try.prog n xs (grow (redrawn w d) os) fun e w'' => e = .returned v ∧ ∃ p : Regrown, w'' = grow (redrawn w p.d) p.os := Calls.regrown_of (h _)

/-- a call that leaves the world -/
abbrev Still (n : Nat) (xs : Array Value) (r : Ending) : Prop := ∀ w, Calls Try.prog n xs w fun e w' => e = r ∧ w = w'
def fairB (b m : Int) : Bool := decide (1 ≤ b ∧ b ≤ m ∧ m ≤ 1073741824)
def timeB (r : Int) : Bool := decide (0 ≤ r ∧ r ≤ 1099511627776)
def roomB (r : Int) : Bool := decide (1 ≤ r ∧ r ≤ 256)
set_option maxHeartbeats 400000 in
theorem iswait_any (b m : Int) : Still 31 #[.int .i64 b, .int .i64 m] (.returned (.bool (fairB b m))) := by
  intro w
  go_enter Try.func31, Try.ntmps31
  go_wp2_with fail
  all_goals
    go_ret
    refine ⟨ret_bool ?_, rfl⟩
    unfold fairB
    rw [Bool.eq_iff_iff]
    simp
    try omega
set_option maxHeartbeats 400000 in
theorem fair_any (b m : Int) : Still 15 #[.int .i64 b, .int .i64 m] (.returned (.bool (fairB b m))) := by
  intro w
  go_enter Try.func15, Try.ntmps15
  go_wp2_with fail
  all_goals
    go_ret
    refine ⟨ret_bool ?_, rfl⟩
    unfold fairB
    rw [Bool.eq_iff_iff]
    simp
    try omega
set_option maxHeartbeats 400000 in
theorem istime_any (a : Int) : Still 39 #[.int .i64 a] (.returned (.bool (timeB a))) := by
  intro w
  go_enter Try.func39, Try.ntmps39
  go_wp2_with fail
  all_goals
    go_ret
    refine ⟨ret_bool ?_, rfl⟩
    unfold timeB
    rw [Bool.eq_iff_iff]
    simp
    try omega
set_option maxHeartbeats 400000 in
theorem isroom_any (a : Int) : Still 28 #[.int .i64 a] (.returned (.bool (roomB a))) := by
  intro w
  go_enter Try.func28, Try.ntmps28
  go_wp2_with fail
  all_goals
    go_ret
    refine ⟨ret_bool ?_, rfl⟩
    unfold roomB
    rw [Bool.eq_iff_iff]
    simp
    try omega

/-- the wait behind the k-th try -/
def waitN (b m k : Nat) : Nat := min (b * 2 ^ min k 30) m
def waitE (b m k : Int) : Int := if fairB b m = true ∧ 0 ≤ k then (waitN b.toNat m.toNat k.toNat : Int) else 0
theorem fairB_iff {b m : Int} : fairB b m = true ↔ 1 ≤ b ∧ b ≤ m ∧ m ≤ 1073741824 := by unfold fairB; simp
theorem pow_pos2 (k : Nat) : 1 ≤ 2 ^ k := Nat.one_le_two_pow
theorem waitN_le (b m k : Nat) : waitN b m k ≤ m := Nat.min_le_right _ _
theorem waitN_base {b m : Nat} (h : b ≤ m) (k : Nat) : b ≤ waitN b m k := by
  unfold waitN
  have := Nat.le_mul_of_pos_right b (Nat.two_pow_pos (min k 30))
  omega
theorem waitN_zero {b m : Nat} (h : b ≤ m) : waitN b m 0 = b := by unfold waitN; simp; omega
/-- past thirty, it is the most -/
theorem waitN_top {b m k : Nat} (hb : 1 ≤ b) (hm : m ≤ 1073741824) (hk : 30 ≤ k) : waitN b m k = m := by
  unfold waitN
  rw [Nat.min_eq_right hk]
  have : (2 : Nat) ^ 30 = 1073741824 := by decide
  rw [this]
  omega
theorem waitN_succ {b m k : Nat} (hb : 1 ≤ b) (hm : m ≤ 1073741824) : waitN b m (k + 1) = min (2 * waitN b m k) m := by
  by_cases hk : 30 ≤ k
  · rw [waitN_top hb hm hk, waitN_top hb hm (by omega)]; omega
  · unfold waitN
    rw [Nat.min_eq_left (show k ≤ 30 by omega), Nat.min_eq_left (show k + 1 ≤ 30 by omega), Nat.pow_succ]
    have : b * (2 ^ k * 2) = 2 * (b * 2 ^ k) := by rw [Nat.mul_comm (2 ^ k) 2, ← Nat.mul_assoc, Nat.mul_comm b 2, Nat.mul_assoc]
    rw [this]; omega
set_option maxHeartbeats 400000 in
theorem wait_no (b m k : Int) (h : fairB b m = false ∨ k < 0) : Still 22 #[.int .i64 b, .int .i64 m, .int .i64 k] (.returned (.int .i64 0)) := by
  intro w
  have C := Lib.hid (iswait_any b m)
  cases hf : fairB b m <;> rw [hf] at C
  · clear h hf
    go_enter Try.func22, Try.ntmps22
    go_wp2_with fail
    refine (C.out _).mono ?_; rintro e w1 ⟨rfl, rfl⟩
    go_wp2_with fail
    go_ret
    exact ⟨rfl, rfl⟩
  · have hk : k < 0 := by rcases h with h | h; rw [hf] at h; cases h; exact h
    clear h hf
    go_enter Try.func22, Try.ntmps22
    go_wp2_with fail
    refine (C.out _).mono ?_; rintro e w1 ⟨rfl, rfl⟩
    go_wp2_with fail
    go_ret
    exact ⟨rfl, rfl⟩
theorem waitN_stay {b m i k : Nat} (hb : 1 ≤ b) (hm : m ≤ 1073741824) (h : waitN b m i = m) (hk : i ≤ k) : waitN b m k = m := by
  induction k with
  | zero => have : i = 0 := by omega
            subst this; exact h
  | succ k ih =>
    by_cases e : i = k + 1
    · subst e; exact h
    · have := ih (by omega)
      rw [waitN_succ hb hm, this]; omega
set_option maxHeartbeats 400000 in
theorem wait_yes (b m k : Nat) (h : fairB b m = true) (hk : k < 9223372036854775808) : Still 22 #[.int .i64 (b : Int), .int .i64 (m : Int), .int .i64 (k : Int)] (.returned (.int .i64 (waitN b m k : Int))) := by
  intro w
  have C := Lib.hid (iswait_any b m)
  rw [h] at C
  obtain ⟨h1, h2, h3⟩ := fairB_iff.1 h
  clear h
  by_cases h30 : 30 < k
  · have HE := Lib.hid (waitN_top (b := b) (m := m) (k := k) (by omega) (by omega) (by omega))
    go_enter Try.func22, Try.ntmps22
    go_wp2_with fail
    refine (C.out _).mono ?_; rintro e w1 ⟨rfl, rfl⟩
    go_wp2_with fail
    all_goals
      go_ret
      refine ⟨ret_int ?_, rfl⟩
      rw [HE.out]
      try omega
  · obtain ⟨p, hp⟩ : ∃ p, b * 2 ^ k = p := ⟨_, rfl⟩
    have hpb : p ≤ 1152921504606846976 := by
      rw [← hp]
      have : 2 ^ k ≤ 2 ^ 30 := Nat.pow_le_pow_right (by omega) (by omega)
      exact Nat.le_trans (Nat.mul_le_mul (show b ≤ 1073741824 by omega) this) (by decide)
    have HE := Lib.hid (show waitN b m k = min p m by unfold waitN; rw [show min k 30 = k by omega, hp])
    have hpi : (b : Int) * 2 ^ k = (p : Int) := by rw [← hp]; simp
    clear hp
    go_enter Try.func22, Try.ntmps22
    go_wp2_with fail
    refine (C.out _).mono ?_; rintro e w1 ⟨rfl, rfl⟩
    go_wp2_with fail
    all_goals
      go_ret
      refine ⟨ret_int ?_, rfl⟩
      rw [HE.out]
      try omega
theorem waitE_no {b m k : Int} (h : ¬ (fairB b m = true ∧ 0 ≤ k)) : waitE b m k = 0 := by unfold waitE; rw [if_neg h]
theorem waitE_yes {b m k : Nat} (h : fairB b m = true) : waitE b m k = waitN b m k := by unfold waitE; rw [if_pos ⟨h, by omega⟩]; simp
theorem wait_any (b m k : Int) (hk : k < 9223372036854775808) : Still 22 #[.int .i64 b, .int .i64 m, .int .i64 k] (.returned (.int .i64 (waitE b m k))) := by
  intro w
  by_cases h : fairB b m = true ∧ 0 ≤ k
  · obtain ⟨h1, h2⟩ := h
    obtain ⟨h3, h4, h5⟩ := fairB_iff.1 h1
    obtain ⟨b, rfl⟩ : ∃ n : Nat, b = n := ⟨b.toNat, by omega⟩
    obtain ⟨m, rfl⟩ : ∃ n : Nat, m = n := ⟨m.toNat, by omega⟩
    obtain ⟨k, rfl⟩ : ∃ n : Nat, k = n := ⟨k.toNat, by omega⟩
    rw [waitE_yes h1]
    exact wait_yes b m k h1 (by omega) w
  · rw [waitE_no h]
    refine wait_no b m k ?_ w
    cases hf : fairB b m
    · exact .inl rfl
    · exact .inr (by rw [hf] at h; simpa using h)
set_option maxHeartbeats 400000 in
theorem rwait_no (b m k : Int) (h : fairB b m = false ∨ k < 0) : Still 23 #[.int .i64 b, .int .i64 m, .int .i64 k] (.returned (.int .i64 0)) := by
  intro w
  have C := Lib.hid (fair_any b m)
  cases hf : fairB b m <;> rw [hf] at C
  · clear h hf
    go_enter Try.func23, Try.ntmps23
    go_wp2_with fail
    refine (C.out _).mono ?_; rintro e w1 ⟨rfl, rfl⟩
    go_wp2_with fail
    go_ret
    exact ⟨rfl, rfl⟩
  · have hk : k < 0 := by rcases h with h | h; rw [hf] at h; cases h; exact h
    clear h hf
    go_enter Try.func23, Try.ntmps23
    go_wp2_with fail
    refine (C.out _).mono ?_; rintro e w1 ⟨rfl, rfl⟩
    go_wp2_with fail
    go_ret
    exact ⟨rfl, rfl⟩
set_option maxHeartbeats 800000 in
theorem rwait_yes (b m k : Nat) (h : fairB b m = true) (hk : k < 9223372036854775808) : Still 23 #[.int .i64 (b : Int), .int .i64 (m : Int), .int .i64 (k : Int)] (.returned (.int .i64 (waitN b m k : Int))) := by
  intro w
  have C := Lib.hid (fair_any b m)
  rw [h] at C
  obtain ⟨h1, h2, h3⟩ := fairB_iff.1 h
  have H0 := Lib.hid (waitN_zero (b := b) (m := m) (by omega))
  have HS := Lib.hid (fun i => waitN_succ (b := b) (m := m) (k := i) (by omega) (by omega))
  have HT := Lib.hid (fun i h => waitN_stay (b := b) (m := m) (i := i) (k := k) (by omega) (by omega) h)
  clear h
  go_enter Try.func23, Try.ntmps23
  go_wp2_with fail
  refine (C.out _).mono ?_; rintro e w1 ⟨rfl, rfl⟩
  go_wp2_with fail
  go_loopw [8, 9] (fun v8 v9 wr => ∃ (i W : Nat), v9 = .int .i64 (i : Int) ∧ v8 = .int .i64 (W : Int) ∧ i ≤ k ∧ W < 2 * m ∧ Hid (min W m = waitN b m i) ∧ wr = w) (fun v8 v9 wr => k - (intOf v9).toNat)
  case atStart => exact ⟨0, b, rfl, rfl, Nat.zero_le _, by omega, Lib.hid (by rw [H0.out]; omega), rfl⟩
  case round =>
    obtain ⟨i, W, rfl, rfl, hi, hW, hE, rfl⟩ := hrel
    by_cases hlt : i < k
    · by_cases hlm : W < m
      · go_wp2_with fail
        go_roundw
        case rel => exact ⟨i + 1, 2 * W, by go_num, by go_num, by omega, by omega, Lib.hid (by rw [HS.out, ← hE.out]; omega), trivial⟩
        case measure => simp [intOf]; omega
      · go_wp2_with fail
        all_goals
          go_ret
          refine ⟨ret_int ?_, rfl⟩
          have h5 := hE.out
          rw [HT.out i (by omega) (by omega)]
          try omega
    · obtain rfl : k = i := by omega
      go_wp2_with fail
      all_goals
        go_ret
        refine ⟨ret_int ?_, rfl⟩
        rw [← hE.out]
        try omega
theorem rwait_any (b m k : Int) (hk : k < 9223372036854775808) : Still 23 #[.int .i64 b, .int .i64 m, .int .i64 k] (.returned (.int .i64 (waitE b m k))) := by
  intro w
  by_cases h : fairB b m = true ∧ 0 ≤ k
  · obtain ⟨h1, h2⟩ := h
    obtain ⟨h3, h4, h5⟩ := fairB_iff.1 h1
    obtain ⟨b, rfl⟩ : ∃ n : Nat, b = n := ⟨b.toNat, by omega⟩
    obtain ⟨m, rfl⟩ : ∃ n : Nat, m = n := ⟨m.toNat, by omega⟩
    obtain ⟨k, rfl⟩ : ∃ n : Nat, k = n := ⟨k.toNat, by omega⟩
    rw [waitE_yes h1]
    exact rwait_yes b m k h1 (by omega) w
  · rw [waitE_no h]
    refine rwait_no b m k ?_ w
    cases hf : fairB b m
    · exact .inl rfl
    · exact .inr (by rw [hf] at h; simpa using h)
end Go.Proofs.Ytjhdlohcjodgjaa
