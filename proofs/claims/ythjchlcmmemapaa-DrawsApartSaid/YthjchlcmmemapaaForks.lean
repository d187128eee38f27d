/- Skip, State, Below, Fork. -/
import Derived.Test.YthjchlcmmemapaaState
namespace Go.Proofs.Ythjchlcmmemapaa
open Go.RowKit Go.Sort
set_option linter.unusedVariables false

/-- the state behind x numbers -/
def sk (s x : Nat) : Nat := (s + x * 11400714819323198485) % 18446744073709551616
theorem sk_lt (s x : Nat) : sk s x < 18446744073709551616 := Nat.mod_lt _ (by decide)
theorem sk_eq (s x : Nat) : IntKind.u64.wrap ((s : Int) + IntKind.u64.wrap ((x : Int) * 11400714819323198485)) = (sk s x : Nat) := by
  rw [IntKind.wrap_u64, IntKind.wrap_u64]; unfold sk; omega
theorem sk_zero (s : Nat) (h : s < 18446744073709551616) : sk s 0 = s := by unfold sk; omega
theorem sk_succ (s x : Nat) : sk s (x + 1) = nx (sk s x) := by unfold sk nx; omega
theorem not64 (s : Nat) (hs : s < 18446744073709551616) : 18446744073709551615 ^^^ s = 18446744073709551615 - s := by
  have e : (~~~ BitVec.ofNat 64 s).toNat = 18446744073709551615 - s := by
    rw [BitVec.toNat_not, BitVec.toNat_ofNat, Nat.mod_eq_of_lt (by omega)]
  have e2 : (BitVec.allOnes 64 ^^^ BitVec.ofNat 64 s).toNat = 18446744073709551615 ^^^ s := by
    rw [BitVec.toNat_xor, BitVec.toNat_ofNat, BitVec.toNat_allOnes, Nat.mod_eq_of_lt (by omega)]
  rw [← e2, BitVec.allOnes_xor, e]
theorem not_u64 (s : Nat) (hs : s < 18446744073709551616) : bits .xor .u64 IntKind.u64.max (s : Int) = ((18446744073709551615 - s : Nat) : Int) := by
  rw [show IntKind.u64.max = ((18446744073709551615 : Nat) : Int) by decide, u64_xor_nat _ _ (by omega) hs, not64 s hs]
/-- the state of draws forked off -/
def fk (s x : Nat) : Nat := mixN (18446744073709551615 - sk s x)
theorem fk_lt (s x : Nat) : fk s x < 18446744073709551616 := mixN_lt _
/-- what Below says -/
def bel (s n : Nat) : Nat := upN (mixN (nx s)) n
theorem bel_lt (s n : Nat) (hn : 0 < n) : bel s n < n := upN_lt (mixN_lt _) hn

section
variable (B g s : Nat) (w : World) (h : Gen w B g s)
include h
set_option maxHeartbeats 1000000 in
theorem skip_any (x : Nat) (hx : x < 18446744073709551616) : Calls Try.prog 11 #[.pointer (some ⟨g, 0, none⟩), .int .u64 (x : Int)] w fun e w' => e = .returned (.tuple #[]) ∧ w' = w.setCell ⟨g, 0, none⟩ (.int .u64 (sk s x : Nat)) := by
  have hc := h.cell; have hf := h.free; have hl := h.lt
  have e1 := sk_eq s x
  clear h
  go_enter Try.func11, Try.ntmps11
  go_wp2_with fail
  go_end0
  exact ⟨rfl, rfl⟩
theorem state_any : Calls Try.prog 19 #[.pointer (some ⟨g, 0, none⟩)] w fun e w' => e = .returned (.int .u64 (s : Int)) ∧ w = w' := by
  have hc := h.cell; have hf := h.free; have hl := h.lt
  clear h
  go_enter Try.func19, Try.ntmps19
  go_wp2_with fail
  go_ret
  exact ⟨rfl, rfl⟩
set_option maxHeartbeats 1000000 in
theorem below_any (n : Nat) (hn : n < 18446744073709551616) : Calls Try.prog 24 #[.pointer (some ⟨g, 0, none⟩), .int .u64 (n : Int)] w fun e w' => e = .returned (.int .u64 (bel s n : Nat)) ∧ Gen w' B g (nx s) ∧ Keep [g] w w' := by
  have N1 := Lib.hid (next_any B g s w h)
  have U := Lib.hid (upper_any (mixN (nx s)) n (mixN_lt _) hn)
  go_enter Try.func24, Try.ntmps24
  go_wp2_with fail
  refine N1.out.mono ?_; rintro e w1 ⟨rfl, rfl⟩
  go_wp2_with fail
  refine (U.out _).mono ?_; rintro e w1 ⟨rfl, rfl⟩
  go_wp2_with fail
  go_ret
  exact ⟨rfl, h.set _ (nx_lt s), Keep.setCell w ⟨g, 0, none⟩ _⟩
set_option maxHeartbeats 1000000 in
theorem rbelow_any (n : Nat) (hn : n < 18446744073709551616) : Calls Try.prog 14 #[.pointer (some ⟨g, 0, none⟩), .int .u64 (n : Int)] w fun e w' => e = .returned (.int .u64 (bel s n : Nat)) ∧ Gen w' B g (nx s) ∧ Keep [g] w w' := by
  have N1 := Lib.hid (rnext_any B g s w h)
  have U := Lib.hid (rupper_any (mixN (nx s)) n (mixN_lt _) hn)
  go_enter Try.func14, Try.ntmps14
  go_wp2_with fail
  refine N1.out.mono ?_; rintro e w1 ⟨rfl, h1, k1⟩
  go_wp2_with fail
  refine (U.out _).mono ?_; rintro e w1 ⟨rfl, rfl⟩
  go_wp2_with fail
  go_ret
  exact ⟨rfl, h1, k1⟩
set_option maxHeartbeats 1000000 in
theorem belowN_any (n : Nat) (h1 : 1 ≤ n) (hn : n ≤ 9223372036854775807) : Calls Try.prog 13 #[.pointer (some ⟨g, 0, none⟩), .int .i64 (n : Int)] w fun e w' => e = .returned (.tuple #[.int .i64 (bel s n : Nat), .int .i64 0]) ∧ Gen w' B g (nx s) ∧ Keep [g] w w' := by
  have N1 := Lib.hid (below_any B g s w h n (by omega))
  have hb := bel_lt s n (by omega)
  generalize bel s n = b at *
  go_enter Try.func13, Try.ntmps13
  go_wp2_with fail
  refine N1.out.mono ?_; rintro e w1 ⟨rfl, h1, k1⟩
  go_wp2_with fail
  go_ret2
  exact ⟨rfl, h1, k1⟩
set_option maxHeartbeats 1000000 in
theorem fork_any (x : Nat) (hx : x < 18446744073709551616) : Calls Try.prog 17 #[.pointer (some ⟨g, 0, none⟩), .int .u64 (x : Int)] w fun e w' => e = .returned (.pointer (some ⟨w.heap.size, 0, none⟩)) ∧ w' = w.alloc (.cells #[.int .u64 (fk s x : Nat)] 51) := by
  have hc := h.cell; have hf := h.free; have hl := h.lt
  have e1 := sk_eq s x
  have hs := sk_lt s x
  have e2 := not_u64 (sk s x) hs
  have hsg : IntKind.u64.signed = false := rfl
  have M := Lib.hid (mix_any (18446744073709551615 - sk s x) (by omega))
  have NW := Lib.hid (new_any (fk s x) w)
  have hk := Lib.hid (show mixN (18446744073709551615 - sk s x) = fk s x from rfl)
  clear h
  go_enter Try.func17, Try.ntmps17
  go_wp2_with fail
  refine (M.out _).mono ?_; rintro e w1 ⟨rfl, rfl⟩
  rw [hk.out]
  go_wp2_with fail
  refine NW.out.mono ?_; rintro e w1 ⟨rfl, rfl⟩
  go_wp2_with fail
  go_ret
  exact ⟨rfl, rfl⟩
set_option maxHeartbeats 1000000 in
theorem rfork_any (x : Nat) (hx : x < 18446744073709551616) : Calls Try.prog 18 #[.pointer (some ⟨g, 0, none⟩), .int .u64 (x : Int)] w fun e w' => ∃ q, e = .returned (.pointer (some ⟨q, 0, none⟩)) ∧ w.heap.size ≤ q ∧ Gen w' B q (fk s x) ∧ Below w.heap.size w w' := by
  have hc := h.cell; have hf := h.free; have hl := h.lt; have hB := h.base
  have e1 := sk_eq s x
  have hs := sk_lt s x
  have hkl := fk_lt s x
  obtain ⟨c, hcs⟩ : ∃ c, c = 18446744073709551615 - sk s x := ⟨_, rfl⟩
  have hk := Lib.hid (show mixN c = fk s x by rw [hcs]; rfl)
  have M := Lib.hid (rmix_any c (by omega))
  have e3 : (18446744073709551615 : Int) - (sk s x : Nat) = (c : Int) := by omega
  clear hcs
  generalize fk s x = F at *
  generalize sk s x = K at *
  go_enter Try.func18, Try.ntmps18
  go_wp2_with fail
  have r1 := cell_regrown hc
  refine wp_region_quiet_below (by kernel_rfl) (by kernel_rfl) ?_
  repeat (go_big_quiet_step (exact Calls.regrown_of (same_below (a_any _))))
  refine wpQuiet_nil ?_
  intro _ hw'
  obtain ⟨⟨dq, osq⟩, hw''⟩ := hw'
  subst hw''
  have lk := below_regrown w dq osq
  generalize grow (redrawn w dq) osq = w1 at lk ⊢
  go_wp2_with fail
  refine (M.out _).mono ?_; rintro e w1 ⟨rfl, rfl⟩
  rw [hk.out]
  go_wp2_with fail
  go_ret
  have hsz := lk.size
  refine ⟨w1.heap.size, rfl, hsz, ?_, below_alloc lk _⟩
  exact Gen.new w1 B F 29 (by have := h.lt; omega) hkl
end
theorem skip_nil (x : Int) (w : World) : Calls Try.prog 11 #[.pointer none, .int .u64 x] w fun e w' => e = .returned (.tuple #[]) ∧ w = w' := by
  go_enter Try.func11, Try.ntmps11
  go_wp2_with fail
  refine bodyPost_ret (results_none rfl _ _ _) rfl ?_
  exact ⟨rfl, rfl⟩
theorem state_nil (w : World) : Calls Try.prog 19 #[.pointer none] w fun e w' => e = .returned (.int .u64 0) ∧ w = w' := by
  go_enter Try.func19, Try.ntmps19
  go_wp2_with fail
  go_ret
  exact ⟨rfl, rfl⟩
theorem fork_nil (x : Int) (w : World) : Calls Try.prog 17 #[.pointer none, .int .u64 x] w fun e w' => e = .returned (.pointer none) ∧ w = w' := by
  go_enter Try.func17, Try.ntmps17
  go_wp2_with fail
  go_ret
  exact ⟨rfl, rfl⟩
theorem belowN_no (p : Option Addr) (n : Int) (h : p = none ∨ n < 1) (w : World) : Calls Try.prog 13 #[.pointer p, .int .i64 n] w fun e w' => e = .returned (.tuple #[.int .i64 0, .int .i64 1]) ∧ w = w' := by
  cases p with
  | none =>
    go_enter Try.func13, Try.ntmps13
    go_wp2_with fail
    go_ret2
    exact ⟨rfl, rfl⟩
  | some q =>
    have hn : n < 1 := by simpa using h
    go_enter Try.func13, Try.ntmps13
    go_wp2_with fail
    go_ret2
    exact ⟨rfl, rfl⟩
end Go.Proofs.Ythjchlcmmemapaa
