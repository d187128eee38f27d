/- awake; InboxWaits: the walk. -/
import Derived.Test.YtjhdlohcjodgjaaOpenC
namespace Go.Proofs.Ytjhdlohcjodgjaa
open Go.RowKit
set_option linter.unusedVariables false

set_option maxRecDepth 100000 in
set_option maxHeartbeats 2000000 in
theorem awake_any : Ret 8 #[] (.returned (.bool true)) := by
  intro w
  have hok : Cfg.ok ⟨2, 10, 35, 2⟩ := by unfold Cfg.ok; simp
  have C1 := Lib.hid (newcalls_yes ⟨2, 10, 35, 2⟩ hok w)
  have W1 := Lib.hid (wait_any 10 35 1 (by omega))
  rw [show waitE 10 35 1 = 20 by decide] at W1
  clear hok
  go_enter Try.func8, Try.ntmps8
  go_wp2_with fail
  refine C1.out.mono ?_; rintro e w1 ⟨hn, gm, rfl, h1, b1⟩
  have O1 := Lib.hid (open_yes 7 100 1 (by omega) w1 h1 (by simp) rfl (by omega))
  have HB1 := Lib.hid b1
  have hge := Lib.hid (And.intro h1.base h1.gbase)
  clear h1 b1 C1
  go_wp2_with fail
  refine O1.out.mono ?_; rintro e w2 ⟨rfl, h2, k2⟩
  have N1 := Lib.hid (next_any w2 h2)
  have HB2 := Lib.hid (HB1.out.trans (k2.below HB1.out.size (fun q hq => by have := hge.out; simp at hq; omega)))
  clear h2 k2 O1
  go_wp2_with fail
  refine N1.out.mono ?_; rintro e w3 ⟨hne, b3⟩
  have hx : e = .returned (.tuple #[.int .i64 110, .bool true]) := by
    rcases hne with ⟨h0, _⟩ | ⟨d, ⟨⟨x, hx, hd⟩, _⟩, he⟩
    · simp at h0
    · simp at hx
      subst hx
      rw [he, ← hd]
      rfl
  subst hx
  have HB3 := Lib.hid (below_next HB2.out b3)
  clear b3 N1 hne
  go_wp2_with fail
  refine (W1.out _).mono ?_; rintro e w4 ⟨rfl, rfl⟩
  go_wp2_with fail
  go_ret
  exact ⟨rfl, HB3.out⟩

theorem i64_hi {k : Int} (wk : (Lit.int .i64 k).wf = true) : -9223372036854775808 ≤ k ∧ k ≤ 9223372036854775807 := by
  simp [Lit.wf, IntKind.min, IntKind.max, IntKind.signed, IntKind.bits] at wk
  omega
set_option maxRecDepth 100000 in
set_option maxHeartbeats 4000000 in
theorem inboxWaits_law (b : Int) (wb : (Lit.int .i64 b).wf = true) (m : Int) (wm : (Lit.int .i64 m).wf = true) (k : Int) (wk : (Lit.int .i64 k).wf = true) (W : World) :
    Calls Try.prog 5 #[.int .i64 b, .int .i64 m, .int .i64 k] W (LawOk W) := by
  have hk := i64_hi wk
  clear wb wm wk
  have C1 := Lib.hid (wait_any b m k (by omega))
  have R1 := Lib.hid (rwait_any b m k (by omega))
  by_cases hz : waitE b m k = 0 ∨ 1073741824 < k
  · generalize waitE b m k = v at *
    go_enter Try.func5, Try.ntmps5
    go_wp2_with fail
    refine (awake_any W).mono ?_; rintro e w1 ⟨rfl, b1⟩
    have HB := Lib.hid b1; clear b1
    rcases hz with rfl | hz
    · go_wp2_with (first | (go_at_call 22; refine (C1.out _).mono ?_; rintro e w2 ⟨rfl, rfl⟩) | (go_at_call 23; refine (R1.out _).mono ?_; rintro e w2 ⟨rfl, rfl⟩))
      go_ret
      exact ⟨rfl, HB.out⟩
    · by_cases hv : v = 0
      · subst hv
        go_wp2_with (first | (go_at_call 22; refine (C1.out _).mono ?_; rintro e w2 ⟨rfl, rfl⟩) | (go_at_call 23; refine (R1.out _).mono ?_; rintro e w2 ⟨rfl, rfl⟩))
        go_ret
        exact ⟨rfl, HB.out⟩
      · have hv2 : (v == 0) = false := by simpa using hv
        go_wp2_with (first | (go_at_call 22; refine (C1.out _).mono ?_; rintro e w2 ⟨rfl, rfl⟩) | (go_at_call 23; refine (R1.out _).mono ?_; rintro e w2 ⟨rfl, rfl⟩))
        go_ret
        exact ⟨rfl, HB.out⟩
  · have hz1 : waitE b m k ≠ 0 := fun e => hz (.inl e)
    have hz2 : k ≤ 1073741824 := by omega
    have hfk : fairB b m = true ∧ 0 ≤ k := by
      refine Classical.byContradiction fun h => hz1 (waitE_no h)
    obtain ⟨h1, h2⟩ := hfk
    obtain ⟨h3, h4, h5⟩ := fairB_iff.1 h1
    have N1 := Lib.hid (wait_any b m (k + 1) (by omega))
    obtain ⟨b, rfl⟩ : ∃ n : Nat, b = n := ⟨b.toNat, by omega⟩
    obtain ⟨m, rfl⟩ : ∃ n : Nat, m = n := ⟨m.toNat, by omega⟩
    obtain ⟨k, rfl⟩ : ∃ n : Nat, k = n := ⟨k.toNat, by omega⟩
    rw [waitE_yes h1] at C1 R1
    rw [show ((k : Int) + 1) = ((k + 1 : Nat) : Int) by omega, waitE_yes h1] at N1
    have hs := waitN_succ (b := b) (m := m) (k := k) (by omega) (by omega)
    have hle := waitN_le b m k
    have hba := waitN_base (b := b) (m := m) (by omega) k
    have h0 : k = 0 → waitN b m k = b := fun e => by rw [e]; exact waitN_zero (by omega)
    generalize waitN b m (k + 1) = v2 at *
    generalize waitN b m k = v at *
    rw [show (((k + 1 : Nat) : Int)) = (k : Int) + 1 by omega] at N1
    have hv0 : ((v : Int) == 0) = false := by simp; omega
    clear hz hz1 h1
    go_enter Try.func5, Try.ntmps5
    go_wp2_with fail
    refine (awake_any W).mono ?_; rintro e w1 ⟨rfl, b1⟩
    have HB := Lib.hid b1; clear b1
    go_wp2_with fail
    refine (C1.out _).mono ?_; rintro e w2 ⟨rfl, rfl⟩
    go_wp2_with fail
    refine (R1.out _).mono ?_; rintro e w2 ⟨rfl, rfl⟩
    go_wp2_with fail
    refine (N1.out _).mono ?_; rintro e w2 ⟨rfl, rfl⟩
    go_wp2_with fail
    all_goals
      go_ret
      refine ⟨ret_bool ?_, HB.out⟩
      first | rfl | (simp; omega) | (simp; done)
end Go.Proofs.Ytjhdlohcjodgjaa
