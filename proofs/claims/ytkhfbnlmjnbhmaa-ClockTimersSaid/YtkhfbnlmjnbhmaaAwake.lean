/- awake; no clock. -/
import Derived.Test.YtkhfbnlmjnbhmaaSetC
namespace Go.Proofs.Ytkhfbnlmjnbhmaa
open Go.RowKit Go.Sort
set_option linter.unusedVariables false

set_option maxHeartbeats 4000000 in
theorem awake_any : Ret 7 #[] (.returned (.bool true)) := by
  intro w
  go_enter Try.func7, Try.ntmps7
  go_wp2_with fail
  refine (new_yes 900 5 (by omega) (by omega) (by omega) w).mono ?_; rintro e w1 ⟨hb, Bs, rfl, h1, b1⟩
  have h2 := h1.blocks
  have H1 := Lib.hid h1; have B1 := Lib.hid b1; have HBS := Lib.hid (fun q hq => (h2 q hq).1)
  clear h1 h2 b1
  go_wp2_with fail
  refine (pass_any w1 1 (by unfold okI; omega) H1.out).mono ?_; rintro e w2 ⟨he, h2, t2⟩
  rw [show passE 900 5000 1 = 0 by decide] at he
  rw [show passM 900 5000 1 = 5900 by decide] at h2
  subst he
  have B2 := Lib.hid (B1.out.trans (t2.below B1.out.size HBS.out))
  have H2 := Lib.hid h2
  clear h2 t2 H1
  go_wp2_with fail
  refine (now_any w2 H2.out).mono ?_; rintro e w3 ⟨rfl, rfl⟩
  go_wp2_with fail
  refine (pass_any w2 1 (by unfold okI; omega) H2.out).mono ?_; rintro e w3 ⟨he, h3, t3⟩
  rw [show passE 900 5900 1 = 0 by decide] at he
  rw [show passM 900 5900 1 = 6800 by decide] at h3
  subst he
  have B3 := Lib.hid (B2.out.trans (t3.below B2.out.size HBS.out))
  have H3 := Lib.hid h3
  clear h3 t3 H2 B2
  go_wp2_with fail
  refine (now_any w3 H3.out).mono ?_; rintro e w4 ⟨rfl, rfl⟩
  go_wp2_with fail
  refine (set_yes w3 7 6 (by omega) (by omega) (by omega) H3.out (.inr (by simp))).mono ?_; rintro e w4 ⟨rfl, Bs', h4, t4⟩
  have B4 := Lib.hid (B3.out.trans (t4.below B3.out.size HBS.out))
  have H4 := Lib.hid h4
  clear h4 t4
  go_wp2_with fail
  refine (count_any w4 H4.out).mono ?_; rintro e w5 ⟨rfl, rfl⟩
  go_wp2_with fail
  go_ret
  exact ⟨rfl, B4.out⟩

set_option maxHeartbeats 400000 in
theorem pass_nil (n : Int) (w : World) : Calls Try.prog 17 #[.pointer none, .int .i64 n] w fun e w' => e = .returned (.int .i64 1) ∧ w = w' := by
  go_enter Try.func17, Try.ntmps17
  go_wp2_with fail
  go_ret
  exact ⟨rfl, rfl⟩
set_option maxHeartbeats 400000 in
theorem turn_nil (n : Int) (w : World) : Calls Try.prog 20 #[.pointer none, .int .i64 n] w fun e w' => e = .returned (.int .i64 1) ∧ w = w' := by
  go_enter Try.func20, Try.ntmps20
  go_wp2_with fail
  go_ret
  exact ⟨rfl, rfl⟩
set_option maxHeartbeats 400000 in
theorem now_nil (w : World) : Calls Try.prog 13 #[.pointer none] w fun e w' => e = .returned (.int .i64 0) ∧ w = w' := by
  go_enter Try.func13, Try.ntmps13
  go_wp2_with fail
  go_ret
  exact ⟨rfl, rfl⟩
set_option maxHeartbeats 400000 in
theorem count_nil (w : World) : Calls Try.prog 15 #[.pointer none] w fun e w' => e = .returned (.int .i64 0) ∧ w = w' := by
  go_enter Try.func15, Try.ntmps15
  go_wp2_with fail
  go_ret
  exact ⟨rfl, rfl⟩
set_option maxHeartbeats 400000 in
theorem set_nil (id : Nat) (n : Int) (w : World) : Calls Try.prog 18 #[.pointer none, .int .u64 (id : Int), .int .i64 n] w fun e w' => e = .returned (.int .i64 1) ∧ w = w' := by
  go_enter Try.func18, Try.ntmps18
  go_wp2_with fail
  go_ret
  exact ⟨rfl, rfl⟩
set_option maxHeartbeats 400000 in
theorem stop_nil (id : Nat) (w : World) : Calls Try.prog 21 #[.pointer none, .int .u64 (id : Int)] w fun e w' => e = .returned (.bool false) ∧ w = w' := by
  go_enter Try.func21, Try.ntmps21
  go_wp2_with fail
  go_ret
  exact ⟨rfl, rfl⟩
set_option maxHeartbeats 400000 in
theorem next_nil (w : World) : Calls Try.prog 11 #[.pointer none] w fun e w' => e = .returned (.tuple #[.int .i64 0, .bool false]) ∧ w = w' := by
  go_enter Try.func11, Try.ntmps11
  go_wp2_with fail
  refine (count_nil _).mono ?_; rintro e w1 ⟨rfl, rfl⟩
  go_wp2_with fail
  go_ret2
  exact ⟨rfl, rfl⟩
set_option maxHeartbeats 1000000 in
theorem due_nil (w : World) : Calls Try.prog 19 #[.pointer none] w fun e w' => e = .returned (.slice none 0 0) ∧ Below w.heap.size w w' := by
  have C : Ret 15 #[.pointer none] (.returned (.int .i64 0)) := fun w => same_below (count_nil w)
  go_enter Try.func19, Try.ntmps19
  go_wp2_with fail
  go_loopw [3] (fun s wr => s = .slice none 0 0 ∧ wr = w) (fun _ _ => 0)
  case atStart => exact ⟨rfl, rfl⟩
  case round =>
    obtain ⟨rfl, rfl⟩ := hrel
    have hd : decide ((0 : Int) < 0) = false := rfl
    go_wp2_with fail
    refine wp_region_quiet_below (by kernel_rfl) (by kernel_rfl) ?_
    repeat (go_big_quiet_step (exact C.re _ _ _))
    refine wpQuiet_nil ?_
    intro _ hw'
    obtain ⟨⟨dq, osq⟩, hw''⟩ := hw'
    subst hw''
    have lk := below_regrown wr dq osq
    go_wp2_with fail
    go_ret
    exact ⟨rfl, lk⟩
end Go.Proofs.Ytkhfbnlmjnbhmaa
