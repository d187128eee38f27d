/- Split and Join: package arcs, and the document's answer. -/
import Derived.Test.YtjgmgcniemncjaaHas
namespace Go.Proofs.Ytjgmgcniemncjaa
open Go.RowKit Go.Sort
set_option linter.unusedVariables false

abbrev splitR (f n g s e : Int) : Value := .tuple #[arc f n, arc g s, .int .i64 e]
abbrev joinR (f s e : Int) : Value := .tuple #[arc f s, .int .i64 e]

set_option maxHeartbeats 1000000 in
theorem split_in (f s n : Int) (hr : rightB f s = true) (h0 : 0 ≤ n) (h1 : n ≤ s) : Ret 20 #[arc f s, .int .i64 n] (.returned (splitR f n ((f + n) % 64) (s - n) 0)) := by
  intro w
  have hr' := right_spec.1 hr
  have c1 := right_at f s
  rw [hr] at c1
  have C1 := Lib.hid c1; clear c1
  have C2 := Lib.hid (further_any f n (by omega) (by omega) h0 (by omega))
  have hs1 := IntWalk.i64_in (s - n) (by omega)
  clear hr
  go_enter Try.func20, Try.ntmps20
  go_wp2_with fail
  refine (C1.out _).mono ?_
  rintro e w1 ⟨rfl, rfl⟩
  go_wp2_with fail
  go_region_held3 (fun w' => w'.cell? ⟨w.heap.size, 0, none⟩ = some (.int .i64 f) ∧ w'.cell? ⟨w.heap.size, 1, none⟩ = some (.int .i64 s)) (first | exact ⟨by go_simp, by go_simp⟩) (first
    | (go_at_call 29; refine (C2.out _).mono ?_; rintro e w' ⟨rfl, rfl⟩))
  all_goals
    go_wp2_with fail
    refine bodyPost_ret (v := splitR f n ((f + n) % 64) (s - n) 0) (by simp [results, Try.results20, go_sem]) rfl ⟨rfl, ?_⟩
    repeat (first | exact Below.refl _ _ | refine Below.drew ?_ | refine below_alloc ?_ _)

set_option maxHeartbeats 1000000 in
theorem split_no (f s n : Int) (hr : rightB f s = false) : Ret 20 #[arc f s, .int .i64 n] (.returned (splitR 0 0 0 0 21)) := by
  intro w
  have c1 := right_at f s
  rw [hr] at c1
  have C1 := Lib.hid c1; clear c1
  clear hr
  go_enter Try.func20, Try.ntmps20
  go_wp2_with fail
  refine (C1.out _).mono ?_
  rintro e w1 ⟨rfl, rfl⟩
  go_wp2_with fail
  refine bodyPost_ret (v := splitR 0 0 0 0 21) (by simp [results, Try.results20, go_sem]) rfl ⟨rfl, ?_⟩
  repeat (first | exact Below.refl _ _ | refine Below.drew ?_ | refine below_alloc ?_ _)

set_option maxHeartbeats 1000000 in
theorem split_low (f s n : Int) (hr : rightB f s = true) (h0 : n < 0) : Ret 20 #[arc f s, .int .i64 n] (.returned (splitR 0 0 0 0 21)) := by
  intro w
  have c1 := right_at f s
  rw [hr] at c1
  have C1 := Lib.hid c1; clear c1
  clear hr
  go_enter Try.func20, Try.ntmps20
  go_wp2_with fail
  refine (C1.out _).mono ?_
  rintro e w1 ⟨rfl, rfl⟩
  go_wp2_with fail
  refine bodyPost_ret (v := splitR 0 0 0 0 21) (by simp [results, Try.results20, go_sem]) rfl ⟨rfl, ?_⟩
  repeat (first | exact Below.refl _ _ | refine Below.drew ?_ | refine below_alloc ?_ _)

set_option maxHeartbeats 1000000 in
theorem split_high (f s n : Int) (hr : rightB f s = true) (h0 : 0 ≤ n) (h1 : s < n) : Ret 20 #[arc f s, .int .i64 n] (.returned (splitR 0 0 0 0 21)) := by
  intro w
  have hr' := right_spec.1 hr
  have c1 := right_at f s
  rw [hr] at c1
  have C1 := Lib.hid c1; clear c1
  clear hr
  go_enter Try.func20, Try.ntmps20
  go_wp2_with fail
  refine (C1.out _).mono ?_
  rintro e w1 ⟨rfl, rfl⟩
  go_wp2_with fail
  refine bodyPost_ret (v := splitR 0 0 0 0 21) (by simp [results, Try.results20, go_sem]) rfl ⟨rfl, ?_⟩
  repeat (first | exact Below.refl _ _ | refine Below.drew ?_ | refine below_alloc ?_ _)

set_option maxHeartbeats 1000000 in
theorem join_in (f s g t : Int) (hr : rightB f s = true) (hq : rightB g t = true) (hs : s + t ≤ 64) (hg : g = (f + s) % 64) : Ret 22 #[arc f s, arc g t] (.returned (joinR f (s + t) 0)) := by
  intro w
  have hr' := right_spec.1 hr
  have hq' := right_spec.1 hq
  have c1 := right_at f s
  rw [hr] at c1
  have C1 := Lib.hid c1; clear c1
  have c2 := right_at g t
  rw [hq] at c2
  have C2 := Lib.hid c2; clear c2
  have C3 := Lib.hid (further_any f s (by omega) (by omega) (by omega) (by omega))
  have h1 := IntWalk.i64_in (s + t) (by omega)
  have hg1 : (g != (f + s) % 64) = false := by simp [hg]
  have hg2 : ((f + s) % 64 != g) = false := by simp [hg]
  clear hr hq
  have HG := Lib.hid hg; clear hg
  go_enter Try.func22, Try.ntmps22
  go_wp2_with fail
  refine (C1.out _).mono ?_
  rintro e w1 ⟨rfl, rfl⟩
  go_wp2_with fail
  refine (C2.out _).mono ?_
  rintro e w1 ⟨rfl, rfl⟩
  go_wp2_with fail
  go_region_held3 (fun w' => w'.cell? ⟨w.heap.size, 0, none⟩ = some (.int .i64 f) ∧ w'.cell? ⟨w.heap.size, 1, none⟩ = some (.int .i64 s) ∧ w'.cell? ⟨w.heap.size + 1, 0, none⟩ = some (.int .i64 g) ∧ w'.cell? ⟨w.heap.size + 1, 1, none⟩ = some (.int .i64 t)) (first | exact ⟨by go_simp, by go_simp, by go_simp, by go_simp⟩) (first
    | (go_at_call 29; refine (C3.out _).mono ?_; rintro e w' ⟨rfl, rfl⟩))
  go_wp2_with fail
  refine bodyPost_ret (v := joinR f (s + t) 0) (by simp [results, Try.results22, go_sem]) rfl ⟨rfl, ?_⟩
  repeat (first | exact Below.refl _ _ | refine Below.drew ?_ | refine below_alloc ?_ _)

set_option maxHeartbeats 1000000 in
theorem join_apart (f s g t : Int) (hr : rightB f s = true) (hq : rightB g t = true) (hs : s + t ≤ 64) (hg : ¬ g = (f + s) % 64) : Ret 22 #[arc f s, arc g t] (.returned (joinR 0 0 22)) := by
  intro w
  have hr' := right_spec.1 hr
  have hq' := right_spec.1 hq
  have c1 := right_at f s
  rw [hr] at c1
  have C1 := Lib.hid c1; clear c1
  have c2 := right_at g t
  rw [hq] at c2
  have C2 := Lib.hid c2; clear c2
  have C3 := Lib.hid (further_any f s (by omega) (by omega) (by omega) (by omega))
  have h1 := IntWalk.i64_in (s + t) (by omega)
  have hg1 : (g != (f + s) % 64) = true := by simp [hg]
  have hg2 : ((f + s) % 64 != g) = true := by simp; omega
  clear hr hq
  have HG := Lib.hid hg; clear hg
  go_enter Try.func22, Try.ntmps22
  go_wp2_with fail
  refine (C1.out _).mono ?_
  rintro e w1 ⟨rfl, rfl⟩
  go_wp2_with fail
  refine (C2.out _).mono ?_
  rintro e w1 ⟨rfl, rfl⟩
  go_wp2_with fail
  go_region_held3 (fun w' => w'.cell? ⟨w.heap.size, 0, none⟩ = some (.int .i64 f) ∧ w'.cell? ⟨w.heap.size, 1, none⟩ = some (.int .i64 s) ∧ w'.cell? ⟨w.heap.size + 1, 0, none⟩ = some (.int .i64 g) ∧ w'.cell? ⟨w.heap.size + 1, 1, none⟩ = some (.int .i64 t)) (first | exact ⟨by go_simp, by go_simp, by go_simp, by go_simp⟩) (first
    | (go_at_call 29; refine (C3.out _).mono ?_; rintro e w' ⟨rfl, rfl⟩))
  go_wp2_with fail
  refine bodyPost_ret (v := joinR 0 0 22) (by simp [results, Try.results22, go_sem]) rfl ⟨rfl, ?_⟩
  repeat (first | exact Below.refl _ _ | refine Below.drew ?_ | refine below_alloc ?_ _)

set_option maxHeartbeats 1000000 in
theorem join_much (f s g t : Int) (hr : rightB f s = true) (hq : rightB g t = true) (hs : 64 < s + t) : Ret 22 #[arc f s, arc g t] (.returned (joinR 0 0 21)) := by
  intro w
  have hr' := right_spec.1 hr
  have hq' := right_spec.1 hq
  have c1 := right_at f s
  rw [hr] at c1
  have C1 := Lib.hid c1; clear c1
  have c2 := right_at g t
  rw [hq] at c2
  have C2 := Lib.hid c2; clear c2
  clear hr hq
  go_enter Try.func22, Try.ntmps22
  go_wp2_with fail
  refine (C1.out _).mono ?_
  rintro e w1 ⟨rfl, rfl⟩
  go_wp2_with fail
  refine (C2.out _).mono ?_
  rintro e w1 ⟨rfl, rfl⟩
  go_wp2_with fail
  refine bodyPost_ret (v := joinR 0 0 21) (by simp [results, Try.results22, go_sem]) rfl ⟨rfl, ?_⟩
  repeat (first | exact Below.refl _ _ | refine Below.drew ?_ | refine below_alloc ?_ _)

set_option maxHeartbeats 1000000 in
theorem join_no2 (f s g t : Int) (hr : rightB f s = true) (hq : rightB g t = false) : Ret 22 #[arc f s, arc g t] (.returned (joinR 0 0 21)) := by
  intro w
  have c1 := right_at f s
  rw [hr] at c1
  have C1 := Lib.hid c1; clear c1
  have c2 := right_at g t
  rw [hq] at c2
  have C2 := Lib.hid c2; clear c2
  clear hr hq
  go_enter Try.func22, Try.ntmps22
  go_wp2_with fail
  refine (C1.out _).mono ?_
  rintro e w1 ⟨rfl, rfl⟩
  go_wp2_with fail
  refine (C2.out _).mono ?_
  rintro e w1 ⟨rfl, rfl⟩
  go_wp2_with fail
  refine bodyPost_ret (v := joinR 0 0 21) (by simp [results, Try.results22, go_sem]) rfl ⟨rfl, ?_⟩
  repeat (first | exact Below.refl _ _ | refine Below.drew ?_ | refine below_alloc ?_ _)

set_option maxHeartbeats 1000000 in
theorem join_no1 (f s g t : Int) (hr : rightB f s = false) : Ret 22 #[arc f s, arc g t] (.returned (joinR 0 0 21)) := by
  intro w
  have c1 := right_at f s
  rw [hr] at c1
  have C1 := Lib.hid c1; clear c1
  clear hr
  go_enter Try.func22, Try.ntmps22
  go_wp2_with fail
  refine (C1.out _).mono ?_
  rintro e w1 ⟨rfl, rfl⟩
  go_wp2_with fail
  refine bodyPost_ret (v := joinR 0 0 21) (by simp [results, Try.results22, go_sem]) rfl ⟨rfl, ?_⟩
  repeat (first | exact Below.refl _ _ | refine Below.drew ?_ | refine below_alloc ?_ _)

set_option maxHeartbeats 1000000 in
theorem rsplit_in (f s n : Int) (hr : rightB f s = true) (h0 : 0 ≤ n) (h1 : n ≤ s) : Ret 21 #[arc f s, .int .i64 n] (.returned (splitR f n ((f + n) % 64) (s - n) 0)) := by
  intro w
  have hr' := right_spec.1 hr
  have c1 := rright_at f s
  rw [hr] at c1
  have C1 := Lib.hid c1; clear c1
  have hs1 := IntWalk.i64_in (s - n) (by omega)
  clear hr
  go_enter Try.func21, Try.ntmps21
  go_wp2_with fail
  refine (C1.out _).mono ?_
  rintro e w1 ⟨rfl, rfl⟩
  go_wp2_with fail
  go_region
  all_goals
    go_wp2_with fail
    refine bodyPost_ret (v := splitR f n ((f + n) % 64) (s - n) 0) (by simp [results, Try.results21, go_sem]) rfl ⟨rfl, ?_⟩
    repeat (first | exact Below.refl _ _ | refine Below.drew ?_ | refine below_alloc ?_ _)

set_option maxHeartbeats 1000000 in
theorem rsplit_no (f s n : Int) (hr : rightB f s = false) : Ret 21 #[arc f s, .int .i64 n] (.returned (splitR 0 0 0 0 21)) := by
  intro w
  have c1 := rright_at f s
  rw [hr] at c1
  have C1 := Lib.hid c1; clear c1
  clear hr
  go_enter Try.func21, Try.ntmps21
  go_wp2_with fail
  refine (C1.out _).mono ?_
  rintro e w1 ⟨rfl, rfl⟩
  go_wp2_with fail
  refine bodyPost_ret (v := splitR 0 0 0 0 21) (by simp [results, Try.results21, go_sem]) rfl ⟨rfl, ?_⟩
  repeat (first | exact Below.refl _ _ | refine Below.drew ?_ | refine below_alloc ?_ _)

set_option maxHeartbeats 1000000 in
theorem rsplit_low (f s n : Int) (hr : rightB f s = true) (h0 : n < 0) : Ret 21 #[arc f s, .int .i64 n] (.returned (splitR 0 0 0 0 21)) := by
  intro w
  have c1 := rright_at f s
  rw [hr] at c1
  have C1 := Lib.hid c1; clear c1
  clear hr
  go_enter Try.func21, Try.ntmps21
  go_wp2_with fail
  refine (C1.out _).mono ?_
  rintro e w1 ⟨rfl, rfl⟩
  go_wp2_with fail
  refine bodyPost_ret (v := splitR 0 0 0 0 21) (by simp [results, Try.results21, go_sem]) rfl ⟨rfl, ?_⟩
  repeat (first | exact Below.refl _ _ | refine Below.drew ?_ | refine below_alloc ?_ _)

set_option maxHeartbeats 1000000 in
theorem rsplit_high (f s n : Int) (hr : rightB f s = true) (h0 : 0 ≤ n) (h1 : s < n) : Ret 21 #[arc f s, .int .i64 n] (.returned (splitR 0 0 0 0 21)) := by
  intro w
  have hr' := right_spec.1 hr
  have c1 := rright_at f s
  rw [hr] at c1
  have C1 := Lib.hid c1; clear c1
  clear hr
  go_enter Try.func21, Try.ntmps21
  go_wp2_with fail
  refine (C1.out _).mono ?_
  rintro e w1 ⟨rfl, rfl⟩
  go_wp2_with fail
  refine bodyPost_ret (v := splitR 0 0 0 0 21) (by simp [results, Try.results21, go_sem]) rfl ⟨rfl, ?_⟩
  repeat (first | exact Below.refl _ _ | refine Below.drew ?_ | refine below_alloc ?_ _)

set_option maxHeartbeats 1000000 in
theorem rjoin_in (f s g t : Int) (hr : rightB f s = true) (hq : rightB g t = true) (hs : s + t ≤ 64) (hg : g = (f + s) % 64) : Ret 23 #[arc f s, arc g t] (.returned (joinR f (s + t) 0)) := by
  intro w
  have hr' := right_spec.1 hr
  have hq' := right_spec.1 hq
  have c1 := rright_at f s
  rw [hr] at c1
  have C1 := Lib.hid c1; clear c1
  have c2 := rright_at g t
  rw [hq] at c2
  have C2 := Lib.hid c2; clear c2
  have h1 := IntWalk.i64_in (s + t) (by omega)
  have hg1 : (g != (f + s) % 64) = false := by simp [hg]
  have hg2 : ((f + s) % 64 != g) = false := by simp [hg]
  clear hr hq
  have HG := Lib.hid hg; clear hg
  go_enter Try.func23, Try.ntmps23
  go_wp2_with fail
  refine (C1.out _).mono ?_
  rintro e w1 ⟨rfl, rfl⟩
  go_wp2_with fail
  refine (C2.out _).mono ?_
  rintro e w1 ⟨rfl, rfl⟩
  go_wp2_with fail
  refine bodyPost_ret (v := joinR f (s + t) 0) (by simp [results, Try.results23, go_sem]) rfl ⟨rfl, ?_⟩
  repeat (first | exact Below.refl _ _ | refine Below.drew ?_ | refine below_alloc ?_ _)

set_option maxHeartbeats 1000000 in
theorem rjoin_apart (f s g t : Int) (hr : rightB f s = true) (hq : rightB g t = true) (hs : s + t ≤ 64) (hg : ¬ g = (f + s) % 64) : Ret 23 #[arc f s, arc g t] (.returned (joinR 0 0 22)) := by
  intro w
  have hr' := right_spec.1 hr
  have hq' := right_spec.1 hq
  have c1 := rright_at f s
  rw [hr] at c1
  have C1 := Lib.hid c1; clear c1
  have c2 := rright_at g t
  rw [hq] at c2
  have C2 := Lib.hid c2; clear c2
  have h1 := IntWalk.i64_in (s + t) (by omega)
  have hg1 : (g != (f + s) % 64) = true := by simp [hg]
  have hg2 : ((f + s) % 64 != g) = true := by simp; omega
  clear hr hq
  have HG := Lib.hid hg; clear hg
  go_enter Try.func23, Try.ntmps23
  go_wp2_with fail
  refine (C1.out _).mono ?_
  rintro e w1 ⟨rfl, rfl⟩
  go_wp2_with fail
  refine (C2.out _).mono ?_
  rintro e w1 ⟨rfl, rfl⟩
  go_wp2_with fail
  refine bodyPost_ret (v := joinR 0 0 22) (by simp [results, Try.results23, go_sem]) rfl ⟨rfl, ?_⟩
  repeat (first | exact Below.refl _ _ | refine Below.drew ?_ | refine below_alloc ?_ _)

set_option maxHeartbeats 1000000 in
theorem rjoin_much (f s g t : Int) (hr : rightB f s = true) (hq : rightB g t = true) (hs : 64 < s + t) : Ret 23 #[arc f s, arc g t] (.returned (joinR 0 0 21)) := by
  intro w
  have hr' := right_spec.1 hr
  have hq' := right_spec.1 hq
  have c1 := rright_at f s
  rw [hr] at c1
  have C1 := Lib.hid c1; clear c1
  have c2 := rright_at g t
  rw [hq] at c2
  have C2 := Lib.hid c2; clear c2
  clear hr hq
  go_enter Try.func23, Try.ntmps23
  go_wp2_with fail
  refine (C1.out _).mono ?_
  rintro e w1 ⟨rfl, rfl⟩
  go_wp2_with fail
  refine (C2.out _).mono ?_
  rintro e w1 ⟨rfl, rfl⟩
  go_wp2_with fail
  refine bodyPost_ret (v := joinR 0 0 21) (by simp [results, Try.results23, go_sem]) rfl ⟨rfl, ?_⟩
  repeat (first | exact Below.refl _ _ | refine Below.drew ?_ | refine below_alloc ?_ _)

set_option maxHeartbeats 1000000 in
theorem rjoin_no2 (f s g t : Int) (hr : rightB f s = true) (hq : rightB g t = false) : Ret 23 #[arc f s, arc g t] (.returned (joinR 0 0 21)) := by
  intro w
  have c1 := rright_at f s
  rw [hr] at c1
  have C1 := Lib.hid c1; clear c1
  have c2 := rright_at g t
  rw [hq] at c2
  have C2 := Lib.hid c2; clear c2
  clear hr hq
  go_enter Try.func23, Try.ntmps23
  go_wp2_with fail
  refine (C1.out _).mono ?_
  rintro e w1 ⟨rfl, rfl⟩
  go_wp2_with fail
  refine (C2.out _).mono ?_
  rintro e w1 ⟨rfl, rfl⟩
  go_wp2_with fail
  refine bodyPost_ret (v := joinR 0 0 21) (by simp [results, Try.results23, go_sem]) rfl ⟨rfl, ?_⟩
  repeat (first | exact Below.refl _ _ | refine Below.drew ?_ | refine below_alloc ?_ _)

set_option maxHeartbeats 1000000 in
theorem rjoin_no1 (f s g t : Int) (hr : rightB f s = false) : Ret 23 #[arc f s, arc g t] (.returned (joinR 0 0 21)) := by
  intro w
  have c1 := rright_at f s
  rw [hr] at c1
  have C1 := Lib.hid c1; clear c1
  have C2 := Lib.hid (rright_at g t)
  clear hr
  cases hq : rightB g t <;> rw [hq] at C2
  all_goals
  (
  go_enter Try.func23, Try.ntmps23
  go_wp2_with fail
  refine (C1.out _).mono ?_
  rintro e w1 ⟨rfl, rfl⟩
  go_wp2_with fail
  refine (C2.out _).mono ?_
  rintro e w1 ⟨rfl, rfl⟩
  go_wp2_with fail
  refine bodyPost_ret (v := joinR 0 0 21) (by simp [results, Try.results23, go_sem]) rfl ⟨rfl, ?_⟩
  repeat (first | exact Below.refl _ _ | refine Below.drew ?_ | refine below_alloc ?_ _))

theorem split_two (f s n : Int) : ∃ a b c d e : Int, Ret 20 #[arc f s, .int .i64 n] (.returned (splitR a b c d e)) ∧ Ret 21 #[arc f s, .int .i64 n] (.returned (splitR a b c d e)) := by
  cases hr : rightB f s
  · exact ⟨_, _, _, _, _, split_no f s n hr, rsplit_no f s n hr⟩
  · by_cases h0 : n < 0
    · exact ⟨_, _, _, _, _, split_low f s n hr h0, rsplit_low f s n hr h0⟩
    · by_cases h1 : s < n
      · exact ⟨_, _, _, _, _, split_high f s n hr (by omega) h1, rsplit_high f s n hr (by omega) h1⟩
      · exact ⟨_, _, _, _, _, split_in f s n hr (by omega) (by omega), rsplit_in f s n hr (by omega) (by omega)⟩
theorem join_two (f s g t : Int) : ∃ a b e : Int, Ret 22 #[arc f s, arc g t] (.returned (joinR a b e)) ∧ Ret 23 #[arc f s, arc g t] (.returned (joinR a b e)) := by
  cases hr : rightB f s
  · exact ⟨_, _, _, join_no1 f s g t hr, rjoin_no1 f s g t hr⟩
  · cases hq : rightB g t
    · exact ⟨_, _, _, join_no2 f s g t hr hq, rjoin_no2 f s g t hr hq⟩
    · by_cases hs : 64 < s + t
      · exact ⟨_, _, _, join_much f s g t hr hq hs, rjoin_much f s g t hr hq hs⟩
      · by_cases hg : g = (f + s) % 64
        · exact ⟨_, _, _, join_in f s g t hr hq (by omega) hg, rjoin_in f s g t hr hq (by omega) hg⟩
        · exact ⟨_, _, _, join_apart f s g t hr hq (by omega) hg, rjoin_apart f s g t hr hq (by omega) hg⟩

end Go.Proofs.Ytjgmgcniemncjaa
