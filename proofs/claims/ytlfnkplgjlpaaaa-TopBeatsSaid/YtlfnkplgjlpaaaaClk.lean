/- Clocks: New, Now, Pass; share. -/
import Derived.Test.YtlfnkplgjlpaaaaLearn
namespace Go.Proofs.Ytlfnkplgjlpaaaa
open Go.RowKit Go.Sort
set_option linter.unusedVariables false

/-- a clock in block hc -/
structure Ck (w : World) (hc rate th : Nat) : Prop where
  c0 : w.cell? ⟨hc, 0, none⟩ = some (.int .i64 (rate : Int))
  c1 : w.cell? ⟨hc, 1, none⟩ = some (.int .i64 (th : Int))
  f1 : w.frozen? ⟨hc, 1, none⟩ = false
  lt : hc < w.heap.size
section
variable {w w' : World} {hc rate th : Nat}
theorem Ck.keep {U : List Nat} (h : Ck w hc rate th) (k : Keep U w w') (hn : hc ∉ U) : Ck w' hc rate th :=
  ⟨(k.cell h.lt hn).trans h.c0, (k.cell h.lt hn).trans h.c1, (k.frozen h.lt hn).trans h.f1, Nat.lt_of_lt_of_le h.lt k.size⟩
theorem Ck.below (h : Ck w hc rate th) (b : Below w.heap.size w w') : Ck w' hc rate th := h.keep (Keep.of_below b []) (by simp)
set_option maxHeartbeats 400000 in
theorem isRate_yes (x : Int) (h : 900 ≤ x ∧ x ≤ 1100) (w : World) : Calls Try.prog 41 #[.int .i64 x] w fun e w' => e = .returned (.bool true) ∧ w' = w := by
  have e1 : decide (900 ≤ x) = true := by simp; omega
  have e2 : decide (x ≤ 1100) = true := by simp; omega
  obtain ⟨h1, h2⟩ := h
  go_enter Try.func41, Try.ntmps41
  go_wp2_with fail
  go_ret
  exact ⟨rfl, rfl⟩
set_option maxHeartbeats 400000 in
theorem isTime0 (w : World) : Calls Try.prog 42 #[.int .i64 0] w fun e w' => e = .returned (.bool true) ∧ w' = w := by
  go_enter Try.func42, Try.ntmps42
  go_wp2_with fail
  go_ret
  exact ⟨rfl, rfl⟩
set_option maxHeartbeats 400000 in
theorem newHeap_any (w : World) : Calls Try.prog 43 #[] w fun e w' => ∃ g, e = .returned (.agg #[.slice none 0 0, .map (some g)]) ∧ Below w.heap.size w w' := by
  have hmm := @run_makeMap Try.prog
  go_enter Try.func43, Try.ntmps43
  go_wp2_with fail
  refine bodyPost_ret (v := .agg #[.slice none 0 0, .map (some (w.heap.size + 1))]) (results_cell1 Try.results43 rfl ?_) rfl ⟨_, rfl, ?_⟩
  · go_simp
  · exact below_alloc (below_alloc (Below.refl _ _) _) _
set_option maxHeartbeats 1000000 in
theorem newC_at (a : Int) (ha : Hid (a = 0)) (rate : Nat) (h : 900 ≤ rate ∧ rate ≤ 1100) (w : World) : Calls Try.prog 19 #[.int .i64 (rate : Int), .int .i64 a] w fun e w' =>
    ∃ hc, e = .returned (.tuple #[.pointer (some ⟨hc, 0, none⟩), .int .i64 0]) ∧ Ck w' hc rate 0 ∧ w.heap.size ≤ hc ∧ Below w.heap.size w w' := by
  have R1 := Lib.hid (fun w => isRate_yes (rate : Int) (by omega) w)
  have T1 := Lib.hid (fun w => isTime0 w)
  rw [← ha.out] at T1
  have hmul : a * 1000 = a := by rw [ha.out]; rfl
  have hab : -1 ≤ a ∧ a ≤ 1 := by rw [ha.out]; omega
  clear h
  go_enter Try.func19, Try.ntmps19
  go_wp2_with fail
  refine (R1.out _).mono ?_; rintro e w1 ⟨rfl, rfl⟩
  go_wp2_with fail
  refine (T1.out _).mono ?_; rintro e w2 ⟨rfl, rfl⟩
  go_wp2_with fail
  refine (newHeap_any _).mono ?_; rintro e w3 ⟨g, rfl, b3⟩
  have B3 := Lib.hid b3
  have HS := Lib.hid b3.size
  clear b3 T1 R1
  go_wp2_with fail
  go_ret2
  rw [ha.out]
  have hrow := heap_alloc_new w3 (.cells #[.int .i64 (rate : Int), .int .i64 0, .slice none 0 0, .map (some g), .int .u64 0] 93)
  exact ⟨w3.heap.size, rfl, ⟨cell_of_row _ _ 0 _ _ (0, 0) hrow, cell_of_row _ _ 1 _ _ (0, 0) hrow, frozen_of_row _ _ 1 _ _ hrow, by simp⟩, HS.out, below_alloc B3.out _⟩
theorem newC_any (rate : Nat) (h : 900 ≤ rate ∧ rate ≤ 1100) (w : World) : Calls Try.prog 19 #[.int .i64 (rate : Int), .int .i64 0] w fun e w' =>
    ∃ hc, e = .returned (.tuple #[.pointer (some ⟨hc, 0, none⟩), .int .i64 0]) ∧ Ck w' hc rate 0 ∧ w.heap.size ≤ hc ∧ Below w.heap.size w w' := newC_at 0 (Lib.hid rfl) rate h w
set_option maxHeartbeats 400000 in
theorem nowC_any (ht : th ≤ 1000000000000) (w : World) (h : Ck w hc rate th) : Calls Try.prog 21 #[.pointer (some ⟨hc, 0, none⟩)] w fun e w' => e = .returned (.int .i64 ((th / 1000 : Nat) : Int)) ∧ w' = w := by
  have c1 := h.c1
  obtain ⟨q, hq0⟩ : ∃ q : Nat, th / 1000 = q := ⟨_, rfl⟩
  rw [hq0]
  have hq : (th : Int).tdiv 1000 = (q : Int) := by rw [Int.tdiv_eq_ediv_of_nonneg (by omega)]; omega
  have hq2 : (th : Int) / 1000 = (q : Int) := by omega
  have hqb : (q : Int) ≤ 1000000000 := by omega
  clear h hq0
  go_enter Try.func21, Try.ntmps21
  go_wp2_with fail
  go_ret
  exact ⟨rfl, rfl⟩
set_option maxRecDepth 10000 in
set_option maxHeartbeats 2000000 in
theorem passC_any (n : Nat) (hn : n ≤ 10000) (hr : 900 ≤ rate ∧ rate ≤ 1100) (ht : th ≤ 1000000000000) (w : World) (h : Ck w hc rate th) : Calls Try.prog 22 #[.pointer (some ⟨hc, 0, none⟩), .int .i64 (n : Int)] w fun e w' =>
    e = .returned (.int .i64 0) ∧ Ck w' hc rate (th + n * rate) ∧ Keep [hc] w w' := by
  obtain ⟨p, hp⟩ : ∃ p, n * rate = p := ⟨_, rfl⟩
  have hp2 : (n : Int) * (rate : Int) = (p : Int) := by rw [← hp]; simp
  have hpb : p ≤ 11000000 := by rw [← hp]; exact Nat.le_trans (Nat.mul_le_mul hn hr.2) (by decide)
  have c0 := h.c0; have c1 := h.c1; have f1 := h.f1; have hlt := h.lt
  have hdiv : (900000000000 : Int) ≤ (1099511627776999 - (th : Int)) / (rate : Int) := by
    refine (Int.le_ediv_iff_mul_le (by omega)).2 ?_
    have h1 : (900000000000 : Int) * (rate : Int) ≤ 900000000000 * 1100 := Int.mul_le_mul_of_nonneg_left (by omega) (by omega)
    omega
  have hdiv2 : (1099511627776999 - (th : Int)).tdiv (rate : Int) = (1099511627776999 - (th : Int)) / (rate : Int) := Int.tdiv_eq_ediv_of_nonneg (by omega)
  have hdiv3 : (1099511627776999 - (th : Int)) / (rate : Int) ≤ 1099511627776999 := by
    refine Int.le_trans (Int.ediv_le_self _ (by omega)) (by omega)
  obtain ⟨q, hq⟩ : ∃ q, (1099511627776999 - (th : Int)) / (rate : Int) = q := ⟨_, rfl⟩
  rw [hq] at hdiv hdiv2 hdiv3
  rw [hp]
  have hb1 : (rate : Int) ≠ 0 := by omega
  have hb2 : ((rate : Int) == 0) = false := by simpa using hb1
  have hni : (n : Int) ≤ 10000 := by omega
  have hti : (th : Int) ≤ 1000000000000 := by omega
  have hri : (rate : Int) ≤ 1100 := by omega
  have hpi : (p : Int) ≤ 11000000 := by omega
  have hgt : decide ((n : Int) > q) = false := by simp; omega
  have hgt2 : decide (q < (n : Int)) = false := by simp; omega
  have hq1 : q < 9223372036854775807 := by omega
  have hq0 : 0 ≤ q := by omega
  have h0 : decide ((n : Int) < 0) = false := by simp
  have hsum : ((th + p : Nat) : Int) = (th : Int) + (p : Int) := by omega
  clear h hp hpb hdiv hdiv3 hn hr ht
  go_enter Try.func22, Try.ntmps22
  go_wp2_with fail
  have k0 := cell_regrown c0; have k1 := cell_regrown c1
  refine wp_region_quiet_below (by kernel_rfl) (by kernel_rfl) ?_
  repeat (go_big_quiet_step (fail))
  refine wpQuiet_nil ?_
  intro _ hw'
  obtain ⟨⟨dq, osq⟩, hw''⟩ := hw'
  subst hw''
  have lk := below_regrown w dq osq
  have K2 := Lib.hid (Keep.of_below lk [hc])
  have d0 := k0 dq osq; have d1 := k1 dq osq
  have d2 := (lk.frozen (p := ⟨hc, 1, none⟩) hlt).trans f1
  have hlt2 : hc < (grow (redrawn w dq) osq).heap.size := Nat.lt_of_lt_of_le hlt lk.size
  clear k0 k1 lk c0 c1 f1 hlt
  generalize grow (redrawn w dq) osq = w2 at *
  have k0 := cell_regrown d0; have k1 := cell_regrown d1
  go_wp2_with fail
  refine region_tail 13 (by kernel_rfl) (by kernel_rfl) ?_
  simp only [List.take_succ_cons, List.take_zero, List.drop_succ_cons, List.drop_zero]
  repeat (go_big_quiet_step (fail))
  refine wpQuiet_nil ?_
  intro _ hw'
  obtain ⟨⟨dq2, osq2⟩, hw''⟩ := hw'
  subst hw''
  have lk := below_regrown w2 dq2 osq2
  have K3 := Lib.hid (K2.out.trans (Keep.of_below lk [hc]))
  have e0 := k0 dq2 osq2; have e1 := k1 dq2 osq2
  have e2 := (lk.frozen (p := ⟨hc, 1, none⟩) hlt2).trans d2
  have hlt3 : hc < (grow (redrawn w2 dq2) osq2).heap.size := Nat.lt_of_lt_of_le hlt2 lk.size
  clear k0 k1 lk d0 d1 d2 hlt2 K2
  generalize grow (redrawn w2 dq2) osq2 = w3 at *
  go_wp2_with fail
  go_ret
  refine ⟨rfl, ?_, K3.out.trans ?_⟩
  · rw [← hsum]
    exact ⟨by go_simp, by go_simp, by go_simp, by simpa [World.setCell] using hlt3⟩
  · exact Keep.setCell w3 ⟨hc, 1, none⟩ (.int .i64 ((th : Int) + (p : Int)))
end
/-- which of n things a number speaks of -/
def shr (c : Int) (n : Nat) : Nat := ((if c < 0 then -(c + 1) else c) % n).toNat
theorem shr_nn {c : Int} (n : Nat) (hn : 0 < n) : ((shr c n : Nat) : Int) = (if c < 0 then -(c + 1) else c) % n := by
  unfold shr
  have h2 := Int.emod_nonneg (if c < 0 then -(c + 1) else c) (show (n : Int) ≠ 0 by omega)
  omega
set_option maxHeartbeats 800000 in
theorem share_any (c : Int) (hc : -9223372036854775808 ≤ c ∧ c ≤ 9223372036854775807) (n : Nat) (hn : 0 < n ∧ n ≤ 1000) (w : World) : Calls Try.prog 20 #[.int .i64 c, .int .i64 (n : Int)] w fun e w' => e = .returned (.int .i64 (shr c n : Int)) ∧ w' = w := by
  have hs := shr_nn (c := c) n hn.1
  have hn0 : (n : Int) ≠ 0 := by omega
  have hn1 : ((n : Int) == 0) = false := by simpa using hn0
  have hnb : (n : Int) ≤ 1000 := by omega
  have hn2 : (0 : Int) < n := by omega
  obtain ⟨q, hq⟩ : ∃ q, shr c n = q := ⟨_, rfl⟩
  have hqb : q < n := by rw [← hq]; unfold shr; have h1 := Int.emod_lt_of_pos (if c < 0 then -(c + 1) else c) hn2; omega
  rw [hq] at hs ⊢
  by_cases hneg : c < 0
  · rw [if_pos hneg] at hs
    have h1 : (-(c + 1)).tmod (n : Int) = (q : Int) := by rw [Int.tmod_eq_emod_of_nonneg (by omega)]; exact hs.symm
    have h2 : -(c + 1).tmod (n : Int) = (q : Int) := by rw [← Int.neg_tmod]; exact h1
    clear hs hq
    go_enter Try.func20, Try.ntmps20
    go_wp2_with fail
    go_ret
    exact ⟨rfl, rfl⟩
  · rw [if_neg hneg] at hs
    have h1 : c.tmod (n : Int) = (q : Int) := by rw [Int.tmod_eq_emod_of_nonneg (by omega)]; exact hs.symm
    have h2 : c % (n : Int) = (q : Int) := hs.symm
    have h3 : decide (c < 0) = false := by simp; omega
    clear hs hq
    go_enter Try.func20, Try.ntmps20
    go_wp2_with fail
    go_ret
    exact ⟨rfl, rfl⟩
theorem shr_lt (c : Int) {n : Nat} (h : 0 < n) : shr c n < n := by
  unfold shr
  have h1 := Int.emod_lt_of_pos (if c < 0 then -(c + 1) else c) (show (0 : Int) < n by omega)
  have h2 := Int.emod_nonneg (if c < 0 then -(c + 1) else c) (show (n : Int) ≠ 0 by omega)
  omega
end Go.Proofs.Ytlfnkplgjlpaaaa
