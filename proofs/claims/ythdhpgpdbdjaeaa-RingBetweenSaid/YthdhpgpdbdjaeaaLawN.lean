/- awake; no ring: RingNil, the walk. -/
import Derived.Test.YthdhpgpdbdjaeaaAsk
namespace Go.Proofs.Ythdhpgpdbdjaeaa
open Go.RowKit Go.Sort
set_option linter.unusedVariables false
set_option linter.unusedSimpArgs false
set_option maxRecDepth 100000

set_option maxHeartbeats 4000000 in
theorem awake_any : Ret 7 #[] (.returned (.bool true)) := by
  intro w
  have BT := Lib.hid (between_any 0 3 0 1 0 2)
  rw [show btw 0 3 0 1 0 2 = true by decide] at BT
  have AT := Lib.hid (at_any 1 10)
  have NW := Lib.hid (fun w => new_yes 1 0 10 (by decide) w)
  have HA := Lib.hid (fun (g : Nat) w hr => handle_ask (g := g) (n := 1) (h := 0) (l := 10) (n' := 1) (h' := 0) (l' := 10) (a := 0) 2 (by decide) (by decide) w hr)
  go_enter Try.func7, Try.ntmps7
  go_wp2_with fail
  refine (AT.out _).mono ?_; rintro e w1 ⟨rfl, b1⟩
  have BB := Lib.hid b1
  clear b1 AT
  go_wp2_with fail
  refine (NW.out _).mono ?_; rintro e w2 ⟨g, rfl, hg, hr, b2⟩
  have BB := Lib.hid (below_next BB.out b2)
  have HA2 := Lib.hid (HA.out g w2 hr)
  clear b2 NW hg hr HA
  go_wp2_with fail
  refine HA2.out.mono ?_; rintro e w3 ⟨v, rfl, ⟨gl, ao, cap, rfl, _, _, m3⟩, b3⟩
  have BB := Lib.hid (below_next BB.out b3)
  have c0 := m3.c0
  have c2 := m3.c2
  have c48 := m3.c48
  clear b3 HA2 m3
  go_wp2_with fail
  refine (BT.out _).mono ?_; rintro e w4 ⟨rfl, b4⟩
  have BB := Lib.hid (below_next BB.out b4)
  clear b4 c0 c2 c48
  go_wp2_with fail
  go_ret
  exact ⟨rfl, BB.out⟩

set_option maxHeartbeats 400000 in
theorem join_nil (a : Int) : Still 18 #[.pointer none, .int .i64 a] (.returned (.tuple #[.slice none 0 0, .int .i64 1])) := by
  intro w
  go_enter Try.func18, Try.ntmps18
  go_wp2_with fail
  go_ret2
  exact ⟨rfl, rfl⟩
set_option maxHeartbeats 400000 in
theorem handle_nil (cs : Array Value) (hcs : cs.size = 49) (w : World) : Calls Try.prog 19 #[.pointer none, .agg cs] w fun e w' => e = .returned (.tuple #[.slice none 0 0, .int .i64 1]) ∧ Below w.heap.size w w' := by
  go_enter Try.func19, Try.ntmps19
  go_wp2_with fail
  go_ret2
  exact ⟨rfl, below_alloc (Below.refl _ _) _⟩
theorem results_cell_tmp {P : Program} {fn : Func} {t s : Tmp} {u : TypeId} {tmps : Array Value} {w : World} {ad : Addr} {v x : Value} (h : fn.results = #[.cell t u, .tmp s]) (ht : tmps.getD t undef = .pointer (some ad))
    (hl : (loadVar u ad).run P w = .ok v w) (hx : tmps.getD s undef = x) : (results fn tmps).run P w = .ok (.tuple #[v, x]) w := by
  have ht' : tmps[t]?.getD undef = .pointer (some ad) := by simpa using ht
  have hx' : tmps[s]?.getD undef = x := by simpa using hx
  simp [results, h, ht', hl, asAddr, hx']
set_option maxHeartbeats 800000 in
theorem pred_nil (w : World) : Calls Try.prog 20 #[.pointer none] w fun e w' => e = .returned (.tuple #[peer 0 0 0, .bool false]) ∧ Below w.heap.size w w' := by
  go_enter Try.func20, Try.ntmps20
  go_wp2_with fail
  refine bodyPost_ret (v := .tuple #[peer 0 0 0, .bool false]) (results_cell_tmp Try.results20 rfl ?_ rfl) rfl ⟨rfl, ?_⟩
  · go_simp
  · exact below_alloc (Below.refl _ _) _
set_option maxHeartbeats 400000 in
theorem suspect_nil (a : Int) (w : World) : Calls Try.prog 17 #[.pointer none, .int .i64 a] w fun e w' => e = .returned (.tuple #[]) ∧ w = w' := by
  go_enter Try.func17, Try.ntmps17
  go_wp2_with fail
  go_end0
  exact ⟨rfl, rfl⟩
set_option maxHeartbeats 400000 in
theorem stab_nil : Still 21 #[.pointer none] (.returned (.slice none 0 0)) := by
  intro w
  go_enter Try.func21, Try.ntmps21
  go_wp2_with fail
  go_ret
  exact ⟨rfl, rfl⟩
set_option maxHeartbeats 400000 in
theorem leave_nil : Still 15 #[.pointer none] (.returned (.slice none 0 0)) := by
  intro w
  go_enter Try.func15, Try.ntmps15
  go_wp2_with fail
  go_ret
  exact ⟨rfl, rfl⟩
set_option maxHeartbeats 400000 in
theorem succs_nil : Still 22 #[.pointer none] (.returned (.slice none 0 0)) := by
  intro w
  go_enter Try.func22, Try.ntmps22
  go_wp2_with fail
  go_ret
  exact ⟨rfl, rfl⟩
set_option maxHeartbeats 400000 in
theorem joined_nil : Still 23 #[.pointer none] (.returned (.bool false)) := by
  intro w
  go_enter Try.func23, Try.ntmps23
  go_wp2_with fail
  go_ret
  exact ⟨rfl, rfl⟩
set_option maxHeartbeats 400000 in
theorem owns_nil (h l : Int) (w : World) : Calls Try.prog 24 #[.pointer none, pos h l] w fun e w' => e = .returned (.bool false) ∧ Below w.heap.size w w' := by
  go_enter Try.func24, Try.ntmps24
  go_wp2_with fail
  go_ret
  exact ⟨rfl, below_alloc (Below.refl _ _) _⟩
theorem load_row49 (w : World) (b : Nat) (cs : Array Value) (hcs : cs.size = 49) (hr : w.heap[b]? = some (.cells cs 70 (0, 0))) : (Instr.loadAt 70 (.pointer (some ⟨b, 0, none⟩))).run Try.prog w = .ok (.agg cs) w := by
  simp only [Instr.loadAt, Instr.sureAddr, Sem.run_bind, Sem.run_pure, Result.andThen]
  exact run_loadVar_row w b 70 70 _ (0, 0) _ hr Try.underlying70 rfl (by rw [hcs]; exact msg_size)
theorem eql_zero (w : World) : (binOp .eql 76 (peer 0 0 0) (peer 0 0 0)).run Try.prog w = .ok (.bool true) w := by kernel_rfl

set_option maxHeartbeats 8000000 in
theorem ringNil_law (cs : List Value) (hl : cs.length = 49) (W : World) : Calls Try.prog 6 #[.agg ⟨cs⟩] W (LawOk W) := by
  obtain ⟨ca, hca⟩ : ∃ ca : Array Value, ca = ⟨cs⟩ := ⟨_, rfl⟩
  have hsz : ca.size = 49 := by rw [hca]; exact hl
  rw [← hca]
  clear hca hl
  have HN := Lib.hid (fun w => handle_nil ca hsz w)
  have R0 := Lib.hid (heap_alloc_new W (.cells ca 70))
  have B0 := Lib.hid (below_alloc (Below.refl W.heap.size W) (.cells ca 70))
  have HSZ := Lib.hid hsz
  clear hsz
  go_enter Try.func6, Try.ntmps6
  go_upto_region 1 with (fail)
  have r0 := R0.out
  have b0 := B0.out
  generalize W.alloc (.cells ca 70) = w0 at *
  have R1 := Lib.hid r0
  have BB := Lib.hid b0
  clear R0 B0 r0 b0
  go_wp2_with fail
  refine (awake_any _).mono ?_; rintro e w1 ⟨rfl, b1⟩
  have LD := Lib.hid (load_row49 w1 _ ca HSZ.out (row_keep R1.out (Keep.of_below b1 []) (by simp)))
  have BB := Lib.hid (below_next BB.out b1)
  clear b1
  go_wp2_with fail
  refine (join_nil 1 _).mono ?_; rintro e w2 ⟨rfl, rfl⟩
  go_upto_region 4 with (fail)
  go_wp2_with (refine wpList_value rfl (.agg ca) (exec_load 70 (.tmp 1) rfl rfl LD.out) ?_)
  refine (HN.out _).mono ?_; rintro e w2 ⟨rfl, b2⟩
  have BB := Lib.hid (below_next BB.out b2)
  clear b2 LD
  go_wp2_with fail
  refine (pred_nil _).mono ?_; rintro e w3 ⟨rfl, b3⟩
  have BB := Lib.hid (below_alloc (below_next BB.out b3) (.cells #[.int .i64 0, .int .u64 0, .int .u64 0] 76))
  clear b3
  go_upto_region 6 with (fail)
  have q0 : (w3.alloc (.cells #[.int .i64 0, .int .u64 0, .int .u64 0] 76)).cell? ⟨w3.heap.size, 0, none⟩ = some (.int .i64 0) := by go_simp
  have q1 : (w3.alloc (.cells #[.int .i64 0, .int .u64 0, .int .u64 0] 76)).cell? ⟨w3.heap.size, 1, none⟩ = some (.int .u64 0) := by go_simp
  have q2 : (w3.alloc (.cells #[.int .i64 0, .int .u64 0, .int .u64 0] 76)).cell? ⟨w3.heap.size, 2, none⟩ = some (.int .u64 0) := by go_simp
  generalize w3.alloc (.cells #[.int .i64 0, .int .u64 0, .int .u64 0] 76) = w4 at *
  go_wp2_with fail
  refine (suspect_nil 1 _).mono ?_; rintro e w5 ⟨rfl, rfl⟩
  have EZ := eql_zero
  go_wp2_with fail
  refine (stab_nil _).mono ?_; rintro e w5 ⟨rfl, rfl⟩
  go_wp2_with fail
  refine (leave_nil _).mono ?_; rintro e w5 ⟨rfl, rfl⟩
  go_wp2_with fail
  refine (succs_nil _).mono ?_; rintro e w5 ⟨rfl, rfl⟩
  go_wp2_with fail
  refine (joined_nil _).mono ?_; rintro e w5 ⟨rfl, rfl⟩
  go_wp2_with fail
  refine (owns_nil 0 0 _).mono ?_; rintro e w5 ⟨rfl, b5⟩
  have BB := Lib.hid (below_next BB.out b5)
  go_wp2_with fail
  go_ret
  exact ⟨rfl, BB.out⟩
end Go.Proofs.Ythdhpgpdbdjaeaa
