/- No table. -/
import Derived.Test.YtokmchkoojeadaaMg
namespace Go.Proofs.Ytokmchkoojeadaa
open Go.RowKit Go.Sort
set_option linter.unusedVariables false
set_option linter.unusedSimpArgs false
set_option maxRecDepth 100000
theorem exec_load {P : Program} {o : Oper} {a : Act} {w : World} {v : Value} {p : Value} (t : TypeId) (x : Operand) (ho : o.op = .load t x) (hx : a.eval x = p)
    (h : (Instr.loadAt t p).run P w = .ok v w) : (execOp a.eval o).run P w = .ok (.value v) w := by
  unfold execOp
  simp only [ho, hx, Sem.run_bind, h, Result.andThen_ok, Sem.run_pure]
theorem step_results2 {w : World} {x2 x3 x4 : Nat} {r : Pe × Bool × Int} (r2 : w.heap[x2]? = some (.cells #[.int .i64 r.1.n, .int .u64 r.1.h, .int .u64 r.1.l] 26 (0, 0))) (r3 : w.heap[x3]? = some (.cells #[.bool r.2.1] 4 (0, 0))) (r4 : w.heap[x4]? = some (.cells #[.int .i64 r.2.2] 32 (0, 0)))
    {tmps : Array Value} (h4 : tmps.getD 4 undef = .pointer (some ⟨x2, 0, none⟩)) (h5 : tmps.getD 5 undef = .pointer (some ⟨x3, 0, none⟩)) (h6 : tmps.getD 6 undef = .pointer (some ⟨x4, 0, none⟩)) :
    (results Try.f19 tmps).run Try.prog w = .ok (stepV r) w := by
  have a0 := cell_of_row w x2 0 _ _ (0, 0) r2; have a1 := cell_of_row w x2 1 _ _ (0, 0) r2; have a2 := cell_of_row w x2 2 _ _ (0, 0) r2
  have a3 := cell_of_row w x3 0 _ _ (0, 0) r3; have a4 := cell_of_row w x4 0 _ _ (0, 0) r4
  simp only [List.getElem?_toArray, List.getElem?_cons_succ, List.getElem?_cons_zero] at a0 a1 a2 a3 a4
  have h4' : tmps[4]?.getD undef = .pointer (some ⟨x2, 0, none⟩) := by simpa using h4
  have h5' : tmps[5]?.getD undef = .pointer (some ⟨x3, 0, none⟩) := by simpa using h5
  have h6' : tmps[6]?.getD undef = .pointer (some ⟨x4, 0, none⟩) := by simpa using h6
  simp [results, Try.results19, h4', h5', h6', asAddr, go_sem, a0, a1, a2, a3, a4]
set_option maxHeartbeats 4000000 in
theorem step_nil (th tl : Int) (w : World) : Calls Try.prog 19 #[.pointer none, pos th tl] w fun e w' => e = .returned (.tuple #[peer 0 0 0, .bool false, .int .i64 1]) ∧ Below w.heap.size w w' := by
  refine callsIn_wide.1 (callsIn_of_wp_marks (n := 6) Try.func19 rfl trivial (wpIn_wide.2 ?_) rfl)
  simp only [Try.ntmps19, List.size_toArray, List.length_cons, List.length_nil, Nat.reduceAdd, Nat.reduceSub, Array.replicate_succ, Array.replicate_zero, List.push_toArray, List.append_toArray, List.nil_append, List.cons_append]
  go_wp2_with fail
  refine bodyM_ret (v := .tuple #[peer 0 0 0, .bool false, .int .i64 1]) ?_ rfl ⟨rfl, below_alloc (below_alloc (below_alloc (below_alloc (below_alloc (Below.refl _ _) _) _) _) _) _⟩
  simp [results, Try.results19, asAddr, go_sem]
set_option maxHeartbeats 1000000 in
theorem fingers_nil (w : World) : Calls Try.prog 11 #[.pointer none] w fun e w' => e = .returned (.slice none 0 0) ∧ w = w' := by
  go_enter Try.func11, Try.ntmps11
  go_wp2_with fail
  go_ret
  exact ⟨rfl, rfl⟩
set_option maxHeartbeats 1000000 in
theorem walk_nil (th tl : Int) (w : World) : Calls Try.prog 18 #[.pointer none, pos th tl] w fun e w' => e = .returned (.tuple #[peer 0 0 0, .bool false]) ∧ Below w.heap.size w w' := by
  go_enter Try.func18, Try.ntmps18
  go_wp2_with fail
  refine bodyPost_ret (v := .tuple #[peer 0 0 0, .bool false]) (results_cell_tmp Try.results18 rfl ?_ rfl) rfl ⟨rfl, ?_⟩
  · go_simp
  · exact below_alloc (below_alloc (Below.refl _ _) _) _
set_option maxHeartbeats 8000000 in
theorem routeNil_law {H : Type} (enc : TypeId × Value → H) {W0 : World} {base : Nat} {held : Bool} (v : Value) (d : DataW H) (p : List MemPlace) (ok : Value.okWide Try.prog W0 .any base 39 v) (k : DataW.Trod enc Try.prog W0 0 (fun _ => true) held 39 v d p) (hh : Int) (wh : (Lit.int .u64 hh).wf = true) (hl : Int) (wl : (Lit.int .u64 hl).wf = true) (cs : List Value) (hcl : cs.length = 49) (W : World) : Calls Try.prog 6 #[v, .agg #[.int .u64 hh, .int .u64 hl], .agg ⟨cs⟩] W (LawOk W) := by
  clear ok k wh wl
  obtain ⟨ca, hca⟩ : ∃ ca : Array Value, ca = ⟨cs⟩ := ⟨_, rfl⟩
  have hsz : ca.size = 49 := by rw [hca]; exact hcl
  rw [← hca]
  clear hca hcl
  have HN := Lib.hid (fun w => handle_nil ca hsz w)
  have BP := below_alloc (Below.refl W.heap.size W) (.cells #[.int .u64 hh, .int .u64 hl] 24)
  have P0 := heap_alloc_new W (.cells #[.int .u64 hh, .int .u64 hl] 24)
  have bm := below_alloc (Below.refl _ (W.alloc (.cells #[.int .u64 hh, .int .u64 hl] 24))) (.cells ca 66)
  have R0 := heap_alloc_new (W.alloc (.cells #[.int .u64 hh, .int .u64 hl] 24)) (.cells ca 66)
  rw [World.size_alloc] at R0
  have P1 := Lib.hid (row_keep P0 (Keep.of_below bm []) (by simp))
  have RM := Lib.hid R0
  have BB := Lib.hid (below_next BP bm)
  have HSZ := Lib.hid hsz
  clear hsz BP P0 bm R0
  go_enter Try.func6, Try.ntmps6
  go_upto_region 1 with (fail)
  generalize (W.alloc (.cells #[.int .u64 hh, .int .u64 hl] 24)).alloc (.cells ca 66) = w0 at *
  obtain ⟨x1, hx1⟩ : ∃ x, x = W.heap.size + 1 := ⟨_, rfl⟩
  rw [← hx1] at RM ⊢
  obtain ⟨x0, hx0⟩ : ∃ x, x = W.heap.size := ⟨_, rfl⟩
  rw [← hx0] at P1 ⊢
  clear hx0 hx1
  go_wp2_with fail
  refine (awake_any _).mono ?_; rintro e w1 ⟨rfl, b1⟩
  have P1 := Lib.hid (row_keep P1.out (Keep.of_below b1 []) (by simp)); have RM := Lib.hid (row_keep RM.out (Keep.of_below b1 []) (by simp))
  have BB := Lib.hid (below_next BB.out b1)
  clear b1
  have a0 := cell_of_row w1 x0 0 _ _ (0, 0) P1.out; have a1 := cell_of_row w1 x0 1 _ _ (0, 0) P1.out
  simp only [List.getElem?_toArray, List.getElem?_cons_succ, List.getElem?_cons_zero] at a0 a1
  go_wp2_with fail
  refine (step_nil hh hl _).mono ?_; rintro e w2 ⟨rfl, b2⟩
  have b3 := below_next b2 (below_alloc (Below.refl w2.heap.size w2) (.cells #[.int .i64 0, .int .u64 0, .int .u64 0] 26))
  have P3 := Lib.hid (row_keep P1.out (Keep.of_below b3 []) (by simp)); have R3 := Lib.hid (row_keep RM.out (Keep.of_below b3 []) (by simp))
  have B3 := Lib.hid (below_next BB.out b3)
  clear b2 b3 a0 a1
  go_upto_region 4 with (fail)
  generalize w2.alloc (.cells #[.int .i64 0, .int .u64 0, .int .u64 0] 26) = w3 at *
  obtain ⟨y1, hy1⟩ : ∃ x, x = w2.heap.size := ⟨_, rfl⟩
  rw [← hy1]
  clear hy1
  have LD := Lib.hid (load_row49 w3 _ ca HSZ.out R3.out)
  go_wp2_with (refine wpList_value rfl (.agg ca) (exec_load 66 (.tmp 5) rfl rfl LD.out) ?_)
  refine (HN.out _).mono ?_; rintro e w4 ⟨rfl, b4⟩
  have b5 := below_next b4 (below_alloc (Below.refl w4.heap.size w4) (.cells (msgC 0 0 0 (.slice none 0 0)) 66))
  have r5 := heap_alloc_new w4 (.cells (msgC 0 0 0 (.slice none 0 0)) 66)
  have P5 := Lib.hid (row_keep P3.out (Keep.of_below b5 []) (by simp))
  have B5 := Lib.hid (below_next B3.out b5)
  have R5 := Lib.hid r5
  have B4S := Lib.hid b4.size
  clear b4 b5 r5 LD
  go_upto_region 5 with (first
    | (refine wpList_alloc_msg rfl rfl (fun w5 hw5 => ?_); subst hw5)
    | (refine wpList_store_row rfl 66 (.tmp 12) (.tmp 28) rfl w4.heap.size (msgC 0 0 0 (.slice none 0 0)) rfl rfl 66 (msgC 0 0 0 (.slice none 0 0)) R5.out (by rw [msgC_size]; exact msg_size) rfl (msgC_one _ _ _ _ _ _) ?_))
  have k6 := Keep.setRow (w4.alloc (.cells (msgC 0 0 0 (.slice none 0 0)) 66)) w4.heap.size (msgC 0 0 0 (.slice none 0 0))
  have hx0 : x0 ∉ [w4.heap.size] := fun hm => by simp only [List.mem_singleton] at hm; have h1 := (Array.getElem?_eq_some_iff.1 P3.out).1; have := B4S.out; omega
  have P6 := Lib.hid (row_keep P5.out k6 hx0)
  have B6 := Lib.hid (B5.out.trans (k6.below B5.out.size (by intro q hq; simp only [List.mem_singleton] at hq; have := B3.out.size; have := B4S.out; omega)))
  clear k6 hx0
  generalize (w4.alloc (.cells (msgC 0 0 0 (.slice none 0 0)) 66)).setRow w4.heap.size (msgC 0 0 0 (.slice none 0 0)) = w6 at *
  have a0 := cell_of_row w6 x0 0 _ _ (0, 0) P6.out; have a1 := cell_of_row w6 x0 1 _ _ (0, 0) P6.out
  simp only [List.getElem?_toArray, List.getElem?_cons_succ, List.getElem?_cons_zero] at a0 a1
  go_wp2_with fail
  refine (walk_nil hh hl _).mono ?_; rintro e w7 ⟨rfl, b7⟩
  have b8 := below_next b7 (below_alloc (Below.refl w7.heap.size w7) (.cells #[.int .i64 0, .int .u64 0, .int .u64 0] 26))
  have B8 := Lib.hid (below_next B6.out b8)
  clear b7 b8 a0 a1
  go_upto_region 6 with (fail)
  generalize w7.alloc (.cells #[.int .i64 0, .int .u64 0, .int .u64 0] 26) = w8 at *
  go_wp2_with fail
  refine (learn_nil _ _).mono ?_; rintro e w9 ⟨rfl, rfl⟩
  go_wp2_with fail
  refine (fingers_nil _).mono ?_; rintro e w9 ⟨rfl, rfl⟩
  go_wp2_with fail
  go_ret
  exact ⟨rfl, B8.out⟩
end Go.Proofs.Ytokmchkoojeadaa
