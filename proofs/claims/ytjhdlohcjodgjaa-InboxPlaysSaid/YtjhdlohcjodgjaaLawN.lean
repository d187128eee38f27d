/- InboxNil: the walk. -/
import Derived.Test.YtjhdlohcjodgjaaClose2
namespace Go.Proofs.Ytjhdlohcjodgjaa
open Go.RowKit
set_option linter.unusedVariables false

abbrev zpkt : Value := .agg #[.int .u64 0, .int .i64 0, .int .i64 0, .slice none 0 0]
abbrev zpobj : Obj := .cells #[.int .u64 0, .int .i64 0, .int .i64 0, .slice none 0 0] 32
set_option maxHeartbeats 400000 in
theorem len_nil : Still 13 #[.pointer none] (.returned (.int .i64 0)) := by
  intro w
  go_enter Try.func13, Try.ntmps13
  go_wp2_with fail
  go_ret
  exact ⟨rfl, rfl⟩
set_option maxHeartbeats 400000 in
theorem put_nil (x0 x1 x2 x3 : Value) (w : World) : Calls Try.prog 10 #[.pointer none, .agg #[x0, x1, x2, x3]] w fun e w' => e = .returned (.int .i64 1) ∧ Below w.heap.size w w' := by
  go_enter Try.func10, Try.ntmps10
  go_wp2_with fail
  go_ret
  exact ⟨rfl, below_alloc (Below.refl _ _) _⟩
set_option maxRecDepth 100000 in
set_option maxHeartbeats 400000 in
theorem take_none (w : World) (rv : Value) (hc : ∀ w, Calls Try.prog 13 #[rv] w fun e w' => e = .returned (.int .i64 0) ∧ w = w') : Calls Try.prog 11 #[rv] w fun e w' => e = .returned (.tuple #[zpkt, .bool false]) ∧ Below w.heap.size w w' := by
  have HC := Lib.hid hc
  clear hc
  go_enter Try.func11, Try.ntmps11
  go_wp2_with (go_at_call 13; refine (HC.out _).mono ?_; rintro e w1 ⟨rfl, rfl⟩)
  refine bodyPost_ret (v := .tuple #[zpkt, .bool false]) (results_cell_tmp Try.results11 rfl ?_ rfl) rfl ⟨rfl, ?_⟩
  · go_simp
  · exact below_alloc (Below.refl _ _) _
set_option maxHeartbeats 400000 in
theorem list_nil : Still 20 #[.pointer none] (.returned (.slice none 0 0)) := by
  intro w
  go_enter Try.func20, Try.ntmps20
  go_wp2_with fail
  refine (nil_any _ _ _).mono ?_; rintro e w1 ⟨rfl, rfl⟩
  go_wp2_with fail
  go_ret
  exact ⟨rfl, rfl⟩
set_option maxHeartbeats 400000 in
theorem next_nil : Still 17 #[.pointer none] (.returned (.tuple #[.int .i64 0, .bool false])) := by
  intro w
  go_enter Try.func17, Try.ntmps17
  go_wp2_with fail
  refine (nil_any _ _ _).mono ?_; rintro e w1 ⟨rfl, rfl⟩
  go_wp2_with fail
  go_ret2
  exact ⟨rfl, rfl⟩
set_option maxRecDepth 100000 in
set_option maxHeartbeats 400000 in
theorem due_nil (w : World) : Calls Try.prog 26 #[.pointer none, .int .i64 3] w fun e w' => e = .returned (.tuple #[.slice none 0 0, .slice none 0 0]) ∧ Below w.heap.size w w' := by
  have C1 := Lib.hid (istime_any 3)
  rw [show timeB 3 = true by decide] at C1
  go_enter Try.func26, Try.ntmps26
  go_wp2_with (first | (go_at_call 39; refine (C1.out _).mono ?_; rintro e w1 ⟨rfl, rfl⟩) | (go_at_call 35; refine (nil_any _ _ _).mono ?_; rintro e w1 ⟨rfl, rfl⟩))
  refine wp_loop_rounds 1 ?_
  rw [rounds_succ]
  go_wp2_with fail
  go_ret2
  exact ⟨rfl, below_alloc (Below.refl _ _) _⟩
set_option maxRecDepth 100000 in
set_option maxHeartbeats 4000000 in
theorem inboxNil_law (x0 x1 x2 x3 : Value) (id : Int) (wi : (Lit.int .u64 id).wf = true) (W : World) :
    Calls Try.prog 7 #[.agg #[x0, x1, x2, x3], .int .u64 id] W (LawOk W) := by
  clear wi
  have B0 := Lib.hid (below_alloc (Below.refl W.heap.size W) (.cells #[x0, x1, x2, x3] 32))
  have R0 := Lib.hid (fun i => cell_of_row (W.alloc (.cells #[x0, x1, x2, x3] 32)) W.heap.size i #[x0, x1, x2, x3] 32 (0, 0) (heap_alloc_new W _))
  have HS := Lib.hid (show W.heap.size < (W.alloc (.cells #[x0, x1, x2, x3] 32)).heap.size by simp)
  go_enter Try.func7, Try.ntmps7
  go_wp2_with fail
  refine (awake_any _).mono ?_; rintro e w1 ⟨rfl, b1⟩
  have B1 := Lib.hid b1; clear b1
  go_wp2_with fail
  refine (take_none _ _ len_nil).mono ?_; rintro e w2 ⟨rfl, b2⟩
  have B2 := Lib.hid (below_alloc (below_next B1.out b2) zpobj); clear b2 B1
  go_wp2_with fail
  refine (open_nil _ _ _).mono ?_; rintro e w3 ⟨rfl, rfl⟩
  go_wp2_with fail
  refine (close_nil _ _).mono ?_; rintro e w3 ⟨pb, rfl, hE, hpn, b3⟩
  have HE := Lib.hid (hE.below (below_alloc (Below.refl _ _) zobj))
  have B3 := Lib.hid (below_alloc (below_next B2.out b3) zobj); clear b3 B2 hE hpn
  go_wp2_with fail
  refine (lawfault_any _ 1 _ HE.out).mono ?_; rintro e w4 ⟨rfl, b4⟩
  have B4 := Lib.hid (below_next B3.out b4); clear b4 B3
  go_wp2_with fail
  refine (due_nil _).mono ?_; rintro e w5 ⟨rfl, b5⟩
  have B5 := Lib.hid (below_next B4.out b5); clear b5 B4
  go_wp2_with fail
  refine (next_nil _).mono ?_; rintro e w6 ⟨rfl, rfl⟩
  have c0 := (B5.out.cell (p := ⟨W.heap.size, 0, none⟩) HS.out).trans (R0.out 0)
  have c1 := (B5.out.cell (p := ⟨W.heap.size, 1, none⟩) HS.out).trans (R0.out 1)
  have c2 := (B5.out.cell (p := ⟨W.heap.size, 2, none⟩) HS.out).trans (R0.out 2)
  have c3 := (B5.out.cell (p := ⟨W.heap.size, 3, none⟩) HS.out).trans (R0.out 3)
  simp only [List.getElem?_toArray, List.getElem?_cons_succ, List.getElem?_cons_zero] at c0 c1 c2 c3
  go_wp2_with fail
  refine (put_nil x0 x1 x2 x3 _).mono ?_; rintro e w7 ⟨rfl, b7⟩
  have B7 := Lib.hid (below_next (below_next B0.out B5.out) b7); clear b7 B5
  go_wp2_with fail
  refine (len_nil _).mono ?_; rintro e w8 ⟨rfl, rfl⟩
  go_wp2_with fail
  refine (list_nil _).mono ?_; rintro e w8 ⟨rfl, rfl⟩
  go_wp2_with fail
  go_ret
  exact ⟨rfl, B7.out⟩
end Go.Proofs.Ytjhdlohcjodgjaa
