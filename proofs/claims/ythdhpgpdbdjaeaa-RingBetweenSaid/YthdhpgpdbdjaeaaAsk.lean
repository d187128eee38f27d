/- A node alone is asked: Handle; awake. -/
import Derived.Test.YthdhpgpdbdjaeaaKn
namespace Go.Proofs.Ythdhpgpdbdjaeaa
open Go.RowKit Go.Sort
set_option linter.unusedVariables false
set_option linter.unusedSimpArgs false
set_option maxRecDepth 100000

/-- a message in a block of its own -/
structure MsgAt (w : World) (b : Nat) (k f t : Int) (pv : Value) : Prop where
  row : w.heap[b]? = some (.cells (msgC k f t pv) 70 (0, 0))
section
variable {w w' : World} {b : Nat} {k f t : Int} {pv : Value}
theorem MsgAt.below (h : MsgAt w b k f t pv) (bl : Below w.heap.size w w') : MsgAt w' b k f t pv := ⟨row_keep h.row (Keep.of_below bl []) (by simp)⟩
theorem MsgAt.c0 (h : MsgAt w b k f t pv) : w.cell? ⟨b, 0, none⟩ = some (.int .i64 k) := cell_of_row w b 0 _ _ (0, 0) h.row
theorem MsgAt.c1 (h : MsgAt w b k f t pv) : w.cell? ⟨b, 1, none⟩ = some (.int .i64 f) := cell_of_row w b 1 _ _ (0, 0) h.row
theorem MsgAt.c2 (h : MsgAt w b k f t pv) : w.cell? ⟨b, 2, none⟩ = some (.int .i64 t) := cell_of_row w b 2 _ _ (0, 0) h.row
theorem MsgAt.c48 (h : MsgAt w b k f t pv) : w.cell? ⟨b, 48, none⟩ = some pv := cell_of_row w b 48 _ _ (0, 0) h.row
theorem MsgAt.load (h : MsgAt w b k f t pv) : (Instr.loadAt 70 (.pointer (some ⟨b, 0, none⟩))).run Try.prog w = .ok (.agg (msgC k f t pv)) w := by
  simp only [Instr.loadAt, Instr.sureAddr, Sem.run_bind, Sem.run_pure, Result.andThen]
  exact run_loadVar_row w b 70 70 _ (0, 0) _ h.row Try.underlying70 rfl (by rw [msgC_size]; exact msg_size)
end
theorem msgAt_new (w : World) (k f t : Int) (pv : Value) : MsgAt (w.alloc (.cells (msgC k f t pv) 70)) w.heap.size k f t pv := ⟨heap_alloc_new _ _⟩

set_option maxHeartbeats 2000000 in
theorem formed_ask (f t : Int) : Ret 44 #[.agg (msgC 17 f t (.slice none 0 0))] (.returned (.bool true)) := by
  intro w
  have M0 := Lib.hid (msgAt_new w 17 f t (.slice none 0 0))
  have B0 := Lib.hid (below_alloc (Below.refl w.heap.size w) (.cells (msgC 17 f t (.slice none 0 0)) 70))
  generalize msgC 17 f t (.slice none 0 0) = cs at *
  go_enter Try.func44, Try.ntmps44
  go_upto_region 1 with (fail)
  have m0 := M0.out
  have b0 := B0.out
  generalize w.alloc (.cells cs 70) = w1 at *
  have c0 := m0.c0
  have c48 := m0.c48
  have BB := Lib.hid b0
  clear M0 B0 m0 b0
  go_upto_region 10 with (fail)
  go_quiet (fail)
  have BB := Lib.hid (below_next BB.out (below_drewN (Below.refl w1.heap.size w1) nq))
  clear c0 c48
  generalize w1.drewN nq = w2 at *
  go_wp2_with fail
  go_ret
  exact ⟨rfl, BB.out⟩
theorem exec_load {P : Program} {o : Oper} {a : Act} {w : World} {v : Value} {p : Value} (t : TypeId) (x : Operand) (ho : o.op = .load t x) (hx : a.eval x = p)
    (h : (Instr.loadAt t p).run P w = .ok v w) : (execOp a.eval o).run P w = .ok (.value v) w := by
  unfold execOp
  simp only [ho, hx, Sem.run_bind, h, Result.andThen_ok, Sem.run_pure]
theorem Ret.re {n : Nat} {xs : Array Value} {v : Value} (h : Ret n xs (.returned v)) (w : World) (d : Nat) (os : Array Obj) :
    Calls Try.prog n xs (grow (redrawn w d) os) fun e w'' => e = .returned v ∧ ∃ p : Regrown, w'' = grow (redrawn w p.d) p.os := Calls.regrown_of (h _)
set_option maxHeartbeats 2000000 in
theorem idx_nil (fn : Nat) (w : World) : Calls Try.prog 50 #[.slice none 0 0, .func (.func fn) #[] #[]] w fun e w' => e = .returned (.int .i64 (-1)) ∧ w = w' := by
  go_enter Try.func50, Try.ntmps50
  go_wp2_with fail
  refine wp_loop_rounds 1 ?_
  rw [rounds_succ]
  go_wp2_with fail
  go_ret
  exact ⟨rfl, rfl⟩
set_option maxHeartbeats 2000000 in
theorem contains_nil (fn : Nat) (w : World) : Calls Try.prog 45 #[.slice none 0 0, .func (.func fn) #[] #[]] w fun e w' => e = .returned (.bool false) ∧ w = w' := by
  go_enter Try.func45, Try.ntmps45
  go_wp2_with fail
  refine (idx_nil fn _).mono ?_; rintro e w1 ⟨rfl, rfl⟩
  go_wp2_with fail
  go_ret
  exact ⟨rfl, rfl⟩
set_option maxHeartbeats 2000000 in
theorem takes_ask {g : Nat} {n h l n' h' l' : Int} {sv : Value} {j : Bool} {a : Int} (f : Int) (hf : isN f = true) (hfn : ¬ f = n) (w : World) (hr : w.heap[g]? = some (.cells (rowR n h l n' h' l' sv j a) 88 (0, 0))) :
    Calls Try.prog 38 #[.pointer (some ⟨g, 0, none⟩), .agg (msgC 17 f n (.slice none 0 0))] w fun e w' => e = .returned (.bool true) ∧ Below w.heap.size w w' := by
  have hg := (Array.getElem?_eq_some_iff.1 hr).1
  have FO := Lib.hid (formed_ask f n)
  have IN := Lib.hid (isnode_any f)
  rw [hf] at IN
  have M0 := Lib.hid (msgAt_new w 17 f n (.slice none 0 0))
  have B0 := Lib.hid (below_alloc (Below.refl w.heap.size w) (.cells (msgC 17 f n (.slice none 0 0)) 70))
  have k0 := cell_of_row w g 0 _ _ (0, 0) hr
  simp only [List.getElem?_toArray, List.getElem?_cons_zero, List.getElem?_cons_succ] at k0
  have K0 := Lib.hid k0
  have HG := Lib.hid hg
  clear k0 hr hf hg
  have q1 : (f == n) = false := by simp [hfn]
  have q2 : decide (f = n) = false := by simp [hfn]
  have q3 : (n != n) = false := by simp
  obtain ⟨cs, hcs⟩ : ∃ cs, cs = msgC 17 f n (.slice none 0 0) := ⟨_, rfl⟩
  rw [← hcs] at FO M0 B0 ⊢
  have HCS := Lib.hid hcs
  clear hcs
  go_enter Try.func38, Try.ntmps38
  go_upto_region 1 with (fail)
  have m0 : MsgAt (w.alloc (.cells cs 70)) w.heap.size 17 f n (.slice none 0 0) := M0.out
  have b0 := B0.out
  generalize w.alloc (.cells cs 70) = w1 at *
  have c1 := cell_regrown m0.c1
  have c2 := cell_regrown m0.c2
  have g1 := cell_regrown ((b0.cell (p := ⟨g, 0, none⟩) HG.out).trans K0.out)
  have LD : Hid (∀ d os, (Instr.loadAt 70 (.pointer (some ⟨w.heap.size, 0, none⟩))).run Try.prog (grow (redrawn w1 d) os) = .ok (.agg cs) (grow (redrawn w1 d) os)) := Lib.hid (fun d os => by rw [HCS.out]; exact (m0.below (below_regrown w1 d os)).load)
  have MM := Lib.hid m0
  have BB := Lib.hid b0
  clear M0 B0 m0 b0
  refine wp_region_quiet_below (by kernel_rfl) (by kernel_rfl) ?_
  repeat (go_big_quiet_step (exact (Ret.re (fun w => same_below (IN.out w)) _ _ _)))
  refine BigFrame.wpQuiet_want (by rfl) (fun K hK => quiet_value (.agg cs) (fun w' hw' => by obtain ⟨p, rfl⟩ := hw'; exact exec_load 70 (.tmp 3) rfl rfl (LD.out p.d p.os)) (hK _ ?_))
  simp only [Act.put, List.setIfInBounds_toArray, List.set_cons_zero, List.set_cons_succ]
  repeat (go_big_quiet_step (exact (Ret.re FO.out _ _ _)))
  refine wpQuiet_nil ?_
  intro _ hw'
  obtain ⟨⟨dq, osq⟩, hw''⟩ := hw'
  subst hw''
  have m2 := MM.out.below (below_regrown w1 dq osq)
  have BB := Lib.hid (below_next BB.out (below_regrown w1 dq osq))
  clear c1 c2 g1 LD
  generalize grow (redrawn w1 dq) osq = w2 at *
  have c48 := m2.c48
  clear m2
  go_wp2_with fail
  refine (contains_nil _ _).mono ?_; rintro e w3 ⟨rfl, rfl⟩
  go_wp2_with fail
  go_ret
  exact ⟨rfl, BB.out⟩
theorem lay_msg (k f t : Int) (n m : Nat) (ao : Option Addr) : Array.foldl (fun (cs : Array Value) (x : Value × Nat) => cs.setIfInBounds x.snd x.fst) (msgC 0 0 0 (.slice none 0 0)) (msgC k f t (.slice ao n m)).zipIdx 0 49 = msgC k f t (.slice ao n m) := by kernel_rfl
/-- the list of one message that is told -/
structure Told1 (w : World) (n f : Int) (v : Value) (w' : World) : Prop where
  is : ∃ gl ao cap, v = .slice (some ⟨gl, 0, none⟩) 1 1 ∧ w.heap.size ≤ gl ∧ gl < w'.heap.size ∧ MsgAt w' gl 18 n f (.slice ao 3 cap)
  below : Below w.heap.size w w'
set_option maxHeartbeats 2000000 in
theorem answer_alone {g : Nat} {n h l n' h' l' : Int} {a : Int} (t : Int) (w : World) (hr : w.heap[g]? = some (.cells (rowR n h l n' h' l' (.slice none 0 0) false a) 88 (0, 0))) :
    Calls Try.prog 39 #[.pointer (some ⟨g, 0, none⟩), .int .i64 t] w fun e w' => ∃ v, e = .returned v ∧ Told1 w n t v w' := by
  have KN := Lib.hid (known_alone 18 t w hr)
  have k7 := cell_of_row w g 7 _ _ (0, 0) hr
  simp only [List.getElem?_toArray, List.getElem?_cons_zero, List.getElem?_cons_succ] at k7
  clear hr
  go_enter Try.func39, Try.ntmps39
  go_wp2_with fail
  refine KN.out.mono ?_; rintro e w1 ⟨⟨ao, cap, rfl⟩, b1⟩
  have B1 := Lib.hid b1
  clear k7 b1 KN
  obtain ⟨cs, hcs⟩ : ∃ cs, cs = msgC 18 n t (.slice ao 3 cap) := ⟨_, rfl⟩
  rw [← hcs]
  have HCS := Lib.hid hcs
  have hsz : cs.size = 49 := by rw [hcs]; rfl
  clear hcs
  go_wp2_with fail
  go_ret
  refine ⟨_, rfl, ⟨_, ao, cap, rfl, B1.out.size, ?_, ⟨(heap_alloc_new _ _).trans ?_⟩⟩, below_alloc B1.out _⟩
  · simp
  · rw [HCS.out]; exact congrArg (fun c => some (Obj.cells c 70 (0, 0))) (lay_msg 18 n t 3 cap ao)
set_option maxHeartbeats 4000000 in
theorem handle_ask {g : Nat} {n h l n' h' l' : Int} {a : Int} (f : Int) (hf : isN f = true) (hfn : ¬ f = n) (w : World) (hr : w.heap[g]? = some (.cells (rowR n h l n' h' l' (.slice none 0 0) false a) 88 (0, 0))) :
    Calls Try.prog 19 #[.pointer (some ⟨g, 0, none⟩), .agg (msgC 17 f n (.slice none 0 0))] w fun e w' => ∃ v, e = .returned (.tuple #[v, .int .i64 0]) ∧ Told1 w n f v w' := by
  have TK := Lib.hid (fun w hr => takes_ask (g := g) (h := h) (l := l) (n' := n') (h' := h') (l' := l') (sv := .slice none 0 0) (j := false) (a := a) f hf hfn w hr)
  have M0 := Lib.hid (msgAt_new w 17 f n (.slice none 0 0))
  have B0 := Lib.hid (below_alloc (Below.refl w.heap.size w) (.cells (msgC 17 f n (.slice none 0 0)) 70))
  have HR := Lib.hid hr
  clear hr hf hfn
  obtain ⟨cs, hcs⟩ : ∃ cs, cs = msgC 17 f n (.slice none 0 0) := ⟨_, rfl⟩
  rw [← hcs] at TK M0 B0 ⊢
  have HCS := Lib.hid hcs
  clear hcs
  go_enter Try.func19, Try.ntmps19
  go_upto_region 1 with (fail)
  have m0 : MsgAt (w.alloc (.cells cs 70)) w.heap.size 17 f n (.slice none 0 0) := M0.out
  have b0 := B0.out
  generalize w.alloc (.cells cs 70) = w1 at *
  have LD : Hid ((Instr.loadAt 70 (.pointer (some ⟨w.heap.size, 0, none⟩))).run Try.prog w1 = .ok (.agg cs) w1) := Lib.hid (by rw [HCS.out]; exact m0.load)
  have TK1 := Lib.hid (TK.out w1 (row_keep HR.out (Keep.of_below b0 []) (by simp)))
  have MM := Lib.hid m0
  have BB := Lib.hid b0
  clear M0 B0 m0 b0 TK
  go_upto_region 3 with (fail)
  go_wp2_with (refine wpList_value rfl (.agg cs) (exec_load 70 (.tmp 3) rfl rfl LD.out) ?_)
  refine TK1.out.mono ?_; rintro e w2 ⟨rfl, b2⟩
  have m2 := MM.out.below b2
  have BB2 := Lib.hid (below_next BB.out b2)
  clear b2 LD
  have c0 := m2.c0
  have c1 := m2.c1
  have AN := Lib.hid (answer_alone f w2 (row_keep HR.out (Keep.of_below BB2.out []) (by simp)))
  clear m2
  go_wp2_with fail
  refine AN.out.mono ?_; rintro e w3 ⟨v, rfl, t3⟩
  have T3 := Lib.hid t3
  clear t3 c0 c1
  go_wp2_with fail
  go_ret2
  obtain ⟨⟨gl, ao, cap, rfl, h1, h2, h3⟩, b3⟩ := T3.out
  exact ⟨_, rfl, ⟨gl, ao, cap, rfl, Nat.le_trans BB2.out.size h1, h2, h3⟩, below_next BB2.out b3⟩
end Go.Proofs.Ythdhpgpdbdjaeaa
