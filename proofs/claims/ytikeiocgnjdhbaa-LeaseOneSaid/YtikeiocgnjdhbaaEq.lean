/- Whole tables, and a table's rows, compared with themselves. -/
import Derived.Test.YtikeiocgnjdhbaaAl
import Derived.Laws.StructEq
namespace Go.Proofs.Ytikeiocgnjdhbaa
open Go.RowKit Go.Sort
set_option linter.unusedVariables false
set_option linter.unusedSimpArgs false
set_option maxRecDepth 100000

theorem run_neq_ints (P : Program) (n : Nat) (t e : TypeId) (k : IntKind) (l m : List Int) (w : World) (ht : P.underlying t = some (.array n e)) (he : P.underlying e = some (.int k)) (hs : ∀ w, (sizeOf e).run P w = .ok 1 w) (hg : ∀ w, (isAgg e).run P w = .ok false w)
    (hl : l.length = n) (hm : m.length = n) :
    (binOp .neq t (.agg ⟨l.map (.int k)⟩) (.agg ⟨m.map (.int k)⟩)).run P w = .ok (.bool (!(l == m))) w := by
  rw [run_neq_struct, run_equalIn_ints 9998 n t e k l m w ht he hs hg hl hm]
  rfl
theorem neq_own (l : List Int) (h : l.length = 64) (w : World) : (binOp .neq 24 (.agg ⟨l.map (.int .i64)⟩) (.agg ⟨l.map (.int .i64)⟩)).run Try.prog w = .ok (.bool false) w := by
  have := run_neq_ints Try.prog 64 24 3 .i64 l l w Try.underlying24 Try.underlying3 (fun _ => by kernel_rfl) (fun _ => by kernel_rfl) h h
  rw [beq_self_eq_true] at this
  exact this
theorem neq_inc (l : List Int) (h : l.length = 64) (w : World) : (binOp .neq 25 (.agg ⟨l.map (.int .u32)⟩) (.agg ⟨l.map (.int .u32)⟩)).run Try.prog w = .ok (.bool false) w := by
  have := run_neq_ints Try.prog 64 25 23 .u32 l l w Try.underlying25 Try.underlying23 (fun _ => by kernel_rfl) (fun _ => by kernel_rfl) h h
  rw [beq_self_eq_true] at this
  exact this
theorem neq_mem (l : List Bool) (h : l.length = 12) (w : World) : (binOp .neq 26 (.agg ⟨l.map .bool⟩) (.agg ⟨l.map .bool⟩)).run Try.prog w = .ok (.bool false) w := by
  have := run_neq_bools (P := Try.prog) 12 26 4 l l w Try.underlying26 Try.underlying4 (fun _ => by kernel_rfl) (fun _ => by kernel_rfl) h h
  rw [bne_self_eq_false] at this
  exact this
theorem run_part_agg {P : Program} {t : TypeId} {xs ys : Array Value} {o n : Nat} (hg : ∀ w, (isAgg t).run P w = .ok true w) (hs : ∀ w, (sizeOf t).run P w = .ok n w) (he : xs.extract o (o + n) = ys) (w : World) : (part t xs o).run P w = .ok (.agg ys) w := by
  simp [part, hg, hs, he]
section
variable {T : Tb} (s : T.Sz)
include s
theorem ext_own : (⟨T.list⟩ : Array Value).extract 1 (1 + 64) = ⟨T.own.map (.int .i64)⟩ := by
  have h1 := s.o
  simp [Tb.list, List.take_append, h1]
theorem ext_inc : (⟨T.list⟩ : Array Value).extract 65 (65 + 64) = ⟨T.inc.map (.int .u32)⟩ := by
  have h1 := s.o; have h2 := s.i
  simp [Tb.list, List.take_append, List.drop_append, h1, h2]
theorem ext_mem : (⟨T.list⟩ : Array Value).extract 129 (129 + 12) = ⟨T.mem.map .bool⟩ := by
  have h1 := s.o; have h2 := s.i; have h3 := s.m
  simp [Tb.list, List.take_append, List.drop_append, h1, h2, h3]
theorem ext_ren : (⟨T.list⟩ : Array Value).extract 141 (141 + 12) = ⟨T.ren.map (.int .u32)⟩ := by
  have h1 := s.o; have h2 := s.i; have h3 := s.m; have h4 := s.r
  simp [Tb.list, List.take_append, List.drop_append, h1, h2, h3, h4]
  rw [List.drop_eq_nil_of_le (by simp; omega), List.drop_eq_nil_of_le (by simp; omega), List.take_nil, List.nil_append, List.nil_append]
  exact List.take_of_length_le (by simp [h4])
theorem equalIn_tb (w : World) : (Op.equalIn 10000 29 (.agg ⟨T.list⟩) (.agg ⟨T.list⟩)).run Try.prog w = .ok true w := by
  have hu := Try.underlying29
  have p0 : ∀ w, (part 23 ⟨T.list⟩ 0).run Try.prog w = .ok (.int .u32 T.ver) w := run_part_cell (fun _ => by kernel_rfl) rfl
  have p1 : ∀ w, (part 24 ⟨T.list⟩ 1).run Try.prog w = .ok _ w := run_part_agg (fun _ => by kernel_rfl) (fun _ => by kernel_rfl) (ext_own s)
  have p2 : ∀ w, (part 25 ⟨T.list⟩ 65).run Try.prog w = .ok _ w := run_part_agg (fun _ => by kernel_rfl) (fun _ => by kernel_rfl) (ext_inc s)
  have p3 : ∀ w, (part 26 ⟨T.list⟩ 129).run Try.prog w = .ok _ w := run_part_agg (fun _ => by kernel_rfl) (fun _ => by kernel_rfl) (ext_mem s)
  have p4 : ∀ w, (part 27 ⟨T.list⟩ 141).run Try.prog w = .ok _ w := run_part_agg (fun _ => by kernel_rfl) (fun _ => by kernel_rfl) (ext_ren s)
  have q0 : ∀ w, (Op.equalIn 9999 23 (.int .u32 T.ver) (.int .u32 T.ver)).run Try.prog w = .ok true w := fun w => by
    rw [run_equalIn_int w 9998 _ .u32 .u32 _ _ Try.underlying23, beq_self_eq_true]
  have q1 : ∀ w, (Op.equalIn 9999 24 (.agg ⟨T.own.map (.int .i64)⟩) (.agg ⟨T.own.map (.int .i64)⟩)).run Try.prog w = .ok true w := fun w => by
    rw [run_equalIn_ints 9997 64 24 3 .i64 T.own T.own w Try.underlying24 Try.underlying3 (fun _ => by kernel_rfl) (fun _ => by kernel_rfl) s.o s.o, beq_self_eq_true]
  have q2 : ∀ w, (Op.equalIn 9999 25 (.agg ⟨T.inc.map (.int .u32)⟩) (.agg ⟨T.inc.map (.int .u32)⟩)).run Try.prog w = .ok true w := fun w => by
    rw [run_equalIn_ints 9997 64 25 23 .u32 T.inc T.inc w Try.underlying25 Try.underlying23 (fun _ => by kernel_rfl) (fun _ => by kernel_rfl) s.i s.i, beq_self_eq_true]
  have q3 : ∀ w, (Op.equalIn 9999 26 (.agg ⟨T.mem.map .bool⟩) (.agg ⟨T.mem.map .bool⟩)).run Try.prog w = .ok true w := fun w => by
    rw [run_equalIn_bools 9997 12 26 4 T.mem T.mem w Try.underlying26 Try.underlying4 (fun _ => by kernel_rfl) (fun _ => by kernel_rfl) s.m s.m, beq_self_eq_true]
  have q4 : ∀ w, (Op.equalIn 9999 27 (.agg ⟨T.ren.map (.int .u32)⟩) (.agg ⟨T.ren.map (.int .u32)⟩)).run Try.prog w = .ok true w := fun w => by
    rw [run_equalIn_ints 9997 12 27 23 .u32 T.ren T.ren w Try.underlying27 Try.underlying23 (fun _ => by kernel_rfl) (fun _ => by kernel_rfl) s.r s.r, beq_self_eq_true]
  rw [run_equalIn_struct w 9999 _ _ _ (by kernel_rfl) (by kernel_rfl)]
  rw [show (Try.prog.fieldsOf 29) = _ from by unfold Program.fieldsOf; rw [hu]]
  simp only [Op.eqFields, Sem.run_bind, p0, p1, p2, p3, p4, Result.andThen_ok, q0, q1, q2, q3, q4, ne_eq, not_false_eq_true, if_true, Bool.not_true, Bool.false_eq_true, if_false, Sem.run_pure, String.reduceEq]
theorem eql_tb (w : World) : (binOp .eql 29 (.agg ⟨T.list⟩) (.agg ⟨T.list⟩)).run Try.prog w = .ok (.bool true) w := by
  rw [run_eql_struct, equalIn_tb s w]; rfl
theorem neq_tb (w : World) : (binOp .neq 29 (.agg ⟨T.list⟩) (.agg ⟨T.list⟩)).run Try.prog w = .ok (.bool false) w := by
  rw [run_neq_struct, equalIn_tb s w]; rfl
end
end Go.Proofs.Ytikeiocgnjdhbaa
