/- '==' and '!=' on values that are alike. -/
import Derived.Test.YtgknmicblnldiaaAw
namespace Go.Proofs.Ytgknmicblnldiaa
open Go.RowKit Go.Sort
set_option linter.unusedVariables false

theorem neq_bb (a b : Int) (w : World) : (binOp .neq 38 (.agg #[.int .u32 a, .int .u8 b]) (.agg #[.int .u32 a, .int .u8 b])).run Try.prog w = .ok (.bool false) w := by
  have hu := Try.underlying38
  rw [run_neq_struct, run_equalIn_agg w 9999 _ _ _ (by kernel_rfl) (by kernel_rfl)]
  rw [show (Try.prog.fieldsOf 38) = _ from by unfold Program.fieldsOf; rw [hu]]
  go_simp
theorem eql_aa (is : Bool) (a b : Int) (v : ByteArray) (w : World) : (binOp .eql 45 (.agg #[.bool is, .int .u32 a, .int .u8 b, .string v]) (.agg #[.bool is, .int .u32 a, .int .u8 b, .string v])).run Try.prog w = .ok (.bool true) w := by
  have hu := Try.underlying45
  have hv := Try.underlying38
  rw [run_eql_struct, run_equalIn_agg w 9999 _ _ _ (by kernel_rfl) (by kernel_rfl)]
  rw [show (Try.prog.fieldsOf 45) = _ from by unfold Program.fieldsOf; rw [hu]]
  have hb : ∀ w, (Op.equalIn 9999 38 (.agg #[.int .u32 a, .int .u8 b]) (.agg #[.int .u32 a, .int .u8 b])).run Try.prog w = .ok true w := fun w => by
    rw [run_equalIn_agg w 9998 _ _ _ (by kernel_rfl) (by kernel_rfl)]
    rw [show (Try.prog.fieldsOf 38) = _ from by unfold Program.fieldsOf; rw [hv]]
    go_simp
  go_simp
theorem neq_aa (is : Bool) (a b : Int) (v : ByteArray) (w : World) : (binOp .neq 45 (.agg #[.bool is, .int .u32 a, .int .u8 b, .string v]) (.agg #[.bool is, .int .u32 a, .int .u8 b, .string v])).run Try.prog w = .ok (.bool false) w := by
  have hu := Try.underlying45
  have hv := Try.underlying38
  rw [run_neq_struct, run_equalIn_agg w 9999 _ _ _ (by kernel_rfl) (by kernel_rfl)]
  rw [show (Try.prog.fieldsOf 45) = _ from by unfold Program.fieldsOf; rw [hu]]
  have hb : ∀ w, (Op.equalIn 9999 38 (.agg #[.int .u32 a, .int .u8 b]) (.agg #[.int .u32 a, .int .u8 b])).run Try.prog w = .ok true w := fun w => by
    rw [run_equalIn_agg w 9998 _ _ _ (by kernel_rfl) (by kernel_rfl)]
    rw [show (Try.prog.fieldsOf 38) = _ from by unfold Program.fieldsOf; rw [hv]]
    go_simp
  go_simp
theorem eql_ii (i j : In) (w : World) : (binOp .eql 36 i.ag j.ag).run Try.prog w = .ok (.bool (decide (i = j))) w := by
  have hu := Try.underlying36
  obtain ⟨a, b, c, d⟩ := i
  obtain ⟨a', b', c', d'⟩ := j
  rw [run_eql_struct, run_equalIn_agg w 9999 _ _ _ (by kernel_rfl) (by kernel_rfl)]
  rw [show (Try.prog.fieldsOf 36) = _ from by unfold Program.fieldsOf; rw [hu]]
  go_simp
  by_cases h1 : a = a' <;> by_cases h2 : b = b' <;> by_cases h3 : c = c' <;> by_cases h4 : d = d' <;> simp [h1, h2, h3, h4]
/-- blocks that hold their rows -/
def At (w : World) (L : List (Nat × Obj)) : Prop := ∀ p ∈ L, w.heap[p.1]? = some p.2
theorem At.nil (w : World) : At w [] := fun p hp => by cases hp
theorem At.lt {w : World} {L : List (Nat × Obj)} (h : At w L) : ∀ p ∈ L, p.1 < w.heap.size := fun p hp => (Array.getElem?_eq_some_iff.1 (h p hp)).1
theorem At.keep {w w' : World} {L : List (Nat × Obj)} {S : List Nat} (h : At w L) (k : Keep S w w') (hn : ∀ p ∈ L, p.1 ∉ S) : At w' L := fun p hp => (k.block _ (h.lt p hp) (hn p hp)).trans (h p hp)
theorem At.below {w w' : World} {L : List (Nat × Obj)} (h : At w L) (b : Below w.heap.size w w') : At w' L := h.keep (Keep.of_below b []) (by simp)
theorem At.alloc {w : World} {L : List (Nat × Obj)} (h : At w L) (cs : Array Value) (t : TypeId) : At (w.alloc (.cells cs t)) ((w.heap.size, .cells cs t) :: L) := fun p hp => by
  rcases List.mem_cons.1 hp with rfl | hp
  · exact heap_alloc_new w _
  · exact h.below (below_alloc (Below.refl _ _) _) p hp
theorem At.head {w : World} {b : Nat} {o : Obj} {L : List (Nat × Obj)} (h : At w ((b, o) :: L)) : w.heap[b]? = some o := h _ (List.mem_cons_self ..)
theorem At.tail {w : World} {p : Nat × Obj} {L : List (Nat × Obj)} (h : At w (p :: L)) : At w L := fun q hq => h q (List.mem_cons_of_mem _ hq)
end Go.Proofs.Ytgknmicblnldiaa
