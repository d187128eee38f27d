/- Messages by their cells. -/
import Derived.Test.YtokmchkoojeadaaAw
import Derived.Laws.Tables
import Derived.Laws.Rows
namespace Go.Proofs.Ytokmchkoojeadaa
open Go.RowKit Go.Sort
set_option linter.unusedVariables false
set_option linter.unusedSimpArgs false
set_option maxRecDepth 100000

def msgL (k f t : Int) (pv : Value) : List Value := [.int .i64 k, .int .i64 f, .int .i64 t, .int .u64 0, .int .i64 0, .int .i64 0, .int .u32 0, .int .u32 0, .int .u8 0, .bool false, .int .u32 0, .int .u8 0, .string ⟨#[]⟩, .string ⟨#[]⟩, .int .u64 0, .int .i64 0, .int .i64 0, .int .i64 0, .int .i64 0, .slice none 0 0, .int .u64 0, .int .u32 0, .int .u32 0, .int .i64 0, .int .i64 0, .int .i64 0, .int .u32 0, .int .i64 0, .int .u32 0, .int .u32 0, .int .u32 0, .slice none 0 0, .int .i64 0, .int .u32 0, .int .u32 0, .slice none 0 0, .slice none 0 0, .int .u32 0, .int .u32 0, .int .u32 0, .int .u32 0, .slice none 0 0, .int .i64 0, .int .i64 0, .slice none 0 0, .int .u64 0, .int .u64 0, .int .i64 0, pv]
def msgC (k f t : Int) (pv : Value) : Array Value := ⟨msgL k f t pv⟩
theorem msg_size : (Try.prog.info? 66).map (·.size) = some 49 := by kernel_rfl
theorem msgC_size (k f t : Int) (pv : Value) : (msgC k f t pv).size = 49 := rfl
theorem msgC_one (k f t : Int) (n m : Nat) (ao : Option Addr) : (msgC k f t (.slice ao n m)).all (·.oneCell') = true := by kernel_rfl
theorem wpList_alloc_msg {w : World} {ops : Array Oper} {rest : List Oper} {o : Oper} {a : Act} {Q : Exit → Act → World → Prop} (hgd : o.guard = none) (ho : o.op = .alloc 66)
    (h : ∀ w', w' = w.alloc (.cells (msgC 0 0 0 (.slice none 0 0)) 66) → wpList Try.prog ops Q rest (a.put o.dst (.pointer (some ⟨w.heap.size, 0, none⟩))) w') : wpList Try.prog ops Q (o :: rest) a w := by
  refine wpList_plain hgd fun K hK => ?_
  have hrun : (execOp a.eval o).run Try.prog w = .ok (.value (.pointer (some ⟨w.heap.size, 0, none⟩))) (w.alloc (.cells (msgC 0 0 0 (.slice none 0 0)) 66)) := by
    unfold execOp
    simp only [ho]
    kernel_rfl
  unfold Oper.wp
  simp only [hrun, Oper.upon]
  exact hK _ _ (h _ rfl)
theorem load_row49 (w : World) (b : Nat) (cs : Array Value) (hcs : cs.size = 49) (hr : w.heap[b]? = some (.cells cs 66 (0, 0))) : (Instr.loadAt 66 (.pointer (some ⟨b, 0, none⟩))).run Try.prog w = .ok (.agg cs) w := by
  simp only [Instr.loadAt, Instr.sureAddr, Sem.run_bind, Sem.run_pure, Result.andThen]
  exact run_loadVar_row w b 66 66 _ (0, 0) _ hr Try.underlying66 rfl (by rw [hcs]; exact msg_size)
theorem wpList_build_msg {w : World} {ops : Array Oper} {rest : List Oper} {o : Oper} {a : Act} {Q : Exit → Act → World → Prop} (hgd : o.guard = none) (ho : o.op = .build 66 #[])
    (h : wpList Try.prog ops Q rest (a.put o.dst (.agg (msgC 0 0 0 (.slice none 0 0)))) w) : wpList Try.prog ops Q (o :: rest) a w := by
  have hrun : (execOp a.eval o).run Try.prog w = .ok (.value (.agg (msgC 0 0 0 (.slice none 0 0)))) w := by
    unfold execOp
    simp only [ho]
    kernel_rfl
  exact wpList_value hgd _ hrun h
set_option maxHeartbeats 4000000 in
theorem handle_nil (cs : Array Value) (hcs : cs.size = 49) (w : World) : Calls Try.prog 15 #[.pointer none, .agg cs] w fun e w' => e = .returned (.tuple #[.agg (msgC 0 0 0 (.slice none 0 0)), .int .i64 1]) ∧ Below w.heap.size w w' := by
  have B0 := Lib.hid (below_alloc (Below.refl w.heap.size w) (.cells cs 66))
  go_enter Try.func15, Try.ntmps15
  go_upto_region 1 with (refine wpList_alloc_msg rfl rfl (fun w1 hw1 => ?_))
  subst hw1
  have b1 : Below w.heap.size w ((w.alloc (.cells cs 66)).alloc (.cells (msgC 0 0 0 (.slice none 0 0)) 66)) := below_alloc B0.out _
  have r1 : ((w.alloc (.cells cs 66)).alloc (.cells (msgC 0 0 0 (.slice none 0 0)) 66)).heap[w.heap.size + 1]? = some (.cells (msgC 0 0 0 (.slice none 0 0)) 66 (0, 0)) := by have := heap_alloc_new (w.alloc (.cells cs 66)) (.cells (msgC 0 0 0 (.slice none 0 0)) 66); rwa [World.size_alloc] at this
  have B1 := Lib.hid b1; have R1 := Lib.hid r1
  clear b1 r1
  generalize (w.alloc (.cells cs 66)).alloc (.cells (msgC 0 0 0 (.slice none 0 0)) 66) = w2 at *
  obtain ⟨x, hx⟩ : ∃ x, x = w.heap.size + 1 := ⟨_, rfl⟩
  rw [← hx] at R1 ⊢
  have HX := Lib.hid (show w.heap.size ≤ x from by omega)
  clear hx
  go_wp2_with (first
    | (refine wpList_build_msg rfl rfl ?_)
    | (refine wpList_store_row rfl 66 (.tmp 4) (.tmp 11) rfl x (msgC 0 0 0 (.slice none 0 0)) rfl rfl 66 (msgC 0 0 0 (.slice none 0 0)) R1.out (by rw [msgC_size]; exact msg_size) rfl (msgC_one _ _ _ _ _ _) ?_))
  have r3 : (w2.setRow x (msgC 0 0 0 (.slice none 0 0))).heap[x]? = some (.cells (msgC 0 0 0 (.slice none 0 0)) 66 (0, 0)) := setRow_heap _ _ _ _ _ _ R1.out
  have k3 := Keep.setRow w2 x (msgC 0 0 0 (.slice none 0 0))
  have B3 := Lib.hid (B1.out.trans (k3.below B1.out.size (by simpa using HX.out)))
  generalize w2.setRow x (msgC 0 0 0 (.slice none 0 0)) = w3 at *
  refine bodyPost_ret (v := .tuple #[.agg (msgC 0 0 0 (.slice none 0 0)), .int .i64 1]) (results_cell_tmp Try.results15 rfl ?_ rfl) rfl ⟨rfl, B3.out⟩
  exact run_loadVar_row w3 x 66 66 _ (0, 0) _ r3 Try.underlying66 rfl (by rw [msgC_size]; exact msg_size)
end Go.Proofs.Ytokmchkoojeadaa
