/- A great array of bools in a block of the call's own. -/
import Derived.Test.YtikeiocgnjdhbaaArrEq
import Derived.Test.YtikeiocgnjdhbaaSl
import Derived.Deep.MidRow
namespace Go.Proofs.Ytikeiocgnjdhbaa
open Go.RowKit Go.Sort
set_option linter.unusedVariables false

/-- block g holds just these bools -/
def Row (w : World) (g : Nat) (t : TypeId) (bs : List Bool) : Prop := w.heap[g]? = some (.cells ⟨bs.map Value.bool⟩ t (0, 0))

section
variable {w w' : World} {g : Nat} {t : TypeId} {bs : List Bool}
theorem Row.lt (h : Row w g t bs) : g < w.heap.size := (Array.getElem?_eq_some_iff.1 h).1
theorem Row.cell (h : Row w g t bs) (i : Nat) (hi : i < bs.length) : w.cell? ⟨g, i, none⟩ = some (.bool (bs[i])) := by
  rw [cell_of_row w g i _ t (0, 0) h]
  simp [hi]
theorem Row.frozen (h : Row w g t bs) (i : Nat) : w.frozen? ⟨g, i, none⟩ = false := frozen_of_row w g i _ t h
theorem Row.set (h : Row w g t bs) (i : Nat) (b : Bool) : Row (w.setCell ⟨g, i, none⟩ (.bool b)) g t (bs.set i b) := by
  unfold Row
  rw [heap_setCell_same w g i _ t _ h, List.map_set]
  simp
theorem Row.below {B : Nat} (h : Row w g t bs) (hb : Below B w w') (hg : g < B) : Row w' g t bs := (hb.block g hg).trans h
theorem Row.keep (h : Row w g t bs) (hb : Below w.heap.size w w') : Row w' g t bs := h.below hb h.lt
theorem Row.alloc (h : Row w g t bs) (o : Obj) : Row (w.alloc o) g t bs := h.keep (below_alloc (Below.refl _ _) o)
theorem Row.new (w : World) (t : TypeId) (bs : List Bool) : Row (w.alloc (.cells ⟨bs.map Value.bool⟩ t)) w.heap.size t bs := heap_alloc_new w _
theorem Row.range (h : Row w g t bs) : w.rangeAt g 0 (bs.map Value.bool) := fun j v hv => by
  rw [Nat.zero_add, cell_of_row w g j _ t (0, 0) h]
  simpa using hv
theorem Row.load {P : Program} {ty e : TypeId} {n : Nat} (h : Row w g t bs) (hu : P.underlying ty = some (.array n e)) (hi : (P.info? ty).map (·.size) = some 64) (hl : bs.length = 64) :
    (Instr.loadAt ty (.pointer (some ⟨g, 0, none⟩))).run P w = .ok (.agg ⟨bs.map Value.bool⟩) w :=
  run_loadAt_mid w g 0 ty (bs.map Value.bool) _ h.range hu rfl (by rw [hi, List.length_map, hl])
end

/-- of a row's places those below k hold F, the others are not set -/
def upto (F : Int → Bool) (k : Nat) : List Bool := (List.range 64).map fun p => decide (p < k) && F p
theorem upto_length (F : Int → Bool) (k : Nat) : (upto F k).length = 64 := by simp [upto]
theorem upto_zero (F : Int → Bool) : upto F 0 = List.replicate 64 false := by
  simp [upto, List.map_const']
theorem upto_succ (F : Int → Bool) (k : Nat) : upto F (k + 1) = (upto F k).set k (F k) := by
  apply List.ext_getElem (by simp [upto])
  intro i h1 h2
  rw [List.getElem_set]
  simp only [upto, List.getElem_map, List.getElem_range]
  by_cases h : k = i
  · subst h; simp
  · rw [if_neg h]
    congr 1
    rw [Bool.eq_iff_iff]; simp; omega
theorem upto_all (F : Int → Bool) : upto F 64 = (List.range 64).map fun p : Nat => F p := by
  unfold upto
  apply List.map_congr_left
  intro p hp
  simp at hp
  simp [hp]

section
variable {P : Program}
theorem run_equalIn_bools (d n : Nat) (t e : TypeId) (l m : List Bool) (w : World) (ht : P.underlying t = some (.array n e)) (he : P.underlying e = some .bool) (hs : ∀ w, (sizeOf e).run P w = .ok 1 w) (hg : ∀ w, (isAgg e).run P w = .ok false w)
    (hl : l.length = n) (hm : m.length = n) :
    (Op.equalIn (d + 2) t (.agg ⟨l.map .bool⟩) (.agg ⟨m.map .bool⟩)).run P w = .ok (l == m) w := by
  have h := run_equalIn_arr (P := P) d n t e ⟨l.map .bool⟩ ⟨m.map .bool⟩ (fun i => .bool (l.getD i false)) (fun i => .bool (m.getD i false)) (fun i => l.getD i false == m.getD i false) w ht hs (by simpa using hl)
    (fun i w hi => run_part_cell hg (by simp at hi; simp [List.getD, hi]) w) (fun i w hi => run_part_cell hg (by simp at hi; simp [List.getD, show i < m.length by omega]) w)
    (fun i w hi => by simp [run_equalIn_bool w d e _ _ he])
  rw [h]
  congr 1
  rw [Bool.eq_iff_iff]
  simp only [List.all_eq_true, List.mem_range', beq_iff_eq]
  constructor
  · intro hh
    apply List.ext_getElem (by omega)
    intro i h1 h2
    have := hh i ⟨i, by omega, by omega⟩
    simpa [List.getD, h1, h2] using this
  · rintro rfl i _; rfl
theorem run_eql_bools (n : Nat) (t e : TypeId) (l m : List Bool) (w : World) (ht : P.underlying t = some (.array n e)) (he : P.underlying e = some .bool) (hs : ∀ w, (sizeOf e).run P w = .ok 1 w) (hg : ∀ w, (isAgg e).run P w = .ok false w)
    (hl : l.length = n) (hm : m.length = n) : (binOp .eql t (.agg ⟨l.map .bool⟩) (.agg ⟨m.map .bool⟩)).run P w = .ok (.bool (l == m)) w := by
  rw [run_eql_struct, run_equalIn_bools 9998 n t e l m w ht he hs hg hl hm]
  rfl
theorem run_neq_bools (n : Nat) (t e : TypeId) (l m : List Bool) (w : World) (ht : P.underlying t = some (.array n e)) (he : P.underlying e = some .bool) (hs : ∀ w, (sizeOf e).run P w = .ok 1 w) (hg : ∀ w, (isAgg e).run P w = .ok false w)
    (hl : l.length = n) (hm : m.length = n) : (binOp .neq t (.agg ⟨l.map .bool⟩) (.agg ⟨m.map .bool⟩)).run P w = .ok (.bool (l != m)) w := by
  rw [run_neq_struct, run_equalIn_bools 9998 n t e l m w ht he hs hg hl hm]
  rfl
end

/-- an operation that yields v and leaves the world -/
theorem wpList_value {P : Program} {ops : Array Oper} {rest : List Oper} {o : Oper} {a : Act} {w : World} {Q : Exit → Act → World → Prop} (hg : o.guard = none) (v : Value)
    (hrun : (execOp a.eval o).run P w = .ok (.value v) w) (h : wpList P ops Q rest (a.put o.dst v) w) : wpList P ops Q (o :: rest) a w :=
  wpList_plain hg fun K hK => by
    unfold Oper.wp
    simp only [hrun, Oper.upon]
    exact hK _ _ h
theorem exec_bin {P : Program} {o : Oper} {a : Act} {w : World} {v : Value} {xs ys : Array Value} (op : BinOp) (t u : TypeId) (x y : Operand) (ho : o.op = .binOp op t x y u) (hx : a.eval x = .agg xs) (hy : a.eval y = .agg ys)
    (h : (binOp op t (.agg xs) (.agg ys)).run P w = .ok v w) (hq : (eqGuard op t x y (.agg xs) (.agg ys)).run P w = .ok () w) : (execOp a.eval o).run P w = .ok (.value v) w := by
  unfold execOp
  simp only [ho, hx, hy, Sem.run_bind, hq, h, Result.andThen_ok, Sem.run_pure]
theorem exec_load {P : Program} {o : Oper} {a : Act} {w : World} {v : Value} {p : Value} (t : TypeId) (x : Operand) (ho : o.op = .load t x) (hx : a.eval x = p)
    (h : (Instr.loadAt t p).run P w = .ok v w) : (execOp a.eval o).run P w = .ok (.value v) w := by
  unfold execOp
  simp only [ho, hx, Sem.run_bind, h, Result.andThen_ok, Sem.run_pure]
theorem exec_build {P : Program} {o : Oper} {a : Act} {w : World} {v : Value} (t : TypeId) (ho : o.op = .build t #[])
    (h : (Instr.build t #[]).run P w = .ok v w) : (execOp a.eval o).run P w = .ok (.value v) w := by
  unfold execOp
  simp only [ho, Array.map_empty, Sem.run_bind, h, Result.andThen_ok, Sem.run_pure]
theorem quiet_value {P : Program} {o : Oper} {a : Act} {C : World → Prop} {K : Act → Prop} (v : Value) (h : ∀ w, C w → (execOp a.eval o).run P w = .ok (.value v) w) (hk : K (a.put o.dst v)) : o.quiet P a C K :=
  ⟨v, fun w hw => by unfold Oper.quietAt; rw [h w hw]; exact ⟨rfl, rfl⟩, hk⟩
theorem Row.regrown {w w' : World} {g : Nat} {t : TypeId} {bs : List Bool} (h : Row w g t bs) (hw : ∃ p : Regrown, w' = grow (redrawn w p.d) p.os) : Row w' g t bs := by
  obtain ⟨p, rfl⟩ := hw
  exact h.keep (below_regrown w p.d p.os)
end Go.Proofs.Ytikeiocgnjdhbaa
