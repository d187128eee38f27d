/- '==' and '!=' on arrays of integers or bools: a law that the walk lacks. -/
import Derived.Test.YtikeiocgnjdhbaaRows
import Derived.WalkKit
import Derived.Laws.StructEq
namespace Go.Proofs.Ytikeiocgnjdhbaa
open Go.RowKit
set_option linter.unusedVariables false

section
variable {P : Program}
theorem run_part_cell {e : TypeId} {xs : Array Value} {i : Nat} {v : Value} (hg : ∀ w, (isAgg e).run P w = .ok false w) (h : xs[i]? = some v) (w : World) : (part e xs i).run P w = .ok v w := by
  simp [part, hg, h]

theorem run_arr_loop (e : TypeId) (d : Nat) (xs ys : Array Value) (X Y : Nat → Value) (R : Nat → Bool)
    (hX : ∀ i w, i < xs.size → (part e xs i).run P w = .ok (X i) w) (hY : ∀ i w, i < xs.size → (part e ys i).run P w = .ok (Y i) w) (hR : ∀ i w, i < xs.size → (Op.equalIn (d + 1) e (X i) (Y i)).run P w = .ok (R i) w) :
    ∀ (n s : Nat) (w : World), s + n ≤ xs.size →
    (forIn (m := Sem) (List.range' s n) ((none : Option Bool), ()) fun i __s => do
            let __do_lift ← part e xs i
            let __do_lift_1 ← part e ys i
            let __do_lift ← Op.equalIn (d + 1) e __do_lift __do_lift_1
            if __do_lift = false then pure (ForInStep.done (some false, ())) else pure (ForInStep.yield (none, ()))).run P w = .ok (if (List.range' s n).all R then (none, ()) else (some false, ())) w
  | 0, s, w, _ => by simp
  | n + 1, s, w, h => by
    simp only [List.range'_succ, List.forIn_cons, Sem.run_bind, hX s w (by omega), Result.andThen_ok, hY s w (by omega), hR s w (by omega), List.all_cons]
    cases hr : R s
    · simp
    · simp only [Bool.true_eq_false, if_false, Sem.run_pure, Result.andThen_ok, Bool.true_and]
      exact run_arr_loop e d xs ys X Y R hX hY hR n (s + 1) w (by omega)

theorem run_equalIn_arr (d n : Nat) (t e : TypeId) (xs ys : Array Value) (X Y : Nat → Value) (R : Nat → Bool) (w : World) (ht : P.underlying t = some (.array n e)) (hs : ∀ w, (sizeOf e).run P w = .ok 1 w) (hn : xs.size = n)
    (hX : ∀ i w, i < xs.size → (part e xs i).run P w = .ok (X i) w) (hY : ∀ i w, i < xs.size → (part e ys i).run P w = .ok (Y i) w) (hR : ∀ i w, i < xs.size → (Op.equalIn (d + 1) e (X i) (Y i)).run P w = .ok (R i) w) :
    (Op.equalIn (d + 2) t (.agg xs) (.agg ys)).run P w = .ok ((List.range' 0 n).all R) w := by
  unfold Op.equalIn
  have hl := run_arr_loop e d xs ys X Y R hX hY hR n 0 w (by omega)
  simp [run_underlying ht, hs]
  rw [hl]
  cases h : (List.range' 0 n).all R
  · simp
  · simp

theorem run_equalIn_ints (d n : Nat) (t e : TypeId) (k : IntKind) (l m : List Int) (w : World) (ht : P.underlying t = some (.array n e)) (he : P.underlying e = some (.int k)) (hs : ∀ w, (sizeOf e).run P w = .ok 1 w) (hg : ∀ w, (isAgg e).run P w = .ok false w)
    (hl : l.length = n) (hm : m.length = n) :
    (Op.equalIn (d + 2) t (.agg ⟨l.map (.int k)⟩) (.agg ⟨m.map (.int k)⟩)).run P w = .ok (l == m) w := by
  have h := run_equalIn_arr (P := P) d n t e ⟨l.map (.int k)⟩ ⟨m.map (.int k)⟩ (fun i => .int k (l.getD i 0)) (fun i => .int k (m.getD i 0)) (fun i => l.getD i 0 == m.getD i 0) w ht hs (by simpa using hl)
    (fun i w hi => run_part_cell hg (by simp at hi; simp [List.getD, hi]) w) (fun i w hi => run_part_cell hg (by simp at hi; simp [List.getD, show i < m.length by omega]) w)
    (fun i w hi => by simp [run_equalIn_int w d e k k _ _ he])
  rw [h]
  congr 1
  rw [Bool.eq_iff_iff]
  simp only [List.all_eq_true, List.mem_range', beq_iff_eq]
  constructor
  · intro hh
    apply List.ext_getElem (by omega)
    intro i h1 h2
    have := hh i ⟨i, by omega, by omega⟩
    simpa [List.getD, h1, h2] using this
  · rintro rfl i _; rfl

theorem run_eql_ints (n : Nat) (t e : TypeId) (k : IntKind) (l m : List Int) (w : World) (ht : P.underlying t = some (.array n e)) (he : P.underlying e = some (.int k)) (hs : ∀ w, (sizeOf e).run P w = .ok 1 w) (hg : ∀ w, (isAgg e).run P w = .ok false w)
    (hl : l.length = n) (hm : m.length = n) :
    (binOp .eql t (.agg ⟨l.map (.int k)⟩) (.agg ⟨m.map (.int k)⟩)).run P w = .ok (.bool (l == m)) w := by
  rw [run_eql_struct, run_equalIn_ints 9998 n t e k l m w ht he hs hg hl hm]
  rfl
end
end Go.Proofs.Ytikeiocgnjdhbaa
