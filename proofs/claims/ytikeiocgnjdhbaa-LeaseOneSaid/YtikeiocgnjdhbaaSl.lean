/- Slices that the calls make: of places, of arcs. -/
import Derived.Test.YtikeiocgnjdhbaaBase
import Derived.OwnWalk
import Derived.Laws.OwnMore
import Derived.Laws.AppendOwn
namespace Go.Proofs.Ytikeiocgnjdhbaa
open Go.RowKit Go.Sort
set_option linter.unusedVariables false

theorem int_info : (Try.prog.info? 3).map (fun i => (i.zero, i.size, i.bytes)) = some (some (.int .i64 0), 1, 8) := by kernel_rfl

/-- a slice of places has been made: it owns just these -/
def MadeInts (w : World) (l : List Int) (e : Ending) (w' : World) : Prop :=
  ∃ v, e = .returned v ∧ w'.ownsRow w.heap.size 3 1 v l.length (l.map (Value.int .i64)) ∧ Below w.heap.size w w'

/-- the first k places of an arc that begins at f -/
def pl (f : Int) (k : Nat) : List Int := (List.range k).map fun i => (f + (i : Nat)) % 64
theorem pl_succ (f : Int) (k : Nat) : pl f (k + 1) = pl f k ++ [(f + k) % 64] := by simp [pl, List.range_succ]
theorem pl_length (f : Int) (k : Nat) : (pl f k).length = k := by simp [pl]
theorem pl_zero (f : Int) : pl f 0 = [] := rfl
/-- an arc's places -/
def places (f s : Int) : List Int := if rightB f s then pl f s.toNat else []

theorem cell_one_new (w : World) (u : Value) (t : TypeId) : ∀ j x, [u][j]? = some x → (w.alloc (.cells #[u] t)).cell? ((⟨w.heap.size, 0, none⟩ : Addr).add j) = some x := by
  intro j x hj
  match j, hj with
  | 0, hj => simp at hj; subst hj; simp [Addr.add]
theorem one_int (x : Int) : ∀ u ∈ [Value.int .i64 x], u.oneCell' = true := by
  intro u hu; simp at hu; subst hu; rfl

end Go.Proofs.Ytikeiocgnjdhbaa
