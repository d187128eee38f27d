/- RoutePlays: a step of the script, kind (any). -/
import Derived.Test.YtokmchkoojeadaaHb
namespace Go.Proofs.Ytokmchkoojeadaa
open Go.RowKit Go.Sort
set_option linter.unusedVariables false
set_option linter.unusedSimpArgs false
set_option maxRecDepth 100000
/-- an op of a script, by its cells -/
structure OpIs (w : World) (B : Nat) (oc : List Value) (kind i : Int) (lo : Option Addr) (ln lc : Nat) (L : List Pe) (ph pl mk mf mt mid mph mpl mhops : Int) : Prop where
  ol : oc.length = 54
  ok : oc[0]? = some (.int .i64 kind)
  oi : oc[1]? = some (.int .i64 i)
  osl : oc[2]? = some (.slice lo ln lc)
  oph : oc[3]? = some (.int .u64 ph)
  opl : oc[4]? = some (.int .u64 pl)
  om : MsgIs (oc.drop 5).toArray mk mf mt mid mph mpl mhops
  oid : 0 ≤ mid ∧ mid < 18446744073709551616
  ord : PsRd w lo L
  oln : L.length = ln
  ole : ln * 24 ≤ 140737488355328
  ocp : ln ≤ lc ∧ lc ≤ maxLen
  olow : L ≠ [] → ∀ q ∈ blk lo, q < B
/-- what a step leaves -/
def Stepped (B b d : Nat) (s p c : Pe) (w : World) (e : Ending) (w' : World) : Prop := e = .returned (.bool true) ∧ ∃ F', Two w' B b d s p c F' ∧ Below B w w'
section
variable {w : World} {B b d : Nat} {s p c : Pe} {F : List Pe} {oc : List Value} {kind i : Int} {lo : Option Addr} {ln lc : Nat} {L : List Pe} {ph pl mk mf mt mid mph mpl mhops : Int}
theorem Two.base (h : Two w B b d s p c F) : B ≤ w.heap.size := by
  obtain ⟨ao, cap, ad, cad, h1, _⟩ := h
  exact Nat.le_of_lt (Nat.lt_of_le_of_lt h1.base h1.row.lt)
theorem Stepped.of {w' : World} (h : Two w B b d s p c F) (k : Below w.heap.size w w') : Stepped B b d s p c w (.returned (.bool true)) w' := ⟨rfl, F, h.below k, k.mono h.base⟩
/-- the op in its box -/
theorem box_op (w : World) (hlen : oc.length = 54) : ∃ w1, w1 = w.alloc (.cells oc.toArray 68) ∧ (∀ w', Below w1.heap.size w1 w' → ∀ (j : Nat) (v : Value), oc[j]? = some v → w'.cell? ⟨w.heap.size, j, none⟩ = some v) ∧ Below w.heap.size w w1 ∧ w.heap.size < w1.heap.size := by
  refine ⟨_, rfl, fun w' k j v hv => ?_, below_alloc (Below.refl _ _) _, by simp⟩
  have r := row_keep (heap_alloc_new w (.cells oc.toArray 68)) (Keep.of_below k []) (by simp)
  rw [cell_of_row _ _ j _ _ (0, 0) r, List.getElem?_toArray]
  exact hv
end
end Go.Proofs.Ytokmchkoojeadaa
