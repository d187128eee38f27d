/- A cell of a row of the call's own, of elements of any size. -/
import Derived.Test.YtlfnkplgjlpaaaaRow
namespace Go.Proofs.Ytlfnkplgjlpaaaa
open Go.RowKit Go.Sort
section
variable {w : World} {B : Nat}
theorem owns_at {e : TypeId} {z n cap : Nat} {ao : Option Addr} {xs : List Value} (ho : w.ownsRow B e z (.slice ao n cap) n xs) (q : Nat) (hq : q < n * z) : ∃ g v, ao = some ⟨g, 0, none⟩ ∧ g < w.heap.size ∧ B ≤ g ∧ xs[q]? = some v ∧ w.cell? ⟨g, q, none⟩ = some v := by
  have hl := ho.1
  rcases ho.2 with ⟨h2, h3⟩ | ⟨g, cap', cur, h2, hb, hg, h3, h4, h5, h6⟩
  · subst h3; simp at hq
  · cases h2
    refine ⟨g, xs[q], rfl, (Array.getElem?_eq_some_iff.1 hg).1, hb, List.getElem?_eq_getElem (by omega), ?_⟩
    rw [cell_of_row w g q cur _ (0, 0) hg]
    have := congrArg (·[q]?) h6
    simp only [List.getElem?_take] at this
    rw [if_pos hq, Array.getElem?_toList] at this
    rw [this, List.getElem?_eq_getElem (by omega)]
end
end Go.Proofs.Ytlfnkplgjlpaaaa
