/- A cell of a row of the call's own, of elements of any size. -/
import Derived.Test.YtlfnkplgjlpaaaaChg
namespace Go.Proofs.Ytlfnkplgjlpaaaa
open Go.RowKit Go.Sort
section
variable {w : World} {B : Nat}
theorem owns_at {e : TypeId} {z n cap : Nat} {ao : Option Addr} {xs : List Value} (ho : w.ownsRow B e z (.slice ao n cap) n xs) (q : Nat) (hq : q < n * z) : ∃ g v, ao = some ⟨g, 0, none⟩ ∧ g < w.heap.size ∧ B ≤ g ∧ xs[q]? = some v ∧ w.cell? ⟨g, q, none⟩ = some v := by
  have hl := ho.1
  rcases ho.2 with ⟨h2, h3⟩ | ⟨g, cap', cur, h2, hb, hg, h3, h4, h5, h6⟩
  · subst h3; simp at hq
  · cases h2
    refine ⟨g, xs[q], rfl, (Array.getElem?_eq_some_iff.1 hg).1, hb, List.getElem?_eq_getElem (by omega), ?_⟩
    rw [cell_of_row w g q cur _ (0, 0) hg]
    have := congrArg (·[q]?) h6
    simp only [List.getElem?_take] at this
    rw [if_pos hq, Array.getElem?_toList] at this
    rw [this, List.getElem?_eq_getElem (by omega)]
theorem chc_at {C : List (Int × Bool)} {j : Nat} {c : Int × Bool} (h : C[j]? = some c) : (fl chc C)[j * 2]? = some (.int .i64 c.1) ∧ (fl chc C)[j * 2 + 1]? = some (.bool c.2) := by
  have h0 := fl_at chc_len C j 0 (by omega)
  have h1 := fl_at chc_len C j 1 (by omega)
  rw [h] at h0 h1
  exact ⟨by simpa using h0, by simpa using h1⟩
end
end Go.Proofs.Ytlfnkplgjlpaaaa
