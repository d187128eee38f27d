/- Rows of one cell an element; what dues comes to. -/
import Derived.Test.YtkhfbnlmjnbhmaaDue
namespace Go.Proofs.Ytkhfbnlmjnbhmaa
open Go.RowKit Go.Sort
set_option linter.unusedVariables false

section
variable {w : World} {B n cap : Nat} {e : TypeId} {ao : Option Addr} {xs : List Value}
theorem owns_cell1 (ho : w.ownsRow B e 1 (.slice ao n cap) n xs) (j : Nat) (hj : j < n) : ∃ g v, ao = some ⟨g, 0, none⟩ ∧ g < w.heap.size ∧ B ≤ g ∧ xs[j]? = some v ∧ w.cell? ⟨g, j, none⟩ = some v ∧ w.frozen? ⟨g, j, none⟩ = false := by
  have hl := ho.1
  rcases ho.2 with ⟨h2, h3⟩ | ⟨g, cap', cur, h2, hb, hg, h3, h4, h5, h6⟩
  · omega
  · cases h2
    have hj2 : j < xs.length := by omega
    refine ⟨g, xs[j], rfl, (Array.getElem?_eq_some_iff.1 hg).1, hb, List.getElem?_eq_getElem hj2, ?_, frozen_of_row w g j cur _ hg⟩
    rw [cell_of_row w g j cur _ (0, 0) hg]
    have := congrArg (·[j]?) h6
    simp only [List.getElem?_take, Nat.mul_one] at this
    rw [if_pos (by omega), Array.getElem?_toList] at this
    rw [this, List.getElem?_eq_getElem hj2]
theorem owns_put1 {g : Nat} (ho : w.ownsRow B e 1 (.slice (some ⟨g, 0, none⟩) n cap) n xs) (j : Nat) (hj : j < n) (v : Value) : (w.setCell ⟨g, j, none⟩ v).ownsRow B e 1 (.slice (some ⟨g, 0, none⟩) n cap) n (xs.set j v) := by
  refine ⟨by rw [List.length_set]; exact ho.1, ?_⟩
  rcases ho.2 with ⟨h2, h3⟩ | ⟨g', cap', cur, h2, hb, hg, h3, h4, h5, h6⟩
  · omega
  · cases h2
    refine .inr ⟨g, cap, cur.setIfInBounds j v, rfl, hb, heap_setCell_same w g j cur _ _ hg, h3, h4, by simpa using h5, ?_⟩
    rw [← h6]
    apply List.ext_getElem?
    intro k
    rw [List.getElem?_take]
    by_cases hk : k < n * 1
    · rw [if_pos hk, Array.getElem?_toList]
      by_cases ek : k = j
      · subst ek
        rw [Array.getElem?_setIfInBounds_self_of_lt (by omega), List.getElem?_set_self (by rw [List.length_take, Array.length_toList]; omega)]
      · rw [Array.getElem?_setIfInBounds_ne (by omega), List.getElem?_set_ne (by omega), List.getElem?_take, if_pos hk, Array.getElem?_toList]
    · rw [if_neg hk, List.getElem?_eq_none (by rw [List.length_set, List.length_take]; omega)]
end

/-- all that was due is told, in order; what is left is not due -/
structure DF (now : Nat) (S : List Tm) (D : List Tm × List Tm) : Prop where
  told : ∀ x ∈ D.1, x ∈ S ∧ x.2.1 ≤ now
  left : ∀ x ∈ D.2, x ∈ S ∧ ¬ x.2.1 ≤ now
  part : ∀ id, inS S id = (inS D.1 id || inS D.2 id)
  len : D.1.length + D.2.length = S.length
  ord : D.1.Pairwise fun a b => bef a b = true
  dist : Dist D.2
  apart : ∀ x ∈ D.1, inS D.2 x.1 = false
  ids : Ids D.1
theorem dues_df (now : Nat) : ∀ (n : Nat) (S : List Tm), S.length ≤ n → Dist S → DF now S (dues now n S)
  | 0, S, hl, hd => by
    obtain rfl : S = [] := List.eq_nil_of_length_eq_zero (by omega)
    exact ⟨by simp [dues], by simp [dues], fun id => rfl, rfl, List.Pairwise.nil, List.Pairwise.nil, by simp [dues], List.nodup_nil⟩
  | n + 1, S, hl, hd => by
    cases hm : minOf S with
    | none =>
      obtain rfl := minOf_none hm
      exact ⟨by simp [dues, hm], by simp [dues, hm], fun id => by simp [dues, hm, inS], by simp [dues, hm], by simp [dues, hm], by simp [dues, hm], by simp [dues, hm], by simp [dues, hm, Ids]⟩
    | some x =>
      have hx := minOf_min hm
      by_cases hle : x.2.1 ≤ now
      · have hlen := wo_len hd hx.mem
        have ih := dues_df now n (wo S x.1) (by omega) (dist_wo hd x.1)
        have e : dues now (n + 1) S = (x :: (dues now n (wo S x.1)).1, (dues now n (wo S x.1)).2) := by
          show (match minOf S with | none => _ | some x => _) = _
          rw [hm]
          show (if x.2.1 ≤ now then _ else _) = _
          rw [if_pos hle]
        rw [e]
        generalize dues now n (wo S x.1) = R at *
        refine ⟨fun y hy => ?_, fun y hy => ?_, fun id => ?_, ?_, ?_, ih.dist, fun y hy => ?_, ?_⟩
        · rcases List.mem_cons.1 hy with rfl | hy
          · exact ⟨hx.mem, hle⟩
          · exact ⟨(wo_mem.1 (ih.told y hy).1).1, (ih.told y hy).2⟩
        · exact ⟨(wo_mem.1 (ih.left y hy).1).1, (ih.left y hy).2⟩
        · have h1 := ih.part id
          rw [inS_wo] at h1
          show inS S id = (inS (x :: R.1) id || inS R.2 id)
          have h2 : inS (x :: R.1) id = (decide (x.1 = id) || inS R.1 id) := by unfold inS; rw [List.any_cons]; rfl
          rw [h2, Bool.or_assoc, ← h1]
          by_cases ei : id = x.1
          · subst ei
            rw [inS_iff.2 ⟨x, hx.mem, rfl⟩]; simp
          · have : ¬ x.1 = id := fun h => ei h.symm
            simp [ei, this]
        · have := ih.len
          show (x :: R.1).length + R.2.length = S.length
          simp only [List.length_cons]
          omega
        · show (x :: R.1).Pairwise _
          rw [List.pairwise_cons]
          refine ⟨fun y hy => ?_, ih.ord⟩
          have hyS := wo_mem.1 (ih.told y hy).1
          have h1 := hx.le y hyS.1
          have hne : x.2.2 ≠ y.2.2 := fun h => hyS.2 (by rw [Dist.uniq hd hx.mem hyS.1 h])
          rw [bef_not] at h1
          rw [bef_iff]
          omega
        · rcases List.mem_cons.1 hy with rfl | hy
          · rw [inS_not]
            intro z hz
            exact (wo_mem.1 (ih.left z hz).1).2
          · exact ih.apart y hy
        · show ((x :: R.1).map (·.1)).Nodup
          rw [List.map_cons, List.nodup_cons]
          refine ⟨fun h => ?_, ih.ids⟩
          obtain ⟨y, hy, hyx⟩ := List.mem_map.1 h
          exact (wo_mem.1 (ih.told y hy).1).2 hyx
      · have e : dues now (n + 1) S = ([], S) := dues_stop hd hx hle _
        rw [e]
        refine ⟨by simp, fun y hy => ⟨hy, ?_⟩, fun id => by simp [inS], by simp, List.Pairwise.nil, hd, by simp, List.nodup_nil⟩
        have h1 := hx.le y hy
        rw [bef_not] at h1
        omega
end Go.Proofs.Ytkhfbnlmjnbhmaa
