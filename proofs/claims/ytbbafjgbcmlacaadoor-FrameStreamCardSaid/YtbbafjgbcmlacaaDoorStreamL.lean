/- Streams of frames, plain lists: what a prefix of one is to a reader. -/
import Derived.Test.YtbbafjgbcmlacaaDoorBack
import Derived.Test.YtbbafjgbcmlacaaDoorRNext
namespace Go.Proofs.YtbbafjgbcmlacaaDoor
open Go.RowKit
set_option linter.unusedVariables false

/-- the first j frames behind one another -/
def cat (L : Nat → List Nat) : Nat → List Nat
  | 0 => []
  | j + 1 => cat L j ++ frameOf (L j)
theorem cat_split (L : Nat → List Nat) (t : Nat) : ∀ d, ∃ T, cat L (t + d) = cat L t ++ T ∧ (0 < d → ∃ T', T = frameOf (L t) ++ T')
  | 0 => ⟨[], by simp, by omega⟩
  | d + 1 => by
    obtain ⟨T, h1, h2⟩ := cat_split L t d
    refine ⟨T ++ frameOf (L (t + d)), by rw [show t + (d + 1) = (t + d) + 1 by omega, cat, h1, List.append_assoc], fun _ => ?_⟩
    by_cases hd : 0 < d
    · obtain ⟨T', rfl⟩ := h2 hd
      exact ⟨T' ++ frameOf (L (t + d)), by rw [List.append_assoc]⟩
    · obtain rfl : d = 0 := by omega
      have hT : T = [] := by simpa using h1
      subst hT
      exact ⟨[], by simp⟩

theorem part_no (b : List Nat) (hb : b.length ≤ 65536) (m : Nat) (hm : m < (frameOf b).length) : flt ((frameOf b).take m) = 0 ∧ got ((frameOf b).take m) = false := by
  obtain ⟨g0, g1, g2, g6, g10⟩ := frame_parts b
  have hlen := frameOf_length b
  have hl : ((frameOf b).take m).length = m := by simp; omega
  have hN : 6 ≤ m → num (((frameOf b).take m).drop 2) = b.length := fun h => by rw [List.drop_take, num_take _ _ (by omega), g2, num_four _ (by omega)]
  constructor
  · unfold flt
    rw [hl, if_neg, if_neg, if_neg]
    · rintro ⟨h1, h2, _⟩
      rw [hN h1] at h2
      omega
    · rintro ⟨h1, h2⟩
      rw [hN h1] at h2
      omega
    · rintro (⟨h1, h2⟩ | ⟨h1, h2⟩)
      · exact h2 (by rw [bt_take (by omega)]; exact g0)
      · exact h2 (by rw [bt_take (by omega)]; exact g1)
  · unfold got
    apply decide_eq_false
    rintro ⟨_, h⟩
    obtain ⟨h6, hE⟩ := got_len h
    rw [hl] at h6 hE
    unfold ends at hE
    rw [hN h6] at hE
    omega

theorem whole_yes (b r : List Nat) (hb : b.length ≤ 65536) : flt (frameOf b ++ r) = 0 ∧ got (frameOf b ++ r) = true ∧ body (frameOf b ++ r) = b ∧ rest (frameOf b ++ r) = r := by
  obtain ⟨g0, g1, g2, g6, g10⟩ := frame_parts b
  have hlen := frameOf_length b
  have d2 : (frameOf b ++ r).drop 2 = four b.length ++ (four (sumOf (sumOf 0 (four b.length)) b) ++ b ++ r) := by
    rw [List.drop_append_of_le_length (by omega), g2]; simp
  have d6 : (frameOf b ++ r).drop 6 = four (sumOf (sumOf 0 (four b.length)) b) ++ (b ++ r) := by
    rw [List.drop_append_of_le_length (by omega), g6]; simp
  have hN : num ((frameOf b ++ r).drop 2) = b.length := by rw [d2, num_four _ (by omega)]
  have hM : num ((frameOf b ++ r).drop 6) = fsum (frameOf b) := by rw [d6, num_four _ (sumOf_lt _ _), frame_sum]
  have hE : ends (frameOf b ++ r) = (frameOf b).length := by unfold ends; rw [hN, hlen]; omega
  have hT : (frameOf b ++ r).take (10 + b.length) = frameOf b := by rw [show 10 + b.length = (frameOf b).length by omega, List.take_left]
  have hll : (frameOf b ++ r).length = b.length + 10 + r.length := by rw [List.length_append, hlen]
  have hf : flt (frameOf b ++ r) = 0 := by
    unfold flt
    rw [hN, hM, hT, if_neg, if_neg (by omega), if_neg (by simp)]
    rintro (⟨_, h⟩ | ⟨_, h⟩)
    · exact h (by rw [bt_append_left (by omega)]; exact g0)
    · exact h (by rw [bt_append_left (by omega)]; exact g1)
  have hs : nst (frameOf b ++ r) = 4 := by
    unfold nst
    rw [hN, hll, if_neg (by omega), if_neg (by omega), if_neg (by omega), if_neg (by omega)]
  have hg : got (frameOf b ++ r) = true := by unfold got; exact decide_eq_true ⟨hf, hs⟩
  refine ⟨hf, hg, ?_, ?_⟩
  · unfold body
    rw [if_pos hg, hE, List.take_left, g10]
  · unfold rest
    rw [if_pos hg, hE, List.drop_left]

/-- A PREFIX OF A STREAM, its first t frames taken -/
theorem stream_step (L : Nat → List Nat) (j t p : Nat) (l : List Nat) (ht : t ≤ j) (hL : ∀ i, i < j → (L i).length ≤ 65536) (h : cat L t ++ l = (cat L j).take p) :
    flt l = 0 ∧ ((got l = true ∧ t < j ∧ body l = L t ∧ cat L (t + 1) ++ rest l = (cat L j).take p) ∨ (got l = false ∧ (p = (cat L j).length → t = j ∧ l = []))) := by
  obtain ⟨d, rfl⟩ : ∃ d, j = t + d := ⟨j - t, by omega⟩
  obtain ⟨T, h1, h2⟩ := cat_split L t d
  have hl : l = T.take (p - (cat L t).length) := by
    rw [h1] at h
    have hlen := congrArg List.length h
    simp at hlen
    have e : (cat L t ++ T).take p = cat L t ++ T.take (p - (cat L t).length) ∨ p < (cat L t).length := by
      by_cases hp : p < (cat L t).length
      · exact .inr hp
      · left
        rw [List.take_append, List.take_of_length_le (by omega)]
    rcases e with e | e
    · rw [e] at h
      exact List.append_cancel_left h
    · have h0 : l.length = 0 := by omega
      rw [List.eq_nil_of_length_eq_zero h0, show p - (cat L t).length = 0 by omega, List.take_zero]
  by_cases hd : 0 < d
  · obtain ⟨T', rfl⟩ := h2 hd
    have hLt := hL t (by omega)
    by_cases hw : (frameOf (L t)).length ≤ p - (cat L t).length
    · have e : l = frameOf (L t) ++ T'.take (p - (cat L t).length - (frameOf (L t)).length) := by
        rw [hl, List.take_append, List.take_of_length_le hw]
      obtain ⟨w1, w2, w3, w4⟩ := whole_yes (L t) (T'.take (p - (cat L t).length - (frameOf (L t)).length)) hLt
      rw [← e] at w1 w2 w3 w4
      refine ⟨w1, .inl ⟨w2, by omega, w3, ?_⟩⟩
      rw [w4, cat, List.append_assoc, ← e, h]
    · have e : l = (frameOf (L t)).take (p - (cat L t).length) := by
        rw [hl, List.take_append, show p - (cat L t).length - (frameOf (L t)).length = 0 by omega, List.take_zero, List.append_nil]
      obtain ⟨w1, w2⟩ := part_no (L t) hLt (p - (cat L t).length) (by omega)
      rw [← e] at w1 w2
      refine ⟨w1, .inr ⟨w2, fun hp => ?_⟩⟩
      exfalso
      rw [hp, h1, List.length_append, List.length_append] at hw
      omega
  · obtain rfl : d = 0 := by omega
    have hT : T = [] := by simpa using h1
    subst hT
    rw [List.take_nil] at hl
    subst hl
    refine ⟨rfl, .inr ⟨rfl, fun _ => ⟨rfl, rfl⟩⟩⟩
end Go.Proofs.YtbbafjgbcmlacaaDoor
