/- What was wrapped is unwrapped; a change within four bytes is refused. Plain lists. -/
import Derived.Test.YtbbafjgbcmlacaaDoorFrame
namespace Go.Proofs.YtbbafjgbcmlacaaDoor
open Go.RowKit
set_option linter.unusedVariables false

theorem frame_parts (l : List Nat) : bt (frameOf l) 0 = 84 ∧ bt (frameOf l) 1 = 78 ∧ (frameOf l).drop 2 = four l.length ++ (four (sumOf (sumOf 0 (four l.length)) l) ++ l) ∧ (frameOf l).drop 6 = four (sumOf (sumOf 0 (four l.length)) l) ++ l ∧ (frameOf l).drop 10 = l := by
  refine ⟨rfl, rfl, rfl, ?_, ?_⟩
  · simp [frameOf, four]
  · simp [frameOf, four]
theorem frame_sum (l : List Nat) : fsum (frameOf l) = sumOf (sumOf 0 (four l.length)) l := by
  unfold fsum
  rw [(frame_parts l).2.2.1, (frame_parts l).2.2.2.2]
  rfl
theorem unw_frame (l : List Nat) (h : l.length ≤ 65536) : unw (frameOf l) = (l, 0) := by
  obtain ⟨h0, h1, h2, h6, h10⟩ := frame_parts l
  unfold unw
  rw [frame_sum, frameOf_length, h2, h6, h10, num_four _ (by omega), num_four _ (sumOf_lt _ _), if_neg (by simp [h0, h1]), if_neg (by omega), if_neg (by omega), if_neg (by simp)]

theorem num_inj {l m : List Nat} (hl : ∀ j, bt l j < 256) (hm : ∀ j, bt m j < 256) (h : num l = num m) : bt l 0 = bt m 0 ∧ bt l 1 = bt m 1 ∧ bt l 2 = bt m 2 ∧ bt l 3 = bt m 3 := by
  rw [num_eq, num_eq] at h
  have := hl 0; have := hl 1; have := hl 2; have := hl 3
  have := hm 0; have := hm 1; have := hm 2; have := hm 3
  omega

/-- bytes p .. p + k - 1 turned -/
def flip (F : List Nat) (p : Nat) (by_ : List Nat) : Nat → List Nat
  | 0 => F
  | k + 1 => (flip F p by_ k).set (p + k) (bt F (p + k) ^^^ bt by_ k)
def chg (by_ : List Nat) : Nat → Bool
  | 0 => false
  | k + 1 => chg by_ k || (bt by_ k != 0)
theorem flip_length (F : List Nat) (p : Nat) (b : List Nat) : ∀ k, (flip F p b k).length = F.length
  | 0 => rfl
  | k + 1 => by rw [flip, List.length_set, flip_length]
theorem flip_bt (F : List Nat) (p : Nat) (b : List Nat) : ∀ k, p + k ≤ F.length → ∀ j, bt (flip F p b k) j = if p ≤ j ∧ j < p + k then bt F j ^^^ bt b (j - p) else bt F j
  | 0, _, j => by rw [flip, if_neg (by omega)]
  | k + 1, h, j => by
    rw [flip, bt_set _ _ _ _ (by rw [flip_length]; omega), flip_bt F p b k (by omega) j]
    by_cases e : j = p + k
    · subst e; rw [if_pos rfl, if_pos (by omega), Nat.add_sub_cancel_left]
    · rw [if_neg e]
      by_cases e2 : p ≤ j ∧ j < p + k
      · rw [if_pos e2, if_pos (by omega)]
      · rw [if_neg e2, if_neg (by omega)]
theorem chg_false {b : List Nat} : ∀ {k}, chg b k = false → ∀ j, j < k → bt b j = 0
  | 0, _, j, hj => by omega
  | k + 1, h, j, hj => by
    rw [chg, Bool.or_eq_false_iff] at h
    by_cases e : j = k
    · subst e; simpa using h.2
    · exact chg_false h.1 j (by omega)
theorem chg_true {b : List Nat} : ∀ {k}, chg b k = true → ∃ j, j < k ∧ bt b j ≠ 0
  | 0, h => by simp [chg] at h
  | k + 1, h => by
    rw [chg, Bool.or_eq_true] at h
    rcases h with h | h
    · obtain ⟨j, h1, h2⟩ := chg_true h; exact ⟨j, by omega, h2⟩
    · exact ⟨k, by omega, by simpa using h⟩
theorem xor_zero_iff {a b : Nat} (h : a ^^^ b = a) : b = 0 := by
  have : a ^^^ (a ^^^ b) = a ^^^ a := by rw [h]
  rw [← Nat.xor_assoc, Nat.xor_self, Nat.zero_xor] at this
  exact this
theorem frame_byte (l : List Nat) (hl : ∀ c ∈ l, c < 256) : ∀ j, bt (frameOf l) j < 256 := by
  have h : ∀ c ∈ frameOf l, c < 256 := by
    intro c hc
    simp only [frameOf, List.mem_append] at hc
    rcases hc with h | h | h | h
    · simp at h; omega
    · exact four_lt _ c h
    · exact four_lt _ c h
    · exact hl c h
  intro j
  by_cases hj : j < (frameOf l).length
  · exact h _ (bt_mem hj)
  · simp [bt, show (frameOf l).length ≤ j by omega]
theorem bt_byte {l : List Nat} (h : ∀ c ∈ l, c < 256) (j : Nat) : bt l j < 256 := by
  by_cases hj : j < l.length
  · exact h _ (bt_mem hj)
  · simp [bt, show l.length ≤ j by omega]

theorem mem_byte {H : List Nat} (h : ∀ j, bt H j < 256) : ∀ c ∈ H, c < 256 := by
  intro c hc
  obtain ⟨i, hi, rfl⟩ := List.mem_iff_getElem.1 hc
  have := h i
  simpa [bt, List.getD, hi] using this
/-- A CHANGE IS REFUSED, AND NOTHING ELSE IS -/
theorem back_plain (l : List Nat) (hl : ∀ c ∈ l, c < 256) (hn : l.length ≤ 65536) (b : List Nat) (hb : ∀ c ∈ b, c < 256) (p k : Nat) (hk : k ≤ 4) (hp : p + k ≤ (frameOf l).length) (h6 : p < 6 → k ≤ 1) (h10 : p < 10 → 6 ≤ p → p + k ≤ 10) :
    chg b k = ((unw (flip (frameOf l) p b k)).2 != 0) := by
  have hF := frame_byte l hl
  have hlen := frameOf_length l
  have hfl := flip_length (frameOf l) p b k
  have hfb := flip_bt (frameOf l) p b k hp
  have hu := unw_frame l hn
  cases hc : chg b k
  · have h0 := chg_false hc
    have e : flip (frameOf l) p b k = frameOf l := by
      refine ext_bt hfl fun j hj => ?_
      rw [hfb j]
      split
      · rw [h0 _ (by omega), Nat.xor_zero]
      · rfl
    rw [e, hu]; rfl
  · obtain ⟨j0, hj0, hne⟩ := chg_true hc
    have hdiff : bt (flip (frameOf l) p b k) (p + j0) ≠ bt (frameOf l) (p + j0) := by
      rw [hfb, if_pos (by omega), Nat.add_sub_cancel_left]
      intro e; exact hne (xor_zero_iff e)
    have hG : ∀ j, bt (flip (frameOf l) p b k) j < 256 := by
      intro j
      rw [hfb]
      split
      · exact Nat.xor_lt_two_pow (n := 8) (hF j) (bt_byte hb _)
      · exact hF j
    obtain ⟨g0, g1, g2, g6, g10⟩ := frame_parts l
    generalize flip (frameOf l) p b k = G at *
    symm
    rw [bne_iff_ne]
    intro hz
    -- it was taken: every test said no
    have hun : bt G 0 = 84 ∧ bt G 1 = 78 ∧ G.length = 10 + num (G.drop 2) ∧ num (G.drop 6) = fsum G := by
      unfold unw at hz
      split at hz
      · simp at hz
      · rename_i a1
        split at hz
        · simp at hz
        · split at hz
          · simp at hz
          · rename_i a3
            split at hz
            · simp at hz
            · rename_i a4
              refine ⟨?_, ?_, ?_, ?_⟩ <;> omega
    obtain ⟨u0, u1, u2, u3⟩ := hun
    have same : ∀ j, ¬ (p ≤ j ∧ j < p + k) → bt G j = bt (frameOf l) j := fun j hj => by rw [hfb, if_neg hj]
    have hnumF : num ((frameOf l).drop 2) = l.length := by rw [g2, num_four _ (by omega)]
    have hnum6 : num ((frameOf l).drop 6) = fsum (frameOf l) := by rw [g6, num_four _ (sumOf_lt _ _), frame_sum]
    rcases Nat.lt_or_ge p 6 with hp6 | hp6
    · have hk1 := h6 hp6
      obtain rfl : j0 = 0 := by omega
      rw [Nat.add_zero] at hdiff
      have e2 := num_inj (l := G.drop 2) (m := (frameOf l).drop 2) (fun j => by rw [bt_drop]; exact hG _) (fun j => by rw [bt_drop]; exact hF _) (by rw [hnumF]; omega)
      simp only [bt_drop] at e2
      have h : p = 0 ∨ p = 1 ∨ p = 2 ∨ p = 3 ∨ p = 4 ∨ p = 5 := by omega
      rcases h with rfl | rfl | rfl | rfl | rfl | rfl
      · exact hdiff (by rw [u0, g0])
      · exact hdiff (by rw [u1, g1])
      · exact hdiff e2.1
      · exact hdiff e2.2.1
      · exact hdiff e2.2.2.1
      · exact hdiff e2.2.2.2
    · have t24 : (G.drop 2).take 4 = ((frameOf l).drop 2).take 4 := by
        refine ext_bt (by simp [hfl]) fun j hj => ?_
        simp at hj
        rw [bt_take (by omega), bt_take (by omega), bt_drop, bt_drop, same _ (by omega)]
      rcases Nat.lt_or_ge p 10 with hp10 | hp10
      · have hk10 := h10 hp10 hp6
        have d10 : G.drop 10 = (frameOf l).drop 10 := by
          refine ext_bt (by simp [hfl]) fun j hj => ?_
          rw [bt_drop, bt_drop, same _ (by omega)]
        have hs : fsum G = fsum (frameOf l) := by unfold fsum; rw [t24, d10]
        have e6 := num_inj (l := G.drop 6) (m := (frameOf l).drop 6) (fun j => by rw [bt_drop]; exact hG _) (fun j => by rw [bt_drop]; exact hF _) (by rw [hnum6, u3, hs])
        simp only [bt_drop] at e6
        have h : p + j0 = 6 ∨ p + j0 = 7 ∨ p + j0 = 8 ∨ p + j0 = 9 := by omega
        rcases h with h | h | h | h <;> rw [h] at hdiff
        · exact hdiff e6.1
        · exact hdiff e6.2.1
        · exact hdiff e6.2.2.1
        · exact hdiff e6.2.2.2
      · have n6 : num (G.drop 6) = num ((frameOf l).drop 6) := by
          rw [num_eq, num_eq]
          simp only [bt_drop]
          rw [same _ (by omega), same _ (by omega), same _ (by omega), same _ (by omega)]
        have hs : fsum G = fsum (frameOf l) := by rw [← u3, n6, hnum6]
        unfold fsum at hs
        rw [t24] at hs
        have cut : ∀ H : List Nat, H.drop 10 = (H.drop 10).take (p - 10) ++ ((H.drop 10).drop (p - 10)).take k ++ ((H.drop 10).drop (p - 10)).drop k := fun H => by
          rw [List.append_assoc, List.take_append_drop, List.take_append_drop]
        have hA : (G.drop 10).take (p - 10) = ((frameOf l).drop 10).take (p - 10) := by
          refine ext_bt (by simp [hfl]) fun j hj => ?_
          simp at hj
          rw [bt_take (by omega), bt_take (by omega), bt_drop, bt_drop, same _ (by omega)]
        have hB : ((G.drop 10).drop (p - 10)).drop k = (((frameOf l).drop 10).drop (p - 10)).drop k := by
          refine ext_bt (by simp [hfl]) fun j hj => ?_
          rw [bt_drop, bt_drop, bt_drop, bt_drop, bt_drop, bt_drop, same _ (by omega)]
        rw [cut G, cut (frameOf l), hA, hB] at hs
        have hX := sum_burst _ _ _ _ (by simp [hfl]) (by simp; omega) (fun c hc => mem_byte hG c (List.mem_of_mem_drop (List.mem_of_mem_drop (List.mem_of_mem_take hc)))) (fun c hc => mem_byte hF c (List.mem_of_mem_drop (List.mem_of_mem_drop (List.mem_of_mem_take hc)))) hs
        apply hdiff
        have e := congrArg (fun x => bt x j0) hX
        rw [bt_take (by omega), bt_take (by omega), bt_drop, bt_drop, bt_drop, bt_drop] at e
        rwa [show 10 + (p - 10 + j0) = p + j0 by omega] at e
end Go.Proofs.YtbbafjgbcmlacaaDoor
