/- KeysOrder: the walk. -/
import Derived.Test.YtdfgmjpoabgllaaCmp
namespace Go.Proofs.Ytdfgmjpoabgllaa
open Go.RowKit

theorem less_total : ∀ (x y : List UInt8), (!(Op.bytesLess x y || x == y)) = true → Op.bytesLess y x = true
  | [], [], h => by simp at h
  | [], _ :: _, h => by simp [Op.bytesLess] at h
  | _ :: _, [], _ => by simp [Op.bytesLess]
  | a :: x, b :: y, h => by
    simp [Op.bytesLess] at h ⊢
    obtain ⟨⟨h1, h2⟩, h3⟩ := h
    by_cases hab : a = b
    · subst hab
      refine .inr ⟨rfl, less_total x y ?_⟩
      simp only [Bool.not_eq_true', Bool.or_eq_false_iff]
      exact ⟨by simpa using h2, by simpa using h3⟩
    · left
      have : b ≤ a := by simpa using h1
      exact UInt8.lt_of_le_of_ne this (fun e => hab e.symm)
theorem less_not : ∀ (x y : List UInt8), Op.bytesLess y x = true → (Op.bytesLess x y || x == y) = false
  | [], [], h => by simp [Op.bytesLess] at h
  | [], _ :: _, h => by simp [Op.bytesLess] at h
  | _ :: _, [], h => by simp [Op.bytesLess]
  | a :: x, b :: y, h => by
    simp [Op.bytesLess] at h ⊢
    rcases h with h | ⟨rfl, h⟩
    · have h1 : ¬ a < b := fun k => by have := UInt8.lt_iff_toNat_lt.1 h; have := UInt8.lt_iff_toNat_lt.1 k; omega
      have h2 : a ≠ b := fun e => by subst e; have := UInt8.lt_iff_toNat_lt.1 h; omega
      exact ⟨⟨by simpa using h1, fun e => absurd e h2⟩, fun e => absurd e h2⟩
    · have := less_not x y h
      simp only [Bool.or_eq_false_iff] at this
      exact ⟨⟨by simp, fun _ => by simpa using this.1⟩, fun _ => by simpa using this.2⟩
theorem grt_turn (a b : ByteArray) (h : grt a b = true) : grt b a = false := by
  have h1 := less_total a.toList b.toList h
  have h2 : Op.bytesLess b.toList a.toList = true := h1
  simp [grt, h2]

/-- two texts in order: their positions, their buckets -/
theorem ordered (x y : ByteArray) (h : grt x y = false) :
    ∃ c : Int, -1 ≤ c ∧ c ≤ 0 ∧ cmpP (word x 0) (word x 8) (word y 0) (word y 8) = c ∧ cmpP (word y 0) (word y 8) (word x 0) (word x 8) = -c ∧ kb x ≤ kb y := by
  have hh : Op.bytesLess x.toList y.toList = true ∨ x.toList = y.toList := by
    unfold grt at h
    simp at h
    cases hl : Op.bytesLess x.toList y.toList
    · exact .inr (h hl)
    · exact .inl rfl
  have hle := words_le x y hh
  have a0 := word_nonneg x 0; have a1 := word_lt x 0; have a2 := word_nonneg x 8; have a3 := word_lt x 8
  have b0 := word_nonneg y 0; have b1 := word_lt y 0; have b2 := word_nonneg y 8; have b3 := word_lt y 8
  unfold kb
  generalize word x 0 = p at *
  generalize word x 8 = q at *
  generalize word y 0 = r at *
  generalize word y 8 = s at *
  have hpr : p ≤ r := by omega
  refine ⟨cmpP p q r s, ?_, ?_, rfl, ?_, by omega⟩
  all_goals
    unfold cmpP cmpI
    by_cases e : p = r
    · subst e
      have hqs : q ≤ s := by omega
      by_cases e2 : q = s
      · subst e2; simp
      · have : q < s := by omega
        have : ¬ s < q := by omega
        simp [*]
    · have : p < r := by omega
      have : ¬ r < p := by omega
      have : ¬ r = p := by omega
      simp [*]

set_option maxHeartbeats 1000000 in
theorem keysOrder_law (a : ByteArray) (ha : a.size ≤ maxLen) (b : ByteArray) (hb : b.size ≤ maxLen) (w : World) :
    Calls Try.prog 6 #[.string a, .string b] w (LawOk w) := by
  cases h : grt a b
  · obtain ⟨c, h1, h2, h3, h4, h5⟩ := ordered a b h
    have c1 := cmp_any (word a 0) (word a 8) (word b 0) (word b 8)
    have c2 := cmp_any (word b 0) (word b 8) (word a 0) (word a 8)
    rw [h3] at c1
    rw [h4] at c2
    have C1 := Lib.hid c1
    have C2 := Lib.hid c2
    have S := Lib.hid (span_in a b ha hb h)
    clear c1 c2 h3 h4
    go_enter Try.func6, Try.ntmps6
    go_wp2_with fail
    refine (of_any a ha _).mono ?_
    rintro e w1 ⟨rfl, l1⟩
    go_wp2_with fail
    refine (of_any b hb _).mono ?_
    rintro e w2 ⟨rfl, l2⟩
    go_wp2_with fail
    refine (C1.out _).mono ?_
    rintro e w3 ⟨rfl, l3⟩
    go_wp2_with fail
    refine (of_any b hb _).mono ?_
    rintro e w4 ⟨rfl, l4⟩
    go_wp2_with fail
    refine (of_any a ha _).mono ?_
    rintro e w5 ⟨rfl, l5⟩
    go_wp2_with fail
    refine (C2.out _).mono ?_
    rintro e w6 ⟨rfl, l6⟩
    go_wp2_with fail
    refine (S.out _).mono ?_
    rintro e w7 ⟨rfl, l7⟩
    go_wp2_with fail
    refine (alive_any _).mono ?_
    rintro e w8 ⟨rfl, l8⟩
    go_wp2_with fail
    refine (keybucket_any a ha _).mono ?_
    rintro e w9 ⟨rfl, l9⟩
    go_wp2_with fail
    refine (keybucket_any b hb _).mono ?_
    rintro e w10 ⟨rfl, l10⟩
    go_wp2_with fail
    refine (keybucket_any a ha _).mono ?_
    rintro e w11 ⟨rfl, l11⟩
    go_wp2_with fail
    refine (keybucket_any b hb _).mono ?_
    rintro e w12 ⟨rfl, l12⟩
    go_wp2_with fail
    go_ret
    exact ⟨rfl, below_next (below_next (below_next (below_next (below_next (below_next (below_next (below_next (below_next (below_next (below_next l1 l2) l3) l4) l5) l6) l7) l8) l9) l10) l11) l12⟩
  · have h' := grt_turn a b h
    obtain ⟨c, h1, h2, h3, h4, h5⟩ := ordered b a h'
    have c1 := cmp_any (word b 0) (word b 8) (word a 0) (word a 8)
    have c2 := cmp_any (word a 0) (word a 8) (word b 0) (word b 8)
    rw [h3] at c1
    rw [h4] at c2
    have C1 := Lib.hid c1
    have C2 := Lib.hid c2
    have S := Lib.hid (span_in b a hb ha h')
    clear c1 c2 h3 h4 h'
    go_enter Try.func6, Try.ntmps6
    go_wp2_with fail
    refine (of_any b hb _).mono ?_
    rintro e w1 ⟨rfl, l1⟩
    go_wp2_with fail
    refine (of_any a ha _).mono ?_
    rintro e w2 ⟨rfl, l2⟩
    go_wp2_with fail
    refine (C1.out _).mono ?_
    rintro e w3 ⟨rfl, l3⟩
    go_wp2_with fail
    refine (of_any a ha _).mono ?_
    rintro e w4 ⟨rfl, l4⟩
    go_wp2_with fail
    refine (of_any b hb _).mono ?_
    rintro e w5 ⟨rfl, l5⟩
    go_wp2_with fail
    refine (C2.out _).mono ?_
    rintro e w6 ⟨rfl, l6⟩
    go_wp2_with fail
    refine (S.out _).mono ?_
    rintro e w7 ⟨rfl, l7⟩
    go_wp2_with fail
    refine (alive_any _).mono ?_
    rintro e w8 ⟨rfl, l8⟩
    go_wp2_with fail
    refine (keybucket_any b hb _).mono ?_
    rintro e w9 ⟨rfl, l9⟩
    go_wp2_with fail
    refine (keybucket_any a ha _).mono ?_
    rintro e w10 ⟨rfl, l10⟩
    go_wp2_with fail
    refine (keybucket_any b hb _).mono ?_
    rintro e w11 ⟨rfl, l11⟩
    go_wp2_with fail
    refine (keybucket_any a ha _).mono ?_
    rintro e w12 ⟨rfl, l12⟩
    go_wp2_with fail
    go_ret
    exact ⟨rfl, below_next (below_next (below_next (below_next (below_next (below_next (below_next (below_next (below_next (below_next (below_next l1 l2) l3) l4) l5) l6) l7) l8) l9) l10) l11) l12⟩

end Go.Proofs.Ytdfgmjpoabgllaa
