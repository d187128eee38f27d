/- KeysTurns: the walk. -/
import Derived.Test.YtdfgmjpoabgllaaHomes
import Derived.Test.YtdfgmjpoabgllaaTextsW
import Derived.Test.YtdfgmjpoabgllaaHolds
import Derived.Lib.Strings
namespace Go.Proofs.Ytdfgmjpoabgllaa
open Go.RowKit
set_option linter.unusedVariables false

/-- a raw number as a number of quarters -/
def quart (i : Int) : Int := (if i < 0 then -(i + 1) else i) % 4
theorem quart_lt (i : Int) : 0 ≤ quart i ∧ quart i < 4 := by unfold quart; omega

theorem tmod4 (x : Int) (h : x ≤ 0) : -4 < x.tmod 4 ∧ x.tmod 4 ≤ 0 := by
  have e : x.tmod 4 = -((-x) % 4) := by
    rw [← Int.neg_neg (x.tmod 4), ← Int.neg_tmod, Int.tmod_eq_emod_of_nonneg (by omega)]
  rw [e]; omega
theorem of_head (s : ByteArray) (n : Nat) (hn : 16 ≤ n ∨ s.size ≤ n) : word (s.extract 0 n) 0 = word s 0 ∧ word (s.extract 0 n) 8 = word s 8 := by
  have hbyte : ∀ i, i < 16 → byteAt (s.extract 0 n) i = byteAt s i := by
    intro i hi
    rw [byteAt_eq, byteAt_eq, Lib.extract_data]
    by_cases h : i < n
    · simp [List.getD, h]
    · have h1 : s.data.toList.length ≤ i := by
        have : s.size = s.data.toList.length := Lib.size_eq s
        omega
      simp only [List.getD, List.drop_zero, Nat.sub_zero]
      rw [List.getElem?_eq_none (by simp; omega), List.getElem?_eq_none h1]
  constructor <;> simp [word, wordTo, hbyte]

theorem of_cut (s : ByteArray) (hs : s.size ≤ maxLen) (n : Nat) (hn : 16 ≤ n ∨ s.size ≤ n) (w : World) :
    Calls Try.prog 10 #[.string (s.extract 0 n)] w fun e w' => e = .returned (pos (word s 0) (word s 8)) ∧ Below w.heap.size w w' := by
  have h := of_head s n hn
  have := of_any (s.extract 0 n) (by simp; omega) w
  rwa [h.1, h.2] at this

set_option maxHeartbeats 2000000 in
theorem keysTurns_law (u : Int) (wh : (Lit.int .u64 u).wf = true) (l : Int) (wl : (Lit.int .u64 l).wf = true) (i : Int) (wi : (Lit.int .i64 i).wf = true) (j : Int) (wj : (Lit.int .i64 j).wf = true) (s : ByteArray) (hs : s.size ≤ maxLen) (w : World) :
    Calls Try.prog 9 #[.agg #[.int .u64 u, .int .u64 l, .int .i64 i, .int .i64 j, .string s]] w (LawOk w) := by
  have hb := bounds_u64 wh
  have hi := bounds_i64 wi
  have hj := bounds_i64 wj
  obtain ⟨hi1, hi2⟩ := hi
  obtain ⟨hj1, hj2⟩ := hj
  have hh0 := hb.1
  have hh1 : u < 18446744073709551616 := by omega
  clear wh wl wi wj hb
  have HT := symH_twice u
  have HB := Lib.hid (fun x => symH_nonneg u x)
  have HC := Lib.hid (fun x => symH_lt u x)
  have OC1 := Lib.hid (of_cut s hs 16 (.inl (Nat.le_refl _)))
  have OC2 := Lib.hid (of_cut s hs s.size (.inr (Nat.le_refl _)))
  have hti : i < 0 → -4 < (i + 1).tmod 4 ∧ (i + 1).tmod 4 ≤ 0 := fun k => tmod4 _ (by omega)
  have htj : j < 0 → -4 < (j + 1).tmod 4 ∧ (j + 1).tmod 4 ≤ 0 := fun k => tmod4 _ (by omega)
  have hmi : 0 ≤ i → 0 ≤ i % 4 ∧ i % 4 < 4 := fun k => by omega
  have hmj : 0 ≤ j → 0 ≤ j % 4 ∧ j % 4 < 4 := fun k => by omega
  have hwi : i < 0 ∧ (-4 < (i + 1).tmod 4 ∧ (i + 1).tmod 4 ≤ 0) ∨ 0 ≤ i ∧ (0 ≤ i % 4 ∧ i % 4 < 4) := by
    rcases Int.lt_or_le i 0 with k | k
    · exact .inl ⟨k, hti k⟩
    · exact .inr ⟨k, hmi k⟩
  have hwj : j < 0 ∧ (-4 < (j + 1).tmod 4 ∧ (j + 1).tmod 4 ≤ 0) ∨ 0 ≤ j ∧ (0 ≤ j % 4 ∧ j % 4 < 4) := by
    rcases Int.lt_or_le j 0 with k | k
    · exact .inl ⟨k, htj k⟩
    · exact .inr ⟨k, hmj k⟩
  clear hti htj hmi hmj
  rcases hwi with ⟨hi0, hi3, hi4⟩ | ⟨hi0, hi3, hi4⟩ <;> rcases hwj with ⟨hj0, hj3, hj4⟩ | ⟨hj0, hj3, hj4⟩
  all_goals
    go_enter Try.func9, Try.ntmps9
    go_wp2_with fail
    go_region
    go_wp2_with fail
    refine (sym_in u l _ hh0 hh1 (by omega) (by omega) _).mono ?_
    rintro e w1 ⟨rfl, l1⟩
    have m1 : Holds w1 [(⟨w.heap.size + 1, 0, none⟩, .int .u64 u), (⟨w.heap.size + 1, 1, none⟩, .int .u64 l)] :=
      Holds.below (Holds.cons (by go_simp) (by simp) (Holds.cons (by go_simp) (by simp) (Holds.nil _))) l1
    have n1 : Below w.heap.size w w1 := below_next ((below_alloc (below_alloc (Below.refl _ _) _) _).drew) l1
    obtain ⟨g1, g2, g3⟩ := m1.two
    have M1 := Lib.hid m1; clear m1 l1
    go_wp2_with fail
    refine (sym_in _ l _ (HB.out _) (HC.out _) (by omega) (by omega) _).mono ?_
    rintro e w2 ⟨rfl, l2⟩
    have m2 := (M1.out.new2 _ _ _).below l2
    have n2 := below_next n1 (below_of_alloc l2)
    clear g1 g2 g3 M1 l2 n1
    obtain ⟨g1, g2, g3⟩ := m2.two
    obtain ⟨g4, g5, g6⟩ := m2.tail.tail.two
    have M2 := Lib.hid m2; clear m2
    go_wp2_with fail
    refine (sym_in u l _ hh0 hh1 (by omega) (by omega) _).mono ?_
    rintro e w3 ⟨rfl, l3⟩
    have m3 := (M2.out.new2 _ _ _).below l3
    have n3 := below_next n2 (below_of_alloc l3)
    clear g1 g2 g3 g4 g5 g6 M2 l3 n2
    have M3 := Lib.hid m3; clear m3
    go_wp2_with fail
    all_goals
      refine (alive_any _).mono ?_
      rintro e w4 ⟨rfl, l4⟩
      have m4 := (M3.out.new2 _ _ _).below l4
      have n4 := below_next n3 (below_of_alloc l4)
      clear M3 l4 n3
      obtain ⟨g1, g2, g3⟩ := m4.two
      obtain ⟨g4, g5, g6⟩ := m4.tail.tail.two
      clear m4
      go_wp2_with fail
      refine (of_any s hs _).mono ?_
      rintro e w5 ⟨rfl, l5⟩
      go_wp2_with fail
      first | (refine (OC1.out _).mono ?_; rintro e w6 ⟨rfl, l6⟩) | (refine (OC2.out _).mono ?_; rintro e w6 ⟨rfl, l6⟩) | (refine (of_any s hs _).mono ?_; rintro e w6 ⟨rfl, l6⟩)
      go_wp2_with fail
      go_ret
      exact ⟨rfl, below_next (below_next n4 l5) l6⟩

end Go.Proofs.Ytdfgmjpoabgllaa
