/- KeysRanges: the walk. -/
import Derived.Test.YtdfgmjpoabgllaaRef
import Derived.Deep.RegionHeld3
namespace Go.Proofs.Ytdfgmjpoabgllaa
open Go.RowKit
set_option linter.unusedVariables false

set_option maxHeartbeats 400000 in
theorem rspan_in (a b : ByteArray) (ha : a.size ≤ maxLen) (hb : b.size ≤ maxLen) (h : grt a b = false) (w : World) :
    Calls Try.prog 29 #[.string a, .string b] w fun e w' => e = three (kb a) (kb b) 0 ∧ Below w.heap.size w w' := by
  go_enter Try.func29, Try.ntmps29
  go_wp2_with fail
  refine (rof_any a ha _).mono ?_
  rintro e w1 ⟨rfl, b1⟩
  go_wp2_with fail
  refine (rbucket_any _ _ (word_nonneg _ _) (word_lt _ _) _).mono ?_
  rintro e w2 ⟨rfl, b2⟩
  go_wp2_with fail
  refine (rof_any b hb _).mono ?_
  rintro e w3 ⟨rfl, b3⟩
  go_wp2_with fail
  refine (rbucket_any _ _ (word_nonneg _ _) (word_lt _ _) _).mono ?_
  rintro e w4 ⟨rfl, b4⟩
  go_wp2_with fail
  go_ret3
  exact ⟨rfl, below_next (below_next (below_next b1 b2) b3) b4⟩

set_option maxHeartbeats 400000 in
theorem rspan_out (a b : ByteArray) (h : grt a b = true) (w : World) :
    Calls Try.prog 29 #[.string a, .string b] w fun e w' => e = three 0 0 1 ∧ w = w' := by
  go_enter Try.func29, Try.ntmps29
  go_wp2_with fail
  go_ret3
  exact ⟨rfl, rfl⟩

theorem span_any (a b : ByteArray) (ha : a.size ≤ maxLen) (hb : b.size ≤ maxLen) : ∃ x y z : Int,
    (∀ w, Calls Try.prog 28 #[.string a, .string b] w fun e w' => e = three x y z ∧ Below w.heap.size w w') ∧
    (∀ w, Calls Try.prog 29 #[.string a, .string b] w fun e w' => e = three x y z ∧ Below w.heap.size w w') := by
  cases h : grt a b
  · exact ⟨_, _, _, span_in a b ha hb h, rspan_in a b ha hb h⟩
  · exact ⟨_, _, _, fun w => (span_out a b h w).mono fun e w' ⟨h1, h2⟩ => ⟨h1, h2 ▸ Below.refl _ _⟩, fun w => (rspan_out a b h w).mono fun e w' ⟨h1, h2⟩ => ⟨h1, h2 ▸ Below.refl _ _⟩⟩

theorem enough_below (b0 b1 b2 b3 : Bool) (w : World) : Calls Try.prog 30 #[.agg #[.bool b0, .bool b1, .bool b2, .bool b3]] w fun e w' => e = .returned (.bool (enoughB b0 b1 b2 b3)) ∧ Below w.heap.size w w' :=
  (enough_any b0 b1 b2 b3 w).mono fun e w' ⟨h1, h2⟩ => ⟨h1, h2 ▸ below_alloc (Below.refl _ _) _⟩
theorem renough_below (b0 b1 b2 b3 : Bool) (w : World) : Calls Try.prog 31 #[.agg #[.bool b0, .bool b1, .bool b2, .bool b3]] w fun e w' => e = .returned (.bool (enoughB b0 b1 b2 b3)) ∧ Below w.heap.size w w' :=
  (renough_any b0 b1 b2 b3 w).mono fun e w' ⟨h1, h2⟩ => ⟨h1, h2 ▸ below_alloc (Below.refl _ _) _⟩

theorem keep4 {W w1 w2 : World} {A : Nat} {v0 v1 v2 v3 : Value} (hA : A < W.heap.size)
    (h : w1.cell? ⟨A, 0, none⟩ = some v0 ∧ w1.cell? ⟨A, 1, none⟩ = some v1 ∧ w1.cell? ⟨A, 2, none⟩ = some v2 ∧ w1.cell? ⟨A, 3, none⟩ = some v3 ∧ Below W.heap.size W w1) (k : Below w1.heap.size w1 w2) :
    w2.cell? ⟨A, 0, none⟩ = some v0 ∧ w2.cell? ⟨A, 1, none⟩ = some v1 ∧ w2.cell? ⟨A, 2, none⟩ = some v2 ∧ w2.cell? ⟨A, 3, none⟩ = some v3 ∧ Below W.heap.size W w2 := by
  obtain ⟨h0, h1, h2, h3, hb⟩ := h
  have hs := hb.size
  have hlt : A < w1.heap.size := by omega
  exact ⟨(k.cell (p := ⟨A, 0, none⟩) hlt).trans h0, (k.cell (p := ⟨A, 1, none⟩) hlt).trans h1, (k.cell (p := ⟨A, 2, none⟩) hlt).trans h2, (k.cell (p := ⟨A, 3, none⟩) hlt).trans h3, below_next hb k⟩

set_option maxHeartbeats 1000000 in
theorem keysRanges_law (a : ByteArray) (ha : a.size ≤ maxLen) (b : ByteArray) (hb : b.size ≤ maxLen) (b0 b1 b2 b3 : Bool) (w : World) :
    Calls Try.prog 5 #[.string a, .string b, .agg #[.bool b0, .bool b1, .bool b2, .bool b3]] w (LawOk w) := by
  obtain ⟨x, y, z, c1, c2⟩ := span_any a b ha hb
  have C1 := Lib.hid c1
  have C2 := Lib.hid c2
  clear c1 c2
  go_enter Try.func5, Try.ntmps5
  go_wp2_with fail
  refine (C1.out _).mono ?_
  rintro e w1 ⟨rfl, l1⟩
  go_wp2_with fail
  refine (C2.out _).mono ?_
  rintro e w2 ⟨rfl, l2⟩
  go_wp2_with fail
  have hS : w2.cell? ⟨w.heap.size, 0, none⟩ = some (.bool b0) ∧ w2.cell? ⟨w.heap.size, 1, none⟩ = some (.bool b1) ∧ w2.cell? ⟨w.heap.size, 2, none⟩ = some (.bool b2) ∧ w2.cell? ⟨w.heap.size, 3, none⟩ = some (.bool b3) ∧ Below (w.alloc (.cells #[.bool b0, .bool b1, .bool b2, .bool b3] 39)).heap.size (w.alloc (.cells #[.bool b0, .bool b1, .bool b2, .bool b3] 39)) w2 :=
    keep4 (by simp) (keep4 (by simp) ⟨by go_simp, by go_simp, by go_simp, by go_simp, Below.refl _ _⟩ l1) l2
  have hA : w.heap.size < (w.alloc (.cells #[.bool b0, .bool b1, .bool b2, .bool b3] 39)).heap.size := by simp
  have hW : Below w.heap.size w (w.alloc (.cells #[.bool b0, .bool b1, .bool b2, .bool b3] 39)) := below_alloc (Below.refl _ _) _
  generalize w.alloc (.cells #[.bool b0, .bool b1, .bool b2, .bool b3] 39) = W at *
  clear l1 l2 C1 C2
  go_region_held3 (fun w' => w'.cell? ⟨w.heap.size, 0, none⟩ = some (.bool b0) ∧ w'.cell? ⟨w.heap.size, 1, none⟩ = some (.bool b1) ∧ w'.cell? ⟨w.heap.size, 2, none⟩ = some (.bool b2) ∧ w'.cell? ⟨w.heap.size, 3, none⟩ = some (.bool b3) ∧ Below W.heap.size W w') (first | assumption | exact keep4 hA (by assumption) (by assumption) | exact keep4 hA (by assumption) ((Below.refl _ _).drew)) (first
    | (go_at_call 11; refine (alive_any _).mono ?_; rintro e w' ⟨rfl, lk⟩)
    | (go_at_call 30; refine (enough_below _ _ _ _ _).mono ?_; rintro e w' ⟨rfl, lk⟩)
    | (go_at_call 31; refine (renough_below _ _ _ _ _).mono ?_; rintro e w' ⟨rfl, lk⟩))
  go_wp2_with fail
  rename_i hf
  go_ret
  exact ⟨rfl, below_next hW hf.2.2.2.2⟩

end Go.Proofs.Ytdfgmjpoabgllaa
