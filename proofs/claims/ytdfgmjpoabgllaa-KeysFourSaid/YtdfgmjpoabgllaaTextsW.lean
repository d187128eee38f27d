/- KeysTexts: the walk. -/
import Derived.Test.YtdfgmjpoabgllaaRef
import Derived.Deep.RegionHeld3
namespace Go.Proofs.Ytdfgmjpoabgllaa
open Go.RowKit
set_option linter.unusedVariables false

theorem keep2 {W w1 w2 : World} {A : Nat} {v0 v1 : Value} (hA : A < W.heap.size)
    (h : Below W.heap.size W w1 ∧ w1.cell? ⟨A, 0, none⟩ = some v0 ∧ w1.cell? ⟨A, 1, none⟩ = some v1) (k : Below w1.heap.size w1 w2) :
    Below W.heap.size W w2 ∧ w2.cell? ⟨A, 0, none⟩ = some v0 ∧ w2.cell? ⟨A, 1, none⟩ = some v1 := by
  obtain ⟨hb, h0, h1⟩ := h
  have hs := hb.size
  have hlt : A < w1.heap.size := by omega
  exact ⟨below_next hb k, (k.cell (p := ⟨A, 0, none⟩) hlt).trans h0, (k.cell (p := ⟨A, 1, none⟩) hlt).trans h1⟩

theorem same_below {P : Program} {n : Nat} {xs : Array Value} {w : World} {r : Ending} (h : Calls P n xs w fun e w' => e = r ∧ w = w') : Calls P n xs w fun e w' => e = r ∧ Below w.heap.size w w' :=
  h.mono fun e w' ⟨h1, h2⟩ => ⟨h1, h2 ▸ Below.refl _ _⟩

set_option maxHeartbeats 2000000 in
theorem keysTexts_law (s : ByteArray) (hs : s.size ≤ maxLen) (w : World) :
    Calls Try.prog 3 #[.string s] w (LawOk w) := by
  have h0 := word_nonneg s 0
  have h1 := word_lt s 0
  have hkb : kb s = word s 0 / 288230376151711744 := rfl
  have K := Lib.hid (keybucket_any s hs)
  rw [hkb] at K
  clear hkb
  go_enter Try.func3, Try.ntmps3
  go_wp2_with fail
  refine (of_any s hs _).mono ?_
  rintro e w1 ⟨rfl, l1⟩
  go_wp2_with fail
  have hA : w1.heap.size < (w1.alloc (.cells #[.int .u64 (word s 0), .int .u64 (word s 8)] 24)).heap.size := by simp
  have hW : Below w.heap.size w (w1.alloc (.cells #[.int .u64 (word s 0), .int .u64 (word s 8)] 24)) := below_alloc l1 _
  have hS : (w1.alloc (.cells #[.int .u64 (word s 0), .int .u64 (word s 8)] 24)).cell? ⟨w1.heap.size, 0, none⟩ = some (.int .u64 (word s 0)) ∧ (w1.alloc (.cells #[.int .u64 (word s 0), .int .u64 (word s 8)] 24)).cell? ⟨w1.heap.size, 1, none⟩ = some (.int .u64 (word s 8)) := ⟨by go_simp, by go_simp⟩
  generalize w1.alloc (.cells #[.int .u64 (word s 0), .int .u64 (word s 8)] 24) = W at *
  have hS' : Below W.heap.size W W ∧ W.cell? ⟨w1.heap.size, 0, none⟩ = some (.int .u64 (word s 0)) ∧ W.cell? ⟨w1.heap.size, 1, none⟩ = some (.int .u64 (word s 8)) := ⟨Below.refl _ _, hS⟩
  clear l1 hS
  generalize w1.heap.size = A at *
  go_region_held3 (fun w' => Below W.heap.size W w' ∧ w'.cell? ⟨A, 0, none⟩ = some (.int .u64 (word s 0)) ∧ w'.cell? ⟨A, 1, none⟩ = some (.int .u64 (word s 8))) (first | assumption | exact keep2 hA (by assumption) (by assumption) | exact keep2 hA (by assumption) ((Below.refl _ _).drew)) (first
    | (go_at_call 11; refine (alive_any _).mono ?_; rintro e w' ⟨rfl, lk⟩)
    | (go_at_call 12; refine (same_below (maykey_any _ hs _)).mono ?_; rintro e w' ⟨rfl, lk⟩)
    | (go_at_call 13; refine (same_below (rmaykey_any _ hs _)).mono ?_; rintro e w' ⟨rfl, lk⟩)
    | (go_at_call 14; refine (same_below (mayvalue_any _ hs _)).mono ?_; rintro e w' ⟨rfl, lk⟩)
    | (go_at_call 15; refine (same_below (rmayvalue_any _ hs _)).mono ?_; rintro e w' ⟨rfl, lk⟩)
    | (go_at_call 16; refine (rof_any _ hs _).mono ?_; rintro e w' ⟨rfl, lk⟩)
    | (go_at_call 17; refine (bucket_any _ _ h0 h1 _).mono ?_; rintro e w' ⟨rfl, lk⟩)
    | (go_at_call 18; refine (rbucket_any _ _ h0 h1 _).mono ?_; rintro e w' ⟨rfl, lk⟩)
    | (go_at_call 19; refine (K.out _).mono ?_; rintro e w' ⟨rfl, lk⟩))
  go_wp2_with fail
  rename_i hf
  go_ret
  exact ⟨rfl, below_next hW hf.1⟩

end Go.Proofs.Ytdfgmjpoabgllaa
