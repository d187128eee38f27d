/- Two readers, apart from one another. -/
import Derived.Test.YtbbafjgbcmlacaaDoorRNext
namespace Go.Proofs.YtbbafjgbcmlacaaDoor
open Go.RowKit
set_option linter.unusedVariables false

structure Two (B : Nat) (w : World) (R1 R2 : Nat) (a1 : Option Addr) (c1 N1 : Nat) (L1 : List Nat) (a2 : Option Addr) (c2 N2 : Nat) (L2 : List Nat) : Prop where
  h1 : Held w B R1 a1 N1 c1 L1
  h2 : Held w B R2 a2 N2 c2 L2
  ne : R1 ≠ R2
  n1 : R1 ∉ blk a2
  n2 : R2 ∉ blk a1
  ap : ∀ g ∈ blk a1, g ∉ blk a2
section
variable {B : Nat} {w w' : World} {R1 R2 : Nat} {a1 a2 : Option Addr} {c1 N1 c2 N2 : Nat} {L1 L2 : List Nat}
theorem Two.keep {S : List Nat} (h : Two B w R1 R2 a1 c1 N1 L1 a2 c2 N2 L2) (k : Keep S w w') (s1 : R1 ∉ S) (s2 : R2 ∉ S) (s3 : ∀ g ∈ blk a1, g ∉ S) (s4 : ∀ g ∈ blk a2, g ∉ S) : Two B w' R1 R2 a1 c1 N1 L1 a2 c2 N2 L2 :=
  ⟨h.h1.keep k s1 s3, h.h2.keep k s2 s4, h.ne, h.n1, h.n2, h.ap⟩
theorem Two.below (h : Two B w R1 R2 a1 c1 N1 L1 a2 c2 N2 L2) (b : Below w.heap.size w w') : Two B w' R1 R2 a1 c1 N1 L1 a2 c2 N2 L2 :=
  h.keep (Keep.of_below b []) (by simp) (by simp) (by simp) (by simp)
theorem Two.fst {S : List Nat} {a' : Option Addr} {c' N' : Nat} {L' : List Nat} (h : Two B w R1 R2 a1 c1 N1 L1 a2 c2 N2 L2) (k : Keep S w w') (hS : ∀ g ∈ S, g = R1 ∨ g ∈ blk a1) (hh : Held w' B R1 a' N' c' L') (hn : ∀ g ∈ blk a', g ∈ blk a1 ∨ w.heap.size ≤ g) : Two B w' R1 R2 a' c' N' L' a2 c2 N2 L2 := by
  have hl2 := h.h2.lt
  refine ⟨hh, h.h2.keep k (fun hm => ?_) (fun g hg hm => ?_), h.ne, h.n1, fun hm => ?_, fun g hg hm => ?_⟩
  · rcases hS _ hm with e | e
    · exact h.ne e.symm
    · exact h.n2 e
  · rcases hS _ hm with e | e
    · exact h.n1 (e ▸ hg)
    · exact h.ap g e hg
  · rcases hn _ hm with e | e
    · exact h.n2 e
    · omega
  · rcases hn _ hg with e | e
    · exact h.ap g e hm
    · have := (h.h2.own.lt_size g hm).2; omega
theorem Two.snd {S : List Nat} {a' : Option Addr} {c' N' : Nat} {L' : List Nat} (h : Two B w R1 R2 a1 c1 N1 L1 a2 c2 N2 L2) (k : Keep S w w') (hS : ∀ g ∈ S, g = R2 ∨ g ∈ blk a2) (hh : Held w' B R2 a' N' c' L') (hn : ∀ g ∈ blk a', g ∈ blk a2 ∨ w.heap.size ≤ g) : Two B w' R1 R2 a1 c1 N1 L1 a' c' N' L' := by
  have hl1 := h.h1.lt
  refine ⟨h.h1.keep k (fun hm => ?_) (fun g hg hm => ?_), hh, h.ne, fun hm => ?_, h.n2, fun g hg hm => ?_⟩
  · rcases hS _ hm with e | e
    · exact h.ne e
    · exact h.n1 e
  · rcases hS _ hm with e | e
    · exact h.n2 (e ▸ hg)
    · exact h.ap g hg e
  · rcases hn _ hm with e | e
    · exact h.n1 e
    · omega
  · rcases hn _ hm with e | e
    · exact h.ap g hg e
    · have := (h.h1.own.lt_size g hg).2; omega
/-- all that the two are lies below the heap's end -/
theorem Two.lt (h : Two B w R1 R2 a1 c1 N1 L1 a2 c2 N2 L2) : R1 < w.heap.size ∧ R2 < w.heap.size ∧ (∀ g ∈ blk a1, g < w.heap.size) ∧ (∀ g ∈ blk a2, g < w.heap.size) :=
  ⟨h.h1.lt, h.h2.lt, fun g hg => (h.h1.own.lt_size g hg).2, fun g hg => (h.h2.own.lt_size g hg).2⟩
/-- a write into a block that is newer than they were -/
theorem Two.newer {S : List Nat} {M : Nat} (h : Two B w R1 R2 a1 c1 N1 L1 a2 c2 N2 L2) (k : Keep S w w') (hS : ∀ g ∈ S, M ≤ g) (h1 : R1 < M) (h2 : R2 < M) (s3 : ∀ g ∈ blk a1, g ∉ S) (s4 : ∀ g ∈ blk a2, g ∉ S) : Two B w' R1 R2 a1 c1 N1 L1 a2 c2 N2 L2 :=
  h.keep k (fun hm => by have := hS _ hm; omega) (fun hm => by have := hS _ hm; omega) s3 s4
end
theorem Below.keep {B : Nat} {a w w' : World} {S : List Nat} (h : Below B a w) (hB : B ≤ w.heap.size) (k : Keep S w w') (hS : ∀ g ∈ S, B ≤ g) : Below B a w' := h.trans (k.below hB hS)
end Go.Proofs.YtbbafjgbcmlacaaDoor
