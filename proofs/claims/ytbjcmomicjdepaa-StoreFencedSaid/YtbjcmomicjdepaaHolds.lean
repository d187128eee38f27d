/- What the call's own memory holds, carried over calls that only make memory. -/
import Derived.Test.YtbjcmomicjdepaaFrm
namespace Go.Proofs.Ytbjcmomicjdepaa
open Go.RowKit
set_option linter.unusedVariables false

/-- the cells of L hold their values, and lie below the heap's end -/
def Holds (w : World) (L : List (Addr × Value)) : Prop := ∀ p ∈ L, w.cell? p.1 = some p.2 ∧ p.1.block < w.heap.size
theorem Holds.nil (w : World) : Holds w [] := fun p hp => by cases hp
theorem Holds.below {w w' : World} {L : List (Addr × Value)} (h : Holds w L) (b : Below w.heap.size w w') : Holds w' L := fun p hp => by
  obtain ⟨h1, h2⟩ := h p hp
  exact ⟨(b.cell h2).trans h1, Nat.lt_of_lt_of_le h2 b.size⟩
theorem Holds.alloc {w : World} {L : List (Addr × Value)} (h : Holds w L) (o : Obj) : Holds (w.alloc o) L := h.below (below_alloc (Below.refl _ _) o)
theorem Holds.drew {w : World} {L : List (Addr × Value)} (h : Holds w L) : Holds w.drew L := h.below (Below.refl _ _).drew
theorem Holds.cons {w : World} {L : List (Addr × Value)} {a : Addr} {v : Value} (h1 : w.cell? a = some v) (h2 : a.block < w.heap.size) (h : Holds w L) : Holds w ((a, v) :: L) := fun p hp => by
  rcases List.mem_cons.1 hp with rfl | hp
  · exact ⟨h1, h2⟩
  · exact h p hp
theorem Holds.new1 {w : World} {L : List (Addr × Value)} (h : Holds w L) (v0 : Value) (t : TypeId) : Holds (w.alloc (.cells #[v0] t)) ((⟨w.heap.size, 0, none⟩, v0) :: L) :=
  (h.alloc _).cons (by go_simp) (by simp)
theorem Holds.new2 {w : World} {L : List (Addr × Value)} (h : Holds w L) (v0 v1 : Value) (t : TypeId) : Holds (w.alloc (.cells #[v0, v1] t)) ((⟨w.heap.size, 0, none⟩, v0) :: (⟨w.heap.size, 1, none⟩, v1) :: L) :=
  ((h.alloc _).cons (by go_simp) (by simp)).cons (by go_simp) (by simp)
theorem Holds.new4 {w : World} {L : List (Addr × Value)} (h : Holds w L) (v0 v1 v2 v3 : Value) (t : TypeId) : Holds (w.alloc (.cells #[v0, v1, v2, v3] t)) ((⟨w.heap.size, 0, none⟩, v0) :: (⟨w.heap.size, 1, none⟩, v1) :: (⟨w.heap.size, 2, none⟩, v2) :: (⟨w.heap.size, 3, none⟩, v3) :: L) :=
  ((((h.alloc _).cons (by go_simp) (by simp)).cons (by go_simp) (by simp)).cons (by go_simp) (by simp)).cons (by go_simp) (by simp)
theorem Holds.head {w : World} {a : Addr} {v : Value} {L : List (Addr × Value)} (h : Holds w ((a, v) :: L)) : w.cell? a = some v := (h (a, v) (List.mem_cons_self ..)).1
theorem Holds.lt {w : World} {a : Addr} {v : Value} {L : List (Addr × Value)} (h : Holds w ((a, v) :: L)) : a.block < w.heap.size := (h (a, v) (List.mem_cons_self ..)).2
theorem Holds.tail {w : World} {a : Addr × Value} {L : List (Addr × Value)} (h : Holds w (a :: L)) : Holds w L := fun p hp => h p (List.mem_cons_of_mem _ hp)
/-- the second behind the first cell of a block of two: both facts, and where the block lies -/
theorem Holds.two {w : World} {a b : Addr} {v u : Value} {L : List (Addr × Value)} (h : Holds w ((a, v) :: (b, u) :: L)) : w.cell? a = some v ∧ w.cell? b = some u ∧ a.block < w.heap.size := ⟨h.head, h.tail.head, h.lt⟩
theorem Holds.four {w : World} {a b c d : Addr} {v u x y : Value} {L : List (Addr × Value)} (h : Holds w ((a, v) :: (b, u) :: (c, x) :: (d, y) :: L)) : w.cell? a = some v ∧ w.cell? b = some u ∧ w.cell? c = some x ∧ w.cell? d = some y ∧ a.block < w.heap.size := ⟨h.head, h.tail.head, h.tail.tail.head, h.tail.tail.tail.head, h.lt⟩

end Go.Proofs.Ytbjcmomicjdepaa
