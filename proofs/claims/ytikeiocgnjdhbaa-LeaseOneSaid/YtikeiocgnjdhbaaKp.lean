/- What a call may turn. -/
import Derived.Test.YtikeiocgnjdhbaaRl
namespace Go.Proofs.Ytikeiocgnjdhbaa
open Go.RowKit Go.Sort
set_option linter.unusedVariables false

/-- w' is w with new blocks, and in the blocks of S perhaps turned -/
structure Keep (S : List Nat) (w w' : World) : Prop where
  os : w'.os = w.os
  tape : w'.tape = w.tape
  output : w'.output = w.output
  size : w.heap.size ≤ w'.heap.size
  block : ∀ k, k < w.heap.size → k ∉ S → w'.heap[k]? = w.heap[k]?
theorem Keep.refl (S : List Nat) (w : World) : Keep S w w := ⟨rfl, rfl, rfl, Nat.le_refl _, fun _ _ _ => rfl⟩
theorem Keep.mono {S T : List Nat} {w w' : World} (h : Keep S w w') (hs : ∀ k ∈ S, k ∈ T ∨ w.heap.size ≤ k) : Keep T w w' :=
  ⟨h.os, h.tape, h.output, h.size, fun k hk hn => h.block k hk fun hm => by rcases hs k hm with h1 | h1; exact hn h1; omega⟩
theorem Keep.trans {S : List Nat} {a b c : World} (h : Keep S a b) (k : Keep S b c) : Keep S a c :=
  ⟨k.os.trans h.os, k.tape.trans h.tape, k.output.trans h.output, Nat.le_trans h.size k.size, fun i hi hn => (k.block i (Nat.lt_of_lt_of_le hi h.size) hn).trans (h.block i hi hn)⟩
theorem Keep.of_below {w w' : World} (h : Below w.heap.size w w') (S : List Nat) : Keep S w w' := ⟨h.os, h.tape, h.output, h.size, fun k hk _ => h.block k hk⟩
theorem Keep.below {S : List Nat} {B : Nat} {w w' : World} (h : Keep S w w') (hB : B ≤ w.heap.size) (hs : ∀ k ∈ S, B ≤ k) : Below B w w' :=
  ⟨h.os, h.tape, h.output, h.size, fun k hk => h.block k (by omega) fun hm => by have := hs k hm; omega⟩
theorem Keep.nil {w w' : World} (h : Keep [] w w') : Below w.heap.size w w' := h.below (Nat.le_refl _) (by simp)
theorem Keep.cell {S : List Nat} {w w' : World} (h : Keep S w w') {a : Addr} (ha : a.block < w.heap.size) (hn : a.block ∉ S) : w'.cell? a = w.cell? a := World.cell?_of_block (w := w) (h.block _ ha hn)
theorem Keep.frozen {S : List Nat} {w w' : World} (h : Keep S w w') {a : Addr} (ha : a.block < w.heap.size) (hn : a.block ∉ S) : w'.frozen? a = w.frozen? a := World.frozen?_of_block (w := w) (h.block _ ha hn)
theorem Keep.setCell (w : World) (a : Addr) (v : Value) : Keep [a.block] w (w.setCell a v) :=
  ⟨rfl, rfl, rfl, by simp [World.setCell], fun k _ hn => Below.heap_setCell _ _ _ _ (by simpa using hn)⟩
theorem Keep.setRow (w : World) (g : Nat) (cs : Array Value) : Keep [g] w (w.setRow g cs) :=
  ⟨rfl, rfl, rfl, by simp [World.setRow], fun k _ hn => setRow_other _ _ _ _ (by simpa using hn)⟩
theorem Keep.alloc {S : List Nat} {a w : World} (h : Keep S a w) (o : Obj) : Keep S a (w.alloc o) := h.trans (.of_below (below_alloc (Below.refl _ _) o) S)

theorem row_keep {S : List Nat} {w w' : World} {bx : Nat} {o : Obj} (h : w.heap[bx]? = some o) (k : Keep S w w') (hn : bx ∉ S) : w'.heap[bx]? = some o := (k.block bx (Array.getElem?_eq_some_iff.1 h).1 hn).trans h
theorem Keep.drew {S : List Nat} {a w : World} (h : Keep S a w) : Keep S a w.drew := h.trans (.of_below (Below.refl _ _).drew S)
/-- what lies behind the end may turn too -/
theorem Keep.cut {S T : List Nat} {a b c : World} (h : Keep S a b) (k : Keep T b c) (hT : ∀ q ∈ T, q ∈ S ∨ a.heap.size ≤ q) : Keep S a c :=
  ⟨k.os.trans h.os, k.tape.trans h.tape, k.output.trans h.output, Nat.le_trans h.size k.size, fun i hi hn => (k.block i (Nat.lt_of_lt_of_le hi h.size) fun hm => by rcases hT i hm with h1 | h1; exact hn h1; omega).trans (h.block i hi hn)⟩
/-- the block of an address, if it is one -/
def blk : Option Addr → List Nat
  | some a => [a.block]
  | none => []

theorem TbR.kp {w w' : World} {b : Nat} {T : Tb} {S : List Nat} (h : TbR w b T) (k : Keep S w w') (hn : b ∉ S) : TbR w' b T := row_keep h k hn
theorem DcR.kp {w w' : World} {b : Nat} {D : Dc} {S : List Nat} (h : DcR w b D) (k : Keep S w w') (hn : b ∉ S) : DcR w' b D := row_keep h k hn
/-- n integers lie in a slice that begins at ao, in a block from B on -/
def SlG (w : World) (B : Nat) (ao : Option Addr) (n : Nat) (F : Nat → Int) : Prop := ∀ j, j < n → ∃ g, ao = some ⟨g, 0, none⟩ ∧ B ≤ g ∧ g < w.heap.size ∧ w.cell? ⟨g, j, none⟩ = some (.int .i64 (F j))
theorem SlG.kp {w w' : World} {B : Nat} {ao : Option Addr} {n : Nat} {F : Nat → Int} {S : List Nat} (h : SlG w B ao n F) (k : Keep S w w') (hn : ∀ x ∈ S, x < B) : SlG w' B ao n F := fun j hj => by
  obtain ⟨g, h1, h2, h3, h4⟩ := h j hj
  exact ⟨g, h1, h2, Nat.lt_of_lt_of_le h3 k.size, (k.cell h3 (fun hm => by have := hn _ hm; simp at this; omega)).trans h4⟩
theorem made_placesG {w' : World} {f s : Int} {b : Nat} {v : Value} (h : w'.ownsRow b 3 1 v (places f s).length ((places f s).map (Value.int .i64))) :
    ∃ ao cap, v = .slice ao (np f s) cap ∧ SlG w' b ao (np f s) (fun j => (f + (j : Nat)) % 64) := by
  obtain ⟨ao, cap, rfl⟩ := own_form h
  refine ⟨ao, cap, rfl, fun j hj => ?_⟩
  have hx := places_get f s j hj
  have hl : (places f s).length = np f s := rfl
  rcases h.2 with ⟨h1, h2⟩ | ⟨g, cap', cur, h1, h2, h3, h4⟩
  · omega
  · simp only [Value.slice.injEq, true_and] at h1
    obtain ⟨rfl, rfl⟩ := h1
    refine ⟨g, rfl, h2, (Array.getElem?_eq_some_iff.1 h3).1, ?_⟩
    rw [h.cellAt j (by omega)]
    simp [hx]
end Go.Proofs.Ytikeiocgnjdhbaa
