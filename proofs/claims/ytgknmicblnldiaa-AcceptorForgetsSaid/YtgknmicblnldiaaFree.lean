/- A region that draws its order, with a call that turns a table and blocks that are made at whatever time: what holds of each order. -/
import Derived.Test.YtgknmicblnldiaaAny
import Derived.Deep.RegionHeld3
namespace Go.Proofs.Ytgknmicblnldiaa
open Go.RowKit Go.Sort
set_option linter.unusedVariables false

section
variable {L : Nat} {a w w' : World} {o : Obj}
/-- below L nothing turns, and L lies within -/
structure Bel (L : Nat) (a w : World) : Prop where
  b : Below L a w
  l : L ≤ a.heap.size
theorem Bel.refl (h : L ≤ a.heap.size) : Bel L a a := ⟨Below.refl _ _, h⟩
theorem Bel.alloc (h : Bel L a w) (o : Obj) : Bel L a (w.alloc o) := ⟨h.b.alloc (Nat.le_trans h.l h.b.size) o, h.l⟩
theorem Bel.drew (h : Bel L a w) : Bel L a w.drew := ⟨h.b.drew, h.l⟩
theorem Bel.set (h : Bel L a w) (x : Addr) (v : Value) (hx : L ≤ x.block) : Bel L a (w.setCell x v) := ⟨h.b.trans ((Keep.setCell w x v).below (Nat.le_trans h.l h.b.size) (by simpa using hx)), h.l⟩
theorem Bel.keep (h : Bel L a w) : Keep ((List.range a.heap.size).filter fun q => decide (L ≤ q)) a w := keep_from h.b
end
/-- a block holds what was accepted -/
def CA (w : World) (b : Nat) (x : Ac) : Prop := w.cell? ⟨b, 0, none⟩ = some (.bool x.is) ∧ w.cell? ⟨b, 1, none⟩ = some (.int .u32 x.b.round) ∧ w.cell? ⟨b, 2, none⟩ = some (.int .u8 x.b.node) ∧ w.cell? ⟨b, 3, none⟩ = some (.string x.v) ∧ b < w.heap.size
/-- a block holds a ballot -/
def CP (w : World) (b : Nat) (x : Bl) : Prop := w.cell? ⟨b, 0, none⟩ = some (.int .u32 x.round) ∧ w.cell? ⟨b, 1, none⟩ = some (.int .u8 x.node) ∧ b < w.heap.size
theorem CA.keep {w w' : World} {b : Nat} {x : Ac} {T : List Nat} (h : CA w b x) (k : Keep T w w') (hn : b ∉ T) : CA w' b x :=
  ⟨(k.cell h.2.2.2.2 hn).trans h.1, (k.cell h.2.2.2.2 hn).trans h.2.1, (k.cell h.2.2.2.2 hn).trans h.2.2.1, (k.cell h.2.2.2.2 hn).trans h.2.2.2.1, Nat.lt_of_lt_of_le h.2.2.2.2 k.size⟩
theorem CP.keep {w w' : World} {b : Nat} {x : Bl} {T : List Nat} (h : CP w b x) (k : Keep T w w') (hn : b ∉ T) : CP w' b x :=
  ⟨(k.cell h.2.2 hn).trans h.1, (k.cell h.2.2 hn).trans h.2.1, Nat.lt_of_lt_of_le h.2.2 k.size⟩
end Go.Proofs.Ytgknmicblnldiaa
