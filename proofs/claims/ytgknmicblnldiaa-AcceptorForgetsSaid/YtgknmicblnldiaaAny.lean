/- What Prepare, Accept, Forget answer and leave, whatever the way. -/
import Derived.Test.YtgknmicblnldiaaEq
import Derived.Test.YtgknmicblnldiaaArg
namespace Go.Proofs.Ytgknmicblnldiaa
open Go.RowKit Go.Sort
set_option linter.unusedVariables false

structure PR where
  a : Ac
  p : Bl
  ok : Bool
  e : Int
/-- Prepare of a ballot at what place tells -/
def prR (o : Option Rw) (b : Bl) : PR := match o with | none => ⟨a0, b0, false, 101⟩ | some r => if low b r.p then ⟨a0, r.p, false, 0⟩ else ⟨r.a, b, true, 0⟩
def prO (o : Option Rw) (b : Bl) : Option Rw := match o with | none => none | some r => if low b r.p then none else some ⟨b, r.a⟩
/-- Accept -/
def acR (o : Option Rw) (b : Bl) : PR := match o with | none => ⟨a0, b0, false, 101⟩ | some r => if low b r.p then ⟨a0, r.p, false, 0⟩ else ⟨a0, b, true, 0⟩
def acO (o : Option Rw) (b : Bl) (v : ByteArray) : Option Rw := match o with | none => none | some r => if low b r.p then none else some ⟨b, ⟨true, b, v⟩⟩
/-- what is stored -/
def put (f : Fn) (i : In) : Option Rw → Fn | none => f | some v => upd f i (some v)
def putN (f : Fn) (n : Nat) (i : In) : Option Rw → Nat | none => n | some _ => if (f i).isSome then n else n + 1
def wo (f : Fn) (i : In) : Fn := match f i with | none => f | some _ => upd f i none
def woN (f : Fn) (n : Nat) (i : In) : Nat := match f i with | none => n | some _ => n - 1
section
variable {w w' : World} {B hn gm most n : Nat} {f : Fn}
theorem prepare_any (i : In) (hi : i.Ok) (b : Bl) (w : World) (h : TabW w B hn gm most n f) :
    Calls Try.prog 14 #[.pointer (some ⟨hn, 0, none⟩), i.ag, b.ag] w fun e w' => e = .returned (.tuple #[(prR (stt (f i) n most) b).a.ag, (prR (stt (f i) n most) b).p.ag, .bool (prR (stt (f i) n most) b).ok, .int .i64 (prR (stt (f i) n most) b).e]) ∧
      TabW w' B hn gm most (putN f n i (prO (stt (f i) n most) b)) (put f i (prO (stt (f i) n most) b)) ∧ Keep [gm] w w' := by
  cases hs : stt (f i) n most with
  | none => exact (prepare_err _ i b 101 (by decide) w fun w' bb => place_no i hi w' (h.below bb) hs).mono fun e w' ⟨h1, h2⟩ => ⟨h1, h.below h2, Keep.of_below h2 _⟩
  | some r =>
    unfold prR prO
    simp only
    cases hl : low b r.p
    · exact prepare_yes i hi b w h hs hl
    · exact (prepare_low i hi b w h hs hl).mono fun e w' ⟨h1, h2⟩ => ⟨h1, h.below h2, Keep.of_below h2 _⟩
theorem accept_any (i : In) (hi : i.Ok) (b : Bl) (v : ByteArray) (hv : v.size ≤ 281474976710656) (w : World) (h : TabW w B hn gm most n f) :
    Calls Try.prog 15 #[.pointer (some ⟨hn, 0, none⟩), i.ag, b.ag, .string v] w fun e w' => e = .returned (.tuple #[(acR (stt (f i) n most) b).p.ag, .bool (acR (stt (f i) n most) b).ok, .int .i64 (acR (stt (f i) n most) b).e]) ∧
      TabW w' B hn gm most (putN f n i (acO (stt (f i) n most) b v)) (put f i (acO (stt (f i) n most) b v)) ∧ Keep [gm] w w' := by
  cases hs : stt (f i) n most with
  | none => exact (accept_err _ i b v 101 (by decide) w fun w' bb => place_no i hi w' (h.below bb) hs).mono fun e w' ⟨h1, h2⟩ => ⟨h1, h.below h2, Keep.of_below h2 _⟩
  | some r =>
    unfold acR acO
    simp only
    cases hl : low b r.p
    · exact accept_yes i hi b v hv w h hs hl
    · exact (accept_low i hi b v w h hs hl).mono fun e w' ⟨h1, h2⟩ => ⟨h1, h.below h2, Keep.of_below h2 _⟩
theorem forget_any (i : In) (hi : i.Ok) (w : World) (h : TabW w B hn gm most n f) :
    Calls Try.prog 17 #[.pointer (some ⟨hn, 0, none⟩), i.ag] w fun e w' => e = .returned (.int .i64 (fE (f i))) ∧ TabW w' B hn gm most (woN f n i) (wo f i) ∧ Keep [gm] w w' := by
  unfold wo woN
  cases hf : f i with
  | none => exact (forget_none i hi w h hf).mono fun e w' ⟨h1, h2⟩ => ⟨h1, h.below h2, Keep.of_below h2 _⟩
  | some r => exact forget_yes i hi w h hf
end
/-! ### ballots -/
theorem low_self (b : Bl) : low b b = false := by simp [low]
theorem low_zero {b : Bl} (h1 : 0 ≤ b.round) (h2 : 0 ≤ b.node) : low b b0 = false := by simp [low]; omega
theorem low_trans {b p q : Bl} (h1 : low b p = false) (h2 : low p q = false) : low b q = false := by
  simp [low] at *
  omega
/-! ### rows that are laid anew -/
theorem lay2_row {w : World} {bx : Nat} {b c : Bl} (h : Row2 w bx b) : Row2 (lay2 w bx c) bx c :=
  heap_setCell_same _ bx 1 _ _ _ (heap_setCell_same w bx 0 _ _ _ h)
theorem layA_row {w : World} {bx : Nat} {a c : Ac} (h : RowA w bx a) : RowA (layA w bx c) bx c :=
  heap_setCell_same _ bx 3 _ _ _ (heap_setCell_same _ bx 2 _ _ _ (heap_setCell_same _ bx 1 _ _ _ (heap_setCell_same w bx 0 _ _ _ h)))
/-- a step of a script, by its cells -/
abbrev Opn.obj (q : Opn) : Obj := .cells #[.int .i64 q.kind, .int .u64 q.i.tx, .int .i64 q.i.b, .int .i64 q.i.r, .int .u32 q.i.x, .int .u32 q.b.round, .int .u8 q.b.node, .string q.v] 40
abbrev RowO (w : World) (bx : Nat) (q : Opn) : Prop := w.heap[bx]? = some (.cells #[.int .i64 q.kind, .int .u64 q.i.tx, .int .i64 q.i.b, .int .i64 q.i.r, .int .u32 q.i.x, .int .u32 q.b.round, .int .u8 q.b.node, .string q.v] 40 (0, 0))
theorem RowO.below {w w' : World} {bx : Nat} {i : Opn} (h : RowO w bx i) (b : Below w.heap.size w w') : RowO w' bx i := (b.block bx (Array.getElem?_eq_some_iff.1 h).1).trans h
theorem RowO.lt {w : World} {bx : Nat} {i : Opn} (h : RowO w bx i) : bx < w.heap.size := (Array.getElem?_eq_some_iff.1 h).1
theorem RowO.new (w : World) (q : Opn) : RowO (w.alloc q.obj) w.heap.size q := heap_alloc_new w _
theorem RowO.all {w : World} {bx : Nat} {q : Opn} (h : RowO w bx q) : w.cell? ⟨bx, 0, none⟩ = some (.int .i64 q.kind) ∧ w.cell? ⟨bx, 1, none⟩ = some (.int .u64 q.i.tx) ∧ w.cell? ⟨bx, 2, none⟩ = some (.int .i64 q.i.b) ∧ w.cell? ⟨bx, 3, none⟩ = some (.int .i64 q.i.r) ∧
    w.cell? ⟨bx, 4, none⟩ = some (.int .u32 q.i.x) ∧ w.cell? ⟨bx, 5, none⟩ = some (.int .u32 q.b.round) ∧ w.cell? ⟨bx, 6, none⟩ = some (.int .u8 q.b.node) ∧ w.cell? ⟨bx, 7, none⟩ = some (.string q.v) :=
  ⟨cell_of_row w bx 0 _ _ (0, 0) h, cell_of_row w bx 1 _ _ (0, 0) h, cell_of_row w bx 2 _ _ (0, 0) h, cell_of_row w bx 3 _ _ (0, 0) h, cell_of_row w bx 4 _ _ (0, 0) h, cell_of_row w bx 5 _ _ (0, 0) h, cell_of_row w bx 6 _ _ (0, 0) h, cell_of_row w bx 7 _ _ (0, 0) h⟩
end Go.Proofs.Ytgknmicblnldiaa
