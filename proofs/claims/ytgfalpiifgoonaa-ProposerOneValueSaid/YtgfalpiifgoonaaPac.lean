/- What Prepare and Accept answer and leave, whatever the way. -/
import Derived.Test.YtgfalpiifgoonaaAny
import Derived.Test.YtgfalpiifgoonaaAc
namespace Go.Proofs.Ytgfalpiifgoonaa
open Go.RowKit Go.Sort
set_option linter.unusedVariables false
set_option linter.unusedSectionVars false
set_option linter.unusedSimpArgs false
set_option maxRecDepth 100000
structure AR where
  a : Ac
  p : Bl
  ok : Bool
  e : Int
/-- Prepare of a ballot at what place tells -/
def prR (o : Option Rw) (b : Bl) : AR := match o with | none => ⟨a0, b0, false, 101⟩ | some r => if low b r.p then ⟨a0, r.p, false, 0⟩ else ⟨r.a, b, true, 0⟩
def prO (o : Option Rw) (b : Bl) : Option Rw := match o with | none => none | some r => if low b r.p then none else some ⟨b, r.a⟩
/-- Accept -/
def acR (o : Option Rw) (b : Bl) : AR := match o with | none => ⟨a0, b0, false, 101⟩ | some r => if low b r.p then ⟨a0, r.p, false, 0⟩ else ⟨a0, b, true, 0⟩
def acO (o : Option Rw) (b : Bl) (v : ByteArray) : Option Rw := match o with | none => none | some r => if low b r.p then none else some ⟨b, ⟨true, b, v⟩⟩
/-- what is stored -/
def put (f : Fn) (i : In) : Option Rw → Fn | none => f | some v => upd f i (some v)
def putN (f : Fn) (n : Nat) (i : In) : Option Rw → Nat | none => n | some _ => if (f i).isSome then n else n + 1
def wo (f : Fn) (i : In) : Fn := match f i with | none => f | some _ => upd f i none
def woN (f : Fn) (n : Nat) (i : In) : Nat := match f i with | none => n | some _ => n - 1
section
variable {w w' : World} {B hn gm most n : Nat} {f : Fn}
theorem prepare_any (i : In) (hi : i.Ok) (b : Bl) (w : World) (h : TabW w B hn gm most n f) :
    Calls Try.prog 30 #[.pointer (some ⟨hn, 0, none⟩), i.ag, b.ag] w fun e w' => e = .returned (.tuple #[(prR (stt (f i) n most) b).a.ag, (prR (stt (f i) n most) b).p.ag, .bool (prR (stt (f i) n most) b).ok, .int .i64 (prR (stt (f i) n most) b).e]) ∧
      TabW w' B hn gm most (putN f n i (prO (stt (f i) n most) b)) (put f i (prO (stt (f i) n most) b)) ∧ Keep [gm] w w' := by
  cases hs : stt (f i) n most with
  | none => exact (prepare_err _ i b 101 (by decide) w fun w' bb => place_no i hi w' (h.below bb) hs).mono fun e w' ⟨h1, h2⟩ => ⟨h1, h.below h2, Keep.of_below h2 _⟩
  | some r =>
    unfold prR prO
    simp only
    cases hl : low b r.p
    · exact prepare_yes i hi b w h hs hl
    · exact (prepare_low i hi b w h hs hl).mono fun e w' ⟨h1, h2⟩ => ⟨h1, h.below h2, Keep.of_below h2 _⟩
theorem accept_any (i : In) (hi : i.Ok) (b : Bl) (v : ByteArray) (hv : v.size ≤ 281474976710656) (w : World) (h : TabW w B hn gm most n f) :
    Calls Try.prog 31 #[.pointer (some ⟨hn, 0, none⟩), i.ag, b.ag, .string v] w fun e w' => e = .returned (.tuple #[(acR (stt (f i) n most) b).p.ag, .bool (acR (stt (f i) n most) b).ok, .int .i64 (acR (stt (f i) n most) b).e]) ∧
      TabW w' B hn gm most (putN f n i (acO (stt (f i) n most) b v)) (put f i (acO (stt (f i) n most) b v)) ∧ Keep [gm] w w' := by
  cases hs : stt (f i) n most with
  | none => exact (accept_err _ i b v 101 (by decide) w fun w' bb => place_no i hi w' (h.below bb) hs).mono fun e w' ⟨h1, h2⟩ => ⟨h1, h.below h2, Keep.of_below h2 _⟩
  | some r =>
    unfold acR acO
    simp only
    cases hl : low b r.p
    · exact accept_yes i hi b v hv w h hs hl
    · exact (accept_low i hi b v w h hs hl).mono fun e w' ⟨h1, h2⟩ => ⟨h1, h.below h2, Keep.of_below h2 _⟩
end
end Go.Proofs.Ytgfalpiifgoonaa
