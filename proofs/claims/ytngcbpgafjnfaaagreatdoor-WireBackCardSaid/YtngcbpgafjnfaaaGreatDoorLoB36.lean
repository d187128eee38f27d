/- An argument of type api.Msg. -/
import Derived.Test.YtngcbpgafjnfaaaGreatDoorLoB28
import Derived.Test.YtngcbpgafjnfaaaGreatDoorLoB35
set_option linter.unusedSimpArgs false
set_option linter.unusedVariables false

namespace Go.Proofs.YtngcbpgafjnfaaaGreatDoor
open Go.ChangeShapes Go.WideShapes Go.ChangeAt Go.RowKit Go.Deep
set_option linter.unusedVariables false

section
variable {H : Type} {enc : TypeId × Value → H} {W : World} {held : Bool}
set_option maxRecDepth 100000 in
theorem msg_arg {d : DataW H} {base : Nat} {v : Value} {p : List MemPlace} (ok : Value.okWide Tryz.prog W .any base 52 v) (k : DataW.Trod enc Tryz.prog W 0 (fun _ => true) held 52 v d p) :
    ∃ (m : Ms) (cs : List Value), v = .agg cs.toArray ∧ I64 m.kind ∧ cs.length = 49 ∧ cs[0]? = some (.int .i64 m.kind) ∧ SlIn W (Old W) cs (slotsOf m) := by
  obtain ⟨A, rfl, _⟩ := okWide_struct Tryz.underlying52 ok
  obtain ⟨fuel, hf⟩ := k
  have hf' : DataW.trod enc Tryz.prog W 0 (fun _ => true) held fuel 52 A.toList = some (d, p) := hf
  obtain ⟨m, hI, h0, hz, hS⟩ := msg_open hf'
  exact ⟨m, A.toList, rfl, hI, hz, h0, hS⟩
end
end Go.Proofs.YtngcbpgafjnfaaaGreatDoor
