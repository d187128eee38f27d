/- WireDecrees over its arguments' cells. -/
import Derived.Test.YtgifnhmnohojeaaGreatDoorLot19

namespace Go.Proofs.YtgifnhmnohojeaaGreatDoor
open Go.RowKit
set_option linter.unusedVariables false

theorem wireDecrees_law (x0 : Int) (w0 : (Lit.int .i64 x0).wf = true) (x1 : Int) (w1 : (Lit.int .i64 x1).wf = true) (x2 : Int) (w2 : (Lit.int .i64 x2).wf = true) (x3 : Int) (w3 : (Lit.int .i64 x3).wf = true) (x4 : Int) (w4 : (Lit.int .i64 x4).wf = true)
    (x5 : Int) (w5 : (Lit.int .u32 x5).wf = true) (x6 : Int) (w6 : (Lit.int .u32 x6).wf = true) (s : ByteArray) (hs : s.size ≤ 140737488355328) (W : World) (hE : ErrT W) (hT : Tab W) :
    Calls Tryz.prog 7 #[.agg #[.int .i64 x0, .int .i64 x1, .int .i64 x2, .int .i64 x3, .int .i64 x4, .int .u32 x5, .int .u32 x6], .string s] W (LawOk W) := by
  have b0 := bounds_i64 w0; have b1 := bounds_i64 w1; have b2 := bounds_i64 w2; have b3 := bounds_i64 w3; have b4 := bounds_i64 w4
  have b5 := bounds_u32 w5; have b6 := bounds_u32 w6
  obtain ⟨n5, rfl⟩ := Int.eq_ofNat_of_zero_le b5.1
  obtain ⟨n6, rfl⟩ := Int.eq_ofNat_of_zero_le b6.1
  exact decrees_law ⟨x0, x1, x2, ⟨x3, x4⟩, n5, n6⟩ ⟨b0, b1, b2, b3, b4, by show n5 ≤ 4294967295; omega, by show n6 ≤ 4294967295; omega⟩ s hs W hE hT
end Go.Proofs.YtgifnhmnohojeaaGreatDoor
