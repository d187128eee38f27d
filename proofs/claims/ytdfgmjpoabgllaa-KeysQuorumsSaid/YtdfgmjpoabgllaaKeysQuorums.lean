/- KeysQuorums returns true for every two choices of four, whatever they are; no condition. -/
import Derived.Test.YtdfgmjpoabgllaaFrm
import Derived.Test.YtdfgmjpoabgllaaQuorumsW
namespace Go.Proofs.Ytdfgmjpoabgllaa.keysQuorums
open Go.ChangeShapes Go.WideShapes Go.ChangeAt Go.RowKit
set_option linter.unusedVariables false

theorem own : ownKnob Try.prog.godebug = none := by kernel_rfl
theorem laidOut : laidOutB Try.prog = true := by kernel_rfl

set_option maxRecDepth 100000 in
theorem lifted (os : Os) (started : os.Started) (H : Type) (enc : TypeId × Value → H) :
    ReturnsInHanded {} Try.checked os 8 .any (Rows.keysQuorumsSpec.pre6 enc Try.prog Try.f8 Rows.keysQuorumsRow.domain false) (Rows.keysQuorumsSpec.post enc Try.prog Try.f8 false true false false) := by
  refine returnsInHanded_of_change (C := Try.checked) own started (by kernel_rfl) Try.func8
    (ChangeSpec.witness6 (enc := enc) (C := Try.checked) false ⟨#[], #[.agg #[.bool false, .bool false, .bool false, .bool false], .agg #[.bool false, .bool false, .bool false, .bool false]], []⟩ 8 (by kernel_rfl) (by kernel_rfl) (by kernel_rfl) (by kernel_rfl)) ?_
  intro W base args ds gs before hval0 hW hcnd _
  have hval : ∀ (j : Nat) t v, Try.f8.params[j]? = some t → args[j]? = some v → Value.okWide Try.prog W .any base t v := hval0
  have hW' := hW
  obtain ⟨p, q, hA0, hV, rfl, hfz, hnd⟩ := hW
  have hA : DataW.TrodAll enc Try.prog W 0 (fun _ => true) true Try.f8.params.toList args.toList ds p := hA0
  rw [Try.params8] at hA hval
  obtain ⟨v0, vs0, d0, ds0, p0, q0, hargs, rfl, rfl, k0, r0⟩ := trodAll_cons hA
  obtain ⟨v1, vs1, d1, ds1, p1, q1, rfl, rfl, rfl, k1, r1⟩ := trodAll_cons r0
  obtain ⟨rfl, rfl, rfl⟩ := trodAll_nil r1
  obtain rfl : args = #[v0, v1] := by cases args; simp_all
  obtain ⟨rfl, rfl⟩ := trodVars_none hV
  have lt0 : ∀ x ∈ p0, x.block < W.heap.size := by obtain ⟨m, hm⟩ := k0; exact DataW.trod_lt m _ _ _ hm
  have lt1 : ∀ x ∈ p1, x.block < W.heap.size := by obtain ⟨m, hm⟩ := k1; exact DataW.trod_lt m _ _ _ hm
  obtain ⟨cs0, rfl, hl0, hc0⟩ := flat_cells (ts := [4, 4, 4, 4]) (by kernel_rfl) (by kernel_rfl) (by kernel_rfl) (hval 0 39 v0 rfl rfl)
  obtain ⟨x0_0, x0_1, x0_2, x0_3, rfl⟩ := list4 cs0 (by simpa using hl0)
  obtain ⟨a0_0, rfl⟩ := cell_bool Try.underlying4 (hc0 0 4 _ rfl rfl)
  obtain ⟨a0_1, rfl⟩ := cell_bool Try.underlying4 (hc0 1 4 _ rfl rfl)
  obtain ⟨a0_2, rfl⟩ := cell_bool Try.underlying4 (hc0 2 4 _ rfl rfl)
  obtain ⟨a0_3, rfl⟩ := cell_bool Try.underlying4 (hc0 3 4 _ rfl rfl)
  obtain ⟨cs1, rfl, hl1, hc1⟩ := flat_cells (ts := [4, 4, 4, 4]) (by kernel_rfl) (by kernel_rfl) (by kernel_rfl) (hval 1 39 v1 rfl rfl)
  obtain ⟨x1_0, x1_1, x1_2, x1_3, rfl⟩ := list4 cs1 (by simpa using hl1)
  obtain ⟨a1_0, rfl⟩ := cell_bool Try.underlying4 (hc1 0 4 _ rfl rfl)
  obtain ⟨a1_1, rfl⟩ := cell_bool Try.underlying4 (hc1 1 4 _ rfl rfl)
  obtain ⟨a1_2, rfl⟩ := cell_bool Try.underlying4 (hc1 2 4 _ rfl rfl)
  obtain ⟨a1_3, rfl⟩ := cell_bool Try.underlying4 (hc1 3 4 _ rfl rfl)
  clear hA0 hval0
  refine (keysQuorums_law a0_0 a0_1 a0_2 a0_3 a1_0 a1_1 a1_2 a1_3 W).mono fun e W' ⟨he, bel⟩ => ?_
  subst he
  exact ⟨_, rfl, _, _, _, [], _, [], hW', trodAll_mk1 (shut_bool Try.underlying4 _), (trodAll_cons_mk (Below.trod laidOut (by kernel_rfl) (of_decide_eq_true (by kernel_rfl)) k0 bel lt0) (trodAll_cons_mk (Below.trod laidOut (by kernel_rfl) (of_decide_eq_true (by kernel_rfl)) k1 bel lt1) trodAll_mk0)), rfl, bel.frame _, fun h => by cases h⟩

theorem over : Rows.keysQuorumsRow.holds Try.pinned (OpenSpec.ofChange Rows.keysQuorumsSpec) :=
  OpenClaim.holds_of_wide 8 Try.f8 rfl rfl rfl rfl rfl rfl rfl ⟨rfl, rfl, rfl, rfl, rfl⟩ rfl rfl rfl rfl rfl (by kernel_rfl) Try.func8 (by kernel_rfl)
    (of_decide_eq_true (by kernel_rfl)) (by unfold Func.isWrapper; first | (rw [if_pos (by decide +kernel)]; kernel_rfl) | (rw [if_neg (by decide +kernel)]; exact ⟨rfl, rfl⟩))
    (fun os started H enc _ => lifted os started H enc)

/-- the statement -/
theorem proved : Rows.KeysQuorumsSaid := over
#print axioms proved
end Go.Proofs.Ytdfgmjpoabgllaa.keysQuorums
