/- a table learns its fingers, tells the next step, answers lookups and walks as the document says; for any three peers and any script (of which 200 ops are gone through) -/
import Derived.Test.YtokmchkoojeadaaFrm
import Derived.Test.YtokmchkoojeadaaArg
import Derived.Test.YtokmchkoojeadaaLawP
import Derived.SizedLaws
namespace Go.Proofs.Ytokmchkoojeadaa.routePlays
open Go.ChangeShapes Go.WideShapes Go.ChangeAt Go.RowKit
set_option linter.unusedVariables false

theorem own : ownKnob Try.prog.godebug = none := by kernel_rfl
theorem laidOut : laidOutB Try.prog = true := by kernel_rfl

set_option maxRecDepth 100000 in
theorem lifted (os : Os) (started : os.Started) (H : Type) (enc : TypeId × Value → H) :
    ReturnsInHanded {} Try.checked os 3 .any (Rows.routePlaysSpec.pre6 enc Try.prog Try.f3 Rows.routePlaysRow.domain false) (Rows.routePlaysSpec.post enc Try.prog Try.f3 false true false false) := by
  refine returnsInHanded_of_change_sized (C := Try.checked) own started (by kernel_rfl) Try.func3
    (ChangeSpec.witness6 (enc := enc) (C := Try.checked) false ⟨#[], #[.agg #[.int .i64 0, .int .u64 0, .int .u64 0, .int .i64 0, .int .u64 0, .int .u64 0, .int .i64 0, .int .u64 0, .int .u64 0], .slice none 0 0], []⟩ 8 (by kernel_rfl) (by kernel_rfl) (by kernel_rfl) (by kernel_rfl)) ?_
  intro W base args ds gs before hval0 hW hcnd hsz _
  have hval : ∀ (j : Nat) t v, Try.f3.params[j]? = some t → args[j]? = some v → Value.okWide Try.prog W .any base t v := hval0
  have hW' := hW
  obtain ⟨p, q, hA0, hV, rfl, hfz, hnd⟩ := hW
  have hA : DataW.TrodAll enc Try.prog W 0 (fun _ => true) true Try.f3.params.toList args.toList ds p := hA0
  rw [Try.params3] at hA hval
  obtain ⟨v0, vs0, d0, ds0, p0, q0, hargs, rfl, rfl, k0, r0⟩ := trodAll_cons hA
  obtain ⟨v1, vs1, d1, ds1, p1, q1, rfl, rfl, rfl, k1, r1⟩ := trodAll_cons r0
  obtain ⟨rfl, rfl, rfl⟩ := trodAll_nil r1
  obtain rfl : args = #[v0, v1] := by cases args; simp_all
  obtain ⟨rfl, rfl⟩ := trodVars_none hV
  have lt0 : ∀ x ∈ p0, x.block < W.heap.size := by obtain ⟨m, hm⟩ := k0; exact DataW.trod_lt m _ _ _ hm
  have lt1 : ∀ x ∈ p1, x.block < W.heap.size := by obtain ⟨m, hm⟩ := k1; exact DataW.trod_lt m _ _ _ hm
  obtain ⟨cs0, rfl, hl0, hc0⟩ := flat_cells (ts := [3, 22, 22, 3, 22, 22, 3, 22, 22]) (by kernel_rfl) (by kernel_rfl) (by kernel_rfl) (hval 0 28 v0 rfl rfl)
  obtain ⟨x0_0, x0_1, x0_2, x0_3, x0_4, x0_5, x0_6, x0_7, x0_8, rfl⟩ := list9 cs0 (by simpa using hl0)
  obtain ⟨a0_0, rfl, wa0_0⟩ := cell_int Try.underlying3 (hc0 0 3 _ rfl rfl)
  obtain ⟨a0_1, rfl, wa0_1⟩ := cell_int Try.underlying22 (hc0 1 22 _ rfl rfl)
  obtain ⟨a0_2, rfl, wa0_2⟩ := cell_int Try.underlying22 (hc0 2 22 _ rfl rfl)
  obtain ⟨a0_3, rfl, wa0_3⟩ := cell_int Try.underlying3 (hc0 3 3 _ rfl rfl)
  obtain ⟨a0_4, rfl, wa0_4⟩ := cell_int Try.underlying22 (hc0 4 22 _ rfl rfl)
  obtain ⟨a0_5, rfl, wa0_5⟩ := cell_int Try.underlying22 (hc0 5 22 _ rfl rfl)
  obtain ⟨a0_6, rfl, wa0_6⟩ := cell_int Try.underlying3 (hc0 6 3 _ rfl rfl)
  obtain ⟨a0_7, rfl, wa0_7⟩ := cell_int Try.underlying22 (hc0 7 22 _ rfl rfl)
  obtain ⟨a0_8, rfl, wa0_8⟩ := cell_int Try.underlying22 (hc0 8 22 _ rfl rfl)
  obtain ⟨a1, n1, c1, rfl, hc1, hm1, hr1⟩ := ops_arg hsz 1 (by rw [Try.params3]; rfl) rfl (hval 1 29 v1 rfl rfl) k1
  clear hA0 hval0
  refine (routePlays_law a0_0 wa0_0 a0_1 wa0_1 a0_2 wa0_2 a0_3 wa0_3 a0_4 wa0_4 a0_5 wa0_5 a0_6 wa0_6 a0_7 wa0_7 a0_8 wa0_8 a1 n1 c1 hc1 hm1 W hr1).mono fun e W' ⟨he, bel⟩ => ?_
  subst he
  exact ⟨_, rfl, _, _, _, [], _, [], hW', trodAll_mk1 (shut_bool Try.underlying4 _), (trodAll_cons_mk (Below.trod laidOut (by kernel_rfl) (of_decide_eq_true (by kernel_rfl)) k0 bel lt0) (trodAll_cons_mk (Below.trod laidOut (by kernel_rfl) (of_decide_eq_true (by kernel_rfl)) k1 bel lt1) trodAll_mk0)), rfl, bel.frame _, fun h => by cases h⟩

theorem over : Rows.routePlaysRow.holds Try.pinned (OpenSpec.ofChange Rows.routePlaysSpec) :=
  OpenClaim.holds_of_wide 3 Try.f3 rfl rfl rfl rfl rfl rfl rfl ⟨rfl, rfl, rfl, rfl, rfl⟩ rfl rfl rfl rfl rfl (by kernel_rfl) Try.func3 (by kernel_rfl)
    (of_decide_eq_true (by kernel_rfl)) (by unfold Func.isWrapper; first | (rw [if_pos (by decide +kernel)]; kernel_rfl) | (rw [if_neg (by decide +kernel)]; exact ⟨rfl, rfl⟩))
    (fun os started H enc _ => lifted os started H enc)

/-- the statement -/
theorem proved : Rows.RoutePlaysSaid := over
#print axioms proved
end Go.Proofs.Ytokmchkoojeadaa.routePlays
