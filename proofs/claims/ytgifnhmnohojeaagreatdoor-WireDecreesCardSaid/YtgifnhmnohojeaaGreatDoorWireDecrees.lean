/- For every decree and every text: EncodeDecree and DecodeDecree of package wire answer as the document's Decree and OfDecree do, a decree's value is read back, and what is refused is refused. (The card is tied: it speaks of the project as it is pruned for its seat.) -/
import Derived.Test.YtgifnhmnohojeaaGreatDoorLot1
import Derived.Test.YtgifnhmnohojeaaGreatDoorLot19
import Derived.Test.YtgifnhmnohojeaaGreatDoorLot20
import Derived.Test.YtgifnhmnohojeaaGreatDoorCards
import Derived.Test.YtgifnhmnohojeaaGreatDoorTie
import Derived.ProofKit
import Derived.LaidMore
import Derived.OpenShut
import Derived.Stop.Joined
import Derived.SevenTiedAt

namespace Go.Proofs.YtgifnhmnohojeaaGreatDoor.wireDecrees
open Go.ChangeShapes Go.WideShapes Go.ChangeAt Go.RowKit
set_option linter.unusedVariables false

theorem own : ownKnob Tryz.prog.godebug = none := by kernel_rfl
theorem laidOut : laidOutB Tryz.prog = true := by kernel_rfl

theorem door_met (os : Os) (args : Array Value) : laidMetH Tryz.prog [("errors.errorType", Rows.laid_errors_errorType), ("tontine/frame.remainders", Rows.laid_tontine_frame_remainders)] ((World.doorLaid Tryz.prog 21 os).forCall (fun _ _ => 0) ⟨#[], args, []⟩).memory :=
  laidMetH_of_parts3 (fuel := 8) (laidMet_of_run' 8 (by kernel_rfl) (by kernel_rfl)) (by kernel_rfl) (by kernel_rfl)

set_option maxRecDepth 100000 in
theorem lifted (os : Os) (started : os.Started) (H : Type) (enc : TypeId × Value → H) :
    ReturnsInHanded {} Tryz.checked os 7 .any (fun w args => (Rows.wireDecreesSpec.pre enc Tryz.prog Tryz.f7 [] false w args ∧ laidMetH Tryz.prog [("errors.errorType", Rows.laid_errors_errorType), ("tontine/frame.remainders", Rows.laid_tontine_frame_remainders)] w) ∧ sizedMet enc Tryz.prog Tryz.f7 (OpenSpec.ofChange Rows.wireDecreesSpec) false w args)
      (Rows.wireDecreesSpec.post enc Tryz.prog Tryz.f7 false true false false) := by
  refine returnsInHanded_of_change_and (C := Tryz.checked) (X := fun w _ => laidMetH Tryz.prog [("errors.errorType", Rows.laid_errors_errorType), ("tontine/frame.remainders", Rows.laid_tontine_frame_remainders)] w) (fun _ _ _ hh h => h.of_heap hh) own started (by kernel_rfl) Tryz.func7
    (ChangeSpec.witness_shaped (enc := enc) (C := Tryz.checked) (os := os) (X := fun w _ => laidMetH Tryz.prog [("errors.errorType", Rows.laid_errors_errorType), ("tontine/frame.remainders", Rows.laid_tontine_frame_remainders)] w) false (World.doorLaid Tryz.prog 21 os) #[.agg #[.int .i64 0, .int .i64 0, .int .i64 0, .int .i64 0, .int .i64 0, .int .u32 0, .int .u32 0], .string ByteArray.empty] 8 rfl (World.shaped_of_RefB (by kernel_rfl) (by kernel_rfl)) (by kernel_rfl) (by kernel_rfl) (by kernel_rfl) (door_met os _)) ?_
  intro W base args ds gs before hval0 hW _ hsz hL _
  have hval : ∀ (j : Nat) t v, Tryz.f7.params[j]? = some t → args[j]? = some v → Value.okWide Tryz.prog W .any base t v := hval0
  have hW' := hW
  obtain ⟨p, q, hA0, hV, rfl, hfz, hnd⟩ := hW
  have hA : DataW.TrodAll enc Tryz.prog W 0 (fun _ => true) true Tryz.f7.params.toList args.toList ds p := hA0
  rw [Tryz.params7] at hA hval
  obtain ⟨v0, vs0, d0, ds0, p0, q0, hargs, rfl, rfl, k0, r0⟩ := trodAll_cons hA
  obtain ⟨v1, vs1, d1, ds1, p1, q1, rfl, rfl, rfl, k1, r1⟩ := trodAll_cons r0
  obtain ⟨rfl, rfl, rfl⟩ := trodAll_nil r1
  obtain rfl : args = #[v0, v1] := by cases args; simp_all
  obtain ⟨rfl, rfl⟩ := trodVars_none hV
  have lt0 : ∀ x ∈ p0, x.block < W.heap.size := by obtain ⟨m, hm⟩ := k0; exact DataW.trod_lt m _ _ _ hm
  have lt1 : ∀ x ∈ p1, x.block < W.heap.size := by obtain ⟨m, hm⟩ := k1; exact DataW.trod_lt m _ _ _ hm
  obtain ⟨cs0, rfl, hl0, hc0⟩ := flat_cells (ts := [77, 3, 3, 3, 3, 24, 24]) (by kernel_rfl) (by kernel_rfl) (by kernel_rfl) (hval 0 79 v0 rfl rfl)
  obtain ⟨x0_0, x0_1, x0_2, x0_3, x0_4, x0_5, x0_6, rfl⟩ := list7 cs0 (by simpa using hl0)
  obtain ⟨a0_0, rfl, wa0_0⟩ := cell_int Tryz.underlying77 (hc0 0 77 _ rfl rfl)
  obtain ⟨a0_1, rfl, wa0_1⟩ := cell_int Tryz.underlying3 (hc0 1 3 _ rfl rfl)
  obtain ⟨a0_2, rfl, wa0_2⟩ := cell_int Tryz.underlying3 (hc0 2 3 _ rfl rfl)
  obtain ⟨a0_3, rfl, wa0_3⟩ := cell_int Tryz.underlying3 (hc0 3 3 _ rfl rfl)
  obtain ⟨a0_4, rfl, wa0_4⟩ := cell_int Tryz.underlying3 (hc0 4 3 _ rfl rfl)
  obtain ⟨a0_5, rfl, wa0_5⟩ := cell_int Tryz.underlying24 (hc0 5 24 _ rfl rfl)
  obtain ⟨a0_6, rfl, wa0_6⟩ := cell_int Tryz.underlying24 (hc0 6 24 _ rfl rfl)
  obtain ⟨a1, rfl, wa1⟩ := val_string Tryz.underlying9 (hval 1 9 v1 rfl rfl)
  have hz1 := string_size hsz 1 (by rw [Tryz.params7]; rfl) rfl k1
  clear hA0 hval0
  refine (wireDecrees_law a0_0 wa0_0 a0_1 wa0_1 a0_2 wa0_2 a0_3 wa0_3 a0_4 wa0_4 a0_5 wa0_5 a0_6 wa0_6 a1 hz1 W (errt_of_laid hL) (tab_of_laid hL)).mono fun e W' ⟨he, bel⟩ => ?_
  subst he
  exact ⟨_, rfl, _, _, _, [], _, [], hW', trodAll_mk1 (shut_bool Tryz.underlying4 _), (trodAll_cons_mk (Below.trod laidOut (by kernel_rfl) (of_decide_eq_true (by kernel_rfl)) k0 bel lt0) (trodAll_cons_mk (Below.trod laidOut (by kernel_rfl) (of_decide_eq_true (by kernel_rfl)) k1 bel lt1) trodAll_mk0)), rfl, bel.frame _, fun h => by cases h⟩

theorem over : Rows.WireDecreesSaid :=
  OpenClaim.holds_of_wide 7 Tryz.f7 rfl rfl rfl rfl rfl rfl rfl ⟨rfl, rfl, rfl, rfl, rfl⟩ rfl rfl rfl rfl rfl (by kernel_rfl) Tryz.func7 (by kernel_rfl)
    (of_decide_eq_true (by kernel_rfl)) (by unfold Func.isWrapper; first | (rw [if_pos (by decide +kernel)]; kernel_rfl) | (rw [if_neg (by decide +kernel)]; exact ⟨rfl, rfl⟩))
    (fun os started H enc _ => lifted os started H enc)

/-- the tied card -/
theorem proved : Rows.WireDecreesCardSaid :=
  Claim7.holds_tied_plain_at .later [] [.handle, .data] true (true, "79c335773a934158bf97221e3664d6f1ee0c72a1981ea16c4dd3eadaa9cc4fad") true
    over (fun _ h => by cases h) (by kernel_rfl) (fun _ h => by cases h) wireDecrees_row_tie rfl ⟨rfl, rfl⟩ (by kernel_rfl) rfl
    (fun f fn hf hfn => by
      obtain rfl : f = 7 := Option.some.inj ((show Tryz.prog.funcNamed "tontine/tontinelaw04.WireDecrees" = some 7 by kernel_rfl).symm.trans hf) |>.symm
      obtain rfl : fn = Tryz.f7 := (Option.some.inj (Tryz.func7.symm.trans hfn)).symm
      exact ⟨by kernel_rfl, fun j t ht => by
        rw [Tryz.params7] at ht
        have hm : t ∈ [79, 9] := by simpa using Array.mem_of_getElem? ht
        have hall : ([79, 9].all fun u => !Tryz.prog.wantsStandIn u) = true := by kernel_rfl
        exact (show Tryz.prog.wantsStandIn t = false by simpa using List.all_eq_true.1 hall t hm)⟩)
    (by kernel_rfl)
#print axioms proved
end Go.Proofs.YtgifnhmnohojeaaGreatDoor.wireDecrees
