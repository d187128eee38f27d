/- The live question of the statements of layer 3. -/
import Derived.Test.YtbbafjgbcmlacaaDoorFrame
import Derived.Lib.SlBytesConst
namespace Go.Proofs.YtbbafjgbcmlacaaDoor
open Go.RowKit Go.Sort
set_option linter.unusedVariables false

theorem Rd.lit (w : World) (l : List Nat) (hl : ∀ c ∈ l, c < 256) (fr : Nat × Nat) : Rd (w.alloc (.cells ⟨cs l⟩ 5 fr)) (some ⟨w.heap.size, 0, none⟩) l := by
  refine ⟨hl, fun j hj => ⟨_, 0, rfl, by simp, ?_⟩⟩
  rw [cell_of_row _ _ _ ⟨cs l⟩ 5 fr (heap_alloc_new w _), List.getElem?_toArray, Nat.zero_add, List.getElem?_map, bt_get hj]
  rfl

theorem known_sum : sumOf 0 [49, 50, 51, 52, 53, 54, 55, 56, 57] = 3808858755 := by decide +kernel
theorem known_frame : bt (frameOf []) 6 = 199 := by decide +kernel

set_option maxHeartbeats 2000000 in
theorem awake_any (w : World) (ht : Tab w) : Calls Tryd.prog 8 #[] w fun e w' => e = .returned (.bool true) ∧ Below w.heap.size w w' := by
  have HT := Lib.hid ht
  clear ht
  go_enter Tryd.func8, Tryd.ntmps8
  go_wp2_with fail
  refine (wrap_any none 0 0 [] rfl (by omega) w HT.out (Rd.nil _ _)).mono ?_
  rintro e w1 (⟨h, _⟩ | ⟨_, ao, cap, rfl, o1, b1⟩)
  · simp at h
  obtain ⟨g, o, rfl, _, hg, hc, hf⟩ := o1.at_ 6 (by simp)
  rw [known_frame] at hc
  have hc2 := ((below_alloc (Below.refl _ w1) (.cells ⟨cs [49, 50, 51, 52, 53, 54, 55, 56, 57]⟩ 5 (9, 10))).cell (p := ⟨g, o + 6, none⟩) hg).trans hc
  have hs := sum_any 0 (by omega) _ 9 9 [49, 50, 51, 52, 53, 54, 55, 56, 57] rfl (by omega) _ (HT.out.below (below_alloc b1 (.cells ⟨cs [49, 50, 51, 52, 53, 54, 55, 56, 57]⟩ 5 (9, 10)))) (Rd.lit w1 [49, 50, 51, 52, 53, 54, 55, 56, 57] (by decide) (9, 10))
  rw [known_sum] at hs
  have HS := Lib.hid hs
  have HC2 := Lib.hid hc2
  have b2 := below_alloc b1 (.cells ⟨cs [49, 50, 51, 52, 53, 54, 55, 56, 57]⟩ 5 (9, 10))
  have kc := fun (C : Array Value) (n c : Nat) => Lib.run_convert_bytes_const (P := Tryd.prog) w1 22 5 C n c Tryd.underlying22 Tryd.underlying5
  clear hs hc hc2 hf o1
  go_wp2_with fail
  refine HS.out.mono ?_
  rintro e w2 ⟨rfl, hw⟩
  have hc3 := HC2.out
  rw [hw] at hc3 b2
  clear hw HC2 HS kc
  go_wp2_with fail
  go_ret
  exact ⟨rfl, b2⟩
end Go.Proofs.YtbbafjgbcmlacaaDoor
