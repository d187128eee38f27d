/- Slices read: same of the statements; Has and Overlap of the document's answer. -/
import Derived.Test.YtjgmgcniemncjaaShare
namespace Go.Proofs.Ytjgmgcniemncjaa
open Go.RowKit Go.Sort
set_option linter.unusedVariables false

/-- n integers lie in a slice that begins at ao -/
def SlI (w : World) (ao : Option Addr) (n : Nat) (F : Nat → Int) : Prop := ∀ j, j < n → ∃ g, ao = some ⟨g, 0, none⟩ ∧ g < w.heap.size ∧ w.cell? ⟨g, j, none⟩ = some (.int .i64 (F j))
theorem SlI.below {w w' : World} {ao : Option Addr} {n : Nat} {F : Nat → Int} (h : SlI w ao n F) (b : Below w.heap.size w w') : SlI w' ao n F := fun j hj => by
  obtain ⟨g, h1, h2, h3⟩ := h j hj
  exact ⟨g, h1, Nat.lt_of_lt_of_le h2 b.size, (b.cell h2).trans h3⟩

/-- how many places an arc has -/
def np (f s : Int) : Nat := (places f s).length
theorem np_le (f s : Int) : np f s ≤ 64 := by
  unfold np; rw [places_length]
  split
  · rename_i h; have := right_spec.1 h; omega
  · omega
theorem places_get (f s : Int) (j : Nat) (hj : j < np f s) : (places f s)[j]? = some ((f + j) % 64) := by
  unfold np at hj
  unfold places at hj ⊢
  split at hj
  · rename_i h; rw [if_pos h]; rw [pl_length] at hj; simp [pl, hj]
  · simp at hj
theorem sl_of_own {w : World} {base e n cap : Nat} {ao : Option Addr} {l : List Int} (h : w.ownsRow base e 1 (.slice ao n cap) n (l.map (.int .i64))) : ∀ j x, l[j]? = some x → ∃ g, ao = some ⟨g, 0, none⟩ ∧ g < w.heap.size ∧ w.cell? ⟨g, j, none⟩ = some (.int .i64 x) := by
  intro j x hx
  have hj : j < l.length := (List.getElem?_eq_some_iff.1 hx).1
  have hl : l.length = n := by simpa using h.1
  rcases h.2 with ⟨h1, h2⟩ | ⟨g, cap', cur, h1, h2, h3, h4⟩
  · omega
  · simp only [Value.slice.injEq, true_and] at h1
    obtain ⟨rfl, rfl⟩ := h1
    refine ⟨g, rfl, (Array.getElem?_eq_some_iff.1 h3).1, ?_⟩
    rw [h.cellAt j (by omega)]
    simp [hx]
/-- what a made slice of an arc's places is -/
theorem made_places {w w' : World} {base f s : Int} {b : Nat} {v : Value} (h : w'.ownsRow b 3 1 v (places f s).length ((places f s).map (Value.int .i64))) :
    ∃ ao cap, v = .slice ao (np f s) cap ∧ SlI w' ao (np f s) (fun j => (f + (j : Nat)) % 64) := by
  obtain ⟨ao, cap, rfl⟩ := own_form h
  exact ⟨ao, cap, rfl, fun j hj => sl_of_own h j _ (places_get f s j hj)⟩

theorem has_mem {f s : Int} {j : Nat} (hj : j < np f s) : hasB f s ((f + j) % 64) = true := by
  unfold np at hj
  rw [places_length] at hj
  split at hj
  · rename_i h; have hr := right_spec.1 h
    rw [has_spec h (by omega) (by omega)]
    omega
  · omega
theorem has_ex {f s p : Int} (h : hasB f s p = true) : ∃ j, j < np f s ∧ p = (f + (j : Nat)) % 64 := by
  unfold hasB at h
  simp only [Bool.and_eq_true, decide_eq_true_eq] at h
  obtain ⟨h1, h2, h3⟩ := h
  have hr := right_spec.1 h1
  have hp := place_spec.1 h2
  refine ⟨((p - f + 64) % 64).toNat, ?_, ?_⟩
  · unfold np; rw [places_length, if_pos h1]; omega
  · omega
theorem has_place {f s p : Int} (h : hasB f s p = true) : 0 ≤ p ∧ p < 64 := by
  unfold hasB at h
  simp only [Bool.and_eq_true, decide_eq_true_eq] at h
  exact place_spec.1 h.2.1

set_option maxHeartbeats 2000000 in
theorem same_any (n : Nat) (hn : n ≤ 64) (F : Nat → Int) (ao bo : Option Addr) (c d : Nat) (w : World) (h1 : SlI w ao n F) (h2 : SlI w bo n F) :
    Calls Try.prog 11 #[.slice ao n c, .slice bo n d] w fun e w' => e = .returned (.bool true) ∧ Below w.heap.size w w' := by
  have H1 := Lib.hid h1; have H2 := Lib.hid h2; clear h1 h2
  go_enter Try.func11, Try.ntmps11
  go_wp2_with fail
  go_loopw [5] (fun i wr => ∃ k : Nat, k ≤ n ∧ i = .int .i64 k ∧ Below w.heap.size w wr) (fun i _ => n - (intOf i).toNat)
  case atStart => exact ⟨0, Nat.zero_le _, rfl, Below.refl _ _⟩
  case round =>
    obtain ⟨k, hk, rfl, hb⟩ := hrel
    by_cases hlt : k < n
    · obtain ⟨g1, rfl, p1, q1⟩ := (SlI.below H1.out hb) k hlt
      obtain ⟨g2, rfl, p2, q2⟩ := (SlI.below H2.out hb) k hlt
      have r1 := cell_regrown q1
      have r2 := cell_regrown q2
      clear p1 p2 q1 q2
      go_wp2_with fail
      refine wp_region_quiet_below (by kernel_rfl) (by kernel_rfl) ?_
      repeat (go_big_quiet_step (fail))
      refine wpQuiet_nil ?_
      intro _ hw'
      obtain ⟨⟨dq, osq⟩, hw''⟩ := hw'
      subst hw''
      have lk := below_regrown wr dq osq
      go_wp2_with fail
      go_roundw
      case rel => exact ⟨k + 1, by omega, by go_num, below_next hb lk⟩
      case measure => simp [intOf]; omega
    · obtain rfl : k = n := by omega
      go_wp2_with fail
      go_ret
      exact ⟨rfl, hb⟩

set_option maxHeartbeats 2000000 in
theorem rhas_any (f s p : Int) : Ret 17 #[arc f s, .int .i64 p] (.returned (.bool (hasB f s p))) := by
  intro w
  have HM := Lib.hid (fun j (hj : j < np f s) => has_mem hj)
  have HE := Lib.hid (@has_ex f s p)
  have hnp := np_le f s
  go_enter Try.func17, Try.ntmps17
  go_wp2_with fail
  refine (rplaces_any f s _).mono ?_
  rintro e w1 ⟨v, rfl, hown, l1⟩
  obtain ⟨ao, cap, rfl, hs⟩ := made_places (base := 0) (w := w) hown
  have hW := below_of_alloc l1
  clear hown l1
  have HS := Lib.hid hs; clear hs
  generalize np f s = n at *
  go_wp2_with fail
  go_loop [6] (fun i => ∃ k : Nat, k ≤ n ∧ i = .int .i64 k ∧ ∀ j : Nat, j < k → ¬ (f + j) % 64 = p) (fun i => n - (intOf i).toNat)
  case atStart => exact ⟨0, Nat.zero_le _, rfl, fun j hj => by omega⟩
  case round =>
    obtain ⟨k, hk, rfl, hall⟩ := hrel
    have HA := Lib.hid hall; clear hall
    by_cases hlt : k < n
    · obtain ⟨g1, rfl, p1, q1⟩ := HS.out k hlt
      have hm := HM.out k hlt
      by_cases he : (f + (k : Nat)) % 64 = p
      · subst he
        go_wp2_with fail
        go_ret
        exact ⟨rfl, hW⟩
      · have e1 : ((f + (k : Nat)) % 64 == p) = false := by simp [he]
        go_wp2_with fail
        go_round
        case rel =>
          refine ⟨k + 1, by omega, by go_num, fun j hj => ?_⟩
          by_cases hjk : j = k
          · subst hjk; exact he
          · exact HA.out j (by omega)
        case measure => simp [intOf]; omega
    · obtain rfl : k = n := by omega
      go_wp2_with fail
      go_ret
      refine ⟨ret_bool ?_, hW⟩
      cases hv : hasB f s p
      · rfl
      · obtain ⟨j, hj, e⟩ := HE.out hv
        exact absurd e.symm (HA.out j hj)

set_option maxHeartbeats 2000000 in
theorem roverlap_any (f s g t : Int) : Ret 19 #[arc f s, arc g t] (.returned (.bool (ovB f s g t))) := by
  intro w
  have HM := Lib.hid (fun j (hj : j < np f s) => has_mem hj)
  have HE := Lib.hid (fun p (h : hasB f s p = true) => has_ex h)
  have CH := Lib.hid (rhas_any g t)
  have hnp := np_le f s
  go_enter Try.func19, Try.ntmps19
  go_wp2_with fail
  refine (rplaces_any f s _).mono ?_
  rintro e w1 ⟨v, rfl, hown, l1⟩
  obtain ⟨ao, cap, rfl, hs⟩ := made_places (base := 0) (w := w) hown
  have m1 := (((Holds.nil w).new2 (.int .i64 f) (.int .i64 s) 23).new2 (.int .i64 g) (.int .i64 t) 23).below l1
  have hW := below_of_alloc (below_of_alloc l1)
  obtain ⟨g1, g2, g3⟩ := m1.two
  simp only [World.size_alloc] at g1 g2 g3
  clear hown l1 m1
  have HS := Lib.hid hs; clear hs
  generalize np f s = n at *
  go_wp2_with fail
  go_loopw [6] (fun i wr => ∃ k : Nat, k ≤ n ∧ i = .int .i64 k ∧ (∀ j : Nat, j < k → hasB g t ((f + j) % 64) = false) ∧ Below w1.heap.size w1 wr) (fun i _ => n - (intOf i).toNat)
  case atStart => exact ⟨0, Nat.zero_le _, rfl, fun j hj => by omega, Below.refl _ _⟩
  case round =>
    obtain ⟨k, hk, rfl, hall, hb⟩ := hrel
    have HA := Lib.hid hall; clear hall
    by_cases hlt : k < n
    · obtain ⟨gg, rfl, p1, q1⟩ := (SlI.below HS.out hb) k hlt
      have hm := HM.out k hlt
      have r1 := cell_regrown q1
      have r2 := cell_regrown ((hb.cell (p := ⟨w.heap.size + 1, 0, none⟩) g3).trans g1)
      have r3 := cell_regrown ((hb.cell (p := ⟨w.heap.size + 1, 1, none⟩) g3).trans g2)
      clear g1 g2 p1 q1
      have c1 := CH.out ((f + (k : Nat)) % 64)
      have HMM := Lib.hid hm; clear hm
      cases hv : hasB g t ((f + (k : Nat)) % 64)
      · rw [hv] at c1
        have HV := Lib.hid hv; clear hv
        have C1 := Lib.hid c1; clear c1
        go_wp2_with fail
        refine wp_region_quiet_below (by kernel_rfl) (by kernel_rfl) ?_
        repeat (go_big_quiet_step (exact C1.out.re _ _ _))
        refine wpQuiet_nil ?_
        intro _ hw'
        obtain ⟨⟨dq, osq⟩, hw''⟩ := hw'
        subst hw''
        have lk := below_regrown wr dq osq
        go_wp2_with fail
        go_roundw
        case rel =>
          refine ⟨k + 1, by omega, by go_num, fun j hj => ?_, below_next hb lk⟩
          by_cases hjk : j = k
          · subst hjk; exact HV.out
          · exact HA.out j (by omega)
        case measure => simp [intOf]; omega
      · rw [hv] at c1
        have HV := Lib.hid hv; clear hv
        have C1 := Lib.hid c1; clear c1
        go_wp2_with fail
        refine wp_region_quiet_below (by kernel_rfl) (by kernel_rfl) ?_
        repeat (go_big_quiet_step (exact C1.out.re _ _ _))
        refine wpQuiet_nil ?_
        intro _ hw'
        obtain ⟨⟨dq, osq⟩, hw''⟩ := hw'
        subst hw''
        have lk := below_regrown wr dq osq
        go_wp2_with fail
        go_ret
        refine ⟨ret_bool ?_, below_next hW (below_next hb lk)⟩
        symm
        have hp := has_place HMM.out
        unfold ovB
        rw [List.any_eq_true]
        refine ⟨((f + (k : Nat)) % 64).toNat, by simp; omega, ?_⟩
        rw [show (((f + (k : Nat)) % 64).toNat : Int) = (f + (k : Nat)) % 64 by omega, HMM.out, HV.out]; rfl
    · obtain rfl : k = n := by omega
      clear g1 g2
      go_wp2_with fail
      go_ret
      refine ⟨ret_bool ?_, below_next hW hb⟩
      symm
      rw [← Bool.not_eq_true]
      intro h
      unfold ovB at h
      rw [List.any_eq_true] at h
      obtain ⟨p, hp, hv⟩ := h
      rw [Bool.and_eq_true] at hv
      obtain ⟨j, hj, e⟩ := HE.out _ hv.1
      have := HA.out j hj
      rw [← e, hv.2] at this
      cases this

end Go.Proofs.Ytjgmgcniemncjaa
