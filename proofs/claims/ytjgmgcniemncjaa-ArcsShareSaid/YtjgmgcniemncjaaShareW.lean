/- ArcsShare: the walk. -/
import Derived.Test.YtjgmgcniemncjaaShare
import Derived.Test.YtjgmgcniemncjaaAlive
namespace Go.Proofs.Ytjgmgcniemncjaa
open Go.RowKit Go.Sort
set_option linter.unusedVariables false

theorem bool_eq {a b : Bool} (h : a = b) : Value.bool a = Value.bool b := by rw [h]

set_option maxHeartbeats 2000000 in
theorem share_walk (f s g t : Int) (n : Nat) (hn : n ≤ 64) (hc : cnt (hasB f s) 64 = n) (hl : (places f s).length = n) (r : Bool) (hr : rightB f s = r) (hw : r = true ∧ s = n ∨ r = false ∧ n = 0) (w : World) :
    Calls Try.prog 9 #[.agg #[.int .i64 f, .int .i64 s], .agg #[.int .i64 g, .int .i64 t]] w (LawOk w) := by
  have c1 := right_any f s; rw [hr] at c1
  have C1 := Lib.hid c1; clear c1 hr
  have HC := Lib.hid hc; clear hc
  have HL := Lib.hid hl; clear hl
  have HF := Lib.hid has_any
  have HS := Lib.hid (both_succ f s g t)
  have HB := Lib.hid (show both f s g t 64 = ovB f s g t from rfl)
  have O1 := Lib.hid (overlap_any f s g t)
  have o2 := overlap_any g t f s; rw [both_comm] at o2
  have O2 := Lib.hid o2; clear o2
  have PL := Lib.hid (places_any f s)
  have HW := Lib.hid hw; clear hw
  go_enter Try.func9, Try.ntmps9
  go_wp2_with fail
  have m1 := (((Holds.nil w).new2 (.int .i64 f) (.int .i64 s) 23).new2 (.int .i64 g) (.int .i64 t) 23)
  have hW : Below w.heap.size w ((w.alloc (.cells #[.int .i64 f, .int .i64 s] 23)).alloc (.cells #[.int .i64 g, .int .i64 t] 23)) := below_alloc (below_alloc (Below.refl _ _) _) _
  obtain ⟨g1, g2, g3⟩ := m1.two
  obtain ⟨g4, g5, g6⟩ := m1.tail.tail.two
  clear m1
  simp only [World.size_alloc] at g1 g2 g3 g4 g5 g6
  have hA1 : w.heap.size + 1 < ((w.alloc (.cells #[.int .i64 f, .int .i64 s] 23)).alloc (.cells #[.int .i64 g, .int .i64 t] 23)).heap.size := by simp
  generalize (w.alloc (.cells #[.int .i64 f, .int .i64 s] 23)).alloc (.cells #[.int .i64 g, .int .i64 t] 23) = W at *
  have hA0 : w.heap.size < W.heap.size := by omega
  clear g3 g6
  go_loopw [5, 6, 7] (fun n b i wr => ∃ k : Nat, k ≤ 64 ∧ i = .int .i64 k ∧ n = .int .i64 (cnt (hasB f s) k : Nat) ∧ b = .bool (both f s g t k) ∧ Below W.heap.size W wr) (fun _ _ i _ => 64 - (intOf i).toNat)
  case atStart => exact ⟨0, Nat.zero_le _, rfl, rfl, rfl, Below.refl _ _⟩
  case round =>
    obtain ⟨k, hk, rfl, rfl, rfl, hb⟩ := hrel
    have r1 := (hb.cell (p := ⟨w.heap.size + 1, 0, none⟩) hA1).trans g1
    have r2 := (hb.cell (p := ⟨w.heap.size + 1, 1, none⟩) hA1).trans g2
    have r4 := (hb.cell (p := ⟨w.heap.size, 0, none⟩) hA0).trans g4
    have r5 := (hb.cell (p := ⟨w.heap.size, 1, none⟩) hA0).trans g5
    by_cases hlt : k < 64
    · have hcb := cnt_le (hasB f s) k
      have HN := Lib.hid (show cnt (hasB f s) (k + 1) = cnt (hasB f s) k + (if hasB f s k then 1 else 0) from rfl)
      have hS := Lib.hid (HS.out k)
      generalize both f s g t k = bk at *
      generalize cnt (hasB f s) k = nk at *
      have c1 := has_any f s k
      have c2 := has_any g t k
      generalize hasB f s k = x at *
      generalize hasB g t k = y at *
      have X1 := Lib.hid c1; have X2 := Lib.hid c2; clear c1 c2
      cases bk <;> cases x
      all_goals
        go_wp2_with fail
        refine (X1.out _).mono ?_
        rintro e w3 ⟨rfl, l3⟩
        have q1 := (l3.cell (p := ⟨w.heap.size + 1, 0, none⟩) (Nat.lt_of_lt_of_le hA1 hb.size)).trans r1
        have q2 := (l3.cell (p := ⟨w.heap.size + 1, 1, none⟩) (Nat.lt_of_lt_of_le hA1 hb.size)).trans r2
        have b3 := below_next hb l3
        clear r1 r2 r4 r5 g1 g2 g4 g5 l3 hb
        go_wp2_with fail
        refine (X2.out _).mono ?_
        rintro e w4 ⟨rfl, l4⟩
        have b4 := below_next b3 l4
        clear q1 q2 l4 b3
        go_wp2_with fail
        go_roundw
        case rel => exact ⟨k + 1, by omega, by go_num, by rw [HN.out]; simp, bool_eq (by rw [hS.out]; simp), b4⟩
        case measure => simp [intOf]; omega
    · obtain rfl : k = 64 := by omega
      rw [HC.out, HB.out]
      generalize ovB f s g t = ov at *
      clear HB HC HS
      rcases HW.out with ⟨rfl, rfl⟩ | ⟨rfl, rfl⟩
      all_goals
        go_wp2_with fail
        refine (C1.out _).mono ?_
        rintro e w3 ⟨rfl, l3⟩
        have q1 := (l3.cell (p := ⟨w.heap.size + 1, 0, none⟩) (Nat.lt_of_lt_of_le hA1 hb.size)).trans r1
        have q2 := (l3.cell (p := ⟨w.heap.size + 1, 1, none⟩) (Nat.lt_of_lt_of_le hA1 hb.size)).trans r2
        have q4 := (l3.cell (p := ⟨w.heap.size, 0, none⟩) (Nat.lt_of_lt_of_le hA0 hb.size)).trans r4
        have q5 := (l3.cell (p := ⟨w.heap.size, 1, none⟩) (Nat.lt_of_lt_of_le hA0 hb.size)).trans r5
        have b3 := below_next hb l3
        clear r1 r2 r4 r5 g1 g2 g4 g5 l3 hb
        go_wp2_with fail
        refine (alive_any _).mono ?_
        rintro e w4 ⟨rfl, l4⟩
        have r1 := (l4.cell (p := ⟨w.heap.size + 1, 0, none⟩) (Nat.lt_of_lt_of_le hA1 b3.size)).trans q1
        have r2 := (l4.cell (p := ⟨w.heap.size + 1, 1, none⟩) (Nat.lt_of_lt_of_le hA1 b3.size)).trans q2
        have r4 := (l4.cell (p := ⟨w.heap.size, 0, none⟩) (Nat.lt_of_lt_of_le hA0 b3.size)).trans q4
        have r5 := (l4.cell (p := ⟨w.heap.size, 1, none⟩) (Nat.lt_of_lt_of_le hA0 b3.size)).trans q5
        have b4 := below_next b3 l4
        clear q1 q2 q4 q5 l4 b3
        go_wp2_with fail
        refine (PL.out _).mono ?_
        rintro e w5 ⟨v, rfl, hown, l5⟩
        rw [HL.out] at hown
        obtain ⟨ao, cap, rfl⟩ := own_form hown
        clear hown
        have q1 := (l5.cell (p := ⟨w.heap.size + 1, 0, none⟩) (Nat.lt_of_lt_of_le hA1 b4.size)).trans r1
        have q2 := (l5.cell (p := ⟨w.heap.size + 1, 1, none⟩) (Nat.lt_of_lt_of_le hA1 b4.size)).trans r2
        have q4 := (l5.cell (p := ⟨w.heap.size, 0, none⟩) (Nat.lt_of_lt_of_le hA0 b4.size)).trans r4
        have q5 := (l5.cell (p := ⟨w.heap.size, 1, none⟩) (Nat.lt_of_lt_of_le hA0 b4.size)).trans r5
        have b5 := below_next b4 l5
        clear r1 r2 r4 r5 l5 b4
        go_wp2_with fail
        refine (O1.out _).mono ?_
        rintro e w6 ⟨rfl, l6⟩
        have r1 := (l6.cell (p := ⟨w.heap.size + 1, 0, none⟩) (Nat.lt_of_lt_of_le hA1 b5.size)).trans q1
        have r2 := (l6.cell (p := ⟨w.heap.size + 1, 1, none⟩) (Nat.lt_of_lt_of_le hA1 b5.size)).trans q2
        have r4 := (l6.cell (p := ⟨w.heap.size, 0, none⟩) (Nat.lt_of_lt_of_le hA0 b5.size)).trans q4
        have r5 := (l6.cell (p := ⟨w.heap.size, 1, none⟩) (Nat.lt_of_lt_of_le hA0 b5.size)).trans q5
        have b6 := below_next b5 l6
        clear q1 q2 q4 q5 l6 b5
        go_wp2_with fail
        refine (O2.out _).mono ?_
        rintro e w7 ⟨rfl, l7⟩
        have b7 := below_next b6 l7
        clear r1 r2 r4 r5 l7 b6
        go_wp2_with fail
        go_ret
        exact ⟨by simp, hW.trans (b7.mono hW.size)⟩

theorem arcsShare_law (f : Int) (wf : (Lit.int .i64 f).wf = true) (s : Int) (ws : (Lit.int .i64 s).wf = true) (g : Int) (wg : (Lit.int .i64 g).wf = true) (t : Int) (wt : (Lit.int .i64 t).wf = true) (w : World) :
    Calls Try.prog 9 #[.agg #[.int .i64 f, .int .i64 s], .agg #[.int .i64 g, .int .i64 t]] w (LawOk w) := by
  cases hr : rightB f s
  · exact share_walk f s g t 0 (by omega) (cnt_none (fun _ => has_no hr) 64) (by rw [places_length, hr]; rfl) false hr (.inr ⟨rfl, rfl⟩) w
  · have h := right_spec.1 hr
    have hc := cnt_all hr
    exact share_walk f s g t s.toNat (by omega) (by omega) (by rw [places_length, hr]; rfl) true hr (.inl ⟨rfl, by omega⟩) w

end Go.Proofs.Ytjgmgcniemncjaa
