/- ArcsPlaces: the walk. -/
import Derived.Test.YtjgmgcniemncjaaSame
import Derived.Test.YtjgmgcniemncjaaAlive
namespace Go.Proofs.Ytjgmgcniemncjaa
open Go.RowKit Go.Sort
set_option linter.unusedVariables false

theorem own_keep {w w' : World} {base e size n : Nat} {v : Value} {xs : List Value} (h : w.ownsRow base e size v n xs) (b : Below w.heap.size w w') : w'.ownsRow base e size v n xs := by
  refine ⟨h.1, ?_⟩
  rcases h.2 with hn | ⟨g, cap, cur, h1, h2, h3, rest⟩
  · exact .inl hn
  · exact .inr ⟨g, cap, cur, h1, h2, (b.block g (Array.getElem?_eq_some_iff.1 h3).1).trans h3, rest⟩
theorem own_at {w : World} {base e n cap k : Nat} {ao : Option Addr} {xs : List Value} (h : w.ownsRow base e 1 (.slice ao n cap) n xs) (hk : k < n) :
    ∃ g x, ao = some ⟨g, 0, none⟩ ∧ base ≤ g ∧ w.cell? ⟨g, k, none⟩ = some x ∧ w.frozen? ⟨g, k, none⟩ = false := by
  have hl : xs.length = n := by simpa using h.1
  rcases h.2 with ⟨h1, h2⟩ | ⟨g, cap', cur, h1, h2, h3, h4⟩
  · omega
  · simp only [Value.slice.injEq, true_and] at h1
    obtain ⟨rfl, rfl⟩ := h1
    refine ⟨g, xs[k]'(by omega), rfl, h2, ?_, h.frozenAt k⟩
    rw [h.cellAt k (by omega), List.getElem?_eq_getElem (by omega)]
theorem keep2 {W w1 w2 : World} {A : Nat} {v0 v1 : Value} (hA : A < W.heap.size)
    (h : Below W.heap.size W w1 ∧ w1.cell? ⟨A, 0, none⟩ = some v0 ∧ w1.cell? ⟨A, 1, none⟩ = some v1) (k : Below w1.heap.size w1 w2) :
    Below W.heap.size W w2 ∧ w2.cell? ⟨A, 0, none⟩ = some v0 ∧ w2.cell? ⟨A, 1, none⟩ = some v1 := by
  obtain ⟨hb, h0, h1⟩ := h
  have hs := hb.size
  have hlt : A < w1.heap.size := by omega
  exact ⟨below_next hb k, (k.cell (p := ⟨A, 0, none⟩) hlt).trans h0, (k.cell (p := ⟨A, 1, none⟩) hlt).trans h1⟩

set_option maxHeartbeats 4000000 in
theorem arcsPlaces_law (f : Int) (wf : (Lit.int .i64 f).wf = true) (s : Int) (ws : (Lit.int .i64 s).wf = true) (g : Int) (wg : (Lit.int .i64 g).wf = true) (t : Int) (wt : (Lit.int .i64 t).wf = true) (p : Int) (wp : (Lit.int .i64 p).wf = true) (w : World) :
    Calls Try.prog 3 #[.agg #[.int .i64 f, .int .i64 s], .agg #[.int .i64 g, .int .i64 t], .int .i64 p] w (LawOk w) := by
  clear wf ws wg wt wp
  have C0 := Lib.hid alive_any
  have C1 := Lib.hid (right_any f s)
  have C2 := Lib.hid (rright_any f s)
  have C3 := Lib.hid (has_any f s p)
  have C4 := Lib.hid (rhas_any f s p)
  have C5 := Lib.hid (overlap_any f s g t)
  have C6 := Lib.hid (roverlap_any f s g t)
  have hnp := np_le f s
  go_enter Try.func3, Try.ntmps3
  go_wp2_with fail
  have m1 := (((Holds.nil w).new2 (.int .i64 f) (.int .i64 s) 23).new2 (.int .i64 g) (.int .i64 t) 23)
  have hW : Below w.heap.size w ((w.alloc (.cells #[.int .i64 f, .int .i64 s] 23)).alloc (.cells #[.int .i64 g, .int .i64 t] 23)) := below_alloc (below_alloc (Below.refl _ _) _) _
  obtain ⟨g1, g2, g3⟩ := m1.two
  obtain ⟨g4, g5, g6⟩ := m1.tail.tail.two
  clear m1
  simp only [World.size_alloc] at g1 g2 g3 g4 g5 g6
  have hA1 : w.heap.size + 1 < ((w.alloc (.cells #[.int .i64 f, .int .i64 s] 23)).alloc (.cells #[.int .i64 g, .int .i64 t] 23)).heap.size := by simp
  refine (places_any f s _).mono ?_
  generalize (w.alloc (.cells #[.int .i64 f, .int .i64 s] 23)).alloc (.cells #[.int .i64 g, .int .i64 t] 23) = W at *
  have hA0 : w.heap.size < W.heap.size := by omega
  clear g3 g6
  rintro e w1 ⟨v, rfl, hown, l1⟩
  obtain ⟨ao, cap, rfl, s1⟩ := made_places (base := 0) (w := w) hown
  have S1 := Lib.hid s1; clear s1
  have HO := Lib.hid hown; clear hown
  have r4 := (l1.cell (p := ⟨w.heap.size, 0, none⟩) hA0).trans g4
  have r5 := (l1.cell (p := ⟨w.heap.size, 1, none⟩) hA0).trans g5
  go_wp2_with fail
  refine (rplaces_any f s _).mono ?_
  rintro e w2 ⟨v, rfl, hown2, l2⟩
  obtain ⟨bo, cap2, rfl, s2⟩ := made_places (base := 0) (w := w) hown2
  have S2 := Lib.hid s2; clear s2 hown2 r4 r5
  go_wp2_with fail
  refine (same_any _ hnp _ _ _ _ _ _ (SlI.below S1.out l2) S2.out).mono ?_
  rintro e w3 ⟨rfl, l3⟩
  have b3 := below_next (below_next l1 l2) l3
  have o3 := own_keep HO.out (below_next l2 l3)
  clear S1 S2 HO l1 l2 l3
  change w3.ownsRow W.heap.size 3 1 (.slice ao (np f s) cap) (np f s) _ at o3
  have O3 := Lib.hid o3; clear o3
  have HNP := Lib.hid hnp
  generalize hn : np f s = n at *
  have HN := Lib.hid hn; clear hn
  go_wp2_with fail
  go_loopw [9] (fun i wr => ∃ k : Nat, k ≤ n ∧ i = .int .i64 k ∧ (∃ ys, wr.ownsRow W.heap.size 3 1 (.slice ao n cap) n ys) ∧ Below W.heap.size W wr) (fun i _ => n - (intOf i).toNat)
  case atStart => exact ⟨0, Nat.zero_le _, rfl, ⟨_, O3.out⟩, b3⟩
  case round =>
    clear b3 O3
    obtain ⟨k, hk, rfl, ⟨ys, ho⟩, hb⟩ := hrel
    by_cases hlt : k < n
    · obtain ⟨gg, x, rfl, p1, q1, z1⟩ := own_at ho hlt
      have HO := Lib.hid ho; clear ho
      clear g1 g2 g4 g5
      go_wp2_with fail
      go_roundw
      case rel => exact ⟨k + 1, by omega, by go_num, ⟨_, (HO.out.stored k _).1⟩, hb.setCell p1 _⟩
      case measure => simp [intOf]; omega
    · obtain rfl : k = n := by omega
      clear ho
      have q1 := (hb.cell (p := ⟨w.heap.size + 1, 0, none⟩) hA1).trans g1
      have q2 := (hb.cell (p := ⟨w.heap.size + 1, 1, none⟩) hA1).trans g2
      have q4 := (hb.cell (p := ⟨w.heap.size, 0, none⟩) hA0).trans g4
      have q5 := (hb.cell (p := ⟨w.heap.size, 1, none⟩) hA0).trans g5
      have hz := hb.size
      have hA1' : w.heap.size + 1 < wr.heap.size := by omega
      have hA0' : w.heap.size < wr.heap.size := by omega
      have Q1 := Lib.hid q1; have Q2 := Lib.hid q2
      have Q4 := Lib.hid q4; have Q5 := Lib.hid q5
      clear g1 g2 g4 g5 hz q1 q2 hnp q4 q5
      go_wp2_with fail
      have hS' : Below wr.heap.size wr wr ∧ wr.cell? ⟨w.heap.size, 0, none⟩ = some (.int .i64 f) ∧ wr.cell? ⟨w.heap.size, 1, none⟩ = some (.int .i64 s) := ⟨Below.refl _ _, Q4.out, Q5.out⟩
      go_region_held3 (fun w' => Below wr.heap.size wr w' ∧ w'.cell? ⟨w.heap.size, 0, none⟩ = some (.int .i64 f) ∧ w'.cell? ⟨w.heap.size, 1, none⟩ = some (.int .i64 s)) (first | assumption | exact keep2 hA0' (by assumption) (by assumption) | exact keep2 hA0' (by assumption) ((Below.refl _ _).drew)) (first
        | (go_at_call 10; refine (places_any f s _).mono ?_; rintro e w3' ⟨v, rfl, hown3, lk3⟩; obtain ⟨a3, c3, rfl, s3⟩ := made_places (base := 0) (w := w) hown3; have S3 := Lib.hid s3; clear s3 hown3)
        | (go_at_call 12; refine (rplaces_any f s _).mono ?_; rintro e w4' ⟨v, rfl, hown4, lk4⟩; obtain ⟨a4, c4, rfl, s4⟩ := made_places (base := 0) (w := w) hown4; have S4 := Lib.hid s4; clear s4 hown4)
        | (go_at_call 11; refine (same_any _ (np_le f s) _ _ _ _ _ _ (SlI.below S3.out lk4) S4.out).mono ?_; rintro e w5' ⟨rfl, lk5⟩))
      rename_i hf
      obtain ⟨b5, q4, q5⟩ := hf
      have q1 := (b5.cell (p := ⟨w.heap.size + 1, 0, none⟩) hA1').trans Q1.out
      have q2 := (b5.cell (p := ⟨w.heap.size + 1, 1, none⟩) hA1').trans Q2.out
      clear S3 S4 lk3 lk4 lk5 hS'
      go_wp2_with fail
      have r1 := cell_regrown q1
      have r2 := cell_regrown q2
      have r4 := cell_regrown q4
      have r5 := cell_regrown q5
      clear q1 q2 q4 q5
      generalize hasB f s p = y1 at *
      generalize ovB f s g t = y2 at *
      generalize rightB f s = y3 at *
      refine wp_region_quiet_below (by kernel_rfl) (by kernel_rfl) ?_
      repeat (go_big_quiet_step (first
        | (go_at_call 13; exact C0.out.re _ _ _)
        | (go_at_call 14; exact C1.out.re _ _ _)
        | (go_at_call 15; exact C2.out.re _ _ _)
        | (go_at_call 16; exact C3.out.re _ _ _)
        | (go_at_call 17; exact C4.out.re _ _ _)
        | (go_at_call 18; exact C5.out.re _ _ _)
        | (go_at_call 19; exact C6.out.re _ _ _)))
      refine wpQuiet_nil ?_
      intro _ hw'
      obtain ⟨⟨dq, osq⟩, hw''⟩ := hw'
      subst hw''
      have lk := below_regrown w5' dq osq
      go_wp2_with fail
      go_ret
      exact ⟨by simp, hW.trans ((below_next hb (below_next b5 lk)).mono hW.size)⟩

end Go.Proofs.Ytjgmgcniemncjaa
