/- Places: package arcs, and the document's answer. -/
import Derived.Test.YtikeiocgnjdhbaaSl
namespace Go.Proofs.Ytikeiocgnjdhbaa
open Go.RowKit Go.Sort
set_option linter.unusedVariables false

theorem own_base {w : World} {base base' : Nat} {e : TypeId} {size n : Nat} {v : Value} {xs : List Value} (h : w.ownsRow base e size v n xs) (hb : base' ≤ base) : w.ownsRow base' e size v n xs := by
  refine ⟨h.1, ?_⟩
  rcases h.2 with hn | ⟨g, cap, cur, e1, e2, rest⟩
  · exact .inl hn
  · exact .inr ⟨g, cap, cur, e1, Nat.le_trans hb e2, rest⟩

set_option maxHeartbeats 2000000 in
theorem places_no (f s : Int) (hr : rightB f s = false) (w : World) : Calls Try.prog 35 #[arc f s] w (MadeInts w (places f s)) := by
  have hp : places f s = [] := by simp [places, hr]
  rw [hp]
  have c1 := right_at f s
  rw [hr] at c1
  have C1 := Lib.hid c1; clear c1 hr hp
  go_enter Try.func35, Try.ntmps35
  go_wp2_with fail
  refine (C1.out _).mono ?_
  rintro e w1 ⟨rfl, rfl⟩
  go_wp2_with fail
  go_ret
  exact ⟨_, rfl, World.ownsRow_nil _ _ _ _, below_alloc (below_alloc (Below.refl _ _) _) _⟩

set_option maxHeartbeats 2000000 in
theorem rplaces_no (f s : Int) (hr : rightB f s = false) (w : World) : Calls Try.prog 38 #[arc f s] w (MadeInts w (places f s)) := by
  have hp : places f s = [] := by simp [places, hr]
  rw [hp]
  have c1 := rright_at f s
  rw [hr] at c1
  have C1 := Lib.hid c1; clear c1 hr hp
  go_enter Try.func38, Try.ntmps38
  go_wp2_with fail
  refine (C1.out _).mono ?_
  rintro e w1 ⟨rfl, rfl⟩
  go_wp2_with fail
  go_loop [3, 5] (fun v i => v = .slice none 0 0 ∧ i = .int .i64 0) (fun _ _ => 0)
  case atStart => exact ⟨rfl, rfl⟩
  case round =>
    obtain ⟨rfl, rfl⟩ := hrel
    go_wp2_with fail
    go_ret
    exact ⟨_, rfl, World.ownsRow_nil _ _ _ _, below_alloc (below_alloc (Below.refl _ _) _) _⟩

set_option maxHeartbeats 2000000 in
theorem places_in (f s : Int) (hr : rightB f s = true) (w : World) : Calls Try.prog 35 #[arc f s] w (MadeInts w (places f s)) := by
  have hr' := right_spec.1 hr
  have hp : places f s = pl f s.toNat := by simp [places, hr]
  rw [hp]
  obtain ⟨n, rfl⟩ : ∃ n : Nat, s = n := ⟨s.toNat, by omega⟩
  rw [Int.toNat_natCast]
  have hn : n ≤ 64 := by omega
  have c1 := right_at f n
  rw [hr] at c1
  have C1 := Lib.hid c1; clear c1 hr hp
  obtain ⟨i0, hi, hz0, hz1, hz2⟩ := info_parts int_info
  have HZ2 := Lib.hid hz2; clear hz2
  have hf0 := hr'.1
  have hf1 := hr'.2.1
  clear hr'
  go_enter Try.func35, Try.ntmps35
  go_wp2_with fail
  refine (C1.out _).mono ?_
  rintro e w1 ⟨rfl, rfl⟩
  unfold boxed
  have g1 : ((w.alloc (.cells #[.int .i64 f, .int .i64 n] 37)).alloc (.cells #[.int .i64 f, .int .i64 n] 37)).cell? ⟨w.heap.size, 0, none⟩ = some (.int .i64 f) := by go_simp
  have g2 : ((w.alloc (.cells #[.int .i64 f, .int .i64 n] 37)).alloc (.cells #[.int .i64 f, .int .i64 n] 37)).cell? ⟨w.heap.size, 1, none⟩ = some (.int .i64 n) := by go_simp
  have hW : Below w.heap.size w ((w.alloc (.cells #[.int .i64 f, .int .i64 n] 37)).alloc (.cells #[.int .i64 f, .int .i64 n] 37)) := below_alloc (below_alloc (Below.refl _ _) _) _
  have hA : w.heap.size < ((w.alloc (.cells #[.int .i64 f, .int .i64 n] 37)).alloc (.cells #[.int .i64 f, .int .i64 n] 37)).heap.size := by simp; omega
  generalize (w.alloc (.cells #[.int .i64 f, .int .i64 n] 37)).alloc (.cells #[.int .i64 f, .int .i64 n] 37) = W at *
  clear C1
  go_wp2_with (at_make; refine wpList_make_own _ rfl _ _ 66 rfl W.heap.size 3 i0 (.int .i64 0) 1 Try.underlying66 hi hz0 hz1 .i64 .i64 _ n rfl rfl (by omega) (by rw [HZ2.out]; omega) (by unfold maxLen; omega) (Nat.le_refl _) ?_; intro w2 hown2 hgrow2; have b2 := (Below.refl W.heap.size W).grown hgrow2 (Nat.le_refl _) (by intro k hk; cases hk); have e2 := (b2.cell (p := ⟨w.heap.size, 1, none⟩) hA).trans g2)
  have hG : W.heap.size < w2.heap.size := (hown2.lt W.heap.size (by simp [Value.ownBlock])).2
  clear hgrow2
  go_loopw [3, 13] (fun v i wr => ∃ k : Nat, k ≤ n ∧ i = .int .i64 k ∧ v = .slice (some ⟨W.heap.size, 0, none⟩) k n ∧ wr.ownsRow W.heap.size 3 1 (.slice (some ⟨W.heap.size, 0, none⟩) k n) k ((pl f k).map (Value.int .i64)) ∧ Below W.heap.size W wr) (fun _ i _ => n - (intOf i).toNat)
  case atStart => exact ⟨0, Nat.zero_le _, rfl, rfl, hown2, b2⟩
  case round =>
    obtain ⟨k, hk, rfl, rfl, hown, hb⟩ := hrel
    by_cases hlt : k < n
    · have HP := Lib.hid (pl_succ f k)
      have r1 := (hb.cell (p := ⟨w.heap.size, 0, none⟩) hA).trans g1
      have C2 := Lib.hid (further_any f k hf0 hf1 (by omega) (by omega))
      clear g1 g2 b2 hown2
      go_wp2_with fail
      refine (C2.out _).mono ?_
      rintro e w3 ⟨rfl, rfl⟩
      go_wp2_with (at_builtin; refine wpList_append_fits _ rfl (.tmp 16) (.tmp 21) 66 rfl W.heap.size 3 i0 1 Try.underlying66 hi hz1 W.heap.size k n _ rfl (hown.alloc _) ⟨wr.heap.size, 0, none⟩ 1 1 [.int .i64 ((f + k) % 64)] rfl rfl (cell_one_new _ _ _) (one_int _) (by omega) ?_; intro w4 hown4 hgrow4)
      have b4 : Below W.heap.size W w4 := (hb.alloc hb.size _).grown hgrow4 (by have := hb.size; simp; omega) (by intro g hg; simp at hg; omega)
      clear hown hb hgrow4 r1 C2
      go_wp2_with fail
      go_roundw
      case rel => exact ⟨k + 1, by omega, by go_num, by simp, by rw [HP.out, List.map_append]; exact hown4, b4⟩
      case measure => simp [intOf]; omega
    · obtain rfl : k = n := by omega
      go_wp2_with fail
      go_ret
      refine ⟨_, rfl, ?_, hW.trans (hb.mono hW.size)⟩
      rw [pl_length]
      exact own_base hown hW.size

set_option maxHeartbeats 2000000 in
theorem rplaces_in (f s : Int) (hr : rightB f s = true) (w : World) : Calls Try.prog 38 #[arc f s] w (MadeInts w (places f s)) := by
  have hr' := right_spec.1 hr
  have hp : places f s = pl f s.toNat := by simp [places, hr]
  rw [hp]
  obtain ⟨n, rfl⟩ : ∃ n : Nat, s = n := ⟨s.toNat, by omega⟩
  rw [Int.toNat_natCast]
  have hn : n ≤ 64 := by omega
  have c1 := rright_at f n
  rw [hr] at c1
  have C1 := Lib.hid c1; clear c1 hr hp
  obtain ⟨i0, hi, hz0, hz1, hz2⟩ := info_parts int_info
  have hf0 := hr'.1
  have hf1 := hr'.2.1
  clear hr'
  go_enter Try.func38, Try.ntmps38
  go_wp2_with fail
  refine (C1.out _).mono ?_
  rintro e w1 ⟨rfl, rfl⟩
  unfold boxed
  have g1 : ((w.alloc (.cells #[.int .i64 f, .int .i64 n] 37)).alloc (.cells #[.int .i64 f, .int .i64 n] 37)).cell? ⟨w.heap.size, 0, none⟩ = some (.int .i64 f) := by go_simp
  have g2 : ((w.alloc (.cells #[.int .i64 f, .int .i64 n] 37)).alloc (.cells #[.int .i64 f, .int .i64 n] 37)).cell? ⟨w.heap.size, 1, none⟩ = some (.int .i64 n) := by go_simp
  have hW : Below w.heap.size w ((w.alloc (.cells #[.int .i64 f, .int .i64 n] 37)).alloc (.cells #[.int .i64 f, .int .i64 n] 37)) := below_alloc (below_alloc (Below.refl _ _) _) _
  have hA : w.heap.size < ((w.alloc (.cells #[.int .i64 f, .int .i64 n] 37)).alloc (.cells #[.int .i64 f, .int .i64 n] 37)).heap.size := by simp; omega
  generalize (w.alloc (.cells #[.int .i64 f, .int .i64 n] 37)).alloc (.cells #[.int .i64 f, .int .i64 n] 37) = W at *
  clear C1
  go_wp2_with fail
  go_loopw [3, 5] (fun v i wr => ∃ k : Nat, k ≤ n ∧ i = .int .i64 k ∧ wr.ownsRow W.heap.size 3 1 v k ((pl f k).map (Value.int .i64)) ∧ Below W.heap.size W wr) (fun _ i _ => n - (intOf i).toNat)
  case atStart => exact ⟨0, Nat.zero_le _, rfl, World.ownsRow_nil _ _ _ _, Below.refl _ _⟩
  case round =>
    obtain ⟨k, hk, rfl, hown, hb⟩ := hrel
    have r1 := (hb.cell (p := ⟨w.heap.size, 0, none⟩) hA).trans g1
    have r2 := (hb.cell (p := ⟨w.heap.size, 1, none⟩) hA).trans g2
    clear g1 g2
    by_cases hlt : k < n
    · have HP := Lib.hid (pl_succ f k)
      go_wp2_with (at_builtin; refine wpList_append_own _ rfl (.tmp 17) (.tmp 23) 66 rfl W.heap.size 3 i0 (.int .i64 0) 1 8 Try.underlying66 hi hz0 hz1 hz2 rfl (by omega) _ k _ rfl (hown.alloc _) ⟨wr.heap.size, 0, none⟩ 1 1 [.int .i64 ((f + k) % 64)] rfl rfl (cell_one_new _ _ _) (one_int _) (by unfold maxLen; omega) (by omega) (by have := hb.size; simp; omega) ?_; intro v4 w4 hown4 hgrow4 _)
      have b4 : Below W.heap.size W w4 := (hb.alloc hb.size _).grown hgrow4 (by have := hb.size; simp; omega) (fun g hg => (hown.lt g hg).1)
      clear hown hb hgrow4 r1 r2
      go_wp2_with fail
      go_roundw
      case rel => exact ⟨k + 1, by omega, by go_num, by rw [HP.out, List.map_append]; exact hown4, b4⟩
      case measure => simp [intOf]; omega
    · obtain rfl : k = n := by omega
      go_wp2_with fail
      go_ret
      refine ⟨_, rfl, ?_, hW.trans (hb.mono hW.size)⟩
      rw [pl_length]
      exact own_base hown hW.size

theorem places_any (f s : Int) (w : World) : Calls Try.prog 35 #[arc f s] w (MadeInts w (places f s)) := by
  cases hr : rightB f s
  · exact places_no f s hr w
  · exact places_in f s hr w
theorem rplaces_any (f s : Int) (w : World) : Calls Try.prog 38 #[arc f s] w (MadeInts w (places f s)) := by
  cases hr : rightB f s
  · exact rplaces_no f s hr w
  · exact rplaces_in f s hr w

end Go.Proofs.Ytikeiocgnjdhbaa
