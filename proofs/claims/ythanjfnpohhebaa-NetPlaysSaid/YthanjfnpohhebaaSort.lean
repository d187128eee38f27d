/- slices.Sort at []uint64. -/
import Derived.Test.YthanjfnpohhebaaPdq
namespace Go.Proofs.Ythanjfnpohhebaa
open Go.RowKit Go.Sort
set_option linter.unusedVariables false

set_option maxRecDepth 100000 in
set_option maxHeartbeats 4000000 in
theorem sort_any (w0 w : World) (blk off cap n : Nat) (d : Array Nat) (hd : d.size = n) (h : Rw w0 w blk off d) (hn : n < 4611686018427387904) :
    Calls Try.prog 41 #[.slice (some ⟨blk, off, none⟩) n cap] w (RwEnd w0 blk off (Sort.sort ltN d)) := by
  have LN := Lib.hid (len_any n hn)
  have hk : bitsLen n ≤ 62 := (bitsLen_le_iff n 62).2 (by omega)
  have PD := pdq_any (n + 1) w0 w blk off cap n 0 n (bitsLen n) d (by omega) hd h (Nat.zero_le _) (Nat.le_refl _) hn (by omega) (Or.inl rfl)
  have HS := Lib.hid (show Sort.sort ltN d = pdq ltN d 0 n (bitsLen n) true true by unfold Sort.sort; rw [hd])
  rw [show ((0 : Nat) : Int) = 0 from rfl] at PD
  replace PD := Lib.hid PD
  rw [HS.out]
  clear h hd
  generalize bitsLen n = L at *
  go_enter Try.func41, Try.ntmps41
  go_wp2_with fail
  refine (LN.out w).mono ?_
  rintro e w1 ⟨rfl, rfl⟩
  go_wp2_with fail
  refine PD.out.mono ?_
  rintro e w2 ⟨rfl, r⟩
  have R := Lib.hid r; clear r
  go_wp2_with fail
  go_end0
  exact ⟨rfl, R.out⟩
theorem ins_nil (w : World) : Calls Try.prog 44 #[.slice none 0 0, .int .i64 0, .int .i64 0] w fun e w' => e = .returned (.tuple #[]) ∧ w' = w := by
  go_enter Try.func44, Try.ntmps44
  go_wp2_with fail
  go_loopw [6] (fun vi wr => vi = .int .i64 1 ∧ wr = w) (fun vi _ => 0)
  case atStart => exact ⟨rfl, rfl⟩
  case round =>
    obtain ⟨rfl, rfl⟩ := hrel
    go_wp2_with fail
    go_end0
    exact ⟨rfl, rfl⟩
theorem pdq_nil (w : World) : Calls Try.prog 42 #[.slice none 0 0, .int .i64 0, .int .i64 0, .int .i64 0] w fun e w' => e = .returned (.tuple #[]) ∧ w' = w := by
  have I := Lib.hid (ins_nil w)
  go_enter Try.func42, Try.ntmps42
  go_wp2_with fail
  go_loopw [1, 2, 3, 8, 9] (fun s1 s2 s3 s8 s9 wr => s1 = .int .i64 0 ∧ s2 = .int .i64 0 ∧ s3 = .int .i64 0 ∧ s8 = .bool true ∧ s9 = .bool true ∧ wr = w) (fun s1 s2 s3 s8 s9 _ => 0)
  case atStart => exact ⟨rfl, rfl, rfl, rfl, rfl, rfl⟩
  case round =>
    obtain ⟨rfl, rfl, rfl, rfl, rfl, rfl⟩ := hrel
    go_wp2_with fail
    refine I.out.mono ?_
    rintro e w1 ⟨rfl, rfl⟩
    go_wp2_with fail
    exact bodyPost_ret (results_none rfl _ _ _) rfl ⟨rfl, rfl⟩
theorem sort_nil (w : World) : Calls Try.prog 41 #[.slice none 0 0] w fun e w' => e = .returned (.tuple #[]) ∧ w' = w := by
  have LN := Lib.hid (len_any 0 (by decide))
  have I := Lib.hid (pdq_nil w)
  go_enter Try.func41, Try.ntmps41
  go_wp2_with fail
  refine (LN.out w).mono ?_
  rintro e w1 ⟨rfl, rfl⟩
  go_wp2_with fail
  refine I.out.mono ?_
  rintro e w2 ⟨rfl, rfl⟩
  go_wp2_with fail
  go_end0
  exact ⟨rfl, rfl⟩
/-- what Sort leaves: the row in ascending order -/
theorem sort_list (d : Array Nat) : (Sort.sort ltN d).toList = d.toList.mergeSort (fun x y => !ltN y x) ∧ (Sort.sort ltN d).size = d.size := by
  obtain ⟨hP, hSo⟩ := sort_sorts ltN swo_ltN d
  have h := sorted_unique_holds swo_ltN (fun x y h1 h2 => by simp only [ltN, decide_eq_false_iff_not] at h1 h2; omega) d _ hP hSo
  refine ⟨?_, hP.1⟩
  rw [h]
end Go.Proofs.Ythanjfnpohhebaa
