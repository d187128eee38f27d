/- heapSort. -/
import Derived.Test.YthanjfnpohhebaaSift
import Derived.Sort.WalkB3
namespace Go.Proofs.Ythanjfnpohhebaa
open Go.RowKit Go.Sort
set_option linter.unusedVariables false

theorem size_siftDown (hi F : Nat) : ∀ (k r : Nat) (d : Array Nat), hi - r ≤ k → (siftDown ltN hi F r d).size = d.size := by
  intro k
  induction k with
  | zero =>
    intro r d h
    rw [siftDown, dif_pos (by omega)]
  | succ k ih =>
    intro r d h
    rw [siftDown]
    split
    · rfl
    · split
      · split
        · rfl
        · split
          · rw [ih _ _ (by omega), size_swp]
          · rfl
      · split
        · rfl
        · rw [ih _ _ (by omega), size_swp]

set_option maxRecDepth 100000 in
set_option maxHeartbeats 4000000 in
theorem heap_any (w0 w : World) (blk off cap n a b : Nat) (d : Array Nat) (hd : d.size = n) (h : Rw w0 w blk off d) (hab : a ≤ b) (hbn : b ≤ n) (hn : n < 4611686018427387904) :
    Calls Try.prog 45 #[.slice (some ⟨blk, off, none⟩) n cap, .int .i64 (a : Int), .int .i64 (b : Int)] w (RwEnd w0 blk off (heapSort ltN d a b)) := by
  have H := Lib.hid h; have HD := Lib.hid hd
  have he : (b : Int) - (a : Int) = ((b - a : Nat) : Int) := by omega
  have HE := Lib.hid he
  have hq : ((b : Int) - (a : Int) - 1).tdiv 2 = (((b - a - 1) / 2 : Nat) : Int) := by
    rcases Nat.eq_zero_or_pos (b - a) with hz | hp
    · rw [he, hz]; rfl
    · rw [he, show ((b - a : Nat) : Int) - 1 = ((b - a - 1 : Nat) : Int) by omega]; rfl
  have HQ := Lib.hid hq
  clear h hd hq he
  unfold heapSort
  go_enter Try.func45, Try.ntmps45
  go_wp2_with fail
  rw [HQ.out, HE.out]
  have hb : a + (b - a) ≤ n := by omega
  clear HQ HE
  generalize b - a = hi at *
  obtain ⟨K0, hK0⟩ : ∃ K, K = (hi - 1) / 2 := ⟨_, rfl⟩
  rw [← hK0]
  have hK1 : K0 + 1 ≤ hi + 1 := by omega
  have hK2 : K0 ≤ hi := by omega
  have HK := Lib.hid hK0
  clear hK0
  go_loopw [9] (fun vi wr => ∃ (k : Nat) (dk : Array Nat), vi = .int .i64 ((k : Int) - 1) ∧ k ≤ K0 + 1 ∧ dk.size = n ∧ Rw w0 wr blk off dk ∧ heapBuild ltN hi a k dk = heapBuild ltN hi a (K0 + 1) d) (fun vi _ => (intOf vi + 1).toNat)
  case atStart => exact ⟨K0 + 1, d, by congr 1; omega, Nat.le_refl _, HD.out, H.out, rfl⟩
  case round =>
    obtain ⟨k, dk, rfl, hk, hsk, hrk, hO⟩ := hrel
    have HO := Lib.hid hO; have HR := Lib.hid hrk; have HSK := Lib.hid hsk
    clear hO hrk H hsk
    rcases Nat.eq_zero_or_pos k with rfl | hp
    · have HZ := Lib.hid (show dk = heapBuild ltN hi a (K0 + 1) d by rw [← HO.out, heapBuild])
      rw [show ((0 : Nat) : Int) - 1 = -1 from rfl]
      go_wp2_with fail
      go_loopw [10] (fun vi wq => ∃ (j : Nat) (dj : Array Nat), vi = .int .i64 ((j : Int) - 1) ∧ j ≤ hi ∧ dj.size = n ∧ Rw w0 wq blk off dj ∧ heapPop ltN a j dj = heapPop ltN a hi dk) (fun vi _ => (intOf vi + 1).toNat)
      case atStart => exact ⟨hi, dk, by first | rfl | (congr 1; omega), Nat.le_refl _, HSK.out, HR.out, rfl⟩
      case round =>
        obtain ⟨j, dj, rfl, hj, hsj, hrj, hP⟩ := hrel
        have HP := Lib.hid hP; have HJ := Lib.hid hrj; have HSJ := Lib.hid hsj
        obtain ⟨G, hG, hcw, hfw⟩ := hrj.fam hsj
        have HG := Lib.hid hG
        clear hP hrj hsj hG
        rcases Nat.eq_zero_or_pos j with rfl | hjp
        · go_wp2_with fail
          go_end0
          refine ⟨rfl, ?_⟩
          rw [← HK.out, ← HZ.out, ← HP.out, heapPop]
          exact HJ.out
        · obtain ⟨j, rfl⟩ : ∃ i, j = i + 1 := ⟨j - 1, by omega⟩
          have e1 : ((j + 1 : Nat) : Int) - 1 = (j : Int) := by omega
          rw [e1]
          clear e1 hjp
          have NEXT : Hid (∀ wz, Rw w0 wz blk off (siftDown ltN j a 0 (swp dj a (a + j))) → ∃ (j' : Nat) (dj' : Array Nat), Value.int .i64 ((j : Int) - 1) = .int .i64 ((j' : Int) - 1) ∧ j' ≤ hi ∧ dj'.size = n ∧ Rw w0 wz blk off dj' ∧ heapPop ltN a j' dj' = heapPop ltN a hi dk) := Lib.hid (fun wz hz =>
            ⟨j, siftDown ltN j a 0 (swp dj a (a + j)), rfl, by omega, by rw [size_siftDown _ _ _ _ _ (Nat.le_refl _), size_swp]; exact HSJ.out, hz, by rw [← HP.out, heapPop]⟩)
          have SW := Lib.hid (HJ.out.swap 1 a (a + j) (by rw [HSJ.out]; omega) (by rw [HSJ.out]; omega))
          have SZ := Lib.hid (show (swp dj a (a + j)).size = n by rw [size_swp]; exact HSJ.out)
          by_cases hj0 : j = 0
          · subst hj0
            go_wp2_with fail
            go_region
            all_goals go_wp2_with fail
            refine (sift_any w0 _ blk off cap n 0 0 a (swp dj a (a + 0)) SZ.out ?_ (by omega) (by omega) hn).mono ?_
            · have := SW.out; rw [← HG.out, ← HG.out] at this; exact this
            · rintro e w2 ⟨rfl, r2⟩
              have HR2 := Lib.hid r2; clear r2 HR
              go_wp2_with fail
              go_roundw
              case rel => exact NEXT.out _ HR2.out
              case measure => simp [intOf]
          · have hj1 : 0 < j := by omega
            go_wp2_with fail
            go_region
            all_goals go_wp2_with fail
            refine (sift_any w0 _ blk off cap n 0 j a (swp dj a (a + j)) SZ.out ?_ (by omega) (by omega) hn).mono ?_
            · have := SW.out; rw [← HG.out, ← HG.out] at this; exact this
            · rintro e w2 ⟨rfl, r2⟩
              have HR2 := Lib.hid r2; clear r2 HR
              go_wp2_with fail
              go_roundw
              case rel => exact NEXT.out _ HR2.out
              case measure => simp [intOf]
    · obtain ⟨k, rfl⟩ : ∃ i, k = i + 1 := ⟨k - 1, by omega⟩
      have e1 : ((k + 1 : Nat) : Int) - 1 = (k : Int) := by omega
      rw [e1]
      clear e1 hp
      have NEXT : Hid (∀ wz, Rw w0 wz blk off (siftDown ltN hi a k dk) → ∃ (k' : Nat) (dk' : Array Nat), Value.int .i64 ((k : Int) - 1) = .int .i64 ((k' : Int) - 1) ∧ k' ≤ K0 + 1 ∧ dk'.size = n ∧ Rw w0 wz blk off dk' ∧ heapBuild ltN hi a k' dk' = heapBuild ltN hi a (K0 + 1) d) := Lib.hid (fun wz hz =>
        ⟨k, siftDown ltN hi a k dk, rfl, by omega, by rw [size_siftDown _ _ _ _ _ (Nat.le_refl _)]; exact HSK.out, hz, by rw [← HO.out, heapBuild]⟩)
      go_wp2_with fail
      refine (sift_any w0 wr blk off cap n k hi a dk HSK.out HR.out (by omega) hb hn).mono ?_
      rintro e w2 ⟨rfl, r2⟩
      have HR2 := Lib.hid r2; clear r2 HR
      go_wp2_with fail
      go_roundw
      case rel => exact NEXT.out _ HR2.out
      case measure => simp [intOf]
end Go.Proofs.Ythanjfnpohhebaa
