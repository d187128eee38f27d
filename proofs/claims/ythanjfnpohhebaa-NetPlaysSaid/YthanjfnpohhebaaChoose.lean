/- choosePivot. -/
import Derived.Test.YthanjfnpohhebaaPiv
namespace Go.Proofs.Ythanjfnpohhebaa
open Go.RowKit Go.Sort
set_option linter.unusedVariables false

def hintN : Hint → Int
  | .unknown => 0
  | .increasing => 1
  | .decreasing => 2
theorem Pv.start {w0 w : World} {blk off : Nat} {d : Array Nat} (h : Rw w0 w blk off d) (w1 : World) (he : w1 = w.alloc (.cells #[.int .i64 0] 3)) : Pv w1 w1 blk off d w.heap.size 0 := by
  subst he
  have h1 := h.below (below_alloc (Below.refl _ _) (.cells #[.int .i64 0] 3))
  exact ⟨Keep.refl _ _, h1.row, by rw [World.cell?_alloc_at _ _ _ _ rfl]; rfl, World.frozen?_alloc_at _ _ _ _ rfl, by have := h.lt; omega⟩
theorem Pv.fin {w0 w w1 w' : World} {blk off s : Nat} {d : Array Nat} (h : Rw w0 w blk off d) (he : w1 = w.alloc (.cells #[.int .i64 0] 3)) (k : Pv w1 w' blk off d w.heap.size s) : Below w.heap.size w w' ∧ Rw w0 w' blk off d := by
  subst he
  have hb : Below w.heap.size w w' := (below_alloc (Below.refl _ _) (.cells #[.int .i64 0] 3)).trans (k.keep.below (by simp) (by simp))
  exact ⟨hb, h.below hb⟩

theorem medadj_lt {d : Array Nat} {a s n : Nat} (ha : a + 1 < n) : (medianAdjacent ltN d a s).1 < n ∧ (medianAdjacent ltN d a s).2 ≤ s + 3 := median_lt (by omega) (by omega) ha
def hintOf (s : Nat) : Hint := if s = 0 then .increasing else if s = 12 then .decreasing else .unknown
set_option maxRecDepth 100000 in
set_option maxHeartbeats 4000000 in
theorem choose_any (w0 w : World) (blk off cap n a b : Nat) (d : Array Nat) (hd : d.size = n) (h : Rw w0 w blk off d) (hab : a + 13 ≤ b) (hbn : b ≤ n) (hn : n < 4611686018427387904) :
    Calls Try.prog 47 #[.slice (some ⟨blk, off, none⟩) n cap, .int .i64 (a : Int), .int .i64 (b : Int)] w
      (fun e w' => e = .returned (.tuple #[.int .i64 ((choosePivot ltN d a b).1 : Int), .int .i64 (hintN (choosePivot ltN d a b).2)]) ∧ Below w.heap.size w w' ∧ Rw w0 w' blk off d) := by
  obtain ⟨I, hI⟩ : ∃ q, q = a + (b - a) / 4 * 1 := ⟨_, rfl⟩
  obtain ⟨J, hJ⟩ : ∃ q, q = a + (b - a) / 4 * 2 := ⟨_, rfl⟩
  obtain ⟨K, hK⟩ : ∃ q, q = a + (b - a) / 4 * 3 := ⟨_, rfl⟩
  have bI : 0 < I ∧ I + 1 < n := by omega
  have bJ : 0 < J ∧ J + 1 < n := by omega
  have bK : 0 < K ∧ K + 1 < n := by omega
  have EI := Lib.hid (show (a : Int) + ((b : Int) - (a : Int)) / 4 = (I : Int) by omega)
  have EJ := Lib.hid (show (a : Int) + ((b : Int) - (a : Int)) / 4 * 2 = (J : Int) by omega)
  have EK := Lib.hid (show (a : Int) + ((b : Int) - (a : Int)) / 4 * 3 = (K : Int) by omega)
  have H := Lib.hid h
  obtain ⟨w1, hw1⟩ : ∃ w1, w1 = w.alloc (.cells #[.int .i64 0] 3) := ⟨_, rfl⟩
  have p0 := Pv.start h w1 hw1
  have HW := Lib.hid hw1
  by_cases h50 : 50 ≤ b - a
  · have h50' : (50 : Int) ≤ (b : Int) - (a : Int) := by omega
    have h8' : (8 : Int) ≤ (b : Int) - (a : Int) := by omega
    obtain ⟨⟨xi, si⟩, hri⟩ : ∃ r, r = medianAdjacent ltN d I 0 := ⟨_, rfl⟩
    obtain ⟨⟨xj, sj⟩, hrj⟩ : ∃ r, r = medianAdjacent ltN d J si := ⟨_, rfl⟩
    obtain ⟨⟨xk, sk⟩, hrk⟩ : ∃ r, r = medianAdjacent ltN d K sj := ⟨_, rfl⟩
    obtain ⟨⟨xm, sm⟩, hrm⟩ : ∃ r, r = median ltN d xi xj xk sk := ⟨_, rfl⟩
    have li := medadj_lt (d := d) (s := 0) bI.2
    rw [← hri] at li
    have lj := medadj_lt (d := d) (s := si) bJ.2
    rw [← hrj] at lj
    have lk := medadj_lt (d := d) (s := sj) bK.2
    rw [← hrk] at lk
    dsimp only at li lj lk
    have hm : choosePivot ltN d a b = (xm, hintOf sm) := by
      unfold choosePivot
      simp only [if_pos (show b - a ≥ 8 by omega), if_pos (show b - a ≥ 50 by omega), ← hI, ← hJ, ← hK, ← hri, ← hrj, ← hrk, ← hrm]
      rfl
    have C1 := medadj_any w1 w1 blk off cap n I w.heap.size 0 d hd p0 bI.1 bI.2 (by omega) hn
    have C2 := fun w' h' => medadj_any w1 w' blk off cap n J w.heap.size si d hd h' bJ.1 bJ.2 (by omega) hn
    have C3 := fun w' h' => medadj_any w1 w' blk off cap n K w.heap.size sj d hd h' bK.1 bK.2 (by omega) hn
    have C4 := fun w' h' => median_any w1 w' blk off cap n xi xj xk w.heap.size sk d hd h' li.1 lj.1 lk.1 (by omega) hn
    rw [← hri] at C1
    rw [← hrj] at C2
    rw [← hrk] at C3
    rw [← hrm] at C4
    have C1 := Lib.hid C1; have C2 := Lib.hid C2; have C3 := Lib.hid C3; have C4 := Lib.hid C4
    rw [hm]
    clear h hd p0 hri hrj hrk hrm hm li lj lk hI hJ hK bI bJ bK hw1
    go_enter Try.func47, Try.ntmps47
    go_wp2_with fail
    rw [EI.out, EJ.out, EK.out, ← HW.out]
    refine C1.out.mono ?_
    rintro e w2 ⟨rfl, p2⟩
    have P2 := Lib.hid p2; clear p2
    go_wp2_with fail
    refine (C2.out w2 P2.out).mono ?_
    rintro e w3 ⟨rfl, p3⟩
    have P3 := Lib.hid p3; clear p3
    go_wp2_with fail
    refine (C3.out w3 P3.out).mono ?_
    rintro e w4 ⟨rfl, p4⟩
    have P4 := Lib.hid p4; clear p4
    go_wp2_with fail
    refine (C4.out w4 P4.out).mono ?_
    rintro e w5 ⟨rfl, p5⟩
    have P5 := Lib.hid p5
    have c5 := p5.cell
    have FIN := Lib.hid (Pv.fin H.out HW.out p5)
    clear p5
    by_cases z0 : sm = 0
    · subst z0
      go_wp2_with fail
      go_ret2
      exact ⟨rfl, FIN.out⟩
    · by_cases z1 : sm = 12
      · subst z1
        go_wp2_with fail
        go_ret2
        exact ⟨rfl, FIN.out⟩
      · have e0 : ¬ (sm : Int) = 0 := by omega
        have e1 : ¬ (sm : Int) = 12 := by omega
        have HN := Lib.hid (show hintN (hintOf sm) = 0 by unfold hintOf; rw [if_neg z0, if_neg z1]; rfl)
        go_wp2_with fail
        go_ret2
        exact ⟨by rw [HN.out]; rfl, FIN.out⟩
  · have h50' : ¬ (50 : Int) ≤ (b : Int) - (a : Int) := by omega
    have h8' : (8 : Int) ≤ (b : Int) - (a : Int) := by omega
    obtain ⟨⟨xm, sm⟩, hrm⟩ : ∃ r, r = median ltN d I J K 0 := ⟨_, rfl⟩
    have hm : choosePivot ltN d a b = (xm, hintOf sm) := by
      unfold choosePivot
      simp only [if_pos (show b - a ≥ 8 by omega), if_neg (show ¬ b - a ≥ 50 by omega), ← hI, ← hJ, ← hK, ← hrm]
      rfl
    have C4 := median_any w1 w1 blk off cap n I J K w.heap.size 0 d hd p0 (by omega) (by omega) (by omega) (by omega) hn
    rw [← hrm] at C4
    have C4 := Lib.hid C4
    rw [hm]
    clear h hd p0 hrm hm hI hJ hK bI bJ bK hw1
    go_enter Try.func47, Try.ntmps47
    go_wp2_with fail
    rw [EI.out, EJ.out, EK.out, ← HW.out]
    refine C4.out.mono ?_
    rintro e w5 ⟨rfl, p5⟩
    have P5 := Lib.hid p5
    have c5 := p5.cell
    have FIN := Lib.hid (Pv.fin H.out HW.out p5)
    clear p5
    by_cases z0 : sm = 0
    · subst z0
      go_wp2_with fail
      go_ret2
      exact ⟨rfl, FIN.out⟩
    · by_cases z1 : sm = 12
      · subst z1
        go_wp2_with fail
        go_ret2
        exact ⟨rfl, FIN.out⟩
      · have e0 : ¬ (sm : Int) = 0 := by omega
        have e1 : ¬ (sm : Int) = 12 := by omega
        have HN := Lib.hid (show hintN (hintOf sm) = 0 by unfold hintOf; rw [if_neg z0, if_neg z1]; rfl)
        go_wp2_with fail
        go_ret2
        exact ⟨by rw [HN.out]; rfl, FIN.out⟩
end Go.Proofs.Ythanjfnpohhebaa
