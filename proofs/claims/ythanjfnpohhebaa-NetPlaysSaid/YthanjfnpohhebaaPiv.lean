/- order2, median, medianAdjacent. -/
import Derived.Test.YthanjfnpohhebaaHeap
namespace Go.Proofs.Ythanjfnpohhebaa
open Go.RowKit Go.Sort
set_option linter.unusedVariables false

/-- the row d and the count s lie, nothing else has turned since w1 -/
structure Pv (w1 w : World) (blk off : Nat) (d : Array Nat) (sb s : Nat) : Prop where
  keep : Keep [sb] w1 w
  row : ∃ row, w.heap[blk]? = some (.cells row 30 (0, 0)) ∧ ∀ j, j < d.size → row[off + j]? = some (u64v d[j]!)
  cell : w.cell? ⟨sb, 0, none⟩ = some (.int .i64 (s : Int))
  fr : w.frozen? ⟨sb, 0, none⟩ = false
  ne : sb ≠ blk
section
variable {w1 w w' : World} {blk off sb s : Nat} {d : Array Nat}
theorem Pv.rw (h : Pv w1 w blk off d sb s) : Rw w w blk off d := ⟨Keep.refl _ _, h.row⟩
theorem Pv.drewN (h : Pv w1 w blk off d sb s) (q : Nat) : Pv w1 (w.drewN q) blk off d sb s := ⟨⟨h.keep.os, h.keep.tape, h.keep.output, h.keep.size, h.keep.block⟩, h.row, h.cell, h.fr, h.ne⟩
theorem Pv.put (h : Pv w1 w blk off d sb s) (q t : Nat) : Pv w1 ((w.drewN q).setCell ⟨sb, 0, none⟩ (.int .i64 (t : Int))) blk off d sb t := by
  have h0 := h.drewN q
  obtain ⟨row, h1, h2⟩ := h0.row
  refine ⟨h0.keep.trans (Keep.setCell (w.drewN q) ⟨sb, 0, none⟩ _), ⟨row, ?_, h2⟩, World.cell?_setCell_same _ ⟨sb, 0, none⟩ _ h0.cell, by rw [World.frozen?_setCell]; exact h0.fr, h.ne⟩
  exact ((Keep.setCell (w.drewN q) ⟨sb, 0, none⟩ (.int .i64 (t : Int))).block blk (Array.getElem?_eq_some_iff.1 h1).1 (by simpa using h.ne.symm)).trans h1
end

set_option maxRecDepth 100000 in
set_option maxHeartbeats 4000000 in
theorem order2_any (w1 w : World) (blk off cap n a b sb s : Nat) (d : Array Nat) (hd : d.size = n) (h : Pv w1 w blk off d sb s) (ha : a < n) (hb : b < n) (hs : s < 1000) (hn : n < 4611686018427387904) :
    Calls Try.prog 61 #[.slice (some ⟨blk, off, none⟩) n cap, .int .i64 (a : Int), .int .i64 (b : Int), .pointer (some ⟨sb, 0, none⟩)] w
      (fun e w' => e = .returned (.tuple #[.int .i64 ((order2 ltN d a b s).1 : Int), .int .i64 ((order2 ltN d a b s).2.1 : Int)]) ∧ Pv w1 w' blk off d sb (order2 ltN d a b s).2.2) := by
  have H := Lib.hid h
  obtain ⟨G, hG, hcw, hfw⟩ := h.rw.fam hd
  have hc0 := h.cell; have hf0 := h.fr
  have HO1 := Lib.hid (show ltN (G b) (G a) = true → order2 ltN d a b s = (b, a, s + 1) from fun h => by unfold order2; rw [← hG, ← hG, if_pos h])
  have HO0 := Lib.hid (show ltN (G b) (G a) = false → order2 ltN d a b s = (a, b, s) from fun h => by unfold order2; rw [← hG, ← hG, if_neg (by rw [h]; decide)])
  clear h hd hG
  generalize order2 ltN d a b s = r at *
  go_enter Try.func61, Try.ntmps61
  go_wp2_with fail
  go_quiet (first | (go_at_call 50; refine Calls.quiet_of_same (less_any _ _ _)))
  go_wp2_with fail
  · obtain rfl := HO1.out (by first | assumption | (simp [ltN]; omega))
    have HW := Lib.hid (H.out.put nq (s + 1))
    go_ret2
    exact ⟨rfl, HW.out⟩
  · obtain rfl := HO0.out (by first | assumption | (simp [ltN]; omega))
    have HW := Lib.hid (H.out.drewN nq)
    go_ret2
    exact ⟨rfl, HW.out⟩

theorem order2_lt {d : Array Nat} {a b s n : Nat} (ha : a < n) (hb : b < n) : (order2 ltN d a b s).1 < n ∧ (order2 ltN d a b s).2.1 < n ∧ (order2 ltN d a b s).2.2 ≤ s + 1 := by
  unfold order2; split <;> exact ⟨by assumption, by assumption, by simp⟩
theorem median_lt {d : Array Nat} {a b c s n : Nat} (ha : a < n) (hb : b < n) (hc : c < n) : (median ltN d a b c s).1 < n ∧ (median ltN d a b c s).2 ≤ s + 3 := by
  have h1 := order2_lt (d := d) (s := s) ha hb
  have h2 := order2_lt (d := d) (s := (order2 ltN d a b s).2.2) h1.2.1 hc
  have h3 := order2_lt (d := d) (s := (order2 ltN d (order2 ltN d a b s).2.1 c (order2 ltN d a b s).2.2).2.2) h1.1 h2.1
  unfold median
  exact ⟨h3.2.1, by simp only; omega⟩
set_option maxRecDepth 100000 in
set_option maxHeartbeats 4000000 in
theorem median_any (w1 w : World) (blk off cap n a b c sb s : Nat) (d : Array Nat) (hd : d.size = n) (h : Pv w1 w blk off d sb s) (ha : a < n) (hb : b < n) (hc : c < n) (hs : s < 900) (hn : n < 4611686018427387904) :
    Calls Try.prog 59 #[.slice (some ⟨blk, off, none⟩) n cap, .int .i64 (a : Int), .int .i64 (b : Int), .int .i64 (c : Int), .pointer (some ⟨sb, 0, none⟩)] w
      (fun e w' => e = .returned (.int .i64 ((median ltN d a b c s).1 : Int)) ∧ Pv w1 w' blk off d sb (median ltN d a b c s).2) := by
  obtain ⟨r1, hr1⟩ : ∃ r, r = order2 ltN d a b s := ⟨_, rfl⟩
  obtain ⟨r2, hr2⟩ : ∃ r, r = order2 ltN d r1.2.1 c r1.2.2 := ⟨_, rfl⟩
  obtain ⟨r3, hr3⟩ : ∃ r, r = order2 ltN d r1.1 r2.1 r2.2.2 := ⟨_, rfl⟩
  have hm : median ltN d a b c s = (r3.2.1, r3.2.2) := by rw [hr3, hr2, hr1]; rfl
  have C1 := order2_any w1 w blk off cap n a b sb s d hd h ha hb (by omega) hn
  have l1 := order2_lt (d := d) (s := s) ha hb
  rw [← hr1] at C1 l1
  have C2 := fun w' h' => order2_any w1 w' blk off cap n r1.2.1 c sb r1.2.2 d hd h' l1.2.1 hc (by omega) hn
  have l2 := order2_lt (d := d) (s := r1.2.2) l1.2.1 hc
  rw [← hr2] at C2 l2
  have C3 := fun w' h' => order2_any w1 w' blk off cap n r1.1 r2.1 sb r2.2.2 d hd h' l1.1 l2.1 (by omega) hn
  rw [← hr3] at C3
  rw [hm]
  have C1 := Lib.hid C1; have C2 := Lib.hid C2; have C3 := Lib.hid C3
  clear h hd l1 l2 hr1 hr2 hr3 hm
  obtain ⟨x1, y1, s1⟩ := r1
  obtain ⟨x2, y2, s2⟩ := r2
  obtain ⟨x3, y3, s3⟩ := r3
  dsimp only at C1 C2 C3 ⊢
  go_enter Try.func59, Try.ntmps59
  go_wp2_with fail
  refine C1.out.mono ?_
  rintro e w2 ⟨rfl, p2⟩
  have P2 := Lib.hid p2; clear p2
  go_wp2_with fail
  refine (C2.out w2 P2.out).mono ?_
  rintro e w3 ⟨rfl, p3⟩
  have P3 := Lib.hid p3; clear p3
  go_wp2_with fail
  refine (C3.out w3 P3.out).mono ?_
  rintro e w4 ⟨rfl, p4⟩
  have P4 := Lib.hid p4; clear p4
  go_wp2_with fail
  go_ret
  exact ⟨rfl, P4.out⟩
theorem medadj_any (w1 w : World) (blk off cap n a sb s : Nat) (d : Array Nat) (hd : d.size = n) (h : Pv w1 w blk off d sb s) (ha0 : 0 < a) (ha : a + 1 < n) (hs : s < 900) (hn : n < 4611686018427387904) :
    Calls Try.prog 58 #[.slice (some ⟨blk, off, none⟩) n cap, .int .i64 (a : Int), .pointer (some ⟨sb, 0, none⟩)] w
      (fun e w' => e = .returned (.int .i64 ((medianAdjacent ltN d a s).1 : Int)) ∧ Pv w1 w' blk off d sb (medianAdjacent ltN d a s).2) := by
  have C := Lib.hid (median_any w1 w blk off cap n (a - 1) a (a + 1) sb s d hd h (by omega) (by omega) ha hs hn)
  have e1 := Lib.hid (show (a : Int) - 1 = ((a - 1 : Nat) : Int) by omega)
  have e2 := Lib.hid (show (a : Int) + 1 = ((a + 1 : Nat) : Int) by omega)
  unfold medianAdjacent
  clear h hd
  generalize median ltN d (a - 1) a (a + 1) s = r at *
  go_enter Try.func58, Try.ntmps58
  go_wp2_with fail
  rw [e1.out, e2.out]
  refine C.out.mono ?_
  rintro e w2 ⟨rfl, p2⟩
  have P2 := Lib.hid p2; clear p2
  go_wp2_with fail
  go_ret
  exact ⟨rfl, P2.out⟩
end Go.Proofs.Ythanjfnpohhebaa
