/- A row of numbers that is being sorted; Less. -/
import Derived.Test.YthanjfnpohhebaaBs
import Derived.CellFam
import Derived.Deep.Draws
import Derived.BigGuard
import Derived.BigCall
import Derived.Sort.WalkA
namespace Go.Proofs.Ythanjfnpohhebaa
open Go.RowKit Go.Sort
set_option linter.unusedVariables false

abbrev u64v (n : Nat) : Value := .int .u64 (n : Int)
abbrev ltN (a b : Nat) : Bool := decide (a < b)
/-- the row from off on in block blk holds d; nothing else has turned since w0 -/
structure Rw (w0 w : World) (blk off : Nat) (d : Array Nat) : Prop where
  keep : Keep [blk] w0 w
  row : ∃ row, w.heap[blk]? = some (.cells row 30 (0, 0)) ∧ ∀ j, j < d.size → row[off + j]? = some (u64v d[j]!)
section
variable {w0 w w' : World} {blk off : Nat} {d : Array Nat}
theorem Rw.lt (h : Rw w0 w blk off d) : blk < w.heap.size := by obtain ⟨row, h1, _⟩ := h.row; exact (Array.getElem?_eq_some_iff.1 h1).1
theorem Rw.cell (h : Rw w0 w blk off d) (j : Nat) (hj : j < d.size) : w.cell? ⟨blk, off + j, none⟩ = some (u64v d[j]!) := by
  obtain ⟨row, h1, h2⟩ := h.row
  rw [cell_of_row w blk (off + j) row _ (0, 0) h1]
  exact h2 j hj
theorem Rw.fr (h : Rw w0 w blk off d) (j : Nat) : w.frozen? ⟨blk, off + j, none⟩ = false := by
  obtain ⟨row, h1, h2⟩ := h.row
  exact frozen_of_row w blk _ row _ h1
theorem Rw.next (h : Rw w0 w blk off d) (k : Keep [] w w') : Rw w0 w' blk off d := by
  obtain ⟨row, h1, h2⟩ := h.row
  exact ⟨h.keep.trans (k.mono (by simp)), row, (k.block blk h.lt (by simp)).trans h1, h2⟩
theorem Rw.drewN (h : Rw w0 w blk off d) (q : Nat) : Rw w0 (w.drewN q) blk off d := ⟨⟨h.keep.os, h.keep.tape, h.keep.output, h.keep.size, h.keep.block⟩, h.row⟩
theorem Rw.below (h : Rw w0 w blk off d) (b : Below w.heap.size w w') : Rw w0 w' blk off d := h.next (Keep.of_below b [])
theorem Rw.trans {w1 : World} {e : Array Nat} (h : Rw w0 w1 blk off e) (k : Rw w1 w blk off d) : Rw w0 w blk off d := ⟨h.keep.trans k.keep, k.row⟩
/-- an exchange -/
theorem Rw.swap (h : Rw w0 w blk off d) (q i j : Nat) (hi : i < d.size) (hj : j < d.size) :
    Rw w0 (((w.drewN q).setCell ⟨blk, off + i, none⟩ (u64v d[j]!)).setCell ⟨blk, off + j, none⟩ (u64v d[i]!)) blk off (swp d i j) := by
  have h0 := h.drewN q
  obtain ⟨row, h1, h2⟩ := h0.row
  have e1 := heap_setCell_same (w.drewN q) blk (off + i) row _ (u64v d[j]!) h1
  have e2 := heap_setCell_same _ blk (off + j) _ _ (u64v d[i]!) e1
  refine ⟨(h0.keep.trans (Keep.setCell (w.drewN q) ⟨blk, off + i, none⟩ _)).trans (Keep.setCell _ ⟨blk, off + j, none⟩ _), _, e2, fun k hk => ?_⟩
  rw [size_swp] at hk
  have hr : ∀ t, t < d.size → off + t < row.size := fun t ht => (Array.getElem?_eq_some_iff.1 (h2 t ht)).1
  by_cases e : k = j
  · subst e
    rw [swp_right _ _ _ hk, Array.getElem?_setIfInBounds_self_of_lt (by simpa using hr k hk)]
  · rw [Array.getElem?_setIfInBounds_ne (by omega)]
    by_cases e' : k = i
    · subst e'
      rw [swp_left _ _ _ hk (by omega), Array.getElem?_setIfInBounds_self_of_lt (hr k hk)]
    · rw [swp_other _ _ _ _ e' e, Array.getElem?_setIfInBounds_ne (by omega)]
      exact h2 k hk
end
/-- what a call that sorts comes to -/
def RwEnd (w0 : World) (blk off : Nat) (d : Array Nat) (e : Ending) (w' : World) : Prop := e = .returned (.tuple #[]) ∧ Rw w0 w' blk off d

theorem isnan_any (x : Nat) (w : World) : Calls Try.prog 60 #[u64v x] w fun e w' => e = .returned (.bool false) ∧ w' = w := by
  go_enter Try.func60, Try.ntmps60
  go_wp2_with fail
  go_ret
  exact ⟨by simp, rfl⟩
theorem less_any (x y : Nat) (w : World) : Calls Try.prog 50 #[u64v x, u64v y] w fun e w' => e = .returned (.bool (ltN x y)) ∧ w' = w := by
  have N1 := Lib.hid (isnan_any x)
  go_enter Try.func50, Try.ntmps50
  go_wp2_with fail
  refine (N1.out _).mono ?_; rintro e w1 ⟨rfl, rfl⟩
  go_wp2_with fail
  go_ret
  exact ⟨ret_bool (by simp [ltN]), rfl⟩

set_option maxRecDepth 100000 in
set_option maxHeartbeats 4000000 in
theorem ins_any (w0 w : World) (blk off cap n a b : Nat) (d : Array Nat) (hd : d.size = n) (h : Rw w0 w blk off d) (hab : a ≤ b) (hb : b ≤ n) (hn : n < 4611686018427387904) :
    Calls Try.prog 44 #[.slice (some ⟨blk, off, none⟩) n cap, .int .i64 (a : Int), .int .i64 (b : Int)] w (RwEnd w0 blk off (insertionSort ltN d a b)) := by
  have H := Lib.hid h; have HD := Lib.hid hd
  clear h hd
  go_enter Try.func44, Try.ntmps44
  go_wp2_with fail
  go_loopw [6] (fun vi wr => ∃ (i : Nat) (dk : Array Nat), vi = .int .i64 (i : Int) ∧ a < i ∧ i ≤ b + 1 ∧ dk.size = n ∧ Rw w0 wr blk off dk ∧ insOuter ltN a b i dk = insOuter ltN a b (a + 1) d) (fun vi _ => b + 1 - (intOf vi).toNat)
  case atStart => exact ⟨a + 1, d, by go_num, by omega, by omega, HD.out, H.out, rfl⟩
  case round =>
    obtain ⟨i, dk, rfl, hai, hib, hsk, hrk, hO⟩ := hrel
    have HO := Lib.hid hO; have HR := Lib.hid hrk
    clear hO hrk H
    by_cases hlt : i < b
    · go_wp2_with fail
      go_loopw [7] (fun vj wr2 => ∃ (j : Nat) (dj : Array Nat), vj = .int .i64 (j : Int) ∧ a ≤ j ∧ j ≤ i ∧ dj.size = n ∧ Rw w0 wr2 blk off dj ∧ insInner ltN a j dj = insInner ltN a i dk) (fun vj _ => (intOf vj).toNat)
      case atStart => exact ⟨i, dk, rfl, by omega, Nat.le_refl _, hsk, HR.out, rfl⟩
      case round =>
        obtain ⟨j, dj, rfl, haj, hji, hsj, hrj, hI⟩ := hrel
        have HI := Lib.hid hI; have HJ := Lib.hid hrj; have HSJ := Lib.hid hsj
        obtain ⟨G, hG⟩ : ∃ G : Nat → Nat, ∀ t, G t = dj[t]! := ⟨fun t => dj[t]!, fun _ => rfl⟩
        have hcw : ∀ t, t < n → wr.cell? ⟨blk, off + t, none⟩ = some (.int .u64 (G t : Int)) := fun t ht => by rw [hG]; exact hrj.cell t (by omega)
        have hfw : ∀ t, t < n → wr.frozen? ⟨blk, off + t, none⟩ = false := fun t ht => hrj.fr t
        have HG := Lib.hid hG
        clear hI hrj hG
        have OUT := Lib.hid (show (j ≤ a ∨ ltN dj[j]! dj[j - 1]! = false) → ∀ q, ∃ (i' : Nat) (dk' : Array Nat), Value.int .i64 ((i : Int) + 1) = .int .i64 (i' : Int) ∧ a < i' ∧ i' ≤ b + 1 ∧ dk'.size = n ∧ Rw w0 (wr.drewN q) blk off dk' ∧ insOuter ltN a b i' dk' = insOuter ltN a b (a + 1) d from fun hs q =>
          ⟨i + 1, dj, by go_num, by omega, by omega, hsj, HJ.out.drewN q, by rw [← HO.out, insOuter_go _ _ _ _ _ hlt, ← HI.out, insInner_stop _ _ _ _ hs]⟩)
        clear hsj
        go_wp2_with fail
        by_cases hja : a < j
        · go_quiet (first | (go_at_call 50; refine Calls.quiet_of_same (less_any _ _ _)))
          go_wp2_with fail
          · have hl : ltN (G j) (G (j - 1)) = true := by simp [ltN]; omega
            go_region
            all_goals go_wp2_with fail
            go_roundw
            case rel =>
              refine ⟨j - 1, swp dj j (j - 1), by congr 1; omega, by omega, by omega, by rw [size_swp]; exact HSJ.out, ?_, ?_⟩
              · rw [HG.out, HG.out]
                exact HJ.out.swap (nq + 1) j (j - 1) (by rw [HSJ.out]; omega) (by rw [HSJ.out]; omega)
              · rw [← HI.out, insInner_go ltN a j dj hja (by rw [← HG.out, ← HG.out]; exact hl)]
            case measure => simp [intOf]; omega
          · have hl : ltN (G j) (G (j - 1)) = false := by simp [ltN]; omega
            go_roundw
            case rel => exact OUT.out (Or.inr (by rw [← HG.out, ← HG.out]; exact hl)) nq
            case measure => simp [intOf]; omega
        · go_quiet (first | (go_at_call 50; refine Calls.quiet_of_same (less_any _ _ _)))
          go_wp2_with fail
          go_roundw
          case rel => exact OUT.out (Or.inl (by omega)) nq
          case measure => simp [intOf]; omega
    · go_wp2_with fail
      go_end0
      exact ⟨rfl, by unfold insertionSort; rw [← HO.out, insOuter_stop _ _ _ _ _ hlt]; exact HR.out⟩
end Go.Proofs.Ythanjfnpohhebaa
