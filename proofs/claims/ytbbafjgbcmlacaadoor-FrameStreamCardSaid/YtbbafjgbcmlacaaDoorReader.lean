/- The reader of package frame: how far its bytes go, what is wrong with them. -/
import Derived.Test.YtbbafjgbcmlacaaDoorFrame
namespace Go.Proofs.YtbbafjgbcmlacaaDoor
open Go.RowKit Go.Sort
set_option linter.unusedVariables false

/-- a reader at block R holds the bytes l -/
structure Held (w : World) (B R : Nat) (ao : Option Addr) (n cap : Nat) (l : List Nat) : Prop where
  cell : w.cell? ⟨R, 0, none⟩ = some (.slice ao n cap)
  free : w.frozen? ⟨R, 0, none⟩ = false
  lt : R < w.heap.size
  base : B ≤ R
  own : Own w B ao n cap l
  apart : R ∉ blk ao
theorem Held.keep {w w' : World} {B R n cap : Nat} {ao : Option Addr} {l : List Nat} {S : List Nat} (h : Held w B R ao n cap l) (k : Keep S w w') (h1 : R ∉ S) (h2 : ∀ g ∈ blk ao, g ∉ S) : Held w' B R ao n cap l :=
  ⟨(k.cell (a := ⟨R, 0, none⟩) h.lt h1).trans h.cell, (k.frozen (a := ⟨R, 0, none⟩) h.lt h1).trans h.free, Nat.lt_of_lt_of_le h.lt k.size, h.base, h.own.keep k h2, h.apart⟩
theorem Held.below {w w' : World} {B R n cap : Nat} {ao : Option Addr} {l : List Nat} (h : Held w B R ao n cap l) (b : Below w.heap.size w w') : Held w' B R ao n cap l :=
  h.keep (Keep.of_below b []) (by simp) (by simp)

/-- how far the bytes go -/
def nst (l : List Nat) : Nat :=
  if l.length < 1 then 0 else if l.length < 2 then 1 else if l.length < 6 then 2 else if l.length < 10 + num (l.drop 2) then 3 else 4
/-- what is wrong with them -/
def flt (l : List Nat) : Nat :=
  if (1 ≤ l.length ∧ bt l 0 ≠ 84) ∨ (2 ≤ l.length ∧ bt l 1 ≠ 78) then 32
  else if 6 ≤ l.length ∧ 65536 < num (l.drop 2) then 31
  else if 6 ≤ l.length ∧ 10 + num (l.drop 2) ≤ l.length ∧ num (l.drop 6) ≠ fsum (l.take (10 + num (l.drop 2))) then 34
  else 0

set_option maxHeartbeats 2000000 in
theorem end_any (B R : Nat) (ao : Option Addr) (n cap : Nat) (l : List Nat) (h6 : 6 ≤ n) (w : World) (hh : Held w B R ao n cap l) :
    Calls Tryd.prog 32 #[.pointer (some ⟨R, 0, none⟩)] w fun e w' => e = .returned (.int .i64 (10 + (num (l.drop 2) : Nat) : Int)) ∧ w = w' := by
  have hc := hh.cell
  have hlen := hh.own.len
  have hle := hh.own.le
  obtain ⟨g, o, rfl, _, _⟩ := hh.own.rd.at_ 0 (by omega)
  have W1 := Lib.hid (word_any _ (n - 2) (cap - 2) (l.drop 2) (by simp; omega) (by omega) w (hh.own.rd.offr 2))
  have hN := num_lt (l := l.drop 2) (fun j => by rw [bt_drop]; exact hh.own.rd.byte _)
  clear hh hlen
  generalize num (l.drop 2) = N at *
  go_enter Tryd.func32, Tryd.ntmps32
  go_wp2_with fail
  refine W1.out.mono ?_
  rintro e w1 ⟨rfl, rfl⟩
  go_wp2_with fail
  go_ret
  exact ⟨rfl, rfl⟩

set_option maxHeartbeats 2000000 in
theorem state_any (B R : Nat) (ao : Option Addr) (n cap : Nat) (l : List Nat) (hn : n ≤ 131072) (w : World) (hh : Held w B R ao n cap l) :
    Calls Tryd.prog 31 #[.pointer (some ⟨R, 0, none⟩)] w fun e w' => e = .returned (.int .i64 (nst l : Nat)) ∧ w = w' := by
  have hc := hh.cell
  have hlen := hh.own.len
  have HN := Lib.hid (show nst l = if n < 1 then 0 else if n < 2 then 1 else if n < 6 then 2 else if n < 10 + num (l.drop 2) then 3 else 4 by unfold nst; rw [hlen])
  by_cases h6 : n < 6
  · clear hh hlen
    by_cases h1 : n < 1
    · have HN2 := Lib.hid (HN.out.trans (if_pos h1))
      go_enter Tryd.func31, Tryd.ntmps31
      go_wp2_with fail
      go_ret
      exact ⟨ret_int (by rw [HN2.out]; rfl), rfl⟩
    · by_cases h2 : n < 2
      · have HN2 := Lib.hid ((HN.out.trans (if_neg h1)).trans (if_pos h2))
        go_enter Tryd.func31, Tryd.ntmps31
        go_wp2_with fail
        go_ret
        exact ⟨ret_int (by rw [HN2.out]; rfl), rfl⟩
      · have HN2 := Lib.hid (((HN.out.trans (if_neg h1)).trans (if_neg h2)).trans (if_pos h6))
        go_enter Tryd.func31, Tryd.ntmps31
        go_wp2_with fail
        go_ret
        exact ⟨ret_int (by rw [HN2.out]; rfl), rfl⟩
  · have E1 := Lib.hid (end_any B R ao n cap l (by omega) w hh)
    have HN2 := Lib.hid (((HN.out.trans (if_neg (by omega))).trans (if_neg (by omega))).trans (if_neg h6))
    clear hh hlen
    generalize num (l.drop 2) = N at *
    by_cases h : n < 10 + N
    · have HN3 := Lib.hid (HN2.out.trans (if_pos h))
      go_enter Tryd.func31, Tryd.ntmps31
      go_wp2_with fail
      refine E1.out.mono ?_
      rintro e w1 ⟨rfl, rfl⟩
      go_wp2_with fail
      go_ret
      exact ⟨ret_int (by rw [HN3.out]; rfl), rfl⟩
    · have HN3 := Lib.hid (HN2.out.trans (if_neg h))
      go_enter Tryd.func31, Tryd.ntmps31
      go_wp2_with fail
      refine E1.out.mono ?_
      rintro e w1 ⟨rfl, rfl⟩
      go_wp2_with fail
      go_ret
      exact ⟨ret_int (by rw [HN3.out]; rfl), rfl⟩
end Go.Proofs.YtbbafjgbcmlacaaDoor
