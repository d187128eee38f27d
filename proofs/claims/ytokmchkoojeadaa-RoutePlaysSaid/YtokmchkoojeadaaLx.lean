/- Learn of a table: its refusals. -/
import Derived.Test.YtokmchkoojeadaaLn
namespace Go.Proofs.Ytokmchkoojeadaa
open Go.RowKit Go.Sort
set_option linter.unusedVariables false
set_option linter.unusedSimpArgs false
set_option maxRecDepth 100000
section
variable {B b cap n xc : Nat} {ao xo : Option Addr} {s p c : Pe} {F L : List Pe}
set_option maxHeartbeats 1600000 in
theorem learn_low (i : Int) (w : World) (h : TbW w B b ao cap s p c F) (hi : i < 1) : Calls Try.prog 20 #[.pointer (some ⟨b, 0, none⟩), .int .i64 i, .slice xo n xc] w fun e w' => e = .returned (.int .i64 1) ∧ Below w.heap.size w w' := by
  have k1 : decide (i < 1) = true := decide_eq_true hi
  clear h
  go_enter Try.func20, Try.ntmps20
  go_wp2_with fail
  go_ret
  exact ⟨rfl, Below.refl _ _⟩
set_option maxHeartbeats 1600000 in
theorem learn_high (i : Int) (w : World) (h : TbW w B b ao cap s p c F) (hi : 4 ≤ i) : Calls Try.prog 20 #[.pointer (some ⟨b, 0, none⟩), .int .i64 i, .slice xo n xc] w fun e w' => e = .returned (.int .i64 1) ∧ Below w.heap.size w w' := by
  have k1 : decide (i < 1) = false := decide_eq_false (by omega)
  have k2 : decide (4 ≤ i) = true := decide_eq_true hi
  clear h
  go_enter Try.func20, Try.ntmps20
  go_wp2_with fail
  go_ret
  exact ⟨rfl, Below.refl _ _⟩
set_option maxHeartbeats 1600000 in
theorem learn_few (i : Int) (w : World) (h : TbW w B b ao cap s p c F) (h1 : 1 ≤ i) (h4 : i < 4) (hi : (F.length : Int) < i) : Calls Try.prog 20 #[.pointer (some ⟨b, 0, none⟩), .int .i64 i, .slice xo n xc] w fun e w' => e = .returned (.int .i64 1) ∧ Below w.heap.size w w' := by
  obtain ⟨fl_, hfl⟩ : ∃ x, F.length = x := ⟨_, rfl⟩
  have t9 := h.row.at_ 9
  simp only [rowT, List.getElem?_toArray, List.getElem?_cons_succ, List.getElem?_cons_zero] at t9
  rw [hfl] at t9
  have hlt := h.row.lt
  have f9 := h.row.fr 9
  have k1 : decide (i < 1) = false := decide_eq_false (by omega)
  have k2 : decide (4 ≤ i) = false := decide_eq_false (by omega)
  have k3 : decide ((fl_ : Int) < i) = true := decide_eq_true (by omega)
  clear h
  go_enter Try.func20, Try.ntmps20
  go_wp2_with fail
  go_ret
  exact ⟨rfl, Below.refl _ _⟩
set_option maxHeartbeats 1600000 in
theorem learn_bad (i : Int) (w : World) (h : TbW w B b ao cap s p c F) (h1 : 1 ≤ i) (h4 : i < 4) (hi : i ≤ (F.length : Int)) (hr : PsRd w xo L) (hn : L.length = n) (hle : n ≤ 140737488355328) (hm : mayTell L = false) : Calls Try.prog 20 #[.pointer (some ⟨b, 0, none⟩), .int .i64 i, .slice xo n xc] w fun e w' => e = .returned (.int .i64 1) ∧ Below w.heap.size w w' := by
  obtain ⟨fl_, hfl⟩ : ∃ x, F.length = x := ⟨_, rfl⟩
  have t9 := h.row.at_ 9
  simp only [rowT, List.getElem?_toArray, List.getElem?_cons_succ, List.getElem?_cons_zero] at t9
  rw [hfl] at t9
  have hlt := h.row.lt
  have f9 := h.row.fr 9
  have MT := Lib.hid (maytell_any (cap := xc) w hr hn hle)
  rw [hm] at MT
  have k1 : decide (i < 1) = false := decide_eq_false (by omega)
  have k2 : decide (4 ≤ i) = false := decide_eq_false (by omega)
  have k3 : decide ((fl_ : Int) < i) = false := decide_eq_false (by omega)
  clear h hr hm
  go_enter Try.func20, Try.ntmps20
  go_wp2_with fail
  refine MT.out.mono ?_; rintro e w1 ⟨rfl, b1⟩
  clear MT
  go_wp2_with fail
  go_ret
  exact ⟨rfl, b1⟩
end
end Go.Proofs.Ytokmchkoojeadaa
