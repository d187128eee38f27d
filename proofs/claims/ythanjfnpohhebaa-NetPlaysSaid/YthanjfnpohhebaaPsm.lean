/- The document's Same of packets, asked of two alike. -/
import Derived.Test.YthanjfnpohhebaaRforg
namespace Go.Proofs.Ythanjfnpohhebaa
open Go.RowKit
set_option linter.unusedVariables false
set_option linter.unusedSimpArgs false
abbrev pko (c0 c1 c2 c3 : Value) : Obj := .cells #[c0, c1, c2, c3] 52

set_option maxRecDepth 100000 in
set_option maxHeartbeats 4000000 in
theorem psame_yes (id : Nat) (fr dn : Int) (data : List Nat) (ao bo : Option Addr) (n c d : Nat) (hn : data.length = n) (hb : n ≤ 9223372036854775807) (w : World) (h1 : Rd w ao data) (h2 : Rd w bo data) :
    Calls Try.prog 30 #[.agg #[.int .u64 (id : Int), .int .i64 fr, .int .i64 dn, .slice ao n c], .agg #[.int .u64 (id : Int), .int .i64 fr, .int .i64 dn, .slice bo n d]] w fun e w' => e = .returned (.bool true) ∧ Below w.heap.size w w' := by
  have b0 := below_alloc (below_alloc (Below.refl w.heap.size w) (pko (.int .u64 (id : Int)) (.int .i64 fr) (.int .i64 dn) (.slice ao n c))) (pko (.int .u64 (id : Int)) (.int .i64 fr) (.int .i64 dn) (.slice bo n d))
  have B0 := Lib.hid b0
  have H1 := Lib.hid (h1.below b0); have H2 := Lib.hid (h2.below b0); have HN := Lib.hid hn
  have r1 : ((w.alloc (pko (.int .u64 (id : Int)) (.int .i64 fr) (.int .i64 dn) (.slice ao n c))).alloc (pko (.int .u64 (id : Int)) (.int .i64 fr) (.int .i64 dn) (.slice bo n d))).cell? ⟨w.heap.size, 3, none⟩ = some (.slice ao n c) := by go_simp
  have r2 : ((w.alloc (pko (.int .u64 (id : Int)) (.int .i64 fr) (.int .i64 dn) (.slice ao n c))).alloc (pko (.int .u64 (id : Int)) (.int .i64 fr) (.int .i64 dn) (.slice bo n d))).cell? ⟨w.heap.size + 1, 3, none⟩ = some (.slice bo n d) := by go_simp
  have R1 := Lib.hid r1; have R2 := Lib.hid r2
  have e1 : ((id : Int) != (id : Int)) = false := by simp
  have e2 : (fr != fr) = false := by simp
  have e3 : (dn != dn) = false := by simp
  have e4 : ((n : Int) != (n : Int)) = false := by simp
  clear h1 h2 hn b0 r1 r2
  go_enter Try.func30, Try.ntmps30
  go_wp2_with fail
  have hs0 : ((w.alloc (pko (.int .u64 (id : Int)) (.int .i64 fr) (.int .i64 dn) (.slice ao n c))).alloc (pko (.int .u64 (id : Int)) (.int .i64 fr) (.int .i64 dn) (.slice bo n d))).heap.size = w.heap.size + 2 := by simp
  generalize (w.alloc (pko (.int .u64 (id : Int)) (.int .i64 fr) (.int .i64 dn) (.slice ao n c))).alloc (pko (.int .u64 (id : Int)) (.int .i64 fr) (.int .i64 dn) (.slice bo n d)) = W0 at *
  go_loopw [5] (fun i wr => ∃ k : Nat, k ≤ n ∧ i = .int .i64 (k : Int) ∧ Below W0.heap.size W0 wr) (fun i _ => n - (intOf i).toNat)
  case atStart => exact ⟨0, Nat.zero_le _, rfl, Below.refl _ _⟩
  case round =>
    obtain ⟨k, hk, rfl, hbl⟩ := hrel
    have x1 := (hbl.cell (p := ⟨w.heap.size, 3, none⟩) (by show w.heap.size < _; omega)).trans R1.out
    have x2 := (hbl.cell (p := ⟨w.heap.size + 1, 3, none⟩) (by show w.heap.size + 1 < _; omega)).trans R2.out
    have HB := Lib.hid hbl
    by_cases hlt : k < n
    · obtain ⟨g1, o1, rfl, p1, q1⟩ := (H1.out.below hbl).at_ k (by rw [HN.out]; exact hlt)
      obtain ⟨g2, o2, rfl, p2, q2⟩ := (H2.out.below hbl).at_ k (by rw [HN.out]; exact hlt)
      obtain ⟨y, hy⟩ : ∃ y, y = bt data k := ⟨_, rfl⟩
      rw [← hy] at q1 q2
      have e5 : ((y : Int) != (y : Int)) = false := by simp
      clear hbl hy p1 p2
      go_wp2_with fail
      go_quiet (fail)
      go_wp2_with fail
      go_roundw
      case rel => exact ⟨k + 1, by omega, by go_num, below_drewN HB.out _⟩
      case measure => simp [intOf]; omega
    · obtain rfl : k = n := by omega
      clear hbl
      go_wp2_with fail
      go_ret
      exact ⟨rfl, below_next B0.out HB.out⟩
end Go.Proofs.Ythanjfnpohhebaa
