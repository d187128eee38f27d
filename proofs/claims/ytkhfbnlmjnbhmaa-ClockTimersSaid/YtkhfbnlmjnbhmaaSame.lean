/- Same of the document's answer. -/
import Derived.Test.YtkhfbnlmjnbhmaaRefS
import Derived.Test.YtkhfbnlmjnbhmaaDue
namespace Go.Proofs.Ytkhfbnlmjnbhmaa
open Go.RowKit Go.Sort
set_option linter.unusedVariables false

/-- number j of a row of numbers -/
theorem owns_at1 {w : World} {B n : Nat} {ao : Option Addr} {cap : Nat} {l : List Tm} (ho : w.ownsRow B 32 1 (.slice ao n cap) n (idc l)) (hl : l.length = n) (j : Nat) (hj : j < n) : ∃ g, ao = some ⟨g, 0, none⟩ ∧ g < w.heap.size ∧ B ≤ g ∧
    w.cell? ⟨g, j, none⟩ = some (.int .u64 ((tm l j).1 : Int)) := by
  rcases ho.2 with ⟨h2, h3⟩ | ⟨g, cap', cur, h2, hb, hg, h3, h4, h5, h6⟩
  · omega
  · cases h2
    refine ⟨g, rfl, (Array.getElem?_eq_some_iff.1 hg).1, hb, ?_⟩
    rw [cell_of_row w g j cur _ (0, 0) hg]
    have := congrArg (·[j]?) h6
    simp only [List.getElem?_take, Nat.mul_one] at this
    rw [if_pos (by omega), Array.getElem?_toList] at this
    have h7 := fl_at c1_len (l.map (·.1)) j 0 (by omega)
    simp only [Nat.mul_one, Nat.add_zero] at h7
    rw [this, h7, List.getElem?_map, tm_get (by omega)]
    rfl

set_option maxHeartbeats 2000000 in
theorem same_any (w : World) {B1 B2 n cap1 cap2 : Nat} {ao1 ao2 : Option Addr} {l : List Tm} (h1 : w.ownsRow B1 32 1 (.slice ao1 n cap1) n (idc l)) (h2 : w.ownsRow B2 32 1 (.slice ao2 n cap2) n (idc l)) (hl : l.length = n) (hn : n ≤ 256) :
    Calls Try.prog 28 #[.slice ao1 n cap1, .slice ao2 n cap2] w fun e w' => e = .returned (.bool true) ∧ Below w.heap.size w w' := by
  have H1 := Lib.hid h1; have H2 := Lib.hid h2; have HL := Lib.hid hl
  clear h1 h2 hl
  go_enter Try.func28, Try.ntmps28
  go_wp2_with fail
  go_loopw [5] (fun i wr => ∃ k : Nat, k ≤ n ∧ i = .int .i64 (k : Int) ∧ Below w.heap.size w wr) (fun i _ => n - (intOf i).toNat)
  case atStart => exact ⟨0, by omega, rfl, Below.refl _ _⟩
  case round =>
    obtain ⟨k, hk, rfl, hb⟩ := hrel
    by_cases hlt : k < n
    · obtain ⟨g1, rfl, hg1, _, x1⟩ := owns_at1 (owns_keep H1.out (Keep.of_below hb []) (by simp)) HL.out k hlt
      obtain ⟨g2, rfl, hg2, _, x2⟩ := owns_at1 (owns_keep H2.out (Keep.of_below hb []) (by simp)) HL.out k hlt
      generalize (tm l k).1 = x at *
      have hne : ((x : Int) != (x : Int)) = false := by simp
      have HB := Lib.hid hb; clear hb
      go_wp2_with fail
      go_region
      have b2 : Below w.heap.size w wr.drew := HB.out.drew
      have HB2 := Lib.hid b2; clear b2
      go_wp2_with fail
      go_roundw
      case rel => exact ⟨k + 1, by omega, by go_num, HB2.out⟩
      case measure => simp [intOf]; omega
    · obtain rfl : k = n := by omega
      have HB := Lib.hid hb; clear hb
      go_wp2_with fail
      go_ret
      exact ⟨rfl, HB.out⟩
end Go.Proofs.Ytkhfbnlmjnbhmaa
