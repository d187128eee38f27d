/- The two sums. -/
import Derived.Test.YtbbafjgbcmlacaaDoorBs
import Derived.Test.YtbbafjgbcmlacaaDoorCrc
namespace Go.Proofs.YtbbafjgbcmlacaaDoor
open Go.RowKit Go.Sort
set_option linter.unusedVariables false

/-- the table lies in its variable -/
def Tab (w : World) : Prop := 0 < w.heap.size ∧ ∀ i, i < 16 → w.cell? ⟨0, i, none⟩ = some (.int .u32 (shifts 4 i : Nat))
theorem Tab.below {w w' : World} (h : Tab w) (b : Below w.heap.size w w') : Tab w' :=
  ⟨Nat.lt_of_lt_of_le h.1 b.size, fun i hi => (b.cell (p := ⟨0, i, none⟩) h.1).trans (h.2 i hi)⟩
theorem Tab.keep {S : List Nat} {w w' : World} (h : Tab w) (b : Keep S w w') (hS : 0 ∉ S) : Tab w' :=
  ⟨Nat.lt_of_lt_of_le h.1 b.size, fun i hi => (b.cell (a := ⟨0, i, none⟩) h.1 hS).trans (h.2 i hi)⟩

theorem not32 (s : Nat) (hs : s < 4294967296) : 4294967295 ^^^ s = 4294967295 - s := by
  have e : (~~~(BitVec.ofNat 32 s)).toNat = 4294967295 - s := by
    rw [BitVec.toNat_not, BitVec.toNat_ofNat, Nat.mod_eq_of_lt (by omega)]
  have e2 : (BitVec.allOnes 32 ^^^ BitVec.ofNat 32 s).toNat = 4294967295 ^^^ s := by
    rw [BitVec.toNat_xor, BitVec.toNat_ofNat, BitVec.toNat_allOnes, Nat.mod_eq_of_lt (by omega)]
  rw [← e2, BitVec.allOnes_xor, e]
theorem not_u32 (s : Nat) (hs : s < 4294967296) : bits .xor .u32 IntKind.u32.max (s : Int) = ((4294967295 - s : Nat) : Int) := by
  rw [show IntKind.u32.max = ((4294967295 : Nat) : Int) by decide, u32_xor_nat _ _ (by omega) hs, not32 s hs]
theorem and15_u32 (q : Nat) (hq : q < 4294967296) : bits .and .u32 (q : Int) 15 = ((q % 16 : Nat) : Int) := by
  have h := u32_and_nat q 15 hq (by omega)
  rw [nat_mask4] at h
  exact h

theorem bytesTo_snoc (r : Nat) (l : List Nat) (k : Nat) (hk : k < l.length) : bytesTo r (l.take (k + 1)) = byteTo (bytesTo r (l.take k)) (bt l k) := by
  rw [List.take_add_one, bytesTo_append, bt_get hk]
  rfl

set_option maxHeartbeats 2000000 in
theorem sum_any (s : Nat) (hs : s < 4294967296) (ao : Option Addr) (n cap : Nat) (l : List Nat) (hl : l.length = n) (hn : n ≤ 9223372036854775807) (w : World) (ht : Tab w) (hr : Rd w ao l) :
    Calls Tryd.prog 16 #[.int .u32 (s : Int), .slice ao n cap] w fun e w' => e = .returned (.int .u32 (sumOf s l : Nat)) ∧ w = w' := by
  have HT := Lib.hid ht; have HR := Lib.hid hr; have HL := Lib.hid hl
  clear ht hr hl
  have hsg : IntKind.u32.signed = false := rfl
  have e0 := not_u32 s hs
  go_enter Tryd.func16, Tryd.ntmps16
  go_wp2_with fail
  go_loop [5, 7, 12] (fun r c i => ∃ k q : Nat, k ≤ n ∧ i = .int .i64 (k : Int) ∧ r = .int .u32 (q : Int) ∧ q < 4294967296 ∧ Hid (q = bytesTo (4294967295 - s) (l.take k))) (fun _ _ i => n - (intOf i).toNat)
  case atStart => exact ⟨0, 4294967295 - s, by omega, rfl, by simp, by omega, by rw [Hid, List.take_zero]; rfl⟩
  case round =>
    obtain ⟨k, q, hk, rfl, rfl, hq, HQ⟩ := hrel
    by_cases hlt : k < n
    · obtain ⟨g, o, rfl, hg, hc⟩ := HR.out.at_ k (by rw [HL.out]; exact hlt)
      have hb := HR.out.byte k
      have e1 := u32_xor_nat q (bt l k) hq (by omega)
      have HB := Lib.hid (byte_by_nibbles q (bt l k) hb)
      have h1 : q ^^^ bt l k < 4294967296 := Nat.xor_lt_two_pow (n := 32) hq (by omega)
      have HX := Lib.hid (bytesTo_snoc (4294967295 - s) l k (by rw [HL.out]; exact hlt))
      generalize q ^^^ bt l k = q1 at *
      have e2 := and15_u32 q1 h1
      have hi1 : q1 % 16 < 16 := by omega
      have c1 := HT.out.2 (q1 % 16) hi1
      have e3 := u32_xor_nat (q1 / 16) (shifts 4 (q1 % 16)) (by omega) (shifts_lt 4 (by omega))
      rw [← shifts_nibble, Int.natCast_ediv] at e3
      have h2 : shifts 4 q1 < 4294967296 := shifts_lt 4 h1
      generalize shifts 4 (q1 % 16) = t1 at *
      generalize q1 % 16 = i1 at *
      generalize shifts 4 q1 = q2 at *
      have e4 := and15_u32 q2 h2
      have hi2 : q2 % 16 < 16 := by omega
      have c2 := HT.out.2 (q2 % 16) hi2
      have e5 := u32_xor_nat (q2 / 16) (shifts 4 (q2 % 16)) (by omega) (shifts_lt 4 (by omega))
      rw [← shifts_nibble, Int.natCast_ediv] at e5
      have h3 : shifts 4 q2 < 4294967296 := shifts_lt 4 h2
      generalize shifts 4 (q2 % 16) = t2 at *
      generalize q2 % 16 = i2 at *
      generalize shifts 4 q2 = q3 at *
      rw [show ((16 : Nat) : Int) = 16 from rfl] at e3 e5
      go_wp2_with fail
      go_round
      case rel => exact ⟨k + 1, q3, by omega, by go_num, rfl, h3, by rw [Hid, HX.out, ← HQ.out, HB.out]⟩
      case measure => simp [intOf]; omega
    · obtain rfl : k = n := by omega
      have e9 := not_u32 q hq
      clear hlt
      go_wp2_with fail
      go_ret
      refine ⟨ret_int ?_, rfl⟩
      have h := HQ.out
      rw [← HL.out, List.take_length] at h
      unfold sumOf
      rw [h]

theorem step_bit (q c b : Nat) (hb : b < 8) : bitsTo q ((bits8 c).take (b + 1)) = step (bitsTo q ((bits8 c).take b)) (c / 2 ^ b % 2) := by
  have e : (bits8 c).take (b + 1) = (bits8 c).take b ++ [c / 2 ^ b % 2] := by
    have h : b = 0 ∨ b = 1 ∨ b = 2 ∨ b = 3 ∨ b = 4 ∨ b = 5 ∨ b = 6 ∨ b = 7 := by omega
    rcases h with rfl | rfl | rfl | rfl | rfl | rfl | rfl | rfl <;> simp [bits8]
  rw [e]; simp [bitsTo, List.foldl_append]

set_option maxHeartbeats 2000000 in
theorem rsum_any (s : Nat) (hs : s < 4294967296) (ao : Option Addr) (n cap : Nat) (l : List Nat) (hl : l.length = n) (hn : n ≤ 9223372036854775807) (w : World) (hr : Rd w ao l) :
    Calls Tryd.prog 17 #[.int .u32 (s : Int), .slice ao n cap] w fun e w' => e = .returned (.int .u32 (sumOf s l : Nat)) ∧ w = w' := by
  have HR := Lib.hid hr; have HL := Lib.hid hl
  clear hr hl
  have hsg : IntKind.u32.signed = false := rfl
  go_enter Tryd.func17, Tryd.ntmps17
  go_wp2_with fail
  go_loop [5, 6, 7, 8, 9] (fun r i c j out => ∃ k q : Nat, k ≤ n ∧ i = .int .i64 (k : Int) ∧ r = .int .u32 (q : Int) ∧ q < 4294967296 ∧ Hid (q = bytesTo (4294967295 - s) (l.take k))) (fun _ i _ _ _ => n - (intOf i).toNat)
  case atStart => exact ⟨0, 4294967295 - s, by omega, rfl, by go_num, by omega, by rw [Hid, List.take_zero]; rfl⟩
  case round =>
    obtain ⟨k, q, hk, rfl, rfl, hq, HQ⟩ := hrel
    by_cases hlt : k < n
    · obtain ⟨g, o, rfl, hg, hc⟩ := HR.out.at_ k (by rw [HL.out]; exact hlt)
      have hb := HR.out.byte k
      have HX := Lib.hid (bytesTo_snoc (4294967295 - s) l k (by rw [HL.out]; exact hlt))
      go_wp2_with fail
      generalize hcc : bt l k = c0 at *
      have HC := Lib.hid hcc; clear hcc
      go_loop [5, 7, 8, 9] (fun r c j out => ∃ b r' c' : Nat, b ≤ 8 ∧ j = .int .i64 (b : Int) ∧ r = .int .u32 (r' : Int) ∧ c = .int .u32 (c' : Int) ∧ r' < 4294967296 ∧ c' < 256 ∧ Hid (r' = bitsTo q ((bits8 c0).take b) ∧ c' = c0 / 2 ^ b)) (fun _ _ j _ => 8 - (intOf j).toNat)
      case atStart => exact ⟨0, q, c0, by omega, rfl, rfl, rfl, hq, hb, by rw [Hid]; exact ⟨rfl, by simp⟩⟩
      case round =>
        obtain ⟨b, r', c', hb8, rfl, rfl, rfl, hr', hc', HI⟩ := hrel
        by_cases h8 : b < 8
        · have HS := Lib.hid (step_bit q c0 b h8)
          have hcd : c' / 2 < 256 := by omega
          by_cases hodd : (r' + c') % 2 = 1
          · have e1 := u32_xor_nat (r' / 2) 2197175160 (by omega) (by omega)
            rw [Int.natCast_ediv, show ((2 : Nat) : Int) = 2 from rfl, show ((2197175160 : Nat) : Int) = 2197175160 from rfl] at e1
            have h1 : (r' / 2) ^^^ 2197175160 < 4294967296 := Nat.xor_lt_two_pow (n := 32) (by omega) (by omega)
            have HE := Lib.hid (show step r' (c' % 2) = (r' / 2) ^^^ 2197175160 by unfold step; rw [if_pos (by omega)]; rfl)
            generalize (r' / 2) ^^^ 2197175160 = r2 at *
            go_wp2_with fail
            go_round
            case rel => exact ⟨b + 1, r2, c' / 2, by omega, by go_num, rfl, by go_num, h1, hcd, by rw [Hid, HS.out, ← HI.out.1, ← HI.out.2, HE.out, HI.out.2, Nat.div_div_eq_div_mul, ← Nat.pow_succ]; exact ⟨rfl, rfl⟩⟩
            case measure => simp [intOf]; omega
          · have HE := Lib.hid (show step r' (c' % 2) = r' / 2 by unfold step; rw [if_neg (by omega)])
            go_wp2_with fail
            go_round
            case rel => exact ⟨b + 1, r' / 2, c' / 2, by omega, by go_num, by go_num, by go_num, by omega, hcd, by rw [Hid, HS.out, ← HI.out.1, ← HI.out.2, HE.out, HI.out.2, Nat.div_div_eq_div_mul, ← Nat.pow_succ]; exact ⟨rfl, rfl⟩⟩
            case measure => simp [intOf]; omega
        · obtain rfl : b = 8 := by omega
          go_wp2_with fail
          go_round
          case rel => exact ⟨k + 1, r', by omega, by go_num, rfl, hr', by rw [Hid, HX.out, ← HQ.out, HI.out.1]; rfl⟩
          case measure => simp [intOf]; omega
    · obtain rfl : k = n := by omega
      clear hlt
      go_wp2_with fail
      go_ret
      refine ⟨ret_int ?_, rfl⟩
      have h := HQ.out
      rw [← HL.out, List.take_length] at h
      unfold sumOf
      rw [h]
      omega
end Go.Proofs.YtbbafjgbcmlacaaDoor
