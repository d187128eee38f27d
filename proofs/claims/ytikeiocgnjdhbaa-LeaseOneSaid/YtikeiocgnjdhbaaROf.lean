/- Of of the document's answer. -/
import Derived.Test.YtikeiocgnjdhbaaOf
namespace Go.Proofs.Ytikeiocgnjdhbaa
open Go.RowKit Go.Sort
set_option linter.unusedVariables false

theorem mod_nat (k n : Nat) : ∃ q : Nat, ((k : Int) + n) % 64 = q ∧ q < 64 ∧ q = (k + n) % 64 := ⟨(k + n) % 64, by omega, Nat.mod_lt _ (by omega), rfl⟩

set_option maxHeartbeats 4000000 in
theorem rof_any (bs : List Bool) (hl : bs.length = 64) (w : World) : Calls Try.prog 29 #[.agg ⟨bs.map Value.bool⟩] w (MadeArcs w (ofL bs)) := by
  have HL := Lib.hid hl; clear hl
  have HOF := Lib.hid (show ofL bs = if allK bs 64 then [(0, 64)] else ofK bs 64 from rfl)
  obtain ⟨i0, hi, hz0, hz1, hz2⟩ := info_parts arc_info
  have HI := Lib.hid hi; have HZ0 := Lib.hid hz0; have HZ1 := Lib.hid hz1; have HZ2 := Lib.hid hz2
  clear hi hz0 hz1 hz2
  go_enter Try.func29, Try.ntmps29
  go_wp2_with fail
  have hrow := Row.new w 60 bs
  have hW : Below w.heap.size w (w.alloc (.cells ⟨bs.map Value.bool⟩ 60)) := below_alloc (Below.refl _ _) _
  have hA : w.heap.size < (w.alloc (.cells ⟨bs.map Value.bool⟩ 60)).heap.size := by simp
  generalize w.alloc (.cells ⟨bs.map Value.bool⟩ 60) = W at *
  have HROW := Lib.hid hrow; clear hrow
  go_loopw [3, 4, 5] (fun v al i wr => ∃ k : Nat, k ≤ 64 ∧ i = .int .i64 (k : Int) ∧ al = .bool (allK bs k) ∧ wr.ownsRow W.heap.size 37 2 v (ofK bs k).length (acells (ofK bs k)) ∧ Below W.heap.size W wr) (fun _ _ i _ => 64 - (intOf i).toNat)
  case atStart => exact ⟨0, Nat.zero_le _, rfl, rfl, World.ownsRow_nil _ _ _ _, Below.refl _ _⟩
  case round =>
    obtain ⟨k, hk, rfl, rfl, hown, hb⟩ := hrel
    have HOWN := Lib.hid hown; clear hown
    by_cases hlt : k < 64
    · have HROW2 := Lib.hid (HROW.out.below hb hA)
      have hc := HROW2.out.in HL.out k hlt
      have HA := Lib.hid (show allK bs (k + 1) = (allK bs k && inB bs k) from rfl)
      have HS := Lib.hid (show startB bs k = (inB bs k && !inB bs ((k + 63) % 64)) from rfl)
      generalize allK bs k = al at *
      cases hv : inB bs k
      · rw [hv] at hc
        have HV := Lib.hid hv; clear hv
        cases al
        all_goals
          go_wp2_with fail
          go_roundw
          case rel => exact ⟨k + 1, by omega, by go_num, by rw [HA.out, HV.out]; rfl, by rw [ofK_no (by rw [HS.out, HV.out]; rfl)]; exact HOWN.out, hb⟩
          case measure => simp [intOf]; omega
      · rw [hv] at hc
        have HV := Lib.hid hv; clear hv
        have hcq := HROW2.out.in HL.out ((k + 63) % 64) (Nat.mod_lt _ (by omega))
        cases hvq : inB bs ((k + 63) % 64)
        · rw [hvq] at hcq
          have HVQ := Lib.hid hvq; clear hvq
          have HY := Lib.hid (ofK_yes (bs := bs) (k := k) (by rw [HS.out, HV.out, HVQ.out]; rfl))
          have hle := ofK_length bs k
          have HR := Lib.hid (show runF (from_ bs k) (64 - 0) 0 = runN bs k from rfl)
          generalize runN bs k = R at *
          have hf0 : from_ bs k 0 = true := by unfold from_; rw [Nat.add_zero, Nat.mod_eq_of_lt hlt]; exact HV.out
          have HF0 := Lib.hid hf0; clear hf0
          cases al
          all_goals
            go_wp2_with fail
            go_loop [6] (fun j => ∃ n : Nat, 1 ≤ n ∧ n ≤ 63 ∧ j = .int .i64 (n : Int) ∧ runF (from_ bs k) (64 - n) n = R) (fun j => 64 - (intOf j).toNat)
            case atStart => exact ⟨1, by omega, by omega, rfl, by rw [← HR.out]; exact (runF_step (by omega) HF0.out).symm⟩
            case round =>
              obtain ⟨n, hn1, hn, rfl, hf⟩ := hrel
              have HF := Lib.hid hf; clear hf
              have hcn := HROW2.out.in HL.out ((k + n) % 64) (Nat.mod_lt _ (by omega))
              cases hvn : inB bs ((k + n) % 64)
              · rw [hvn] at hcn
                have HVN := Lib.hid hvn; clear hvn
                have HRN := Lib.hid ((runF_stop (B := from_ bs k) (n := n) (by omega) HVN.out).symm.trans HF.out)
                go_wp2_with (at_builtin; refine wpList_append_own _ rfl (.tmp 36) (.tmp 40) 41 rfl W.heap.size 37 i0 (.agg #[.int .i64 0, .int .i64 0]) 2 16 Try.underlying41 HI.out HZ0.out HZ1.out HZ2.out rfl (by omega) _ (ofK bs k).length _ rfl (HOWN.out.alloc _) ⟨wr.heap.size, 0, none⟩ 1 1 [.int .i64 (k : Int), .int .i64 (n : Int)] rfl rfl (cell_two_new _ _ _ _) (two_ints _ _) (by unfold maxLen; omega) (by omega) (by have := hb.size; simp; omega) ?_; intro v4 w4 hown4 hgrow4 _)
                have b4 : Below W.heap.size W w4 := (hb.alloc hb.size _).grown hgrow4 (by have := hb.size; simp; omega) (fun g hg => (HOWN.out.lt g hg).1)
                have HOWN4 := Lib.hid hown4
                clear hown4 hgrow4 hc hcq hcn
                go_wp2_with fail
                go_roundw
                case rel => exact ⟨k + 1, by omega, by go_num, by rw [HA.out, HV.out]; rfl, by rw [HY.out, acells_append, List.length_append, ← HRN.out]; exact HOWN4.out, b4⟩
                case measure => simp [intOf]; omega
              · rw [hvn] at hcn
                have HVN := Lib.hid hvn; clear hvn
                have hn62 : n < 63 := by
                  rcases Nat.lt_or_ge n 63 with h | h
                  · exact h
                  · have e : n = 63 := by omega
                    have h1 := HVN.out
                    rw [e, HVQ.out] at h1
                    cases h1
                go_wp2_with fail
                go_round
                case rel => exact ⟨n + 1, by omega, by omega, by go_num, by rw [← runF_step (B := from_ bs k) (n := n) (by omega) HVN.out]; exact HF.out⟩
                case measure => simp [intOf]; omega
        · rw [hvq] at hcq
          have HVQ := Lib.hid hvq; clear hvq
          cases al
          all_goals
            go_wp2_with fail
            go_roundw
            case rel => exact ⟨k + 1, by omega, by go_num, by rw [HA.out, HV.out]; rfl, by rw [ofK_no (by rw [HS.out, HV.out, HVQ.out]; rfl)]; exact HOWN.out, hb⟩
            case measure => simp [intOf]; omega
    · obtain rfl : k = 64 := by omega
      cases ha : allK bs 64
      · rw [ha] at HOF
        have HO2 := Lib.hid (HOF.out.trans (if_neg (by simp)))
        clear HOF ha
        go_wp2_with fail
        go_ret
        rw [HO2.out]
        exact ⟨_, rfl, own_base HOWN.out hW.size, hW.trans (hb.mono hW.size)⟩
      · rw [ha] at HOF
        have HO2 := Lib.hid (HOF.out.trans (if_pos rfl))
        clear HOF ha
        go_wp2_with fail
        go_ret
        rw [HO2.out]
        have hown := World.ownsRow_lit (base := w.heap.size) (e := 37) (size := 2) wr #[.int .i64 0, .int .i64 64] 1 (Nat.le_trans hW.size hb.size) (by unfold maxLen; omega) rfl
        exact ⟨_, rfl, hown, below_alloc (hW.trans (hb.mono hW.size)) _⟩

end Go.Proofs.Ytikeiocgnjdhbaa
