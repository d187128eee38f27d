/- Slices read: sameInts of the statements; sumOf, at of package draws; MayPick of the document's answer. -/
import Derived.Test.YthjchlcmmemapaaForks
namespace Go.Proofs.Ythjchlcmmemapaa
open Go.RowKit Go.Sort
set_option linter.unusedVariables false

/-- the sum of the first k weights -/
def pre (l : List Int) : Nat → Nat
  | 0 => 0
  | k + 1 => pre l k + (bt l k).toNat
/-- weights that may be -/
def may (l : List Int) (n : Nat) : Prop := ∀ k, k < n → 0 ≤ bt l k ∧ bt l k ≤ 2147483647
theorem may.mono {l : List Int} {n m : Nat} (h : may l n) (hm : m ≤ n) : may l m := fun k hk => h k (by omega)
theorem may.succ {l : List Int} {n : Nat} (h : may l n) (h0 : 0 ≤ bt l n) (h1 : bt l n ≤ 2147483647) : may l (n + 1) := fun k hk => by
  by_cases e : k = n
  · subst e; exact ⟨h0, h1⟩
  · exact h k (by omega)
theorem pre_le {l : List Int} : ∀ {n : Nat}, may l n → pre l n ≤ n * 2147483647
  | 0, _ => by simp [pre]
  | n + 1, h => by
    have := pre_le (h.mono (Nat.le_succ n))
    have := h n (by omega)
    simp only [pre]; omega
theorem pre_mono (l : List Int) {a b : Nat} (h : a ≤ b) : pre l a ≤ pre l b := by
  induction h with
  | refl => exact Nat.le_refl _
  | step h ih => simp only [pre]; omega
/-- where a number lies among the sums -/
theorem pre_at (l : List Int) (x : Nat) : ∀ n, x < pre l n → ∃ p, p < n ∧ pre l p ≤ x ∧ x < pre l (p + 1)
  | 0, h => by simp [pre] at h
  | n + 1, h => by
    by_cases hx : x < pre l n
    · obtain ⟨p, h1, h2⟩ := pre_at l x n hx
      exact ⟨p, by omega, h2⟩
    · exact ⟨n, by omega, by omega, h⟩
theorem pre_pos {l : List Int} {x p : Nat} (h1 : pre l p ≤ x) (h2 : x < pre l (p + 1)) : 0 < bt l p := by
  simp only [pre] at h2; omega

set_option maxHeartbeats 2000000 in
theorem sumof_yes (ao : Option Addr) (n cap : Nat) (l : List Int) (hl : l.length = n) (hn : n ≤ 1000) (hm : may l n) (w : World) (hr : Rd w ao l) :
    Calls Try.prog 30 #[.slice ao n cap] w fun e w' => e = .returned (.int .u64 (pre l n : Nat)) ∧ w = w' := by
  have HR := Lib.hid hr; have HL := Lib.hid hl; have HM := Lib.hid hm
  clear hr hl hm
  go_enter Try.func30, Try.ntmps30
  go_wp2_with fail
  go_loop [3, 5, 11] (fun r x i => ∃ k : Nat, k ≤ n ∧ i = .int .i64 (k : Int) ∧ r = .int .u64 (pre l k : Nat)) (fun _ _ i => n - (intOf i).toNat)
  case atStart => exact ⟨0, by omega, rfl, rfl⟩
  case round =>
    obtain ⟨k, hk, rfl, rfl⟩ := hrel
    by_cases hlt : k < n
    · obtain ⟨g, o, rfl, hg, hc⟩ := HR.out.at_ k (by rw [HL.out]; omega)
      obtain ⟨h0, h1⟩ := HM.out k hlt
      have hp := pre_le (HM.out.mono hk)
      have HN := Lib.hid (show pre l (k + 1) = pre l k + (bt l k).toNat from rfl)
      obtain ⟨y, hy⟩ : ∃ y : Nat, bt l k = (y : Int) := ⟨(bt l k).toNat, by omega⟩
      rw [hy] at HN hc h0 h1
      clear hy
      generalize pre l k = x at *
      go_wp2_with fail
      go_round
      case rel => exact ⟨k + 1, by omega, by go_num, by rw [HN.out]; go_num⟩
      case measure => simp [intOf]; omega
    · obtain rfl : k = n := by omega
      go_wp2_with fail
      go_ret
      exact ⟨rfl, rfl⟩

set_option maxHeartbeats 2000000 in
theorem sumof_no (ao : Option Addr) (n cap : Nat) (l : List Int) (hl : l.length = n) (hb : n ≤ 17592186043904) (hm : ¬ (n ≤ 1000 ∧ may l n)) (w : World) (hr : Rd w ao l) :
    Calls Try.prog 30 #[.slice ao n cap] w fun e w' => e = .returned (.int .u64 0) ∧ w = w' := by
  by_cases hn : n ≤ 1000
  · have HR := Lib.hid hr; have HL := Lib.hid hl; have HM := Lib.hid (fun h => hm ⟨hn, h⟩)
    clear hr hl hm
    go_enter Try.func30, Try.ntmps30
    go_wp2_with fail
    go_loop [3, 5, 11] (fun r x i => ∃ k : Nat, k ≤ n ∧ i = .int .i64 (k : Int) ∧ r = .int .u64 (pre l k : Nat) ∧ may l k) (fun _ _ i => n - (intOf i).toNat)
    case atStart => exact ⟨0, by omega, rfl, rfl, fun j hj => by omega⟩
    case round =>
      obtain ⟨k, hk, rfl, rfl, hmk⟩ := hrel
      by_cases hlt : k < n
      · obtain ⟨g, o, rfl, hg, hc⟩ := HR.out.at_ k (by rw [HL.out]; omega)
        have hp := pre_le hmk
        have HN := Lib.hid (show pre l (k + 1) = pre l k + (bt l k).toNat from rfl)
        have HS := Lib.hid (fun h0 h1 => may.succ hmk h0 h1)
        clear hmk
        generalize pre l k = x at *
        by_cases h0 : 0 ≤ bt l k
        · by_cases h1 : bt l k ≤ 2147483647
          · have hms := Lib.hid (HS.out h0 h1)
            clear HS
            obtain ⟨y, hy⟩ : ∃ y : Nat, bt l k = (y : Int) := ⟨(bt l k).toNat, by omega⟩
            rw [hy] at HN hc h0 h1
            clear hy
            go_wp2_with fail
            go_round
            case rel => exact ⟨k + 1, by omega, by go_num, by rw [HN.out]; go_num, hms.out⟩
            case measure => simp [intOf]; omega
          · clear HS HN
            generalize bt l k = y at *
            go_wp2_with fail
            go_ret
            exact ⟨rfl, rfl⟩
        · clear HS HN
          generalize bt l k = y at *
          go_wp2_with fail
          go_ret
          exact ⟨rfl, rfl⟩
      · obtain rfl : k = n := by omega
        exact absurd hmk HM.out
  · clear hm hr
    go_enter Try.func30, Try.ntmps30
    go_wp2_with fail
    go_ret
    exact ⟨rfl, rfl⟩

set_option maxHeartbeats 2000000 in
theorem at_any (ao : Option Addr) (n cap : Nat) (l : List Int) (hl : l.length = n) (hn : n ≤ 1000) (hm : may l n) (p x : Nat) (hp : p < n) (h1 : pre l p ≤ x) (h2 : x < pre l (p + 1)) (w : World) (hr : Rd w ao l) :
    Calls Try.prog 31 #[.slice ao n cap, .int .u64 (x : Int)] w fun e w' => e = .returned (.int .i64 (p : Int)) ∧ w = w' := by
  have hx : x < 18446744073709551616 := by have := pre_le (hm.mono (show p + 1 ≤ n by omega)); omega
  have HR := Lib.hid hr; have HL := Lib.hid hl; have HM := Lib.hid hm
  have HP := Lib.hid (show ∀ k, k < p → pre l (k + 1) ≤ x from fun k hk => Nat.le_trans (pre_mono l (show k + 1 ≤ p by omega)) h1)
  have H2 := Lib.hid h2
  clear hr hl hm h1 h2
  go_enter Try.func31, Try.ntmps31
  go_wp2_with fail
  go_loop [1, 5] (fun r i => ∃ k : Nat, k ≤ p ∧ i = .int .i64 (k : Int) ∧ r = .int .u64 (x - pre l k : Nat) ∧ pre l k ≤ x) (fun _ i => p - (intOf i).toNat)
  case atStart => exact ⟨0, by omega, rfl, by simp [pre], by simp [pre]⟩
  case round =>
    obtain ⟨k, hk, rfl, rfl, hle⟩ := hrel
    obtain ⟨g, o, rfl, hg, hc⟩ := HR.out.at_ k (by rw [HL.out]; omega)
    obtain ⟨h0, h1⟩ := HM.out k (by omega)
    have hN : pre l (k + 1) = pre l k + (bt l k).toNat := rfl
    have HN := Lib.hid hN
    by_cases hlt : k < p
    · have hq := HP.out k hlt
      rw [hN] at hq
      obtain ⟨y, hy⟩ : ∃ y : Nat, bt l k = (y : Int) := ⟨(bt l k).toNat, by omega⟩
      rw [hy] at HN hN hc h0 h1 hq
      clear hy hN
      simp only [Int.toNat_natCast] at hq
      generalize pre l k = z at *
      go_wp2_with fail
      go_round
      case rel => exact ⟨k + 1, by omega, by go_num, by rw [HN.out]; go_num, by rw [HN.out]; simp; omega⟩
      case measure => simp [intOf]; omega
    · obtain rfl : k = p := by omega
      have hq := H2.out
      rw [hN] at hq
      obtain ⟨y, hy⟩ : ∃ y : Nat, bt l k = (y : Int) := ⟨(bt l k).toNat, by omega⟩
      rw [hy] at HN hN hc h0 h1 hq
      clear hy hN
      simp only [Int.toNat_natCast] at hq
      generalize pre l k = z at *
      go_wp2_with fail
      go_ret
      exact ⟨rfl, rfl⟩
end Go.Proofs.Ythjchlcmmemapaa
