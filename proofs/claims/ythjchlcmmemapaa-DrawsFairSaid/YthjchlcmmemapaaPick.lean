/- sameInts of the statements; MayPick, Pick of the document's answer; Pick of package draws. -/
import Derived.Test.YthjchlcmmemapaaSums
namespace Go.Proofs.Ythjchlcmmemapaa
open Go.RowKit Go.Sort
set_option linter.unusedVariables false

set_option maxHeartbeats 2000000 in
/-- two slices that read alike -/
theorem same_any (n : Nat) (hn : n ≤ 17592186043904) (l : List Int) (hl : l.length = n) (ao bo : Option Addr) (c d : Nat) (w : World) (h1 : Rd w ao l) (h2 : Rd w bo l) :
    Calls Try.prog 26 #[.slice ao n c, .slice bo n d] w fun e w' => e = .returned (.bool true) ∧ Below w.heap.size w w' := by
  have H1 := Lib.hid h1; have H2 := Lib.hid h2; have HL := Lib.hid hl; clear h1 h2 hl
  go_enter Try.func26, Try.ntmps26
  go_wp2_with fail
  go_loopw [5] (fun i wr => ∃ k : Nat, k ≤ n ∧ i = .int .i64 k ∧ Below w.heap.size w wr) (fun i _ => n - (intOf i).toNat)
  case atStart => exact ⟨0, Nat.zero_le _, rfl, Below.refl _ _⟩
  case round =>
    obtain ⟨k, hk, rfl, hb⟩ := hrel
    by_cases hlt : k < n
    · obtain ⟨g1, o1, rfl, p1, q1⟩ := (H1.out.below hb).at_ k (by rw [HL.out]; omega)
      obtain ⟨g2, o2, rfl, p2, q2⟩ := (H2.out.below hb).at_ k (by rw [HL.out]; omega)
      have r1 := cell_regrown q1
      have r2 := cell_regrown q2
      clear p1 p2 q1 q2
      go_wp2_with fail
      refine wp_region_quiet_below (by kernel_rfl) (by kernel_rfl) ?_
      repeat (go_big_quiet_step (fail))
      refine wpQuiet_nil ?_
      intro _ hw'
      obtain ⟨⟨dq, osq⟩, hw''⟩ := hw'
      subst hw''
      have lk := below_regrown wr dq osq
      go_wp2_with fail
      go_roundw
      case rel => exact ⟨k + 1, by omega, by go_num, below_next hb lk⟩
      case measure => simp [intOf]; omega
    · obtain rfl : k = n := by omega
      go_wp2_with fail
      go_ret
      exact ⟨rfl, hb⟩

set_option maxRecDepth 10000 in
set_option maxHeartbeats 2000000 in
theorem maypick_yes (ao : Option Addr) (n cap : Nat) (l : List Int) (hl : l.length = n) (hn : n ≤ 1000) (hm : may l n) (b : Bool) (hb : b = decide (0 < pre l n)) (w : World) (hr : Rd w ao l) :
    Calls Try.prog 27 #[.slice ao n cap] w fun e w' => e = .returned (.tuple #[.int .u64 (pre l n : Nat), .bool b]) ∧ w = w' := by
  have HB := Lib.hid hb; clear hb
  have HR := Lib.hid hr; have HL := Lib.hid hl; have HM := Lib.hid hm
  clear hr hl hm
  go_enter Try.func27, Try.ntmps27
  go_wp2_with fail
  go_loop [4, 5] (fun r i => ∃ k : Nat, k ≤ n ∧ i = .int .i64 (k : Int) ∧ r = .int .u64 (pre l k : Nat)) (fun _ i => n - (intOf i).toNat)
  case atStart => exact ⟨0, by omega, rfl, rfl⟩
  case round =>
    obtain ⟨k, hk, rfl, rfl⟩ := hrel
    by_cases hlt : k < n
    · obtain ⟨g, o, rfl, hg, hc⟩ := HR.out.at_ k (by rw [HL.out]; omega)
      obtain ⟨h0, h1⟩ := HM.out k hlt
      have hp := pre_le (HM.out.mono hk)
      have HN := Lib.hid (show pre l (k + 1) = pre l k + (bt l k).toNat from rfl)
      obtain ⟨y, hy⟩ : ∃ y : Nat, bt l k = (y : Int) := ⟨(bt l k).toNat, by omega⟩
      rw [hy] at HN hc h0 h1
      clear hy
      generalize pre l k = x at *
      go_wp2_with fail
      go_round
      case rel => exact ⟨k + 1, by omega, by go_num, by rw [HN.out]; go_num⟩
      case measure => simp [intOf]; omega
    · obtain rfl : k = n := by omega
      generalize hX : pre l k = x at *
      have HX := Lib.hid hX; clear hX
      by_cases hx : 0 < x
      · obtain rfl : b = true := by rw [HB.out]; exact decide_eq_true hx
        go_wp2_with fail
        go_ret2
        refine ⟨?_, rfl⟩
        show Ending.returned (.tuple #[.int .u64 (x : Int), .bool (decide ((k : Int) ≤ 1000))]) = _
        rw [HX.out, decide_eq_true (by omega)]
      · obtain rfl : b = false := by rw [HB.out]; exact decide_eq_false hx
        go_wp2_with fail
        go_ret2
        refine ⟨?_, rfl⟩
        show Ending.returned (.tuple #[.int .u64 (x : Int), .bool false]) = _
        rw [HX.out]

set_option maxRecDepth 10000 in
set_option maxHeartbeats 2000000 in
theorem maypick_no (ao : Option Addr) (n cap : Nat) (l : List Int) (hl : l.length = n) (hb : n ≤ 17592186043904) (hm : ¬ (n ≤ 1000 ∧ may l n)) (w : World) (hr : Rd w ao l) :
    Calls Try.prog 27 #[.slice ao n cap] w fun e w' => (∃ v, e = .returned (.tuple #[v, .bool false])) ∧ w = w' := by
  have HR := Lib.hid hr; have HL := Lib.hid hl; have HM := Lib.hid hm
  clear hr hl hm
  go_enter Try.func27, Try.ntmps27
  go_wp2_with fail
  go_loop [4, 5] (fun r i => ∃ k : Nat, k ≤ n ∧ k ≤ 1001 ∧ i = .int .i64 (k : Int) ∧ r = .int .u64 (pre l k : Nat) ∧ may l k) (fun _ i => n - (intOf i).toNat)
  case atStart => exact ⟨0, by omega, by omega, rfl, rfl, fun j hj => by omega⟩
  case round =>
    obtain ⟨k, hk, hk2, rfl, rfl, hmk⟩ := hrel
    have hp := pre_le hmk
    by_cases hlt : k < n
    · by_cases hlt2 : k < 1001
      · obtain ⟨g, o, rfl, hg, hc⟩ := HR.out.at_ k (by rw [HL.out]; omega)
        have HN := Lib.hid (show pre l (k + 1) = pre l k + (bt l k).toNat from rfl)
        have HS := Lib.hid (fun h0 h1 => may.succ hmk h0 h1)
        clear hmk
        generalize pre l k = x at *
        by_cases h0 : 0 ≤ bt l k
        · by_cases h1 : bt l k ≤ 2147483647
          · have hms := Lib.hid (HS.out h0 h1)
            clear HS
            obtain ⟨y, hy⟩ : ∃ y : Nat, bt l k = (y : Int) := ⟨(bt l k).toNat, by omega⟩
            rw [hy] at HN hc h0 h1
            clear hy
            go_wp2_with fail
            go_round
            case rel => exact ⟨k + 1, by omega, by omega, by go_num, by rw [HN.out]; go_num, hms.out⟩
            case measure => simp [intOf]; omega
          · clear HS HN
            generalize bt l k = y at *
            go_wp2_with fail
            go_ret2
            exact ⟨⟨_, rfl⟩, rfl⟩
        · clear HS HN
          generalize bt l k = y at *
          go_wp2_with fail
          go_ret2
          exact ⟨⟨_, rfl⟩, rfl⟩
      · obtain rfl : k = 1001 := by omega
        generalize pre l 1001 = x at *
        clear hmk
        by_cases hx : 0 < x
        · go_wp2_with fail
          go_ret2
          refine ⟨⟨.int .u64 (x : Int), ?_⟩, rfl⟩
          show Ending.returned (.tuple #[.int .u64 (x : Int), .bool (decide ((n : Int) ≤ 1000))]) = _
          rw [decide_eq_false (by omega)]
        · go_wp2_with fail
          go_ret2
          exact ⟨⟨_, rfl⟩, rfl⟩
    · obtain rfl : k = n := by omega
      have hbig : ¬ k ≤ 1000 := fun h => HM.out ⟨h, hmk⟩
      generalize pre l k = x at *
      clear hmk
      by_cases hx : 0 < x
      · go_wp2_with fail
        go_ret2
        refine ⟨⟨.int .u64 (x : Int), ?_⟩, rfl⟩
        show Ending.returned (.tuple #[.int .u64 (x : Int), .bool (decide ((k : Int) ≤ 1000))]) = _
        rw [decide_eq_false (by omega)]
      · go_wp2_with fail
        go_ret2
        exact ⟨⟨_, rfl⟩, rfl⟩

set_option maxHeartbeats 2000000 in
theorem rpick_any (B g s : Nat) (ao : Option Addr) (n cap : Nat) (l : List Int) (hl : l.length = n) (hn : n ≤ 1000) (hm : may l n) (p : Nat) (hp : p < n) (h1 : pre l p ≤ bel s (pre l n)) (h2 : bel s (pre l n) < pre l (p + 1)) (w : World) (hr : Rd w ao l) (hg : Gen w B g s) (hne : g ∉ blk ao) :
    Calls Try.prog 28 #[.pointer (some ⟨g, 0, none⟩), .slice ao n cap, .int .u64 (pre l n : Nat)] w fun e w' => e = .returned (.int .i64 (p : Int)) ∧ Gen w' B g (nx s) ∧ Keep [g] w w' := by
  have hpn := pre_le hm
  have RB := Lib.hid (rbelow_any B g s w hg (pre l n) (by omega))
  have HR := Lib.hid hr; have HL := Lib.hid hl; have HM := Lib.hid hm
  have HP := Lib.hid (show ∀ k, k < p → pre l (k + 1) ≤ bel s (pre l n) from fun k hk => Nat.le_trans (pre_mono l (show k + 1 ≤ p by omega)) h1)
  have H2 := Lib.hid h2
  have HNE := Lib.hid hne
  have hbx : bel s (pre l n) < 18446744073709551616 := by have := pre_le (hm.mono (show p + 1 ≤ n by omega)); omega
  clear hr hl hm h1 h2 hne
  generalize bel s (pre l n) = X at *
  generalize pre l n = Z at *
  go_enter Try.func28, Try.ntmps28
  go_wp2_with fail
  refine RB.out.mono ?_; rintro e w1 ⟨rfl, hg1, k1⟩
  have HR1 := Lib.hid (HR.out.keep k1 (fun q hq hm => by rw [List.mem_singleton] at hm; subst hm; exact HNE.out hq))
  go_wp2_with fail
  go_loop [8, 9] (fun r i => ∃ k : Nat, k ≤ p ∧ i = .int .i64 (k : Int) ∧ r = .int .u64 (pre l k : Nat)) (fun _ i => p - (intOf i).toNat)
  case atStart => exact ⟨0, by omega, rfl, rfl⟩
  case round =>
    obtain ⟨k, hk, rfl, rfl⟩ := hrel
    obtain ⟨ga, o, rfl, hga, hc⟩ := HR1.out.at_ k (by rw [HL.out]; omega)
    obtain ⟨h0, h1⟩ := HM.out k (by omega)
    have hN : pre l (k + 1) = pre l k + (bt l k).toNat := rfl
    have hpk := pre_le (HM.out.mono (show k ≤ n by omega))
    have HN := Lib.hid hN
    by_cases hlt : k < p
    · have hq := HP.out k hlt
      rw [hN] at hq
      obtain ⟨y, hy⟩ : ∃ y : Nat, bt l k = (y : Int) := ⟨(bt l k).toNat, by omega⟩
      rw [hy] at HN hN hc h0 h1 hq
      clear hy hN
      simp only [Int.toNat_natCast] at hq
      generalize pre l k = z at *
      go_wp2_with fail
      go_round
      case rel => exact ⟨k + 1, by omega, by go_num, by rw [HN.out]; go_num⟩
      case measure => simp [intOf]; omega
    · obtain rfl : k = p := by omega
      have hq := H2.out
      rw [hN] at hq
      obtain ⟨y, hy⟩ : ∃ y : Nat, bt l k = (y : Int) := ⟨(bt l k).toNat, by omega⟩
      rw [hy] at HN hN hc h0 h1 hq
      clear hy hN
      simp only [Int.toNat_natCast] at hq
      generalize pre l k = z at *
      go_wp2_with fail
      go_ret
      exact ⟨rfl, hg1, k1⟩

/-- the place that is picked -/
theorem place_ex {l : List Int} {n s : Nat} (hp : 0 < pre l n) : ∃ p, p < n ∧ pre l p ≤ bel s (pre l n) ∧ bel s (pre l n) < pre l (p + 1) :=
  pre_at l _ n (bel_lt s _ hp)

set_option maxHeartbeats 2000000 in
theorem pick_yes (B g s : Nat) (ao : Option Addr) (n cap : Nat) (l : List Int) (hl : l.length = n) (hn : n ≤ 1000) (hm : may l n) (hpos : 0 < pre l n) (p : Nat) (hp : p < n) (h1 : pre l p ≤ bel s (pre l n)) (h2 : bel s (pre l n) < pre l (p + 1)) (w : World) (hr : Rd w ao l) (hg : Gen w B g s) (hne : g ∉ blk ao) :
    Calls Try.prog 21 #[.pointer (some ⟨g, 0, none⟩), .slice ao n cap] w fun e w' => e = .returned (.tuple #[.int .i64 (p : Int), .int .i64 0]) ∧ Gen w' B g (nx s) ∧ Keep [g] w w' := by
  have hpn := pre_le hm
  have SU := Lib.hid (sumof_yes ao n cap l hl hn hm w hr)
  have RB := Lib.hid (below_any B g s w hg (pre l n) (by omega))
  have AT := Lib.hid (fun w' hr' => at_any ao n cap l hl hn hm p _ hp h1 h2 w' hr')
  have HR := Lib.hid hr
  have HNE := Lib.hid hne
  clear hr hl hm h1 h2 hne
  generalize bel s (pre l n) = X at *
  generalize pre l n = Z at *
  go_enter Try.func21, Try.ntmps21
  go_wp2_with fail
  refine SU.out.mono ?_; rintro e w1 ⟨rfl, rfl⟩
  go_wp2_with fail
  refine RB.out.mono ?_; rintro e w1 ⟨rfl, hg1, k1⟩
  have HR1 := Lib.hid (HR.out.keep k1 (fun q hq hm => by rw [List.mem_singleton] at hm; subst hm; exact HNE.out hq))
  go_wp2_with fail
  refine (AT.out _ HR1.out).mono ?_; rintro e w2 ⟨rfl, rfl⟩
  go_wp2_with fail
  go_ret2
  exact ⟨rfl, hg1, k1⟩

set_option maxHeartbeats 2000000 in
theorem pick_no (q : Option Addr) (ao : Option Addr) (n cap : Nat) (l : List Int) (hl : l.length = n) (hb : n ≤ 17592186043904) (hm : q = none ∨ ¬ (n ≤ 1000 ∧ may l n) ∨ pre l n = 0) (w : World) (hr : Rd w ao l) :
    Calls Try.prog 21 #[.pointer q, .slice ao n cap] w fun e w' => e = .returned (.tuple #[.int .i64 0, .int .i64 1]) ∧ w = w' := by
  have SU : ∃ v : Nat, (q = none ∨ v = 0) ∧ Calls Try.prog 30 #[.slice ao n cap] w fun e w' => e = .returned (.int .u64 (v : Int)) ∧ w = w' := by
    by_cases hy : n ≤ 1000 ∧ may l n
    · refine ⟨pre l n, ?_, sumof_yes ao n cap l hl hy.1 hy.2 w hr⟩
      rcases hm with h | h | h
      · exact .inl h
      · exact absurd hy h
      · exact .inr h
    · exact ⟨0, .inr rfl, sumof_no ao n cap l hl hb hy w hr⟩
  obtain ⟨v, hv, su⟩ := SU
  have SU := Lib.hid su
  clear su hm hr hl
  cases q with
  | none =>
    go_enter Try.func21, Try.ntmps21
    go_wp2_with fail
    refine SU.out.mono ?_; rintro e w1 ⟨rfl, rfl⟩
    go_wp2_with fail
    go_ret2
    exact ⟨rfl, rfl⟩
  | some a =>
    obtain rfl : v = 0 := by simpa using hv
    go_enter Try.func21, Try.ntmps21
    go_wp2_with fail
    refine SU.out.mono ?_; rintro e w1 ⟨rfl, rfl⟩
    go_wp2_with fail
    go_ret2
    exact ⟨rfl, rfl⟩
end Go.Proofs.Ythjchlcmmemapaa
