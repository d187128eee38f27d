/- ClockPlays: the walk. -/
import Derived.Test.YtkhfbnlmjnbhmaaStepD
import Derived.Test.YtkhfbnlmjnbhmaaStepS
import Derived.Test.YtkhfbnlmjnbhmaaLawD
namespace Go.Proofs.Ytkhfbnlmjnbhmaa
open Go.RowKit Go.Sort
set_option linter.unusedVariables false

theorem step_any {w : World} {B hc hr rate milli sets : Nat} {S : List Tm} {Bc Br : List Nat} (kind : Int) (id : Nat) (x : Int) (hid : id < 18446744073709551616) (hx : okI x) (hsets : sets + 1 < 18446744073709551616) (h : Pair w B hc hr Bc Br rate milli sets S) :
    Calls Try.prog 10 #[.pointer (some ⟨hc, 0, none⟩), .pointer (some ⟨hr, 0, none⟩), opv kind id x] w (Stepped w B hc hr sets) := by
  by_cases h1 : kind = 1
  · subst h1; exact step_pass id x hx h
  by_cases h2 : kind = 2
  · subst h2; exact step_turn id x h
  by_cases h3 : kind = 3
  · subst h3; exact step_set3 id x hid hsets h
  by_cases h4 : kind = 4
  · subst h4
    by_cases hb : x < 2199023255552
    · exact step_set4b id x hid hsets hx hb h
    · exact step_set4a id x hid hsets hb h
  by_cases h5 : kind = 5
  · subst h5; exact step_stop id x hid h
  by_cases h6 : kind = 6
  · subst h6; exact step_due id x h
  exact step_other kind id x h1 h2 h3 h4 h5 h6 h

set_option maxRecDepth 10000 in
set_option maxHeartbeats 8000000 in
theorem clockPlays_law (rate : Int) (wra : (Lit.int .i64 rate).wf = true) (at_ : Int) (wta : (Lit.int .i64 at_).wf = true) (ao : Option Addr) (n cap : Nat) (hcc : n ≤ cap) (hm : cap ≤ maxLen) (W : World) (hr : OpsRd W ao n) :
    Calls Try.prog 3 #[.int .i64 rate, .int .i64 at_, .slice ao n cap] W (LawOk W) := by
  have HR := Lib.hid hr
  clear hr wra wta hm hcc
  by_cases hok : rateB rate = true ∧ timeB at_ = true
  · have h1 : 900 ≤ rate ∧ rate ≤ 1100 := by have := hok.1; unfold rateB at this; simpa using this
    have h2 : 0 ≤ at_ ∧ at_ ≤ 1099511627776 := by have := hok.2; unfold timeB at this; simpa using this
    obtain ⟨ra, rfl⟩ : ∃ r : Nat, rate = (r : Int) := ⟨rate.toNat, by omega⟩
    obtain ⟨t, rfl⟩ : ∃ r : Nat, at_ = (r : Int) := ⟨at_.toNat, by omega⟩
    have N1 := Lib.hid (fun w => new_yes ra t (by omega) (by omega) (by omega) w)
    have N2 := Lib.hid (fun w => rnew_yes ra t (by omega) (by omega) (by omega) w)
    clear hok h1 h2
    go_enter Try.func3, Try.ntmps3
    go_wp2_with fail
    refine (awake_any W).mono ?_; rintro e w1 ⟨rfl, b1⟩
    have B1 := Lib.hid b1; clear b1
    go_wp2_with fail
    refine (N1.out _).mono ?_; rintro e w2 ⟨hc, Bc0, rfl, h2, b2⟩
    have B2 := Lib.hid (below_next B1.out b2)
    have HC2 := Lib.hid (h2.base B1.out.size)
    clear h2 b2
    go_wp2_with fail
    refine (N2.out _).mono ?_; rintro e w3 ⟨hr, Br0, rfl, h3, b3⟩
    have hly := h3.blocks
    have hap : ∀ q ∈ Bc0, q ∉ Br0 := fun q h1 h2 => by have := (HC2.out.blocks q h1).2; have := (hly q h2).1; omega
    have HP3 : Hid (Pair w3 W.heap.size hc hr Bc0 Br0 ra (t * 1000) 0 []) := Lib.hid ⟨HC2.out.below b3, h3.base B2.out.size, hap⟩
    have B3 := Lib.hid (below_next B2.out b3)
    clear h3 b3 hly hap HC2 B2
    go_wp2_with fail
    go_loopw [12] (fun i wr => ∃ k Bc Br rate milli sets S, k ≤ n ∧ k ≤ 600 ∧ i = .int .i64 ((k : Nat) : Int) ∧ Pair wr W.heap.size hc hr Bc Br rate milli sets S ∧ sets ≤ k ∧ Below W.heap.size W wr) (fun i _ => n - (intOf i).toNat)
    case atStart => exact ⟨0, Bc0, Br0, ra, t * 1000, 0, [], by omega, by omega, rfl, HP3.out, by omega, B3.out⟩
    case round =>
      clear HP3 B1 B3 N1 N2
      obtain ⟨k, Bc, Br, rate, milli, sets, S, hkn, hk6, rfl, hp, hs, hb⟩ := hrel
      have HP := Lib.hid hp; have HB := Lib.hid hb
      clear hp hb
      by_cases hlt : k < n
      · by_cases h600 : k < 600
        · obtain ⟨g, o, kind, id, x, rfl, hg, c0, c1, c2, hid, hx⟩ := (HR.out.below (HB.out.mono (Nat.le_refl _))) k hlt
          have ST := Lib.hid (step_any kind id x hid hx (by omega) HP.out)
          clear hid hx
          go_wp2_with fail
          refine ST.out.mono ?_; rintro e w4 ⟨rfl, ⟨Bc', Br', rate', milli', sets', S', hp4, hs4⟩, b4⟩
          have HP4 := Lib.hid hp4; have B4 := Lib.hid (HB.out.trans b4)
          have N1 := Lib.hid (next_any w4 hp4.1)
          have N2 := Lib.hid (rnext_any w4 hp4.2.1)
          have C1 := Lib.hid (fun (d : Nat) (os : Array Obj) => Calls.regrown_of (same_below (now_any _ (hp4.1.below (below_regrown w4 d os)))))
          have C2 := Lib.hid (fun (d : Nat) (os : Array Obj) => Calls.regrown_of (same_below (rnow_any _ (hp4.2.1.below (below_regrown w4 d os)))))
          have C3 := Lib.hid (fun (d : Nat) (os : Array Obj) => Calls.regrown_of (same_below (count_any _ (hp4.1.below (below_regrown w4 d os)))))
          obtain ⟨ao', cap', _, hRW⟩ := hp4.2.1
          have k2 := cell_regrown hRW.k2
          have hfew := hRW.few
          have hlt4 := hRW.hlt
          clear hp4 b4 hRW ST HP HB c0 c1 c2
          obtain ⟨T, hT⟩ : ∃ T, milli' / 1000 = T := ⟨_, rfl⟩
          rw [hT] at C1 C2
          obtain ⟨Dx, hDx⟩ : ∃ d, nextD S' = d := ⟨_, rfl⟩
          rw [hDx] at N1 N2
          obtain ⟨bx, hbx⟩ : ∃ b, decide (0 < S'.length) = b := ⟨_, rfl⟩
          rw [hbx] at N1 N2
          obtain ⟨L, hL⟩ : ∃ L, S'.length = L := ⟨_, rfl⟩
          rw [hL] at C3 k2 hfew
          clear hT hDx hbx hL
          have e1 : ((T : Int) != (T : Int)) = false := by simp
          have e2 : ((L : Int) != (L : Int)) = false := by simp
          have e3 : ((Dx : Int) != (Dx : Int)) = false := by simp
          have e4 : (bx != bx) = false := by simp
          go_wp2_with fail
          refine N1.out.mono ?_; rintro e w5 ⟨rfl, rfl⟩
          go_wp2_with fail
          refine N2.out.mono ?_; rintro e w5 ⟨rfl, rfl⟩
          go_wp2_with fail
          refine wp_region_quiet_below (by kernel_rfl) (by kernel_rfl) ?_
          repeat (go_big_quiet_step (first | exact C1.out _ _ | exact C2.out _ _ | exact C3.out _ _))
          refine wpQuiet_nil ?_
          intro _ hw'
          obtain ⟨⟨dq, osq⟩, hw''⟩ := hw'
          subst hw''
          have lk := below_regrown w4 dq osq
          have HP5 : Hid (Pair (grow (redrawn w4 dq) osq) W.heap.size hc hr Bc' Br' rate' milli' sets' S') := Lib.hid ⟨HP4.out.1.below lk, HP4.out.2.1.below lk, HP4.out.2.2⟩
          have B5 := Lib.hid (below_next B4.out lk)
          clear k2 lk
          generalize grow (redrawn w4 dq) osq = w5 at *
          go_wp2_with fail
          go_roundw
          case rel => exact ⟨k + 1, Bc', Br', rate', milli', sets', S', by omega, by omega, by go_num, HP5.out, by omega, B5.out⟩
          case measure => simp [intOf]; omega
        · obtain rfl : k = 600 := by omega
          go_wp2_with fail
          go_ret
          exact ⟨rfl, HB.out⟩
      · obtain rfl : k = n := by omega
        go_wp2_with fail
        go_ret
        exact ⟨rfl, HB.out⟩
  · have h1 : rateB rate = false ∨ timeB at_ = false := by
      cases hr : rateB rate
      · exact .inl rfl
      · right
        cases ht : timeB at_
        · rfl
        · exact absurd ⟨hr, ht⟩ hok
    have h2 : (rateB rate && timeB at_) = false := by
      rcases h1 with h | h <;> rw [h] <;> simp
    have N1 := Lib.hid (fun w => new_no rate at_ h1 w)
    have N2 := Lib.hid (fun w => rnew_no rate at_ h2 w)
    clear hok h1 h2
    go_enter Try.func3, Try.ntmps3
    go_wp2_with fail
    refine (awake_any W).mono ?_; rintro e w1 ⟨rfl, b1⟩
    have B1 := Lib.hid b1; clear b1
    go_wp2_with fail
    refine (N1.out _).mono ?_; rintro e w2 ⟨rfl, rfl⟩
    go_wp2_with fail
    refine (N2.out _).mono ?_; rintro e w2 ⟨rfl, rfl⟩
    go_wp2_with fail
    go_ret
    exact ⟨rfl, B1.out⟩
end Go.Proofs.Ytkhfbnlmjnbhmaa
