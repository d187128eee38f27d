/- pick; ClockDrifts: the walk. -/
import Derived.Test.YtkhfbnlmjnbhmaaLawN
import Derived.Test.YtkhfbnlmjnbhmaaArg
namespace Go.Proofs.Ytkhfbnlmjnbhmaa
open Go.RowKit Go.Sort
set_option linter.unusedVariables false

/-- which of n things a number speaks of -/
def pk (c : Int) (n : Nat) : Nat := (if c < 0 then -(c + 1) else c).toNat % n
theorem pk_lt (c : Int) {n : Nat} (h : 0 < n) : pk c n < n := Nat.mod_lt _ h
theorem tmod_nat (k n : Nat) : ((k : Int)).tmod (n : Int) = ((k % n : Nat) : Int) := rfl
set_option maxHeartbeats 1000000 in
theorem pick_any (c : Int) (n : Nat) (hc : okI c) (h0 : 0 < n) (hn : n ≤ 1000000) (w : World) :
    Calls Try.prog 16 #[.int .i64 c, .int .i64 (n : Int)] w fun e w' => e = .returned (.int .i64 (pk c n : Int)) ∧ w = w' := by
  obtain ⟨hc1, hc2⟩ := hc
  by_cases hneg : c < 0
  · obtain ⟨k, hk⟩ : ∃ k : Nat, -(c + 1) = (k : Int) := ⟨(-(c + 1)).toNat, by omega⟩
    have HP := Lib.hid (show pk c n = k % n by unfold pk; rw [if_pos hneg, hk]; simp)
    have hlt := Nat.mod_lt k h0
    have hk2 : (k : Int) ≤ 9223372036854775807 := by omega
    have ht := tmod_nat k n
    have hk' : -1 + -c = (k : Int) := by omega
    obtain ⟨r, hr⟩ : ∃ r, k % n = r := ⟨_, rfl⟩
    rw [hr] at HP hlt ht
    have hmod : (k : Int) % (n : Int) = (r : Int) := by omega
    obtain rfl : c = -((k : Int) + 1) := by omega
    clear hk hk' hr hc1 hc2
    go_enter Try.func16, Try.ntmps16
    go_wp2_with fail
    go_ret
    refine ⟨ret_int ?_, rfl⟩
    rw [HP.out]
    have e : -((k : Int) + 1) + 1 = -(k : Int) := by omega
    rw [e, Int.neg_tmod, Int.neg_neg]
    exact ht
  · obtain ⟨k, rfl⟩ : ∃ k : Nat, c = (k : Int) := ⟨c.toNat, by omega⟩
    have HP := Lib.hid (show pk (k : Int) n = k % n by unfold pk; rw [if_neg hneg]; simp)
    go_enter Try.func16, Try.ntmps16
    go_wp2_with fail
    go_ret
    exact ⟨ret_int (by rw [HP.out]; simp), rfl⟩

theorem pass_yes {rate milli k : Nat} (hr : 0 < rate) (h : milli + k * rate ≤ 1099511627776999) : passE rate milli (k : Int) = 0 ∧ passM rate milli (k : Int) = milli + k * rate := by
  have h1 : k ≤ (1099511627776999 - milli) / rate := (Nat.le_div_iff_mul_le hr).2 (by omega)
  have e : passE rate milli (k : Int) = 0 := by unfold passE; rw [if_neg (by omega), if_neg (by omega)]
  exact ⟨e, by unfold passM; rw [e, if_pos rfl]; simp⟩

set_option maxRecDepth 10000 in
set_option maxHeartbeats 8000000 in
theorem clockDrifts_law (a : Int) (wa : (Lit.int .i64 a).wf = true) (b : Int) (wb : (Lit.int .i64 b).wf = true) (ao : Option Addr) (m cap : Nat) (l : List Int) (hl : l.length = m) (hc : m ≤ cap) (hm : cap ≤ maxLen) (hz : m ≤ 17592186043904) (W : World) (hr : Rd W ao l) :
    Calls Try.prog 4 #[.int .i64 a, .int .i64 b, .slice ao m cap] W (LawOk W) := by
  have P1 := Lib.hid (pick_any a 201 (i64_ok wa) (by omega) (by omega))
  have P2 := Lib.hid (pick_any b 201 (i64_ok wb) (by omega) (by omega))
  have hra := pk_lt a (n := 201) (by omega)
  have hrb := pk_lt b (n := 201) (by omega)
  generalize pk a 201 = pa at *
  generalize pk b 201 = pb at *
  obtain ⟨ra, hra1⟩ : ∃ ra : Nat, ra = 900 + pa := ⟨_, rfl⟩
  obtain ⟨rb, hrb1⟩ : ∃ rb : Nat, rb = 900 + pb := ⟨_, rfl⟩
  have ea : (900 : Int) + (pa : Int) = (ra : Int) := by omega
  have eb : (900 : Int) + (pb : Int) = (rb : Int) := by omega
  have N1 := Lib.hid (fun w => new_yes ra 0 (by omega) (by omega) (by omega) w)
  have N2 := Lib.hid (fun w => new_yes rb 0 (by omega) (by omega) (by omega) w)
  have ra1 : 900 ≤ ra := by omega
  have ra2 : ra ≤ 1100 := by omega
  have rb1 : 900 ≤ rb := by omega
  have rb2 : rb ≤ 1100 := by omega
  have EA := Lib.hid ea; have EB := Lib.hid eb
  have HR := Lib.hid hr; have HL := Lib.hid hl
  clear hra hrb hra1 hrb1 ea eb hr hl wa wb hc hm
  go_enter Try.func4, Try.ntmps4
  go_wp2_with fail
  refine (awake_any W).mono ?_; rintro e w1 ⟨rfl, b1⟩
  have B1 := Lib.hid b1; clear b1
  go_wp2_with fail
  refine (P1.out _).mono ?_; rintro e w2 ⟨rfl, rfl⟩
  have ea := EA.out
  go_wp2_with fail
  refine (P2.out _).mono ?_; rintro e w2 ⟨rfl, rfl⟩
  have eb := EB.out
  go_wp2_with fail
  refine (N1.out _).mono ?_; rintro e w2 ⟨hx, Bx, rfl, h2, b2⟩
  have hlx := h2.blocks
  have B2 := Lib.hid (below_next B1.out b2)
  have HX2 := Lib.hid (h2.base B1.out.size)
  have HLX := Lib.hid hlx
  clear h2 b2 hlx
  go_wp2_with fail
  refine (N2.out _).mono ?_; rintro e w3 ⟨hy, By, rfl, h3, b3⟩
  have hly := h3.blocks
  have hap : ∀ q ∈ Bx, q ∉ By := fun q h1 h2 => by have := (HLX.out q h1).2; have := (hly q h2).1; omega
  have HBX := Lib.hid (fun q hq => (HX2.out.blocks q hq).1)
  have HX3 := Lib.hid (HX2.out.below b3)
  have HY3 := Lib.hid (h3.base B2.out.size)
  have HBY := Lib.hid (fun q hq => (HY3.out.blocks q hq).1)
  have B3 := Lib.hid (below_next B2.out b3)
  have HAP := Lib.hid hap
  clear h3 b3 hly hap HX2 HLX B2
  simp only [Nat.zero_mul] at HX3 HY3
  go_wp2_with fail
  go_loopw [14, 15] (fun n i wr => ∃ k N : Nat, k ≤ m ∧ k ≤ 600 ∧ i = .int .i64 (k : Int) ∧ n = .int .i64 (N : Int) ∧ N ≤ k * 1000000 ∧ Clk wr W.heap.size hx Bx ra (N * ra) 0 [] ∧ Clk wr W.heap.size hy By rb (N * rb) 0 [] ∧ Below W.heap.size W wr) (fun _ i _ => m - (intOf i).toNat)
  case atStart => exact ⟨0, 0, by omega, by omega, rfl, rfl, by omega, by simpa using HX3.out, by simpa using HY3.out, B3.out⟩
  case round =>
    clear HX3 HY3 B1 B3 P1 P2 N1 N2 EA EB
    obtain ⟨k, N, hkm, hk6, rfl, rfl, hN, hcx, hcy, hb⟩ := hrel
    have HX := Lib.hid hcx; have HY := Lib.hid hcy; have HB := Lib.hid hb
    clear hcx hcy hb
    by_cases hlt : k < m
    · by_cases h600 : k < 600
      · have hr := HR.out.below (HB.out.mono (Nat.le_refl _))
        obtain ⟨g, o, rfl, hg, hcell⟩ := hr.at_ k (by rw [HL.out]; exact hlt)
        have hby := hr.byte k
        clear hr
        generalize bt l k = c at *
        have PK := Lib.hid (pick_any c 1000000 hby (by omega) (by omega))
        have hpl := pk_lt c (n := 1000000) (by omega)
        generalize pk c 1000000 = p at *
        go_wp2_with fail
        refine (PK.out _).mono ?_; rintro e w4 ⟨rfl, rfl⟩
        go_wp2_with fail
        have hnx := now_any _ HX.out
        obtain ⟨u, hu⟩ : ∃ u, N * ra / 1000 = u := ⟨_, rfl⟩
        rw [hu] at hnx
        have HU := Lib.hid hu; clear hu
        refine hnx.mono ?_; rintro e w4 ⟨rfl, rfl⟩
        clear hnx
        have f1 : N * ra ≤ N * 1100 := Nat.mul_le_mul_left N ra2
        have f2 : N * rb ≤ N * 1100 := Nat.mul_le_mul_left N rb2
        have f3 : p * ra ≤ p * 1100 := Nat.mul_le_mul_left p ra2
        have f4 : p * rb ≤ p * 1100 := Nat.mul_le_mul_left p rb2
        have e1 := Nat.add_mul N p ra
        have e2 := Nat.add_mul N p rb
        obtain ⟨y1, y2⟩ := pass_yes (milli := N * ra) (k := p) (show 0 < ra by omega) (by omega)
        obtain ⟨z1, z2⟩ := pass_yes (milli := N * rb) (k := p) (show 0 < rb by omega) (by omega)
        rw [← e1] at y2
        rw [← e2] at z2
        have Y1 := Lib.hid y1; have Y2 := Lib.hid y2; have Z1 := Lib.hid z1; have Z2 := Lib.hid z2
        have hle1 : N * ra ≤ (N + p) * ra := by omega
        clear y1 y2 z1 z2 e1 e2 f3 f4 PK hcell
        go_wp2_with fail
        refine (pass_any _ (p : Int) (by unfold okI; omega) HX.out).mono ?_; rintro e w5 ⟨he, hx5, t5⟩
        rw [Y1.out] at he
        rw [Y2.out] at hx5
        subst he
        have hy5 := HY.out.keep t5.keep (fun q hq hm => HAP.out q hm hq)
        have HX5 := Lib.hid hx5; have HY5 := Lib.hid hy5; have HB5 := Lib.hid (HB.out.trans (t5.below HB.out.size HBX.out))
        clear hx5 hy5 t5 HX HY HB
        go_wp2_with fail
        refine (pass_any _ (p : Int) (by unfold okI; omega) HY5.out).mono ?_; rintro e w6 ⟨he, hy6, t6⟩
        rw [Z1.out] at he
        rw [Z2.out] at hy6
        subst he
        have hx6 := HX5.out.keep t6.keep (fun q hq hm => HAP.out q hq hm)
        have HX6 := Lib.hid hx6; have HY6 := Lib.hid hy6; have HB6 := Lib.hid (HB5.out.trans (t6.below HB5.out.size HBY.out))
        clear hx6 hy6 t6 HX5 HY5 HB5 Y1 Y2 Z1 Z2
        have hM : N + p ≤ (k + 1) * 1000000 := by omega
        have hcast : (N : Int) + (p : Int) = ((N + p : Nat) : Int) := by omega
        have g1 : (N + p) * ra ≤ (N + p) * 1100 := Nat.mul_le_mul_left _ ra2
        have g2 : (N + p) * rb ≤ (N + p) * 1100 := Nat.mul_le_mul_left _ rb2
        have m1 : ((N + p : Nat) : Int) * ((ra : Int) - (rb : Int)) = (((N + p) * ra : Nat) : Int) - (((N + p) * rb : Nat) : Int) := by rw [Int.mul_sub]; simp
        have m2 : ((N + p : Nat) : Int) * (ra : Int) = (((N + p) * ra : Nat) : Int) := by simp
        obtain ⟨M, hMe⟩ : ∃ M, N + p = M := ⟨_, rfl⟩
        rw [hMe] at hcast HX6 HY6 hM g1 g2 m1 m2 hle1
        clear hMe
        obtain ⟨X, hX⟩ : ∃ X, M * ra = X := ⟨_, rfl⟩
        obtain ⟨Y, hY⟩ : ∃ Y, M * rb = Y := ⟨_, rfl⟩
        have hd1 : u ≤ X / 1000 := by rw [← HU.out, ← hX]; exact Nat.div_le_div_right hle1
        have HXE := Lib.hid hX; have HYE := Lib.hid hY
        rw [hX] at HX6 g1 m1 m2
        rw [hY] at HY6 g2 m1
        clear hle1 hX hY f2
        have hd2 : X / 1000 * 1000 ≤ X := Nat.div_mul_le_self _ _
        have hd3 : X < X / 1000 * 1000 + 1000 := by omega
        have hd4 : Y / 1000 * 1000 ≤ Y := Nat.div_mul_le_self _ _
        have hd5 : Y < Y / 1000 * 1000 + 1000 := by omega
        have NX := Lib.hid (now_any w6 HX6.out)
        have NY := Lib.hid (now_any w6 HY6.out)
        obtain ⟨x, hxx⟩ : ∃ x, X / 1000 = x := ⟨_, rfl⟩
        obtain ⟨y, hyy⟩ : ∃ y, Y / 1000 = y := ⟨_, rfl⟩
        rw [hxx] at hd1 hd2 hd3 NX
        rw [hyy] at hd4 hd5 NY
        clear hxx hyy f1
        have hM6 : M ≤ 600000000 := by omega
        go_wp2_with fail
        refine NX.out.mono ?_; rintro e w7 ⟨rfl, rfl⟩
        go_wp2_with fail
        refine NY.out.mono ?_; rintro e w7 ⟨rfl, rfl⟩
        go_wp2_with fail
        refine NX.out.mono ?_; rintro e w7 ⟨rfl, rfl⟩
        go_wp2_with fail
        refine NX.out.mono ?_; rintro e w7 ⟨rfl, rfl⟩
        go_wp2_with fail
        go_roundw
        case rel => exact ⟨k + 1, M, by omega, by omega, by go_num, rfl, by omega, by rw [HXE.out]; exact HX6.out, by rw [HYE.out]; exact HY6.out, HB6.out⟩
        case measure => simp [intOf]; omega
      · obtain rfl : k = 600 := by omega
        go_wp2_with fail
        go_ret
        exact ⟨rfl, HB.out⟩
    · obtain rfl : k = m := by omega
      go_wp2_with fail
      go_ret
      exact ⟨rfl, HB.out⟩
end Go.Proofs.Ytkhfbnlmjnbhmaa
