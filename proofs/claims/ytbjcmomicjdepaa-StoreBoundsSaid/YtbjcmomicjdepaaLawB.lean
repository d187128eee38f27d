/- StoreBounds. -/
import Derived.Test.YtbjcmomicjdepaaAl
namespace Go.Proofs.Ytbjcmomicjdepaa
open Go.RowKit Go.Sort
set_option linter.unusedVariables false
set_option linter.unusedSimpArgs false
set_option linter.unusedSectionVars false
set_option maxRecDepth 100000
def bL (f : Int) (i : Nat) : Lk := ask (f + i + 1) 0 false 1 1 1 1
def bV (f : Int) (j : Nat) : Vd := ⟨f + j + 1, if j < 16 then 1 else 2⟩
def bC (f : Int) (i : Nat) : Cp := {newC 2 1 with ls := (List.range (min i 16)).map (bL f), vs := (List.range (min i 64)).map (bV f)}
theorem ask_ok (tx : Int) (wt : Bool) (h : tx ≠ 0) : lockB (ask tx 0 wt 1 1 1 1) = true := by
  unfold lockB
  have : rightB (ask tx 0 wt 1 1 1 1).it = true := by cases wt <;> kernel_rfl
  rw [this, Bool.and_true]
  simpa using h
theorem bvs_len (f : Int) (i : Nat) : (bC f i).vs.length = min i 64 := by simp [bC]
theorem bls_len (f : Int) (i : Nat) : (bC f i).ls.length = min i 16 := by simp [bC]
theorem bvs_get (f : Int) (i j : Nat) (v : Vd) (h : (bC f i).vs[j]? = some v) : v = bV f j ∧ j < min i 64 := by
  have hl := (List.getElem?_eq_some_iff.1 h).1
  rw [bvs_len] at hl
  refine ⟨?_, hl⟩
  simp only [bC, List.getElem?_map, List.getElem?_range hl, Option.map_some, Option.some.injEq] at h
  exact h.symm
theorem may_b (f : Int) (i : Nat) : mayP 0 (bC f i) (bL f i) = decide (i < 16) := by
  unfold mayP
  rw [bls_len, show fencedP 0 (bC f i) (bL f i).it = false from rfl, show decide ((bL f i).it.ver < (bC f i).ver) = false from rfl]
  have : (bC f i).ls.any (oddP (bL f i)) = false := by
    rw [List.any_eq_false]
    intro x hx
    simp only [bC, List.mem_map] at hx
    obtain ⟨j, _, rfl⟩ := hx
    simp [oddP, bL]
  rw [this]
  simp only [Bool.not_false, Bool.true_and, Bool.and_true]
  by_cases h : i < 16
  · rw [decide_eq_true h, decide_eq_false (by omega)]; rfl
  · rw [decide_eq_false h, decide_eq_true (by omega)]; rfl
theorem vote_b (f : Int) (hf : 0 ≤ f) (i : Nat) : voteR 0 (bC f i) (bL f i) = (if i < 64 then (if i < 16 then 1 else 2) else 0, if i < 64 then 0 else 154, bC f (i + 1)) := by
  have h1 : lockB (bL f i) = true := ask_ok _ _ (by omega)
  have h2 : votedP (bC f i).vs (bL f i).tx = 0 := find_none (bvs_len f i) (fun j v hj hv => by
    obtain ⟨rfl, hl⟩ := bvs_get f i j v hv
    simp only [bV, bL]
    omega)
  unfold voteR
  rw [if_neg (by rw [h1]; decide), if_neg (by show ¬ ((1 : Int) ≠ 1); simp), if_neg (by rw [h2]; simp), bvs_len, may_b]
  by_cases h64 : i < 64
  · rw [if_neg (by omega), if_pos h64, if_pos h64]
    have e1 : min (i + 1) 64 = i + 1 := by omega
    have e2 : min i 64 = i := by omega
    by_cases h16 : i < 16
    · rw [decide_eq_true h16, if_pos rfl, if_pos h16]
      have e3 : min (i + 1) 16 = i + 1 := by omega
      have e4 : min i 16 = i := by omega
      unfold bC
      rw [e1, e2, e3, e4, List.range_succ, List.map_append, List.map_append]
      simp [bV, bL, h16]
    · rw [decide_eq_false h16, if_neg (by decide), if_neg h16]
      have e3 : min (i + 1) 16 = 16 := by omega
      have e4 : min i 16 = 16 := by omega
      unfold bC
      rw [e1, e2, e3, e4, List.range_succ (n := i), List.map_append]
      simp [bV, bL, h16]
  · rw [if_pos (by omega), if_neg h64, if_neg h64]
    have e1 : min (i + 1) 64 = 64 := by omega
    have e2 : min i 64 = 64 := by omega
    have e3 : min (i + 1) 16 = 16 := by omega
    have e4 : min i 16 = 16 := by omega
    unfold bC
    rw [e1, e2, e3, e4]
theorem vote_k (f : Int) (hf : 0 ≤ f) (k : Nat) (hk : k < 64) : voteR 0 (bC f 70) (ask (f + k + 1) 0 true 1 1 1 1) = (if k < 16 then 1 else 2, 0, bC f 70) := by
  have h1 : lockB (ask (f + k + 1) 0 true 1 1 1 1) = true := ask_ok _ _ (by omega)
  have h2 : votedP (bC f 70).vs (f + k + 1) = if k < 16 then 1 else 2 := by
    have hg : (bC f 70).vs[k]? = some (bV f k) := by
      simp only [bC, List.getElem?_map]
      rw [List.getElem?_range (by omega)]; rfl
    exact find_at hg rfl (fun j v hj hv => by
      obtain ⟨rfl, _⟩ := bvs_get f 70 j v hv
      simp only [bV]
      omega)
  unfold voteR
  rw [if_neg (by rw [h1]; decide), if_neg (by show ¬ ((1 : Int) ≠ 1); simp), if_pos (by show votedP (bC f 70).vs (f + k + 1) ≠ 0; rw [h2]; split <;> decide)]
  show (votedP (bC f 70).vs (f + k + 1), _, _) = _
  rw [h2]
theorem bC_zero (f : Int) : bC f 0 = newC 2 1 := by simp [bC]
theorem bC_state (f : Int) (i : Nat) : (bC f i).state = 2 := rfl
set_option maxHeartbeats 16000000 in
theorem storeBounds_law (f0 : Int) (wf0 : (Lit.int .u64 f0).wf = true) (n0 : Int) (wn0 : (Lit.int .i64 n0).wf = true) (W0 : World) : Calls Try.prog 10 #[.int .u64 f0, .int .i64 n0] W0 (LawOk W0) := by
  have hn : -9223372036854775808 ≤ n0 ∧ n0 ≤ 9223372036854775807 := by simp [Lit.wf, IntKind.min, IntKind.max, IntKind.signed, IntKind.bits] at wn0; omega
  have hf0 : 0 ≤ f0 ∧ f0 ≤ 18446744073709551615 := by simp [Lit.wf, IntKind.min, IntKind.max, IntKind.signed, IntKind.bits] at wf0; omega
  obtain ⟨hn1, hn2⟩ := hn
  obtain ⟨hf1, hf2⟩ := hf0
  have N := Lib.hid (new_any W0)
  have AL := Lib.hid alive_any
  clear wf0 wn0
  go_enter Try.func10, Try.ntmps10
  go_wp2_with fail
  refine N.out.mono ?_; rintro e w1 ⟨sb, rfl, n1, hsb, b1⟩
  have HSB := Lib.hid hsb
  have N1 := Lib.hid n1; have B1 := Lib.hid b1
  clear hsb b1 n1 N
  go_wp2_with fail
  refine (AL.out _).mono ?_; rintro e w2 ⟨rfl, b2⟩
  have N2 := Lib.hid (N1.out.below b2)
  have B2 := Lib.hid (below_next B1.out b2)
  clear b2 N1 B1
  have O := Lib.hid (opened w2 N2.out)
  go_wp2_with fail
  refine O.out.mono ?_; rintro e w3 ⟨rfl, gm, b, h3, k3⟩
  have H3 := Lib.hid (h3.rebase HSB.out)
  have B3 := Lib.hid (B2.out.trans (k3.below B2.out.size (by have := HSB.out; simpa using this)))
  clear h3 k3 O B2 N2
  go_upto_if 28 with (fail)
  go_cut [1] from 27 to 31 (fun s wx => ∃ r : Nat, s = .int .i64 (r : Int) ∧ r ≤ 9223372036854775807 ∧ w3 = wx)
  case first =>
    as_aux_lemma =>
      by_cases h0 : n0 < 0
      · obtain ⟨r, hr⟩ : ∃ r : Nat, (r : Int) = -(n0 + 1) := ⟨(-(n0 + 1)).toNat, by omega⟩
        have e0 : decide (n0 < 0) = true := by simpa using h0
        go_wp2_with fail
        go_meet
        case rel => exact ⟨r, by rw [hr], by omega, rfl⟩
      · obtain ⟨r, rfl⟩ : ∃ r : Nat, n0 = r := ⟨n0.toNat, by omega⟩
        have e0 : decide ((r : Int) < 0) = false := by simp
        go_wp2_with fail
        go_meet
        case rel => exact ⟨r, rfl, by omega, rfl⟩
  case rest =>
    obtain ⟨r, rfl, hr, rfl⟩ := hcut
    obtain ⟨f, hf, hf3, hf4⟩ : ∃ f : Int, f0.tmod 1152921504606846976 = f ∧ 0 ≤ f ∧ f < 1152921504606846976 := by
      refine ⟨_, rfl, ?_, ?_⟩
      · rw [Int.tmod_eq_emod_of_nonneg hf1]; omega
      · rw [Int.tmod_eq_emod_of_nonneg hf1]; omega
    have hfw : IntKind.u64.wrap f = f := by rw [IntKind.wrap_u64]; omega
    obtain ⟨k, hk, hk64⟩ : ∃ k : Nat, (r : Int).tmod 64 = (k : Int) ∧ k < 64 := ⟨r % 64, by rw [Int.tmod_eq_emod_of_nonneg (by omega)]; omega, Nat.mod_lt _ (by omega)⟩
    have HK := Lib.hid hk
    clear hk hf1 hf2 hn1 hn2
    go_wp2_with fail
    have HB0 : Hid (∃ s, StR w3 W0.heap.size sb gm b nm0 (bC f 0) s) := Lib.hid ⟨newS, by rw [bC_zero]; exact H3.out⟩
    clear H3
    go_loopw [6] (fun v6 wr => ∃ i : Nat, v6 = .int .i64 (i : Int) ∧ i ≤ 70 ∧ Hid (∃ s, StR wr W0.heap.size sb gm b nm0 (bC f i) s) ∧ Hid (Below W0.heap.size W0 wr)) (fun v6 _ => 70 - (intOf v6).toNat)
    case atStart => exact ⟨0, rfl, by omega, HB0, B3⟩
    case round =>
      obtain ⟨i, rfl, hi, HS, BR⟩ := hrel
      clear HB0 B3
      by_cases hin : i < 70
      · have hii : (i : Int) < 70 := by omega
        have hi0 : (0 : Int) ≤ (i : Int) := by omega
        have e1 : IntKind.u64.wrap (i : Int) = (i : Int) := by rw [IntKind.wrap_u64]; omega
        have e2 : IntKind.u64.wrap (f + (i : Int)) = f + (i : Int) := by rw [IntKind.wrap_u64]; omega
        have e3 : IntKind.u64.wrap (f + (i : Int) + 1) = f + (i : Int) + 1 := by rw [IntKind.wrap_u64]; omega
        have L1 := Lib.hid (lock_any (f + (i : Int) + 1) 0 false 1 1 1 1)
        simp only [Lk.ag, ask] at L1
        go_wp2_with fail
        refine (L1.out _).mono ?_; rintro e w4 ⟨rfl, b4⟩
        obtain ⟨s, hs⟩ := HS.out
        have b5 := below_alloc b4 (.cells ((bL f i).cells ⟨none, 0⟩) 38)
        have k5 := LkB.new w4 (bL f i) ⟨none, 0⟩
        have RG := Lib.hid k5.range
        have hs5 := hs.below b5
        have B5 := Lib.hid (below_next BR.out b5)
        have V := Lib.hid (vote0 _ hs5 rfl (l := bL f i) (t := ⟨none, 0⟩) (EsR.nil _) rfl (vote_b f hf3 i))
        have HS5 := Lib.hid hs5
        simp only [Lk.ag, Lk.cells, bL, ask] at V RG HS5 B5
        clear b4 b5 k5 hs5 hs L1 e1 e2 e3
        go_wp2_with (refine wpList_load_mid rfl 38 (.tmp 7) rfl w4.heap.size 0 rfl (Lk.list (bL f i) ⟨none, 0⟩) _ RG.out Try.underlying38 rfl (lk_size _ _) ?_)
        refine V.out.mono ?_; rintro e w6 ⟨rfl, s6, h6, t6⟩
        have HS6 : Hid (∃ s, StR w6 W0.heap.size sb gm b nm0 (bC f (i + 1)) s) := Lib.hid ⟨s6, h6⟩
        have B6 := Lib.hid (B5.out.trans (HS5.out.blw t6))
        clear h6 t6 V
        by_cases h64 : i < 64
        · by_cases h16 : i < 16
          · have hi16 : (i : Int) < 16 := by omega
            have hi64 : (i : Int) < 64 := by omega
            rw [if_pos h64, if_pos h16, if_pos h64]
            clear h64 h16
            go_wp2_with fail
            go_roundw
            case rel => exact ⟨i + 1, by go_num, by omega, HS6, B6⟩
            case measure => simp [intOf]; omega
          · have hi16 : ¬ (i : Int) < 16 := by omega
            have hi16b : (16 : Int) ≤ (i : Int) := by omega
            have hi64 : (i : Int) < 64 := by omega
            rw [if_pos h64, if_neg h16, if_pos h64]
            clear h64 h16
            go_wp2_with fail
            go_roundw
            case rel => exact ⟨i + 1, by go_num, by omega, HS6, B6⟩
            case measure => simp [intOf]; omega
        · have hi16b : (16 : Int) ≤ (i : Int) := by omega
          have hi64b : (64 : Int) ≤ (i : Int) := by omega
          rw [if_neg h64, if_neg h64]
          clear h64
          go_wp2_with fail
          go_roundw
          case rel => exact ⟨i + 1, by go_num, by omega, HS6, B6⟩
          case measure => simp [intOf]; omega
      · obtain rfl : i = 70 := by omega
        have hk := HK.out
        have hki : (k : Int) < 64 := by omega
        have hk0 : (0 : Int) ≤ (k : Int) := by omega
        have e0 : IntKind.i64.wrap (k : Int) = (k : Int) := by rw [IntKind.wrap_i64]; omega
        have e1 : IntKind.u64.wrap (k : Int) = (k : Int) := by rw [IntKind.wrap_u64]; omega
        have e2 : IntKind.u64.wrap (f + (k : Int)) = f + (k : Int) := by rw [IntKind.wrap_u64]; omega
        have e3 : IntKind.u64.wrap (f + (k : Int) + 1) = f + (k : Int) + 1 := by rw [IntKind.wrap_u64]; omega
        have L1 := Lib.hid (lock_any (f + (k : Int) + 1) 0 true 1 1 1 1)
        simp only [Lk.ag, ask] at L1
        go_wp2_with fail
        refine (L1.out _).mono ?_; rintro e w4 ⟨rfl, b4⟩
        obtain ⟨s, hs⟩ := HS.out
        have V := Lib.hid (vote0 _ (hs.below b4) rfl (l := ask (f + (k : Int) + 1) 0 true 1 1 1 1) (t := ⟨none, 0⟩) (EsR.nil _) rfl (vote_k f hf3 k hk64))
        have HS5 := Lib.hid (hs.below b4)
        have B5 := Lib.hid (below_next BR.out b4)
        simp only [Lk.ag, ask] at V
        clear b4 hs L1 e1 e2 e3
        go_wp2_with fail
        refine V.out.mono ?_; rintro e w6 ⟨rfl, s6, h6, t6⟩
        have B6 := Lib.hid (B5.out.trans (HS5.out.blw t6))
        clear h6 t6 V
        by_cases h16 : k < 16
        · have hi16 : (k : Int) < 16 := by omega
          rw [if_pos h16]
          clear h16
          go_wp2_with fail
          go_ret
          exact ⟨rfl, B6.out⟩
        · have hi16b : (16 : Int) ≤ (k : Int) := by omega
          rw [if_neg h16]
          clear h16
          go_wp2_with fail
          go_ret
          exact ⟨rfl, B6.out⟩
end Go.Proofs.Ytbjcmomicjdepaa
