/- The owner of a position, and how often a number is halved. -/
import Derived.Test.YtokmchkoojeadaaMb
namespace Go.Proofs.Ytokmchkoojeadaa
open Go.RowKit Go.Sort
set_option linter.unusedVariables false
set_option linter.unusedSimpArgs false
set_option maxRecDepth 100000
/-- the first node at a position or behind it -/
def ownerN (L : List Pe) (h l : Int) : Nat := match L.findIdx? (fun x => !ls x.h x.l h l) with | some k => k | none => 0
set_option maxHeartbeats 4000000 in
theorem owner_any {xo : Option Addr} {n cap : Nat} {L : List Pe} (th tl : Int) (w : World) (h : PsRd w xo L) (hn : L.length = n) (hle : n ≤ 140737488355328) :
    Calls Try.prog 16 #[.slice xo n cap, pos th tl] w fun e w' => e = .returned (.int .i64 (ownerN L th tl : Nat)) ∧ Below w.heap.size w w' := by
  have B0 := Lib.hid (below_alloc (Below.refl w.heap.size w) (.cells #[.int .u64 th, .int .u64 tl] 24))
  have R0 := Lib.hid (heap_alloc_new w (.cells #[.int .u64 th, .int .u64 tl] 24))
  have H := Lib.hid (h.below B0.out); have HN := Lib.hid hn
  have hni : (n : Int) ≤ 140737488355328 := by omega
  clear h hn
  go_enter Try.func16, Try.ntmps16
  go_wp2_with fail
  generalize w.alloc (.cells #[.int .u64 th, .int .u64 tl] 24) = w1 at *
  obtain ⟨x, hx⟩ : ∃ x, x = w.heap.size := ⟨_, rfl⟩
  have HX := Lib.hid hx
  rw [← hx] at R0 ⊢
  clear hx
  go_loopw [5] (fun v5 wr => ∃ k : Nat, v5 = .int .i64 (k : Int) ∧ k ≤ n ∧ (∀ j p, j < k → L[j]? = some p → ls p.h p.l th tl = true) ∧ Hid (Below w1.heap.size w1 wr)) (fun v5 _ => n - (intOf v5).toNat)
  case atStart => exact ⟨0, rfl, Nat.zero_le _, fun j p hj => by omega, Lib.hid (Below.refl _ _)⟩
  case round =>
    obtain ⟨k, rfl, hk, hall, B⟩ := hrel
    have HALL := Lib.hid hall
    have hk0 : (0 : Int) ≤ (k : Int) := by omega
    clear hall
    by_cases hkn : k < n
    · obtain ⟨p, hp⟩ : ∃ p, L[k]? = some p := ⟨_, List.getElem?_eq_getElem (by rw [HN.out]; exact hkn)⟩
      obtain ⟨g, o, rfl, hg, hc⟩ := (H.out.below B.out) k p hp
      have a1 := hc 1 (by omega); have a2 := hc 2 (by omega)
      have R1 := row_keep R0.out (Keep.of_below B.out []) (by simp)
      have c0 := cell_of_row wr x 0 _ _ (0, 0) R1; have c1 := cell_of_row wr x 1 _ _ (0, 0) R1
      simp only [List.getElem?_cons_succ, List.getElem?_cons_zero, Nat.add_zero, List.getElem?_toArray] at a1 a2 c0 c1
      replace a1 := cell_regrown a1; replace a2 := cell_regrown a2; replace c0 := cell_regrown c0; replace c1 := cell_regrown c1
      have hki : (k : Int) < (n : Int) := by omega
      have CB := Lib.hid (fun d os => Calls.regrown_of (rless_any p.h p.l th tl (grow (redrawn wr d) os)))
      obtain ⟨bv, hbv⟩ : ∃ y, ls p.h p.l th tl = y := ⟨_, rfl⟩
      rw [hbv] at CB
      have HP := Lib.hid hp; have HBV := Lib.hid hbv
      clear hc hp hbv hg R1
      go_upto_region 4 with (fail)
      refine wp_region_quiet_below (by kernel_rfl) (by kernel_rfl) ?_
      repeat (go_big_quiet_step (exact CB.out _ _))
      refine wpQuiet_nil ?_
      intro _ hw'
      obtain ⟨⟨dq, osq⟩, hw''⟩ := hw'
      subst hw''
      have B2 := Lib.hid (below_next B.out (below_regrown wr dq osq))
      clear a1 a2 c0 c1 CB
      generalize grow (redrawn wr dq) osq = w3 at *
      cases bv with
      | false =>
        go_wp2_with fail
        go_ret
        have hf : L.findIdx? (fun x => !ls x.h x.l th tl) = some k := by
          rw [List.findIdx?_eq_some_iff_getElem]
          obtain ⟨hlt, hget⟩ := List.getElem?_eq_some_iff.1 HP.out
          refine ⟨hlt, by rw [hget, HBV.out]; rfl, fun j hj => ?_⟩
          rw [HALL.out j _ hj (List.getElem?_eq_getElem (by omega))]
          decide
        have hb : ownerN L th tl = k := by unfold ownerN; rw [hf]
        exact ⟨by rw [hb]; rfl, below_next B0.out B2.out⟩
      | true =>
        go_wp2_with fail
        go_roundw
        case rel => exact ⟨k + 1, by go_num, by omega, fun j q hj hq => by
          rcases Nat.lt_or_ge j k with h | h
          · exact HALL.out j q h hq
          · obtain rfl : j = k := by omega
            have := HP.out; rw [hq] at this; cases this; exact HBV.out, B2⟩
        case measure => simp [intOf]; omega
    · obtain rfl : n = k := by omega
      go_wp2_with fail
      go_ret
      have hf : L.findIdx? (fun x => !ls x.h x.l th tl) = none := by
        rw [List.findIdx?_eq_none_iff]
        intro p hp
        obtain ⟨j, hj⟩ := List.getElem?_of_mem hp
        rw [HALL.out j p (by rw [← HN.out]; exact (List.getElem?_eq_some_iff.1 hj).1) hj]
        rfl
      have hb : ownerN L th tl = 0 := by unfold ownerN; rw [hf]
      exact ⟨by rw [hb]; rfl, below_next B0.out B.out⟩
/-- how often a number is halved, rounded up, down to 1 -/
def logN (n : Nat) : Nat := if n ≤ 1 then 0 else if n ≤ 2 then 1 else if n ≤ 4 then 2 else if n ≤ 8 then 3 else 4
theorem logN_is {n k : Nat} (h16 : n ≤ 16) (hk : k ≤ 4) (hle : n ≤ 2 ^ k) (hlo : k = 0 ∨ 2 ^ (k - 1) < n) : logN n = k := by
  unfold logN
  rcases (by omega : k = 0 ∨ k = 1 ∨ k = 2 ∨ k = 3 ∨ k = 4) with rfl | rfl | rfl | rfl | rfl <;> simp only [Nat.reducePow, Nat.reduceSub, Nat.reduceEqDiff, false_or] at hle hlo <;> (repeat' split) <;> omega
set_option maxHeartbeats 2000000 in
theorem log_any (n : Nat) (h16 : n ≤ 16) : Ret 17 #[.int .i64 (n : Int)] (.returned (.int .i64 (logN n : Nat))) := by
  intro w
  have HN := Lib.hid h16
  clear h16
  go_enter Try.func17, Try.ntmps17
  go_wp2_with fail
  go_loopw [3, 4] (fun v3 v4 wr => ∃ k m : Nat, v3 = .int .i64 (k : Int) ∧ v4 = .int .i64 (m : Int) ∧ k ≤ 4 ∧ m = 2 ^ k ∧ (k = 0 ∨ 2 ^ (k - 1) < n) ∧ Hid (Below w.heap.size w wr)) (fun v3 _ _ => 5 - (intOf v3).toNat)
  case atStart => exact ⟨0, 1, rfl, rfl, by omega, rfl, .inl rfl, Lib.hid (Below.refl _ _)⟩
  case round =>
    obtain ⟨k, m, rfl, rfl, hk, hm, hlo, B⟩ := hrel
    have hm16 : m ≤ 16 := by
      rcases (by omega : k = 0 ∨ k = 1 ∨ k = 2 ∨ k = 3 ∨ k = 4) with rfl | rfl | rfl | rfl | rfl <;> simp only [Nat.reducePow] at hm <;> omega
    have HM := Lib.hid hm; have HLO := Lib.hid hlo
    by_cases hmn : m < n
    · have hmi : (m : Int) < (n : Int) := by omega
      have hk3 : k ≤ 3 := by
        rcases (by omega : k ≤ 3 ∨ k = 4) with h | rfl
        · exact h
        · have := HN.out; simp only [Nat.reducePow] at hm; omega
      clear hm hlo
      go_wp2_with fail
      go_roundw
      case rel => exact ⟨k + 1, 2 * m, by go_num, by go_num, by omega, by rw [HM.out, Nat.pow_succ]; omega, .inr (by rw [Nat.add_sub_cancel, ← HM.out]; exact hmn), B⟩
      case measure => simp [intOf]; omega
    · have hmi : ¬ (m : Int) < (n : Int) := by omega
      clear hm hlo
      go_wp2_with fail
      go_ret
      exact ⟨by rw [logN_is HN.out hk (by rw [← HM.out]; omega) HLO.out]; rfl, B.out⟩
end Go.Proofs.Ytokmchkoojeadaa
