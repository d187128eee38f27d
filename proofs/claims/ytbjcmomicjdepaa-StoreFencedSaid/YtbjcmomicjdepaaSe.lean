/- SameEntries of two slices that hold the same. -/
import Derived.Test.YtbjcmomicjdepaaArg
namespace Go.Proofs.Ytbjcmomicjdepaa
open Go.RowKit Go.Sort
set_option linter.unusedVariables false
set_option linter.unusedSimpArgs false
set_option maxRecDepth 100000
set_option maxHeartbeats 4000000 in
theorem same_ents (w : World) (s t : Sd) (es : List En) (hs : EsR w s es) (ht : EsR w t es) : Calls Try.prog 30 #[.slice s.ao es.length s.cap, .slice t.ao es.length t.cap] w fun e w' => e = .returned (.bool true) ∧ Below w.heap.size w w' := by
  have HS := Lib.hid hs; have HT := Lib.hid ht
  obtain ⟨n, hn⟩ : ∃ n, es.length = n := ⟨_, rfl⟩
  have hmx : n ≤ maxLen := by rw [← hn]; exact hs.len
  have hmi : (n : Int) ≤ 9223372036854775807 := by unfold maxLen at hmx; omega
  have HN := Lib.hid hn
  obtain ⟨sa, sc⟩ := s
  obtain ⟨ta, tc⟩ := t
  simp only
  rw [hn]
  clear hn hs ht hmx
  go_enter Try.func30, Try.ntmps30
  go_wp2_with fail
  go_loopw [5] (fun v5 wr => ∃ k : Nat, v5 = .int .i64 (k : Int) ∧ k ≤ n ∧ Hid (Below w.heap.size w wr)) (fun v5 _ => n - (intOf v5).toNat)
  case atStart => exact ⟨0, rfl, Nat.zero_le _, Lib.hid (Below.refl _ _)⟩
  case round =>
    obtain ⟨k, rfl, hk, B⟩ := hrel
    by_cases hkn : k < n
    · obtain ⟨e, he⟩ : ∃ e, es[k]? = some e := ⟨_, List.getElem?_eq_getElem (by rw [HN.out]; exact hkn)⟩
      obtain ⟨g, o, h1, _, a0, a1⟩ := (HS.out.below B.out).cells he
      obtain ⟨g2, o2, h2, _, b0, b1⟩ := (HT.out.below B.out).cells he
      simp only at h1 h2
      subst h1 h2
      have hki : (k : Int) < (n : Int) := by omega
      have hk0 : (0 : Int) ≤ (k : Int) := by omega
      clear he
      obtain ⟨ek, ev⟩ := e
      simp only at a0 a1 b0 b1
      go_upto_region 6 with (fail)
      go_quiet (fail)
      clear a0 a1 b0 b1
      go_wp2_with fail
      go_roundw
      case rel => exact ⟨k + 1, by go_num, by omega, Lib.hid (below_next B.out (below_drewN _ _))⟩
      case measure => simp [intOf]; omega
    · obtain rfl : n = k := by omega
      go_wp2_with fail
      go_ret
      exact ⟨rfl, B.out⟩
end Go.Proofs.Ytbjcmomicjdepaa
