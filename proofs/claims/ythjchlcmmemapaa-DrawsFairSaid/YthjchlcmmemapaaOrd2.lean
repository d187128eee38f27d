/- Order refused; Order of the document's answer. -/
import Derived.Test.YthjchlcmmemapaaOrd
namespace Go.Proofs.Ythjchlcmmemapaa
open Go.RowKit Go.Sort
set_option linter.unusedVariables false

set_option maxHeartbeats 1000000 in
theorem order_no (p : Option Addr) (n : Int) (h : p = none ∨ n < 0 ∨ 1000 < n) (w : World) :
    Calls Try.prog 20 #[.pointer p, .int .i64 n] w fun e w' => e = .returned (.tuple #[.slice none 0 0, .int .i64 1]) ∧ w = w' := by
  cases p with
  | none =>
    go_enter Try.func20, Try.ntmps20
    go_wp2_with fail
    go_ret2
    exact ⟨rfl, rfl⟩
  | some q =>
    have hn : n < 0 ∨ 1000 < n := by simpa using h
    clear h
    rcases hn with hn | hn
    · go_enter Try.func20, Try.ntmps20
      go_wp2_with fail
      go_ret2
      exact ⟨rfl, rfl⟩
    · go_enter Try.func20, Try.ntmps20
      go_wp2_with fail
      go_ret2
      exact ⟨rfl, rfl⟩

set_option maxHeartbeats 4000000 in
theorem rorder_any (B g s n : Nat) (hn : n ≤ 1000) (w : World) (hg : Gen w B g s) :
    Calls Try.prog 29 #[.pointer (some ⟨g, 0, none⟩), .int .i64 (n : Int)] w fun e w' => ∃ ao cap, e = .returned (.slice ao n cap) ∧ Mixed B g n (ordF s n).1 (ordF s n).2 w w' ao cap := by
  have HG := Lib.hid hg; clear hg
  have HF := Lib.hid (show ordM n s (idl n) = ordF s n from rfl)
  generalize ordF s n = F at *
  go_enter Try.func29, Try.ntmps29
  go_wp2_with fail
  go_loopw [5, 6] (fun v i wr => ∃ (k : Nat) (ao : Option Addr) (cap : Nat), k ≤ n ∧ i = .int .i64 (k : Int) ∧ v = .slice ao k cap ∧ Own wr w.heap.size ao k cap (idl k) ∧ Below w.heap.size w wr) (fun _ i _ => n - (intOf i).toNat)
  case atStart => exact ⟨0, none, 0, by omega, rfl, rfl, Own.nil _ _, Below.refl _ _⟩
  case round =>
    obtain ⟨k, ao, cap, hk, rfl, rfl, ho, hb⟩ := hrel
    by_cases hlt : k < n
    · have hs := hb.size
      have HO := Lib.hid ho; clear ho
      have HS := Lib.hid (idl_succ k)
      go_wp2_with (at_builtin; refine wpList_app rfl (.tmp 15) (.tmp 17) rfl rfl (HO.out.below (below_alloc (Below.refl _ _) _)) rfl (Own.one wr 0 (k : Int) (by unfold okI; omega) (by omega)).rd rfl (by simp; omega) (by omega) ?_; intro ao2 cap2 w2 hown2 hk2 hn2)
      have hb2 := (HO.out.below (below_alloc (Below.refl _ _) _)).step (hb.alloc hb.size _) (by simp; omega) hk2
      go_roundw
      case rel => exact ⟨k + 1, ao2, cap2, by omega, by go_num, rfl, by rw [HS.out]; exact hown2, hb2⟩
      case measure => simp [intOf]; omega
    · obtain rfl : k = n := by omega
      have HO3 := Lib.hid ho
      have HG3 := Lib.hid (HG.out.below hb)
      have K3 := Lib.hid (Keep.of_below hb [g])
      clear ho hb
      generalize wr = w3 at *
      go_wp2_with fail
      go_loopw [7, 8, 9] (fun i x y wr => ∃ (m s' : Nat) (L : List Int), m ≤ k ∧ i = .int .i64 ((m : Int) - 1) ∧ ordM m s' L = F ∧ Own wr w.heap.size ao k cap L ∧ Gen wr B g s' ∧ Keep [g] w wr) (fun i _ _ _ => (intOf i).toNat)
      case atStart => exact ⟨k, s, _, by omega, rfl, HF.out, HO3.out, HG3.out, K3.out⟩
      case round =>
        obtain ⟨m, s', L, hm, rfl, hF, ho, hg, hk⟩ := hrel
        clear HO3 HG3 K3 HF
        have hne : g ∉ blk ao := fun h => by have := (ho.lt_size g h).1; have := HG.out.lt; omega
        have HK := Lib.hid hk; clear hk
        by_cases hlt : 2 ≤ m
        · obtain ⟨q, rfl⟩ : ∃ q, m = q + 1 := ⟨m - 1, by omega⟩
          have hbl := bel_lt s' (q + 1) (by omega)
          have rb := rbelow_any B g s' wr hg (q + 1) (by omega)
          have ec : ((q + 1 : Nat) : Int) = (q : Int) + 1 := by omega
          have ei : ((q + 1 : Nat) : Int) - 1 = (q : Int) := by omega
          rw [ec] at rb
          rw [ei]
          have RB := Lib.hid rb
          have HO := Lib.hid ho
          rw [ordM_step q s' L (by omega)] at hF
          have HF := Lib.hid hF
          clear hF rb ho hg ec ei
          -- no 'generalize': the kernel would open bel's numbers
          obtain ⟨j, hj⟩ : ∃ j, bel s' (q + 1) = j := ⟨_, rfl⟩
          rw [hj] at HF hbl RB
          clear hj
          go_wp2_with fail
          refine RB.out.mono ?_; rintro e w4 ⟨rfl, hg4, k4⟩
          have ho4 := HO.out.keep k4 (fun x hx hm => by rw [List.mem_singleton] at hm; subst hm; exact hne hx)
          have hk4 := HK.out.trans k4
          obtain ⟨g1, o1, rfl, hB1, hgs1, hc1, hf1⟩ := ho4.at_ q (by omega)
          obtain ⟨g2, o2, e2, hB2, hgs2, hc2, hf2⟩ := ho4.at_ j (by omega)
          cases e2
          have HG4 := Lib.hid hg4
          have hN := ho4.len
          have okq := ho4.rd.byte q
          have okj := ho4.rd.byte j
          have ho5 := ho4.set q (bt L j) (by omega) okj
          obtain ⟨g3, o3, e3, hB3, hgs3, hc5, hf5⟩ := ho5.at_ j (by omega)
          cases e3
          have ho6 := ho5.set j (bt L q) (by omega) okq
          have HO6 := Lib.hid ho6
          have kk := ((Keep.setCell w4 ⟨g1, o1 + q, none⟩ (u8v (bt L j))).trans (Keep.setCell (w4.setCell ⟨g1, o1 + q, none⟩ (u8v (bt L j))) ⟨g1, o1 + j, none⟩ (u8v (bt L q))))
          have hgg : g ≠ g1 := fun h => hne (by simp [blk, h])
          have GEN6 := Lib.hid (HG4.out.keep kk (by simpa using hgg))
          have KEEP6 := Lib.hid (((hk4.mono (T := [g, g1]) (fun x hx => .inl (by simp at hx; simp [hx]))).trans (kk.mono (T := [g, g1]) (fun x hx => .inl (by simp at hx; simp [hx])))).mono (T := [g]) (fun x hx => by
            rcases List.mem_cons.1 hx with h | h
            · exact .inl (by simp [h])
            · simp at h; subst h; exact .inr hB1))
          have i1 : (q : Int) < (k : Int) := by omega
          have i2 : (j : Int) < (k : Int) := by omega
          have HM := Lib.hid hm
          clear kk hgg hk4 k4 RB HO HK ho4 ho5 ho6 hg4 hN okq okj hgs1 hgs2 hgs3 hB2 hB3 hB1 HG4 hlt hm
          go_wp2_with fail
          go_roundw
          case rel => exact ⟨q, nx s', swp L q j, by have := HM.out; omega, by go_num, HF.out, HO6.out, GEN6.out, KEEP6.out⟩
          case measure => simp [intOf]; omega
        · have hE := ordM_end m s' L (by omega)
          rw [hE] at hF
          have HF := Lib.hid hF
          have HO := Lib.hid ho; have HG5 := Lib.hid hg
          clear hF hE hg ho
          go_wp2_with fail
          go_ret
          exact ⟨ao, cap, rfl, by rw [← HF.out]; exact HO.out, by rw [← HF.out]; exact HG5.out, HK.out⟩
end Go.Proofs.Ythjchlcmmemapaa
