/- FrameReads: the walk. -/
import Derived.Test.YtbbafjgbcmlacaaDoorWraps
import Derived.Test.YtbbafjgbcmlacaaDoorTwo
import Derived.Test.YtbbafjgbcmlacaaDoorArg2
namespace Go.Proofs.YtbbafjgbcmlacaaDoor
open Go.RowKit Go.Sort
set_option linter.unusedVariables false

theorem rest_len (l : List Nat) : (rest l).length ≤ l.length := by
  unfold rest; split
  · rw [List.length_drop]; omega
  · exact Nat.le_refl _
theorem body_len (l : List Nat) : (body l).length ≤ l.length := by
  unfold body; split
  · rw [List.length_drop, List.length_take]; omega
  · exact Nat.zero_le _

set_option maxRecDepth 10000 in
set_option maxHeartbeats 8000000 in
theorem frameReads_law (ao : Option Addr) (n cap : Nat) (hc : n ≤ cap) (hm : cap ≤ maxLen) (W : World) (ht : Tab W) (hr : OpsRd W ao n) :
    Calls Tryd.prog 5 #[.slice ao n cap] W (LawOk W) := by
  have hn : n ≤ 9223372036854775807 := Nat.le_trans hc hm
  have HA := Lib.hid (awake_any W ht)
  have HT := Lib.hid ht; have HR := Lib.hid hr
  clear ht hr hc hm
  go_enter Tryd.func5, Tryd.ntmps5
  go_wp2_with fail
  refine HA.out.mono ?_
  rintro e w1 ⟨rfl, b1⟩
  go_wp2_with fail
  refine (new_any w1).mono ?_
  rintro e w2 ⟨rfl, rfl⟩
  have h1 := (Held.new w1 W.heap.size b1.size 58)
  have b2 := below_alloc b1 (.cells #[.slice none 0 0] 58)
  have hs12 : w1.heap.size < (w1.alloc (.cells #[.slice none 0 0] 58)).heap.size := by simp
  generalize w1.alloc (.cells #[.slice none 0 0] 58) = w2 at *
  have h2 := (Held.new w2 W.heap.size b2.size 40)
  have b3 := below_alloc b2 (.cells #[.slice none 0 0] 40)
  have hh1 := h1.below (below_alloc (Below.refl _ w2) (.cells #[.slice none 0 0] 40))
  have tw : Two W.heap.size (w2.alloc (.cells #[.slice none 0 0] 40)) w1.heap.size w2.heap.size none 0 0 [] none 0 0 [] := ⟨hh1, h2, by omega, by simp [blk], by simp [blk], by simp [blk]⟩
  have TW := Lib.hid tw
  clear tw hh1 h2 h1 b2 b1
  go_wp2_with fail
  generalize w2.alloc (.cells #[.slice none 0 0] 40) = w3 at *
  obtain ⟨R1, hR1⟩ : ∃ R1, R1 = w1.heap.size := ⟨_, rfl⟩
  obtain ⟨R2, hR2⟩ : ∃ R2, R2 = w2.heap.size := ⟨_, rfl⟩
  rw [← hR1, ← hR2] at TW ⊢
  clear hR1 hR2 hs12
  go_loopw [6] (fun i wr => ∃ (j : Nat) (a1 : Option Addr) (c1 : Nat) (a2 : Option Addr) (c2 N : Nat) (L : List Nat), j ≤ n ∧ j ≤ 200 ∧ i = .int .i64 (j : Int) ∧ N ≤ 131072 ∧ Two W.heap.size wr R1 R2 a1 c1 N L a2 c2 N L ∧ Below W.heap.size W wr) (fun i _ => 201 - (intOf i).toNat)
  case atStart => exact ⟨0, none, 0, none, 0, 0, [], by omega, by omega, rfl, by omega, TW.out, b3⟩
  case round =>
    clear TW b3
    obtain ⟨j, a1, c1, a2, c2, N, L, hj1, hj2, rfl, hN, tw, hb⟩ := hrel
    by_cases hgo : j < n ∧ j < 200
    · obtain ⟨hj3, hj4⟩ := hgo
      obtain ⟨g, o, kind, bo, m, c, ms, rfl, hg, q0, q1, hms, hmc, hcm, hrd, hmb⟩ := HR.out j hj3
      have q0 := (hb.cell (p := ⟨g, o + j * 2, none⟩) hg).trans q0
      have q1 := (hb.cell (p := ⟨g, o + j * 2 + 1, none⟩) hg).trans q1
      have HRD := Lib.hid hrd; clear hrd
      have HMS := Lib.hid hms; clear hms
      by_cases k1 : kind = 1
      · subst k1
        have TB := Lib.hid (tw.below (below_alloc (Below.refl _ wr) (.cells #[.int .i64 1, .slice bo m c] 42)))
        have BB := Lib.hid (below_alloc hb (.cells #[.int .i64 1, .slice bo m c] 42))
        clear tw hb
        go_wp2_with fail
        generalize wr.alloc (.cells #[.int .i64 1, .slice bo m c] 42) = wb at *
        have RB := Lib.hid (show ∀ (S : List Nat) (w' : World), Keep S wb w' → (∀ q ∈ S, q = R1 ∨ q = R2 ∨ q ∈ blk a1 ∨ q ∈ blk a2) → Below W.heap.size W w' → Rd w' bo ms from fun _ w' _ _ b => HRD.out.below b)
        clear HRD q0 q1
        have hWb := BB.out.size
        have hlts := TB.out.lt
        obtain ⟨hlt1, hlt2, hla1, hla2⟩ := hlts
        refine (own_any bo m c ms HMS.out (by omega) wb (RB.out [] wb (Keep.refl [] _) (by simp) BB.out)).mono ?_
        rintro e w5 ⟨au, cu, rfl, ou5, b5⟩
        have du := fun q (hq : q ∈ blk au) => (ou5.lt_size q hq)
        have T5 := TB.out.below b5
        have B5 := BB.out.trans (b5.mono BB.out.size)
        have hcu := ou5.le
        have hs5 := b5.size
        have ru5 : Rd w5 au ms := by have := ou5.rd.take ms.length; rwa [List.take_left] at this
        by_cases hfit : N + m ≤ 131072

        · go_wp2_with fail
          refine (feed_in W.heap.size R1 a1 N c1 L au m cu ms HMS.out hfit w5 ru5 T5.h1).mono ?_
          rintro e w6 ⟨a1', c1', rfl, hh6, k6, n6⟩
          rw [HMS.out] at hh6
          have tw6 := T5.fst k6 (fun q hq => by rcases List.mem_cons.1 hq with h | h; exact .inl h; exact .inr h) hh6 n6
          have b6 := Below.keep B5 B5.size k6 (fun q hq => by rcases List.mem_cons.1 hq with rfl | h; exact T5.h1.base; exact (T5.h1.own.lt_size q h).1)
          have ou6 := ou5.keep k6 (fun q hq hm => by have := du q hq; rcases List.mem_cons.1 hm with rfl | h; omega; have := hla1 q h; omega)
          have RB6 := RB.out _ w6 ((Keep.of_below b5 _).trans k6) (fun q hq => by rcases List.mem_cons.1 hq with h | h; exact .inl h; exact .inr (.inr (.inl h))) b6
          have hs6 := k6.size
          have kk6 := (Keep.of_below b5 (R1 :: blk a1)).trans k6
          clear T5 B5 ru5 ou5 hh6
          go_wp2_with fail
          refine (rfeed_in W.heap.size R2 a2 N c2 L bo m c ms HMS.out hfit w6 RB6 tw6.h2).mono ?_
          rintro e w7 ⟨a2', c2', rfl, hh7, k7, n7⟩
          rw [HMS.out] at hh7
          have tw7 := tw6.snd k7 (fun q hq => by rcases List.mem_cons.1 hq with h | h; exact .inl h; exact .inr h) hh7 n7
          have b7 := Below.keep b6 b6.size k7 (fun q hq => by rcases List.mem_cons.1 hq with rfl | h; exact tw6.h2.base; exact (tw6.h2.own.lt_size q h).1)
          have ou := ou6.keep k7 (fun q hq hm => by have := du q hq; rcases List.mem_cons.1 hm with rfl | h; omega; have := hla2 q h; omega)
          have RB7 := Lib.hid (RB.out _ w7 ((kk6.mono (T := (R1 :: blk a1) ++ (R2 :: blk a2)) (fun q hq => .inl (List.mem_append_left _ hq))).trans (k7.mono (fun q hq => .inl (List.mem_append_right _ hq)))) (fun q hq => by
            rcases List.mem_append.1 hq with hq | hq
            · rcases List.mem_cons.1 hq with h | h; exact .inl h; exact .inr (.inr (.inl h))
            · rcases List.mem_cons.1 hq with h | h; exact .inr (.inl h); exact .inr (.inr (.inr h))) b7)
          have sa1 : ∀ q ∈ blk a1', q ∉ blk au := fun q hq hm => by have := du q hm; rcases n6 q hq with h | h; have := hla1 q h; omega; omega
          have sa2 : ∀ q ∈ blk a2', q ∉ blk au := fun q hq hm => by have := du q hm; rcases n7 q hq with h | h; have := hla2 q h; omega; omega
          clear tw6 b6 ou6 RB6 kk6 k6 k7 n6 n7 hh7 b5
          go_wp2_with fail
          have OU := Lib.hid ou; have T7 := Lib.hid tw7; have B7 := Lib.hid b7
          clear ou tw7 b7
          refine (still_any au bo m cu c ms HMS.out (by omega) (by omega) w7 OU.out.rd RB7.out).mono ?_
          rintro e w8 ⟨rfl, b8⟩
          have ou8 := (OU.out.take m (by omega)).below b8
          rw [List.take_left' HMS.out] at ou8
          have T8 := Lib.hid (T7.out.below b8)
          have B8 := Lib.hid (B7.out.trans (b8.mono B7.out.size))
          have OU8 := Lib.hid ou8
          have hs78 := b8.size
          clear ou8 b8 T7 B7 OU RB7
          go_wp2_with fail
          go_loopw [13] (fun i wl_ => ∃ (k : Nat) (U : List Nat), k ≤ m ∧ i = .int .i64 (k : Int) ∧ Own wl_ wb.heap.size au m cu U ∧ Keep (blk au) w8 wl_) (fun i _ => m - (intOf i).toNat)
          case atStart => exact ⟨0, _, by omega, rfl, OU8.out, Keep.refl _ _⟩
          case round =>
            obtain ⟨k, U, hk, rfl, ou9, k9⟩ := hrel
            by_cases hlt : k < m
            · obtain ⟨gu, ou_, rfl, hgu, hgus, hcell, hfr⟩ := ou9.at_ k hlt
              have OU9 := Lib.hid ou9; clear ou9
              go_wp2_with fail
              go_roundw
              case rel => exact ⟨k + 1, _, by omega, by go_num, OU9.out.set k 99 hlt (by omega), k9.trans (show Keep (blk (some ⟨gu, ou_, none⟩)) _ _ from Keep.setCell _ ⟨gu, ou_ + k, none⟩ _)⟩
              case measure => simp [intOf]; omega
            · obtain rfl : m = k := by omega
              have T9 := Lib.hid (T8.out.newer k9 (fun q hq => (du q hq).1) hlt1 hlt2 sa1 sa2)
              have B9 := Lib.hid (Below.keep B8.out B8.out.size k9 (fun q hq => Nat.le_trans hWb (du q hq).1))
              clear ou9 k9 hlt T8 B8 OU8
              have WT := Lib.hid (fun d os => Calls.regrown_of (same_below (waiting_any W.heap.size R1 a1' (N + m) c1' (L ++ ms) _ (T9.out.h1.below (below_regrown wr d os)))))
              have r2 := cell_regrown T9.out.h2.cell
              go_wp2_with fail
              refine wp_region_quiet_below (by kernel_rfl) (by kernel_rfl) ?_
              go_big_quiet_step (fail)
              go_big_quiet_step (exact WT.out _ _)
              go_big_quiet_step (fail)
              go_big_quiet_step (fail)
              go_big_quiet_step (fail)
              go_big_quiet_step (fail)
              go_big_quiet_step (fail)
              go_big_quiet_step (fail)
              refine wpQuiet_nil ?_
              intro _ hw'
              obtain ⟨⟨dq, osq⟩, hw''⟩ := hw'
              subst hw''
              have lk := below_regrown wr dq osq
              go_wp2_with fail
              go_roundw
              case rel => exact ⟨j + 1, a1', c1', a2', c2', N + m, L ++ ms, by omega, by omega, by go_num, hfit, T9.out.below lk, B9.out.trans (lk.mono B9.out.size)⟩
              case measure => (simp [intOf] <;> omega)

        · have hm2 : m ≤ 9223372036854775807 := by omega
          go_wp2_with fail
          refine (feed_out W.heap.size R1 a1 N c1 L au m cu hN (by omega) hm2 w5 T5.h1).mono ?_
          rintro e w6 ⟨rfl, rfl⟩
          go_wp2_with fail
          refine (rfeed_out W.heap.size R2 a2 N c2 L bo m c hN (by omega) hm2 w5 T5.h2).mono ?_
          rintro e w7 ⟨rfl, hw7⟩
          have RB7 := Lib.hid (RB.out [] w5 (Keep.of_below b5 []) (by simp) B5)
          have sa1 : ∀ q ∈ blk a1, q ∉ blk au := fun q hq hm => by have := du q hm; have := hla1 q hq; omega
          have sa2 : ∀ q ∈ blk a2, q ∉ blk au := fun q hq hm => by have := du q hm; have := hla2 q hq; omega
          have tw7 := T5
          have ou := ou5
          have b7 := B5
          rw [hw7] at RB7 tw7 ou b7
          clear hw7 T5 B5 ru5 ou5 b5
          go_wp2_with fail
          have OU := Lib.hid ou; have T7 := Lib.hid tw7; have B7 := Lib.hid b7
          clear ou tw7 b7
          refine (still_any au bo m cu c ms HMS.out (by omega) (by omega) w7 OU.out.rd RB7.out).mono ?_
          rintro e w8 ⟨rfl, b8⟩
          have ou8 := (OU.out.take m (by omega)).below b8
          rw [List.take_left' HMS.out] at ou8
          have T8 := Lib.hid (T7.out.below b8)
          have B8 := Lib.hid (B7.out.trans (b8.mono B7.out.size))
          have OU8 := Lib.hid ou8
          have hs78 := b8.size
          clear ou8 b8 T7 B7 OU RB7
          go_wp2_with fail
          go_loopw [13] (fun i wl_ => ∃ (k : Nat) (U : List Nat), k ≤ m ∧ i = .int .i64 (k : Int) ∧ Own wl_ wb.heap.size au m cu U ∧ Keep (blk au) w8 wl_) (fun i _ => m - (intOf i).toNat)
          case atStart => exact ⟨0, _, by omega, rfl, OU8.out, Keep.refl _ _⟩
          case round =>
            obtain ⟨k, U, hk, rfl, ou9, k9⟩ := hrel
            by_cases hlt : k < m
            · obtain ⟨gu, ou_, rfl, hgu, hgus, hcell, hfr⟩ := ou9.at_ k hlt
              have OU9 := Lib.hid ou9; clear ou9
              go_wp2_with fail
              go_roundw
              case rel => exact ⟨k + 1, _, by omega, by go_num, OU9.out.set k 99 hlt (by omega), k9.trans (show Keep (blk (some ⟨gu, ou_, none⟩)) _ _ from Keep.setCell _ ⟨gu, ou_ + k, none⟩ _)⟩
              case measure => simp [intOf]; omega
            · obtain rfl : m = k := by omega
              have T9 := Lib.hid (T8.out.newer k9 (fun q hq => (du q hq).1) hlt1 hlt2 sa1 sa2)
              have B9 := Lib.hid (Below.keep B8.out B8.out.size k9 (fun q hq => Nat.le_trans hWb (du q hq).1))
              clear ou9 k9 hlt T8 B8 OU8
              have WT := Lib.hid (fun d os => Calls.regrown_of (same_below (waiting_any W.heap.size R1 a1 (N) c1 (L) _ (T9.out.h1.below (below_regrown wr d os)))))
              have r2 := cell_regrown T9.out.h2.cell
              go_wp2_with fail
              refine wp_region_quiet_below (by kernel_rfl) (by kernel_rfl) ?_
              go_big_quiet_step (fail)
              go_big_quiet_step (exact WT.out _ _)
              go_big_quiet_step (fail)
              go_big_quiet_step (fail)
              go_big_quiet_step (fail)
              go_big_quiet_step (fail)
              go_big_quiet_step (fail)
              go_big_quiet_step (fail)
              refine wpQuiet_nil ?_
              intro _ hw'
              obtain ⟨⟨dq, osq⟩, hw''⟩ := hw'
              subst hw''
              have lk := below_regrown wr dq osq
              go_wp2_with fail
              go_roundw
              case rel => exact ⟨j + 1, a1, c1, a2, c2, N, L, by omega, by omega, by go_num, hN, T9.out.below lk, B9.out.trans (lk.mono B9.out.size)⟩
              case measure => (simp [intOf] <;> omega)
      · by_cases k3 : kind = 3
        · subst k3
          have TA := tw.below (below_alloc (Below.refl _ wr) (.cells #[.int .i64 3, .slice bo m c] 42))
          have BA := below_alloc hb (.cells #[.int .i64 3, .slice bo m c] 42)
          have TA' := Lib.hid TA; have BA' := Lib.hid BA
          clear tw hb TA BA
          go_wp2_with fail
          generalize wr.alloc (.cells #[.int .i64 3, .slice bo m c] 42) = wa at *
          refine (rwrap_u bo m c ms HMS.out (by omega) wa (HRD.out.below BA'.out)).mono ?_
          rintro e wb ⟨bo', c', rfl, ob, b4⟩
          have hwl := wl_lt ms
          have TB := Lib.hid (TA'.out.below b4)
          have BB := Lib.hid (BA'.out.trans (b4.mono BA'.out.size))
          have hna := TA'.out.lt
          have RB := Lib.hid (show ∀ (S : List Nat) (w' : World), Keep S wb w' → (∀ q ∈ S, q = R1 ∨ q = R2 ∨ q ∈ blk a1 ∨ q ∈ blk a2) → Below W.heap.size W w' → Rd w' bo' (wl ms) from fun S w' k hS _ => ob.rd.keep k (fun q hq hm => by
            have h1 := (ob.lt_size q hq).1
            rcases hS q hm with h | h | h | h
            · omega
            · omega
            · have := hna.2.2.1 q h; omega
            · have := hna.2.2.2 q h; omega))
          have HMS' := Lib.hid (show (wl ms).length = (wl ms).length from rfl)
          clear HMS HRD q0 q1 TA' BA' b4 hna hmb hmc hcm
          generalize wok ms = okw at *
          generalize hm' : (wl ms).length = m' at *
          generalize wl ms = ms' at *
          clear ob HMS'
          have HMS := Lib.hid hm'
          clear hm'
          have hmb : m' ≤ 140737488351232 := by omega
          go_wp2_with fail
          have hWb := BB.out.size
          have hlts := TB.out.lt
          obtain ⟨hlt1, hlt2, hla1, hla2⟩ := hlts
          refine (own_any bo' m' c' ms' HMS.out (by omega) wb (RB.out [] wb (Keep.refl [] _) (by simp) BB.out)).mono ?_
          rintro e w5 ⟨au, cu, rfl, ou5, b5⟩
          have du := fun q (hq : q ∈ blk au) => (ou5.lt_size q hq)
          have T5 := TB.out.below b5
          have B5 := BB.out.trans (b5.mono BB.out.size)
          have hcu := ou5.le
          have hs5 := b5.size
          have ru5 : Rd w5 au ms' := by have := ou5.rd.take ms'.length; rwa [List.take_left] at this
          by_cases hfit : N + m' ≤ 131072

          · go_wp2_with fail
            refine (feed_in W.heap.size R1 a1 N c1 L au m' cu ms' HMS.out hfit w5 ru5 T5.h1).mono ?_
            rintro e w6 ⟨a1', c1', rfl, hh6, k6, n6⟩
            rw [HMS.out] at hh6
            have tw6 := T5.fst k6 (fun q hq => by rcases List.mem_cons.1 hq with h | h; exact .inl h; exact .inr h) hh6 n6
            have b6 := Below.keep B5 B5.size k6 (fun q hq => by rcases List.mem_cons.1 hq with rfl | h; exact T5.h1.base; exact (T5.h1.own.lt_size q h).1)
            have ou6 := ou5.keep k6 (fun q hq hm => by have := du q hq; rcases List.mem_cons.1 hm with rfl | h; omega; have := hla1 q h; omega)
            have RB6 := RB.out _ w6 ((Keep.of_below b5 _).trans k6) (fun q hq => by rcases List.mem_cons.1 hq with h | h; exact .inl h; exact .inr (.inr (.inl h))) b6
            have hs6 := k6.size
            have kk6 := (Keep.of_below b5 (R1 :: blk a1)).trans k6
            clear T5 B5 ru5 ou5 hh6
            go_wp2_with fail
            refine (rfeed_in W.heap.size R2 a2 N c2 L bo' m' c' ms' HMS.out hfit w6 RB6 tw6.h2).mono ?_
            rintro e w7 ⟨a2', c2', rfl, hh7, k7, n7⟩
            rw [HMS.out] at hh7
            have tw7 := tw6.snd k7 (fun q hq => by rcases List.mem_cons.1 hq with h | h; exact .inl h; exact .inr h) hh7 n7
            have b7 := Below.keep b6 b6.size k7 (fun q hq => by rcases List.mem_cons.1 hq with rfl | h; exact tw6.h2.base; exact (tw6.h2.own.lt_size q h).1)
            have ou := ou6.keep k7 (fun q hq hm => by have := du q hq; rcases List.mem_cons.1 hm with rfl | h; omega; have := hla2 q h; omega)
            have RB7 := Lib.hid (RB.out _ w7 ((kk6.mono (T := (R1 :: blk a1) ++ (R2 :: blk a2)) (fun q hq => .inl (List.mem_append_left _ hq))).trans (k7.mono (fun q hq => .inl (List.mem_append_right _ hq)))) (fun q hq => by
              rcases List.mem_append.1 hq with hq | hq
              · rcases List.mem_cons.1 hq with h | h; exact .inl h; exact .inr (.inr (.inl h))
              · rcases List.mem_cons.1 hq with h | h; exact .inr (.inl h); exact .inr (.inr (.inr h))) b7)
            have sa1 : ∀ q ∈ blk a1', q ∉ blk au := fun q hq hm => by have := du q hm; rcases n6 q hq with h | h; have := hla1 q h; omega; omega
            have sa2 : ∀ q ∈ blk a2', q ∉ blk au := fun q hq hm => by have := du q hm; rcases n7 q hq with h | h; have := hla2 q h; omega; omega
            clear tw6 b6 ou6 RB6 kk6 k6 k7 n6 n7 hh7 b5
            go_wp2_with fail
            have OU := Lib.hid ou; have T7 := Lib.hid tw7; have B7 := Lib.hid b7
            clear ou tw7 b7
            refine (still_any au bo' m' cu c' ms' HMS.out (by omega) (by omega) w7 OU.out.rd RB7.out).mono ?_
            rintro e w8 ⟨rfl, b8⟩
            have ou8 := (OU.out.take m' (by omega)).below b8
            rw [List.take_left' HMS.out] at ou8
            have T8 := Lib.hid (T7.out.below b8)
            have B8 := Lib.hid (B7.out.trans (b8.mono B7.out.size))
            have OU8 := Lib.hid ou8
            have hs78 := b8.size
            clear ou8 b8 T7 B7 OU RB7
            go_wp2_with fail
            go_loopw [13] (fun i wl_ => ∃ (k : Nat) (U : List Nat), k ≤ m' ∧ i = .int .i64 (k : Int) ∧ Own wl_ wb.heap.size au m' cu U ∧ Keep (blk au) w8 wl_) (fun i _ => m' - (intOf i).toNat)
            case atStart => exact ⟨0, _, by omega, rfl, OU8.out, Keep.refl _ _⟩
            case round =>
              obtain ⟨k, U, hk, rfl, ou9, k9⟩ := hrel
              by_cases hlt : k < m'
              · obtain ⟨gu, ou_, rfl, hgu, hgus, hcell, hfr⟩ := ou9.at_ k hlt
                have OU9 := Lib.hid ou9; clear ou9
                go_wp2_with fail
                go_roundw
                case rel => exact ⟨k + 1, _, by omega, by go_num, OU9.out.set k 99 hlt (by omega), k9.trans (show Keep (blk (some ⟨gu, ou_, none⟩)) _ _ from Keep.setCell _ ⟨gu, ou_ + k, none⟩ _)⟩
                case measure => simp [intOf]; omega
              · obtain rfl : m' = k := by omega
                have T9 := Lib.hid (T8.out.newer k9 (fun q hq => (du q hq).1) hlt1 hlt2 sa1 sa2)
                have B9 := Lib.hid (Below.keep B8.out B8.out.size k9 (fun q hq => Nat.le_trans hWb (du q hq).1))
                clear ou9 k9 hlt T8 B8 OU8
                have WT := Lib.hid (fun d os => Calls.regrown_of (same_below (waiting_any W.heap.size R1 a1' (N + m') c1' (L ++ ms') _ (T9.out.h1.below (below_regrown wr d os)))))
                have r2 := cell_regrown T9.out.h2.cell
                go_wp2_with fail
                refine wp_region_quiet_below (by kernel_rfl) (by kernel_rfl) ?_
                go_big_quiet_step (fail)
                go_big_quiet_step (exact WT.out _ _)
                go_big_quiet_step (fail)
                go_big_quiet_step (fail)
                go_big_quiet_step (fail)
                go_big_quiet_step (fail)
                go_big_quiet_step (fail)
                go_big_quiet_step (fail)
                refine wpQuiet_nil ?_
                intro _ hw'
                obtain ⟨⟨dq, osq⟩, hw''⟩ := hw'
                subst hw''
                have lk := below_regrown wr dq osq
                go_wp2_with fail
                go_roundw
                case rel => exact ⟨j + 1, a1', c1', a2', c2', N + m', L ++ ms', by omega, by omega, by go_num, hfit, T9.out.below lk, B9.out.trans (lk.mono B9.out.size)⟩
                case measure => (simp [intOf] <;> omega)

          · have hm2 : m' ≤ 9223372036854775807 := by omega
            go_wp2_with fail
            refine (feed_out W.heap.size R1 a1 N c1 L au m' cu hN (by omega) hm2 w5 T5.h1).mono ?_
            rintro e w6 ⟨rfl, rfl⟩
            go_wp2_with fail
            refine (rfeed_out W.heap.size R2 a2 N c2 L bo' m' c' hN (by omega) hm2 w5 T5.h2).mono ?_
            rintro e w7 ⟨rfl, hw7⟩
            have RB7 := Lib.hid (RB.out [] w5 (Keep.of_below b5 []) (by simp) B5)
            have sa1 : ∀ q ∈ blk a1, q ∉ blk au := fun q hq hm => by have := du q hm; have := hla1 q hq; omega
            have sa2 : ∀ q ∈ blk a2, q ∉ blk au := fun q hq hm => by have := du q hm; have := hla2 q hq; omega
            have tw7 := T5
            have ou := ou5
            have b7 := B5
            rw [hw7] at RB7 tw7 ou b7
            clear hw7 T5 B5 ru5 ou5 b5
            go_wp2_with fail
            have OU := Lib.hid ou; have T7 := Lib.hid tw7; have B7 := Lib.hid b7
            clear ou tw7 b7
            refine (still_any au bo' m' cu c' ms' HMS.out (by omega) (by omega) w7 OU.out.rd RB7.out).mono ?_
            rintro e w8 ⟨rfl, b8⟩
            have ou8 := (OU.out.take m' (by omega)).below b8
            rw [List.take_left' HMS.out] at ou8
            have T8 := Lib.hid (T7.out.below b8)
            have B8 := Lib.hid (B7.out.trans (b8.mono B7.out.size))
            have OU8 := Lib.hid ou8
            have hs78 := b8.size
            clear ou8 b8 T7 B7 OU RB7
            go_wp2_with fail
            go_loopw [13] (fun i wl_ => ∃ (k : Nat) (U : List Nat), k ≤ m' ∧ i = .int .i64 (k : Int) ∧ Own wl_ wb.heap.size au m' cu U ∧ Keep (blk au) w8 wl_) (fun i _ => m' - (intOf i).toNat)
            case atStart => exact ⟨0, _, by omega, rfl, OU8.out, Keep.refl _ _⟩
            case round =>
              obtain ⟨k, U, hk, rfl, ou9, k9⟩ := hrel
              by_cases hlt : k < m'
              · obtain ⟨gu, ou_, rfl, hgu, hgus, hcell, hfr⟩ := ou9.at_ k hlt
                have OU9 := Lib.hid ou9; clear ou9
                go_wp2_with fail
                go_roundw
                case rel => exact ⟨k + 1, _, by omega, by go_num, OU9.out.set k 99 hlt (by omega), k9.trans (show Keep (blk (some ⟨gu, ou_, none⟩)) _ _ from Keep.setCell _ ⟨gu, ou_ + k, none⟩ _)⟩
                case measure => simp [intOf]; omega
              · obtain rfl : m' = k := by omega
                have T9 := Lib.hid (T8.out.newer k9 (fun q hq => (du q hq).1) hlt1 hlt2 sa1 sa2)
                have B9 := Lib.hid (Below.keep B8.out B8.out.size k9 (fun q hq => Nat.le_trans hWb (du q hq).1))
                clear ou9 k9 hlt T8 B8 OU8
                have WT := Lib.hid (fun d os => Calls.regrown_of (same_below (waiting_any W.heap.size R1 a1 (N) c1 (L) _ (T9.out.h1.below (below_regrown wr d os)))))
                have r2 := cell_regrown T9.out.h2.cell
                go_wp2_with fail
                refine wp_region_quiet_below (by kernel_rfl) (by kernel_rfl) ?_
                go_big_quiet_step (fail)
                go_big_quiet_step (exact WT.out _ _)
                go_big_quiet_step (fail)
                go_big_quiet_step (fail)
                go_big_quiet_step (fail)
                go_big_quiet_step (fail)
                go_big_quiet_step (fail)
                go_big_quiet_step (fail)
                refine wpQuiet_nil ?_
                intro _ hw'
                obtain ⟨⟨dq, osq⟩, hw''⟩ := hw'
                subst hw''
                have lk := below_regrown wr dq osq
                go_wp2_with fail
                go_roundw
                case rel => exact ⟨j + 1, a1, c1, a2, c2, N, L, by omega, by omega, by go_num, hN, T9.out.below lk, B9.out.trans (lk.mono B9.out.size)⟩
                case measure => (simp [intOf] <;> omega)
        · by_cases k2 : kind = 2
          · subst k2
            have TB := Lib.hid (tw.below (below_alloc (Below.refl _ wr) (.cells #[.int .i64 2, .slice bo m c] 42)))
            have BB := Lib.hid (below_alloc hb (.cells #[.int .i64 2, .slice bo m c] 42))
            clear tw hb HRD HMS
            go_wp2_with fail
            generalize wr.alloc (.cells #[.int .i64 2, .slice bo m c] 42) = wb at *
            clear q0 q1
            have hWb := BB.out.size
            obtain ⟨hlt1, hlt2, hla1, hla2⟩ := TB.out.lt
            refine (next_any W.heap.size R1 a1 N c1 L hN wb (HT.out.below BB.out) TB.out.h1).mono ?_
            rintro e w5 ⟨ab, cb, a1', c1', rfl, ob5, hh5, k5, n5, d5⟩
            have tw5 := TB.out.fst k5 (fun q hq => .inl (by simpa using hq)) hh5 n5
            have b5 := Below.keep BB.out BB.out.size k5 (fun q hq => by simp at hq; rw [hq]; exact TB.out.h1.base)
            have hs5 := k5.size
            have du := fun q (hq : q ∈ blk ab) => (ob5.lt_size q hq)
            go_wp2_with fail
            refine (rnext_any W.heap.size R2 a2 N c2 L hN w5 tw5.h2).mono ?_
            rintro e w6 ⟨ac, cc, a2', c2', rfl, oc, hh6, k6, n6, d6⟩
            have tw6 := tw5.snd k6 (fun q hq => .inl (by simpa using hq)) hh6 n6
            have b6 := Below.keep b5 b5.size k6 (fun q hq => by simp at hq; rw [hq]; exact tw5.h2.base)
            have ob6 := ob5.keep k6 (fun q hq hm => by have := du q hq; simp at hm; omega)
            have hs6 := k6.size
            have sa1 : ∀ q ∈ blk a1', q ∉ blk ab := fun q hq hm => d5 q hm hq
            have sa2 : ∀ q ∈ blk a2', q ∉ blk ab := fun q hq hm => by have := du q hm; rcases n6 q hq with h | h; have := hla2 q h; omega; omega
            have hrl : (rest L).length ≤ 131072 := by have := rest_len L; have := TB.out.h1.own.len; omega
            have hbl : (body L).length ≤ 131072 := by have := body_len L; have := TB.out.h1.own.len; omega
            clear tw5 b5 k5 k6 n5 n6 d5 d6 hh5 hh6 ob5 TB BB
            go_wp2_with fail
            refine (same_any ab ac _ _ cb cc (body L) (body L) rfl rfl (by omega) w6 ob6.rd oc.rd).mono ?_
            rintro e w7 ⟨rfl, b7⟩
            rw [beq_self_eq_true]
            have T7 := Lib.hid (tw6.below b7)
            have B7 := Lib.hid (b6.trans (b7.mono b6.size))
            have OB7 := Lib.hid (ob6.below b7)
            have hs7 := b7.size
            clear tw6 b6 ob6 oc b7
            generalize hQ : (rest L).length = Q at *
            generalize hP : (body L).length = P at *
            generalize got L = gt at *
            generalize flt L = ft at *
            generalize rest L = L' at *
            generalize body L = bd at *
            clear hQ hP
            go_wp2_with fail
            go_loopw [21] (fun i wr => ∃ (k : Nat) (U : List Nat), k ≤ P ∧ i = .int .i64 (k : Int) ∧ Own wr wb.heap.size ab P cb U ∧ Keep (blk ab) w7 wr) (fun i _ => P - (intOf i).toNat)
            case atStart => exact ⟨0, _, by omega, rfl, OB7.out, Keep.refl _ _⟩
            case round =>
              obtain ⟨k, U, hk, rfl, ou9, k9⟩ := hrel
              by_cases hlt : k < P
              · obtain ⟨gu, ou_, rfl, hgu, hgus, hcell, hfr⟩ := ou9.at_ k hlt
                have OU9 := Lib.hid ou9; clear ou9
                go_wp2_with fail
                go_roundw
                case rel => exact ⟨k + 1, _, by omega, by go_num, OU9.out.set k 98 hlt (by omega), k9.trans (show Keep (blk (some ⟨gu, ou_, none⟩)) _ _ from Keep.setCell _ ⟨gu, ou_ + k, none⟩ _)⟩
                case measure => simp [intOf]; omega
              · obtain rfl : P = k := by omega
                have T9 := Lib.hid (T7.out.newer k9 (fun q hq => (du q hq).1) hlt1 hlt2 sa1 sa2)
                have B9 := Lib.hid (Below.keep B7.out B7.out.size k9 (fun q hq => Nat.le_trans hWb (du q hq).1))
                have hsr := (OB7.out.keep (Keep.refl [] _) (by simp)).le
                have O9 := Lib.hid (ou9.below (below_alloc (Below.refl _ wr) (.cells #[u8v 98, u8v 98] 5)))
                have o98 := Lib.hid (Own.two wr 0 98 98 (by omega) (by omega) (Nat.zero_le _))
                have T9a := Lib.hid (T9.out.below (below_alloc (Below.refl _ wr) (.cells #[u8v 98, u8v 98] 5)))
                have B9a := Lib.hid (below_alloc B9.out (.cells #[u8v 98, u8v 98] 5))
                have hsz : wb.heap.size ≤ (wr.alloc (.cells #[u8v 98, u8v 98] 5)).heap.size := by have := k9.size; simp; omega
                clear ou9 k9 hlt T7 B7 OB7 T9 B9 hsr
                go_wp2_with (at_builtin; refine wpList_app rfl (.tmp 124) (.tmp 125) rfl rfl O9.out rfl o98.out.rd rfl hsz (by omega) ?_; intro ab2 cb2 w10 ob2 kb2 nb2; have T10 := Lib.hid (T9a.out.newer kb2 (fun q hq => (du q hq).1) hlt1 hlt2 sa1 sa2); have B10 := Lib.hid (Below.keep B9a.out B9a.out.size kb2 (fun q hq => Nat.le_trans hWb (du q hq).1)))
                clear ob2 kb2 nb2 O9 o98 T9a B9a
                have WT := Lib.hid (fun d os => Calls.regrown_of (same_below (waiting_any W.heap.size R1 a1' Q c1' L' _ (T10.out.h1.below (below_regrown w10 d os)))))
                have r2 := cell_regrown T10.out.h2.cell
                refine wp_region_quiet_below (by kernel_rfl) (by kernel_rfl) ?_
                go_big_quiet_step (fail)
                go_big_quiet_step (exact WT.out _ _)
                go_big_quiet_step (fail)
                go_big_quiet_step (fail)
                go_big_quiet_step (fail)
                go_big_quiet_step (fail)
                go_big_quiet_step (fail)
                go_big_quiet_step (fail)
                refine wpQuiet_nil ?_
                intro _ hw'
                obtain ⟨⟨dq, osq⟩, hw''⟩ := hw'
                subst hw''
                have lk := below_regrown w10 dq osq
                go_wp2_with fail
                go_roundw
                case rel => exact ⟨j + 1, a1', c1', a2', c2', Q, L', by omega, by omega, by go_num, hrl, T10.out.below lk, B10.out.trans (lk.mono B10.out.size)⟩
                case measure => (simp [intOf] <;> omega)
          · have TB := Lib.hid (tw.below (below_alloc (Below.refl _ wr) (.cells #[.int .i64 kind, .slice bo m c] 42)))
            have BB := Lib.hid (below_alloc hb (.cells #[.int .i64 kind, .slice bo m c] 42))
            have WT := Lib.hid (fun d os => Calls.regrown_of (same_below (waiting_any W.heap.size R1 a1 N c1 L _ (TB.out.h1.below (below_regrown _ d os)))))
            have r2 := cell_regrown TB.out.h2.cell
            clear tw hb HRD HMS
            go_wp2_with fail
            generalize wr.alloc (.cells #[.int .i64 kind, .slice bo m c] 42) = wb at *
            clear q0 q1
            refine wp_region_quiet_below (by kernel_rfl) (by kernel_rfl) ?_
            go_big_quiet_step (fail)
            go_big_quiet_step (exact WT.out _ _)
            go_big_quiet_step (fail)
            go_big_quiet_step (fail)
            go_big_quiet_step (fail)
            go_big_quiet_step (fail)
            go_big_quiet_step (fail)
            go_big_quiet_step (fail)
            refine wpQuiet_nil ?_
            intro _ hw'
            obtain ⟨⟨dq, osq⟩, hw''⟩ := hw'
            subst hw''
            have lk := below_regrown wb dq osq
            go_wp2_with fail
            go_roundw
            case rel => exact ⟨j + 1, a1, c1, a2, c2, N, L, by omega, by omega, by go_num, hN, TB.out.below lk, BB.out.trans (lk.mono BB.out.size)⟩
            case measure => (simp [intOf] <;> omega)
    · have hex : ¬ j < n ∨ (j < n ∧ ¬ j < 200) := by omega
      clear tw hgo
      rcases hex with h | ⟨h, h'⟩
      all_goals
        go_wp2_with fail
        go_ret
        exact ⟨rfl, hb⟩
end Go.Proofs.YtbbafjgbcmlacaaDoor
