/- InboxCalls: the walk. -/
import Derived.Test.YtjhdlohcjodgjaaTwin8
import Derived.Test.YtjhdlohcjodgjaaArg
namespace Go.Proofs.Ytjhdlohcjodgjaa
open Go.RowKit
set_option linter.unusedVariables false

theorem next_val (S : List Cal) : ∃ (d : Int) (b : Bool), ∀ e, NextIs S e → e = .returned (.tuple #[.int .i64 d, .bool b]) := by
  by_cases h : ∃ d, Soon S d
  · obtain ⟨d, hd⟩ := h
    refine ⟨d, true, fun e he => ?_⟩
    rcases he with ⟨h1, h2⟩ | ⟨d', h1, h2⟩
    · subst h1
      obtain ⟨⟨x, hx, _⟩, _⟩ := hd
      cases hx
    · obtain ⟨⟨x, hx, e1⟩, l1⟩ := hd
      obtain ⟨⟨y, hy, e2⟩, l2⟩ := h1
      have g1 := l1 y hy
      have g2 := l2 x hx
      rw [show d' = d by omega] at h2
      exact h2
  · refine ⟨0, false, fun e he => ?_⟩
    rcases he with ⟨h1, h2⟩ | ⟨d', h1, h2⟩
    · exact h2
    · exact absurd ⟨d', h1⟩ h
theorem TwinW.start {w : World} {B hn gm : Nat} {C : Cfg} (h : CalsW w B hn gm [] C 0) (hB : B ≤ w.heap.size) :
    TwinW ((w.alloc (.cells (rowR C (.slice none 0 0)) 52)).alloc (.cells #[.pointer (some ⟨hn, 0, none⟩), .pointer (some ⟨w.heap.size, 0, none⟩), .int .i64 0] 54)) B (w.heap.size + 1) hn gm w.heap.size 0 none [] C 0 := by
  have b1 := below_alloc (Below.refl w.heap.size w) (.cells (rowR C (.slice none 0 0)) 52)
  have b2 := below_alloc (Below.refl (w.alloc (.cells (rowR C (.slice none 0 0)) 52)).heap.size (w.alloc (.cells (rowR C (.slice none 0 0)) 52))) (.cells #[.pointer (some ⟨hn, 0, none⟩), .pointer (some ⟨w.heap.size, 0, none⟩), .int .i64 0] 54)
  have hlts := h.lts
  have e1 : (w.alloc (.cells (rowR C (.slice none 0 0)) 52)).heap.size = w.heap.size + 1 := by simp
  have r2 := heap_alloc_new (w.alloc (.cells (rowR C (.slice none 0 0)) 52)) (.cells #[.pointer (some ⟨hn, 0, none⟩), .pointer (some ⟨w.heap.size, 0, none⟩), .int .i64 0] 54)
  rw [e1] at r2
  refine ⟨(h.below b1).below b2, ⟨(b2.block w.heap.size (by omega)).trans (heap_alloc_new w _), ⟨rfl, .inl ⟨rfl, rfl⟩⟩, by simp [blk], hB, by simp, by simp, h.ok⟩, r2, by omega, ⟨by omega, by omega, by omega, by simp [blk]⟩, ⟨by omega, by omega, by simp [blk], by simp [blk]⟩, by simp, by omega⟩
set_option maxRecDepth 100000 in
set_option maxHeartbeats 8000000 in
theorem inboxCalls_no (r b m t : Int) (hs : setB r b m t = false) (ao : Option Addr) (n cap : Nat) (W : World) :
    Calls Try.prog 4 #[.agg #[.int .i64 r, .int .i64 b, .int .i64 m, .int .i64 t], .slice ao n cap] W (LawOk W) := by
  have N1 := Lib.hid (newcalls_no r b m t hs)
  have F1 := Lib.hid (fair_any b m)
  have hw : fairB b m = false ∨ (fairB b m = true ∧ r < 1) ∨ (fairB b m = true ∧ 1 ≤ r ∧ 256 < r) ∨ (fairB b m = true ∧ 1 ≤ r ∧ r ≤ 256 ∧ t < 1) ∨ (fairB b m = true ∧ 1 ≤ r ∧ r ≤ 256 ∧ 1 ≤ t ∧ 16 < t) := by
    unfold setB roomB at hs
    cases hf : fairB b m
    · exact .inl rfl
    · rw [hf] at hs
      simp at hs
      by_cases h1 : r < 1
      · exact .inr (.inl ⟨rfl, h1⟩)
      by_cases h2 : 256 < r
      · exact .inr (.inr (.inl ⟨rfl, by omega, h2⟩))
      by_cases h3 : t < 1
      · exact .inr (.inr (.inr (.inl ⟨rfl, by omega, by omega, h3⟩)))
      · exact .inr (.inr (.inr (.inr ⟨rfl, by omega, by omega, by omega, by omega⟩)))
  have B0 := Lib.hid (below_alloc (Below.refl W.heap.size W) (.cells #[.int .i64 r, .int .i64 b, .int .i64 m, .int .i64 t] 42))
  have R0 := Lib.hid (fun i => cell_of_row (W.alloc (.cells #[.int .i64 r, .int .i64 b, .int .i64 m, .int .i64 t] 42)) W.heap.size i _ _ (0, 0) (heap_alloc_new W _))
  have HS := Lib.hid (show W.heap.size < (W.alloc (.cells #[.int .i64 r, .int .i64 b, .int .i64 m, .int .i64 t] 42)).heap.size by simp)
  clear hs
  go_enter Try.func4, Try.ntmps4
  go_wp2_with fail
  refine (awake_any _).mono ?_; rintro e w1 ⟨rfl, b1⟩
  have c0 := (b1.cell (p := ⟨W.heap.size, 0, none⟩) HS.out).trans (R0.out 0)
  have c1 := (b1.cell (p := ⟨W.heap.size, 1, none⟩) HS.out).trans (R0.out 1)
  have c2 := (b1.cell (p := ⟨W.heap.size, 2, none⟩) HS.out).trans (R0.out 2)
  have c3 := (b1.cell (p := ⟨W.heap.size, 3, none⟩) HS.out).trans (R0.out 3)
  simp only [List.getElem?_toArray, List.getElem?_cons_succ, List.getElem?_cons_zero] at c0 c1 c2 c3
  have BB := Lib.hid (below_next B0.out b1)
  clear b1 B0 R0 HS
  generalize W.heap.size = bx at c0 c1 c2 c3 ⊢
  go_wp2_with fail
  refine (N1.out _).mono ?_; rintro e w2 ⟨rfl, rfl⟩
  go_wp2_with fail
  refine (F1.out _).mono ?_; rintro e w2 ⟨rfl, rfl⟩
  rcases hw with h1 | ⟨h1, h2⟩ | ⟨h1, h2, h3⟩ | ⟨h1, h2, h3, h4⟩ | ⟨h1, h2, h3, h4, h5⟩
  all_goals rw [h1]
  all_goals clear h1 N1 F1
  all_goals try (have hd : decide (t ≤ 16) = false := by (simp; omega))
  all_goals go_wp2_with fail
  all_goals go_ret
  all_goals exact ⟨rfl, BB.out⟩

set_option maxRecDepth 100000 in
set_option maxHeartbeats 8000000 in
theorem inboxCalls_yes (C : Cfg) (hC : C.ok) (ao : Option Addr) (n cap : Nat) (W : World) (hr : OpsRd W ao n) :
    Calls Try.prog 4 #[.agg #[.int .i64 (C.room : Int), .int .i64 (C.base : Int), .int .i64 (C.most : Int), .int .i64 (C.tries : Int)], .slice ao n cap] W (LawOk W) := by
  have HR := Lib.hid hr
  clear hr
  have N1 := Lib.hid (newcalls_yes C hC)
  have F1 := Lib.hid (fair_any (C.base : Int) (C.most : Int))
  rw [show fairB (C.base : Int) (C.most : Int) = true by obtain ⟨_, _, h3, h4, h5, _, _⟩ := hC; unfold fairB; simp; omega] at F1
  have hq : (1 : Int) ≤ (C.room : Int) ∧ (C.room : Int) ≤ 256 ∧ (1 : Int) ≤ (C.tries : Int) ∧ (C.tries : Int) ≤ 16 := by obtain ⟨h1, h2, _, _, _, h6, h7⟩ := hC; omega
  have HC := Lib.hid hC
  clear hC
  obtain ⟨room, hroom⟩ : ∃ x : Int, x = (C.room : Int) := ⟨_, rfl⟩
  obtain ⟨base, hbase⟩ : ∃ x : Int, x = (C.base : Int) := ⟨_, rfl⟩
  obtain ⟨most, hmost⟩ : ∃ x : Int, x = (C.most : Int) := ⟨_, rfl⟩
  obtain ⟨tries, htries⟩ : ∃ x : Int, x = (C.tries : Int) := ⟨_, rfl⟩
  have HI := Lib.hid (show room = (C.room : Int) ∧ base = (C.base : Int) ∧ most = (C.most : Int) ∧ tries = (C.tries : Int) from ⟨hroom, hbase, hmost, htries⟩)
  rw [← hroom, ← htries] at hq
  rw [← hbase, ← hmost] at F1
  rw [← hroom, ← hbase, ← hmost, ← htries] at N1 ⊢
  clear hroom hbase hmost htries
  obtain ⟨q1, q2, q3, q4⟩ := hq
  have B0 := Lib.hid (below_alloc (Below.refl W.heap.size W) (.cells #[.int .i64 room, .int .i64 base, .int .i64 most, .int .i64 tries] 42))
  have R0 := Lib.hid (fun i => cell_of_row (W.alloc (.cells #[.int .i64 room, .int .i64 base, .int .i64 most, .int .i64 tries] 42)) W.heap.size i _ _ (0, 0) (heap_alloc_new W _))
  have HS := Lib.hid (show W.heap.size < (W.alloc (.cells #[.int .i64 room, .int .i64 base, .int .i64 most, .int .i64 tries] 42)).heap.size by simp)
  go_enter Try.func4, Try.ntmps4
  go_wp2_with fail
  refine (awake_any _).mono ?_; rintro e w1 ⟨rfl, b1⟩
  have c0 := (b1.cell (p := ⟨W.heap.size, 0, none⟩) HS.out).trans (R0.out 0)
  have c1 := (b1.cell (p := ⟨W.heap.size, 1, none⟩) HS.out).trans (R0.out 1)
  have c2 := (b1.cell (p := ⟨W.heap.size, 2, none⟩) HS.out).trans (R0.out 2)
  have c3 := (b1.cell (p := ⟨W.heap.size, 3, none⟩) HS.out).trans (R0.out 3)
  simp only [List.getElem?_toArray, List.getElem?_cons_succ, List.getElem?_cons_zero] at c0 c1 c2 c3
  have BB1 := Lib.hid (below_next B0.out b1)
  have hx1 : W.heap.size < w1.heap.size := Nat.lt_of_lt_of_le HS.out b1.size
  clear b1 B0 R0 HS
  go_wp2_with fail
  refine (N1.out _).mono ?_; rintro e w2 ⟨hn, gm, rfl, h2, b2⟩
  replace c0 := (b2.cell (p := ⟨W.heap.size, 0, none⟩) hx1).trans c0
  replace c1 := (b2.cell (p := ⟨W.heap.size, 1, none⟩) hx1).trans c1
  replace c2 := (b2.cell (p := ⟨W.heap.size, 2, none⟩) hx1).trans c2
  replace c3 := (b2.cell (p := ⟨W.heap.size, 3, none⟩) hx1).trans c3
  have BB2 := Lib.hid (below_next BB1.out b2)
  have hs2 : w1.heap.size ≤ w2.heap.size := b2.size
  have HT := Lib.hid (TwinW.start h2 hs2)
  obtain ⟨Bn, hBn⟩ : ∃ Bn, w1.heap.size = Bn := ⟨_, rfl⟩
  rw [hBn] at HT hs2
  have hWB : W.heap.size ≤ Bn := by omega
  have HW3 := Lib.hid (below_alloc (below_alloc BB2.out (.cells (rowR C (.slice none 0 0)) 52)) (.cells #[.pointer (some ⟨hn, 0, none⟩), .pointer (some ⟨w2.heap.size, 0, none⟩), .int .i64 0] 54))
  clear b2 h2 BB1 BB2 N1 hBn hx1
  unfold rowR at HT HW3
  rw [← HI.out.1, ← HI.out.2.1, ← HI.out.2.2.1, ← HI.out.2.2.2] at HT HW3
  go_wp2_with fail
  refine (F1.out _).mono ?_; rintro e w3 ⟨rfl, rfl⟩
  go_wp2_with fail
  generalize ((w2.alloc (.cells #[.int .i64 base, .int .i64 most, .int .i64 tries, .int .i64 room, .slice none 0 0] 52)).alloc (.cells #[.pointer (some ⟨hn, 0, none⟩), .pointer (some ⟨w2.heap.size, 0, none⟩), .int .i64 0] 54)) = w3 at *
  generalize w2.heap.size + 1 = tb at *
  generalize w2.heap.size = rb0 at HT
  clear c0 c1 c2 c3 hs2 q1 q2 q3 q4 F1 HI
  go_loopw [11] (fun i wr => ∃ k gm rb cap ao T C now, k ≤ n ∧ k ≤ 400 ∧ i = .int .i64 ((k : Nat) : Int) ∧ TwinW wr Bn tb hn gm rb cap ao T C now ∧ T.length ≤ k ∧ Below W.heap.size W wr) (fun i _ => n - (intOf i).toNat)
  case atStart => exact ⟨0, gm, rb0, 0, none, [], C, 0, by omega, by omega, rfl, HT.out, by simp, HW3.out⟩
  case round =>
    clear HT HW3 HC
    obtain ⟨k, gm, rb, cap, ao', T, C, now, hkn, hk4, rfl, ht, hlen, hb⟩ := hrel
    have HT := Lib.hid ht; have HB := Lib.hid hb
    clear ht hb
    by_cases hlt : k < n
    · by_cases h400 : k < 400
      · obtain ⟨g, o, kind, num, x, raw, rfl, hg, c0, c1, c2, c3⟩ := (HR.out.below HB.out) k hlt
        have ST := Lib.hid (step_any kind num x raw HT.out hlen (by omega))
        go_wp2_with fail
        refine ST.out.mono ?_; rintro e w4 ⟨rfl, ⟨gm', rb', cap', ao2, T', C', now', ht4, hlen4⟩, b4⟩
        have HT4 := Lib.hid ht4; have B4 := Lib.hid (HB.out.trans (b4.mono hWB))
        clear ht4 b4 ST HT HB c0 c1 c2 c3 hg
        obtain ⟨d, bq, hnv⟩ := next_val (live T')
        have HNV := Lib.hid hnv
        clear hnv
        have hT1000 : T'.length ≤ 1000 := by omega
        have hfew : (live T').length ≤ 1000 := Nat.le_trans (List.length_filter_le liveB T') hT1000
        have e4 : (bq != bq) = false := by simp
        have e5 : (d != d) = false := by simp
        go_wp2_with fail
        refine (next_any w4 HT4.out.A).mono ?_; rintro e w5 ⟨hne, b5⟩
        obtain rfl := HNV.out _ hne
        have HT5 := Lib.hid (HT4.out.below b5); have B5 := Lib.hid (below_next B4.out b5)
        have k1 : w5.cell? ⟨tb, 1, none⟩ = some (.pointer (some ⟨rb', 0, none⟩)) := HT5.out.at_ 1
        clear hne b5 HT4 B4
        go_wp2_with fail
        refine (rnext_any w5 HT5.out.R hT1000).mono ?_; rintro e w6 ⟨hne, b6⟩
        obtain rfl := HNV.out _ hne
        have HT6 := Lib.hid (HT5.out.below b6); have B6 := Lib.hid (below_next B5.out b6)
        clear hne b6 HT5 B5 k1
        have hS : w6.cell? ⟨tb, 1, none⟩ = some (.pointer (some ⟨rb', 0, none⟩)) ∧ tb < w6.heap.size := ⟨HT6.out.at_ 1, HT6.out.tlt⟩
        have HTD := Lib.hid (HT6.out.below (Begun.drew w6))
        have HSD := Lib.hid (show w6.drew.cell? ⟨tb, 1, none⟩ = some (.pointer (some ⟨rb', 0, none⟩)) ∧ tb < w6.drew.heap.size from ⟨HTD.out.at_ 1, HTD.out.tlt⟩)
        have BD := Lib.hid (below_next B6.out (Begun.drew w6))
        go_wp2_with fail
        go_region_held3 (fun w' => w'.cell? ⟨tb, 1, none⟩ = some (.pointer (some ⟨rb', 0, none⟩)) ∧ tb < w'.heap.size)
          (first | with_reducible assumption | with_reducible exact HSD.out | with_reducible exact HS7.out | with_reducible exact HS8.out | with_reducible exact HS9.out)
          (first
            | (go_at_call 20; (with_reducible refine (list_any w6.drew HTD.out.A).mono ?_); rintro e w7 ⟨v1, rfl, b7, o1⟩; have HT7 := Lib.hid (HTD.out.below b7); have BB7 := Lib.hid (below_next BD.out b7); have HS7 := Lib.hid (show w7.cell? ⟨tb, 1, none⟩ = some (.pointer (some ⟨rb', 0, none⟩)) ∧ tb < w7.heap.size from ⟨HT7.out.at_ 1, HT7.out.tlt⟩); have O1 := Lib.hid o1; clear o1 b7)
            | (go_at_call 21; (with_reducible refine (rlist_any w6.drew HTD.out.R hT1000).mono ?_); rintro e w7 ⟨v2, rfl, b7, o2⟩; have HT7 := Lib.hid (HTD.out.below b7); have BB7 := Lib.hid (below_next BD.out b7); have HS7 := Lib.hid (show w7.cell? ⟨tb, 1, none⟩ = some (.pointer (some ⟨rb', 0, none⟩)) ∧ tb < w7.heap.size from ⟨HT7.out.at_ 1, HT7.out.tlt⟩); have O2 := Lib.hid o2; clear o2 b7)
            | (go_at_call 21; (with_reducible refine (rlist_any w7 HT7.out.R hT1000).mono ?_); rintro e w8 ⟨v2, rfl, b8, o2⟩; have HT8 := Lib.hid (HT7.out.below b8); have BB8 := Lib.hid (below_next BB7.out b8); have HS8 := Lib.hid (show w8.cell? ⟨tb, 1, none⟩ = some (.pointer (some ⟨rb', 0, none⟩)) ∧ tb < w8.heap.size from ⟨HT8.out.at_ 1, HT8.out.tlt⟩); have O18 := Lib.hid (owns_keep O1.out (Keep.of_below b8 []) (by simp)); have O28 := Lib.hid o2; clear o2 b8)
            | (go_at_call 20; (with_reducible refine (list_any w7 HT7.out.A).mono ?_); rintro e w8 ⟨v1, rfl, b8, o1⟩; have HT8 := Lib.hid (HT7.out.below b8); have BB8 := Lib.hid (below_next BB7.out b8); have HS8 := Lib.hid (show w8.cell? ⟨tb, 1, none⟩ = some (.pointer (some ⟨rb', 0, none⟩)) ∧ tb < w8.heap.size from ⟨HT8.out.at_ 1, HT8.out.tlt⟩); have O28 := Lib.hid (owns_keep O2.out (Keep.of_below b8 []) (by simp)); have O18 := Lib.hid o1; clear o1 b8)
            | (go_at_call 19; (with_reducible refine (rsame_any w8 O18.out O28.out hfew).mono ?_); rintro e w9 ⟨rfl, b9⟩; have HT9 := Lib.hid (HT8.out.below b9); have BB9 := Lib.hid (below_next BB8.out b9); have HS9 := Lib.hid (show w9.cell? ⟨tb, 1, none⟩ = some (.pointer (some ⟨rb', 0, none⟩)) ∧ tb < w9.heap.size from ⟨HT9.out.at_ 1, HT9.out.tlt⟩); clear b9))
        all_goals go_wp2_with fail
        all_goals go_roundw
        case rel => exact ⟨k + 1, gm', rb', cap', ao2, T', C', now', by omega, by omega, by go_num, HT9.out, hlen4, BB9.out⟩
        case measure => simp [intOf]; omega
      · obtain rfl : k = 400 := by omega
        go_wp2_with fail
        go_ret
        exact ⟨rfl, HB.out⟩
    · obtain rfl : k = n := by omega
      go_wp2_with fail
      go_ret
      exact ⟨rfl, HB.out⟩
theorem inboxCalls_law (r : Int) (wr : (Lit.int .i64 r).wf = true) (b : Int) (wb : (Lit.int .i64 b).wf = true) (m : Int) (wm : (Lit.int .i64 m).wf = true) (t : Int) (wt : (Lit.int .i64 t).wf = true) (ao : Option Addr) (n cap : Nat) (hcc : n ≤ cap) (hm : cap ≤ maxLen) (W : World) (hr : OpsRd W ao n) :
    Calls Try.prog 4 #[.agg #[.int .i64 r, .int .i64 b, .int .i64 m, .int .i64 t], .slice ao n cap] W (LawOk W) := by
  cases hs : setB r b m t with
  | false => exact inboxCalls_no r b m t hs ao n cap W
  | true =>
    unfold setB roomB fairB at hs
    simp at hs
    obtain ⟨⟨⟨h1, h2⟩, h3, h4, h5⟩, h6, h7⟩ := hs
    obtain ⟨r', rfl⟩ : ∃ r' : Nat, r = (r' : Int) := ⟨r.toNat, by omega⟩
    obtain ⟨b', rfl⟩ : ∃ r' : Nat, b = (r' : Int) := ⟨b.toNat, by omega⟩
    obtain ⟨m', rfl⟩ : ∃ r' : Nat, m = (r' : Int) := ⟨m.toNat, by omega⟩
    obtain ⟨t', rfl⟩ : ∃ r' : Nat, t = (r' : Int) := ⟨t.toNat, by omega⟩
    exact inboxCalls_yes ⟨r', b', m', t'⟩ (by unfold Cfg.ok; simp only; omega) ao n cap W hr
end Go.Proofs.Ytjhdlohcjodgjaa
