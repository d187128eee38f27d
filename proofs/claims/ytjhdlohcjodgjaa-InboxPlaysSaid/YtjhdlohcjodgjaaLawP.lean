/- InboxPlays: the walk. -/
import Derived.Test.YtjhdlohcjodgjaaPlay2
namespace Go.Proofs.Ytjhdlohcjodgjaa
open Go.RowKit
set_option linter.unusedVariables false
set_option linter.unusedSimpArgs false

set_option maxRecDepth 100000 in
set_option maxHeartbeats 8000000 in
theorem inboxPlays_no (r : Int) (hr : roomB r = false) (ao : Option Addr) (n cap : Nat) (W : World) :
    Calls Try.prog 3 #[.int .i64 r, .slice ao n cap] W (LawOk W) := by
  have N1 := Lib.hid (inew_no r hr)
  have hw : r < 1 ∨ (1 ≤ r ∧ 256 < r) := by unfold roomB at hr; simp at hr; omega
  clear hr
  go_enter Try.func3, Try.ntmps3
  go_wp2_with fail
  refine (awake_any _).mono ?_; rintro e w1 ⟨rfl, b1⟩
  have BB := Lib.hid b1
  clear b1
  go_wp2_with fail
  refine (N1.out _).mono ?_; rintro e w2 ⟨rfl, rfl⟩
  rcases hw with h1 | ⟨h1, h2⟩
  all_goals try (have hd : decide (r ≤ 256) = false := by (simp; omega))
  all_goals go_wp2_with fail
  all_goals go_ret
  all_goals exact ⟨rfl, BB.out⟩
set_option maxRecDepth 100000 in
set_option maxHeartbeats 8000000 in
theorem inboxPlays_yes (room : Nat) (hok : 1 ≤ room ∧ room ≤ 256) (aS : Option Addr) (nS cS : Nat) (W : World) (hr : PsRd W aS nS) :
    Calls Try.prog 3 #[.int .i64 (room : Int), .slice aS nS cS] W (LawOk W) := by
  have HS := Lib.hid hr
  clear hr
  have N1 := Lib.hid (fun w => inew_yes room hok w)
  obtain ⟨r, hrr⟩ : ∃ r : Int, r = (room : Int) := ⟨_, rfl⟩
  have HRR := Lib.hid hrr
  have q1 : 1 ≤ r := by omega
  have q2 : r ≤ 256 := by omega
  rw [← hrr] at N1 ⊢
  clear hrr
  go_enter Try.func3, Try.ntmps3
  go_wp2_with fail
  refine (awake_any _).mono ?_; rintro e w1 ⟨rfl, b1⟩
  have B1 := Lib.hid b1
  clear b1
  go_wp2_with fail
  refine (N1.out _).mono ?_; rintro e w2 ⟨hb, rfl, h2, b2⟩
  have HP0 := Lib.hid (Play.start B1.out b2 h2)
  clear h2 b2 B1 N1
  obtain ⟨B, hB⟩ : ∃ B, w1.heap.size = B := ⟨_, rfl⟩
  rw [hB] at HP0
  clear hB
  go_wp2_with fail
  go_loopw [9, 10] (fun v9 v10 wr => ∃ (k : Nat) (aW : Option Addr) (cW : Nat) (Q : List Pkt) (aV : Option Addr) (cV n : Nat) (L : List Pkt), k ≤ nS ∧ k ≤ 400 ∧ v10 = .int .i64 (k : Int) ∧ v9 = .slice aV n cV ∧ n ≤ k ∧ Play W wr B hb aW cW room Q aV cV n L) (fun v9 v10 _ => nS - (intOf v10).toNat)
  case atStart => exact ⟨0, none, 0, [], none, 0, 0, [], by omega, by omega, rfl, rfl, by omega, HP0.out⟩
  case round =>
    clear HP0
    obtain ⟨k, aW, cW, Q, aV, cV, n, L, hkn, hk4, rfl, rfl, hnk, hp⟩ := hrel
    have HP := Lib.hid hp
    clear hp
    have en : ((n : Int) != (n : Int)) = false := by simp
    by_cases hlt : k < nS
    · by_cases h400 : k < 400
      · obtain ⟨g, o, kind, p, rfl, hg, c0, c1, c2, c3, c4, hid, hrd, hcp, hsz⟩ := HS.out k hlt
        replace c0 := (HP.out.bel.cell (p := ⟨g, o + k * 5, none⟩) hg).trans c0
        replace c1 := (HP.out.bel.cell (p := ⟨g, o + k * 5 + 1, none⟩) hg).trans c1
        replace c2 := (HP.out.bel.cell (p := ⟨g, o + k * 5 + 2, none⟩) hg).trans c2
        replace c3 := (HP.out.bel.cell (p := ⟨g, o + k * 5 + 3, none⟩) hg).trans c3
        replace c4 := (HP.out.bel.cell (p := ⟨g, o + k * 5 + 4, none⟩) hg).trans c4
        by_cases hk1 : kind = 1
        · subst hk1
          as_aux_lemma =>
            obtain ⟨id, fr, to, ao, cap, data⟩ := p
            simp only [Pkt.sl] at c1 c2 c3 c4 hid hrd hcp hsz
            obtain ⟨dn, hdn⟩ : ∃ x, data.length = x := ⟨_, rfl⟩
            have HDN := Lib.hid hdn
            rw [hdn] at c4 hsz
            have k2 : ((1 : Int) == 2) = false := by decide
            obtain ⟨wo, hwo⟩ : ∃ wo, wo = wr := ⟨_, rfl⟩
            subst hwo
            obtain ⟨s1, hs1⟩ : ∃ s, wo.heap.size = s := ⟨_, rfl⟩
            have hb0 := below_alloc (below_alloc (Below.refl wo.heap.size wo) (pko (.int .u64 (id : Int)) (.int .i64 fr) (.int .i64 to) (.slice ao dn cap))) (pko (.int .u64 (id : Int)) (.int .i64 fr) (.int .i64 to) (.slice ao dn cap))
            have HB0 := Lib.hid hb0
            have HRD := Lib.hid hrd
            have HRD0 := Lib.hid ((hrd.below HP.out.bel).below hb0)
            have hsz0 : ((wo.alloc (pko (.int .u64 (id : Int)) (.int .i64 fr) (.int .i64 to) (.slice ao dn cap))).alloc (pko (.int .u64 (id : Int)) (.int .i64 fr) (.int .i64 to) (.slice ao dn cap))).heap.size = s1 + 2 := by simp [hs1]
            have r1 : ((wo.alloc (pko (.int .u64 (id : Int)) (.int .i64 fr) (.int .i64 to) (.slice ao dn cap))).alloc (pko (.int .u64 (id : Int)) (.int .i64 fr) (.int .i64 to) (.slice ao dn cap))).heap[s1]? = some (.cells #[.int .u64 (id : Int), .int .i64 fr, .int .i64 to, .slice ao dn cap] 32 (0, 0)) := by
              rw [← hs1]
              exact ((below_alloc (Below.refl _ _) _).block wo.heap.size (by simp)).trans (heap_alloc_new wo _)
            have r2 : ((wo.alloc (pko (.int .u64 (id : Int)) (.int .i64 fr) (.int .i64 to) (.slice ao dn cap))).alloc (pko (.int .u64 (id : Int)) (.int .i64 fr) (.int .i64 to) (.slice ao dn cap))).heap[s1 + 1]? = some (.cells #[.int .u64 (id : Int), .int .i64 fr, .int .i64 to, .slice ao dn cap] 32 (0, 0)) := by
              have := heap_alloc_new (wo.alloc (pko (.int .u64 (id : Int)) (.int .i64 fr) (.int .i64 to) (.slice ao dn cap))) (pko (.int .u64 (id : Int)) (.int .i64 fr) (.int .i64 to) (.slice ao dn cap))
              rwa [show (wo.alloc (pko (.int .u64 (id : Int)) (.int .i64 fr) (.int .i64 to) (.slice ao dn cap))).heap.size = s1 + 1 by simp [hs1]] at this
            have R1 := Lib.hid r1; have R2 := Lib.hid r2
            have HS1 := Lib.hid hs1; have HSZ0 := Lib.hid hsz0
            have hgw : g < s1 := by rw [← hs1]; exact Nat.lt_of_lt_of_le hg HP.out.bel.size
            have HN0 := Lib.hid (show Own (((wo.alloc (pko (.int .u64 (id : Int)) (.int .i64 fr) (.int .i64 to) (.slice ao dn cap))).alloc (pko (.int .u64 (id : Int)) (.int .i64 fr) (.int .i64 to) (.slice ao dn cap))).alloc (.cells #[] 5)) (s1 + 1 + 1) (some ⟨s1 + 1 + 1, 0, none⟩) 0 0 [] by
              have := Own.none' ((wo.alloc (pko (.int .u64 (id : Int)) (.int .i64 fr) (.int .i64 to) (.slice ao dn cap))).alloc (pko (.int .u64 (id : Int)) (.int .i64 fr) (.int .i64 to) (.slice ao dn cap))) (s1 + 1 + 1) (by rw [hsz0]; omega)
              rwa [hsz0] at this)
            have HB00 := Lib.hid (show Below (s1 + 1 + 1) ((wo.alloc (pko (.int .u64 (id : Int)) (.int .i64 fr) (.int .i64 to) (.slice ao dn cap))).alloc (pko (.int .u64 (id : Int)) (.int .i64 fr) (.int .i64 to) (.slice ao dn cap))) (((wo.alloc (pko (.int .u64 (id : Int)) (.int .i64 fr) (.int .i64 to) (.slice ao dn cap))).alloc (pko (.int .u64 (id : Int)) (.int .i64 fr) (.int .i64 to) (.slice ao dn cap))).alloc (.cells #[] 5)) by
              have := below_alloc (Below.refl (((wo.alloc (pko (.int .u64 (id : Int)) (.int .i64 fr) (.int .i64 to) (.slice ao dn cap))).alloc (pko (.int .u64 (id : Int)) (.int .i64 fr) (.int .i64 to) (.slice ao dn cap)))).heap.size ((wo.alloc (pko (.int .u64 (id : Int)) (.int .i64 fr) (.int .i64 to) (.slice ao dn cap))).alloc (pko (.int .u64 (id : Int)) (.int .i64 fr) (.int .i64 to) (.slice ao dn cap)))) (.cells #[] 5)
              rwa [hsz0] at this)
            have HRD1 := Lib.hid (HRD0.out.below (below_alloc (Below.refl _ _) (.cells #[] 5)))
            clear r1 r2 hb0 hrd hdn hsz0
            go_wp2_with (at_builtin; refine wpList_app rfl (.tmp 77) (.tmp 79) rfl rfl HN0.out rfl HRD1.out HDN.out (by simp; omega) (by omega) ?_; intro a2 p2 w2 hown2 hk2 hn2; have hb2 := HN0.out.step HB00.out (by simp; omega) hk2; have hq2 := (hb2.block (s1 + 1) (by omega)).trans R2.out; have z0 := cell_of_row w2 (s1 + 1) 0 _ _ (0, 0) hq2; have z1 := cell_of_row w2 (s1 + 1) 1 _ _ (0, 0) hq2; have z2 := cell_of_row w2 (s1 + 1) 2 _ _ (0, 0) hq2; have z3 := cell_of_row w2 (s1 + 1) 3 _ _ (0, 0) hq2; simp only [List.getElem?_toArray, List.getElem?_cons_succ, List.getElem?_cons_zero] at z0 z1 z2 z3; have zf := frozen_of_row w2 (s1 + 1) 3 _ _ hq2; have HOWN2 := Lib.hid hown2; have HB2 := Lib.hid hb2; have HQ2 := Lib.hid hq2; clear hown2 hk2 hn2 hb2 hq2)
            have bw2 : Below wo.heap.size wo w2 := HB0.out.trans (HB2.out.mono (by omega))
            have hs2 : s1 + 2 ≤ w2.heap.size := by have := HB2.out.size; have := HSZ0.out; omega
            have k5 := Keep.setCell w2 ⟨s1 + 1, 3, none⟩ (.slice a2 dn p2)
            have bw5 : Below wo.heap.size wo (w2.setCell ⟨s1 + 1, 3, none⟩ (.slice a2 dn p2)) := bw2.trans (k5.below (by omega) (fun x hx => by simp at hx; omega))
            have HP5 := Lib.hid (HP.out.below bw5)
            have ho2 := HOWN2.out
            rw [Nat.zero_add, List.nil_append] at ho2
            have HO5 := Lib.hid (show Own (w2.setCell ⟨s1 + 1, 3, none⟩ (.slice a2 dn p2)) (s1 + 2) a2 dn p2 data from ho2.keep k5 (fun x hx => by have := (ho2.lt_size x hx).1; simp; omega))
            have q12 := heap_setCell_same w2 (s1 + 1) 3 _ _ (.slice a2 dn p2) HQ2.out
            have q11 := (k5.block s1 (by omega) (by simp)).trans ((HB2.out.block s1 (by omega)).trans R1.out)
            have hs5 : s1 + 2 ≤ (w2.setCell ⟨s1 + 1, 3, none⟩ (.slice a2 dn p2)).heap.size := Nat.le_trans hs2 k5.size
            have BW5 := Lib.hid bw5
            have hlb := HP.out.inb.hlt
            have HBK := Lib.hid (show (∀ x ∈ blk aW, x < s1) ∧ (∀ x ∈ blk aV, x < s1) from ⟨fun x hx => by have := (owns_blk HP.out.inb.own x hx).2; omega, fun x hx => by have := (HP.out.row.blks x hx).2; omega⟩)
            have HA2 := Lib.hid (show ∀ x ∈ blk a2, s1 + 2 ≤ x ∧ x < (w2.setCell ⟨s1 + 1, 3, none⟩ (.slice a2 dn p2)).heap.size from fun x hx => by have := HO5.out.lt_size x hx; omega)
            have HNA := Lib.hid (show s1 ∉ blk a2 ∧ s1 + 1 ∉ blk a2 ∧ g ∉ blk a2 from ⟨fun hm => by have := (HA2.out _ hm).1; omega, fun hm => by have := (HA2.out _ hm).1; omega, fun hm => by have := (HA2.out _ hm).1; omega⟩)
            have hbo : wo.heap.size ≤ (w2.setCell ⟨s1 + 1, 3, none⟩ (.slice a2 dn p2)).heap.size := by omega
            have c05 := (BW5.out.cell (p := ⟨g, o + k * 5, none⟩) (by show g < _; omega)).trans c0
            clear z0 z1 z2 z3 zf k5 bw2 bw5 ho2 hs2 HOWN2 HB2 HQ2 HN0 HB00 HRD0 HRD1 R2 c0 c1 c2 c3 c4
            generalize w2.setCell ⟨s1 + 1, 3, none⟩ (.slice a2 dn p2) = W5 at *
            have HQ11 := Lib.hid q11; have HQ12 := Lib.hid q12
            have hng : g ∉ hb :: blk aW ∨ True := .inr trivial
            by_cases hfull : n < room
            · have hputs := iput_ok ⟨id, fr, to, a2, p2, data⟩ W5 HO5.out.rd hid (by simp only; have := HDN.out; omega) HP5.out.inb (by have := HP5.out.inb.base; have := HP5.out.inb.hlt; omega) (by rw [HP5.out.lenQ]; exact hfull)
              simp only [Pkt.sl] at hputs
              rw [HDN.out] at hputs
              refine hputs.mono ?_; rintro e w6 ⟨a3, c3', aW', cW', rfl, hi6, k6, g6, g7⟩
              have hbB := HP.out.inb.base
              have hwB := HP.out.wb
              have hnab : s1 ∉ hb :: blk aW ∧ s1 + 1 ∉ hb :: blk aW ∧ g ∉ hb :: blk aW := by
                simp only [List.mem_cons, not_or]
                exact ⟨⟨by omega, fun hm => by have := HBK.out.1 _ hm; omega⟩, ⟨by omega, fun hm => by have := HBK.out.1 _ hm; omega⟩, ⟨by omega, fun hm => by have := (owns_blk HP.out.inb.own _ hm).1; omega⟩⟩
              have c12 := (k6.cell (a := ⟨s1 + 1, 3, none⟩) (by show s1 + 1 < _; omega) hnab.2.1).trans (cell_of_row W5 (s1 + 1) 3 _ _ (0, 0) HQ12.out)
              simp only [List.getElem?_toArray, List.getElem?_cons_succ, List.getElem?_cons_zero, Array.setIfInBounds] at c12
              have c06 := (k6.cell (a := ⟨g, o + k * 5, none⟩) (by show g < _; omega) hnab.2.2).trans c05
              have hs6 : s1 + 2 ≤ w6.heap.size := Nat.le_trans hs5 k6.size
              have hdf : decide ((n : Int) < r) = true := by have := HRR.out; simp; omega
              have HO6 := Lib.hid (HO5.out.keep k6 (fun x hx => by
                have h1 := HA2.out x hx
                simp only [List.mem_cons, not_or]
                exact ⟨by omega, fun hm => by have := HBK.out.1 _ hm; omega⟩))
              have HQ6 := Lib.hid ((k6.block s1 (by omega) hnab.1).trans HQ11.out)
              have HI6 := Lib.hid hi6; have K6 := Lib.hid k6; have G6 := Lib.hid g6; have G7 := Lib.hid g7
              clear hi6 k6 g6 g7 hputs q11 q12 hnab
              go_wp2_with fail
              go_loopw [14] (fun v14 wx => ∃ (j : Nat) (U : List Nat), j ≤ dn ∧ v14 = .int .i64 (j : Int) ∧ Own wx (s1 + 2) a2 dn p2 U ∧ Keep (blk a2) w6 wx) (fun v14 _ => dn - (intOf v14).toNat)
              case atStart => exact ⟨0, data, by omega, rfl, HO6.out, Keep.refl _ _⟩
              case round =>
                obtain ⟨j, U, hj, rfl, hou, hku⟩ := hrel
                have d12 := (hku.cell (a := ⟨s1 + 1, 3, none⟩) (by show s1 + 1 < _; omega) HNA.out.2.1).trans c12
                have d0 := (hku.cell (a := ⟨g, o + k * 5, none⟩) (by show g < _; omega) HNA.out.2.2).trans c06
                by_cases hjl : j < dn
                · obtain ⟨g9, o9, rfl, _, _, hc9, hf9⟩ := hou.at_ j hjl
                  have HSET := Lib.hid (hou.set j 9 hjl (by omega))
                  have HKK := Lib.hid (hku.trans ((Keep.setCell wr ⟨g9, o9 + j, none⟩ (u8v 9)).mono (fun x hx => .inl (by simpa [blk] using hx))))
                  clear hku hou
                  go_wp2_with fail
                  go_roundw
                  case rel => exact ⟨j + 1, _, by omega, by go_num, HSET.out, HKK.out⟩
                  case measure => simp [intOf]; omega
                · obtain rfl : j = dn := by omega
                  have hi9 := HI6.out.keep hku (fun hm => by have := (HA2.out _ hm).1; omega) (fun x hx hm => by
                    have h1 := HA2.out x hm
                    rcases G6.out x hx with h2 | h2
                    · have := HBK.out.1 _ h2; omega
                    · omega) (fun q hq x hx hm => by
                    have h1 := HA2.out x hm
                    rcases List.mem_append.1 hq with h2 | h2
                    · have := ((HP.out.inb.fine q h2).2.2 x hx).2.1; omega
                    · simp only [List.mem_singleton] at h2
                      subst h2
                      have := G7.out x hx; omega)
                  have k9 : Keep (hb :: blk aW) wo wr := by
                    have h1 : Keep (blk a2 ++ hb :: blk aW) wo wr := ((Keep.of_below BW5.out _).trans (K6.out.mono (fun x hx => .inl (List.mem_append_right _ hx)))).trans (hku.mono (fun x hx => .inl (List.mem_append_left _ hx)))
                    exact h1.mono (fun x hx => by
                      rcases List.mem_append.1 hx with h2 | h2
                      · have := (HA2.out x h2).1; exact .inr (by omega)
                      · exact .inl h2)
                  have hap := HP.out.ap
                  have hrow := (HP5.out.row.keep K6.out (fun x hx hm => by
                    rcases List.mem_cons.1 hm with h2 | h2
                    · exact hap.1 (h2 ▸ hx)
                    · exact hap.2.1 x h2 hx)).keep hku (fun x hx hm => by have := HBK.out.2 x hx; have := (HA2.out x hm).1; omega)
                  have q9 := (hku.block s1 (by omega) HNA.out.1).trans HQ6.out
                  have x0 := cell_of_row wr s1 0 _ _ (0, 0) q9
                  have x1 := cell_of_row wr s1 1 _ _ (0, 0) q9
                  have x2 := cell_of_row wr s1 2 _ _ (0, 0) q9
                  have x3 := cell_of_row wr s1 3 _ _ (0, 0) q9
                  simp only [List.getElem?_toArray, List.getElem?_cons_succ, List.getElem?_cons_zero] at x0 x1 x2 x3
                  have hsw : W.heap.size ≤ wr.heap.size := by have h1 := HP.out.bel.size; have h2 := k9.size; omega
                  have hs9 : s1 + 2 ≤ wr.heap.size := Nat.le_trans hs6 hku.size
                  have HI9 := Lib.hid hi9; have K9 := Lib.hid k9; have HR9 := Lib.hid hrow
                  clear hi9 k9 hrow q9 hku hou hap
                  go_wp2_with (at_builtin; refine wpList_papp rfl (.tmp 113) (.tmp 115) rfl rfl (HR9.out.below (below_alloc (Below.refl _ _) _)) ⟨wr.heap.size, 0, none⟩ 1 rfl (news := [.int .u64 (id : Int), .int .i64 fr, .int .i64 to, .slice ao j cap]) rfl (World.news_of_block (cs := #[.int .u64 (id : Int), .int .i64 fr, .int .i64 to, .slice ao j cap]) (t := 32) (fr := (0, 0)) (heap_alloc_new wr _)) (by simp [Value.oneCell']) (by omega) (by simp; omega) ?_; intro aV' cV' w7 hr7 hk7 hg7; have d07 := (hk7.cell (a := ⟨g, o + k * 5, none⟩) (by show g < _; simp; omega) (fun hm => by have := (HP.out.row.blks g hm).1; omega)).trans (((below_alloc (Below.refl wr.heap.size wr) _).cell (p := ⟨g, o + k * 5, none⟩) (by show g < _; omega)).trans d0); rw [← HDN.out] at hr7; have HPL := Lib.hid (HP.out.put (p := ⟨id, fr, to, ao, cap, data⟩) HRD.out (by simp only; have := HDN.out; omega) HI9.out K9.out (fun x hx => by rcases G6.out x hx with h2 | h2; exact .inl h2; exact .inr (by omega)) (fun x hx => by have := G7.out x hx; omega) (below_alloc (Below.refl _ _) _) hr7 hk7 hg7); clear hr7 hk7 hg7)
                  refine (ilen_any _ HPL.out.inb).mono ?_; rintro e w8 ⟨rfl, rfl⟩
                  rw [HPL.out.lenQ]
                  go_wp2_with fail
                  go_roundw
                  case rel => exact ⟨k + 1, aW', cW', _, aV', cV', n + 1, _, by omega, by omega, by go_num, rfl, by omega, HPL.out⟩
                  case measure => simp [intOf]; omega
            · have hf : room ≤ Q.length := by rw [HP5.out.lenQ]; omega
              refine (iput_full _ _ _ _ W5 HP5.out.inb hf).mono ?_; rintro e w6 ⟨rfl, b6⟩
              have HP6 := Lib.hid (HP5.out.below b6)
              have HO6 := Lib.hid (HO5.out.below b6)
              have c12 := (b6.cell (p := ⟨s1 + 1, 3, none⟩) (by show s1 + 1 < _; omega)).trans (cell_of_row W5 (s1 + 1) 3 _ _ (0, 0) HQ12.out)
              simp only [List.getElem?_toArray, List.getElem?_cons_succ, List.getElem?_cons_zero, Array.setIfInBounds] at c12
              have c06 := (b6.cell (p := ⟨g, o + k * 5, none⟩) (by show g < _; omega)).trans c05
              have hs6 : s1 + 2 ≤ w6.heap.size := Nat.le_trans hs5 b6.size
              have hdf : decide ((n : Int) < r) = false := by have := HRR.out; simp; omega
              have HA6 := Lib.hid (show ∀ x ∈ blk a2, s1 + 2 ≤ x from fun x hx => (HA2.out x hx).1)
              have HBB := Lib.hid (BW5.out.trans (b6.mono hbo))
              clear b6 q11 q12
              go_wp2_with fail
              go_loopw [14] (fun v14 wx => ∃ (j : Nat) (U : List Nat), j ≤ dn ∧ v14 = .int .i64 (j : Int) ∧ Own wx (s1 + 2) a2 dn p2 U ∧ Keep (blk a2) w6 wx) (fun v14 _ => dn - (intOf v14).toNat)
              case atStart => exact ⟨0, data, by omega, rfl, HO6.out, Keep.refl _ _⟩
              case round =>
                obtain ⟨j, U, hj, rfl, hou, hku⟩ := hrel
                have d12 := (hku.cell (a := ⟨s1 + 1, 3, none⟩) (by show s1 + 1 < _; omega) HNA.out.2.1).trans c12
                have d0 := (hku.cell (a := ⟨g, o + k * 5, none⟩) (by show g < _; omega) HNA.out.2.2).trans c06
                by_cases hjl : j < dn
                · obtain ⟨g9, o9, rfl, _, _, hc9, hf9⟩ := hou.at_ j hjl
                  have HSET := Lib.hid (hou.set j 9 hjl (by omega))
                  have HKK := Lib.hid (hku.trans ((Keep.setCell wr ⟨g9, o9 + j, none⟩ (u8v 9)).mono (fun x hx => .inl (by simpa [blk] using hx))))
                  clear hku hou
                  go_wp2_with fail
                  go_roundw
                  case rel => exact ⟨j + 1, _, by omega, by go_num, HSET.out, HKK.out⟩
                  case measure => simp [intOf]; omega
                · obtain rfl : j = dn := by omega
                  have HPL := Lib.hid (HP.out.below (HBB.out.trans (hku.below (by omega) (fun x hx => by have := HA6.out x hx; omega))))
                  clear hku hou
                  go_wp2_with fail
                  refine (ilen_any _ HPL.out.inb).mono ?_; rintro e w8 ⟨rfl, rfl⟩
                  rw [HPL.out.lenQ]
                  go_wp2_with fail
                  go_roundw
                  case rel => exact ⟨k + 1, aW, cW, Q, aV, cV, n, L, by omega, by omega, by go_num, rfl, by omega, HPL.out⟩
                  case measure => simp [intOf]; omega
        · by_cases hk2 : kind = 2
          · subst hk2
            have k1 : ((2 : Int) == 1) = false := by decide
            by_cases hn0 : n = 0
            · subst hn0
              as_aux_lemma =>
                obtain rfl : Q = [] := List.eq_nil_of_length_eq_zero HP.out.lenQ
                obtain rfl : L = [] := List.eq_nil_of_length_eq_zero HP.out.lenL
                go_wp2_with fail
                refine (itake_none _ HP.out.inb).mono ?_; rintro e w3 ⟨rfl, b3⟩
                have HP3 := Lib.hid ((HP.out.below b3).below (below_alloc (below_alloc (Below.refl w3.heap.size w3) (pko (.int .u64 0) (.int .i64 0) (.int .i64 0) (.slice none 0 0))) (pko (.int .u64 0) (.int .i64 0) (.int .i64 0) (.slice none 0 0))))
                clear b3
                go_wp2_with fail
                refine (psame_yes 0 0 0 [] none none 0 0 0 rfl (by omega) _ (Rd.nil _ _) (Rd.nil _ _)).mono ?_; rintro e w4 ⟨rfl, b4⟩
                have HPL := Lib.hid (HP3.out.below b4)
                clear b4
                go_wp2_with fail
                refine (ilen_any _ HPL.out.inb).mono ?_; rintro e w8 ⟨rfl, rfl⟩
                rw [HPL.out.lenQ]
                go_wp2_with fail
                go_roundw
                case rel => exact ⟨k + 1, aW, cW, [], aV, cV, 0, [], by omega, by omega, by go_num, rfl, by omega, HPL.out⟩
                case measure => simp [intOf]; omega
            · obtain ⟨m, rfl⟩ : ∃ m, n = m + 1 := ⟨n - 1, by omega⟩
              as_aux_lemma =>
                obtain ⟨p0, Q', rfl⟩ : ∃ p0 Q', Q = p0 :: Q' := by
                  cases Q with
                  | nil => exact absurd HP.out.lenQ (by simp)
                  | cons a t => exact ⟨a, t, rfl⟩
                obtain ⟨q0, L', rfl⟩ : ∃ q0 L', L = q0 :: L' := by
                  cases L with
                  | nil => exact absurd HP.out.lenL (by simp)
                  | cons a t => exact ⟨a, t, rfl⟩
                obtain ⟨f1, f2, f3, f4⟩ := HP.out.like 0 p0 q0 rfl rfl
                obtain ⟨gW, rfl, _, _, _, _⟩ := owns_none HP.out.inb.own (by simp)
                obtain ⟨gV, oV, rfl, A, hA, hRA, hAb⟩ := HP.out.row.tail
                rw [pl_drop] at hRA
                obtain ⟨hgv, y0, y1, y2, y3⟩ := HP.out.row.first
                obtain ⟨hrp, _, hbp⟩ := HP.out.inb.fine p0 (List.mem_cons_self ..)
                have hrq := HP.out.rd q0 (List.mem_cons_self ..)
                have hap := HP.out.ap
                have hqs := HP.out.sz q0 (List.mem_cons_self ..)
                have HT := Lib.hid (itake_yes wr HP.out.inb)
                have HRA := Lib.hid hRA
                have hcV : 1 ≤ cV := by have := HP.out.row.2.1; omega
                have hpos : decide ((m : Int) + 1 > 0) = true := by first | (simp; done) | (simp; omega)
                have hone : (1 : Int) ≤ (m : Int) + 1 := by omega
                obtain ⟨id, fr, to, ap, cp, data⟩ := p0
                obtain ⟨id', fr', to', aq, cq, data'⟩ := q0
                simp only at f1 f2 f3 f4
                subst f1 f2 f3 f4
                simp only [Pkt.sl] at y3 hrp hbp hrq HT
                obtain ⟨dn, hdn⟩ : ∃ x, data.length = x := ⟨_, rfl⟩
                have HDN := Lib.hid hdn
                rw [hdn] at y3 HT
                clear hdn hRA c1 c2 c3 c4 hrd hcp hsz hid
                go_wp2_with fail
                refine HT.out.mono ?_; rintro e w3 ⟨rfl, hi3, k3⟩
                have hne : gV ∉ [hb, gW] := by
                  simp only [List.mem_cons, List.not_mem_nil, or_false, not_or]
                  exact ⟨fun e => hap.1 (by simp [blk, e]), fun e => hap.2.1 gW (by simp [blk]) (by simp [blk, e])⟩
                replace y0 := (k3.cell (a := ⟨gV, oV, none⟩) hgv hne).trans y0
                replace y1 := (k3.cell (a := ⟨gV, oV + 1, none⟩) hgv hne).trans y1
                replace y2 := (k3.cell (a := ⟨gV, oV + 2, none⟩) hgv hne).trans y2
                replace y3 := (k3.cell (a := ⟨gV, oV + 3, none⟩) hgv hne).trans y3
                have hgv3 : gV < w3.heap.size := Nat.lt_of_lt_of_le hgv k3.size
                have HPT := Lib.hid (HP.out.take rfl hi3 k3 (fun x hx => by simp only [blk, List.mem_singleton] at hx ⊢; omega) HRA.out)
                have HR1 := Lib.hid (hrp.keep k3 (fun g hg hm => by
                  obtain ⟨_, _, d3, d4⟩ := hbp g hg
                  simp at hm
                  rcases hm with rfl | rfl
                  · exact d3 rfl
                  · exact d4 (by simp [blk])))
                have HR2 := Lib.hid (hrq.below HPT.out.bel)
                clear hi3 k3 hrp hrq hbp hap HT HP hgv
                have hdb : dn ≤ 140737488351232 := by rw [← HDN.out]; exact hqs
                go_wp2_with fail
                have b5 := below_alloc (below_alloc (Below.refl w3.heap.size w3) (pko (.int .u64 (id : Int)) (.int .i64 fr) (.int .i64 to) (.slice ap dn cp))) (pko (.int .u64 (id : Int)) (.int .i64 fr) (.int .i64 to) (.slice aq dn cq))
                refine (psame_yes id fr to data ap aq dn cp cq HDN.out (by omega) _ (HR1.out.below b5) (HR2.out.below b5)).mono ?_; rintro e w5 ⟨rfl, b6⟩
                have HPL := Lib.hid ((HPT.out.below b5).below b6)
                clear b5 b6 HPT HR1 HR2 y0 y1 y2 y3
                go_wp2_with fail
                refine (ilen_any _ HPL.out.inb).mono ?_; rintro e w8 ⟨rfl, rfl⟩
                rw [HPL.out.lenQ]
                go_wp2_with fail
                go_roundw
                case rel => exact ⟨k + 1, some ⟨gW, 0, none⟩, cW, Q', some A, cV - 1, m, L', by omega, by omega, by go_num, rfl, by omega, HPL.out⟩
                case measure => simp [intOf]; omega
          · as_aux_lemma =>
              have k1 : (kind == 1) = false := by simp [hk1]
              have k2 : (kind == 2) = false := by simp [hk2]
              have HPL := HP
              go_wp2_with fail
              refine (ilen_any _ HPL.out.inb).mono ?_; rintro e w8 ⟨rfl, rfl⟩
              rw [HPL.out.lenQ]
              go_wp2_with fail
              go_roundw
              case rel => exact ⟨k + 1, aW, cW, Q, aV, cV, n, L, by omega, by omega, by go_num, rfl, by omega, HPL.out⟩
              case measure => simp [intOf]; omega
      · obtain rfl : k = 400 := by omega
        go_wp2_with fail
        go_ret
        exact ⟨rfl, HP.out.bel⟩
    · obtain rfl : k = nS := by omega
      go_wp2_with fail
      go_ret
      exact ⟨rfl, HP.out.bel⟩
theorem inboxPlays_law (r : Int) (wr : (Lit.int .i64 r).wf = true) (ao : Option Addr) (n cap : Nat) (hcc : n ≤ cap) (hm : cap ≤ maxLen) (W : World) (hr : PsRd W ao n) :
    Calls Try.prog 3 #[.int .i64 r, .slice ao n cap] W (LawOk W) := by
  cases hs : roomB r with
  | false => exact inboxPlays_no r hs ao n cap W
  | true =>
    unfold roomB at hs
    simp at hs
    obtain ⟨r', rfl⟩ : ∃ r' : Nat, r = (r' : Int) := ⟨r.toNat, by omega⟩
    exact inboxPlays_yes r' (by omega) ao n cap W hr
end Go.Proofs.Ytjhdlohcjodgjaa
