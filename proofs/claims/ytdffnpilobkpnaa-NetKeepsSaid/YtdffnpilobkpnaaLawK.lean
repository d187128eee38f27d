/- NetKeeps: the walk. -/
import Derived.Test.YtdffnpilobkpnaaUni
import Derived.Test.YtdffnpilobkpnaaAwake
import Derived.Test.YtdffnpilobkpnaaArg
import Derived.Deep.CutRange
import Derived.Deep.AppendLies
namespace Go.Proofs.Ytdffnpilobkpnaa
open Go.RowKit Go.Sort
set_option linter.unusedVariables false

theorem sl_info : (Try.prog.info? 39).map (fun i => (i.zero, i.size, i.bytes)) = some (some (.slice none 0 0), 1, 24) := by kernel_rfl
set_option maxRecDepth 100000 in
set_option maxHeartbeats 16000000 in
theorem netKeeps_law (a : Int) (wa : (Lit.int .i64 a).wf = true) (ao : Option Addr) (n cap : Nat) (hc : n ≤ cap) (hm : cap ≤ maxLen) (W : World) (hr : OpsRd W ao n) :
    Calls Try.prog 4 #[.int .i64 a, .slice ao n cap] W (LawOk W) := by
  have HR := Lib.hid hr
  clear hr
  have hni : (n : Int) ≤ 9223372036854775807 := by unfold maxLen at hm; omega
  have hab : -9223372036854775808 ≤ a ∧ a ≤ 9223372036854775807 := by simpa [Lit.wf, IntKind.min, IntKind.max, IntKind.signed, IntKind.bits] using wa
  go_enter Try.func4, Try.ntmps4
  go_wp2_with fail
  refine (awake_any W).mono ?_; rintro e w0 ⟨rfl, b0⟩
  have HB0 := Lib.hid b0; clear b0
  go_upto_if 24 with (fail)
  go_cut [0] from 22 to 27 (fun s wx => ∃ r : Nat, s = .int .i64 (r : Int) ∧ r ≤ 9223372036854775807 ∧ w0 = wx)
  case first =>
    as_aux_lemma =>
      by_cases h0 : a < 0
      · obtain ⟨r, hr⟩ : ∃ r : Nat, (r : Int) = -(a + 1) := ⟨(-(a + 1)).toNat, by omega⟩
        have e0 : decide (a < 0) = true := by simpa using h0
        go_wp2_with fail
        go_meet
        case rel => exact ⟨r, by rw [hr], by omega, rfl⟩
      · obtain ⟨r, rfl⟩ : ∃ r : Nat, a = r := ⟨a.toNat, by omega⟩
        have e0 : decide ((r : Int) < 0) = false := by simp
        go_wp2_with fail
        go_meet
        case rel => exact ⟨r, rfl, by omega, rfl⟩
  case rest =>
    obtain ⟨r, rfl, hr, rfl⟩ := hcut
    have hmod : (r : Int).tmod 200 = ((r % 200 : Nat) : Int) := by rw [Int.tmod_eq_emod_of_nonneg (by omega)]; omega
    obtain ⟨q, hq⟩ : ∃ q, r % 200 = q := ⟨_, rfl⟩
    rw [hq] at hmod
    have hq2 : q < 200 := by omega
    have NW := Lib.hid (new_yes (1 + q) (by omega) (by omega) w0)
    rw [show ((1 + q : Nat) : Int) = 1 + (q : Int) by omega] at NW
    clear hab wa hq
    go_wp2_with fail
    refine NW.out.mono ?_; rintro e w1 ⟨hn, Bs, rfl, h1, b1⟩
    have HK := Lib.hid (show Kp w1 w0.heap.size hn Bs [] none 0 [] [] (1 + q) 0 ⟨0, 0, 0, 0, 0⟩ from ⟨h1, Snt.nil _ _, KS.nil, by simp⟩)
    have HB1 := Lib.hid (below_next HB0.out b1)
    have hsz := b1.size
    clear h1 b1 NW
    go_wp2_with fail
    go_loopw [8, 9, 10, 11, 12, 13, 14, 15, 16, 17, 18, 19, 20, 21] (fun v8 v9 v10 v11 v12 v13 v14 v15 v16 v17 v18 v19 v20 v21 wr => ∃ (k made cs : Nat) (Bs E : List Nat) (so : Option Addr) (S : List Pkt) (L : List (Option (List Nat))) (T : Tr), v9 = .int .i64 (k : Int) ∧ v8 = .slice so L.length cs ∧ k ≤ n ∧ k ≤ 300 ∧ made ≤ k ∧ T.spoilt ≤ k ∧ Kp wr w0.heap.size hn Bs E so cs S L (1 + q) made T ∧ Below W.heap.size W wr) (fun _ v9 _ _ _ _ _ _ _ _ _ _ _ _ _ => n - (intOf v9).toNat)
    case atStart => exact ⟨0, 0, 0, Bs, [], none, [], [], _, rfl, rfl, by omega, by omega, by omega, by simp, HK.out, HB1.out⟩
    case round =>
      clear HK HB1
      obtain ⟨k, made, cs, Bs, E, so, S, L, T, rfl, rfl, hk, hk5, hmk, hsp, hkp, hbl⟩ := hrel
      have HK := Lib.hid hkp; have HB := Lib.hid hbl
      clear hkp
      by_cases hlt : k < n ∧ k < 300
      · obtain ⟨hlt, hlt5⟩ := hlt
        obtain ⟨go, oo, p, rfl, hg, hcs, hok⟩ := (HR.out.below hbl) k hlt
        have x0 := hcs 0 (by omega); have x1 := hcs 1 (by omega); have x2 := hcs 2 (by omega); have x3 := hcs 3 (by omega); have x4 := hcs 4 (by omega); have x5 := hcs 5 (by omega); have x6 := hcs 6 (by omega); have x7 := hcs 7 (by omega)
        obtain ⟨kind, fr, dest, at_, pid, raw, by_, xo, xc, l⟩ := p
        simp only [Op.cells, Nat.add_zero, List.getElem?_toArray, List.getElem?_cons_zero, List.getElem?_cons_succ] at x0 x1 x2 x3 x4 x5 x6 x7
        have hki : (0 : Int) ≤ (k : Int) := by omega
        have hki2 : (k : Int) < (n : Int) := by omega
        have hki3 : (k : Int) < 300 := by omega
        have OK := Lib.hid hok
        have b2 := below_alloc (Below.refl wr.heap.size wr) (.cells #[.int .i64 kind, .int .i64 fr, .int .i64 dest, .int .i64 at_, .int .u64 (pid : Int), .bool raw, .int .u8 (by_ : Int), .slice xo l.length xc] 41)
        have K2 := Lib.hid (HK.out.below b2)
        have OK2 := Lib.hid (hok.below b2)
        have HB2 := Lib.hid (below_next HB.out b2)
        have ROW := Lib.hid (heap_alloc_new wr (.cells #[.int .i64 kind, .int .i64 fr, .int .i64 dest, .int .i64 at_, .int .u64 (pid : Int), .bool raw, .int .u8 (by_ : Int), .slice xo l.length xc] 41))
        have HE := Lib.hid (show wr.heap.size ∉ E ∧ wr.heap.size ∉ Bs from ⟨fun h => by have := (HK.out.snt.base _ h).2; omega, fun h => by have := (HK.out.net.blocks _ h).2; omega⟩)
        clear hok hcs hbl OK b2
        go_upto_region 12 with (fail)
        generalize wr.alloc (.cells #[.int .i64 kind, .int .i64 fr, .int .i64 dest, .int .i64 at_, .int .u64 (pid : Int), .bool raw, .int .u8 (by_ : Int), .slice xo l.length xc] 41) = w2 at *
        generalize wr.heap.size = bx at *
        clear HK HB x0 x1 x2 x3 x4 x5 x6 x7 hg
        go_wp2_with fail
        refine (list_any w2 K2.out.net (by omega)).mono ?_; rintro e w3 ⟨v, rfl, b3, hnum⟩
        have K3 := Lib.hid (K2.out.below b3)
        have OK3 := Lib.hid (OK2.out.below b3)
        have HB3 := Lib.hid (below_next HB2.out b3)
        have hbx : bx < w2.heap.size := (Array.getElem?_eq_some_iff.1 ROW.out).1
        have ROW3 := Lib.hid ((b3.block bx hbx).trans ROW.out)
        clear K2 OK2 HB2 ROW b3 hbx
        obtain ⟨m, hm2⟩ : ∃ m, S.length = m := ⟨_, rfl⟩
        obtain ⟨al, cl, rfl⟩ : ∃ al cl, v = .slice al m cl := by
          rcases hnum with ⟨rfl, h⟩ | ⟨g, c, row, rfl, _⟩
          · have : S.length = 0 := by rw [← List.length_map (f := (·.id)), h]; rfl
            exact ⟨none, 0, by rw [← hm2, this]⟩
          · exact ⟨_, _, by rw [List.length_map, hm2]⟩
        have HN := Lib.hid hnum
        have HM2 := Lib.hid hm2
        clear hnum hm2
        go_upto_if 63 with (fail)
        go_cut [12] from 61 to 73 (fun s wx => ∃ id : Nat, s = .int .u64 (id : Int) ∧ id < 18446744073709551616 ∧ w3 = wx)
        case first =>
          as_aux_lemma =>
            have hmr : m ≤ 4096 := by
              obtain ⟨_, _, h⟩ := K3.out.net
              have := h.few; have := h.rm; have := HM2.out; omega
            by_cases h0 : 0 < m
            · obtain ⟨j, hj⟩ : ∃ j, pid % m = j := ⟨_, rfl⟩
              have hjm : j < m := by rw [← hj]; exact Nat.mod_lt _ h0
              have hmod2 : (pid : Int).tmod (m : Int) = (j : Int) := by rw [Int.tmod_eq_emod_of_nonneg (by omega), ← hj]; rfl
              have hpos : decide (0 < (m : Int)) = true := by simpa using h0
              have hm0 : ((m : Int) == 0) = false := by simp; omega
              have hmi : (m : Int) ≤ 4096 := by omega
              have hji : (0 : Int) ≤ (j : Int) := by omega
              have hji2 : (j : Int) < (m : Int) := by omega
              have x4 := cell_of_row _ _ 4 _ _ (0, 0) ROW3.out
              simp only [List.getElem?_toArray, List.getElem?_cons_zero, List.getElem?_cons_succ] at x4
              obtain ⟨g, id, rfl, hc, hid⟩ : ∃ g id, al = some ⟨g, 0, none⟩ ∧ w3.cell? ⟨g, j, none⟩ = some (.int .u64 ((id : Nat) : Int)) ∧ id < 18446744073709551616 := by
                rcases HN.out with ⟨_, h⟩ | ⟨g, c, row, e, _, _, _, hrow, hall⟩
                · have : S.length = 0 := by rw [← List.length_map (f := (·.id)), h]; rfl
                  have := HM2.out; omega
                · cases e
                  refine ⟨g, _, rfl, by rw [cell_of_row _ _ j _ _ (0, 0) hrow]; exact hall j (by rw [List.length_map, HM2.out]; exact hjm), ?_⟩
                  rw [List.getD_eq_getElem?_getD, List.getElem?_map]
                  cases hs : S[j]? with
                  | none => simp
                  | some pp =>
                    have := (K3.out.ks.ids pp (List.mem_of_getElem? hs)).2
                    simp; omega
              clear hj
              go_wp2_with fail
              go_meet
              case rel => exact ⟨id, rfl, hid, rfl⟩
            · obtain rfl : m = 0 := by omega
              go_wp2_with fail
              go_meet
              case rel => exact ⟨0, rfl, by omega, rfl⟩
        case rest =>
          obtain ⟨id, rfl, hid, rfl⟩ := hcut
          clear HN HM2
          have hx3 := ROW3.out
          have x0 := cell_of_row _ _ 0 _ _ (0, 0) hx3; have x2 := cell_of_row _ _ 2 _ _ (0, 0) hx3
          simp only [List.getElem?_toArray, List.getElem?_cons_zero, List.getElem?_cons_succ] at x0 x2
          clear hx3
          have hTb : T.taken ≤ made ∧ T.lost ≤ made ∧ T.sent ≤ made ∧ T.twice ≤ made := by have := K3.out.ks.all; have := K3.out.ks.gone; omega
          by_cases k1 : kind = 1
          · subst k1
            as_aux_lemma =>
              have x1 := cell_of_row _ _ 1 _ _ (0, 0) ROW3.out; have x7 := cell_of_row _ _ 7 _ _ (0, 0) ROW3.out
              simp only [List.getElem?_toArray, List.getElem?_cons_zero, List.getElem?_cons_succ] at x1 x7
              have HLN : Hid (l.length ≤ 140737488351232) := Lib.hid OK3.out.size
              have HBX : Hid (bx < w3.heap.size) := Lib.hid (Array.getElem?_eq_some_iff.1 ROW3.out).1
              have HHN : Hid (hn < w3.heap.size) := Lib.hid (by obtain ⟨gm, e, h⟩ := K3.out.net; exact h.hlt)
              go_wp2_with fail
              refine (own_any l.length xc w3 OK3.out.rd rfl (by have := HLN.out; omega)).mono ?_; rintro e w4 ⟨ao4, cap4, rfl, own4, b4⟩
              have K4 := Lib.hid (K3.out.below b4)
              have HB34 := Lib.hid (below_next HB3.out b4)
              have row4 := (b4.block bx HBX.out).trans ROW3.out
              clear x0 x1 x2 x7
              have x1 := cell_of_row _ _ 1 _ _ (0, 0) row4; have x2 := cell_of_row _ _ 2 _ _ (0, 0) row4
              simp only [List.getElem?_toArray, List.getElem?_cons_zero, List.getElem?_cons_succ] at x1 x2
              have HO4 := Lib.hid own4
              clear own4 b4 row4
              go_wp2_with fail
              refine (kp_send w4 fr dest HO4.out.rd rfl (by have := HLN.out; omega) K4.out (fun g hg e => by have := (HO4.out.lt_size g hg).1; have := HHN.out; omega) (by omega) (by omega)).mono ?_; rintro e w5 ⟨x, y, Bs5, S5, T5, made5, rfl, hmid, t5, hs5, hy0, hy1⟩
              have HB4 := Lib.hid (HB34.out.trans (t5.keep.below HB34.out.size (fun q hq => Nat.le_trans (by have := HB0.out.size; omega) (K4.out.net.blocks q hq).1)))
              by_cases hy : y = 0
              · subst hy
                obtain ⟨rfl, ks5⟩ := hy0 rfl
                have HO5 := Lib.hid (HO4.out.keep t5.keep (fun g hg hm => by have := (HO4.out.lt_size g hg).1; have := (K3.out.net.blocks g hm).2; omega))
                obtain ⟨vs, hown, _⟩ := hmid.snt.own
                obtain ⟨i0, hi0, z0, z1, z2⟩ := info_parts sl_info
                have HI := Lib.hid hi0; have HZ0 := Lib.hid z0; have HZ1 := Lib.hid z1; have HZ2 := Lib.hid z2
                clear hi0 z0 z1 z2
                have hLb : (L.length : Int) ≤ 400 := by have := K3.out.ks.len; omega
                have HB5 : Hid (w0.heap.size ≤ w5.heap.size) := Lib.hid (by have := (hmid.net.blocks _ (by obtain ⟨gm, e, _⟩ := hmid.net; rw [e]; exact List.mem_cons_self ..)); omega)
                have HMID := Lib.hid hmid; have HKS := Lib.hid ks5; have HOWN := Lib.hid hown
                have HO1 : Hid (Own (w5.alloc (.cells #[.int .u8 1] 5)) w5.heap.size (some ⟨w5.heap.size, 0, none⟩) 1 1 [1]) := Lib.hid (Own.one w5 w5.heap.size 1 (by decide) (Nat.le_refl _))
                clear hmid ks5 hy0 hy1 hown t5 x1 x2
                go_upto_region 38 with (first
                  | (at_builtin; refine wpList_app rfl (.tmp 94) (.tmp 95) rfl rfl HO1.out rfl (HO5.out.rd.below (below_alloc (Below.refl _ _) _)) rfl (by simp) (by have := HLN.out; omega) ?_; intro a6 c5 wm own5 kp5 nb5; have HBM : Hid (Below w5.heap.size w5 wm) := Lib.hid ((below_alloc (Below.refl w5.heap.size w5) _).trans (kp5.below (by simp) (fun q hq => by simp [blk] at hq; omega))); have HOV := Lib.hid own5; clear own5 kp5 nb5)
                  | (at_builtin; refine wpList_append_lies _ rfl (.tmp 93) (.tmp 97) 45 rfl w0.heap.size 39 i0 (.slice none 0 0) 1 24 Try.underlying45 HI.out HZ0.out HZ1.out HZ2.out rfl (by omega) (.slice so L.length cs) L.length vs rfl (owns_keep HOWN.out (Keep.of_below (below_next HBM.out (below_alloc (Below.refl _ wm) _)) []) (by simp)) ⟨wm.heap.size, 0, none⟩ 1 1 [.slice a6 (1 + l.length) c5] rfl rfl (World.news_of_block (cs := #[.slice a6 (1 + l.length) c5]) (t := 39) (fr := (0, 0)) (heap_alloc_new wm _)) (by simp [Value.oneCell']) (by omega) (by unfold maxLen; omega) (by omega) (by have := HB5.out; have := HBM.out.size; simp; omega) _ rfl ?_; intro g6 c6 w6 own6 gr6 at6 lt6))
                have HFE : Hid (∀ x ∈ blk a6, x ∉ Bs5) := Lib.hid (fun x hx hm => by have := (HOV.out.lt_size x hx).1; have := (HMID.out.net.blocks x hm).2; omega)
                have b6 := below_alloc (Below.refl wm.heap.size wm) (.cells #[.slice a6 (1 + l.length) c5] 39)
                have b56 := Lib.hid (below_next HBM.out b6)
                have hat6 : ∀ q ∈ blk (some (⟨g6, 0, none⟩ : Addr)), q ∈ blk so ∨ (wm.alloc (.cells #[.slice a6 (1 + l.length) c5] 39)).heap.size ≤ q := by
                  intro q hq
                  have hq : q = g6 := by simpa [blk] using hq
                  rcases at6 with e | e
                  · left
                    cases so with
                    | none => cases e
                    | some a => simp [Value.ownBlock] at e; simp [blk, hq, e]
                  · right; omega
                have kall := (Keep.of_below b56.out (blk so)).trans (keep_grown gr6)
                have HSZ := Lib.hid b56.out.size
                have S6 := (HMID.out.snt.below b56.out).more1 (F := blk a6) (v := .slice a6 (1 + l.length) c5) (o := some l) (Nat.le_trans HB5.out b56.out.size) (⟨a6, c5, by rw [Nat.add_comm], by have := HOV.out.le; omega, HOV.out.max, HOV.out.rd.below b6, fun x hx => ⟨hx, by simp, Nat.lt_of_lt_of_le (HOV.out.lt_size x hx).2 b6.size⟩⟩) (fun x hx => ⟨Nat.le_trans HB5.out (HOV.out.lt_size x hx).1, Nat.lt_of_lt_of_le (HOV.out.lt_size x hx).2 b6.size, fun hm => by have := (HOV.out.lt_size x hx).1; have := (HMID.out.snt.base x (HMID.out.snt.row x hm)).2; omega⟩) (owns_keep HOWN.out (Keep.of_below b56.out []) (by simp)) own6 (keep_grown gr6) hat6
                have KP9 := Lib.hid (show Kp w6 w0.heap.size hn Bs5 (blk (some ⟨g6, 0, none⟩) ++ (blk a6 ++ E)) (some ⟨g6, 0, none⟩) c6 S5 (L ++ [some l]) (1 + q) (made + 1) T5 from ⟨HMID.out.net.keep kall (fun x hx hm => HMID.out.apart x (HMID.out.snt.row x hm) hx), S6, HKS.out, fun x hx hm => by
                  have hlt := (HMID.out.net.blocks x hm).2
                  rcases List.mem_append.1 hx with h | h
                  · rcases hat6 x h with h1 | h1
                    · exact HMID.out.apart x (HMID.out.snt.row x h1) hm
                    · have := HSZ.out; omega
                  · rcases List.mem_append.1 h with h | h
                    · exact HFE.out x h hm
                    · exact HMID.out.apart x h hm⟩)
                have HB9x := Lib.hid (HB4.out.trans (kall.below HB4.out.size (fun x hx => Nat.le_trans HB0.out.size (HMID.out.snt.base x (HMID.out.snt.row x hx)).1)))
                clear hat6 kall S6 own6 gr6 at6 lt6 b6 hLb
                obtain ⟨made9, cs9, Bs9, E9, so9, S9, L9, T9, w9, K9, HB9, hm9, hs9, e1, e2, e3, e4⟩ : ∃ made9 cs9 Bs9 E9 so9 S9 L9 T9 w9, ∃ (_ : Hid (Kp w9 w0.heap.size hn Bs9 E9 so9 cs9 S9 L9 (1 + q) made9 T9)) (_ : Hid (Below W.heap.size W w9)), made9 ≤ made + 1 ∧ T9.spoilt ≤ T.spoilt + 1 ∧ w9 = w6 ∧ cs9 = c6 ∧ so9 = (some ⟨g6, 0, none⟩) ∧ L9.length = L.length + 1 := ⟨(made + 1), c6, Bs5, (blk (some ⟨g6, 0, none⟩) ++ (blk a6 ++ E)), (some ⟨g6, 0, none⟩), S5, (L ++ [some l]), T5, w6, Lib.hid (KP9.out), Lib.hid (HB9x.out), by omega, hs5, rfl, rfl, rfl, by simp⟩
                rw [← e1, ← e2, ← e3, ← e4]
                clear e1 e2 e3 e4 KP9 HB9x HB4 HB34 hs5 K4 K3 HB3 OK3 ROW3 hTb
                have hks := K9.out.ks
                have hA := hks.all; have hG := hks.gone; have hLn := hks.len
                have hrm : S9.length ≤ 1 + q := by obtain ⟨_, _, h⟩ := K9.out.net; exact h.few
                go_wp2_with fail
                refine (told_any w9 K9.out.net).mono ?_; rintro e w10 ⟨rfl, b10⟩
                have K10 := K9.out.below b10
                obtain ⟨ts, tt, tp, ta, tl⟩ := T9
                have CN := Lib.hid (fun (w : World) (h : Net w w0.heap.size hn Bs9 S9 (1 + q) made9 ⟨ts, tt, tp, ta, tl⟩) d os => Calls.regrown_of (same_below (count_any _ (h.below (below_regrown w d os)))))
                have K11 := Lib.hid (K10.below (below_alloc (Below.refl w10.heap.size w10) (.cells #[.int .i64 (ts : Int), .int .i64 (tt : Int), .int .i64 (tp : Int), .int .i64 (ta : Int), .int .i64 (tl : Int)] 33)))
                have HB11 := Lib.hid (below_alloc (below_next HB9.out b10) (.cells #[.int .i64 (ts : Int), .int .i64 (tt : Int), .int .i64 (tp : Int), .int .i64 (ta : Int), .int .i64 (tl : Int)] 33))
                have row := heap_alloc_new w10 (.cells #[.int .i64 (ts : Int), .int .i64 (tt : Int), .int .i64 (tp : Int), .int .i64 (ta : Int), .int .i64 (tl : Int)] 33)
                clear b10 K10 hks
                go_upto_region 39 with (fail)
                generalize hb10 : w10.heap.size = bt at *
                generalize w10.alloc (.cells #[.int .i64 (ts : Int), .int .i64 (tt : Int), .int .i64 (tp : Int), .int .i64 (ta : Int), .int .i64 (tl : Int)] 33) = w11 at *
                have CN2 := Lib.hid (fun d os => CN.out w11 K11.out.net d os)
                have r0 := cell_regrown (cell_of_row _ _ 0 _ _ (0, 0) row); have r1 := cell_regrown (cell_of_row _ _ 1 _ _ (0, 0) row); have r3 := cell_regrown (cell_of_row _ _ 3 _ _ (0, 0) row); have r4 := cell_regrown (cell_of_row _ _ 4 _ _ (0, 0) row)
                simp only [List.getElem_toArray, List.getElem_cons_zero, List.getElem_cons_succ] at r0 r1 r3 r4
                generalize hcS : S9.length = cS at *
                generalize hcL : L9.length = cL at *
                have HCS := Lib.hid hcS; have HCL := Lib.hid hcL
                have hA : ts + tt = made9 := hA
                have hG : ta + tl + cS = made9 := hG
                have y1 : (ts : Int) + (tt : Int) ≤ 302 := by omega
                have y2 : (ta : Int) + (tl : Int) ≤ 302 := by omega
                have y3 : (ta : Int) + (tl : Int) + (cS : Int) = (ts : Int) + (tt : Int) := by omega
                have y4 : (ts : Int) + (tt : Int) = (made9 : Int) := by omega
                have y6 : (made9 : Int) ≤ 302 := by omega
                have y7 : decide ((1 : Int) + (q : Int) < (cS : Int)) = false := by simp; omega
                have y5 : (cS : Int) ≤ 1 + (q : Int) := by omega
                have HCM := Lib.hid (show cL = made9 by omega)
                clear CN row hcS hcL hA hG hLn hrm
                refine wp_region_quiet_below (by kernel_rfl) (by kernel_rfl) ?_
                repeat (go_big_quiet_step (exact CN2.out _ _))
                refine wpQuiet_nil ?_
                intro _ hw'
                obtain ⟨⟨dq, osq⟩, hw''⟩ := hw'
                subst hw''
                have lk := below_regrown w11 dq osq
                have K12 := Lib.hid (K11.out.below lk)
                have HB12 := Lib.hid (below_next HB11.out lk)
                clear r0 r1 r3 r4 lk K11 HB11 CN2 y1 y2 y3 y4 y5 y6 y7
                generalize grow (redrawn w11 dq) osq = w12 at *
                go_wp2_with fail
                go_roundw
                case rel => exact ⟨k + 1, made9, cs9, Bs9, E9, so9, S9, L9, _, by go_num, by rw [HCL.out, HCM.out], by omega, by omega, by omega, (by have hs9' : tp ≤ T.spoilt + 1 := hs9; show tp ≤ _; omega), K12.out, HB12.out⟩
                case measure => simp [intOf]; omega
              · have ks5 := hy1 hy
                obtain ⟨e5, ks5⟩ := ks5
                have KP9 := Lib.hid (show Kp w5 w0.heap.size hn Bs5 E so cs S5 L (1 + q) made5 T5 from ⟨hmid.net, hmid.snt, ks5, hmid.apart⟩)
                clear hmid hy0 hy1 ks5 t5 x1 x2
                go_upto_region 38 with (fail)
                obtain ⟨made9, cs9, Bs9, E9, so9, S9, L9, T9, w9, K9, HB9, hm9, hs9, e1, e2, e3, e4⟩ : ∃ made9 cs9 Bs9 E9 so9 S9 L9 T9 w9, ∃ (_ : Hid (Kp w9 w0.heap.size hn Bs9 E9 so9 cs9 S9 L9 (1 + q) made9 T9)) (_ : Hid (Below W.heap.size W w9)), made9 ≤ made + 1 ∧ T9.spoilt ≤ T.spoilt + 1 ∧ w9 = w5 ∧ cs9 = cs ∧ so9 = so ∧ L9.length = L.length := ⟨made5, cs, Bs5, E, so, S5, L, T5, w5, Lib.hid (KP9.out), Lib.hid (HB4.out), by omega, hs5, rfl, rfl, rfl, rfl⟩
                rw [← e1, ← e2, ← e3, ← e4]
                clear e1 e2 e3 e4 KP9 HB4 HB34 hs5 hy K4 K3 HB3 OK3 ROW3 hTb
                have hks := K9.out.ks
                have hA := hks.all; have hG := hks.gone; have hLn := hks.len
                have hrm : S9.length ≤ 1 + q := by obtain ⟨_, _, h⟩ := K9.out.net; exact h.few
                go_wp2_with fail
                refine (told_any w9 K9.out.net).mono ?_; rintro e w10 ⟨rfl, b10⟩
                have K10 := K9.out.below b10
                obtain ⟨ts, tt, tp, ta, tl⟩ := T9
                have CN := Lib.hid (fun (w : World) (h : Net w w0.heap.size hn Bs9 S9 (1 + q) made9 ⟨ts, tt, tp, ta, tl⟩) d os => Calls.regrown_of (same_below (count_any _ (h.below (below_regrown w d os)))))
                have K11 := Lib.hid (K10.below (below_alloc (Below.refl w10.heap.size w10) (.cells #[.int .i64 (ts : Int), .int .i64 (tt : Int), .int .i64 (tp : Int), .int .i64 (ta : Int), .int .i64 (tl : Int)] 33)))
                have HB11 := Lib.hid (below_alloc (below_next HB9.out b10) (.cells #[.int .i64 (ts : Int), .int .i64 (tt : Int), .int .i64 (tp : Int), .int .i64 (ta : Int), .int .i64 (tl : Int)] 33))
                have row := heap_alloc_new w10 (.cells #[.int .i64 (ts : Int), .int .i64 (tt : Int), .int .i64 (tp : Int), .int .i64 (ta : Int), .int .i64 (tl : Int)] 33)
                clear b10 K10 hks
                go_upto_region 39 with (fail)
                generalize hb10 : w10.heap.size = bt at *
                generalize w10.alloc (.cells #[.int .i64 (ts : Int), .int .i64 (tt : Int), .int .i64 (tp : Int), .int .i64 (ta : Int), .int .i64 (tl : Int)] 33) = w11 at *
                have CN2 := Lib.hid (fun d os => CN.out w11 K11.out.net d os)
                have r0 := cell_regrown (cell_of_row _ _ 0 _ _ (0, 0) row); have r1 := cell_regrown (cell_of_row _ _ 1 _ _ (0, 0) row); have r3 := cell_regrown (cell_of_row _ _ 3 _ _ (0, 0) row); have r4 := cell_regrown (cell_of_row _ _ 4 _ _ (0, 0) row)
                simp only [List.getElem_toArray, List.getElem_cons_zero, List.getElem_cons_succ] at r0 r1 r3 r4
                generalize hcS : S9.length = cS at *
                generalize hcL : L9.length = cL at *
                have HCS := Lib.hid hcS; have HCL := Lib.hid hcL
                have hA : ts + tt = made9 := hA
                have hG : ta + tl + cS = made9 := hG
                have y1 : (ts : Int) + (tt : Int) ≤ 302 := by omega
                have y2 : (ta : Int) + (tl : Int) ≤ 302 := by omega
                have y3 : (ta : Int) + (tl : Int) + (cS : Int) = (ts : Int) + (tt : Int) := by omega
                have y4 : (ts : Int) + (tt : Int) = (made9 : Int) := by omega
                have y6 : (made9 : Int) ≤ 302 := by omega
                have y7 : decide ((1 : Int) + (q : Int) < (cS : Int)) = false := by simp; omega
                have y5 : (cS : Int) ≤ 1 + (q : Int) := by omega
                have HCM := Lib.hid (show cL = made9 by omega)
                clear CN row hcS hcL hA hG hLn hrm
                refine wp_region_quiet_below (by kernel_rfl) (by kernel_rfl) ?_
                repeat (go_big_quiet_step (exact CN2.out _ _))
                refine wpQuiet_nil ?_
                intro _ hw'
                obtain ⟨⟨dq, osq⟩, hw''⟩ := hw'
                subst hw''
                have lk := below_regrown w11 dq osq
                have K12 := Lib.hid (K11.out.below lk)
                have HB12 := Lib.hid (below_next HB11.out lk)
                clear r0 r1 r3 r4 lk K11 HB11 CN2 y1 y2 y3 y4 y5 y6 y7
                generalize grow (redrawn w11 dq) osq = w12 at *
                go_wp2_with fail
                go_roundw
                case rel => exact ⟨k + 1, made9, cs9, Bs9, E9, so9, S9, L9, _, by go_num, by rw [HCL.out, HCM.out], by omega, by omega, by omega, (by have hs9' : tp ≤ T.spoilt + 1 := hs9; show tp ≤ _; omega), K12.out, HB12.out⟩
                case measure => simp [intOf]; omega
          by_cases k2 : kind = 2
          · subst k2
            as_aux_lemma =>
              go_wp2_with fail
              refine (kp_take hid w3 K3.out (by omega)).mono ?_; rintro e w4 ⟨x, pk, Bs4, S4, T4, rfl, h4, t4, hs4, hx0⟩
              have HB4 := Lib.hid (HB3.out.trans (t4.keep.below HB3.out.size (fun q hq => Nat.le_trans (by have := HB0.out.size; omega) (K3.out.net.blocks q hq).1)))
              have HX0 : Hid (x = 0 → Rd w4 pk.ao pk.data ∧ pk.id = id ∧ 1 ≤ id ∧ ∃ o, L[id - 1]? = some o ∧ ∀ l', o = some l' → pk.data = l') := Lib.hid (fun hx => by
                obtain ⟨h1, h2⟩ := hx0 hx
                obtain ⟨i1, i2, o, ho⟩ := K3.out.at_ h1
                obtain ⟨h5, h6⟩ := look_some h1
                exact ⟨h2, h6, i1, o, ho, fun l' e => K3.out.ks.same pk h5 l' (by rw [h6, ho, e])⟩)
              obtain ⟨pid', pfr, pto, pao, pcap, pdata⟩ := pk
              have b5 := below_alloc (Below.refl w4.heap.size w4) (.cells #[.int .u64 (pid' : Int), .int .i64 pfr, .int .i64 pto, .slice pao pdata.length pcap] 52)
              have K5 := Lib.hid (h4.below b5)
              have HB5 := Lib.hid (below_next HB4.out b5)
              have H4 := Lib.hid h4
              have ROW5 := Lib.hid (heap_alloc_new w4 (.cells #[.int .u64 (pid' : Int), .int .i64 pfr, .int .i64 pto, .slice pao pdata.length pcap] 52))
              have HX1 : Hid (x = 0 → Rd (w4.alloc (.cells #[.int .u64 (pid' : Int), .int .i64 pfr, .int .i64 pto, .slice pao pdata.length pcap] 52)) pao pdata) := Lib.hid (fun hx => (HX0.out hx).1.below b5)
              clear hx0 h4 t4 b5 HB4
              go_upto_region 24 with (fail)
              generalize w4.alloc (.cells #[.int .u64 (pid' : Int), .int .i64 pfr, .int .i64 pto, .slice pao pdata.length pcap] 52) = w5 at *
              generalize w4.heap.size = pb at *
              have r0 := cell_regrown (cell_of_row _ _ 0 _ _ (0, 0) ROW5.out); have r3 := cell_regrown (cell_of_row _ _ 3 _ _ (0, 0) ROW5.out)
              by_cases hx : x = 0
              · subst hx
                obtain ⟨_, hpid, i1, o, ho, hsame⟩ := HX0.out rfl
                have hpd := HX1.out rfl
                subst hpid
                obtain ⟨j, rfl⟩ : ∃ j, pid' = j + 1 := ⟨pid' - 1, by omega⟩
                rw [Nat.add_sub_cancel] at ho
                have hjL : j < L.length := (List.getElem?_eq_some_iff.1 ho).1
                have hji : (0 : Int) ≤ (j : Int) := by omega
                have hji2 : (j : Int) < (L.length : Int) := by omega
                have hwr : IntKind.u64.wrap (((j + 1 : Nat) : Int) - 1) = (j : Int) := by
                  have := K3.out.ks.len
                  rw [IntWalk.u64_in _ (by omega)]; omega
                have hne : (((j + 1 : Nat) : Int) != ((j + 1 : Nat) : Int)) = false := by simp
                obtain ⟨g, v, hso, hg, hcell, hfr, hsv⟩ := K5.out.snt.at_ ho
                have HSO := Lib.hid hso
                rw [hso]
                have rc := cell_regrown hcell
                cases o with
                | none =>
                  have hv : v = .slice none 0 0 := hsv
                  subst hv
                  clear hsame hpd hg hcell hfr hsv ho hjL hso
                  obtain ⟨idv, hidv⟩ : ∃ z : Int, ((j + 1 : Nat) : Int) = z := ⟨_, rfl⟩
                  rw [hidv] at hwr hne r0 ⊢
                  clear hidv
                  refine wp_region_quiet_below (by kernel_rfl) (by kernel_rfl) ?_
                  repeat (go_big_quiet_step (fail))
                  refine wpQuiet_nil ?_
                  rw [← HSO.out]
                  intro _ hw'
                  obtain ⟨⟨dq2, osq2⟩, hw''⟩ := hw'
                  subst hw''
                  have lk2 := below_regrown w5 dq2 osq2
                  have KP9 := Lib.hid (K5.out.below lk2)
                  have HB9x := Lib.hid (below_next HB5.out lk2)
                  clear lk2 r0 r3
                  generalize grow (redrawn w5 dq2) osq2 = w6 at *
                  go_upto_region 38 with (fail)
                  obtain ⟨made9, cs9, Bs9, E9, so9, S9, L9, T9, w9, K9, HB9, hm9, hs9, e1, e2, e3, e4⟩ : ∃ made9 cs9 Bs9 E9 so9 S9 L9 T9 w9, ∃ (_ : Hid (Kp w9 w0.heap.size hn Bs9 E9 so9 cs9 S9 L9 (1 + q) made9 T9)) (_ : Hid (Below W.heap.size W w9)), made9 ≤ made + 1 ∧ T9.spoilt ≤ T.spoilt + 1 ∧ w9 = w6 ∧ cs9 = cs ∧ so9 = so ∧ L9.length = L.length := ⟨made, cs, Bs4, E, so, S4, L, T4, w6, Lib.hid (KP9.out), Lib.hid (HB9x.out), by omega, hs4, rfl, rfl, rfl, rfl⟩
                  rw [← e1, ← e2, ← e3, ← e4]
                  clear e1 e2 e3 e4 KP9 HB9x HB5 K5 hs4 K3 HB3 OK3 ROW3 hTb x0 x2
                  have hks := K9.out.ks
                  have hA := hks.all; have hG := hks.gone; have hLn := hks.len
                  have hrm : S9.length ≤ 1 + q := by obtain ⟨_, _, h⟩ := K9.out.net; exact h.few
                  go_wp2_with fail
                  refine (told_any w9 K9.out.net).mono ?_; rintro e w10 ⟨rfl, b10⟩
                  have K10 := K9.out.below b10
                  obtain ⟨ts, tt, tp, ta, tl⟩ := T9
                  have CN := Lib.hid (fun (w : World) (h : Net w w0.heap.size hn Bs9 S9 (1 + q) made9 ⟨ts, tt, tp, ta, tl⟩) d os => Calls.regrown_of (same_below (count_any _ (h.below (below_regrown w d os)))))
                  have K11 := Lib.hid (K10.below (below_alloc (Below.refl w10.heap.size w10) (.cells #[.int .i64 (ts : Int), .int .i64 (tt : Int), .int .i64 (tp : Int), .int .i64 (ta : Int), .int .i64 (tl : Int)] 33)))
                  have HB11 := Lib.hid (below_alloc (below_next HB9.out b10) (.cells #[.int .i64 (ts : Int), .int .i64 (tt : Int), .int .i64 (tp : Int), .int .i64 (ta : Int), .int .i64 (tl : Int)] 33))
                  have row := heap_alloc_new w10 (.cells #[.int .i64 (ts : Int), .int .i64 (tt : Int), .int .i64 (tp : Int), .int .i64 (ta : Int), .int .i64 (tl : Int)] 33)
                  clear b10 K10 hks
                  go_upto_region 39 with (fail)
                  generalize hb10 : w10.heap.size = bt at *
                  generalize w10.alloc (.cells #[.int .i64 (ts : Int), .int .i64 (tt : Int), .int .i64 (tp : Int), .int .i64 (ta : Int), .int .i64 (tl : Int)] 33) = w11 at *
                  have CN2 := Lib.hid (fun d os => CN.out w11 K11.out.net d os)
                  have r0 := cell_regrown (cell_of_row _ _ 0 _ _ (0, 0) row); have r1 := cell_regrown (cell_of_row _ _ 1 _ _ (0, 0) row); have r3 := cell_regrown (cell_of_row _ _ 3 _ _ (0, 0) row); have r4 := cell_regrown (cell_of_row _ _ 4 _ _ (0, 0) row)
                  simp only [List.getElem_toArray, List.getElem_cons_zero, List.getElem_cons_succ] at r0 r1 r3 r4
                  generalize hcS : S9.length = cS at *
                  generalize hcL : L9.length = cL at *
                  have HCS := Lib.hid hcS; have HCL := Lib.hid hcL
                  have hA : ts + tt = made9 := hA
                  have hG : ta + tl + cS = made9 := hG
                  have y1 : (ts : Int) + (tt : Int) ≤ 302 := by omega
                  have y2 : (ta : Int) + (tl : Int) ≤ 302 := by omega
                  have y3 : (ta : Int) + (tl : Int) + (cS : Int) = (ts : Int) + (tt : Int) := by omega
                  have y4 : (ts : Int) + (tt : Int) = (made9 : Int) := by omega
                  have y6 : (made9 : Int) ≤ 302 := by omega
                  have y7 : decide ((1 : Int) + (q : Int) < (cS : Int)) = false := by simp; omega
                  have y5 : (cS : Int) ≤ 1 + (q : Int) := by omega
                  have HCM := Lib.hid (show cL = made9 by omega)
                  clear CN row hcS hcL hA hG hLn hrm
                  refine wp_region_quiet_below (by kernel_rfl) (by kernel_rfl) ?_
                  repeat (go_big_quiet_step (exact CN2.out _ _))
                  refine wpQuiet_nil ?_
                  intro _ hw'
                  obtain ⟨⟨dq, osq⟩, hw''⟩ := hw'
                  subst hw''
                  have lk := below_regrown w11 dq osq
                  have K12 := Lib.hid (K11.out.below lk)
                  have HB12 := Lib.hid (below_next HB11.out lk)
                  clear r0 r1 r3 r4 lk K11 HB11 CN2 y1 y2 y3 y4 y5 y6 y7
                  generalize grow (redrawn w11 dq) osq = w12 at *
                  go_wp2_with fail
                  go_roundw
                  case rel => exact ⟨k + 1, made9, cs9, Bs9, E9, so9, S9, L9, _, by go_num, by rw [HCL.out, HCM.out], by omega, by omega, by omega, (by have hs9' : tp ≤ T.spoilt + 1 := hs9; show tp ≤ _; omega), K12.out, HB12.out⟩
                  case measure => simp [intOf]; omega
                | some l' =>
                  obtain ⟨a, c, hv, hc1, hc2, hrd, _⟩ := hsv
                  subst hv
                  have hpl := hsame l' rfl
                  subst hpl
                  obtain ⟨ag, ao9, ea, _, _⟩ := hrd.at_ 0 (by simp)
                  have HRD := Lib.hid hrd; have HPD := Lib.hid hpd
                  have HRT : Hid (Rd w5 (sh a c 1) pdata) := Lib.hid (by have := hrd.sh c 1 (by simpa using hc1); simpa using this)
                  have HEA := Lib.hid ea
                  subst ea
                  clear hsame hpd hg hcell hfr ho hjL hso hrd hc1 hc2
                  obtain ⟨idv, hidv⟩ : ∃ z : Int, ((j + 1 : Nat) : Int) = z := ⟨_, rfl⟩
                  rw [hidv] at hwr hne r0 ⊢
                  clear hidv
                  obtain ⟨pl, hpl⟩ : ∃ m, pdata.length = m := ⟨_, rfl⟩
                  have HPL := Lib.hid hpl
                  rw [hpl] at r3 rc
                  clear hpl
                  refine wp_region_quiet_below (by kernel_rfl) (by kernel_rfl) ?_
                  iterate 20 (go_big_quiet_step (fail))
                  refine BigFrame.wpQuiet_want (by rfl) (fun K hK => quiet_value _ (fun w' hw' => exec_slice (vx := .slice (some ⟨ag, ao9, none⟩) (pl + 1) c) (lv := some (.int .i64 1)) (hv := none) 39 (.tmp 126) (some (.const (.int .i64 1))) none rfl rfl rfl rfl (run_tail w' _ pl c)) (hK _ ?_))
                  simp only [Act.put, List.setIfInBounds_toArray, List.set_cons_zero, List.set_cons_succ]
                  refine BigFrame.wpQuiet_want (by rfl) (fun K hK => quiet_value _ (fun w' hw' => exec_convert (vx := .slice (sh (some ⟨ag, ao9, none⟩) c 1) pl (c - 1)) 39 9 (.tmp 127) rfl rfl (run_str (HRT.out.below (by obtain ⟨p, hp⟩ := hw'; rw [hp]; exact below_regrown _ _ _)) pl (c - 1) HPL.out)) (hK _ ?_))
                  simp only [Act.put, List.setIfInBounds_toArray, List.set_cons_zero, List.set_cons_succ]
                  iterate 2 (go_big_quiet_step (fail))
                  refine BigFrame.wpQuiet_want (by rfl) (fun K hK => quiet_value _ (fun w' hw' => exec_convert (vx := .slice pao pl pcap) 39 9 (.tmp 130) rfl rfl (run_str (HPD.out.below (by obtain ⟨p, hp⟩ := hw'; rw [hp]; exact below_regrown _ _ _)) pl pcap HPL.out)) (hK _ ?_))
                  simp only [Act.put, List.setIfInBounds_toArray, List.set_cons_zero, List.set_cons_succ]
                  generalize ofBs pdata = sv at *
                  repeat (go_big_quiet_step (fail))
                  refine wpQuiet_nil ?_
                  rw [← HSO.out]
                  intro _ hw'
                  obtain ⟨⟨dq2, osq2⟩, hw''⟩ := hw'
                  subst hw''
                  have lk2 := below_regrown w5 dq2 osq2
                  have KP9 := Lib.hid (K5.out.below lk2)
                  have HB9x := Lib.hid (below_next HB5.out lk2)
                  clear lk2 r0 r3
                  generalize grow (redrawn w5 dq2) osq2 = w6 at *
                  go_upto_region 38 with (fail)
                  obtain ⟨made9, cs9, Bs9, E9, so9, S9, L9, T9, w9, K9, HB9, hm9, hs9, e1, e2, e3, e4⟩ : ∃ made9 cs9 Bs9 E9 so9 S9 L9 T9 w9, ∃ (_ : Hid (Kp w9 w0.heap.size hn Bs9 E9 so9 cs9 S9 L9 (1 + q) made9 T9)) (_ : Hid (Below W.heap.size W w9)), made9 ≤ made + 1 ∧ T9.spoilt ≤ T.spoilt + 1 ∧ w9 = w6 ∧ cs9 = cs ∧ so9 = so ∧ L9.length = L.length := ⟨made, cs, Bs4, E, so, S4, L, T4, w6, Lib.hid (KP9.out), Lib.hid (HB9x.out), by omega, hs4, rfl, rfl, rfl, rfl⟩
                  rw [← e1, ← e2, ← e3, ← e4]
                  clear e1 e2 e3 e4 KP9 HB9x HB5 K5 hs4 K3 HB3 OK3 ROW3 hTb x0 x2
                  have hks := K9.out.ks
                  have hA := hks.all; have hG := hks.gone; have hLn := hks.len
                  have hrm : S9.length ≤ 1 + q := by obtain ⟨_, _, h⟩ := K9.out.net; exact h.few
                  go_wp2_with fail
                  refine (told_any w9 K9.out.net).mono ?_; rintro e w10 ⟨rfl, b10⟩
                  have K10 := K9.out.below b10
                  obtain ⟨ts, tt, tp, ta, tl⟩ := T9
                  have CN := Lib.hid (fun (w : World) (h : Net w w0.heap.size hn Bs9 S9 (1 + q) made9 ⟨ts, tt, tp, ta, tl⟩) d os => Calls.regrown_of (same_below (count_any _ (h.below (below_regrown w d os)))))
                  have K11 := Lib.hid (K10.below (below_alloc (Below.refl w10.heap.size w10) (.cells #[.int .i64 (ts : Int), .int .i64 (tt : Int), .int .i64 (tp : Int), .int .i64 (ta : Int), .int .i64 (tl : Int)] 33)))
                  have HB11 := Lib.hid (below_alloc (below_next HB9.out b10) (.cells #[.int .i64 (ts : Int), .int .i64 (tt : Int), .int .i64 (tp : Int), .int .i64 (ta : Int), .int .i64 (tl : Int)] 33))
                  have row := heap_alloc_new w10 (.cells #[.int .i64 (ts : Int), .int .i64 (tt : Int), .int .i64 (tp : Int), .int .i64 (ta : Int), .int .i64 (tl : Int)] 33)
                  clear b10 K10 hks
                  go_upto_region 39 with (fail)
                  generalize hb10 : w10.heap.size = bt at *
                  generalize w10.alloc (.cells #[.int .i64 (ts : Int), .int .i64 (tt : Int), .int .i64 (tp : Int), .int .i64 (ta : Int), .int .i64 (tl : Int)] 33) = w11 at *
                  have CN2 := Lib.hid (fun d os => CN.out w11 K11.out.net d os)
                  have r0 := cell_regrown (cell_of_row _ _ 0 _ _ (0, 0) row); have r1 := cell_regrown (cell_of_row _ _ 1 _ _ (0, 0) row); have r3 := cell_regrown (cell_of_row _ _ 3 _ _ (0, 0) row); have r4 := cell_regrown (cell_of_row _ _ 4 _ _ (0, 0) row)
                  simp only [List.getElem_toArray, List.getElem_cons_zero, List.getElem_cons_succ] at r0 r1 r3 r4
                  generalize hcS : S9.length = cS at *
                  generalize hcL : L9.length = cL at *
                  have HCS := Lib.hid hcS; have HCL := Lib.hid hcL
                  have hA : ts + tt = made9 := hA
                  have hG : ta + tl + cS = made9 := hG
                  have y1 : (ts : Int) + (tt : Int) ≤ 302 := by omega
                  have y2 : (ta : Int) + (tl : Int) ≤ 302 := by omega
                  have y3 : (ta : Int) + (tl : Int) + (cS : Int) = (ts : Int) + (tt : Int) := by omega
                  have y4 : (ts : Int) + (tt : Int) = (made9 : Int) := by omega
                  have y6 : (made9 : Int) ≤ 302 := by omega
                  have y7 : decide ((1 : Int) + (q : Int) < (cS : Int)) = false := by simp; omega
                  have y5 : (cS : Int) ≤ 1 + (q : Int) := by omega
                  have HCM := Lib.hid (show cL = made9 by omega)
                  clear CN row hcS hcL hA hG hLn hrm
                  refine wp_region_quiet_below (by kernel_rfl) (by kernel_rfl) ?_
                  repeat (go_big_quiet_step (exact CN2.out _ _))
                  refine wpQuiet_nil ?_
                  intro _ hw'
                  obtain ⟨⟨dq, osq⟩, hw''⟩ := hw'
                  subst hw''
                  have lk := below_regrown w11 dq osq
                  have K12 := Lib.hid (K11.out.below lk)
                  have HB12 := Lib.hid (below_next HB11.out lk)
                  clear r0 r1 r3 r4 lk K11 HB11 CN2 y1 y2 y3 y4 y5 y6 y7
                  generalize grow (redrawn w11 dq) osq = w12 at *
                  go_wp2_with fail
                  go_roundw
                  case rel => exact ⟨k + 1, made9, cs9, Bs9, E9, so9, S9, L9, _, by go_num, by rw [HCL.out, HCM.out], by omega, by omega, by omega, (by have hs9' : tp ≤ T.spoilt + 1 := hs9; show tp ≤ _; omega), K12.out, HB12.out⟩
                  case measure => simp [intOf]; omega
              · have hx1 : decide (x = 0) = false := decide_eq_false hx
                have hx2 : (x == 0) = false := by simp [hx]
                replace hx := Lib.hid hx
                refine wp_region_quiet_below (by kernel_rfl) (by kernel_rfl) ?_
                repeat (go_big_quiet_step (fail))
                refine wpQuiet_nil ?_
                intro _ hw'
                obtain ⟨⟨dq2, osq2⟩, hw''⟩ := hw'
                subst hw''
                have lk2 := below_regrown w5 dq2 osq2
                have KP9 := Lib.hid (K5.out.below lk2)
                have HB9x := Lib.hid (below_next HB5.out lk2)
                clear lk2 r0 r3
                generalize grow (redrawn w5 dq2) osq2 = w6 at *
                go_upto_region 38 with (fail)
                obtain ⟨made9, cs9, Bs9, E9, so9, S9, L9, T9, w9, K9, HB9, hm9, hs9, e1, e2, e3, e4⟩ : ∃ made9 cs9 Bs9 E9 so9 S9 L9 T9 w9, ∃ (_ : Hid (Kp w9 w0.heap.size hn Bs9 E9 so9 cs9 S9 L9 (1 + q) made9 T9)) (_ : Hid (Below W.heap.size W w9)), made9 ≤ made + 1 ∧ T9.spoilt ≤ T.spoilt + 1 ∧ w9 = w6 ∧ cs9 = cs ∧ so9 = so ∧ L9.length = L.length := ⟨made, cs, Bs4, E, so, S4, L, T4, w6, Lib.hid (KP9.out), Lib.hid (HB9x.out), by omega, hs4, rfl, rfl, rfl, rfl⟩
                rw [← e1, ← e2, ← e3, ← e4]
                clear e1 e2 e3 e4 KP9 HB9x HB5 K5 hs4 K3 HB3 OK3 ROW3 hTb x0 x2
                have hks := K9.out.ks
                have hA := hks.all; have hG := hks.gone; have hLn := hks.len
                have hrm : S9.length ≤ 1 + q := by obtain ⟨_, _, h⟩ := K9.out.net; exact h.few
                go_wp2_with fail
                refine (told_any w9 K9.out.net).mono ?_; rintro e w10 ⟨rfl, b10⟩
                have K10 := K9.out.below b10
                obtain ⟨ts, tt, tp, ta, tl⟩ := T9
                have CN := Lib.hid (fun (w : World) (h : Net w w0.heap.size hn Bs9 S9 (1 + q) made9 ⟨ts, tt, tp, ta, tl⟩) d os => Calls.regrown_of (same_below (count_any _ (h.below (below_regrown w d os)))))
                have K11 := Lib.hid (K10.below (below_alloc (Below.refl w10.heap.size w10) (.cells #[.int .i64 (ts : Int), .int .i64 (tt : Int), .int .i64 (tp : Int), .int .i64 (ta : Int), .int .i64 (tl : Int)] 33)))
                have HB11 := Lib.hid (below_alloc (below_next HB9.out b10) (.cells #[.int .i64 (ts : Int), .int .i64 (tt : Int), .int .i64 (tp : Int), .int .i64 (ta : Int), .int .i64 (tl : Int)] 33))
                have row := heap_alloc_new w10 (.cells #[.int .i64 (ts : Int), .int .i64 (tt : Int), .int .i64 (tp : Int), .int .i64 (ta : Int), .int .i64 (tl : Int)] 33)
                clear b10 K10 hks
                go_upto_region 39 with (fail)
                generalize hb10 : w10.heap.size = bt at *
                generalize w10.alloc (.cells #[.int .i64 (ts : Int), .int .i64 (tt : Int), .int .i64 (tp : Int), .int .i64 (ta : Int), .int .i64 (tl : Int)] 33) = w11 at *
                have CN2 := Lib.hid (fun d os => CN.out w11 K11.out.net d os)
                have r0 := cell_regrown (cell_of_row _ _ 0 _ _ (0, 0) row); have r1 := cell_regrown (cell_of_row _ _ 1 _ _ (0, 0) row); have r3 := cell_regrown (cell_of_row _ _ 3 _ _ (0, 0) row); have r4 := cell_regrown (cell_of_row _ _ 4 _ _ (0, 0) row)
                simp only [List.getElem_toArray, List.getElem_cons_zero, List.getElem_cons_succ] at r0 r1 r3 r4
                generalize hcS : S9.length = cS at *
                generalize hcL : L9.length = cL at *
                have HCS := Lib.hid hcS; have HCL := Lib.hid hcL
                have hA : ts + tt = made9 := hA
                have hG : ta + tl + cS = made9 := hG
                have y1 : (ts : Int) + (tt : Int) ≤ 302 := by omega
                have y2 : (ta : Int) + (tl : Int) ≤ 302 := by omega
                have y3 : (ta : Int) + (tl : Int) + (cS : Int) = (ts : Int) + (tt : Int) := by omega
                have y4 : (ts : Int) + (tt : Int) = (made9 : Int) := by omega
                have y6 : (made9 : Int) ≤ 302 := by omega
                have y7 : decide ((1 : Int) + (q : Int) < (cS : Int)) = false := by simp; omega
                have y5 : (cS : Int) ≤ 1 + (q : Int) := by omega
                have HCM := Lib.hid (show cL = made9 by omega)
                clear CN row hcS hcL hA hG hLn hrm
                refine wp_region_quiet_below (by kernel_rfl) (by kernel_rfl) ?_
                repeat (go_big_quiet_step (exact CN2.out _ _))
                refine wpQuiet_nil ?_
                intro _ hw'
                obtain ⟨⟨dq, osq⟩, hw''⟩ := hw'
                subst hw''
                have lk := below_regrown w11 dq osq
                have K12 := Lib.hid (K11.out.below lk)
                have HB12 := Lib.hid (below_next HB11.out lk)
                clear r0 r1 r3 r4 lk K11 HB11 CN2 y1 y2 y3 y4 y5 y6 y7
                generalize grow (redrawn w11 dq) osq = w12 at *
                go_wp2_with fail
                go_roundw
                case rel => exact ⟨k + 1, made9, cs9, Bs9, E9, so9, S9, L9, _, by go_num, by rw [HCL.out, HCM.out], by omega, by omega, by omega, (by have hs9' : tp ≤ T.spoilt + 1 := hs9; show tp ≤ _; omega), K12.out, HB12.out⟩
                case measure => simp [intOf]; omega
          by_cases k4 : kind = 4
          · subst k4
            as_aux_lemma =>
              go_wp2_with fail
              refine (kp_lose hid w3 K3.out (by omega)).mono ?_; rintro e w4 ⟨x, Bs4, S4, T4, rfl, h4, t4, hs4⟩
              have HB4 := Lib.hid (HB3.out.trans (t4.keep.below HB3.out.size (fun q hq => Nat.le_trans (by have := HB0.out.size; omega) (K3.out.net.blocks q hq).1)))
              have H4 := Lib.hid h4
              clear h4
              go_upto_region 38 with (fail)
              obtain ⟨made9, cs9, Bs9, E9, so9, S9, L9, T9, w9, K9, HB9, hm9, hs9, e1, e2, e3, e4⟩ : ∃ made9 cs9 Bs9 E9 so9 S9 L9 T9 w9, ∃ (_ : Hid (Kp w9 w0.heap.size hn Bs9 E9 so9 cs9 S9 L9 (1 + q) made9 T9)) (_ : Hid (Below W.heap.size W w9)), made9 ≤ made + 1 ∧ T9.spoilt ≤ T.spoilt + 1 ∧ w9 = w4 ∧ cs9 = cs ∧ so9 = so ∧ L9.length = L.length := ⟨made, cs, Bs4, E, so, S4, L, T4, w4, Lib.hid (H4.out), Lib.hid (HB4.out), by omega, hs4, rfl, rfl, rfl, rfl⟩
              rw [← e1, ← e2, ← e3, ← e4]
              clear e1 e2 e3 e4 H4 HB4 t4 hs4 K3 HB3 OK3 ROW3 hTb x0 x2
              have hks := K9.out.ks
              have hA := hks.all; have hG := hks.gone; have hLn := hks.len
              have hrm : S9.length ≤ 1 + q := by obtain ⟨_, _, h⟩ := K9.out.net; exact h.few
              go_wp2_with fail
              refine (told_any w9 K9.out.net).mono ?_; rintro e w10 ⟨rfl, b10⟩
              have K10 := K9.out.below b10
              obtain ⟨ts, tt, tp, ta, tl⟩ := T9
              have CN := Lib.hid (fun (w : World) (h : Net w w0.heap.size hn Bs9 S9 (1 + q) made9 ⟨ts, tt, tp, ta, tl⟩) d os => Calls.regrown_of (same_below (count_any _ (h.below (below_regrown w d os)))))
              have K11 := Lib.hid (K10.below (below_alloc (Below.refl w10.heap.size w10) (.cells #[.int .i64 (ts : Int), .int .i64 (tt : Int), .int .i64 (tp : Int), .int .i64 (ta : Int), .int .i64 (tl : Int)] 33)))
              have HB11 := Lib.hid (below_alloc (below_next HB9.out b10) (.cells #[.int .i64 (ts : Int), .int .i64 (tt : Int), .int .i64 (tp : Int), .int .i64 (ta : Int), .int .i64 (tl : Int)] 33))
              have row := heap_alloc_new w10 (.cells #[.int .i64 (ts : Int), .int .i64 (tt : Int), .int .i64 (tp : Int), .int .i64 (ta : Int), .int .i64 (tl : Int)] 33)
              clear b10 K10 hks
              go_upto_region 39 with (fail)
              generalize hb10 : w10.heap.size = bt at *
              generalize w10.alloc (.cells #[.int .i64 (ts : Int), .int .i64 (tt : Int), .int .i64 (tp : Int), .int .i64 (ta : Int), .int .i64 (tl : Int)] 33) = w11 at *
              have CN2 := Lib.hid (fun d os => CN.out w11 K11.out.net d os)
              have r0 := cell_regrown (cell_of_row _ _ 0 _ _ (0, 0) row); have r1 := cell_regrown (cell_of_row _ _ 1 _ _ (0, 0) row); have r3 := cell_regrown (cell_of_row _ _ 3 _ _ (0, 0) row); have r4 := cell_regrown (cell_of_row _ _ 4 _ _ (0, 0) row)
              simp only [List.getElem_toArray, List.getElem_cons_zero, List.getElem_cons_succ] at r0 r1 r3 r4
              generalize hcS : S9.length = cS at *
              generalize hcL : L9.length = cL at *
              have HCS := Lib.hid hcS; have HCL := Lib.hid hcL
              have hA : ts + tt = made9 := hA
              have hG : ta + tl + cS = made9 := hG
              have y1 : (ts : Int) + (tt : Int) ≤ 302 := by omega
              have y2 : (ta : Int) + (tl : Int) ≤ 302 := by omega
              have y3 : (ta : Int) + (tl : Int) + (cS : Int) = (ts : Int) + (tt : Int) := by omega
              have y4 : (ts : Int) + (tt : Int) = (made9 : Int) := by omega
              have y6 : (made9 : Int) ≤ 302 := by omega
              have y7 : decide ((1 : Int) + (q : Int) < (cS : Int)) = false := by simp; omega
              have y5 : (cS : Int) ≤ 1 + (q : Int) := by omega
              have HCM := Lib.hid (show cL = made9 by omega)
              clear CN row hcS hcL hA hG hLn hrm
              refine wp_region_quiet_below (by kernel_rfl) (by kernel_rfl) ?_
              repeat (go_big_quiet_step (exact CN2.out _ _))
              refine wpQuiet_nil ?_
              intro _ hw'
              obtain ⟨⟨dq, osq⟩, hw''⟩ := hw'
              subst hw''
              have lk := below_regrown w11 dq osq
              have K12 := Lib.hid (K11.out.below lk)
              have HB12 := Lib.hid (below_next HB11.out lk)
              clear r0 r1 r3 r4 lk K11 HB11 CN2 y1 y2 y3 y4 y5 y6 y7
              generalize grow (redrawn w11 dq) osq = w12 at *
              go_wp2_with fail
              go_roundw
              case rel => exact ⟨k + 1, made9, cs9, Bs9, E9, so9, S9, L9, _, by go_num, by rw [HCL.out, HCM.out], by omega, by omega, by omega, (by have hs9' : tp ≤ T.spoilt + 1 := hs9; show tp ≤ _; omega), K12.out, HB12.out⟩
              case measure => simp [intOf]; omega
          by_cases k5 : kind = 5
          · subst k5
            as_aux_lemma =>
              go_wp2_with fail
              refine (kp_twice hid w3 K3.out (by omega) (by omega)).mono ?_; rintro e w5 ⟨x, y, Bs5, S5, T5, made4, rfl, hmid, t4, hs4, hy0, hy1⟩
              have HB4 := Lib.hid (HB3.out.trans (t4.keep.below HB3.out.size (fun q hq => Nat.le_trans (by have := HB0.out.size; omega) (K3.out.net.blocks q hq).1)))
              by_cases hy : y = 0
              · subst hy
                obtain ⟨rfl, o, i1, i2, ho, ks4⟩ := hy0 rfl
                obtain ⟨j, rfl⟩ : ∃ j, id = j + 1 := ⟨id - 1, by omega⟩
                rw [Nat.add_sub_cancel] at ho
                have hjL : j < L.length := (List.getElem?_eq_some_iff.1 ho).1
                obtain ⟨g, v, hso, hg, hcell, hfr, hsv⟩ := hmid.snt.at_ ho
                obtain ⟨vs, hown, _⟩ := hmid.snt.own
                obtain ⟨vo, vn, vc, rfl, hsv1, hsv2⟩ := hsv.own
                obtain ⟨i0, hi0, z0, z1, z2⟩ := info_parts sl_info
                have HI := Lib.hid hi0; have HZ0 := Lib.hid z0; have HZ1 := Lib.hid z1; have HZ2 := Lib.hid z2
                clear hi0 z0 z1 z2
                have hji : (0 : Int) ≤ (j : Int) := by omega
                have hji2 : (j : Int) < (L.length : Int) := by omega
                have hjb : (j : Int) ≤ 400 := by omega
                have hLb : (L.length : Int) ≤ 400 := by have := K3.out.ks.len; omega
                have HB5 : Hid (w0.heap.size ≤ w5.heap.size) := Lib.hid (by have := (hmid.net.blocks _ (by obtain ⟨gm, e, _⟩ := hmid.net; rw [e]; exact List.mem_cons_self ..)); omega)
                have HMID := Lib.hid hmid; have HKS := Lib.hid ks4; have HOWN := Lib.hid hown; have HSV1 := Lib.hid hsv1; have HSV2 := Lib.hid hsv2; have HSO := Lib.hid hso
                have HBM : Hid (Below w5.heap.size w5 w5) := Lib.hid (Below.refl _ _)
                have HFE : Hid (∀ x ∈ blk vo, x ∉ Bs5) := Lib.hid (fun x hx => hmid.apart x (hsv2 x hx).1)
                clear hmid hsv hsv1 hsv2 ks4 hy0 hy1 hown hjL ho
                rw [hso]
                clear hso
                go_upto_region 38 with (at_builtin; rw [← HSO.out]; refine wpList_append_lies _ rfl (.tmp 151) (.tmp 157) 45 rfl w0.heap.size 39 i0 (.slice none 0 0) 1 24 Try.underlying45 HI.out HZ0.out HZ1.out HZ2.out rfl (by omega) (.slice so L.length cs) L.length vs rfl (owns_keep HOWN.out (Keep.of_below (below_alloc (Below.refl _ w5) _) []) (by simp)) ⟨w5.heap.size, 0, none⟩ 1 1 [.slice vo vn vc] rfl rfl (World.news_of_block (cs := #[.slice vo vn vc]) (t := 39) (fr := (0, 0)) (heap_alloc_new w5 _)) (by simp [Value.oneCell']) (by omega) (by unfold maxLen; omega) (by omega) (by have := HB5.out; simp; omega) _ rfl ?_; intro g6 c6 w6 own6 gr6 at6 lt6)
                have b6 := below_alloc (Below.refl w5.heap.size w5) (.cells #[.slice vo vn vc] 39)
                have b56 := Lib.hid (below_next HBM.out b6)
                have hat6 : ∀ q ∈ blk (some (⟨g6, 0, none⟩ : Addr)), q ∈ blk so ∨ (w5.alloc (.cells #[.slice vo vn vc] 39)).heap.size ≤ q := by
                  intro q hq
                  have hq : q = g6 := by simpa [blk] using hq
                  rcases at6 with e | e
                  · left
                    cases so with
                    | none => cases e
                    | some a => simp [Value.ownBlock] at e; simp [blk, hq, e]
                  · right; omega
                have kall := (Keep.of_below b56.out (blk so)).trans (keep_grown gr6)
                have HSZ := Lib.hid b56.out.size
                have S6 := (HMID.out.snt.below b56.out).more1 (F := blk vo) (v := .slice vo vn vc) (o := o) (Nat.le_trans HB5.out b56.out.size) (HSV1.out.keep (Keep.of_below b56.out []) (by simp)) (fun x hx => ⟨(HMID.out.snt.base x (HSV2.out x hx).1).1, Nat.lt_of_lt_of_le (HMID.out.snt.base x (HSV2.out x hx).1).2 HSZ.out, (HSV2.out x hx).2⟩) (owns_keep HOWN.out (Keep.of_below b56.out []) (by simp)) own6 (keep_grown gr6) hat6
                have KP9 := Lib.hid (show Kp w6 w0.heap.size hn Bs5 (blk (some ⟨g6, 0, none⟩) ++ (blk vo ++ E)) (some ⟨g6, 0, none⟩) c6 S5 (L ++ [o]) (1 + q) (made + 1) T5 from ⟨HMID.out.net.keep kall (fun x hx hm => HMID.out.apart x (HMID.out.snt.row x hm) hx), S6, HKS.out, fun x hx hm => by
                  have hlt := (HMID.out.net.blocks x hm).2
                  rcases List.mem_append.1 hx with h | h
                  · rcases hat6 x h with h1 | h1
                    · exact HMID.out.apart x (HMID.out.snt.row x h1) hm
                    · have := HSZ.out; omega
                  · rcases List.mem_append.1 h with h | h
                    · exact HFE.out x h hm
                    · exact HMID.out.apart x h hm⟩)
                have HB9x := Lib.hid (HB4.out.trans (kall.below HB4.out.size (fun x hx => Nat.le_trans HB0.out.size (HMID.out.snt.base x (HMID.out.snt.row x hx)).1)))
                clear hat6 kall S6 own6 gr6 at6 lt6 b6 hg hcell hfr hji hji2 hjb hLb
                obtain ⟨made9, cs9, Bs9, E9, so9, S9, L9, T9, w9, K9, HB9, hm9, hs9, e1, e2, e3, e4⟩ : ∃ made9 cs9 Bs9 E9 so9 S9 L9 T9 w9, ∃ (_ : Hid (Kp w9 w0.heap.size hn Bs9 E9 so9 cs9 S9 L9 (1 + q) made9 T9)) (_ : Hid (Below W.heap.size W w9)), made9 ≤ made + 1 ∧ T9.spoilt ≤ T.spoilt + 1 ∧ w9 = w6 ∧ cs9 = c6 ∧ so9 = (some ⟨g6, 0, none⟩) ∧ L9.length = L.length + 1 := ⟨(made + 1), c6, Bs5, (blk (some ⟨g6, 0, none⟩) ++ (blk vo ++ E)), (some ⟨g6, 0, none⟩), S5, (L ++ [o]), T5, w6, Lib.hid (KP9.out), Lib.hid (HB9x.out), by omega, hs4, rfl, rfl, rfl, by simp⟩
                rw [← e1, ← e2, ← e3, ← e4]
                clear e1 e2 e3 e4 KP9 HB9x HB4 hs4 K3 HB3 OK3 ROW3 hTb x0 x2
                have hks := K9.out.ks
                have hA := hks.all; have hG := hks.gone; have hLn := hks.len
                have hrm : S9.length ≤ 1 + q := by obtain ⟨_, _, h⟩ := K9.out.net; exact h.few
                go_wp2_with fail
                refine (told_any w9 K9.out.net).mono ?_; rintro e w10 ⟨rfl, b10⟩
                have K10 := K9.out.below b10
                obtain ⟨ts, tt, tp, ta, tl⟩ := T9
                have CN := Lib.hid (fun (w : World) (h : Net w w0.heap.size hn Bs9 S9 (1 + q) made9 ⟨ts, tt, tp, ta, tl⟩) d os => Calls.regrown_of (same_below (count_any _ (h.below (below_regrown w d os)))))
                have K11 := Lib.hid (K10.below (below_alloc (Below.refl w10.heap.size w10) (.cells #[.int .i64 (ts : Int), .int .i64 (tt : Int), .int .i64 (tp : Int), .int .i64 (ta : Int), .int .i64 (tl : Int)] 33)))
                have HB11 := Lib.hid (below_alloc (below_next HB9.out b10) (.cells #[.int .i64 (ts : Int), .int .i64 (tt : Int), .int .i64 (tp : Int), .int .i64 (ta : Int), .int .i64 (tl : Int)] 33))
                have row := heap_alloc_new w10 (.cells #[.int .i64 (ts : Int), .int .i64 (tt : Int), .int .i64 (tp : Int), .int .i64 (ta : Int), .int .i64 (tl : Int)] 33)
                clear b10 K10 hks
                go_upto_region 39 with (fail)
                generalize hb10 : w10.heap.size = bt at *
                generalize w10.alloc (.cells #[.int .i64 (ts : Int), .int .i64 (tt : Int), .int .i64 (tp : Int), .int .i64 (ta : Int), .int .i64 (tl : Int)] 33) = w11 at *
                have CN2 := Lib.hid (fun d os => CN.out w11 K11.out.net d os)
                have r0 := cell_regrown (cell_of_row _ _ 0 _ _ (0, 0) row); have r1 := cell_regrown (cell_of_row _ _ 1 _ _ (0, 0) row); have r3 := cell_regrown (cell_of_row _ _ 3 _ _ (0, 0) row); have r4 := cell_regrown (cell_of_row _ _ 4 _ _ (0, 0) row)
                simp only [List.getElem_toArray, List.getElem_cons_zero, List.getElem_cons_succ] at r0 r1 r3 r4
                generalize hcS : S9.length = cS at *
                generalize hcL : L9.length = cL at *
                have HCS := Lib.hid hcS; have HCL := Lib.hid hcL
                have hA : ts + tt = made9 := hA
                have hG : ta + tl + cS = made9 := hG
                have y1 : (ts : Int) + (tt : Int) ≤ 302 := by omega
                have y2 : (ta : Int) + (tl : Int) ≤ 302 := by omega
                have y3 : (ta : Int) + (tl : Int) + (cS : Int) = (ts : Int) + (tt : Int) := by omega
                have y4 : (ts : Int) + (tt : Int) = (made9 : Int) := by omega
                have y6 : (made9 : Int) ≤ 302 := by omega
                have y7 : decide ((1 : Int) + (q : Int) < (cS : Int)) = false := by simp; omega
                have y5 : (cS : Int) ≤ 1 + (q : Int) := by omega
                have HCM := Lib.hid (show cL = made9 by omega)
                clear CN row hcS hcL hA hG hLn hrm
                refine wp_region_quiet_below (by kernel_rfl) (by kernel_rfl) ?_
                repeat (go_big_quiet_step (exact CN2.out _ _))
                refine wpQuiet_nil ?_
                intro _ hw'
                obtain ⟨⟨dq, osq⟩, hw''⟩ := hw'
                subst hw''
                have lk := below_regrown w11 dq osq
                have K12 := Lib.hid (K11.out.below lk)
                have HB12 := Lib.hid (below_next HB11.out lk)
                clear r0 r1 r3 r4 lk K11 HB11 CN2 y1 y2 y3 y4 y5 y6 y7
                generalize grow (redrawn w11 dq) osq = w12 at *
                go_wp2_with fail
                go_roundw
                case rel => exact ⟨k + 1, made9, cs9, Bs9, E9, so9, S9, L9, _, by go_num, by rw [HCL.out, HCM.out], by omega, by omega, by omega, (by have hs9' : tp ≤ T.spoilt + 1 := hs9; show tp ≤ _; omega), K12.out, HB12.out⟩
                case measure => simp [intOf]; omega
              · have ks4 := hy1 hy
                obtain ⟨e4, ks4⟩ := ks4
                have KP9 := Lib.hid (show Kp w5 w0.heap.size hn Bs5 E so cs S5 L (1 + q) made4 T5 from ⟨hmid.net, hmid.snt, ks4, hmid.apart⟩)
                clear hmid hy0 hy1 ks4 t4
                go_upto_region 38 with (fail)
                obtain ⟨made9, cs9, Bs9, E9, so9, S9, L9, T9, w9, K9, HB9, hm9, hs9, e1, e2, e3, e4⟩ : ∃ made9 cs9 Bs9 E9 so9 S9 L9 T9 w9, ∃ (_ : Hid (Kp w9 w0.heap.size hn Bs9 E9 so9 cs9 S9 L9 (1 + q) made9 T9)) (_ : Hid (Below W.heap.size W w9)), made9 ≤ made + 1 ∧ T9.spoilt ≤ T.spoilt + 1 ∧ w9 = w5 ∧ cs9 = cs ∧ so9 = so ∧ L9.length = L.length := ⟨made4, cs, Bs5, E, so, S5, L, T5, w5, Lib.hid (KP9.out), Lib.hid (HB4.out), by omega, hs4, rfl, rfl, rfl, rfl⟩
                rw [← e1, ← e2, ← e3, ← e4]
                clear e1 e2 e3 e4 KP9 HB4 hs4 hy K3 HB3 OK3 ROW3 hTb x0 x2
                have hks := K9.out.ks
                have hA := hks.all; have hG := hks.gone; have hLn := hks.len
                have hrm : S9.length ≤ 1 + q := by obtain ⟨_, _, h⟩ := K9.out.net; exact h.few
                go_wp2_with fail
                refine (told_any w9 K9.out.net).mono ?_; rintro e w10 ⟨rfl, b10⟩
                have K10 := K9.out.below b10
                obtain ⟨ts, tt, tp, ta, tl⟩ := T9
                have CN := Lib.hid (fun (w : World) (h : Net w w0.heap.size hn Bs9 S9 (1 + q) made9 ⟨ts, tt, tp, ta, tl⟩) d os => Calls.regrown_of (same_below (count_any _ (h.below (below_regrown w d os)))))
                have K11 := Lib.hid (K10.below (below_alloc (Below.refl w10.heap.size w10) (.cells #[.int .i64 (ts : Int), .int .i64 (tt : Int), .int .i64 (tp : Int), .int .i64 (ta : Int), .int .i64 (tl : Int)] 33)))
                have HB11 := Lib.hid (below_alloc (below_next HB9.out b10) (.cells #[.int .i64 (ts : Int), .int .i64 (tt : Int), .int .i64 (tp : Int), .int .i64 (ta : Int), .int .i64 (tl : Int)] 33))
                have row := heap_alloc_new w10 (.cells #[.int .i64 (ts : Int), .int .i64 (tt : Int), .int .i64 (tp : Int), .int .i64 (ta : Int), .int .i64 (tl : Int)] 33)
                clear b10 K10 hks
                go_upto_region 39 with (fail)
                generalize hb10 : w10.heap.size = bt at *
                generalize w10.alloc (.cells #[.int .i64 (ts : Int), .int .i64 (tt : Int), .int .i64 (tp : Int), .int .i64 (ta : Int), .int .i64 (tl : Int)] 33) = w11 at *
                have CN2 := Lib.hid (fun d os => CN.out w11 K11.out.net d os)
                have r0 := cell_regrown (cell_of_row _ _ 0 _ _ (0, 0) row); have r1 := cell_regrown (cell_of_row _ _ 1 _ _ (0, 0) row); have r3 := cell_regrown (cell_of_row _ _ 3 _ _ (0, 0) row); have r4 := cell_regrown (cell_of_row _ _ 4 _ _ (0, 0) row)
                simp only [List.getElem_toArray, List.getElem_cons_zero, List.getElem_cons_succ] at r0 r1 r3 r4
                generalize hcS : S9.length = cS at *
                generalize hcL : L9.length = cL at *
                have HCS := Lib.hid hcS; have HCL := Lib.hid hcL
                have hA : ts + tt = made9 := hA
                have hG : ta + tl + cS = made9 := hG
                have y1 : (ts : Int) + (tt : Int) ≤ 302 := by omega
                have y2 : (ta : Int) + (tl : Int) ≤ 302 := by omega
                have y3 : (ta : Int) + (tl : Int) + (cS : Int) = (ts : Int) + (tt : Int) := by omega
                have y4 : (ts : Int) + (tt : Int) = (made9 : Int) := by omega
                have y6 : (made9 : Int) ≤ 302 := by omega
                have y7 : decide ((1 : Int) + (q : Int) < (cS : Int)) = false := by simp; omega
                have y5 : (cS : Int) ≤ 1 + (q : Int) := by omega
                have HCM := Lib.hid (show cL = made9 by omega)
                clear CN row hcS hcL hA hG hLn hrm
                refine wp_region_quiet_below (by kernel_rfl) (by kernel_rfl) ?_
                repeat (go_big_quiet_step (exact CN2.out _ _))
                refine wpQuiet_nil ?_
                intro _ hw'
                obtain ⟨⟨dq, osq⟩, hw''⟩ := hw'
                subst hw''
                have lk := below_regrown w11 dq osq
                have K12 := Lib.hid (K11.out.below lk)
                have HB12 := Lib.hid (below_next HB11.out lk)
                clear r0 r1 r3 r4 lk K11 HB11 CN2 y1 y2 y3 y4 y5 y6 y7
                generalize grow (redrawn w11 dq) osq = w12 at *
                go_wp2_with fail
                go_roundw
                case rel => exact ⟨k + 1, made9, cs9, Bs9, E9, so9, S9, L9, _, by go_num, by rw [HCL.out, HCM.out], by omega, by omega, by omega, (by have hs9' : tp ≤ T.spoilt + 1 := hs9; show tp ≤ _; omega), K12.out, HB12.out⟩
                case measure => simp [intOf]; omega
          by_cases k6 : kind = 6
          · subst k6
            as_aux_lemma =>
              have x3 := cell_of_row _ _ 3 _ _ (0, 0) ROW3.out; have x6 := cell_of_row _ _ 6 _ _ (0, 0) ROW3.out
              simp only [List.getElem?_toArray, List.getElem?_cons_zero, List.getElem?_cons_succ] at x3 x6
              go_wp2_with fail
              refine (kp_spoil hid at_ by_ OK3.out.by_ w3 K3.out (by omega)).mono ?_; rintro e w4 ⟨y, S4, T4, rfl, hmid, t4, hs4, hy0, hy1⟩
              have HB4 := Lib.hid (HB3.out.trans (t4.keep.below HB3.out.size (fun q hq => Nat.le_trans (by have := HB0.out.size; omega) (K3.out.net.blocks q hq).1)))
              clear x3 x6
              by_cases hy : y = 0
              · subst hy
                obtain ⟨i1, i2, ks4⟩ := hy0 rfl
                obtain ⟨j, rfl⟩ : ∃ j, id = j + 1 := ⟨id - 1, by omega⟩
                rw [Nat.add_sub_cancel] at ks4
                have hjL : j < L.length := by have := K3.out.ks.len; omega
                obtain ⟨o, ho⟩ : ∃ o, L[j]? = some o := ⟨_, List.getElem?_eq_getElem hjL⟩
                obtain ⟨g, v, rfl, hg, hcell, hfr, _⟩ := hmid.snt.at_ ho
                have hsp9 := hmid.snt.spoil (g := g) hjL
                have kset := Keep.setCell w4 ⟨g, j, none⟩ (.slice none 0 0)
                have hgE : g ∈ E := hmid.snt.row g (by simp [blk])
                have hgB := (hmid.snt.base g hgE).1
                have KP9 := Lib.hid (show Kp (w4.setCell ⟨g, j, none⟩ (.slice none 0 0)) w0.heap.size hn Bs E (some ⟨g, 0, none⟩) cs S4 (L.set j none) (1 + q) made T4 from ⟨hmid.net.keep kset (fun x hx hm => by simp at hm; exact hmid.apart g hgE (hm ▸ hx)), hsp9, ks4, hmid.apart⟩)
                have HB9' := Lib.hid (HB4.out.trans (kset.below HB4.out.size (by have := HB0.out.size; simp; omega)))
                have hji : (0 : Int) ≤ (j : Int) := by omega
                have hji2 : (j : Int) < (L.length : Int) := by omega
                have hjb : (j : Int) ≤ 400 := by omega
                clear hmid hsp9 kset hgE hgB ho t4 hy0 hy1 ks4 hjL
                go_upto_region 38 with (fail)
                obtain ⟨made9, cs9, Bs9, E9, so9, S9, L9, T9, w9, K9, HB9, hm9, hs9, e1, e2, e3, e4⟩ : ∃ made9 cs9 Bs9 E9 so9 S9 L9 T9 w9, ∃ (_ : Hid (Kp w9 w0.heap.size hn Bs9 E9 so9 cs9 S9 L9 (1 + q) made9 T9)) (_ : Hid (Below W.heap.size W w9)), made9 ≤ made + 1 ∧ T9.spoilt ≤ T.spoilt + 1 ∧ w9 = w4.setCell ⟨g, j, none⟩ (.slice none 0 0) ∧ cs9 = cs ∧ so9 = (some ⟨g, 0, none⟩) ∧ L9.length = L.length := ⟨made, cs, Bs, E, (some ⟨g, 0, none⟩), S4, (L.set j none), T4, w4.setCell ⟨g, j, none⟩ (.slice none 0 0), Lib.hid (KP9.out), Lib.hid (HB9'.out), by omega, hs4, rfl, rfl, rfl, List.length_set⟩
                rw [← e1, ← e2, ← e3, ← e4]
                clear e1 e2 e3 e4 KP9 HB9' HB4 hs4 hg hcell hfr hji hji2 hjb i1 i2 K3 HB3 OK3 ROW3 hTb x0 x2
                have hks := K9.out.ks
                have hA := hks.all; have hG := hks.gone; have hLn := hks.len
                have hrm : S9.length ≤ 1 + q := by obtain ⟨_, _, h⟩ := K9.out.net; exact h.few
                go_wp2_with fail
                refine (told_any w9 K9.out.net).mono ?_; rintro e w10 ⟨rfl, b10⟩
                have K10 := K9.out.below b10
                obtain ⟨ts, tt, tp, ta, tl⟩ := T9
                have CN := Lib.hid (fun (w : World) (h : Net w w0.heap.size hn Bs9 S9 (1 + q) made9 ⟨ts, tt, tp, ta, tl⟩) d os => Calls.regrown_of (same_below (count_any _ (h.below (below_regrown w d os)))))
                have K11 := Lib.hid (K10.below (below_alloc (Below.refl w10.heap.size w10) (.cells #[.int .i64 (ts : Int), .int .i64 (tt : Int), .int .i64 (tp : Int), .int .i64 (ta : Int), .int .i64 (tl : Int)] 33)))
                have HB11 := Lib.hid (below_alloc (below_next HB9.out b10) (.cells #[.int .i64 (ts : Int), .int .i64 (tt : Int), .int .i64 (tp : Int), .int .i64 (ta : Int), .int .i64 (tl : Int)] 33))
                have row := heap_alloc_new w10 (.cells #[.int .i64 (ts : Int), .int .i64 (tt : Int), .int .i64 (tp : Int), .int .i64 (ta : Int), .int .i64 (tl : Int)] 33)
                clear b10 K10 hks
                go_upto_region 39 with (fail)
                generalize hb10 : w10.heap.size = bt at *
                generalize w10.alloc (.cells #[.int .i64 (ts : Int), .int .i64 (tt : Int), .int .i64 (tp : Int), .int .i64 (ta : Int), .int .i64 (tl : Int)] 33) = w11 at *
                have CN2 := Lib.hid (fun d os => CN.out w11 K11.out.net d os)
                have r0 := cell_regrown (cell_of_row _ _ 0 _ _ (0, 0) row); have r1 := cell_regrown (cell_of_row _ _ 1 _ _ (0, 0) row); have r3 := cell_regrown (cell_of_row _ _ 3 _ _ (0, 0) row); have r4 := cell_regrown (cell_of_row _ _ 4 _ _ (0, 0) row)
                simp only [List.getElem_toArray, List.getElem_cons_zero, List.getElem_cons_succ] at r0 r1 r3 r4
                generalize hcS : S9.length = cS at *
                generalize hcL : L9.length = cL at *
                have HCS := Lib.hid hcS; have HCL := Lib.hid hcL
                have hA : ts + tt = made9 := hA
                have hG : ta + tl + cS = made9 := hG
                have y1 : (ts : Int) + (tt : Int) ≤ 302 := by omega
                have y2 : (ta : Int) + (tl : Int) ≤ 302 := by omega
                have y3 : (ta : Int) + (tl : Int) + (cS : Int) = (ts : Int) + (tt : Int) := by omega
                have y4 : (ts : Int) + (tt : Int) = (made9 : Int) := by omega
                have y6 : (made9 : Int) ≤ 302 := by omega
                have y7 : decide ((1 : Int) + (q : Int) < (cS : Int)) = false := by simp; omega
                have y5 : (cS : Int) ≤ 1 + (q : Int) := by omega
                have HCM := Lib.hid (show cL = made9 by omega)
                clear CN row hcS hcL hA hG hLn hrm
                refine wp_region_quiet_below (by kernel_rfl) (by kernel_rfl) ?_
                repeat (go_big_quiet_step (exact CN2.out _ _))
                refine wpQuiet_nil ?_
                intro _ hw'
                obtain ⟨⟨dq, osq⟩, hw''⟩ := hw'
                subst hw''
                have lk := below_regrown w11 dq osq
                have K12 := Lib.hid (K11.out.below lk)
                have HB12 := Lib.hid (below_next HB11.out lk)
                clear r0 r1 r3 r4 lk K11 HB11 CN2 y1 y2 y3 y4 y5 y6 y7
                generalize grow (redrawn w11 dq) osq = w12 at *
                go_wp2_with fail
                go_roundw
                case rel => exact ⟨k + 1, made9, cs9, Bs9, E9, so9, S9, L9, _, by go_num, by rw [HCL.out, HCM.out], by omega, by omega, by omega, (by have hs9' : tp ≤ T.spoilt + 1 := hs9; show tp ≤ _; omega), K12.out, HB12.out⟩
                case measure => simp [intOf]; omega
              · have ks4 := hy1 hy
                have KP9 := Lib.hid (show Kp w4 w0.heap.size hn Bs E so cs S4 L (1 + q) made T4 from ⟨hmid.net, hmid.snt, ks4, hmid.apart⟩)
                clear hmid hy0 hy1 ks4 t4
                go_upto_region 38 with (fail)
                obtain ⟨made9, cs9, Bs9, E9, so9, S9, L9, T9, w9, K9, HB9, hm9, hs9, e1, e2, e3, e4⟩ : ∃ made9 cs9 Bs9 E9 so9 S9 L9 T9 w9, ∃ (_ : Hid (Kp w9 w0.heap.size hn Bs9 E9 so9 cs9 S9 L9 (1 + q) made9 T9)) (_ : Hid (Below W.heap.size W w9)), made9 ≤ made + 1 ∧ T9.spoilt ≤ T.spoilt + 1 ∧ w9 = w4 ∧ cs9 = cs ∧ so9 = so ∧ L9.length = L.length := ⟨made, cs, Bs, E, so, S4, L, T4, w4, Lib.hid (KP9.out), Lib.hid (HB4.out), by omega, hs4, rfl, rfl, rfl, rfl⟩
                rw [← e1, ← e2, ← e3, ← e4]
                clear e1 e2 e3 e4 KP9 HB4 hs4 hy K3 HB3 OK3 ROW3 hTb x0 x2
                have hks := K9.out.ks
                have hA := hks.all; have hG := hks.gone; have hLn := hks.len
                have hrm : S9.length ≤ 1 + q := by obtain ⟨_, _, h⟩ := K9.out.net; exact h.few
                go_wp2_with fail
                refine (told_any w9 K9.out.net).mono ?_; rintro e w10 ⟨rfl, b10⟩
                have K10 := K9.out.below b10
                obtain ⟨ts, tt, tp, ta, tl⟩ := T9
                have CN := Lib.hid (fun (w : World) (h : Net w w0.heap.size hn Bs9 S9 (1 + q) made9 ⟨ts, tt, tp, ta, tl⟩) d os => Calls.regrown_of (same_below (count_any _ (h.below (below_regrown w d os)))))
                have K11 := Lib.hid (K10.below (below_alloc (Below.refl w10.heap.size w10) (.cells #[.int .i64 (ts : Int), .int .i64 (tt : Int), .int .i64 (tp : Int), .int .i64 (ta : Int), .int .i64 (tl : Int)] 33)))
                have HB11 := Lib.hid (below_alloc (below_next HB9.out b10) (.cells #[.int .i64 (ts : Int), .int .i64 (tt : Int), .int .i64 (tp : Int), .int .i64 (ta : Int), .int .i64 (tl : Int)] 33))
                have row := heap_alloc_new w10 (.cells #[.int .i64 (ts : Int), .int .i64 (tt : Int), .int .i64 (tp : Int), .int .i64 (ta : Int), .int .i64 (tl : Int)] 33)
                clear b10 K10 hks
                go_upto_region 39 with (fail)
                generalize hb10 : w10.heap.size = bt at *
                generalize w10.alloc (.cells #[.int .i64 (ts : Int), .int .i64 (tt : Int), .int .i64 (tp : Int), .int .i64 (ta : Int), .int .i64 (tl : Int)] 33) = w11 at *
                have CN2 := Lib.hid (fun d os => CN.out w11 K11.out.net d os)
                have r0 := cell_regrown (cell_of_row _ _ 0 _ _ (0, 0) row); have r1 := cell_regrown (cell_of_row _ _ 1 _ _ (0, 0) row); have r3 := cell_regrown (cell_of_row _ _ 3 _ _ (0, 0) row); have r4 := cell_regrown (cell_of_row _ _ 4 _ _ (0, 0) row)
                simp only [List.getElem_toArray, List.getElem_cons_zero, List.getElem_cons_succ] at r0 r1 r3 r4
                generalize hcS : S9.length = cS at *
                generalize hcL : L9.length = cL at *
                have HCS := Lib.hid hcS; have HCL := Lib.hid hcL
                have hA : ts + tt = made9 := hA
                have hG : ta + tl + cS = made9 := hG
                have y1 : (ts : Int) + (tt : Int) ≤ 302 := by omega
                have y2 : (ta : Int) + (tl : Int) ≤ 302 := by omega
                have y3 : (ta : Int) + (tl : Int) + (cS : Int) = (ts : Int) + (tt : Int) := by omega
                have y4 : (ts : Int) + (tt : Int) = (made9 : Int) := by omega
                have y6 : (made9 : Int) ≤ 302 := by omega
                have y7 : decide ((1 : Int) + (q : Int) < (cS : Int)) = false := by simp; omega
                have y5 : (cS : Int) ≤ 1 + (q : Int) := by omega
                have HCM := Lib.hid (show cL = made9 by omega)
                clear CN row hcS hcL hA hG hLn hrm
                refine wp_region_quiet_below (by kernel_rfl) (by kernel_rfl) ?_
                repeat (go_big_quiet_step (exact CN2.out _ _))
                refine wpQuiet_nil ?_
                intro _ hw'
                obtain ⟨⟨dq, osq⟩, hw''⟩ := hw'
                subst hw''
                have lk := below_regrown w11 dq osq
                have K12 := Lib.hid (K11.out.below lk)
                have HB12 := Lib.hid (below_next HB11.out lk)
                clear r0 r1 r3 r4 lk K11 HB11 CN2 y1 y2 y3 y4 y5 y6 y7
                generalize grow (redrawn w11 dq) osq = w12 at *
                go_wp2_with fail
                go_roundw
                case rel => exact ⟨k + 1, made9, cs9, Bs9, E9, so9, S9, L9, _, by go_num, by rw [HCL.out, HCM.out], by omega, by omega, by omega, (by have hs9' : tp ≤ T.spoilt + 1 := hs9; show tp ≤ _; omega), K12.out, HB12.out⟩
                case measure => simp [intOf]; omega
          by_cases k7 : kind = 7
          · subst k7
            as_aux_lemma =>
              go_wp2_with fail
              refine (kp_forget dest w3 K3.out (by omega) (by omega)).mono ?_; rintro e w4 ⟨x, Bs4, S4, T4, rfl, h4, t4, hs4⟩
              have HB4 := Lib.hid (HB3.out.trans (t4.keep.below HB3.out.size (fun q hq => Nat.le_trans (by have := HB0.out.size; omega) (K3.out.net.blocks q hq).1)))
              have H4 := Lib.hid h4
              clear h4
              go_upto_region 38 with (fail)
              obtain ⟨made9, cs9, Bs9, E9, so9, S9, L9, T9, w9, K9, HB9, hm9, hs9, e1, e2, e3, e4⟩ : ∃ made9 cs9 Bs9 E9 so9 S9 L9 T9 w9, ∃ (_ : Hid (Kp w9 w0.heap.size hn Bs9 E9 so9 cs9 S9 L9 (1 + q) made9 T9)) (_ : Hid (Below W.heap.size W w9)), made9 ≤ made + 1 ∧ T9.spoilt ≤ T.spoilt + 1 ∧ w9 = w4 ∧ cs9 = cs ∧ so9 = so ∧ L9.length = L.length := ⟨made, cs, Bs4, E, so, S4, L, T4, w4, Lib.hid (H4.out), Lib.hid (HB4.out), by omega, hs4, rfl, rfl, rfl, rfl⟩
              rw [← e1, ← e2, ← e3, ← e4]
              clear e1 e2 e3 e4 H4 HB4 t4 hs4 K3 HB3 OK3 ROW3 hTb x0 x2
              have hks := K9.out.ks
              have hA := hks.all; have hG := hks.gone; have hLn := hks.len
              have hrm : S9.length ≤ 1 + q := by obtain ⟨_, _, h⟩ := K9.out.net; exact h.few
              go_wp2_with fail
              refine (told_any w9 K9.out.net).mono ?_; rintro e w10 ⟨rfl, b10⟩
              have K10 := K9.out.below b10
              obtain ⟨ts, tt, tp, ta, tl⟩ := T9
              have CN := Lib.hid (fun (w : World) (h : Net w w0.heap.size hn Bs9 S9 (1 + q) made9 ⟨ts, tt, tp, ta, tl⟩) d os => Calls.regrown_of (same_below (count_any _ (h.below (below_regrown w d os)))))
              have K11 := Lib.hid (K10.below (below_alloc (Below.refl w10.heap.size w10) (.cells #[.int .i64 (ts : Int), .int .i64 (tt : Int), .int .i64 (tp : Int), .int .i64 (ta : Int), .int .i64 (tl : Int)] 33)))
              have HB11 := Lib.hid (below_alloc (below_next HB9.out b10) (.cells #[.int .i64 (ts : Int), .int .i64 (tt : Int), .int .i64 (tp : Int), .int .i64 (ta : Int), .int .i64 (tl : Int)] 33))
              have row := heap_alloc_new w10 (.cells #[.int .i64 (ts : Int), .int .i64 (tt : Int), .int .i64 (tp : Int), .int .i64 (ta : Int), .int .i64 (tl : Int)] 33)
              clear b10 K10 hks
              go_upto_region 39 with (fail)
              generalize hb10 : w10.heap.size = bt at *
              generalize w10.alloc (.cells #[.int .i64 (ts : Int), .int .i64 (tt : Int), .int .i64 (tp : Int), .int .i64 (ta : Int), .int .i64 (tl : Int)] 33) = w11 at *
              have CN2 := Lib.hid (fun d os => CN.out w11 K11.out.net d os)
              have r0 := cell_regrown (cell_of_row _ _ 0 _ _ (0, 0) row); have r1 := cell_regrown (cell_of_row _ _ 1 _ _ (0, 0) row); have r3 := cell_regrown (cell_of_row _ _ 3 _ _ (0, 0) row); have r4 := cell_regrown (cell_of_row _ _ 4 _ _ (0, 0) row)
              simp only [List.getElem_toArray, List.getElem_cons_zero, List.getElem_cons_succ] at r0 r1 r3 r4
              generalize hcS : S9.length = cS at *
              generalize hcL : L9.length = cL at *
              have HCS := Lib.hid hcS; have HCL := Lib.hid hcL
              have hA : ts + tt = made9 := hA
              have hG : ta + tl + cS = made9 := hG
              have y1 : (ts : Int) + (tt : Int) ≤ 302 := by omega
              have y2 : (ta : Int) + (tl : Int) ≤ 302 := by omega
              have y3 : (ta : Int) + (tl : Int) + (cS : Int) = (ts : Int) + (tt : Int) := by omega
              have y4 : (ts : Int) + (tt : Int) = (made9 : Int) := by omega
              have y6 : (made9 : Int) ≤ 302 := by omega
              have y7 : decide ((1 : Int) + (q : Int) < (cS : Int)) = false := by simp; omega
              have y5 : (cS : Int) ≤ 1 + (q : Int) := by omega
              have HCM := Lib.hid (show cL = made9 by omega)
              clear CN row hcS hcL hA hG hLn hrm
              refine wp_region_quiet_below (by kernel_rfl) (by kernel_rfl) ?_
              repeat (go_big_quiet_step (exact CN2.out _ _))
              refine wpQuiet_nil ?_
              intro _ hw'
              obtain ⟨⟨dq, osq⟩, hw''⟩ := hw'
              subst hw''
              have lk := below_regrown w11 dq osq
              have K12 := Lib.hid (K11.out.below lk)
              have HB12 := Lib.hid (below_next HB11.out lk)
              clear r0 r1 r3 r4 lk K11 HB11 CN2 y1 y2 y3 y4 y5 y6 y7
              generalize grow (redrawn w11 dq) osq = w12 at *
              go_wp2_with fail
              go_roundw
              case rel => exact ⟨k + 1, made9, cs9, Bs9, E9, so9, S9, L9, _, by go_num, by rw [HCL.out, HCM.out], by omega, by omega, by omega, (by have hs9' : tp ≤ T.spoilt + 1 := hs9; show tp ≤ _; omega), K12.out, HB12.out⟩
              case measure => simp [intOf]; omega
          as_aux_lemma =>
            go_upto_region 38 with (fail)
            obtain ⟨made9, cs9, Bs9, E9, so9, S9, L9, T9, w9, K9, HB9, hm9, hs9, e1, e2, e3, e4⟩ : ∃ made9 cs9 Bs9 E9 so9 S9 L9 T9 w9, ∃ (_ : Hid (Kp w9 w0.heap.size hn Bs9 E9 so9 cs9 S9 L9 (1 + q) made9 T9)) (_ : Hid (Below W.heap.size W w9)), made9 ≤ made + 1 ∧ T9.spoilt ≤ T.spoilt + 1 ∧ w9 = w3 ∧ cs9 = cs ∧ so9 = so ∧ L9.length = L.length := ⟨made, cs, Bs, E, so, S, L, T, w3, Lib.hid (K3.out), Lib.hid (HB3.out), by omega, by omega, rfl, rfl, rfl, rfl⟩
            rw [← e1, ← e2, ← e3, ← e4]
            clear e1 e2 e3 e4 K3 HB3 OK3 ROW3 hTb x0 x2
            have hks := K9.out.ks
            have hA := hks.all; have hG := hks.gone; have hLn := hks.len
            have hrm : S9.length ≤ 1 + q := by obtain ⟨_, _, h⟩ := K9.out.net; exact h.few
            go_wp2_with fail
            refine (told_any w9 K9.out.net).mono ?_; rintro e w10 ⟨rfl, b10⟩
            have K10 := K9.out.below b10
            obtain ⟨ts, tt, tp, ta, tl⟩ := T9
            have CN := Lib.hid (fun (w : World) (h : Net w w0.heap.size hn Bs9 S9 (1 + q) made9 ⟨ts, tt, tp, ta, tl⟩) d os => Calls.regrown_of (same_below (count_any _ (h.below (below_regrown w d os)))))
            have K11 := Lib.hid (K10.below (below_alloc (Below.refl w10.heap.size w10) (.cells #[.int .i64 (ts : Int), .int .i64 (tt : Int), .int .i64 (tp : Int), .int .i64 (ta : Int), .int .i64 (tl : Int)] 33)))
            have HB11 := Lib.hid (below_alloc (below_next HB9.out b10) (.cells #[.int .i64 (ts : Int), .int .i64 (tt : Int), .int .i64 (tp : Int), .int .i64 (ta : Int), .int .i64 (tl : Int)] 33))
            have row := heap_alloc_new w10 (.cells #[.int .i64 (ts : Int), .int .i64 (tt : Int), .int .i64 (tp : Int), .int .i64 (ta : Int), .int .i64 (tl : Int)] 33)
            clear b10 K10 hks
            go_upto_region 39 with (fail)
            generalize hb10 : w10.heap.size = bt at *
            generalize w10.alloc (.cells #[.int .i64 (ts : Int), .int .i64 (tt : Int), .int .i64 (tp : Int), .int .i64 (ta : Int), .int .i64 (tl : Int)] 33) = w11 at *
            have CN2 := Lib.hid (fun d os => CN.out w11 K11.out.net d os)
            have r0 := cell_regrown (cell_of_row _ _ 0 _ _ (0, 0) row); have r1 := cell_regrown (cell_of_row _ _ 1 _ _ (0, 0) row); have r3 := cell_regrown (cell_of_row _ _ 3 _ _ (0, 0) row); have r4 := cell_regrown (cell_of_row _ _ 4 _ _ (0, 0) row)
            simp only [List.getElem_toArray, List.getElem_cons_zero, List.getElem_cons_succ] at r0 r1 r3 r4
            generalize hcS : S9.length = cS at *
            generalize hcL : L9.length = cL at *
            have HCS := Lib.hid hcS; have HCL := Lib.hid hcL
            have hA : ts + tt = made9 := hA
            have hG : ta + tl + cS = made9 := hG
            have y1 : (ts : Int) + (tt : Int) ≤ 302 := by omega
            have y2 : (ta : Int) + (tl : Int) ≤ 302 := by omega
            have y3 : (ta : Int) + (tl : Int) + (cS : Int) = (ts : Int) + (tt : Int) := by omega
            have y4 : (ts : Int) + (tt : Int) = (made9 : Int) := by omega
            have y6 : (made9 : Int) ≤ 302 := by omega
            have y7 : decide ((1 : Int) + (q : Int) < (cS : Int)) = false := by simp; omega
            have y5 : (cS : Int) ≤ 1 + (q : Int) := by omega
            have HCM := Lib.hid (show cL = made9 by omega)
            clear CN row hcS hcL hA hG hLn hrm
            refine wp_region_quiet_below (by kernel_rfl) (by kernel_rfl) ?_
            repeat (go_big_quiet_step (exact CN2.out _ _))
            refine wpQuiet_nil ?_
            intro _ hw'
            obtain ⟨⟨dq, osq⟩, hw''⟩ := hw'
            subst hw''
            have lk := below_regrown w11 dq osq
            have K12 := Lib.hid (K11.out.below lk)
            have HB12 := Lib.hid (below_next HB11.out lk)
            clear r0 r1 r3 r4 lk K11 HB11 CN2 y1 y2 y3 y4 y5 y6 y7
            generalize grow (redrawn w11 dq) osq = w12 at *
            go_wp2_with fail
            go_roundw
            case rel => exact ⟨k + 1, made9, cs9, Bs9, E9, so9, S9, L9, _, by go_num, by rw [HCL.out, HCM.out], by omega, by omega, by omega, (by have hs9' : tp ≤ T.spoilt + 1 := hs9; show tp ≤ _; omega), K12.out, HB12.out⟩
            case measure => simp [intOf]; omega
      · clear HK hbl
        rcases Nat.lt_or_ge k n with hkn | hkn
        · have hk30 : k = 300 := by omega
          subst hk30
          have hki2 : (300 : Int) < (n : Int) := by omega
          rw [show ((300 : Nat) : Int) = 300 from rfl]
          clear hk hk5 hlt hkn
          go_wp2_with fail
          go_ret
          exact ⟨rfl, HB.out⟩
        · obtain rfl : k = n := by omega
          clear hk hk5 hlt hkn
          go_wp2_with fail
          go_ret
          exact ⟨rfl, HB.out⟩
end Go.Proofs.Ytdffnpilobkpnaa
