/- ProposerHeard. -/
import Derived.Test.YtgfalpiifgoonaaHv
import Derived.Deep.CutRange
namespace Go.Proofs.Ytgfalpiifgoonaa
open Go.RowKit Go.Sort
set_option linter.unusedVariables false
set_option linter.unusedSectionVars false
set_option linter.unusedSimpArgs false
set_option maxRecDepth 100000

/-- the law's learner -/
def HM (W w : World) (ln gm N : Nat) (s : Lst) (k : Nat) : Prop := Ln w W.heap.size ln gm N s k ∧ Below W.heap.size W w
theorem HM.below {W w w' : World} {ln gm N k : Nat} {s : Lst} (h : HM W w ln gm N s k) (b : Below w.heap.size w w') : HM W w' ln gm N s k := ⟨h.1.below b, h.2.trans (b.mono h.2.size)⟩
theorem HM.turn {W w w' : World} {ln gm N k k' : Nat} {s s' : Lst} (h : HM W w ln gm N s k) (hl : Ln w' W.heap.size ln gm N s' k') (kk : Keep [ln, gm] w w') : HM W w' ln gm N s' k' := ⟨hl, h.2.trans (LnW.out h.1 kk h.2.size)⟩
theorem HM.keep {W w w' : World} {ln gm N k bx : Nat} {s : Lst} (h : HM W w ln gm N s k) (kk : Keep [bx] w w') (h1 : ln < bx) (h2 : gm < bx) (h3 : W.heap.size ≤ bx) : HM W w' ln gm N s k :=
  ⟨h.1.keep kk (by simp; omega) (by simp; omega), h.2.trans (kk.below h.2.size (by simpa using h3))⟩
theorem oKeep {w w' : World} {bo : Nat} {f r n : Int} {v : ByteArray} {T : List Nat} (h : w.cell? ⟨bo, 1, none⟩ = some (.int .i64 f) ∧ w.cell? ⟨bo, 3, none⟩ = some (.int .u32 r) ∧ w.cell? ⟨bo, 4, none⟩ = some (.int .u8 n) ∧ w.cell? ⟨bo, 10, none⟩ = some (.string v) ∧ bo < w.heap.size) (k : Keep T w w') (hn : bo ∉ T) :
    w'.cell? ⟨bo, 1, none⟩ = some (.int .i64 f) ∧ w'.cell? ⟨bo, 3, none⟩ = some (.int .u32 r) ∧ w'.cell? ⟨bo, 4, none⟩ = some (.int .u8 n) ∧ w'.cell? ⟨bo, 10, none⟩ = some (.string v) ∧ bo < w'.heap.size :=
  ⟨(k.cell h.2.2.2.2 hn).trans h.1, (k.cell h.2.2.2.2 hn).trans h.2.1, (k.cell h.2.2.2.2 hn).trans h.2.2.1, (k.cell h.2.2.2.2 hn).trans h.2.2.2.1, Nat.lt_of_lt_of_le h.2.2.2.2 k.size⟩
set_option maxHeartbeats 16000000 in
theorem proposerHeard_law (n0 : Int) (wn0 : (Lit.int .i64 n0).wf = true) (ao : Option Addr) (len cap : Nat) (hc : len ≤ cap) (hm : cap ≤ maxLen) (W : World) (hr : OpsRd W ao len) :
    Calls Try.prog 7 #[.int .i64 n0, .slice ao len cap] W (LawOk W) := by
  obtain ⟨sc, hsc⟩ := hr.fn
  have HSC := Lib.hid hsc
  have hlen : (len : Int) ≤ 9223372036854775807 := by unfold maxLen at hm; omega
  have CP := Lib.hid (fun w => pick_any n0 wn0 9 (by omega) (by omega) w)
  have hp9 := pk_lt n0 (n := 9) (by omega)
  generalize pk n0 9 = p at *
  obtain ⟨N, hN⟩ : ∃ N, N = 1 + p := ⟨_, rfl⟩
  have hNi : 1 + (p : Int) = (N : Int) := by omega
  have hN1 : 1 ≤ N := by omega
  have hN9 : N ≤ 9 := by omega
  have hpi : (p : Int) ≤ 8 := by omega
  have HL := Lib.hid (fun w => lnew_yes N hN1 hN9 w)
  clear hr hc hm hsc wn0 hN hp9
  go_enter Try.func7, Try.ntmps7
  go_wp2_with fail
  refine (CP.out _).mono ?_; rintro e w1 ⟨rfl, rfl⟩
  go_wp2_with fail
  refine (HL.out _).mono ?_; rintro e w2 ⟨ln, gm, rfl, t2, b2⟩
  clear CP HL hNi hpi
  have M2 := Lib.hid (show HM W w2 ln gm N ⟨none9, a0⟩ 0 from ⟨t2, b2⟩)
  clear t2 b2
  go_wp2_with fail
  refine (alive_any _).mono ?_; rintro e w3 ⟨rfl, b3⟩
  have M3 := Lib.hid (M2.out.below b3)
  clear b3 M2
  go_wp2_with fail
  go_loopw [7, 8, 9] (fun v7 v8 v9 wr => ∃ (k : Nat) (s : Lst), v7 = .string s.ch.v ∧ v8 = .bool s.ch.is ∧ v9 = .int .i64 (k : Int) ∧ k ≤ len ∧ k ≤ 200 ∧ HM W wr ln gm N s k ∧ HV sc N s k) (fun _ _ v9 _ => len - (intOf v9).toNat)
  case atStart => exact ⟨0, ⟨none9, a0⟩, rfl, rfl, rfl, by omega, by omega, M3.out, HV.zero sc N⟩
  case round =>
    obtain ⟨k, s, rfl, rfl, rfl, hk1, hk2, hM, hV⟩ := hrel
    clear M3
    by_cases hlt : k < len ∧ k < 200
    · obtain ⟨g, o, hao, hq, hg, hat⟩ := HSC.out k hlt.1
      subst hao
      have hlt1 : (k : Int) < (len : Int) := by omega
      have hlt2 : (k : Int) < 200 := by omega
      have hkp : (0 : Int) ≤ (k : Int) := by omega
      have HSV := Lib.hid (fun (s' : Lst) => HV.more (s' := s') hV (sc k).b)
      have HCS := Lib.hid (accL_cases (n := N) (k := pk (sc k).from_ N) (b := (sc k).b) (v := (sc k).v) hV.1)
      have HHALF := Lib.hid (HV.half hV hN1 (sc k).b hM.1.row.2)
      have HSAME := Lib.hid hV.same
      have hatw := hat.from hg hM.2
      generalize hq' : sc k = q at *
      have a1 := hatw 0 _ rfl; have a2 := hatw 1 _ rfl; have a3 := hatw 2 _ rfl; have a4 := hatw 3 _ rfl; have a5 := hatw 4 _ rfl; have a6 := hatw 5 _ rfl; have a7 := hatw 6 _ rfl; have a8 := hatw 7 _ rfl; have a9 := hatw 8 _ rfl; have a10 := hatw 9 _ rfl; have a11 := hatw 10 _ rfl
      rw [Nat.add_zero] at a1
      have b4 := below_alloc (Below.refl wr.heap.size wr) (.cells ⟨cO q⟩ 44)
      have M4 := Lib.hid (hM.below b4)
      have O4 := Lib.hid (show RowO (wr.alloc (.cells ⟨cO q⟩ 44)) wr.heap.size q from heap_alloc_new wr _)
      have HQ := Lib.hid hq
      have hfit := hV.1
      have CP := Lib.hid (fun w => pick_any q.from_ hq.f N hN1 (by omega) w)
      have HA := Lib.hid (fun w (h : Ln w W.heap.size ln gm N s k) => accepted_any (b := q.b) (v := q.v) (pk q.from_ N : Int) hfit hq.b hq.v (by omega) w h)
      have HQE := Lib.hid hq'
      have HLO := Lib.hid (show ln < wr.heap.size ∧ gm < wr.heap.size ∧ W.heap.size ≤ wr.heap.size from ⟨hM.1.hlt, hM.1.glt, hM.2.size⟩)
      clear hM hV hat hatw b4 hq hfit hq'
      go_upto_region 11 with (fail)
      clear a1 a2 a3 a4 a5 a6 a7 a8 a9 a10 a11
      generalize hbo : wr.heap.size = bo at *
      generalize wr.alloc (.cells #[.int .i64 q.kind, .int .i64 q.from_, .int .u32 q.round, .int .u32 q.b.round, .int .u8 q.b.node, .bool q.own, .bool q.a.is, .int .u32 q.a.b.round, .int .u8 q.a.b.node, .string q.a.v, .string q.v] 44) = w4 at *
      have o1 := RowO.at_ O4.out 1; have o3 := RowO.at_ O4.out 3; have o4 := RowO.at_ O4.out 4; have o10 := RowO.at_ O4.out 10
      simp only [List.getElem?_cons_succ, List.getElem?_cons_zero] at o1 o3 o4 o10
      have SS := Lib.hid (show w4.cell? ⟨bo, 1, none⟩ = some (.int .i64 q.from_) ∧ w4.cell? ⟨bo, 3, none⟩ = some (.int .u32 q.b.round) ∧ w4.cell? ⟨bo, 4, none⟩ = some (.int .u8 q.b.node) ∧ w4.cell? ⟨bo, 10, none⟩ = some (.string q.v) ∧ bo < w4.heap.size from ⟨o1, o3, o4, o10, RowO.lt O4.out⟩)
      have HNB := Lib.hid (show bo ∉ [ln, gm] by have := HLO.out; simp; omega)
      clear o1 o3 o4 o10 O4
      have C := HA.out w4.drew (M4.out.below (Below.refl _ _).drew).1
      have hcs := HCS.out
      simp only [Bl.ag] at C
      generalize hpj : pk q.from_ N = pj at *
      generalize accL N s (pj : Int) q.b q.v = r at *
      have HC := Lib.hid C
      clear C HA HCS
      have hsv := HSV.out; have hsame := HSAME.out; have hhalf := HHALF.out
      have HSV := Lib.hid hsv; have HSAME := Lib.hid hsame; have HHALF := Lib.hid hhalf
      clear hsv hsame hhalf
      rcases hcs with ⟨h1, h2⟩ | ⟨h1, s', h2, h3, h4⟩ | ⟨h1, h2, h3⟩
      · subst h2
        obtain ⟨last, ⟨ci, cb, cv⟩⟩ := s
        simp only at h1
        subst h1
        have C := HC.out
        clear HC
        simp only [Ln] at C
        as_aux_lemma =>
          have d1 := SS.out.1; have d2 := SS.out.2.1; have d3 := SS.out.2.2.1; have d4 := SS.out.2.2.2.1; have d5 := SS.out.2.2.2.2
          go_region_held3 (fun w' => w'.cell? ⟨bo, 1, none⟩ = some (.int .i64 q.from_) ∧ w'.cell? ⟨bo, 3, none⟩ = some (.int .u32 q.b.round) ∧ w'.cell? ⟨bo, 4, none⟩ = some (.int .u8 q.b.node) ∧ w'.cell? ⟨bo, 10, none⟩ = some (.string q.v) ∧ bo < w'.heap.size)
            (first | with_reducible assumption | with_reducible exact HS6.out | with_reducible exact oKeep SS.out (Keep.of_below (Below.refl _ w4).drew []) (by simp))
            (first
              | (go_at_call 20; with_reducible refine (CP.out _).mono ?_; rintro e w5 ⟨rfl, rfl⟩)
              | (go_at_call 16; with_reducible refine C.mono ?_; rintro e w6 ⟨rfl, t6, k6⟩; have HS6 := Lib.hid (oKeep (oKeep SS.out (Keep.of_below (Below.refl _ w4).drew []) (by simp)) k6 HNB.out); have T6 := Lib.hid t6; have K6 := Lib.hid k6; clear t6 k6))
          have M6 := Lib.hid ((M4.out.below (Below.refl _ _).drew).turn (s' := ⟨last, ⟨true, cb, cv⟩⟩) T6.out K6.out)
          clear C T6 K6 M4 HS6 SS d1 d2 d3 d4 d5
          go_wp2_with fail
          refine (chosen_any _ M6.out.1).mono ?_; rintro e w7 ⟨rfl, b7⟩
          have M7 := Lib.hid (M6.out.below b7)
          clear b7 M6
          go_wp2_with fail
          go_roundw
          case rel => exact ⟨k + 1, ⟨last, ⟨true, cb, cv⟩⟩, rfl, rfl, by go_num, by omega, by omega, M7.out, HSAME.out⟩
          case measure => simp [intOf]; omega
      · subst h2
        obtain ⟨last, ch⟩ := s
        obtain ⟨last', ch'⟩ := s'
        simp only at h1 h3
        subst h1 h3
        have C := HC.out
        clear HC
        have HV2 := Lib.hid (HSV.out ⟨last', a0⟩ rfl h4)
        clear h4
        simp only [Ln] at C
        as_aux_lemma =>
          have d1 := SS.out.1; have d2 := SS.out.2.1; have d3 := SS.out.2.2.1; have d4 := SS.out.2.2.2.1; have d5 := SS.out.2.2.2.2
          go_region_held3 (fun w' => w'.cell? ⟨bo, 1, none⟩ = some (.int .i64 q.from_) ∧ w'.cell? ⟨bo, 3, none⟩ = some (.int .u32 q.b.round) ∧ w'.cell? ⟨bo, 4, none⟩ = some (.int .u8 q.b.node) ∧ w'.cell? ⟨bo, 10, none⟩ = some (.string q.v) ∧ bo < w'.heap.size)
            (first | with_reducible assumption | with_reducible exact HS6.out | with_reducible exact oKeep SS.out (Keep.of_below (Below.refl _ w4).drew []) (by simp))
            (first
              | (go_at_call 20; with_reducible refine (CP.out _).mono ?_; rintro e w5 ⟨rfl, rfl⟩)
              | (go_at_call 16; with_reducible refine C.mono ?_; rintro e w6 ⟨rfl, t6, k6⟩; have HS6 := Lib.hid (oKeep (oKeep SS.out (Keep.of_below (Below.refl _ w4).drew []) (by simp)) k6 HNB.out); have T6 := Lib.hid t6; have K6 := Lib.hid k6; clear t6 k6))
          have M6 := Lib.hid ((M4.out.below (Below.refl _ _).drew).turn (s' := ⟨last', a0⟩) T6.out K6.out)
          clear C T6 K6 M4 HS6 SS d1 d2 d3 d4 d5
          go_wp2_with fail
          refine (chosen_any _ M6.out.1).mono ?_; rintro e w7 ⟨rfl, b7⟩
          have M7 := Lib.hid (M6.out.below b7)
          clear b7 M6
          go_wp2_with fail
          go_roundw
          case rel => exact ⟨k + 1, ⟨last', a0⟩, rfl, rfl, by go_num, by omega, by omega, M7.out, HV2.out⟩
          case measure => simp [intOf]; omega
      · subst h2
        obtain ⟨last, ch⟩ := s
        simp only at h1
        subst h1
        have C := HC.out
        clear HC
        have HH := Lib.hid (HHALF.out h3)
        clear h3
        simp only [Ln] at C
        as_aux_lemma =>
          have d1 := SS.out.1; have d2 := SS.out.2.1; have d3 := SS.out.2.2.1; have d4 := SS.out.2.2.2.1; have d5 := SS.out.2.2.2.2
          go_region_held3 (fun w' => w'.cell? ⟨bo, 1, none⟩ = some (.int .i64 q.from_) ∧ w'.cell? ⟨bo, 3, none⟩ = some (.int .u32 q.b.round) ∧ w'.cell? ⟨bo, 4, none⟩ = some (.int .u8 q.b.node) ∧ w'.cell? ⟨bo, 10, none⟩ = some (.string q.v) ∧ bo < w'.heap.size)
            (first | with_reducible assumption | with_reducible exact HS6.out | with_reducible exact oKeep SS.out (Keep.of_below (Below.refl _ w4).drew []) (by simp))
            (first
              | (go_at_call 20; with_reducible refine (CP.out _).mono ?_; rintro e w5 ⟨rfl, rfl⟩)
              | (go_at_call 16; with_reducible refine C.mono ?_; rintro e w6 ⟨rfl, t6, k6⟩; have HS6 := Lib.hid (oKeep (oKeep SS.out (Keep.of_below (Below.refl _ w4).drew []) (by simp)) k6 HNB.out); have T6 := Lib.hid t6; have K6 := Lib.hid k6; clear t6 k6))
          have M6 := Lib.hid ((M4.out.below (Below.refl _ _).drew).turn (s' := ⟨none9, ⟨true, q.b, q.v⟩⟩) T6.out K6.out)
          clear C T6 K6 M4 HS6 SS d1 d2 d3 d4 d5
          go_wp2_with fail
          refine (chosen_any _ M6.out.1).mono ?_; rintro e w7 ⟨rfl, b7⟩
          have b8 := below_next b7 (below_alloc (Below.refl w7.heap.size w7) (.cells ⟨b9 (fun _ => false)⟩ 77))
          have M8 := Lib.hid (M6.out.below b8)
          have Y8 := Lib.hid (show Row9 (w7.alloc (.cells ⟨b9 (fun _ => false)⟩ 77)) w7.heap.size (fun _ => false) from heap_alloc_new w7 _)
          have HB8 := Lib.hid (show ln < w7.heap.size ∧ gm < w7.heap.size ∧ W.heap.size ≤ w7.heap.size from by
            have h1 := M6.out.1.hlt; have h2 := M6.out.1.glt; have h3 := M6.out.2.size; have h4 := b7.size
            exact ⟨by omega, by omega, by omega⟩)
          clear b7 M6 b8
          go_upto_region 17 with (fail)
          obtain ⟨w8, hw8⟩ : ∃ w8, w7.alloc (.cells ⟨b9 (fun _ => false)⟩ 77) = w8 := ⟨_, rfl⟩
          rw [hw8] at M8 Y8
          have hw9 : w7.alloc (.cells #[.bool false, .bool false, .bool false, .bool false, .bool false, .bool false, .bool false, .bool false, .bool false] 77) = w8 := hw8
          rw [hw9]
          clear hw8 hw9
          generalize w7.heap.size = bb at *
          go_wp2_with fail
          go_loopw [16] (fun v16 wx => ∃ qq : Nat, v16 = .int .i64 (qq : Int) ∧ qq ≤ k + 1 ∧ HM W wx ln gm N ⟨none9, ⟨true, q.b, q.v⟩⟩ (k + 1) ∧ Row9 wx bb (byF sc N q.v qq)) (fun v16 _ => k + 1 - (intOf v16).toNat)
          case atStart => exact ⟨0, rfl, by omega, M8.out, Y8.out⟩
          case round =>
            obtain ⟨qq, rfl, hqk, hM9, hY9⟩ := hrel
            clear M8 Y8
            have hq0 : (0 : Int) ≤ (qq : Int) := by omega
            by_cases hle : qq ≤ k
            · have hle1 : (qq : Int) ≤ (k : Int) := by omega
              have hle2 : (qq : Int) < (len : Int) := by omega
              obtain ⟨g2, o2, hao2, hq2, hg2, hat2⟩ := HSC.out qq (by omega)
              obtain ⟨e1, e2⟩ : g = g2 ∧ o = o2 := by simpa using hao2
              subst e1 e2
              have hatw := hat2.from hg2 hM9.2
              obtain ⟨q2, hq2e⟩ : ∃ q2, q2 = sc qq := ⟨_, rfl⟩
              rw [← hq2e] at hatw hq2
              have c1 := hatw 1 _ rfl; have c10 := hatw 10 _ rfl
              have CP2 := Lib.hid (fun w => pick_any q2.from_ hq2.f N hN1 (by omega) w)
              have hp := pk_lt q2.from_ hN1
              have HBF := Lib.hid (show byF sc N q.v (qq + 1) = fun j => if q2.v = q.v then (if j = pk q2.from_ N then true else byF sc N q.v qq j) else byF sc N q.v qq j by funext j; rw [hq2e]; rfl)
              generalize pk q2.from_ N = pq at *
              have HM9 := Lib.hid hM9; have HY9 := Lib.hid hY9
              clear hM9 hY9 hatw hat2 hao2 hq2 hq2e hqk
              by_cases hv : q2.v = q.v
              · rw [hv] at c10
                have hpq9 : (pq : Int) < 9 := by omega
                have hpq0 : (0 : Int) ≤ (pq : Int) := by omega
                go_upto_region 21 with (fail)
                have y9 := (Row9.at_ HY9.out pq (by omega)).1; have y9f := (Row9.at_ HY9.out pq (by omega)).2
                go_wp2_with fail
                refine (CP2.out _).mono ?_; rintro e w9 ⟨rfl, rfl⟩
                go_wp2_with fail
                have kk := Keep.setCell wr ⟨bb, pq, none⟩ (.bool true)
                have MA := Lib.hid (HM9.out.keep kk HB8.out.1 HB8.out.2.1 HB8.out.2.2)
                have YA := Row9.set HY9.out pq (by omega)
                have hbf := HBF.out
                simp only [hv, if_true] at hbf
                rw [← hbf] at YA
                have YB := Lib.hid YA
                clear kk YA hbf y9 y9f HM9 HY9
                go_roundw
                case rel => exact ⟨qq + 1, by go_num, by omega, MA.out, YB.out⟩
                case measure => simp [intOf]; omega
              · have hbf := HBF.out
                simp only [hv, if_false] at hbf
                have YB := Lib.hid (show Row9 wr bb (byF sc N q.v (qq + 1)) by rw [hbf]; exact HY9.out)
                have hvd := str_ne hv
                clear hbf HY9
                go_wp2_with fail
                go_roundw
                case rel => exact ⟨qq + 1, by go_num, by omega, HM9.out, YB.out⟩
                case measure => simp [intOf]; omega
            · obtain rfl : qq = k + 1 := by omega
              have hle1 : ((k : Int)) < ((k + 1 : Nat) : Int) := by omega
              have HM9 := Lib.hid hM9; have HY9 := Lib.hid hY9
              generalize hbyf : byF sc N q.v (k + 1) = by_ at *
              obtain ⟨kn, hkn⟩ : ∃ kn : Int, ((k + 1 : Nat) : Int) = kn := ⟨_, rfl⟩
              rw [hkn] at hle1 hq0 ⊢
              clear hM9 hY9 hkn hqk hle hbyf HSV HSAME HHALF
              go_wp2_with fail
              go_loop [17, 18] (fun v17 v18 => ∃ qq : Nat, v18 = .int .i64 (qq : Int) ∧ qq ≤ N ∧ v17 = .int .i64 (cnt qq by_ : Int)) (fun _ v18 => N - (intOf v18).toNat)
              case atStart => exact ⟨0, rfl, by omega, rfl⟩
              case round =>
                obtain ⟨qq, rfl, hqN, rfl⟩ := hrel
                have hcl := cnt_le qq by_
                have hcl1 : (cnt qq by_ : Int) ≤ 9 := by omega
                have hq0' : (0 : Int) ≤ (qq : Int) := by omega
                by_cases hlt3 : qq < N
                · have hlt4 : (qq : Int) < (N : Int) := by omega
                  have hlt9 : (qq : Int) < 9 := by omega
                  have y9 := (Row9.at_ HY9.out qq (by omega)).1
                  have hcs := cnt_succ qq by_
                  cases hby : by_ qq
                  · rw [hby] at y9 hcs
                    have HCS := Lib.hid hcs
                    clear hcs hby
                    go_wp2_with fail
                    go_round
                    case rel => exact ⟨qq + 1, by go_num, by omega, by rw [HCS.out]; rfl⟩
                    case measure => simp [intOf]; omega
                  · rw [hby] at y9 hcs
                    have HCS := Lib.hid hcs
                    clear hcs hby
                    go_wp2_with fail
                    go_round
                    case rel => exact ⟨qq + 1, by go_num, by omega, by rw [HCS.out]; go_num⟩
                    case measure => simp [intOf]; omega
                · obtain rfl : qq = N := by omega
                  have hh := HH.out
                  have hh2 : (qq : Int) < 2 * (cnt qq by_ : Int) := by omega
                  clear hh
                  go_wp2_with fail
                  go_roundw
                  case rel => exact ⟨k + 1, ⟨none9, ⟨true, q.b, q.v⟩⟩, rfl, rfl, by go_num, by omega, by omega, HM9.out, HV.chosen sc qq _ rfl _⟩
                  case measure => simp [intOf]; omega
    · have HB := Lib.hid hM.2
      clear hM hV
      by_cases h1 : k < len
      · have h2 : ¬ k < 200 := fun h => hlt ⟨h1, h⟩
        have h1i : (k : Int) < (len : Int) := by omega
        have h2i : (200 : Int) ≤ (k : Int) := by omega
        clear hlt
        go_wp2_with fail
        go_ret
        exact ⟨rfl, HB.out⟩
      · have h1i : (len : Int) ≤ (k : Int) := by omega
        clear hlt
        go_wp2_with fail
        go_ret
        exact ⟨rfl, HB.out⟩
end Go.Proofs.Ytgfalpiifgoonaa
