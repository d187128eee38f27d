/- AcceptorForgets. -/
import Derived.Test.YtgknmicblnldiaaFree
import Derived.Deep.CutRange
namespace Go.Proofs.Ytgknmicblnldiaa
open Go.RowKit Go.Sort
set_option linter.unusedVariables false

abbrev i9 : In := ⟨3, 9, 0, 0⟩
theorem i9ok : i9.Ok := ⟨by decide, by decide, by decide, by decide⟩
/-- both tables, apart; the law's instance -/
structure FM (W w : World) (hA gA hB gB bo n : Nat) (f : Fn) (m : Nat) (g : Fn) : Prop where
  ta : TabW w W.heap.size hA gA 1 n f
  tb : TabW w W.heap.size hB gB 1 m g
  ro : Row4 w bo i9
  bel : Below W.heap.size W w
  lo : hA < bo ∧ gA < bo ∧ hB < bo ∧ gB < bo
  ne : hA ≠ gB ∧ gA ≠ gB ∧ hB ≠ gA
  h3 : W.heap.size ≤ bo
/-- one instance at most -/
def FI (f : Fn) (n : Nat) : Prop := ∃ r, f i9 = some r ∧ n = 1
section
variable {W w w' : World} {hA gA hB gB bo n n' m m' k : Nat} {f f' g g' : Fn} {b : Bl}
theorem TabW.down {w : World} {B B' hn gm most n : Nat} {f : Fn} (h : TabW w B hn gm most n f) (hb : B' ≤ B) : TabW w B' hn gm most n f := ⟨h.map, h.row, Nat.le_trans hb h.base, Nat.le_trans hb h.gbase, h.ne, h.m1, h.m2, h.few⟩
theorem FM.below (h : FM W w hA gA hB gB bo n f m g) (b : Below w.heap.size w w') : FM W w' hA gA hB gB bo n f m g :=
  ⟨h.ta.below b, h.tb.below b, Row4.below h.ro b, h.bel.trans (b.mono (by have := h.h3; have := Row4.lt h.ro; omega)), h.lo, h.ne, h.h3⟩
theorem FM.turnA (h : FM W w hA gA hB gB bo n f m g) (t : TabW w' W.heap.size hA gA 1 n' f') (k : Keep [gA] w w') : FM W w' hA gA hB gB bo n' f' m g :=
  have hl := h.lo
  have hn := h.ne
  ⟨t, h.tb.keep k (by simp; omega) (by simp; omega), row_keep h.ro k (by simp; omega), h.bel.trans (k.below (by have := h.h3; have := Row4.lt h.ro; omega) (by simpa using h.ta.gbase)), h.lo, h.ne, h.h3⟩
theorem FM.turnB (h : FM W w hA gA hB gB bo n f m g) (t : TabW w' W.heap.size hB gB 1 m' g') (k : Keep [gB] w w') : FM W w' hA gA hB gB bo n f m' g' :=
  have hl := h.lo
  have hn := h.ne
  ⟨h.ta.keep k (by simp; omega) (by simp; omega), t, row_keep h.ro k (by simp; omega), h.bel.trans (k.below (by have := h.h3; have := Row4.lt h.ro; omega) (by simpa using h.tb.gbase)), h.lo, h.ne, h.h3⟩
theorem FM.low {L : Nat} (h : FM W w hA gA hB gB bo n f m g) (hL : bo < L) (b : Below L w w') : FM W w' hA gA hB gB bo n f m g :=
  have hl := h.lo
  have h3 := h.h3
  ⟨h.ta.keep (keep_from b) (not_from (by omega)) (not_from (by omega)), h.tb.keep (keep_from b) (not_from (by omega)) (not_from (by omega)), row_keep h.ro (keep_from b) (not_from hL), h.bel.trans (b.mono (by omega)), h.lo, h.ne, h.h3⟩
theorem put_one (f : Fn) (o : Option Rw) : put f i9 o i9 = match o with | none => f i9 | some v => some v := by
  cases o with
  | none => rfl
  | some v => exact upd_same _ _ _
/-- of no instance, or of one -/
def FE (f : Fn) (n k : Nat) : Prop := (k = 0 ∧ f i9 = none ∧ n = 0) ∨ (1 ≤ k ∧ FI f n)
theorem FE.prep (h : FE f n k) (h1 : 0 ≤ b.round) (h2 : 0 ≤ b.node) : FI (put f i9 (prO (stt (f i9) n 1) b)) (putN f n i9 (prO (stt (f i9) n 1) b)) := by
  rcases h with ⟨_, hf, hn⟩ | ⟨_, r, hf, hn⟩
  · have e : stt (f i9) n 1 = some r0 := by rw [hf, hn]; rfl
    rw [e]
    unfold prO
    simp only [low_zero h1 h2, Bool.false_eq_true, if_false]
    refine ⟨_, put_one _ _, ?_⟩
    unfold putN
    rw [hf, hn]; rfl
  · have e : stt (f i9) n 1 = some r := by rw [hf]; rfl
    rw [e]
    unfold prO
    simp only
    split
    · exact ⟨r, hf, hn⟩
    · refine ⟨_, put_one _ _, ?_⟩
      unfold putN
      rw [hf]; exact hn
theorem FI.acc (h : FI f n) (b : Bl) (v : ByteArray) : FI (put f i9 (acO (stt (f i9) n 1) b v)) (putN f n i9 (acO (stt (f i9) n 1) b v)) := by
  obtain ⟨r, hf, hn⟩ := h
  have e : stt (f i9) n 1 = some r := by rw [hf]; rfl
  rw [e]
  unfold acO
  simp only
  split
  · exact ⟨r, hf, hn⟩
  · refine ⟨_, put_one _ _, ?_⟩
    unfold putN
    rw [hf]; exact hn
end

set_option maxRecDepth 100000 in
set_option maxHeartbeats 32000000 in
theorem acceptorForgets_law (ao : Option Addr) (len cap : Nat) (hc : len ≤ cap) (hm : cap ≤ maxLen) (bo' : Option Addr) (len2 cap2 : Nat) (hc2 : len2 ≤ cap2) (hm2 : cap2 ≤ maxLen) (W : World) (hr : OpsRd W ao len) (hr2 : OpsRd W bo' len2) :
    Calls Try.prog 7 #[.slice ao len cap, .slice bo' len2 cap2] W (LawOk W) := by
  have HR := Lib.hid hr; have HR2 := Lib.hid hr2
  have HN := Lib.hid (fun w => new_yes 1 (by omega) (by omega) w)
  have hlen : (len : Int) ≤ 9223372036854775807 := by unfold maxLen at hm; omega
  have hlen2 : (len2 : Int) ≤ 9223372036854775807 := by unfold maxLen at hm2; omega
  have E1 := neq_bb
  have E2 := neq_aa
  clear hr hc hm hr2 hc2 hm2
  go_enter Try.func7, Try.ntmps7
  go_wp2_with fail
  refine (HN.out _).mono ?_; rintro e w1 ⟨hA, gA, rfl, t1, b1⟩
  have T1 := Lib.hid t1; have B1 := Lib.hid b1
  clear t1 b1
  go_wp2_with fail
  refine (HN.out _).mono ?_; rintro e w2 ⟨hB, gB, rfl, t2, b2⟩
  have T1' := T1; have T2 := Lib.hid t2; have B2 := Lib.hid (below_next B1.out b2); have T1 := Lib.hid (T1.out.below b2)
  have HS := Lib.hid (show hA < w1.heap.size ∧ gA < w1.heap.size ∧ w1.heap.size ≤ hB ∧ w1.heap.size ≤ gB ∧ W.heap.size ≤ w1.heap.size from ⟨T1'.out.hlt, T1'.out.map.lt, t2.base, t2.gbase, B1.out.size⟩)
  clear t2 b2 HN B1 T1'
  go_wp2_with fail
  refine (alive_any _).mono ?_; rintro e w3 ⟨rfl, b3⟩
  have hmid : FM W (w3.alloc (In.obj i9)) hA gA hB gB w3.heap.size 0 fn0 0 fn0 := by
    have ba := below_alloc (Below.refl w3.heap.size w3) (In.obj i9)
    have hs := HS.out
    have t1 := T1.out.below b3
    have t2 := T2.out.below b3
    exact ⟨t1.below ba, TabW.down (t2.below ba) hs.2.2.2.2, Row4.new w3 i9, below_next (below_next B2.out b3) ba, ⟨t1.hlt, t1.map.lt, t2.hlt, t2.map.lt⟩, by omega, (below_next B2.out b3).size⟩
  have HM := Lib.hid hmid
  clear b3 hmid T1 B2 T2 HS
  go_wp2_with fail
  simp only [In.obj] at HM
  generalize w3.alloc (.cells #[.int .u64 3, .int .i64 9, .int .i64 0, .int .u32 0] 36) = w4 at *
  generalize w3.heap.size = bo at *
  go_loopw [10] (fun v10 wr => ∃ (k n : Nat) (f : Fn), v10 = .int .i64 (k : Int) ∧ k ≤ len ∧ k ≤ 100 ∧ FM W wr hA gA hB gB bo n f 0 fn0 ∧ FE f n k) (fun v10 _ => len - (intOf v10).toNat)
  case atStart => exact ⟨0, 0, fn0, rfl, by omega, by omega, HM.out, .inl ⟨rfl, rfl, rfl⟩⟩
  case round =>
    obtain ⟨k, n, f, rfl, hk1, hk2, hM, hF⟩ := hrel
    clear HM
    obtain ⟨cb, hcb⟩ : ∃ cb, decide (k < len ∧ k < 100) = cb := ⟨_, rfl⟩
    have HCB := Lib.hid hcb
    clear hcb
    go_upto_region 7 with (fail)
    go_cut [61] from 54 to 60 (fun s wx => s = .bool cb ∧ wr = wx)
    case first =>
      as_aux_lemma =>
        clear hM hF
        by_cases h1 : k < len
        · by_cases h2 : k < 100
          · have hd1 : (k : Int) < (len : Int) := by omega
            have hd2 : (k : Int) < 100 := by omega
            obtain rfl : cb = true := by rw [← HCB.out]; exact decide_eq_true ⟨h1, h2⟩
            go_wp2_with fail
            go_meet
            case rel => exact ⟨rfl, rfl⟩
          · have hd1 : (k : Int) < (len : Int) := by omega
            have hd2 : ¬ (k : Int) < 100 := by omega
            obtain rfl : cb = false := by rw [← HCB.out]; exact decide_eq_false (fun h => h2 h.2)
            go_wp2_with fail
            go_meet
            case rel => exact ⟨rfl, rfl⟩
        · have hd1 : ¬ (k : Int) < (len : Int) := by omega
          obtain rfl : cb = false := by rw [← HCB.out]; exact decide_eq_false (fun h => h1 h.1)
          go_wp2_with fail
          go_meet
          case rel => exact ⟨rfl, rfl⟩
    case rest =>
      obtain ⟨rfl, rfl⟩ := hcut
      cases cb with
      | true =>
        have hlt := of_decide_eq_true HCB.out
        obtain ⟨g, o, q, hao, hq, hg, hat⟩ := HR.out k hlt.1
        subst hao
        have hlt1 : (k : Int) < (len : Int) := by omega
        have hkp : (0 : Int) ≤ (k : Int) := by omega
        as_aux_lemma =>
          have hatw := OpAt.below hat hg hM.bel
          obtain ⟨a1, a2, a3, a4, a5, a6, a7, a8⟩ := hatw
          obtain ⟨d0, d1, d2, d3⟩ := Row4.all hM.ro
          have hgl : g < wr.heap.size := Nat.lt_of_lt_of_le hg hM.bel.size
          have HM0 := Lib.hid hM
          have HF := Lib.hid hF
          have x0 := cell_regrown d0; have x1 := cell_regrown d1; have x2 := cell_regrown d2; have x3 := cell_regrown d3
          have x4 := cell_regrown a6; have x5 := cell_regrown a7
          clear hM hF d0 d1 d2 d3 a1 a2 a3 a4 a5 a6 a7 a8
          go_wp2_with fail
          refine region_tail 7 (by kernel_rfl) (by kernel_rfl) ?_
          simp only [List.take_succ_cons, List.take_zero, List.drop_succ_cons, List.drop_zero]
          repeat (go_big_quiet_step (fail))
          refine wpQuiet_nil ?_
          intro _ hw'
          obtain ⟨⟨dq, osq⟩, hw''⟩ := hw'
          subst hw''
          have M1 := Lib.hid (HM0.out.below (below_regrown wr dq osq))
          clear x0 x1 x2 x3 x4 x5 HM0
          generalize grow (redrawn wr dq) osq = w5 at *
          go_wp2_with fail
          refine (prepare_any i9 i9ok q.b _ M1.out.ta).mono ?_; rintro e w6 ⟨rfl, t6, k6⟩
          have M6 := Lib.hid (M1.out.turnA t6 k6)
          have HF6 := Lib.hid (HF.out.prep hq.b1 hq.b2)
          clear t6 k6 M1 HF
          generalize put f i9 (prO (stt (f i9) n 1) q.b) = f6 at *
          generalize putN f n i9 (prO (stt (f i9) n 1) q.b) = n6 at *
          have hatw := OpAt.below hat hg M6.out.bel
          obtain ⟨a1, a2, a3, a4, a5, a6, a7, a8⟩ := hatw
          obtain ⟨d0, d1, d2, d3⟩ := Row4.all M6.out.ro
          have x0 := cell_regrown d0; have x1 := cell_regrown d1; have x2 := cell_regrown d2; have x3 := cell_regrown d3
          have x4 := cell_regrown a6; have x5 := cell_regrown a7; have x6 := cell_regrown a8
          clear d0 d1 d2 d3 a1 a2 a3 a4 a5 a6 a7 a8
          go_wp2_with fail
          refine region_tail 12 (by kernel_rfl) (by kernel_rfl) ?_
          simp only [List.take_succ_cons, List.take_zero, List.drop_succ_cons, List.drop_zero]
          repeat (go_big_quiet_step (fail))
          refine wpQuiet_nil ?_
          intro _ hw'
          obtain ⟨⟨dq, osq⟩, hw''⟩ := hw'
          subst hw''
          have M7 := Lib.hid (M6.out.below (below_regrown w6 dq osq))
          clear x0 x1 x2 x3 x4 x5 x6 M6
          generalize grow (redrawn w6 dq) osq = w7 at *
          go_wp2_with fail
          refine (accept_any i9 i9ok q.b q.v hq.v _ M7.out.ta).mono ?_; rintro e w8 ⟨rfl, t8, k8⟩
          have M8 := Lib.hid (M7.out.turnA t8 k8)
          have HF8 := Lib.hid (FI.acc HF6.out q.b q.v)
          clear t8 k8 M7 HF6
          go_wp2_with fail
          go_roundw
          case rel => exact ⟨k + 1, _, _, by go_num, by omega, by omega, M8.out, .inr ⟨by omega, HF8.out⟩⟩
          case measure => simp [intOf]; omega
      | false =>
        have hlt := of_decide_eq_false HCB.out
        have hF2 : (f i9 = none ∧ n = 0 ∧ len = 0) ∨ (∃ r, f i9 = some r ∧ n = 1 ∧ 0 < len) := by
          rcases hF with ⟨h1, h2, h3⟩ | ⟨h1, r, h2, h3⟩
          · exact .inl ⟨h2, h3, by omega⟩
          · exact .inr ⟨r, h2, h3, by omega⟩
        have HF2 := Lib.hid hF2; have HM2 := Lib.hid hM
        clear hF2 hM hF
        obtain ⟨d0, d1, d2, d3⟩ := Row4.all HM2.out.ro
        go_wp2_with fail
        refine (forget_any i9 i9ok _ HM2.out.ta).mono ?_; rintro e w5 ⟨rfl, t5, k5⟩
        have m5 := HM2.out.turnA t5 k5
        have hz : (fE (f i9) = 102 ∧ len = 0 ∨ fE (f i9) = 0 ∧ 0 < len) ∧ woN f n i9 = 0 ∧ Ytgknmicblnldiaa.wo f i9 i9 = none := by
          unfold fE woN Ytgknmicblnldiaa.wo
          rcases HF2.out with ⟨h1, h2, h3⟩ | ⟨r, h1, h2, h3⟩
          · rw [h1]; exact ⟨.inl ⟨rfl, h3⟩, h2, h1⟩
          · rw [h1]; exact ⟨.inr ⟨rfl, h3⟩, by simp only; omega, upd_same _ _ _⟩
        generalize fE (f i9) = x at *
        generalize Ytgknmicblnldiaa.wo f i9 = f5 at *
        generalize woN f n i9 = n5 at *
        obtain ⟨hx, rfl, hf5⟩ := hz
        have HX := Lib.hid hx; have M5 := Lib.hid m5; have HF5 := Lib.hid hf5
        clear hx m5 hf5 t5 k5 HM2 HF2 d0 d1 d2 d3
        go_upto_region 12 with (fail)
        go_cut [98] from 88 to 97 (fun s wx => s = .bool false ∧ w5 = wx)
        case first =>
          as_aux_lemma =>
            rcases HX.out with ⟨rfl, rfl⟩ | ⟨rfl, hl⟩
            · go_wp2_with fail
              refine (count_any _ M5.out.ta).mono ?_; rintro e w6 ⟨rfl, rfl⟩
              go_wp2_with fail
              go_meet
              case rel => exact ⟨rfl, rfl⟩
            · have hl2 : (0 : Int) < (len : Int) := by omega
              go_wp2_with fail
              refine (count_any _ M5.out.ta).mono ?_; rintro e w6 ⟨rfl, rfl⟩
              go_wp2_with fail
              go_meet
              case rel => exact ⟨rfl, rfl⟩
        case rest =>
          obtain ⟨rfl, rfl⟩ := hcut
          go_wp2_with fail
          go_loopw [12] (fun v12 wr => ∃ (k n : Nat) (f : Fn) (m : Nat) (g : Fn), v12 = .int .i64 (k : Int) ∧ k ≤ len2 ∧ k ≤ 100 ∧ FM W wr hA gA hB gB bo n f m g ∧ f i9 = g i9 ∧ n = m) (fun v12 _ => len2 - (intOf v12).toNat)
          case atStart => exact ⟨0, 0, f5, 0, fn0, rfl, by omega, by omega, M5.out, HF5.out, rfl⟩
          case round =>
            clear M5 HF5 HX
            obtain ⟨k2, n2, f2, m2, g2, rfl, hk1, hk2, hM, hF, rfl⟩ := hrel
            obtain ⟨cb, hcb⟩ : ∃ cb, decide (k2 < len2 ∧ k2 < 100) = cb := ⟨_, rfl⟩
            have HCB := Lib.hid hcb
            clear hcb
            go_upto_region 15 with (fail)
            go_cut [106] from 99 to 105 (fun s wx => s = .bool cb ∧ wr = wx)
            case first =>
              as_aux_lemma =>
                clear hM hF
                by_cases h1 : k2 < len2
                · by_cases h2 : k2 < 100
                  · have hd1 : (k2 : Int) < (len2 : Int) := by omega
                    have hd2 : (k2 : Int) < 100 := by omega
                    obtain rfl : cb = true := by rw [← HCB.out]; exact decide_eq_true ⟨h1, h2⟩
                    go_wp2_with fail
                    go_meet
                    case rel => exact ⟨rfl, rfl⟩
                  · have hd1 : (k2 : Int) < (len2 : Int) := by omega
                    have hd2 : ¬ (k2 : Int) < 100 := by omega
                    obtain rfl : cb = false := by rw [← HCB.out]; exact decide_eq_false (fun h => h2 h.2)
                    go_wp2_with fail
                    go_meet
                    case rel => exact ⟨rfl, rfl⟩
                · have hd1 : ¬ (k2 : Int) < (len2 : Int) := by omega
                  obtain rfl : cb = false := by rw [← HCB.out]; exact decide_eq_false (fun h => h1 h.1)
                  go_wp2_with fail
                  go_meet
                  case rel => exact ⟨rfl, rfl⟩
            case rest =>
              obtain ⟨rfl, rfl⟩ := hcut
              cases cb with
              | true =>
                have hlt := of_decide_eq_true HCB.out
                obtain ⟨ga, o, q, hao, hq, hg, hat⟩ := HR2.out k2 hlt.1
                subst hao
                have hlt1 : (k2 : Int) < (len2 : Int) := by omega
                have hkp : (0 : Int) ≤ (k2 : Int) := by omega
                obtain ⟨a1, a2, a3, a4, a5, a6, a7, a8⟩ := OpAt.below hat hg hM.bel
                have hgl : ga < wr.heap.size := Nat.lt_of_lt_of_le hg hM.bel.size
                have HM0 := Lib.hid hM; have HF := Lib.hid hF
                obtain ⟨d0, d1, d2, d3⟩ := Row4.all hM.ro
                clear hM hF
                by_cases k1 : q.kind = 1
                · as_aux_lemma =>
                    go_upto_region 18 with (fail)
                    have hbl : bo < wr.heap.size := Row4.lt HM0.out.ro
                    simp only at d0 d1 d2 d3
                    have HLO := Lib.hid (And.intro HM0.out.lo (And.intro HM0.out.h3 hbl))
                    have HGA := Lib.hid (show W.heap.size ≤ gA ∧ W.heap.size ≤ gB from ⟨HM0.out.ta.gbase, HM0.out.tb.gbase⟩)
                    have hno : bo ∉ [gA] ∧ ga ∉ [gA] := by have h1 := HLO.out.1; have h2 := HGA.out; simp; omega
                    obtain ⟨R, hR⟩ : ∃ R, prR (stt (f2 i9) n2 1) q.b = R := ⟨_, rfl⟩
                    obtain ⟨f3, hf3⟩ : ∃ f3, put f2 i9 (prO (stt (f2 i9) n2 1) q.b) = f3 := ⟨_, rfl⟩
                    obtain ⟨n3, hn3⟩ : ∃ n3, putN f2 n2 i9 (prO (stt (f2 i9) n2 1) q.b) = n3 := ⟨_, rfl⟩
                    obtain ⟨g3, hg3⟩ : ∃ g3, put g2 i9 (prO (stt (f2 i9) n2 1) q.b) = g3 := ⟨_, rfl⟩
                    have HE3 := Lib.hid (show f3 i9 = g3 i9 by rw [← hf3, ← hg3, put_one, put_one, HF.out])
                    have HC18 := Lib.hid (show ∀ w', Bel wr.heap.size wr w' → Calls Try.prog 14 #[.pointer (some ⟨hA, 0, none⟩), i9.ag, q.b.ag] w' fun e w3 => e = .returned (.tuple #[R.a.ag, R.p.ag, .bool R.ok, .int .i64 R.e]) ∧ FM W w3 hA gA hB gB bo n3 f3 n2 g2 ∧ Keep [gA] w' w3 from fun w' hb => by
                      have hm := HM0.out.below hb.b
                      have := prepare_any i9 i9ok q.b w' hm.ta
                      rw [hR, hf3, hn3] at this
                      exact this.mono fun e w3 ⟨h1, h2, h3⟩ => ⟨h1, hm.turnA h2 h3, h3⟩)
                    have HC19 := Lib.hid (show ∀ w', FM W w' hA gA hB gB bo n3 f3 n2 g2 → Calls Try.prog 14 #[.pointer (some ⟨hB, 0, none⟩), i9.ag, q.b.ag] w' fun e w3 => e = .returned (.tuple #[R.a.ag, R.p.ag, .bool R.ok, .int .i64 R.e]) ∧ FM W w3 hA gA hB gB bo n3 f3 n3 g3 ∧ Keep [gB] w' w3 from fun w' hm => by
                      have := prepare_any i9 i9ok q.b w' hm.tb
                      have hpn : putN g2 n2 i9 (prO (stt (f2 i9) n2 1) q.b) = n3 := by rw [← hn3]; unfold putN; split <;> simp only [HF.out]
                      rw [← HF.out, hR, hg3, hpn] at this
                      exact this.mono fun e w3 ⟨h1, h2, h3⟩ => ⟨h1, hm.turnB h2 h3, h3⟩)
                    have LOW18 := Lib.hid (fun (w3 w' : World) (h : FM W w3 hA gA hB gB bo n3 f3 n2 g2) (b : Bel wr.heap.size w3 w') => h.low hbl b.b)
                    clear hR hf3 hn3 hg3 a1 a2 a3 a4 a5 a8
                    go_upto_region 18 with (fail)
                    have HSK18 := Lib.hid (show ∀ w', Bel wr.heap.size wr w' → (w'.cell? ⟨bo, 0, none⟩ = some (.int .u64 3) ∧ w'.cell? ⟨bo, 1, none⟩ = some (.int .i64 9) ∧ w'.cell? ⟨bo, 2, none⟩ = some (.int .i64 0) ∧ w'.cell? ⟨bo, 3, none⟩ = some (.int .u32 0) ∧ w'.cell? ⟨ga, o + k2 * 8 + 5, none⟩ = some (.int .u32 q.b.round) ∧ w'.cell? ⟨ga, o + k2 * 8 + 6, none⟩ = some (.int .u8 q.b.node) ∧ bo < w'.heap.size ∧ ga < w'.heap.size) from fun w' h => ⟨(h.b.cell hbl).trans d0, (h.b.cell hbl).trans d1, (h.b.cell hbl).trans d2, (h.b.cell hbl).trans d3, (h.b.cell hgl).trans a6, (h.b.cell hgl).trans a7, Nat.lt_of_lt_of_le hbl h.b.size, Nat.lt_of_lt_of_le hgl h.b.size⟩)
                    have HSG18 := Lib.hid (show ∀ w' w3, (w'.cell? ⟨bo, 0, none⟩ = some (.int .u64 3) ∧ w'.cell? ⟨bo, 1, none⟩ = some (.int .i64 9) ∧ w'.cell? ⟨bo, 2, none⟩ = some (.int .i64 0) ∧ w'.cell? ⟨bo, 3, none⟩ = some (.int .u32 0) ∧ w'.cell? ⟨ga, o + k2 * 8 + 5, none⟩ = some (.int .u32 q.b.round) ∧ w'.cell? ⟨ga, o + k2 * 8 + 6, none⟩ = some (.int .u8 q.b.node) ∧ bo < w'.heap.size ∧ ga < w'.heap.size) → Keep [gA] w' w3 → (w3.cell? ⟨bo, 0, none⟩ = some (.int .u64 3) ∧ w3.cell? ⟨bo, 1, none⟩ = some (.int .i64 9) ∧ w3.cell? ⟨bo, 2, none⟩ = some (.int .i64 0) ∧ w3.cell? ⟨bo, 3, none⟩ = some (.int .u32 0) ∧ w3.cell? ⟨ga, o + k2 * 8 + 5, none⟩ = some (.int .u32 q.b.round) ∧ w3.cell? ⟨ga, o + k2 * 8 + 6, none⟩ = some (.int .u8 q.b.node) ∧ bo < w3.heap.size ∧ ga < w3.heap.size) from fun w' w3 h k => by
                      obtain ⟨h0, h1, h2, h3, h4, h5, h6, h7⟩ := h
                      exact ⟨(k.cell h6 hno.1).trans h0, (k.cell h6 hno.1).trans h1, (k.cell h6 hno.1).trans h2, (k.cell h6 hno.1).trans h3, (k.cell h7 hno.2).trans h4, (k.cell h7 hno.2).trans h5, Nat.lt_of_lt_of_le h6 k.size, Nat.lt_of_lt_of_le h7 k.size⟩)
                    have HSL18 := Lib.hid (show ∀ w3 w', (w3.cell? ⟨bo, 0, none⟩ = some (.int .u64 3) ∧ w3.cell? ⟨bo, 1, none⟩ = some (.int .i64 9) ∧ w3.cell? ⟨bo, 2, none⟩ = some (.int .i64 0) ∧ w3.cell? ⟨bo, 3, none⟩ = some (.int .u32 0) ∧ w3.cell? ⟨ga, o + k2 * 8 + 5, none⟩ = some (.int .u32 q.b.round) ∧ w3.cell? ⟨ga, o + k2 * 8 + 6, none⟩ = some (.int .u8 q.b.node) ∧ bo < w3.heap.size ∧ ga < w3.heap.size) → Bel wr.heap.size w3 w' → (w'.cell? ⟨bo, 0, none⟩ = some (.int .u64 3) ∧ w'.cell? ⟨bo, 1, none⟩ = some (.int .i64 9) ∧ w'.cell? ⟨bo, 2, none⟩ = some (.int .i64 0) ∧ w'.cell? ⟨bo, 3, none⟩ = some (.int .u32 0) ∧ w'.cell? ⟨ga, o + k2 * 8 + 5, none⟩ = some (.int .u32 q.b.round) ∧ w'.cell? ⟨ga, o + k2 * 8 + 6, none⟩ = some (.int .u8 q.b.node) ∧ bo < w'.heap.size ∧ ga < w'.heap.size) from fun w3 w' h hb => by
                      obtain ⟨h0, h1, h2, h3, h4, h5, h6, h7⟩ := h
                      have e : ∀ x : Addr, x.block < wr.heap.size → w'.cell? x = w3.cell? x := fun x hx => World.cell?_of_block (w := w3) (hb.b.block x.block hx)
                      exact ⟨(e _ hbl).trans h0, (e _ hbl).trans h1, (e _ hbl).trans h2, (e _ hbl).trans h3, (e _ hgl).trans h4, (e _ hgl).trans h5, Nat.lt_of_lt_of_le h6 hb.b.size, Nat.lt_of_lt_of_le h7 hb.b.size⟩)
                    have hSw := HSK18.out _ (Bel.refl (Nat.le_refl _))
                    clear d0 d1 d2 d3 a6 a7
                    go_cut [13, 14, 15, 16] from 99 to 127 (fun s13 s14 s15 s16 wx => ∃ bX bY, s13 = .pointer (some ⟨bX, 0, none⟩) ∧ s14 = .pointer (some ⟨bY, 0, none⟩) ∧ s15 = .bool R.ok ∧ s16 = .int .i64 R.e ∧ CA wx bX R.a ∧ CP wx bY R.p ∧ wr.heap.size ≤ bX ∧ wr.heap.size ≤ bY ∧ FM W wx hA gA hB gB bo n3 f3 n2 g2)
                    case first =>
                      as_aux_lemma =>
                        have hsz := HLO.out
                        go_region_held3 (fun w' => w'.cell? ⟨bo, 0, none⟩ = some (.int .u64 3) ∧ w'.cell? ⟨bo, 1, none⟩ = some (.int .i64 9) ∧ w'.cell? ⟨bo, 2, none⟩ = some (.int .i64 0) ∧ w'.cell? ⟨bo, 3, none⟩ = some (.int .u32 0) ∧ w'.cell? ⟨ga, o + k2 * 8 + 5, none⟩ = some (.int .u32 q.b.round) ∧ w'.cell? ⟨ga, o + k2 * 8 + 6, none⟩ = some (.int .u8 q.b.node) ∧ bo < w'.heap.size ∧ ga < w'.heap.size)
                          (first | with_reducible assumption | (refine HSK18.out _ ?_; ((repeat (first | with_reducible exact Bel.refl (Nat.le_refl _) | with_reducible refine Bel.alloc ?_ _ | with_reducible refine Bel.drew ?_ | with_reducible refine Bel.set ?_ _ _ (by simp <;> omega))); done)) | (refine HSL18.out _ _ HS3.out ?_; ((repeat (first | with_reducible exact Bel.refl (hl3) | with_reducible refine Bel.alloc ?_ _ | with_reducible refine Bel.drew ?_ | with_reducible refine Bel.set ?_ _ _ (by simp <;> omega))); done)))
                          (first
                            | (go_at_call 14; with_reducible refine (HC18.out (wr.drew) ((Bel.refl (Nat.le_refl _)).drew)).mono ?_; rintro e w3 ⟨rfl, hM3, hk3⟩; have HM3 := Lib.hid hM3; have hS3 := HSG18.out _ _ (HSK18.out _ ((Bel.refl (Nat.le_refl _)).drew)) hk3; have HS3 := Lib.hid hS3; have hl3 := Nat.le_trans ((Bel.refl (Nat.le_refl _)).drew).b.size hk3.size; clear hM3; clear hk3)
                            | (go_at_call 14; with_reducible refine (HC18.out ((wr.alloc (.cells #[.bool false, .int .u32 0, .int .u8 0, .string ⟨#[]⟩] 45)).drew) (((Bel.refl (Nat.le_refl _)).alloc _).drew)).mono ?_; rintro e w3 ⟨rfl, hM3, hk3⟩; have HM3 := Lib.hid hM3; have hS3 := HSG18.out _ _ (HSK18.out _ (((Bel.refl (Nat.le_refl _)).alloc _).drew)) hk3; have HS3 := Lib.hid hS3; have hl3 := Nat.le_trans (((Bel.refl (Nat.le_refl _)).alloc _).drew).b.size hk3.size; clear hM3; have zA0 : w3.cell? ⟨wr.heap.size, 0, none⟩ = some (.bool false) := (hk3.cell (a := ⟨wr.heap.size, 0, none⟩) (by simp <;> omega) (by simp <;> omega)).trans (by go_simp); have yA0 : w3.frozen? ⟨wr.heap.size, 0, none⟩ = false := (hk3.frozen (a := ⟨wr.heap.size, 0, none⟩) (by simp <;> omega) (by simp <;> omega)).trans (by go_simp); have zA1 : w3.cell? ⟨wr.heap.size, 1, none⟩ = some (.int .u32 0) := (hk3.cell (a := ⟨wr.heap.size, 1, none⟩) (by simp <;> omega) (by simp <;> omega)).trans (by go_simp); have yA1 : w3.frozen? ⟨wr.heap.size, 1, none⟩ = false := (hk3.frozen (a := ⟨wr.heap.size, 1, none⟩) (by simp <;> omega) (by simp <;> omega)).trans (by go_simp); have zA2 : w3.cell? ⟨wr.heap.size, 2, none⟩ = some (.int .u8 0) := (hk3.cell (a := ⟨wr.heap.size, 2, none⟩) (by simp <;> omega) (by simp <;> omega)).trans (by go_simp); have yA2 : w3.frozen? ⟨wr.heap.size, 2, none⟩ = false := (hk3.frozen (a := ⟨wr.heap.size, 2, none⟩) (by simp <;> omega) (by simp <;> omega)).trans (by go_simp); have zA3 : w3.cell? ⟨wr.heap.size, 3, none⟩ = some (.string ⟨#[]⟩) := (hk3.cell (a := ⟨wr.heap.size, 3, none⟩) (by simp <;> omega) (by simp <;> omega)).trans (by go_simp); have yA3 : w3.frozen? ⟨wr.heap.size, 3, none⟩ = false := (hk3.frozen (a := ⟨wr.heap.size, 3, none⟩) (by simp <;> omega) (by simp <;> omega)).trans (by go_simp); have lA : wr.heap.size < w3.heap.size := Nat.lt_of_lt_of_le (by simp <;> omega) hk3.size; clear hk3)
                            | (go_at_call 14; with_reducible refine (HC18.out ((wr.alloc (.cells #[.int .u32 0, .int .u8 0] 38)).drew) (((Bel.refl (Nat.le_refl _)).alloc _).drew)).mono ?_; rintro e w3 ⟨rfl, hM3, hk3⟩; have HM3 := Lib.hid hM3; have hS3 := HSG18.out _ _ (HSK18.out _ (((Bel.refl (Nat.le_refl _)).alloc _).drew)) hk3; have HS3 := Lib.hid hS3; have hl3 := Nat.le_trans (((Bel.refl (Nat.le_refl _)).alloc _).drew).b.size hk3.size; clear hM3; have zP0 : w3.cell? ⟨wr.heap.size, 0, none⟩ = some (.int .u32 0) := (hk3.cell (a := ⟨wr.heap.size, 0, none⟩) (by simp <;> omega) (by simp <;> omega)).trans (by go_simp); have yP0 : w3.frozen? ⟨wr.heap.size, 0, none⟩ = false := (hk3.frozen (a := ⟨wr.heap.size, 0, none⟩) (by simp <;> omega) (by simp <;> omega)).trans (by go_simp); have zP1 : w3.cell? ⟨wr.heap.size, 1, none⟩ = some (.int .u8 0) := (hk3.cell (a := ⟨wr.heap.size, 1, none⟩) (by simp <;> omega) (by simp <;> omega)).trans (by go_simp); have yP1 : w3.frozen? ⟨wr.heap.size, 1, none⟩ = false := (hk3.frozen (a := ⟨wr.heap.size, 1, none⟩) (by simp <;> omega) (by simp <;> omega)).trans (by go_simp); have lP : wr.heap.size < w3.heap.size := Nat.lt_of_lt_of_le (by simp <;> omega) hk3.size; clear hk3)
                            | (go_at_call 14; with_reducible refine (HC18.out (((wr.alloc (.cells #[.bool false, .int .u32 0, .int .u8 0, .string ⟨#[]⟩] 45)).alloc (.cells #[.int .u32 0, .int .u8 0] 38)).drew) ((((Bel.refl (Nat.le_refl _)).alloc _).alloc _).drew)).mono ?_; rintro e w3 ⟨rfl, hM3, hk3⟩; have HM3 := Lib.hid hM3; have hS3 := HSG18.out _ _ (HSK18.out _ ((((Bel.refl (Nat.le_refl _)).alloc _).alloc _).drew)) hk3; have HS3 := Lib.hid hS3; have hl3 := Nat.le_trans ((((Bel.refl (Nat.le_refl _)).alloc _).alloc _).drew).b.size hk3.size; clear hM3; have zA0 : w3.cell? ⟨wr.heap.size, 0, none⟩ = some (.bool false) := (hk3.cell (a := ⟨wr.heap.size, 0, none⟩) (by simp <;> omega) (by simp <;> omega)).trans (by go_simp); have yA0 : w3.frozen? ⟨wr.heap.size, 0, none⟩ = false := (hk3.frozen (a := ⟨wr.heap.size, 0, none⟩) (by simp <;> omega) (by simp <;> omega)).trans (by go_simp); have zA1 : w3.cell? ⟨wr.heap.size, 1, none⟩ = some (.int .u32 0) := (hk3.cell (a := ⟨wr.heap.size, 1, none⟩) (by simp <;> omega) (by simp <;> omega)).trans (by go_simp); have yA1 : w3.frozen? ⟨wr.heap.size, 1, none⟩ = false := (hk3.frozen (a := ⟨wr.heap.size, 1, none⟩) (by simp <;> omega) (by simp <;> omega)).trans (by go_simp); have zA2 : w3.cell? ⟨wr.heap.size, 2, none⟩ = some (.int .u8 0) := (hk3.cell (a := ⟨wr.heap.size, 2, none⟩) (by simp <;> omega) (by simp <;> omega)).trans (by go_simp); have yA2 : w3.frozen? ⟨wr.heap.size, 2, none⟩ = false := (hk3.frozen (a := ⟨wr.heap.size, 2, none⟩) (by simp <;> omega) (by simp <;> omega)).trans (by go_simp); have zA3 : w3.cell? ⟨wr.heap.size, 3, none⟩ = some (.string ⟨#[]⟩) := (hk3.cell (a := ⟨wr.heap.size, 3, none⟩) (by simp <;> omega) (by simp <;> omega)).trans (by go_simp); have yA3 : w3.frozen? ⟨wr.heap.size, 3, none⟩ = false := (hk3.frozen (a := ⟨wr.heap.size, 3, none⟩) (by simp <;> omega) (by simp <;> omega)).trans (by go_simp); have lA : wr.heap.size < w3.heap.size := Nat.lt_of_lt_of_le (by simp <;> omega) hk3.size; have zP0 : w3.cell? ⟨wr.heap.size + 1, 0, none⟩ = some (.int .u32 0) := (hk3.cell (a := ⟨wr.heap.size + 1, 0, none⟩) (by simp <;> omega) (by simp <;> omega)).trans (by go_simp); have yP0 : w3.frozen? ⟨wr.heap.size + 1, 0, none⟩ = false := (hk3.frozen (a := ⟨wr.heap.size + 1, 0, none⟩) (by simp <;> omega) (by simp <;> omega)).trans (by go_simp); have zP1 : w3.cell? ⟨wr.heap.size + 1, 1, none⟩ = some (.int .u8 0) := (hk3.cell (a := ⟨wr.heap.size + 1, 1, none⟩) (by simp <;> omega) (by simp <;> omega)).trans (by go_simp); have yP1 : w3.frozen? ⟨wr.heap.size + 1, 1, none⟩ = false := (hk3.frozen (a := ⟨wr.heap.size + 1, 1, none⟩) (by simp <;> omega) (by simp <;> omega)).trans (by go_simp); have lP : wr.heap.size + 1 < w3.heap.size := Nat.lt_of_lt_of_le (by simp <;> omega) hk3.size; clear hk3)
                            | (go_at_call 14; with_reducible refine (HC18.out (((wr.alloc (.cells #[.int .u32 0, .int .u8 0] 38)).alloc (.cells #[.bool false, .int .u32 0, .int .u8 0, .string ⟨#[]⟩] 45)).drew) ((((Bel.refl (Nat.le_refl _)).alloc _).alloc _).drew)).mono ?_; rintro e w3 ⟨rfl, hM3, hk3⟩; have HM3 := Lib.hid hM3; have hS3 := HSG18.out _ _ (HSK18.out _ ((((Bel.refl (Nat.le_refl _)).alloc _).alloc _).drew)) hk3; have HS3 := Lib.hid hS3; have hl3 := Nat.le_trans ((((Bel.refl (Nat.le_refl _)).alloc _).alloc _).drew).b.size hk3.size; clear hM3; have zP0 : w3.cell? ⟨wr.heap.size, 0, none⟩ = some (.int .u32 0) := (hk3.cell (a := ⟨wr.heap.size, 0, none⟩) (by simp <;> omega) (by simp <;> omega)).trans (by go_simp); have yP0 : w3.frozen? ⟨wr.heap.size, 0, none⟩ = false := (hk3.frozen (a := ⟨wr.heap.size, 0, none⟩) (by simp <;> omega) (by simp <;> omega)).trans (by go_simp); have zP1 : w3.cell? ⟨wr.heap.size, 1, none⟩ = some (.int .u8 0) := (hk3.cell (a := ⟨wr.heap.size, 1, none⟩) (by simp <;> omega) (by simp <;> omega)).trans (by go_simp); have yP1 : w3.frozen? ⟨wr.heap.size, 1, none⟩ = false := (hk3.frozen (a := ⟨wr.heap.size, 1, none⟩) (by simp <;> omega) (by simp <;> omega)).trans (by go_simp); have lP : wr.heap.size < w3.heap.size := Nat.lt_of_lt_of_le (by simp <;> omega) hk3.size; have zA0 : w3.cell? ⟨wr.heap.size + 1, 0, none⟩ = some (.bool false) := (hk3.cell (a := ⟨wr.heap.size + 1, 0, none⟩) (by simp <;> omega) (by simp <;> omega)).trans (by go_simp); have yA0 : w3.frozen? ⟨wr.heap.size + 1, 0, none⟩ = false := (hk3.frozen (a := ⟨wr.heap.size + 1, 0, none⟩) (by simp <;> omega) (by simp <;> omega)).trans (by go_simp); have zA1 : w3.cell? ⟨wr.heap.size + 1, 1, none⟩ = some (.int .u32 0) := (hk3.cell (a := ⟨wr.heap.size + 1, 1, none⟩) (by simp <;> omega) (by simp <;> omega)).trans (by go_simp); have yA1 : w3.frozen? ⟨wr.heap.size + 1, 1, none⟩ = false := (hk3.frozen (a := ⟨wr.heap.size + 1, 1, none⟩) (by simp <;> omega) (by simp <;> omega)).trans (by go_simp); have zA2 : w3.cell? ⟨wr.heap.size + 1, 2, none⟩ = some (.int .u8 0) := (hk3.cell (a := ⟨wr.heap.size + 1, 2, none⟩) (by simp <;> omega) (by simp <;> omega)).trans (by go_simp); have yA2 : w3.frozen? ⟨wr.heap.size + 1, 2, none⟩ = false := (hk3.frozen (a := ⟨wr.heap.size + 1, 2, none⟩) (by simp <;> omega) (by simp <;> omega)).trans (by go_simp); have zA3 : w3.cell? ⟨wr.heap.size + 1, 3, none⟩ = some (.string ⟨#[]⟩) := (hk3.cell (a := ⟨wr.heap.size + 1, 3, none⟩) (by simp <;> omega) (by simp <;> omega)).trans (by go_simp); have yA3 : w3.frozen? ⟨wr.heap.size + 1, 3, none⟩ = false := (hk3.frozen (a := ⟨wr.heap.size + 1, 3, none⟩) (by simp <;> omega) (by simp <;> omega)).trans (by go_simp); have lA : wr.heap.size + 1 < w3.heap.size := Nat.lt_of_lt_of_le (by simp <;> omega) hk3.size; clear hk3))
                        all_goals go_wp2_with fail
                        all_goals go_meet
                        all_goals
                          refine ⟨_, _, rfl, rfl, rfl, rfl, ⟨by go_simp, by go_simp, by go_simp, by go_simp, by first | omega | (simp <;> omega)⟩, ⟨by go_simp, by go_simp, by first | omega | (simp <;> omega)⟩, by first | omega | (simp <;> omega), by first | omega | (simp <;> omega), LOW18.out _ _ HM3.out (show Bel wr.heap.size w3 _ from (by ((repeat (first | with_reducible exact Bel.refl (hl3) | with_reducible refine Bel.alloc ?_ _ | with_reducible refine Bel.drew ?_ | with_reducible refine Bel.set ?_ _ _ (by simp <;> omega))); done)))⟩
                    case rest =>
                      obtain ⟨bA, bP, rfl, rfl, rfl, rfl, hCA, hCP, hbA, hbP, hM4⟩ := hcut
                      clear hno HSK18 HSG18 HSL18 hSw HC18 LOW18
                      generalize wc = wd at *
                      have HM4 := Lib.hid hM4; have HCA4 := Lib.hid hCA; have HCP4 := Lib.hid hCP
                      have HBB := Lib.hid (show bA ∉ [gB] ∧ bP ∉ [gB] by have h1 := hM4.lo; have h2 := HLO.out; simp; omega)
                      obtain ⟨d0, d1, d2, d3⟩ := Row4.all hM4.ro
                      obtain ⟨_, _, _, _, _, a6, a7, _⟩ := OpAt.below hat hg hM4.bel
                      have hgl : ga < wd.heap.size := Nat.lt_of_lt_of_le hg hM4.bel.size
                      have hbl : bo < wd.heap.size := Row4.lt hM4.ro
                      simp only at d0 d1 d2 d3
                      have hno : bo ∉ [gB] ∧ ga ∉ [gB] := by have h1 := HLO.out.1; have h2 := HGA.out; simp; omega
                      have HLO2 := HLO
                      clear HLO
                      have HLO := Lib.hid (And.intro HLO2.out.1 (And.intro HLO2.out.2.1 hbl))
                      have hC19 := HC19.out
                      clear HC19
                      have HC19 := Lib.hid (show ∀ w', Bel wd.heap.size wd w' → Calls Try.prog 14 #[.pointer (some ⟨hB, 0, none⟩), i9.ag, q.b.ag] w' fun e w3 => e = .returned (.tuple #[R.a.ag, R.p.ag, .bool R.ok, .int .i64 R.e]) ∧ (FM W w3 hA gA hB gB bo n3 f3 n3 g3 ∧ CA w3 bA R.a ∧ CP w3 bP R.p) ∧ Keep [gB] w' w3 from fun w' hb =>
                        (hC19 w' (HM4.out.below hb.b)).mono fun e w3 ⟨h1, h2, h3⟩ => ⟨h1, ⟨h2, (HCA4.out.keep (Keep.of_below hb.b []) (by simp)).keep h3 HBB.out.1, (HCP4.out.keep (Keep.of_below hb.b []) (by simp)).keep h3 HBB.out.2⟩, h3⟩)
                      have LOW19 := Lib.hid (show ∀ (w3 w' : World), (FM W w3 hA gA hB gB bo n3 f3 n3 g3 ∧ CA w3 bA R.a ∧ CP w3 bP R.p) → Bel wd.heap.size w3 w' → (FM W w' hA gA hB gB bo n3 f3 n3 g3 ∧ CA w' bA R.a ∧ CP w' bP R.p) from fun w3 w' h b =>
                        ⟨h.1.low hbl b.b, h.2.1.keep b.keep (not_from HCA4.out.2.2.2.2), h.2.2.keep b.keep (not_from HCP4.out.2.2)⟩)
                      clear hC19 hCA hCP hM4 hbA hbP
                      go_upto_region 19 with (fail)
                      have HSK19 := Lib.hid (show ∀ w', Bel wd.heap.size wd w' → (w'.cell? ⟨bo, 0, none⟩ = some (.int .u64 3) ∧ w'.cell? ⟨bo, 1, none⟩ = some (.int .i64 9) ∧ w'.cell? ⟨bo, 2, none⟩ = some (.int .i64 0) ∧ w'.cell? ⟨bo, 3, none⟩ = some (.int .u32 0) ∧ w'.cell? ⟨ga, o + k2 * 8 + 5, none⟩ = some (.int .u32 q.b.round) ∧ w'.cell? ⟨ga, o + k2 * 8 + 6, none⟩ = some (.int .u8 q.b.node) ∧ bo < w'.heap.size ∧ ga < w'.heap.size) from fun w' h => ⟨(h.b.cell hbl).trans d0, (h.b.cell hbl).trans d1, (h.b.cell hbl).trans d2, (h.b.cell hbl).trans d3, (h.b.cell hgl).trans a6, (h.b.cell hgl).trans a7, Nat.lt_of_lt_of_le hbl h.b.size, Nat.lt_of_lt_of_le hgl h.b.size⟩)
                      have HSG19 := Lib.hid (show ∀ w' w3, (w'.cell? ⟨bo, 0, none⟩ = some (.int .u64 3) ∧ w'.cell? ⟨bo, 1, none⟩ = some (.int .i64 9) ∧ w'.cell? ⟨bo, 2, none⟩ = some (.int .i64 0) ∧ w'.cell? ⟨bo, 3, none⟩ = some (.int .u32 0) ∧ w'.cell? ⟨ga, o + k2 * 8 + 5, none⟩ = some (.int .u32 q.b.round) ∧ w'.cell? ⟨ga, o + k2 * 8 + 6, none⟩ = some (.int .u8 q.b.node) ∧ bo < w'.heap.size ∧ ga < w'.heap.size) → Keep [gB] w' w3 → (w3.cell? ⟨bo, 0, none⟩ = some (.int .u64 3) ∧ w3.cell? ⟨bo, 1, none⟩ = some (.int .i64 9) ∧ w3.cell? ⟨bo, 2, none⟩ = some (.int .i64 0) ∧ w3.cell? ⟨bo, 3, none⟩ = some (.int .u32 0) ∧ w3.cell? ⟨ga, o + k2 * 8 + 5, none⟩ = some (.int .u32 q.b.round) ∧ w3.cell? ⟨ga, o + k2 * 8 + 6, none⟩ = some (.int .u8 q.b.node) ∧ bo < w3.heap.size ∧ ga < w3.heap.size) from fun w' w3 h k => by
                        obtain ⟨h0, h1, h2, h3, h4, h5, h6, h7⟩ := h
                        exact ⟨(k.cell h6 hno.1).trans h0, (k.cell h6 hno.1).trans h1, (k.cell h6 hno.1).trans h2, (k.cell h6 hno.1).trans h3, (k.cell h7 hno.2).trans h4, (k.cell h7 hno.2).trans h5, Nat.lt_of_lt_of_le h6 k.size, Nat.lt_of_lt_of_le h7 k.size⟩)
                      have HSL19 := Lib.hid (show ∀ w3 w', (w3.cell? ⟨bo, 0, none⟩ = some (.int .u64 3) ∧ w3.cell? ⟨bo, 1, none⟩ = some (.int .i64 9) ∧ w3.cell? ⟨bo, 2, none⟩ = some (.int .i64 0) ∧ w3.cell? ⟨bo, 3, none⟩ = some (.int .u32 0) ∧ w3.cell? ⟨ga, o + k2 * 8 + 5, none⟩ = some (.int .u32 q.b.round) ∧ w3.cell? ⟨ga, o + k2 * 8 + 6, none⟩ = some (.int .u8 q.b.node) ∧ bo < w3.heap.size ∧ ga < w3.heap.size) → Bel wd.heap.size w3 w' → (w'.cell? ⟨bo, 0, none⟩ = some (.int .u64 3) ∧ w'.cell? ⟨bo, 1, none⟩ = some (.int .i64 9) ∧ w'.cell? ⟨bo, 2, none⟩ = some (.int .i64 0) ∧ w'.cell? ⟨bo, 3, none⟩ = some (.int .u32 0) ∧ w'.cell? ⟨ga, o + k2 * 8 + 5, none⟩ = some (.int .u32 q.b.round) ∧ w'.cell? ⟨ga, o + k2 * 8 + 6, none⟩ = some (.int .u8 q.b.node) ∧ bo < w'.heap.size ∧ ga < w'.heap.size) from fun w3 w' h hb => by
                        obtain ⟨h0, h1, h2, h3, h4, h5, h6, h7⟩ := h
                        have e : ∀ x : Addr, x.block < wd.heap.size → w'.cell? x = w3.cell? x := fun x hx => World.cell?_of_block (w := w3) (hb.b.block x.block hx)
                        exact ⟨(e _ hbl).trans h0, (e _ hbl).trans h1, (e _ hbl).trans h2, (e _ hbl).trans h3, (e _ hgl).trans h4, (e _ hgl).trans h5, Nat.lt_of_lt_of_le h6 hb.b.size, Nat.lt_of_lt_of_le h7 hb.b.size⟩)
                      have hSw := HSK19.out _ (Bel.refl (Nat.le_refl _))
                      clear d0 d1 d2 d3 a6 a7
                      go_cut [17, 18, 19, 20] from 128 to 140 (fun s17 s18 s19 s20 wx => ∃ bX bY, s17 = .pointer (some ⟨bX, 0, none⟩) ∧ s18 = .pointer (some ⟨bY, 0, none⟩) ∧ s19 = .bool R.ok ∧ s20 = .int .i64 R.e ∧ CA wx bX R.a ∧ CP wx bY R.p ∧ wd.heap.size ≤ bX ∧ wd.heap.size ≤ bY ∧ FM W wx hA gA hB gB bo n3 f3 n3 g3 ∧ CA wx bA R.a ∧ CP wx bP R.p)
                      case first =>
                        as_aux_lemma =>
                          have hsz := HLO.out
                          go_region_held3 (fun w' => w'.cell? ⟨bo, 0, none⟩ = some (.int .u64 3) ∧ w'.cell? ⟨bo, 1, none⟩ = some (.int .i64 9) ∧ w'.cell? ⟨bo, 2, none⟩ = some (.int .i64 0) ∧ w'.cell? ⟨bo, 3, none⟩ = some (.int .u32 0) ∧ w'.cell? ⟨ga, o + k2 * 8 + 5, none⟩ = some (.int .u32 q.b.round) ∧ w'.cell? ⟨ga, o + k2 * 8 + 6, none⟩ = some (.int .u8 q.b.node) ∧ bo < w'.heap.size ∧ ga < w'.heap.size)
                            (first | with_reducible assumption | (refine HSK19.out _ ?_; ((repeat (first | with_reducible exact Bel.refl (Nat.le_refl _) | with_reducible refine Bel.alloc ?_ _ | with_reducible refine Bel.drew ?_ | with_reducible refine Bel.set ?_ _ _ (by simp <;> omega))); done)) | (refine HSL19.out _ _ HS3.out ?_; ((repeat (first | with_reducible exact Bel.refl (hl3) | with_reducible refine Bel.alloc ?_ _ | with_reducible refine Bel.drew ?_ | with_reducible refine Bel.set ?_ _ _ (by simp <;> omega))); done)))
                            (first
                              | (go_at_call 14; with_reducible refine (HC19.out (wd.drew) ((Bel.refl (Nat.le_refl _)).drew)).mono ?_; rintro e w3 ⟨rfl, hM3, hk3⟩; have HM3 := Lib.hid hM3; have hS3 := HSG19.out _ _ (HSK19.out _ ((Bel.refl (Nat.le_refl _)).drew)) hk3; have HS3 := Lib.hid hS3; have hl3 := Nat.le_trans ((Bel.refl (Nat.le_refl _)).drew).b.size hk3.size; clear hM3; clear hk3)
                              | (go_at_call 14; with_reducible refine (HC19.out ((wd.alloc (.cells #[.bool false, .int .u32 0, .int .u8 0, .string ⟨#[]⟩] 45)).drew) (((Bel.refl (Nat.le_refl _)).alloc _).drew)).mono ?_; rintro e w3 ⟨rfl, hM3, hk3⟩; have HM3 := Lib.hid hM3; have hS3 := HSG19.out _ _ (HSK19.out _ (((Bel.refl (Nat.le_refl _)).alloc _).drew)) hk3; have HS3 := Lib.hid hS3; have hl3 := Nat.le_trans (((Bel.refl (Nat.le_refl _)).alloc _).drew).b.size hk3.size; clear hM3; have zA0 : w3.cell? ⟨wd.heap.size, 0, none⟩ = some (.bool false) := (hk3.cell (a := ⟨wd.heap.size, 0, none⟩) (by simp <;> omega) (by simp <;> omega)).trans (by go_simp); have yA0 : w3.frozen? ⟨wd.heap.size, 0, none⟩ = false := (hk3.frozen (a := ⟨wd.heap.size, 0, none⟩) (by simp <;> omega) (by simp <;> omega)).trans (by go_simp); have zA1 : w3.cell? ⟨wd.heap.size, 1, none⟩ = some (.int .u32 0) := (hk3.cell (a := ⟨wd.heap.size, 1, none⟩) (by simp <;> omega) (by simp <;> omega)).trans (by go_simp); have yA1 : w3.frozen? ⟨wd.heap.size, 1, none⟩ = false := (hk3.frozen (a := ⟨wd.heap.size, 1, none⟩) (by simp <;> omega) (by simp <;> omega)).trans (by go_simp); have zA2 : w3.cell? ⟨wd.heap.size, 2, none⟩ = some (.int .u8 0) := (hk3.cell (a := ⟨wd.heap.size, 2, none⟩) (by simp <;> omega) (by simp <;> omega)).trans (by go_simp); have yA2 : w3.frozen? ⟨wd.heap.size, 2, none⟩ = false := (hk3.frozen (a := ⟨wd.heap.size, 2, none⟩) (by simp <;> omega) (by simp <;> omega)).trans (by go_simp); have zA3 : w3.cell? ⟨wd.heap.size, 3, none⟩ = some (.string ⟨#[]⟩) := (hk3.cell (a := ⟨wd.heap.size, 3, none⟩) (by simp <;> omega) (by simp <;> omega)).trans (by go_simp); have yA3 : w3.frozen? ⟨wd.heap.size, 3, none⟩ = false := (hk3.frozen (a := ⟨wd.heap.size, 3, none⟩) (by simp <;> omega) (by simp <;> omega)).trans (by go_simp); have lA : wd.heap.size < w3.heap.size := Nat.lt_of_lt_of_le (by simp <;> omega) hk3.size; clear hk3)
                              | (go_at_call 14; with_reducible refine (HC19.out ((wd.alloc (.cells #[.int .u32 0, .int .u8 0] 38)).drew) (((Bel.refl (Nat.le_refl _)).alloc _).drew)).mono ?_; rintro e w3 ⟨rfl, hM3, hk3⟩; have HM3 := Lib.hid hM3; have hS3 := HSG19.out _ _ (HSK19.out _ (((Bel.refl (Nat.le_refl _)).alloc _).drew)) hk3; have HS3 := Lib.hid hS3; have hl3 := Nat.le_trans (((Bel.refl (Nat.le_refl _)).alloc _).drew).b.size hk3.size; clear hM3; have zP0 : w3.cell? ⟨wd.heap.size, 0, none⟩ = some (.int .u32 0) := (hk3.cell (a := ⟨wd.heap.size, 0, none⟩) (by simp <;> omega) (by simp <;> omega)).trans (by go_simp); have yP0 : w3.frozen? ⟨wd.heap.size, 0, none⟩ = false := (hk3.frozen (a := ⟨wd.heap.size, 0, none⟩) (by simp <;> omega) (by simp <;> omega)).trans (by go_simp); have zP1 : w3.cell? ⟨wd.heap.size, 1, none⟩ = some (.int .u8 0) := (hk3.cell (a := ⟨wd.heap.size, 1, none⟩) (by simp <;> omega) (by simp <;> omega)).trans (by go_simp); have yP1 : w3.frozen? ⟨wd.heap.size, 1, none⟩ = false := (hk3.frozen (a := ⟨wd.heap.size, 1, none⟩) (by simp <;> omega) (by simp <;> omega)).trans (by go_simp); have lP : wd.heap.size < w3.heap.size := Nat.lt_of_lt_of_le (by simp <;> omega) hk3.size; clear hk3)
                              | (go_at_call 14; with_reducible refine (HC19.out (((wd.alloc (.cells #[.bool false, .int .u32 0, .int .u8 0, .string ⟨#[]⟩] 45)).alloc (.cells #[.int .u32 0, .int .u8 0] 38)).drew) ((((Bel.refl (Nat.le_refl _)).alloc _).alloc _).drew)).mono ?_; rintro e w3 ⟨rfl, hM3, hk3⟩; have HM3 := Lib.hid hM3; have hS3 := HSG19.out _ _ (HSK19.out _ ((((Bel.refl (Nat.le_refl _)).alloc _).alloc _).drew)) hk3; have HS3 := Lib.hid hS3; have hl3 := Nat.le_trans ((((Bel.refl (Nat.le_refl _)).alloc _).alloc _).drew).b.size hk3.size; clear hM3; have zA0 : w3.cell? ⟨wd.heap.size, 0, none⟩ = some (.bool false) := (hk3.cell (a := ⟨wd.heap.size, 0, none⟩) (by simp <;> omega) (by simp <;> omega)).trans (by go_simp); have yA0 : w3.frozen? ⟨wd.heap.size, 0, none⟩ = false := (hk3.frozen (a := ⟨wd.heap.size, 0, none⟩) (by simp <;> omega) (by simp <;> omega)).trans (by go_simp); have zA1 : w3.cell? ⟨wd.heap.size, 1, none⟩ = some (.int .u32 0) := (hk3.cell (a := ⟨wd.heap.size, 1, none⟩) (by simp <;> omega) (by simp <;> omega)).trans (by go_simp); have yA1 : w3.frozen? ⟨wd.heap.size, 1, none⟩ = false := (hk3.frozen (a := ⟨wd.heap.size, 1, none⟩) (by simp <;> omega) (by simp <;> omega)).trans (by go_simp); have zA2 : w3.cell? ⟨wd.heap.size, 2, none⟩ = some (.int .u8 0) := (hk3.cell (a := ⟨wd.heap.size, 2, none⟩) (by simp <;> omega) (by simp <;> omega)).trans (by go_simp); have yA2 : w3.frozen? ⟨wd.heap.size, 2, none⟩ = false := (hk3.frozen (a := ⟨wd.heap.size, 2, none⟩) (by simp <;> omega) (by simp <;> omega)).trans (by go_simp); have zA3 : w3.cell? ⟨wd.heap.size, 3, none⟩ = some (.string ⟨#[]⟩) := (hk3.cell (a := ⟨wd.heap.size, 3, none⟩) (by simp <;> omega) (by simp <;> omega)).trans (by go_simp); have yA3 : w3.frozen? ⟨wd.heap.size, 3, none⟩ = false := (hk3.frozen (a := ⟨wd.heap.size, 3, none⟩) (by simp <;> omega) (by simp <;> omega)).trans (by go_simp); have lA : wd.heap.size < w3.heap.size := Nat.lt_of_lt_of_le (by simp <;> omega) hk3.size; have zP0 : w3.cell? ⟨wd.heap.size + 1, 0, none⟩ = some (.int .u32 0) := (hk3.cell (a := ⟨wd.heap.size + 1, 0, none⟩) (by simp <;> omega) (by simp <;> omega)).trans (by go_simp); have yP0 : w3.frozen? ⟨wd.heap.size + 1, 0, none⟩ = false := (hk3.frozen (a := ⟨wd.heap.size + 1, 0, none⟩) (by simp <;> omega) (by simp <;> omega)).trans (by go_simp); have zP1 : w3.cell? ⟨wd.heap.size + 1, 1, none⟩ = some (.int .u8 0) := (hk3.cell (a := ⟨wd.heap.size + 1, 1, none⟩) (by simp <;> omega) (by simp <;> omega)).trans (by go_simp); have yP1 : w3.frozen? ⟨wd.heap.size + 1, 1, none⟩ = false := (hk3.frozen (a := ⟨wd.heap.size + 1, 1, none⟩) (by simp <;> omega) (by simp <;> omega)).trans (by go_simp); have lP : wd.heap.size + 1 < w3.heap.size := Nat.lt_of_lt_of_le (by simp <;> omega) hk3.size; clear hk3)
                              | (go_at_call 14; with_reducible refine (HC19.out (((wd.alloc (.cells #[.int .u32 0, .int .u8 0] 38)).alloc (.cells #[.bool false, .int .u32 0, .int .u8 0, .string ⟨#[]⟩] 45)).drew) ((((Bel.refl (Nat.le_refl _)).alloc _).alloc _).drew)).mono ?_; rintro e w3 ⟨rfl, hM3, hk3⟩; have HM3 := Lib.hid hM3; have hS3 := HSG19.out _ _ (HSK19.out _ ((((Bel.refl (Nat.le_refl _)).alloc _).alloc _).drew)) hk3; have HS3 := Lib.hid hS3; have hl3 := Nat.le_trans ((((Bel.refl (Nat.le_refl _)).alloc _).alloc _).drew).b.size hk3.size; clear hM3; have zP0 : w3.cell? ⟨wd.heap.size, 0, none⟩ = some (.int .u32 0) := (hk3.cell (a := ⟨wd.heap.size, 0, none⟩) (by simp <;> omega) (by simp <;> omega)).trans (by go_simp); have yP0 : w3.frozen? ⟨wd.heap.size, 0, none⟩ = false := (hk3.frozen (a := ⟨wd.heap.size, 0, none⟩) (by simp <;> omega) (by simp <;> omega)).trans (by go_simp); have zP1 : w3.cell? ⟨wd.heap.size, 1, none⟩ = some (.int .u8 0) := (hk3.cell (a := ⟨wd.heap.size, 1, none⟩) (by simp <;> omega) (by simp <;> omega)).trans (by go_simp); have yP1 : w3.frozen? ⟨wd.heap.size, 1, none⟩ = false := (hk3.frozen (a := ⟨wd.heap.size, 1, none⟩) (by simp <;> omega) (by simp <;> omega)).trans (by go_simp); have lP : wd.heap.size < w3.heap.size := Nat.lt_of_lt_of_le (by simp <;> omega) hk3.size; have zA0 : w3.cell? ⟨wd.heap.size + 1, 0, none⟩ = some (.bool false) := (hk3.cell (a := ⟨wd.heap.size + 1, 0, none⟩) (by simp <;> omega) (by simp <;> omega)).trans (by go_simp); have yA0 : w3.frozen? ⟨wd.heap.size + 1, 0, none⟩ = false := (hk3.frozen (a := ⟨wd.heap.size + 1, 0, none⟩) (by simp <;> omega) (by simp <;> omega)).trans (by go_simp); have zA1 : w3.cell? ⟨wd.heap.size + 1, 1, none⟩ = some (.int .u32 0) := (hk3.cell (a := ⟨wd.heap.size + 1, 1, none⟩) (by simp <;> omega) (by simp <;> omega)).trans (by go_simp); have yA1 : w3.frozen? ⟨wd.heap.size + 1, 1, none⟩ = false := (hk3.frozen (a := ⟨wd.heap.size + 1, 1, none⟩) (by simp <;> omega) (by simp <;> omega)).trans (by go_simp); have zA2 : w3.cell? ⟨wd.heap.size + 1, 2, none⟩ = some (.int .u8 0) := (hk3.cell (a := ⟨wd.heap.size + 1, 2, none⟩) (by simp <;> omega) (by simp <;> omega)).trans (by go_simp); have yA2 : w3.frozen? ⟨wd.heap.size + 1, 2, none⟩ = false := (hk3.frozen (a := ⟨wd.heap.size + 1, 2, none⟩) (by simp <;> omega) (by simp <;> omega)).trans (by go_simp); have zA3 : w3.cell? ⟨wd.heap.size + 1, 3, none⟩ = some (.string ⟨#[]⟩) := (hk3.cell (a := ⟨wd.heap.size + 1, 3, none⟩) (by simp <;> omega) (by simp <;> omega)).trans (by go_simp); have yA3 : w3.frozen? ⟨wd.heap.size + 1, 3, none⟩ = false := (hk3.frozen (a := ⟨wd.heap.size + 1, 3, none⟩) (by simp <;> omega) (by simp <;> omega)).trans (by go_simp); have lA : wd.heap.size + 1 < w3.heap.size := Nat.lt_of_lt_of_le (by simp <;> omega) hk3.size; clear hk3))
                          all_goals go_wp2_with fail
                          all_goals go_meet
                          all_goals
                            refine ⟨_, _, rfl, rfl, rfl, rfl, ⟨by go_simp, by go_simp, by go_simp, by go_simp, by first | omega | (simp <;> omega)⟩, ⟨by go_simp, by go_simp, by first | omega | (simp <;> omega)⟩, by first | omega | (simp <;> omega), by first | omega | (simp <;> omega), LOW19.out _ _ HM3.out (show Bel wd.heap.size w3 _ from (by ((repeat (first | with_reducible exact Bel.refl (hl3) | with_reducible refine Bel.alloc ?_ _ | with_reducible refine Bel.drew ?_ | with_reducible refine Bel.set ?_ _ _ (by simp <;> omega))); done)))⟩
                      case rest =>
                        obtain ⟨bC, bQ, rfl, rfl, rfl, rfl, hCC, hCQ, _, _, hM5, hCA, hCP⟩ := hcut
                        clear hno HSK19 HSG19 HSL19 hSw HC19 LOW19
                        obtain ⟨x0, x1, x2, x3, _⟩ := hCA
                        obtain ⟨y0, y1, _⟩ := hCP
                        obtain ⟨u0', u1', u2', u3', _⟩ := hCC
                        obtain ⟨v0, v1, _⟩ := hCQ
                        have HM5 := Lib.hid hM5
                        clear hM5
                        go_wp2_with fail
                        go_roundw
                        case rel => exact ⟨k2 + 1, n3, f3, n3, g3, by go_num, by omega, by omega, HM5.out, HE3.out, rfl⟩
                        case measure => simp [intOf]; omega
                · as_aux_lemma =>
                    go_upto_region 22 with (fail)
                    have hbl : bo < wr.heap.size := Row4.lt HM0.out.ro
                    simp only at d0 d1 d2 d3
                    have HLO := Lib.hid (And.intro HM0.out.lo (And.intro HM0.out.h3 hbl))
                    have HGA := Lib.hid (show W.heap.size ≤ gA ∧ W.heap.size ≤ gB from ⟨HM0.out.ta.gbase, HM0.out.tb.gbase⟩)
                    have hno : bo ∉ [gA] ∧ ga ∉ [gA] := by have h1 := HLO.out.1; have h2 := HGA.out; simp; omega
                    obtain ⟨R, hR⟩ : ∃ R, acR (stt (f2 i9) n2 1) q.b = R := ⟨_, rfl⟩
                    obtain ⟨f3, hf3⟩ : ∃ f3, put f2 i9 (acO (stt (f2 i9) n2 1) q.b q.v) = f3 := ⟨_, rfl⟩
                    obtain ⟨n3, hn3⟩ : ∃ n3, putN f2 n2 i9 (acO (stt (f2 i9) n2 1) q.b q.v) = n3 := ⟨_, rfl⟩
                    obtain ⟨g3, hg3⟩ : ∃ g3, put g2 i9 (acO (stt (f2 i9) n2 1) q.b q.v) = g3 := ⟨_, rfl⟩
                    have HE3 := Lib.hid (show f3 i9 = g3 i9 by rw [← hf3, ← hg3, put_one, put_one, HF.out])
                    have HC22 := Lib.hid (show ∀ w', Bel wr.heap.size wr w' → Calls Try.prog 15 #[.pointer (some ⟨hA, 0, none⟩), i9.ag, q.b.ag, .string q.v] w' fun e w3 => e = .returned (.tuple #[R.p.ag, .bool R.ok, .int .i64 R.e]) ∧ FM W w3 hA gA hB gB bo n3 f3 n2 g2 ∧ Keep [gA] w' w3 from fun w' hb => by
                      have hm := HM0.out.below hb.b
                      have := accept_any i9 i9ok q.b q.v hq.v w' hm.ta
                      rw [hR, hf3, hn3] at this
                      exact this.mono fun e w3 ⟨h1, h2, h3⟩ => ⟨h1, hm.turnA h2 h3, h3⟩)
                    have HC23 := Lib.hid (show ∀ w', FM W w' hA gA hB gB bo n3 f3 n2 g2 → Calls Try.prog 15 #[.pointer (some ⟨hB, 0, none⟩), i9.ag, q.b.ag, .string q.v] w' fun e w3 => e = .returned (.tuple #[R.p.ag, .bool R.ok, .int .i64 R.e]) ∧ FM W w3 hA gA hB gB bo n3 f3 n3 g3 ∧ Keep [gB] w' w3 from fun w' hm => by
                      have := accept_any i9 i9ok q.b q.v hq.v w' hm.tb
                      have hpn : putN g2 n2 i9 (acO (stt (f2 i9) n2 1) q.b q.v) = n3 := by rw [← hn3]; unfold putN; split <;> simp only [HF.out]
                      rw [← HF.out, hR, hg3, hpn] at this
                      exact this.mono fun e w3 ⟨h1, h2, h3⟩ => ⟨h1, hm.turnB h2 h3, h3⟩)
                    have LOW22 := Lib.hid (fun (w3 w' : World) (h : FM W w3 hA gA hB gB bo n3 f3 n2 g2) (b : Bel wr.heap.size w3 w') => h.low hbl b.b)
                    clear hR hf3 hn3 hg3 a1 a2 a3 a4 a5
                    go_upto_region 22 with (fail)
                    have HSK22 := Lib.hid (show ∀ w', Bel wr.heap.size wr w' → (w'.cell? ⟨bo, 0, none⟩ = some (.int .u64 3) ∧ w'.cell? ⟨bo, 1, none⟩ = some (.int .i64 9) ∧ w'.cell? ⟨bo, 2, none⟩ = some (.int .i64 0) ∧ w'.cell? ⟨bo, 3, none⟩ = some (.int .u32 0) ∧ w'.cell? ⟨ga, o + k2 * 8 + 5, none⟩ = some (.int .u32 q.b.round) ∧ w'.cell? ⟨ga, o + k2 * 8 + 6, none⟩ = some (.int .u8 q.b.node) ∧ w'.cell? ⟨ga, o + k2 * 8 + 7, none⟩ = some (.string q.v) ∧ bo < w'.heap.size ∧ ga < w'.heap.size) from fun w' h => ⟨(h.b.cell hbl).trans d0, (h.b.cell hbl).trans d1, (h.b.cell hbl).trans d2, (h.b.cell hbl).trans d3, (h.b.cell hgl).trans a6, (h.b.cell hgl).trans a7, (h.b.cell hgl).trans a8, Nat.lt_of_lt_of_le hbl h.b.size, Nat.lt_of_lt_of_le hgl h.b.size⟩)
                    have HSG22 := Lib.hid (show ∀ w' w3, (w'.cell? ⟨bo, 0, none⟩ = some (.int .u64 3) ∧ w'.cell? ⟨bo, 1, none⟩ = some (.int .i64 9) ∧ w'.cell? ⟨bo, 2, none⟩ = some (.int .i64 0) ∧ w'.cell? ⟨bo, 3, none⟩ = some (.int .u32 0) ∧ w'.cell? ⟨ga, o + k2 * 8 + 5, none⟩ = some (.int .u32 q.b.round) ∧ w'.cell? ⟨ga, o + k2 * 8 + 6, none⟩ = some (.int .u8 q.b.node) ∧ w'.cell? ⟨ga, o + k2 * 8 + 7, none⟩ = some (.string q.v) ∧ bo < w'.heap.size ∧ ga < w'.heap.size) → Keep [gA] w' w3 → (w3.cell? ⟨bo, 0, none⟩ = some (.int .u64 3) ∧ w3.cell? ⟨bo, 1, none⟩ = some (.int .i64 9) ∧ w3.cell? ⟨bo, 2, none⟩ = some (.int .i64 0) ∧ w3.cell? ⟨bo, 3, none⟩ = some (.int .u32 0) ∧ w3.cell? ⟨ga, o + k2 * 8 + 5, none⟩ = some (.int .u32 q.b.round) ∧ w3.cell? ⟨ga, o + k2 * 8 + 6, none⟩ = some (.int .u8 q.b.node) ∧ w3.cell? ⟨ga, o + k2 * 8 + 7, none⟩ = some (.string q.v) ∧ bo < w3.heap.size ∧ ga < w3.heap.size) from fun w' w3 h k => by
                      obtain ⟨h0, h1, h2, h3, h4, h5, h8, h6, h7⟩ := h
                      exact ⟨(k.cell h6 hno.1).trans h0, (k.cell h6 hno.1).trans h1, (k.cell h6 hno.1).trans h2, (k.cell h6 hno.1).trans h3, (k.cell h7 hno.2).trans h4, (k.cell h7 hno.2).trans h5, (k.cell h7 hno.2).trans h8, Nat.lt_of_lt_of_le h6 k.size, Nat.lt_of_lt_of_le h7 k.size⟩)
                    have HSL22 := Lib.hid (show ∀ w3 w', (w3.cell? ⟨bo, 0, none⟩ = some (.int .u64 3) ∧ w3.cell? ⟨bo, 1, none⟩ = some (.int .i64 9) ∧ w3.cell? ⟨bo, 2, none⟩ = some (.int .i64 0) ∧ w3.cell? ⟨bo, 3, none⟩ = some (.int .u32 0) ∧ w3.cell? ⟨ga, o + k2 * 8 + 5, none⟩ = some (.int .u32 q.b.round) ∧ w3.cell? ⟨ga, o + k2 * 8 + 6, none⟩ = some (.int .u8 q.b.node) ∧ w3.cell? ⟨ga, o + k2 * 8 + 7, none⟩ = some (.string q.v) ∧ bo < w3.heap.size ∧ ga < w3.heap.size) → Bel wr.heap.size w3 w' → (w'.cell? ⟨bo, 0, none⟩ = some (.int .u64 3) ∧ w'.cell? ⟨bo, 1, none⟩ = some (.int .i64 9) ∧ w'.cell? ⟨bo, 2, none⟩ = some (.int .i64 0) ∧ w'.cell? ⟨bo, 3, none⟩ = some (.int .u32 0) ∧ w'.cell? ⟨ga, o + k2 * 8 + 5, none⟩ = some (.int .u32 q.b.round) ∧ w'.cell? ⟨ga, o + k2 * 8 + 6, none⟩ = some (.int .u8 q.b.node) ∧ w'.cell? ⟨ga, o + k2 * 8 + 7, none⟩ = some (.string q.v) ∧ bo < w'.heap.size ∧ ga < w'.heap.size) from fun w3 w' h hb => by
                      obtain ⟨h0, h1, h2, h3, h4, h5, h8, h6, h7⟩ := h
                      have e : ∀ x : Addr, x.block < wr.heap.size → w'.cell? x = w3.cell? x := fun x hx => World.cell?_of_block (w := w3) (hb.b.block x.block hx)
                      exact ⟨(e _ hbl).trans h0, (e _ hbl).trans h1, (e _ hbl).trans h2, (e _ hbl).trans h3, (e _ hgl).trans h4, (e _ hgl).trans h5, (e _ hgl).trans h8, Nat.lt_of_lt_of_le h6 hb.b.size, Nat.lt_of_lt_of_le h7 hb.b.size⟩)
                    have hSw := HSK22.out _ (Bel.refl (Nat.le_refl _))
                    clear d0 d1 d2 d3 a6 a7 a8
                    go_cut [21, 22, 23] from 99 to 175 (fun s21 s22 s23 wx => ∃ bY, s21 = .pointer (some ⟨bY, 0, none⟩) ∧ s22 = .bool R.ok ∧ s23 = .int .i64 R.e ∧ CP wx bY R.p ∧ wr.heap.size ≤ bY ∧ FM W wx hA gA hB gB bo n3 f3 n2 g2)
                    case first =>
                      as_aux_lemma =>
                        have hsz := HLO.out
                        go_region_held3 (fun w' => w'.cell? ⟨bo, 0, none⟩ = some (.int .u64 3) ∧ w'.cell? ⟨bo, 1, none⟩ = some (.int .i64 9) ∧ w'.cell? ⟨bo, 2, none⟩ = some (.int .i64 0) ∧ w'.cell? ⟨bo, 3, none⟩ = some (.int .u32 0) ∧ w'.cell? ⟨ga, o + k2 * 8 + 5, none⟩ = some (.int .u32 q.b.round) ∧ w'.cell? ⟨ga, o + k2 * 8 + 6, none⟩ = some (.int .u8 q.b.node) ∧ w'.cell? ⟨ga, o + k2 * 8 + 7, none⟩ = some (.string q.v) ∧ bo < w'.heap.size ∧ ga < w'.heap.size)
                          (first | with_reducible assumption | (refine HSK22.out _ ?_; ((repeat (first | with_reducible exact Bel.refl (Nat.le_refl _) | with_reducible refine Bel.alloc ?_ _ | with_reducible refine Bel.drew ?_ | with_reducible refine Bel.set ?_ _ _ (by simp <;> omega))); done)) | (refine HSL22.out _ _ HS3.out ?_; ((repeat (first | with_reducible exact Bel.refl (hl3) | with_reducible refine Bel.alloc ?_ _ | with_reducible refine Bel.drew ?_ | with_reducible refine Bel.set ?_ _ _ (by simp <;> omega))); done)))
                          (first
                            | (go_at_call 15; with_reducible refine (HC22.out (wr.drew) ((Bel.refl (Nat.le_refl _)).drew)).mono ?_; rintro e w3 ⟨rfl, hM3, hk3⟩; have HM3 := Lib.hid hM3; have hS3 := HSG22.out _ _ (HSK22.out _ ((Bel.refl (Nat.le_refl _)).drew)) hk3; have HS3 := Lib.hid hS3; have hl3 := Nat.le_trans ((Bel.refl (Nat.le_refl _)).drew).b.size hk3.size; clear hM3; clear hk3)
                            | (go_at_call 15; with_reducible refine (HC22.out ((wr.alloc (.cells #[.int .u32 0, .int .u8 0] 38)).drew) (((Bel.refl (Nat.le_refl _)).alloc _).drew)).mono ?_; rintro e w3 ⟨rfl, hM3, hk3⟩; have HM3 := Lib.hid hM3; have hS3 := HSG22.out _ _ (HSK22.out _ (((Bel.refl (Nat.le_refl _)).alloc _).drew)) hk3; have HS3 := Lib.hid hS3; have hl3 := Nat.le_trans (((Bel.refl (Nat.le_refl _)).alloc _).drew).b.size hk3.size; clear hM3; have zP0 : w3.cell? ⟨wr.heap.size, 0, none⟩ = some (.int .u32 0) := (hk3.cell (a := ⟨wr.heap.size, 0, none⟩) (by simp <;> omega) (by simp <;> omega)).trans (by go_simp); have yP0 : w3.frozen? ⟨wr.heap.size, 0, none⟩ = false := (hk3.frozen (a := ⟨wr.heap.size, 0, none⟩) (by simp <;> omega) (by simp <;> omega)).trans (by go_simp); have zP1 : w3.cell? ⟨wr.heap.size, 1, none⟩ = some (.int .u8 0) := (hk3.cell (a := ⟨wr.heap.size, 1, none⟩) (by simp <;> omega) (by simp <;> omega)).trans (by go_simp); have yP1 : w3.frozen? ⟨wr.heap.size, 1, none⟩ = false := (hk3.frozen (a := ⟨wr.heap.size, 1, none⟩) (by simp <;> omega) (by simp <;> omega)).trans (by go_simp); have lP : wr.heap.size < w3.heap.size := Nat.lt_of_lt_of_le (by simp <;> omega) hk3.size; clear hk3))
                        all_goals go_wp2_with fail
                        all_goals go_meet
                        all_goals
                          refine ⟨_, rfl, rfl, rfl, ⟨by go_simp, by go_simp, by first | omega | (simp <;> omega)⟩, by first | omega | (simp <;> omega), LOW22.out _ _ HM3.out (show Bel wr.heap.size w3 _ from (by ((repeat (first | with_reducible exact Bel.refl (hl3) | with_reducible refine Bel.alloc ?_ _ | with_reducible refine Bel.drew ?_ | with_reducible refine Bel.set ?_ _ _ (by simp <;> omega))); done)))⟩
                    case rest =>
                      obtain ⟨bP, rfl, rfl, rfl, hCP, hbP, hM4⟩ := hcut
                      clear hno HSK22 HSG22 HSL22 hSw HC22 LOW22
                      generalize wc = wd at *
                      have HM4 := Lib.hid hM4; have HCP4 := Lib.hid hCP
                      have HBB := Lib.hid (show bP ∉ [gB] by have h1 := hM4.lo; have h2 := HLO.out; simp; omega)
                      obtain ⟨d0, d1, d2, d3⟩ := Row4.all hM4.ro
                      obtain ⟨_, _, _, _, _, a6, a7, a8⟩ := OpAt.below hat hg hM4.bel
                      have hgl : ga < wd.heap.size := Nat.lt_of_lt_of_le hg hM4.bel.size
                      have hbl : bo < wd.heap.size := Row4.lt hM4.ro
                      simp only at d0 d1 d2 d3
                      have hno : bo ∉ [gB] ∧ ga ∉ [gB] := by have h1 := HLO.out.1; have h2 := HGA.out; simp; omega
                      have HLO2 := HLO
                      clear HLO
                      have HLO := Lib.hid (And.intro HLO2.out.1 (And.intro HLO2.out.2.1 hbl))
                      have hC23 := HC23.out
                      clear HC23
                      have HC23 := Lib.hid (show ∀ w', Bel wd.heap.size wd w' → Calls Try.prog 15 #[.pointer (some ⟨hB, 0, none⟩), i9.ag, q.b.ag, .string q.v] w' fun e w3 => e = .returned (.tuple #[R.p.ag, .bool R.ok, .int .i64 R.e]) ∧ (FM W w3 hA gA hB gB bo n3 f3 n3 g3 ∧ CP w3 bP R.p) ∧ Keep [gB] w' w3 from fun w' hb =>
                        (hC23 w' (HM4.out.below hb.b)).mono fun e w3 ⟨h1, h2, h3⟩ => ⟨h1, ⟨h2, (HCP4.out.keep (Keep.of_below hb.b []) (by simp)).keep h3 HBB.out⟩, h3⟩)
                      have LOW23 := Lib.hid (show ∀ (w3 w' : World), (FM W w3 hA gA hB gB bo n3 f3 n3 g3 ∧ CP w3 bP R.p) → Bel wd.heap.size w3 w' → (FM W w' hA gA hB gB bo n3 f3 n3 g3 ∧ CP w' bP R.p) from fun w3 w' h b =>
                        ⟨h.1.low hbl b.b, h.2.keep b.keep (not_from HCP4.out.2.2)⟩)
                      clear hC23 hCP hM4 hbP
                      go_upto_region 23 with (fail)
                      have HSK23 := Lib.hid (show ∀ w', Bel wd.heap.size wd w' → (w'.cell? ⟨bo, 0, none⟩ = some (.int .u64 3) ∧ w'.cell? ⟨bo, 1, none⟩ = some (.int .i64 9) ∧ w'.cell? ⟨bo, 2, none⟩ = some (.int .i64 0) ∧ w'.cell? ⟨bo, 3, none⟩ = some (.int .u32 0) ∧ w'.cell? ⟨ga, o + k2 * 8 + 5, none⟩ = some (.int .u32 q.b.round) ∧ w'.cell? ⟨ga, o + k2 * 8 + 6, none⟩ = some (.int .u8 q.b.node) ∧ w'.cell? ⟨ga, o + k2 * 8 + 7, none⟩ = some (.string q.v) ∧ bo < w'.heap.size ∧ ga < w'.heap.size) from fun w' h => ⟨(h.b.cell hbl).trans d0, (h.b.cell hbl).trans d1, (h.b.cell hbl).trans d2, (h.b.cell hbl).trans d3, (h.b.cell hgl).trans a6, (h.b.cell hgl).trans a7, (h.b.cell hgl).trans a8, Nat.lt_of_lt_of_le hbl h.b.size, Nat.lt_of_lt_of_le hgl h.b.size⟩)
                      have HSG23 := Lib.hid (show ∀ w' w3, (w'.cell? ⟨bo, 0, none⟩ = some (.int .u64 3) ∧ w'.cell? ⟨bo, 1, none⟩ = some (.int .i64 9) ∧ w'.cell? ⟨bo, 2, none⟩ = some (.int .i64 0) ∧ w'.cell? ⟨bo, 3, none⟩ = some (.int .u32 0) ∧ w'.cell? ⟨ga, o + k2 * 8 + 5, none⟩ = some (.int .u32 q.b.round) ∧ w'.cell? ⟨ga, o + k2 * 8 + 6, none⟩ = some (.int .u8 q.b.node) ∧ w'.cell? ⟨ga, o + k2 * 8 + 7, none⟩ = some (.string q.v) ∧ bo < w'.heap.size ∧ ga < w'.heap.size) → Keep [gB] w' w3 → (w3.cell? ⟨bo, 0, none⟩ = some (.int .u64 3) ∧ w3.cell? ⟨bo, 1, none⟩ = some (.int .i64 9) ∧ w3.cell? ⟨bo, 2, none⟩ = some (.int .i64 0) ∧ w3.cell? ⟨bo, 3, none⟩ = some (.int .u32 0) ∧ w3.cell? ⟨ga, o + k2 * 8 + 5, none⟩ = some (.int .u32 q.b.round) ∧ w3.cell? ⟨ga, o + k2 * 8 + 6, none⟩ = some (.int .u8 q.b.node) ∧ w3.cell? ⟨ga, o + k2 * 8 + 7, none⟩ = some (.string q.v) ∧ bo < w3.heap.size ∧ ga < w3.heap.size) from fun w' w3 h k => by
                        obtain ⟨h0, h1, h2, h3, h4, h5, h8, h6, h7⟩ := h
                        exact ⟨(k.cell h6 hno.1).trans h0, (k.cell h6 hno.1).trans h1, (k.cell h6 hno.1).trans h2, (k.cell h6 hno.1).trans h3, (k.cell h7 hno.2).trans h4, (k.cell h7 hno.2).trans h5, (k.cell h7 hno.2).trans h8, Nat.lt_of_lt_of_le h6 k.size, Nat.lt_of_lt_of_le h7 k.size⟩)
                      have HSL23 := Lib.hid (show ∀ w3 w', (w3.cell? ⟨bo, 0, none⟩ = some (.int .u64 3) ∧ w3.cell? ⟨bo, 1, none⟩ = some (.int .i64 9) ∧ w3.cell? ⟨bo, 2, none⟩ = some (.int .i64 0) ∧ w3.cell? ⟨bo, 3, none⟩ = some (.int .u32 0) ∧ w3.cell? ⟨ga, o + k2 * 8 + 5, none⟩ = some (.int .u32 q.b.round) ∧ w3.cell? ⟨ga, o + k2 * 8 + 6, none⟩ = some (.int .u8 q.b.node) ∧ w3.cell? ⟨ga, o + k2 * 8 + 7, none⟩ = some (.string q.v) ∧ bo < w3.heap.size ∧ ga < w3.heap.size) → Bel wd.heap.size w3 w' → (w'.cell? ⟨bo, 0, none⟩ = some (.int .u64 3) ∧ w'.cell? ⟨bo, 1, none⟩ = some (.int .i64 9) ∧ w'.cell? ⟨bo, 2, none⟩ = some (.int .i64 0) ∧ w'.cell? ⟨bo, 3, none⟩ = some (.int .u32 0) ∧ w'.cell? ⟨ga, o + k2 * 8 + 5, none⟩ = some (.int .u32 q.b.round) ∧ w'.cell? ⟨ga, o + k2 * 8 + 6, none⟩ = some (.int .u8 q.b.node) ∧ w'.cell? ⟨ga, o + k2 * 8 + 7, none⟩ = some (.string q.v) ∧ bo < w'.heap.size ∧ ga < w'.heap.size) from fun w3 w' h hb => by
                        obtain ⟨h0, h1, h2, h3, h4, h5, h8, h6, h7⟩ := h
                        have e : ∀ x : Addr, x.block < wd.heap.size → w'.cell? x = w3.cell? x := fun x hx => World.cell?_of_block (w := w3) (hb.b.block x.block hx)
                        exact ⟨(e _ hbl).trans h0, (e _ hbl).trans h1, (e _ hbl).trans h2, (e _ hbl).trans h3, (e _ hgl).trans h4, (e _ hgl).trans h5, (e _ hgl).trans h8, Nat.lt_of_lt_of_le h6 hb.b.size, Nat.lt_of_lt_of_le h7 hb.b.size⟩)
                      have hSw := HSK23.out _ (Bel.refl (Nat.le_refl _))
                      clear d0 d1 d2 d3 a6 a7 a8
                      go_cut [24, 25, 26] from 176 to 192 (fun s24 s25 s26 wx => ∃ bY, s24 = .pointer (some ⟨bY, 0, none⟩) ∧ s25 = .bool R.ok ∧ s26 = .int .i64 R.e ∧ CP wx bY R.p ∧ wd.heap.size ≤ bY ∧ FM W wx hA gA hB gB bo n3 f3 n3 g3 ∧ CP wx bP R.p)
                      case first =>
                        as_aux_lemma =>
                          have hsz := HLO.out
                          go_region_held3 (fun w' => w'.cell? ⟨bo, 0, none⟩ = some (.int .u64 3) ∧ w'.cell? ⟨bo, 1, none⟩ = some (.int .i64 9) ∧ w'.cell? ⟨bo, 2, none⟩ = some (.int .i64 0) ∧ w'.cell? ⟨bo, 3, none⟩ = some (.int .u32 0) ∧ w'.cell? ⟨ga, o + k2 * 8 + 5, none⟩ = some (.int .u32 q.b.round) ∧ w'.cell? ⟨ga, o + k2 * 8 + 6, none⟩ = some (.int .u8 q.b.node) ∧ w'.cell? ⟨ga, o + k2 * 8 + 7, none⟩ = some (.string q.v) ∧ bo < w'.heap.size ∧ ga < w'.heap.size)
                            (first | with_reducible assumption | (refine HSK23.out _ ?_; ((repeat (first | with_reducible exact Bel.refl (Nat.le_refl _) | with_reducible refine Bel.alloc ?_ _ | with_reducible refine Bel.drew ?_ | with_reducible refine Bel.set ?_ _ _ (by simp <;> omega))); done)) | (refine HSL23.out _ _ HS3.out ?_; ((repeat (first | with_reducible exact Bel.refl (hl3) | with_reducible refine Bel.alloc ?_ _ | with_reducible refine Bel.drew ?_ | with_reducible refine Bel.set ?_ _ _ (by simp <;> omega))); done)))
                            (first
                              | (go_at_call 15; with_reducible refine (HC23.out (wd.drew) ((Bel.refl (Nat.le_refl _)).drew)).mono ?_; rintro e w3 ⟨rfl, hM3, hk3⟩; have HM3 := Lib.hid hM3; have hS3 := HSG23.out _ _ (HSK23.out _ ((Bel.refl (Nat.le_refl _)).drew)) hk3; have HS3 := Lib.hid hS3; have hl3 := Nat.le_trans ((Bel.refl (Nat.le_refl _)).drew).b.size hk3.size; clear hM3; clear hk3)
                              | (go_at_call 15; with_reducible refine (HC23.out ((wd.alloc (.cells #[.int .u32 0, .int .u8 0] 38)).drew) (((Bel.refl (Nat.le_refl _)).alloc _).drew)).mono ?_; rintro e w3 ⟨rfl, hM3, hk3⟩; have HM3 := Lib.hid hM3; have hS3 := HSG23.out _ _ (HSK23.out _ (((Bel.refl (Nat.le_refl _)).alloc _).drew)) hk3; have HS3 := Lib.hid hS3; have hl3 := Nat.le_trans (((Bel.refl (Nat.le_refl _)).alloc _).drew).b.size hk3.size; clear hM3; have zP0 : w3.cell? ⟨wd.heap.size, 0, none⟩ = some (.int .u32 0) := (hk3.cell (a := ⟨wd.heap.size, 0, none⟩) (by simp <;> omega) (by simp <;> omega)).trans (by go_simp); have yP0 : w3.frozen? ⟨wd.heap.size, 0, none⟩ = false := (hk3.frozen (a := ⟨wd.heap.size, 0, none⟩) (by simp <;> omega) (by simp <;> omega)).trans (by go_simp); have zP1 : w3.cell? ⟨wd.heap.size, 1, none⟩ = some (.int .u8 0) := (hk3.cell (a := ⟨wd.heap.size, 1, none⟩) (by simp <;> omega) (by simp <;> omega)).trans (by go_simp); have yP1 : w3.frozen? ⟨wd.heap.size, 1, none⟩ = false := (hk3.frozen (a := ⟨wd.heap.size, 1, none⟩) (by simp <;> omega) (by simp <;> omega)).trans (by go_simp); have lP : wd.heap.size < w3.heap.size := Nat.lt_of_lt_of_le (by simp <;> omega) hk3.size; clear hk3))
                          all_goals go_wp2_with fail
                          all_goals go_meet
                          all_goals
                            refine ⟨_, rfl, rfl, rfl, ⟨by go_simp, by go_simp, by first | omega | (simp <;> omega)⟩, by first | omega | (simp <;> omega), LOW23.out _ _ HM3.out (show Bel wd.heap.size w3 _ from (by ((repeat (first | with_reducible exact Bel.refl (hl3) | with_reducible refine Bel.alloc ?_ _ | with_reducible refine Bel.drew ?_ | with_reducible refine Bel.set ?_ _ _ (by simp <;> omega))); done)))⟩
                      case rest =>
                        obtain ⟨bQ, rfl, rfl, rfl, hCQ, _, hM5, hCP⟩ := hcut
                        clear hno HSK23 HSG23 HSL23 hSw HC23 LOW23
                        obtain ⟨y0, y1, _⟩ := hCP
                        obtain ⟨v0, v1, _⟩ := hCQ
                        have HM5 := Lib.hid hM5
                        clear hM5
                        go_wp2_with fail
                        go_roundw
                        case rel => exact ⟨k2 + 1, n3, f3, n3, g3, by go_num, by omega, by omega, HM5.out, HE3.out, rfl⟩
                        case measure => simp [intOf]; omega
              | false =>
                have HM0 := Lib.hid hM
                clear hM hF
                go_wp2_with fail
                refine (count_any _ HM0.out.ta).mono ?_; rintro e w6 ⟨rfl, rfl⟩
                go_wp2_with fail
                refine (count_any _ HM0.out.tb).mono ?_; rintro e w7 ⟨rfl, rfl⟩
                go_wp2_with fail
                go_ret
                exact ⟨rfl, HM0.out.bel⟩
end Go.Proofs.Ytgknmicblnldiaa
