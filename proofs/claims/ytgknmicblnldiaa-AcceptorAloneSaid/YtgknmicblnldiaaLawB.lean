/- AcceptorAlone. -/
import Derived.Test.YtgknmicblnldiaaAny
namespace Go.Proofs.Ytgknmicblnldiaa
open Go.RowKit Go.Sort
set_option linter.unusedVariables false

abbrev own : In := ⟨1, 0, 0, 0⟩
theorem ownok : own.Ok := ⟨by decide, by decide, by decide, by decide⟩
/-- both tables, apart; the law's own instance -/
structure AM (W w : World) (hA gA hB gB bo n : Nat) (f : Fn) (m : Nat) (g : Fn) : Prop where
  ta : TabW w W.heap.size hA gA 4096 n f
  tb : TabW w W.heap.size hB gB 4096 m g
  ro : Row4 w bo own
  bel : Below W.heap.size W w
  lo : hA < bo ∧ gA < bo ∧ hB < bo ∧ gB < bo
  ne : hA ≠ gB ∧ gA ≠ gB ∧ hB ≠ gA
  h3 : W.heap.size ≤ bo
/-- alike at the law's own instance; few -/
def AV (f : Fn) (n : Nat) (g : Fn) (m k : Nat) : Prop := f own = g own ∧ n ≤ k ∧ m ≤ k
section
variable {W w w' : World} {hA gA hB gB bo n n' m m' k : Nat} {f f' g g' : Fn}
theorem TabW.down {w : World} {B B' hn gm most n : Nat} {f : Fn} (h : TabW w B hn gm most n f) (hb : B' ≤ B) : TabW w B' hn gm most n f := ⟨h.map, h.row, Nat.le_trans hb h.base, Nat.le_trans hb h.gbase, h.ne, h.m1, h.m2, h.few⟩
theorem AM.lt (h : AM W w hA gA hB gB bo n f m g) : hA < bo ∧ gA < bo ∧ hB < bo ∧ gB < bo := h.lo
theorem AM.below (h : AM W w hA gA hB gB bo n f m g) (b : Below w.heap.size w w') : AM W w' hA gA hB gB bo n f m g :=
  ⟨h.ta.below b, h.tb.below b, Row4.below h.ro b, h.bel.trans (b.mono (by have := h.h3; have := Row4.lt h.ro; omega)), h.lo, h.ne, h.h3⟩
theorem AM.turnA (h : AM W w hA gA hB gB bo n f m g) (t : TabW w' W.heap.size hA gA 4096 n' f') (k : Keep [gA] w w') : AM W w' hA gA hB gB bo n' f' m g :=
  have hl := h.lo
  have hn := h.ne
  ⟨t, h.tb.keep k (by simp; omega) (by simp; omega), row_keep h.ro k (by simp; omega), h.bel.trans (k.below (by have := h.h3; have := Row4.lt h.ro; omega) (by simpa using h.ta.gbase)), h.lo, h.ne, h.h3⟩
theorem AM.turnB (h : AM W w hA gA hB gB bo n f m g) (t : TabW w' W.heap.size hB gB 4096 m' g') (k : Keep [gB] w w') : AM W w' hA gA hB gB bo n f m' g' :=
  have hl := h.lo
  have hn := h.ne
  ⟨h.ta.keep k (by simp; omega) (by simp; omega), t, row_keep h.ro k (by simp; omega), h.bel.trans (k.below (by have := h.h3; have := Row4.lt h.ro; omega) (by simpa using h.tb.gbase)), h.lo, h.ne, h.h3⟩
theorem putN_le (f : Fn) (n : Nat) (i : In) (o : Option Rw) : putN f n i o ≤ n + 1 := by
  unfold putN
  split
  · omega
  · split <;> omega
theorem woN_le (f : Fn) (n : Nat) (i : In) : woN f n i ≤ n + 1 := by
  unfold woN
  split <;> omega
theorem put_other (f : Fn) {i : In} (o : Option Rw) (h : ¬ i = own) : put f i o own = f own := by
  cases o with
  | none => rfl
  | some v => exact upd_other _ _ (Ne.symm h)
theorem wo_other (f : Fn) {i : In} (h : ¬ i = own) : Ytgknmicblnldiaa.wo f i own = f own := by
  unfold Ytgknmicblnldiaa.wo
  cases hf : f i with
  | none => rfl
  | some _ => exact upd_other _ _ (Ne.symm h)
theorem put_own (f : Fn) (o : Option Rw) : put f own o own = match o with | none => f own | some v => some v := by
  cases o with
  | none => rfl
  | some v => exact upd_same _ _ _
theorem wo_own (f : Fn) : Ytgknmicblnldiaa.wo f own own = none := by
  unfold Ytgknmicblnldiaa.wo
  cases hf : f own with
  | none => exact hf
  | some _ => exact upd_same _ _ _
theorem stt_few {o : Option Rw} {n m : Nat} (hn : n < 4096) (hm : m < 4096) : stt o n 4096 = stt o m 4096 := by
  unfold stt
  cases o with
  | some r => rfl
  | none => simp only [hn, hm, if_true]
theorem AV.put (h : AV f n g m k) {i : In} (hi : ¬ i = own) (o : Option Rw) : AV (Ytgknmicblnldiaa.put f i o) (putN f n i o) g m (k + 1) :=
  ⟨(put_other f o hi).trans h.1, by have := putN_le f n i o; have := h.2.1; omega, by have := h.2.2; omega⟩
theorem AV.wo (h : AV f n g m k) {i : In} (hi : ¬ i = own) : AV (Ytgknmicblnldiaa.wo f i) (woN f n i) g m (k + 1) :=
  ⟨(wo_other f hi).trans h.1, by have := woN_le f n i; have := h.2.1; omega, by have := h.2.2; omega⟩
theorem AV.prep (h : AV f n g m k) {i : In} (hi : i = own) (b : Bl) (hk : k < 300) : AV (Ytgknmicblnldiaa.put f i (prO (stt (f i) n 4096) b)) (putN f n i (prO (stt (f i) n 4096) b)) (Ytgknmicblnldiaa.put g i (prO (stt (g i) m 4096) b)) (putN g m i (prO (stt (g i) m 4096) b)) (k + 1) := by
  subst hi
  have h1 := h.2.1; have h2 := h.2.2
  refine ⟨?_, Nat.le_trans (putN_le _ _ _ _) (by omega), Nat.le_trans (putN_le _ _ _ _) (by omega)⟩
  rw [put_own, put_own, h.1, stt_few (o := g own) (n := n) (m := m) (by omega) (by omega)]
theorem AV.acc (h : AV f n g m k) {i : In} (hi : i = own) (b : Bl) (v : ByteArray) (hk : k < 300) : AV (Ytgknmicblnldiaa.put f i (acO (stt (f i) n 4096) b v)) (putN f n i (acO (stt (f i) n 4096) b v)) (Ytgknmicblnldiaa.put g i (acO (stt (g i) m 4096) b v)) (putN g m i (acO (stt (g i) m 4096) b v)) (k + 1) := by
  subst hi
  have h1 := h.2.1; have h2 := h.2.2
  refine ⟨?_, Nat.le_trans (putN_le _ _ _ _) (by omega), Nat.le_trans (putN_le _ _ _ _) (by omega)⟩
  rw [put_own, put_own, h.1, stt_few (o := g own) (n := n) (m := m) (by omega) (by omega)]
theorem AV.forg (h : AV f n g m k) {i : In} (hi : i = own) (hk : k < 300) : AV (Ytgknmicblnldiaa.wo f i) (woN f n i) (Ytgknmicblnldiaa.wo g i) (woN g m i) (k + 1) := by
  subst hi
  have h1 := h.2.1; have h2 := h.2.2
  exact ⟨(wo_own f).trans (wo_own g).symm, Nat.le_trans (woN_le _ _ _) (by omega), Nat.le_trans (woN_le _ _ _) (by omega)⟩
end

set_option maxRecDepth 100000 in
set_option maxHeartbeats 32000000 in
theorem acceptorAlone_law (ao : Option Addr) (len cap : Nat) (hc : len ≤ cap) (hm : cap ≤ maxLen) (W : World) (hr : OpsRd W ao len) :
    Calls Try.prog 6 #[.slice ao len cap] W (LawOk W) := by
  have HR := Lib.hid hr
  have HN := Lib.hid (fun w => new_yes 4096 (by omega) (by omega) w)
  have hlen : (len : Int) ≤ 9223372036854775807 := by unfold maxLen at hm; omega
  have E1 := neq_bb
  have E2 := neq_aa
  clear hr hc hm
  go_enter Try.func6, Try.ntmps6
  go_wp2_with fail
  refine (HN.out _).mono ?_; rintro e w1 ⟨hA, gA, rfl, t1, b1⟩
  have T1 := Lib.hid t1; have B1 := Lib.hid b1
  clear t1 b1
  go_wp2_with fail
  refine (HN.out _).mono ?_; rintro e w2 ⟨hB, gB, rfl, t2, b2⟩
  have T1' := T1; have T2 := Lib.hid t2; have B2 := Lib.hid (below_next B1.out b2); have T1 := Lib.hid (T1.out.below b2)
  have HS := Lib.hid (show hA < w1.heap.size ∧ gA < w1.heap.size ∧ w1.heap.size ≤ hB ∧ w1.heap.size ≤ gB ∧ W.heap.size ≤ w1.heap.size from ⟨T1'.out.hlt, T1'.out.map.lt, t2.base, t2.gbase, B1.out.size⟩)
  clear t2 b2 HN B1 T1'
  go_wp2_with fail
  refine (alive_any _).mono ?_; rintro e w3 ⟨rfl, b3⟩
  have hmid : AM W (w3.alloc (In.obj own)) hA gA hB gB w3.heap.size 0 fn0 0 fn0 := by
    have ba := below_alloc (Below.refl w3.heap.size w3) (In.obj own)
    have hs := HS.out
    have t1 := T1.out.below b3
    have t2 := T2.out.below b3
    exact ⟨t1.below ba, TabW.down (t2.below ba) hs.2.2.2.2, Row4.new w3 own, below_next (below_next B2.out b3) ba, ⟨t1.hlt, t1.map.lt, t2.hlt, t2.map.lt⟩, by omega, (below_next B2.out b3).size⟩
  have HM := Lib.hid hmid
  clear b3 hmid T1 B2 T2 HS
  go_wp2_with fail
  simp only [In.obj] at HM
  generalize w3.alloc (.cells #[.int .u64 1, .int .i64 0, .int .i64 0, .int .u32 0] 36) = w4 at *
  generalize w3.heap.size = bo at *
  go_loopw [8] (fun v8 wr => ∃ (k n : Nat) (f : Fn) (m : Nat) (g : Fn), v8 = .int .i64 (k : Int) ∧ k ≤ len ∧ k ≤ 300 ∧ AM W wr hA gA hB gB bo n f m g ∧ AV f n g m k) (fun v8 _ => len - (intOf v8).toNat)
  case atStart => exact ⟨0, 0, fn0, 0, fn0, rfl, by omega, by omega, HM.out, ⟨rfl, Nat.le_refl _, Nat.le_refl _⟩⟩
  case round =>
    obtain ⟨k, n, f, m, g, rfl, hk1, hk2, hM, hV⟩ := hrel
    clear HM
    by_cases hlt : k < len ∧ k < 300
    · obtain ⟨ga, o, q, hao, hq, hg, hat⟩ := HR.out k hlt.1
      subst hao
      have hlt1 : (k : Int) < (len : Int) := by omega
      have hlt2 : (k : Int) < 300 := by omega
      have hkp : (0 : Int) ≤ (k : Int) := by omega
      have hatw := OpAt.below hat hg hM.bel
      have r0' := RowO.new wr q
      have B0 := below_alloc (Below.refl wr.heap.size wr) q.obj
      have m0 := hM.below B0
      have HBO := Lib.hid (show bo < wr.heap.size from Row4.lt hM.ro)
      obtain ⟨a1, a2, a3, a4, a5, a6, a7, a8⟩ := hatw
      clear hM hat
      go_upto_region 10 with (fail)
      generalize hbq : wr.heap.size = bq at *
      simp only [Opn.obj] at r0' m0 B0
      generalize wr.alloc (.cells #[.int .i64 q.kind, .int .u64 q.i.tx, .int .i64 q.i.b, .int .i64 q.i.r, .int .u32 q.i.x, .int .u32 q.b.round, .int .u8 q.b.node, .string q.v] 40) = w0 at *
      have M0 := Lib.hid m0; have O0 := Lib.hid r0'
      obtain ⟨q0, q1, q2, q3, q4, q5, q6, q7⟩ := r0'.all
      obtain ⟨d0, d1, d2, d3⟩ := Row4.all m0.ro
      clear m0 r0' a1 a2 a3 a4 a5 a6 a7 a8 B0
      by_cases hm : q.i = own
      · skip
        have E3 : ∀ w, (binOp .eql 36 (.agg #[.int .u64 q.i.tx, .int .i64 q.i.b, .int .i64 q.i.r, .int .u32 q.i.x]) (.agg #[.int .u64 1, .int .i64 0, .int .i64 0, .int .u32 0])).run Try.prog w = .ok (.bool true) w := fun w => by
          have := eql_ii q.i own w
          rw [decide_eq_true hm] at this
          exact this
        have HMI := Lib.hid hm
        clear hm
        by_cases k1 : q.kind = 1
        · as_aux_lemma =>
            have hC := Lib.hid (prepare_any q.i hq.i q.b _ M0.out.ta)
            go_wp2_with fail
            refine hC.out.mono ?_; rintro e w2 ⟨rfl, t2, k2⟩
            have m2 := M0.out.turnA t2 k2
            have o2 : RowO w2 bq q := row_keep O0.out k2 (by have := M0.out.lt; have := HBO.out; simp; omega)
            clear hC t2 k2 M0 O0 q0 q1 q2 q3 q4 q5 q6 q7
            obtain ⟨q0, q1, q2, q3, q4, q5, q6, q7⟩ := o2.all
            have hD := Lib.hid (prepare_any q.i hq.i q.b _ m2.tb)
            have M2 := Lib.hid m2
            clear m2
            go_wp2_with fail
            refine hD.out.mono ?_; rintro e w3 ⟨rfl, t3, k3⟩
            have m3 := M2.out.turnB t3 k3
            clear hD t3 k3 M2 o2 q0 q1 q2 q3 q4 q5 q6 q7
            obtain ⟨n2, f2, m2', g2, mt, av⟩ : ∃ n2 f2 m2 g2, AM W w3 hA gA hB gB bo n2 f2 m2 g2 ∧ AV f2 n2 g2 m2 (k + 1) := ⟨_, _, _, _, m3, hV.prep HMI.out q.b hlt.2⟩
            clear hV hq m3
            go_upto_region 24 with (fail)
            have e2 : f2 own = g2 own := av.1
            have G1 := get_any own ownok _ mt.ta
            have HA := Lib.hid G1
            have MT := Lib.hid mt; have AV := Lib.hid av
            obtain ⟨d0, d1, d2, d3⟩ := Row4.all mt.ro
            clear G1 mt av
            go_wp2_with fail
            refine HA.out.mono ?_; rintro e w6 ⟨rfl, b6⟩
            have b7 := below_alloc (below_alloc b6 (Bl.obj ((f2 own).getD r0).p)) (Ac.obj ((f2 own).getD r0).a)
            have m7 := MT.out.below b7
            have G2 := get_any own ownok _ m7.tb
            rw [← e2] at G2
            have x7 := Row2.below (Row2.new w6 ((f2 own).getD r0).p) (below_alloc (Below.refl _ _) (Ac.obj ((f2 own).getD r0).a))
            have y7 := RowA.new (w6.alloc (Bl.obj ((f2 own).getD r0).p)) ((f2 own).getD r0).a
            rw [show (w6.alloc (Bl.obj ((f2 own).getD r0).p)).heap.size = w6.heap.size + 1 by simp] at y7
            generalize ((f2 own).getD r0).p = rp at *
            generalize ((f2 own).getD r0).a = ra at *
            generalize fE (f2 own) = re at *
            simp only [Ac.obj, Bl.obj] at m7 x7 y7 G2
            have HB := Lib.hid G2; have M7 := Lib.hid m7
            obtain ⟨d0, d1, d2, d3⟩ := Row4.all m7.ro
            clear b6 b7 HA MT G2 e2 m7
            go_upto_region 25 with (fail)
            generalize hb6 : w6.heap.size = b6 at *
            generalize (w6.alloc (.cells #[.int .u32 rp.round, .int .u8 rp.node] 38)).alloc (.cells #[.bool ra.is, .int .u32 ra.b.round, .int .u8 ra.b.node, .string ra.v] 45) = w7 at *
            go_wp2_with fail
            refine HB.out.mono ?_; rintro e w8 ⟨rfl, b8⟩
            have x8 := Row2.below x7 b8
            have y8 := RowA.below y7 b8
            have m8 := M7.out.below b8
            have b9 := below_alloc (below_alloc (Below.refl w8.heap.size w8) (Bl.obj rp)) (Ac.obj ra)
            have x9 := Row2.below x8 b9
            have y9 := RowA.below y8 b9
            have m9 := m8.below b9
            have u9 := Row2.below (Row2.new w8 rp) (below_alloc (Below.refl _ _) (Ac.obj ra))
            have v9 := RowA.new (w8.alloc (Bl.obj rp)) ra
            rw [show (w8.alloc (Bl.obj rp)).heap.size = w8.heap.size + 1 by simp] at v9
            simp only [Ac.obj, Bl.obj] at x9 y9 m9 u9 v9
            clear x7 y7 x8 y8 m8 b8 b9 M7 HB d0 d1 d2 d3
            go_upto_region 26 with (fail)
            generalize hb8 : w8.heap.size = b8 at *
            generalize (w8.alloc (.cells #[.int .u32 rp.round, .int .u8 rp.node] 38)).alloc (.cells #[.bool ra.is, .int .u32 ra.b.round, .int .u8 ra.b.node, .string ra.v] 45) = w9 at *
            obtain ⟨x0, x1, _, _⟩ := Row2.all x9
            obtain ⟨y0, y1, y2, y3, _⟩ := RowA.all y9
            obtain ⟨u0', u1', _, _⟩ := Row2.all u9
            obtain ⟨v0, v1, v2, v3, _⟩ := RowA.all v9
            have M9 := Lib.hid m9
            clear x9 y9 u9 v9 m9
            go_wp2_with fail
            go_roundw
            case rel => exact ⟨k + 1, n2, f2, m2', g2, by go_num, by omega, by omega, M9.out, AV.out⟩
            case measure => simp [intOf]; omega
        · by_cases k2 : q.kind = 2
          · as_aux_lemma =>
              have hC := Lib.hid (accept_any q.i hq.i q.b q.v hq.v _ M0.out.ta)
              go_wp2_with fail
              refine hC.out.mono ?_; rintro e w2 ⟨rfl, t2, k2⟩
              have m2 := M0.out.turnA t2 k2
              have o2 : RowO w2 bq q := row_keep O0.out k2 (by have := M0.out.lt; have := HBO.out; simp; omega)
              clear hC t2 k2 M0 O0 q0 q1 q2 q3 q4 q5 q6 q7
              obtain ⟨q0, q1, q2, q3, q4, q5, q6, q7⟩ := o2.all
              have hD := Lib.hid (accept_any q.i hq.i q.b q.v hq.v _ m2.tb)
              have M2 := Lib.hid m2
              clear m2
              go_wp2_with fail
              refine hD.out.mono ?_; rintro e w3 ⟨rfl, t3, k3⟩
              have m3 := M2.out.turnB t3 k3
              clear hD t3 k3 M2 o2 q0 q1 q2 q3 q4 q5 q6 q7
              obtain ⟨n2, f2, m2', g2, mt, av⟩ : ∃ n2 f2 m2 g2, AM W w3 hA gA hB gB bo n2 f2 m2 g2 ∧ AV f2 n2 g2 m2 (k + 1) := ⟨_, _, _, _, m3, hV.acc HMI.out q.b q.v hlt.2⟩
              clear hV hq m3
              go_upto_region 24 with (fail)
              have e2 : f2 own = g2 own := av.1
              have G1 := get_any own ownok _ mt.ta
              have HA := Lib.hid G1
              have MT := Lib.hid mt; have AV := Lib.hid av
              obtain ⟨d0, d1, d2, d3⟩ := Row4.all mt.ro
              clear G1 mt av
              go_wp2_with fail
              refine HA.out.mono ?_; rintro e w6 ⟨rfl, b6⟩
              have b7 := below_alloc (below_alloc b6 (Bl.obj ((f2 own).getD r0).p)) (Ac.obj ((f2 own).getD r0).a)
              have m7 := MT.out.below b7
              have G2 := get_any own ownok _ m7.tb
              rw [← e2] at G2
              have x7 := Row2.below (Row2.new w6 ((f2 own).getD r0).p) (below_alloc (Below.refl _ _) (Ac.obj ((f2 own).getD r0).a))
              have y7 := RowA.new (w6.alloc (Bl.obj ((f2 own).getD r0).p)) ((f2 own).getD r0).a
              rw [show (w6.alloc (Bl.obj ((f2 own).getD r0).p)).heap.size = w6.heap.size + 1 by simp] at y7
              generalize ((f2 own).getD r0).p = rp at *
              generalize ((f2 own).getD r0).a = ra at *
              generalize fE (f2 own) = re at *
              simp only [Ac.obj, Bl.obj] at m7 x7 y7 G2
              have HB := Lib.hid G2; have M7 := Lib.hid m7
              obtain ⟨d0, d1, d2, d3⟩ := Row4.all m7.ro
              clear b6 b7 HA MT G2 e2 m7
              go_upto_region 25 with (fail)
              generalize hb6 : w6.heap.size = b6 at *
              generalize (w6.alloc (.cells #[.int .u32 rp.round, .int .u8 rp.node] 38)).alloc (.cells #[.bool ra.is, .int .u32 ra.b.round, .int .u8 ra.b.node, .string ra.v] 45) = w7 at *
              go_wp2_with fail
              refine HB.out.mono ?_; rintro e w8 ⟨rfl, b8⟩
              have x8 := Row2.below x7 b8
              have y8 := RowA.below y7 b8
              have m8 := M7.out.below b8
              have b9 := below_alloc (below_alloc (Below.refl w8.heap.size w8) (Bl.obj rp)) (Ac.obj ra)
              have x9 := Row2.below x8 b9
              have y9 := RowA.below y8 b9
              have m9 := m8.below b9
              have u9 := Row2.below (Row2.new w8 rp) (below_alloc (Below.refl _ _) (Ac.obj ra))
              have v9 := RowA.new (w8.alloc (Bl.obj rp)) ra
              rw [show (w8.alloc (Bl.obj rp)).heap.size = w8.heap.size + 1 by simp] at v9
              simp only [Ac.obj, Bl.obj] at x9 y9 m9 u9 v9
              clear x7 y7 x8 y8 m8 b8 b9 M7 HB d0 d1 d2 d3
              go_upto_region 26 with (fail)
              generalize hb8 : w8.heap.size = b8 at *
              generalize (w8.alloc (.cells #[.int .u32 rp.round, .int .u8 rp.node] 38)).alloc (.cells #[.bool ra.is, .int .u32 ra.b.round, .int .u8 ra.b.node, .string ra.v] 45) = w9 at *
              obtain ⟨x0, x1, _, _⟩ := Row2.all x9
              obtain ⟨y0, y1, y2, y3, _⟩ := RowA.all y9
              obtain ⟨u0', u1', _, _⟩ := Row2.all u9
              obtain ⟨v0, v1, v2, v3, _⟩ := RowA.all v9
              have M9 := Lib.hid m9
              clear x9 y9 u9 v9 m9
              go_wp2_with fail
              go_roundw
              case rel => exact ⟨k + 1, n2, f2, m2', g2, by go_num, by omega, by omega, M9.out, AV.out⟩
              case measure => simp [intOf]; omega
          · by_cases k4 : q.kind = 4
            · as_aux_lemma =>
                have hC := Lib.hid (forget_any q.i hq.i _ M0.out.ta)
                go_wp2_with fail
                refine hC.out.mono ?_; rintro e w2 ⟨rfl, t2, k2⟩
                have m2 := M0.out.turnA t2 k2
                have o2 : RowO w2 bq q := row_keep O0.out k2 (by have := M0.out.lt; have := HBO.out; simp; omega)
                clear hC t2 k2 M0 O0 q0 q1 q2 q3 q4 q5 q6 q7
                obtain ⟨q0, q1, q2, q3, q4, q5, q6, q7⟩ := o2.all
                have hD := Lib.hid (forget_any q.i hq.i _ m2.tb)
                have M2 := Lib.hid m2
                clear m2
                go_wp2_with fail
                refine hD.out.mono ?_; rintro e w3 ⟨rfl, t3, k3⟩
                have m3 := M2.out.turnB t3 k3
                clear hD t3 k3 M2 o2 q0 q1 q2 q3 q4 q5 q6 q7
                obtain ⟨n2, f2, m2', g2, mt, av⟩ : ∃ n2 f2 m2 g2, AM W w3 hA gA hB gB bo n2 f2 m2 g2 ∧ AV f2 n2 g2 m2 (k + 1) := ⟨_, _, _, _, m3, hV.forg HMI.out hlt.2⟩
                clear hV hq m3
                go_upto_region 24 with (fail)
                have e2 : f2 own = g2 own := av.1
                have G1 := get_any own ownok _ mt.ta
                have HA := Lib.hid G1
                have MT := Lib.hid mt; have AV := Lib.hid av
                obtain ⟨d0, d1, d2, d3⟩ := Row4.all mt.ro
                clear G1 mt av
                go_wp2_with fail
                refine HA.out.mono ?_; rintro e w6 ⟨rfl, b6⟩
                have b7 := below_alloc (below_alloc b6 (Bl.obj ((f2 own).getD r0).p)) (Ac.obj ((f2 own).getD r0).a)
                have m7 := MT.out.below b7
                have G2 := get_any own ownok _ m7.tb
                rw [← e2] at G2
                have x7 := Row2.below (Row2.new w6 ((f2 own).getD r0).p) (below_alloc (Below.refl _ _) (Ac.obj ((f2 own).getD r0).a))
                have y7 := RowA.new (w6.alloc (Bl.obj ((f2 own).getD r0).p)) ((f2 own).getD r0).a
                rw [show (w6.alloc (Bl.obj ((f2 own).getD r0).p)).heap.size = w6.heap.size + 1 by simp] at y7
                generalize ((f2 own).getD r0).p = rp at *
                generalize ((f2 own).getD r0).a = ra at *
                generalize fE (f2 own) = re at *
                simp only [Ac.obj, Bl.obj] at m7 x7 y7 G2
                have HB := Lib.hid G2; have M7 := Lib.hid m7
                obtain ⟨d0, d1, d2, d3⟩ := Row4.all m7.ro
                clear b6 b7 HA MT G2 e2 m7
                go_upto_region 25 with (fail)
                generalize hb6 : w6.heap.size = b6 at *
                generalize (w6.alloc (.cells #[.int .u32 rp.round, .int .u8 rp.node] 38)).alloc (.cells #[.bool ra.is, .int .u32 ra.b.round, .int .u8 ra.b.node, .string ra.v] 45) = w7 at *
                go_wp2_with fail
                refine HB.out.mono ?_; rintro e w8 ⟨rfl, b8⟩
                have x8 := Row2.below x7 b8
                have y8 := RowA.below y7 b8
                have m8 := M7.out.below b8
                have b9 := below_alloc (below_alloc (Below.refl w8.heap.size w8) (Bl.obj rp)) (Ac.obj ra)
                have x9 := Row2.below x8 b9
                have y9 := RowA.below y8 b9
                have m9 := m8.below b9
                have u9 := Row2.below (Row2.new w8 rp) (below_alloc (Below.refl _ _) (Ac.obj ra))
                have v9 := RowA.new (w8.alloc (Bl.obj rp)) ra
                rw [show (w8.alloc (Bl.obj rp)).heap.size = w8.heap.size + 1 by simp] at v9
                simp only [Ac.obj, Bl.obj] at x9 y9 m9 u9 v9
                clear x7 y7 x8 y8 m8 b8 b9 M7 HB d0 d1 d2 d3
                go_upto_region 26 with (fail)
                generalize hb8 : w8.heap.size = b8 at *
                generalize (w8.alloc (.cells #[.int .u32 rp.round, .int .u8 rp.node] 38)).alloc (.cells #[.bool ra.is, .int .u32 ra.b.round, .int .u8 ra.b.node, .string ra.v] 45) = w9 at *
                obtain ⟨x0, x1, _, _⟩ := Row2.all x9
                obtain ⟨y0, y1, y2, y3, _⟩ := RowA.all y9
                obtain ⟨u0', u1', _, _⟩ := Row2.all u9
                obtain ⟨v0, v1, v2, v3, _⟩ := RowA.all v9
                have M9 := Lib.hid m9
                clear x9 y9 u9 v9 m9
                go_wp2_with fail
                go_roundw
                case rel => exact ⟨k + 1, n2, f2, m2', g2, by go_num, by omega, by omega, M9.out, AV.out⟩
                case measure => simp [intOf]; omega
            · as_aux_lemma =>
                have mt := M0.out
                have av : AV f n g m (k + 1) := ⟨hV.1, by have := hV.2.1; omega, by have := hV.2.2; omega⟩
                obtain ⟨n2, f2, m2, g2, mt, av⟩ : ∃ n2 f2 m2 g2, AM W w0 hA gA hB gB bo n2 f2 m2 g2 ∧ AV f2 n2 g2 m2 (k + 1) := ⟨_, _, _, _, mt, av⟩
                clear hV hq M0 O0
                go_upto_region 24 with (fail)
                have e2 : f2 own = g2 own := av.1
                have G1 := get_any own ownok _ mt.ta
                have HA := Lib.hid G1
                have MT := Lib.hid mt; have AV := Lib.hid av
                obtain ⟨d0, d1, d2, d3⟩ := Row4.all mt.ro
                clear G1 mt av
                go_wp2_with fail
                refine HA.out.mono ?_; rintro e w6 ⟨rfl, b6⟩
                have b7 := below_alloc (below_alloc b6 (Bl.obj ((f2 own).getD r0).p)) (Ac.obj ((f2 own).getD r0).a)
                have m7 := MT.out.below b7
                have G2 := get_any own ownok _ m7.tb
                rw [← e2] at G2
                have x7 := Row2.below (Row2.new w6 ((f2 own).getD r0).p) (below_alloc (Below.refl _ _) (Ac.obj ((f2 own).getD r0).a))
                have y7 := RowA.new (w6.alloc (Bl.obj ((f2 own).getD r0).p)) ((f2 own).getD r0).a
                rw [show (w6.alloc (Bl.obj ((f2 own).getD r0).p)).heap.size = w6.heap.size + 1 by simp] at y7
                generalize ((f2 own).getD r0).p = rp at *
                generalize ((f2 own).getD r0).a = ra at *
                generalize fE (f2 own) = re at *
                simp only [Ac.obj, Bl.obj] at m7 x7 y7 G2
                have HB := Lib.hid G2; have M7 := Lib.hid m7
                obtain ⟨d0, d1, d2, d3⟩ := Row4.all m7.ro
                clear b6 b7 HA MT G2 e2 m7
                go_upto_region 25 with (fail)
                generalize hb6 : w6.heap.size = b6 at *
                generalize (w6.alloc (.cells #[.int .u32 rp.round, .int .u8 rp.node] 38)).alloc (.cells #[.bool ra.is, .int .u32 ra.b.round, .int .u8 ra.b.node, .string ra.v] 45) = w7 at *
                go_wp2_with fail
                refine HB.out.mono ?_; rintro e w8 ⟨rfl, b8⟩
                have x8 := Row2.below x7 b8
                have y8 := RowA.below y7 b8
                have m8 := M7.out.below b8
                have b9 := below_alloc (below_alloc (Below.refl w8.heap.size w8) (Bl.obj rp)) (Ac.obj ra)
                have x9 := Row2.below x8 b9
                have y9 := RowA.below y8 b9
                have m9 := m8.below b9
                have u9 := Row2.below (Row2.new w8 rp) (below_alloc (Below.refl _ _) (Ac.obj ra))
                have v9 := RowA.new (w8.alloc (Bl.obj rp)) ra
                rw [show (w8.alloc (Bl.obj rp)).heap.size = w8.heap.size + 1 by simp] at v9
                simp only [Ac.obj, Bl.obj] at x9 y9 m9 u9 v9
                clear x7 y7 x8 y8 m8 b8 b9 M7 HB d0 d1 d2 d3
                go_upto_region 26 with (fail)
                generalize hb8 : w8.heap.size = b8 at *
                generalize (w8.alloc (.cells #[.int .u32 rp.round, .int .u8 rp.node] 38)).alloc (.cells #[.bool ra.is, .int .u32 ra.b.round, .int .u8 ra.b.node, .string ra.v] 45) = w9 at *
                obtain ⟨x0, x1, _, _⟩ := Row2.all x9
                obtain ⟨y0, y1, y2, y3, _⟩ := RowA.all y9
                obtain ⟨u0', u1', _, _⟩ := Row2.all u9
                obtain ⟨v0, v1, v2, v3, _⟩ := RowA.all v9
                have M9 := Lib.hid m9
                clear x9 y9 u9 v9 m9
                go_wp2_with fail
                go_roundw
                case rel => exact ⟨k + 1, n2, f2, m2, g2, by go_num, by omega, by omega, M9.out, AV.out⟩
                case measure => simp [intOf]; omega
      · skip
        have E3 : ∀ w, (binOp .eql 36 (.agg #[.int .u64 q.i.tx, .int .i64 q.i.b, .int .i64 q.i.r, .int .u32 q.i.x]) (.agg #[.int .u64 1, .int .i64 0, .int .i64 0, .int .u32 0])).run Try.prog w = .ok (.bool false) w := fun w => by
          have := eql_ii q.i own w
          rw [decide_eq_false hm] at this
          exact this
        by_cases k1 : q.kind = 1
        · as_aux_lemma =>
            have hC := Lib.hid (prepare_any q.i hq.i q.b _ M0.out.ta)
            go_wp2_with fail
            refine hC.out.mono ?_; rintro e w2 ⟨rfl, t2, k2⟩
            have m2 := M0.out.turnA t2 k2
            have o2 : RowO w2 bq q := row_keep O0.out k2 (by have := M0.out.lt; have := HBO.out; simp; omega)
            clear hC t2 k2 M0 O0 q0 q1 q2 q3 q4 q5 q6 q7
            obtain ⟨n2, f2, m2', g2, mt, av⟩ : ∃ n2 f2 m2 g2, AM W w2 hA gA hB gB bo n2 f2 m2 g2 ∧ AV f2 n2 g2 m2 (k + 1) := ⟨_, _, _, _, m2, hV.put hm _⟩
            clear hV hq m2
            go_upto_region 24 with (fail)
            have e2 : f2 own = g2 own := av.1
            have G1 := get_any own ownok _ mt.ta
            have HA := Lib.hid G1
            have MT := Lib.hid mt; have AV := Lib.hid av
            obtain ⟨d0, d1, d2, d3⟩ := Row4.all mt.ro
            clear G1 mt av
            go_wp2_with fail
            refine HA.out.mono ?_; rintro e w6 ⟨rfl, b6⟩
            have b7 := below_alloc (below_alloc b6 (Bl.obj ((f2 own).getD r0).p)) (Ac.obj ((f2 own).getD r0).a)
            have m7 := MT.out.below b7
            have G2 := get_any own ownok _ m7.tb
            rw [← e2] at G2
            have x7 := Row2.below (Row2.new w6 ((f2 own).getD r0).p) (below_alloc (Below.refl _ _) (Ac.obj ((f2 own).getD r0).a))
            have y7 := RowA.new (w6.alloc (Bl.obj ((f2 own).getD r0).p)) ((f2 own).getD r0).a
            rw [show (w6.alloc (Bl.obj ((f2 own).getD r0).p)).heap.size = w6.heap.size + 1 by simp] at y7
            generalize ((f2 own).getD r0).p = rp at *
            generalize ((f2 own).getD r0).a = ra at *
            generalize fE (f2 own) = re at *
            simp only [Ac.obj, Bl.obj] at m7 x7 y7 G2
            have HB := Lib.hid G2; have M7 := Lib.hid m7
            obtain ⟨d0, d1, d2, d3⟩ := Row4.all m7.ro
            clear b6 b7 HA MT G2 e2 m7
            go_upto_region 25 with (fail)
            generalize hb6 : w6.heap.size = b6 at *
            generalize (w6.alloc (.cells #[.int .u32 rp.round, .int .u8 rp.node] 38)).alloc (.cells #[.bool ra.is, .int .u32 ra.b.round, .int .u8 ra.b.node, .string ra.v] 45) = w7 at *
            go_wp2_with fail
            refine HB.out.mono ?_; rintro e w8 ⟨rfl, b8⟩
            have x8 := Row2.below x7 b8
            have y8 := RowA.below y7 b8
            have m8 := M7.out.below b8
            have b9 := below_alloc (below_alloc (Below.refl w8.heap.size w8) (Bl.obj rp)) (Ac.obj ra)
            have x9 := Row2.below x8 b9
            have y9 := RowA.below y8 b9
            have m9 := m8.below b9
            have u9 := Row2.below (Row2.new w8 rp) (below_alloc (Below.refl _ _) (Ac.obj ra))
            have v9 := RowA.new (w8.alloc (Bl.obj rp)) ra
            rw [show (w8.alloc (Bl.obj rp)).heap.size = w8.heap.size + 1 by simp] at v9
            simp only [Ac.obj, Bl.obj] at x9 y9 m9 u9 v9
            clear x7 y7 x8 y8 m8 b8 b9 M7 HB d0 d1 d2 d3
            go_upto_region 26 with (fail)
            generalize hb8 : w8.heap.size = b8 at *
            generalize (w8.alloc (.cells #[.int .u32 rp.round, .int .u8 rp.node] 38)).alloc (.cells #[.bool ra.is, .int .u32 ra.b.round, .int .u8 ra.b.node, .string ra.v] 45) = w9 at *
            obtain ⟨x0, x1, _, _⟩ := Row2.all x9
            obtain ⟨y0, y1, y2, y3, _⟩ := RowA.all y9
            obtain ⟨u0', u1', _, _⟩ := Row2.all u9
            obtain ⟨v0, v1, v2, v3, _⟩ := RowA.all v9
            have M9 := Lib.hid m9
            clear x9 y9 u9 v9 m9
            go_wp2_with fail
            go_roundw
            case rel => exact ⟨k + 1, n2, f2, m2', g2, by go_num, by omega, by omega, M9.out, AV.out⟩
            case measure => simp [intOf]; omega
        · by_cases k2 : q.kind = 2
          · as_aux_lemma =>
              have hC := Lib.hid (accept_any q.i hq.i q.b q.v hq.v _ M0.out.ta)
              go_wp2_with fail
              refine hC.out.mono ?_; rintro e w2 ⟨rfl, t2, k2⟩
              have m2 := M0.out.turnA t2 k2
              have o2 : RowO w2 bq q := row_keep O0.out k2 (by have := M0.out.lt; have := HBO.out; simp; omega)
              clear hC t2 k2 M0 O0 q0 q1 q2 q3 q4 q5 q6 q7
              obtain ⟨n2, f2, m2', g2, mt, av⟩ : ∃ n2 f2 m2 g2, AM W w2 hA gA hB gB bo n2 f2 m2 g2 ∧ AV f2 n2 g2 m2 (k + 1) := ⟨_, _, _, _, m2, hV.put hm _⟩
              clear hV hq m2
              go_upto_region 24 with (fail)
              have e2 : f2 own = g2 own := av.1
              have G1 := get_any own ownok _ mt.ta
              have HA := Lib.hid G1
              have MT := Lib.hid mt; have AV := Lib.hid av
              obtain ⟨d0, d1, d2, d3⟩ := Row4.all mt.ro
              clear G1 mt av
              go_wp2_with fail
              refine HA.out.mono ?_; rintro e w6 ⟨rfl, b6⟩
              have b7 := below_alloc (below_alloc b6 (Bl.obj ((f2 own).getD r0).p)) (Ac.obj ((f2 own).getD r0).a)
              have m7 := MT.out.below b7
              have G2 := get_any own ownok _ m7.tb
              rw [← e2] at G2
              have x7 := Row2.below (Row2.new w6 ((f2 own).getD r0).p) (below_alloc (Below.refl _ _) (Ac.obj ((f2 own).getD r0).a))
              have y7 := RowA.new (w6.alloc (Bl.obj ((f2 own).getD r0).p)) ((f2 own).getD r0).a
              rw [show (w6.alloc (Bl.obj ((f2 own).getD r0).p)).heap.size = w6.heap.size + 1 by simp] at y7
              generalize ((f2 own).getD r0).p = rp at *
              generalize ((f2 own).getD r0).a = ra at *
              generalize fE (f2 own) = re at *
              simp only [Ac.obj, Bl.obj] at m7 x7 y7 G2
              have HB := Lib.hid G2; have M7 := Lib.hid m7
              obtain ⟨d0, d1, d2, d3⟩ := Row4.all m7.ro
              clear b6 b7 HA MT G2 e2 m7
              go_upto_region 25 with (fail)
              generalize hb6 : w6.heap.size = b6 at *
              generalize (w6.alloc (.cells #[.int .u32 rp.round, .int .u8 rp.node] 38)).alloc (.cells #[.bool ra.is, .int .u32 ra.b.round, .int .u8 ra.b.node, .string ra.v] 45) = w7 at *
              go_wp2_with fail
              refine HB.out.mono ?_; rintro e w8 ⟨rfl, b8⟩
              have x8 := Row2.below x7 b8
              have y8 := RowA.below y7 b8
              have m8 := M7.out.below b8
              have b9 := below_alloc (below_alloc (Below.refl w8.heap.size w8) (Bl.obj rp)) (Ac.obj ra)
              have x9 := Row2.below x8 b9
              have y9 := RowA.below y8 b9
              have m9 := m8.below b9
              have u9 := Row2.below (Row2.new w8 rp) (below_alloc (Below.refl _ _) (Ac.obj ra))
              have v9 := RowA.new (w8.alloc (Bl.obj rp)) ra
              rw [show (w8.alloc (Bl.obj rp)).heap.size = w8.heap.size + 1 by simp] at v9
              simp only [Ac.obj, Bl.obj] at x9 y9 m9 u9 v9
              clear x7 y7 x8 y8 m8 b8 b9 M7 HB d0 d1 d2 d3
              go_upto_region 26 with (fail)
              generalize hb8 : w8.heap.size = b8 at *
              generalize (w8.alloc (.cells #[.int .u32 rp.round, .int .u8 rp.node] 38)).alloc (.cells #[.bool ra.is, .int .u32 ra.b.round, .int .u8 ra.b.node, .string ra.v] 45) = w9 at *
              obtain ⟨x0, x1, _, _⟩ := Row2.all x9
              obtain ⟨y0, y1, y2, y3, _⟩ := RowA.all y9
              obtain ⟨u0', u1', _, _⟩ := Row2.all u9
              obtain ⟨v0, v1, v2, v3, _⟩ := RowA.all v9
              have M9 := Lib.hid m9
              clear x9 y9 u9 v9 m9
              go_wp2_with fail
              go_roundw
              case rel => exact ⟨k + 1, n2, f2, m2', g2, by go_num, by omega, by omega, M9.out, AV.out⟩
              case measure => simp [intOf]; omega
          · by_cases k4 : q.kind = 4
            · as_aux_lemma =>
                have hC := Lib.hid (forget_any q.i hq.i _ M0.out.ta)
                go_wp2_with fail
                refine hC.out.mono ?_; rintro e w2 ⟨rfl, t2, k2⟩
                have m2 := M0.out.turnA t2 k2
                have o2 : RowO w2 bq q := row_keep O0.out k2 (by have := M0.out.lt; have := HBO.out; simp; omega)
                clear hC t2 k2 M0 O0 q0 q1 q2 q3 q4 q5 q6 q7
                obtain ⟨n2, f2, m2', g2, mt, av⟩ : ∃ n2 f2 m2 g2, AM W w2 hA gA hB gB bo n2 f2 m2 g2 ∧ AV f2 n2 g2 m2 (k + 1) := ⟨_, _, _, _, m2, hV.wo hm⟩
                clear hV hq m2
                go_upto_region 24 with (fail)
                have e2 : f2 own = g2 own := av.1
                have G1 := get_any own ownok _ mt.ta
                have HA := Lib.hid G1
                have MT := Lib.hid mt; have AV := Lib.hid av
                obtain ⟨d0, d1, d2, d3⟩ := Row4.all mt.ro
                clear G1 mt av
                go_wp2_with fail
                refine HA.out.mono ?_; rintro e w6 ⟨rfl, b6⟩
                have b7 := below_alloc (below_alloc b6 (Bl.obj ((f2 own).getD r0).p)) (Ac.obj ((f2 own).getD r0).a)
                have m7 := MT.out.below b7
                have G2 := get_any own ownok _ m7.tb
                rw [← e2] at G2
                have x7 := Row2.below (Row2.new w6 ((f2 own).getD r0).p) (below_alloc (Below.refl _ _) (Ac.obj ((f2 own).getD r0).a))
                have y7 := RowA.new (w6.alloc (Bl.obj ((f2 own).getD r0).p)) ((f2 own).getD r0).a
                rw [show (w6.alloc (Bl.obj ((f2 own).getD r0).p)).heap.size = w6.heap.size + 1 by simp] at y7
                generalize ((f2 own).getD r0).p = rp at *
                generalize ((f2 own).getD r0).a = ra at *
                generalize fE (f2 own) = re at *
                simp only [Ac.obj, Bl.obj] at m7 x7 y7 G2
                have HB := Lib.hid G2; have M7 := Lib.hid m7
                obtain ⟨d0, d1, d2, d3⟩ := Row4.all m7.ro
                clear b6 b7 HA MT G2 e2 m7
                go_upto_region 25 with (fail)
                generalize hb6 : w6.heap.size = b6 at *
                generalize (w6.alloc (.cells #[.int .u32 rp.round, .int .u8 rp.node] 38)).alloc (.cells #[.bool ra.is, .int .u32 ra.b.round, .int .u8 ra.b.node, .string ra.v] 45) = w7 at *
                go_wp2_with fail
                refine HB.out.mono ?_; rintro e w8 ⟨rfl, b8⟩
                have x8 := Row2.below x7 b8
                have y8 := RowA.below y7 b8
                have m8 := M7.out.below b8
                have b9 := below_alloc (below_alloc (Below.refl w8.heap.size w8) (Bl.obj rp)) (Ac.obj ra)
                have x9 := Row2.below x8 b9
                have y9 := RowA.below y8 b9
                have m9 := m8.below b9
                have u9 := Row2.below (Row2.new w8 rp) (below_alloc (Below.refl _ _) (Ac.obj ra))
                have v9 := RowA.new (w8.alloc (Bl.obj rp)) ra
                rw [show (w8.alloc (Bl.obj rp)).heap.size = w8.heap.size + 1 by simp] at v9
                simp only [Ac.obj, Bl.obj] at x9 y9 m9 u9 v9
                clear x7 y7 x8 y8 m8 b8 b9 M7 HB d0 d1 d2 d3
                go_upto_region 26 with (fail)
                generalize hb8 : w8.heap.size = b8 at *
                generalize (w8.alloc (.cells #[.int .u32 rp.round, .int .u8 rp.node] 38)).alloc (.cells #[.bool ra.is, .int .u32 ra.b.round, .int .u8 ra.b.node, .string ra.v] 45) = w9 at *
                obtain ⟨x0, x1, _, _⟩ := Row2.all x9
                obtain ⟨y0, y1, y2, y3, _⟩ := RowA.all y9
                obtain ⟨u0', u1', _, _⟩ := Row2.all u9
                obtain ⟨v0, v1, v2, v3, _⟩ := RowA.all v9
                have M9 := Lib.hid m9
                clear x9 y9 u9 v9 m9
                go_wp2_with fail
                go_roundw
                case rel => exact ⟨k + 1, n2, f2, m2', g2, by go_num, by omega, by omega, M9.out, AV.out⟩
                case measure => simp [intOf]; omega
            · as_aux_lemma =>
                have mt := M0.out
                have av : AV f n g m (k + 1) := ⟨hV.1, by have := hV.2.1; omega, by have := hV.2.2; omega⟩
                obtain ⟨n2, f2, m2, g2, mt, av⟩ : ∃ n2 f2 m2 g2, AM W w0 hA gA hB gB bo n2 f2 m2 g2 ∧ AV f2 n2 g2 m2 (k + 1) := ⟨_, _, _, _, mt, av⟩
                clear hV hq M0 O0
                go_upto_region 24 with (fail)
                have e2 : f2 own = g2 own := av.1
                have G1 := get_any own ownok _ mt.ta
                have HA := Lib.hid G1
                have MT := Lib.hid mt; have AV := Lib.hid av
                obtain ⟨d0, d1, d2, d3⟩ := Row4.all mt.ro
                clear G1 mt av
                go_wp2_with fail
                refine HA.out.mono ?_; rintro e w6 ⟨rfl, b6⟩
                have b7 := below_alloc (below_alloc b6 (Bl.obj ((f2 own).getD r0).p)) (Ac.obj ((f2 own).getD r0).a)
                have m7 := MT.out.below b7
                have G2 := get_any own ownok _ m7.tb
                rw [← e2] at G2
                have x7 := Row2.below (Row2.new w6 ((f2 own).getD r0).p) (below_alloc (Below.refl _ _) (Ac.obj ((f2 own).getD r0).a))
                have y7 := RowA.new (w6.alloc (Bl.obj ((f2 own).getD r0).p)) ((f2 own).getD r0).a
                rw [show (w6.alloc (Bl.obj ((f2 own).getD r0).p)).heap.size = w6.heap.size + 1 by simp] at y7
                generalize ((f2 own).getD r0).p = rp at *
                generalize ((f2 own).getD r0).a = ra at *
                generalize fE (f2 own) = re at *
                simp only [Ac.obj, Bl.obj] at m7 x7 y7 G2
                have HB := Lib.hid G2; have M7 := Lib.hid m7
                obtain ⟨d0, d1, d2, d3⟩ := Row4.all m7.ro
                clear b6 b7 HA MT G2 e2 m7
                go_upto_region 25 with (fail)
                generalize hb6 : w6.heap.size = b6 at *
                generalize (w6.alloc (.cells #[.int .u32 rp.round, .int .u8 rp.node] 38)).alloc (.cells #[.bool ra.is, .int .u32 ra.b.round, .int .u8 ra.b.node, .string ra.v] 45) = w7 at *
                go_wp2_with fail
                refine HB.out.mono ?_; rintro e w8 ⟨rfl, b8⟩
                have x8 := Row2.below x7 b8
                have y8 := RowA.below y7 b8
                have m8 := M7.out.below b8
                have b9 := below_alloc (below_alloc (Below.refl w8.heap.size w8) (Bl.obj rp)) (Ac.obj ra)
                have x9 := Row2.below x8 b9
                have y9 := RowA.below y8 b9
                have m9 := m8.below b9
                have u9 := Row2.below (Row2.new w8 rp) (below_alloc (Below.refl _ _) (Ac.obj ra))
                have v9 := RowA.new (w8.alloc (Bl.obj rp)) ra
                rw [show (w8.alloc (Bl.obj rp)).heap.size = w8.heap.size + 1 by simp] at v9
                simp only [Ac.obj, Bl.obj] at x9 y9 m9 u9 v9
                clear x7 y7 x8 y8 m8 b8 b9 M7 HB d0 d1 d2 d3
                go_upto_region 26 with (fail)
                generalize hb8 : w8.heap.size = b8 at *
                generalize (w8.alloc (.cells #[.int .u32 rp.round, .int .u8 rp.node] 38)).alloc (.cells #[.bool ra.is, .int .u32 ra.b.round, .int .u8 ra.b.node, .string ra.v] 45) = w9 at *
                obtain ⟨x0, x1, _, _⟩ := Row2.all x9
                obtain ⟨y0, y1, y2, y3, _⟩ := RowA.all y9
                obtain ⟨u0', u1', _, _⟩ := Row2.all u9
                obtain ⟨v0, v1, v2, v3, _⟩ := RowA.all v9
                have M9 := Lib.hid m9
                clear x9 y9 u9 v9 m9
                go_wp2_with fail
                go_roundw
                case rel => exact ⟨k + 1, n2, f2, m2, g2, by go_num, by omega, by omega, M9.out, AV.out⟩
                case measure => simp [intOf]; omega
    · have HB := Lib.hid hM.bel
      clear hM hV
      by_cases h1 : k < len
      · have hd1 : (k : Int) < (len : Int) := by omega
        have hd2 : ¬ (k : Int) < 300 := by omega
        clear hlt
        go_wp2_with fail
        go_ret
        exact ⟨rfl, HB.out⟩
      · have hd1 : ¬ (k : Int) < (len : Int) := by omega
        clear hlt
        go_wp2_with fail
        go_ret
        exact ⟨rfl, HB.out⟩
end Go.Proofs.Ytgknmicblnldiaa
