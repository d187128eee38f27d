/- AcceptorPromises. -/
import Derived.Test.YtgknmicblnldiaaAny
namespace Go.Proofs.Ytgknmicblnldiaa
open Go.RowKit Go.Sort
set_option linter.unusedVariables false

abbrev i7 : In := ⟨7, 0, 0, 0⟩
theorem i7ok : i7.Ok := ⟨by decide, by decide, by decide, by decide⟩
/-- what the law keeps: the table, its instance, what it holds to be promised and accepted -/
structure PM (W w : World) (hn gm bi n : Nat) (f : Fn) (p : Bl) (a : Ac) : Prop where
  tab : TabW w W.heap.size hn gm 4096 n f
  ri : Row4 w bi i7
  rp : Row2 w (bi + 1) p
  ra : RowA w (bi + 2) a
  bel : Below W.heap.size W w
  h1 : hn < bi
  h2 : gm < bi
  h3 : W.heap.size ≤ bi
structure PV (f : Fn) (n : Nat) (p : Bl) (a : Ac) : Prop where
  one : (f i7 = some ⟨p, a⟩ ∧ n = 1) ∨ (f i7 = none ∧ n = 0 ∧ p = b0 ∧ a = a0)
  up : a.is = true → low p a.b = false
section
variable {W w w' : World} {hn gm bi n n' : Nat} {f f' : Fn} {p : Bl} {a : Ac}
theorem PM.lt (h : PM W w hn gm bi n f p a) : bi + 2 < w.heap.size := RowA.lt h.ra
theorem PM.below (h : PM W w hn gm bi n f p a) (b : Below w.heap.size w w') : PM W w' hn gm bi n f p a :=
  ⟨h.tab.below b, Row4.below h.ri b, Row2.below h.rp b, RowA.below h.ra b, h.bel.trans (b.mono (by have := h.h3; have := h.lt; omega)), h.h1, h.h2, h.h3⟩
theorem PM.turn (h : PM W w hn gm bi n f p a) (t : TabW w' W.heap.size hn gm 4096 n' f') (k : Keep [gm] w w') : PM W w' hn gm bi n' f' p a :=
  have := h.h2
  ⟨t, row_keep h.ri k (by simp; omega), row_keep h.rp k (by simp; omega), row_keep h.ra k (by simp; omega), h.bel.trans (k.below (by have := h.h3; have := h.lt; omega) (by simpa using h.tab.gbase)), h.h1, h.h2, h.h3⟩
theorem PM.setP (h : PM W w hn gm bi n f p a) (b : Bl) : PM W (lay2 w (bi + 1) b) hn gm bi n f b a :=
  have k := lay2_keep w (bi + 1) b
  have := h.h1; have := h.h2
  ⟨h.tab.keep k (by simp; omega) (by simp; omega), row_keep h.ri k (by simp), lay2_row h.rp, row_keep h.ra k (by simp), h.bel.trans (k.below (by have := h.h3; have := h.lt; omega) (by have := h.h3; simp; omega)), h.h1, h.h2, h.h3⟩
theorem PM.setA (h : PM W w hn gm bi n f p a) (c : Ac) : PM W (layA w (bi + 2) c) hn gm bi n f p c :=
  have k := layA_keep w (bi + 2) c
  have := h.h1; have := h.h2
  ⟨h.tab.keep k (by simp; omega) (by simp; omega), row_keep h.ri k (by simp), row_keep h.rp k (by simp), layA_row h.ra, h.bel.trans (k.below (by have := h.h3; have := h.lt; omega) (by have := h.h3; simp; omega)), h.h1, h.h2, h.h3⟩
theorem PV.st (h : PV f n p a) : stt (f i7) n 4096 = some ⟨p, a⟩ := by
  rcases h.one with ⟨h1, _⟩ | ⟨h1, h2, rfl, rfl⟩
  · rw [h1]; rfl
  · rw [h1, h2]; rfl
theorem PV.yes (h : PV f n p a) (b : Bl) (c : Ac) (hb : low b p = false) (hc : c = a ∨ c.b = b) : PV (upd f i7 (some ⟨b, c⟩)) (if (f i7).isSome then n else n + 1) b c := by
  refine ⟨.inl ⟨upd_same _ _ _, ?_⟩, fun e => ?_⟩
  · rcases h.one with ⟨h1, h2⟩ | ⟨h1, h2, _⟩
    · rw [h1, h2]; rfl
    · rw [h1, h2]; rfl
  · rcases hc with rfl | hc
    · exact low_trans hb (h.up e)
    · rw [hc]; exact low_self b
theorem PV.there (h : PV f n p a) {b : Bl} (h1 : 0 ≤ b.round) (h2 : 0 ≤ b.node) (hb : low b p = true) : f i7 = some ⟨p, a⟩ := by
  rcases h.one with ⟨h3, _⟩ | ⟨_, _, rfl, _⟩
  · exact h3
  · rw [low_zero h1 h2] at hb; cases hb
end

set_option maxRecDepth 100000 in
set_option maxHeartbeats 16000000 in
theorem acceptorPromises_law (ao : Option Addr) (len cap : Nat) (hc : len ≤ cap) (hm : cap ≤ maxLen) (W : World) (hr : OpsRd W ao len) :
    Calls Try.prog 4 #[.slice ao len cap] W (LawOk W) := by
  have HR := Lib.hid hr
  have HN := Lib.hid (fun w => new_yes 4096 (by omega) (by omega) w)
  have hlen : (len : Int) ≤ 9223372036854775807 := by unfold maxLen at hm; omega
  have E1 := neq_bb
  have E2 := neq_aa
  clear hr hc hm
  go_enter Try.func4, Try.ntmps4
  go_wp2_with fail
  refine (HN.out _).mono ?_; rintro e w1 ⟨hn, gm, rfl, t1, b1⟩
  have T1 := Lib.hid t1; have B1 := Lib.hid b1
  clear t1 b1 HN
  go_wp2_with fail
  refine (alive_any _).mono ?_; rintro e w2 ⟨rfl, b2⟩
  have t2 := T1.out.below b2
  have B2 := Lib.hid (below_next B1.out b2)
  have hmid : PM W (((w2.alloc (In.obj i7)).alloc (Bl.obj b0)).alloc (Ac.obj a0)) hn gm w2.heap.size 0 fn0 b0 a0 := by
    have ba := below_alloc (below_alloc (below_alloc (Below.refl w2.heap.size w2) (In.obj i7)) (Bl.obj b0)) (Ac.obj a0)
    refine ⟨t2.below ba, ?_, ?_, ?_, below_next B2.out ba, t2.hlt, t2.map.lt, B2.out.size⟩
    · exact ((Row4.new w2 i7).below (below_alloc (Below.refl _ _) _)).below (below_alloc (Below.refl _ _) _)
    · have := (Row2.new (w2.alloc (In.obj i7)) b0).below (below_alloc (Below.refl _ _) (Ac.obj a0))
      rw [show (w2.alloc (In.obj i7)).heap.size = w2.heap.size + 1 by simp] at this; exact this
    · have := RowA.new ((w2.alloc (In.obj i7)).alloc (Bl.obj b0)) a0
      rw [show ((w2.alloc (In.obj i7)).alloc (Bl.obj b0)).heap.size = w2.heap.size + 2 by simp] at this; exact this
  have HM := Lib.hid hmid
  clear t2 b2 hmid T1 B1 B2
  go_wp2_with fail
  simp only [In.obj, Bl.obj, Ac.obj] at HM
  generalize ((w2.alloc (.cells #[.int .u64 7, .int .i64 0, .int .i64 0, .int .u32 0] 36)).alloc (.cells #[.int .u32 0, .int .u8 0] 38)).alloc (.cells #[.bool false, .int .u32 0, .int .u8 0, .string { data := #[] }] 45) = w3 at *
  generalize w2.heap.size = bi at *
  go_loopw [8] (fun v8 wr => ∃ (k n : Nat) (f : Fn) (p : Bl) (a : Ac), v8 = .int .i64 (k : Int) ∧ k ≤ len ∧ k ≤ 300 ∧ PM W wr hn gm bi n f p a ∧ PV f n p a) (fun v8 _ => len - (intOf v8).toNat)
  case atStart => exact ⟨0, 0, fn0, b0, a0, rfl, by omega, by omega, HM.out, ⟨.inr ⟨rfl, rfl, rfl, rfl⟩, by intro h; cases h⟩⟩
  case round =>
    obtain ⟨k, n, f, p, a, rfl, hk1, hk2, hM, hV⟩ := hrel
    clear HM
    by_cases hlt : k < len ∧ k < 300
    · obtain ⟨g, o, q, hao, hq, hg, hat⟩ := HR.out k hlt.1
      subst hao
      have hlt1 : (k : Int) < (len : Int) := by omega
      have hlt2 : (k : Int) < 300 := by omega
      have hkp : (0 : Int) ≤ (k : Int) := by omega
      have hatw := OpAt.below hat hg hM.bel
      have r0 := RowO.new wr q
      have B0 := Lib.hid (below_alloc (Below.refl wr.heap.size wr) q.obj)
      have m0 := hM.below B0.out
      have HBO := Lib.hid (show bi + 2 < wr.heap.size from hM.lt)
      have HL := Lib.hid (fun w => less_any q.b p w)
      have HOK := Lib.hid hq
      have HV := Lib.hid hV
      obtain ⟨a1, a2, a3, a4, a5, a6, a7, a8⟩ := hatw
      clear hM hV hat
      go_upto_region 11 with (fail)
      generalize hbo : wr.heap.size = bo at *
      simp only [Opn.obj] at r0 m0 B0
      generalize wr.alloc (.cells #[.int .i64 q.kind, .int .u64 q.i.tx, .int .i64 q.i.b, .int .i64 q.i.r, .int .u32 q.i.x, .int .u32 q.b.round, .int .u8 q.b.node, .string q.v] 40) = w0 at *
      have M0 := Lib.hid m0; have O0 := Lib.hid r0
      obtain ⟨_, _, _, _, _, q5, q6, _⟩ := r0.all
      obtain ⟨c0, c1, _, _⟩ := Row2.all m0.rp
      clear m0 r0 a1 a2 a3 a4 a5 a6 a7 a8 B0
      go_wp2_with fail
      refine (HL.out _).mono ?_; rintro e w2 ⟨rfl, b2⟩
      have M2 := Lib.hid (M0.out.below b2); have O2 := Lib.hid (O0.out.below b2)
      clear b2 q5 q6 c0 c1 M0 O0 HL
      have hV := HV.out; have hq := HOK.out
      obtain ⟨q0, _, _, _, _, q5, q6, q7⟩ := O2.out.all
      obtain ⟨c0, c1, _, _⟩ := Row2.all M2.out.rp
      obtain ⟨d0, d1, d2, d3⟩ := Row4.all M2.out.ri
      by_cases hk1' : q.kind = 1
      · cases hL : low q.b p
        · skip
          have hC := prepare_any i7 i7ok q.b _ M2.out.tab
          rw [hV.st] at hC
          unfold prR prO at hC
          simp only [hL, Bool.false_eq_true, if_false] at hC
          have HC := Lib.hid hC
          clear hC
          go_wp2_with fail
          refine HC.out.mono ?_; rintro e w4 ⟨rfl, t4, k4⟩
          have m4 := M2.out.turn t4 k4
          have o4 : RowO w4 bo q := row_keep O2.out k4 (by have := M2.out.h2; have := HBO.out; simp; omega)
          have b5 := below_alloc (below_alloc (Below.refl w4.heap.size w4) (Ac.obj a)) (Bl.obj q.b)
          have m5 := m4.below b5
          have o5 := RowO.below o4 b5
          have x5 := RowA.below (RowA.new w4 a) (below_alloc (Below.refl _ _) (Bl.obj q.b))
          have y5 := Row2.new (w4.alloc (Ac.obj a)) q.b
          rw [show (w4.alloc (Ac.obj a)).heap.size = w4.heap.size + 1 by simp] at y5
          simp only [Ac.obj, Bl.obj] at m5 o5 x5 y5
          clear b5 m4 o4 t4 k4 HC M2 O2 d0 d1 d2 d3 c0 c1 q0 q5 q6 q7
          go_upto_region 14 with (fail)
          generalize hb4 : w4.heap.size = b4 at *
          generalize (w4.alloc (.cells #[.bool a.is, .int .u32 a.b.round, .int .u8 a.b.node, .string a.v] 45)).alloc (.cells #[.int .u32 q.b.round, .int .u8 q.b.node] 38) = w5 at *
          obtain ⟨x0, x1, x2, x3, _⟩ := RowA.all x5
          obtain ⟨y0, y1, _, _⟩ := Row2.all y5
          obtain ⟨c0, c1, f1, f2⟩ := Row2.all m5.rp
          obtain ⟨e0, e1, e2, e3, g0, g1, g2, g3⟩ := RowA.all m5.ra
          obtain ⟨_, _, _, _, _, q5, q6, q7⟩ := o5.all
          have M5 := Lib.hid m5
          clear m5 y5 o5 x5
          go_upto_region 23 with (fail)
          have mt' := M5.out.setP q.b
          have vt' := hV.yes q.b a hL (.inl rfl)
          clear M5 y0 y1 c0 c1 e0 e1 e2 e3 f1 f2 g0 g1 g2 g3 q5 q6 q7
          simp only [lay2] at mt'
          generalize (w5.setCell ⟨bi + 1, 0, none⟩ (.int .u32 q.b.round)).setCell ⟨bi + 1, 1, none⟩ (.int .u8 q.b.node) = w5' at *
          obtain ⟨n2, f2, p2, a2, mt, vt, ft⟩ : ∃ n2 f2 p2 a2, PM W w5' hn gm bi n2 f2 p2 a2 ∧ PV f2 n2 p2 a2 ∧ f2 i7 = some ⟨p2, a2⟩ := ⟨_, _, _, _, mt', vt', upd_same _ _ _⟩
          clear mt' vt'
          clear hV hq HV HOK HBO
          have G := get_any i7 i7ok _ mt.tab
          rw [ft] at G
          change Calls _ _ _ _ fun e w' => e = .returned (.tuple #[p2.ag, a2.ag, .int .i64 0]) ∧ _ at G
          have HG := Lib.hid G
          obtain ⟨d0, d1, d2, d3⟩ := Row4.all mt.ri
          have MT := Lib.hid mt
          clear G mt
          go_wp2_with fail
          refine HG.out.mono ?_; rintro e w6 ⟨rfl, b6⟩
          have b7 := below_alloc (below_alloc b6 (Bl.obj p2)) (Ac.obj a2)
          have m7 := MT.out.below b7
          have x7 := Row2.below (Row2.new w6 p2) (below_alloc (Below.refl _ _) (Ac.obj a2))
          have y7 := RowA.new (w6.alloc (Bl.obj p2)) a2
          rw [show (w6.alloc (Bl.obj p2)).heap.size = w6.heap.size + 1 by simp] at y7
          simp only [Ac.obj, Bl.obj] at m7 x7 y7
          clear d0 d1 d2 d3 b6 b7 HG MT
          go_upto_region 24 with (fail)
          generalize hb6 : w6.heap.size = b6 at *
          generalize (w6.alloc (.cells #[.int .u32 p2.round, .int .u8 p2.node] 38)).alloc (.cells #[.bool a2.is, .int .u32 a2.b.round, .int .u8 a2.b.node, .string a2.v] 45) = w7 at *
          obtain ⟨x0, x1, _, _⟩ := Row2.all x7
          obtain ⟨y0, y1, y2, y3, _⟩ := RowA.all y7
          obtain ⟨c0, c1, _, _⟩ := Row2.all m7.rp
          obtain ⟨e0, e1, e2, e3, _⟩ := RowA.all m7.ra
          have M7 := Lib.hid m7
          clear m7 x7 y7
          cases his : a2.is
          · rw [his] at y0 e0
            go_wp2_with fail
            go_roundw
            case rel => exact ⟨k + 1, n2, f2, p2, a2, by go_num, by omega, by omega, M7.out, vt⟩
            case measure => simp [intOf]; omega
          · rw [his] at y0 e0
            have HL := Lib.hid (fun w => by have := less_any p2 a2.b w; rw [vt.up his] at this; exact this)
            go_wp2_with fail
            refine (HL.out _).mono ?_; rintro e w8 ⟨rfl, b8⟩
            have m8 := Lib.hid (M7.out.below b8)
            clear b8 HL x0 x1 y0 y1 y2 y3 c0 c1 e0 e1 e2 e3
            go_wp2_with fail
            go_roundw
            case rel => exact ⟨k + 1, n2, f2, p2, a2, by go_num, by omega, by omega, m8.out, vt⟩
            case measure => simp [intOf]; omega
        · skip
          have hfi := hV.there hq.b1 hq.b2 hL
          have hC := prepare_any i7 i7ok q.b _ M2.out.tab
          rw [hV.st] at hC
          unfold prR prO at hC
          simp only [hL, if_true] at hC
          have HC := Lib.hid hC
          clear hC
          go_wp2_with fail
          refine HC.out.mono ?_; rintro e w4 ⟨rfl, t4, k4⟩
          have m4 := M2.out.turn t4 k4
          have o4 : RowO w4 bo q := row_keep O2.out k4 (by have := M2.out.h2; have := HBO.out; simp; omega)
          have b5 := below_alloc (below_alloc (Below.refl w4.heap.size w4) (Ac.obj a0)) (Bl.obj p)
          have m5 := m4.below b5
          have o5 := RowO.below o4 b5
          have x5 := RowA.below (RowA.new w4 a0) (below_alloc (Below.refl _ _) (Bl.obj p))
          have y5 := Row2.new (w4.alloc (Ac.obj a0)) p
          rw [show (w4.alloc (Ac.obj a0)).heap.size = w4.heap.size + 1 by simp] at y5
          simp only [Ac.obj, Bl.obj] at m5 o5 x5 y5
          clear b5 m4 o4 t4 k4 HC M2 O2 d0 d1 d2 d3 c0 c1 q0 q5 q6 q7
          go_upto_region 14 with (fail)
          generalize hb4 : w4.heap.size = b4 at *
          generalize (w4.alloc (.cells #[.bool false, .int .u32 0, .int .u8 0, .string ⟨#[]⟩] 45)).alloc (.cells #[.int .u32 p.round, .int .u8 p.node] 38) = w5 at *
          obtain ⟨x0, x1, x2, x3, _⟩ := RowA.all x5
          obtain ⟨y0, y1, _, _⟩ := Row2.all y5
          obtain ⟨c0, c1, f1, f2⟩ := Row2.all m5.rp
          obtain ⟨e0, e1, e2, e3, g0, g1, g2, g3⟩ := RowA.all m5.ra
          obtain ⟨_, _, _, _, _, q5, q6, q7⟩ := o5.all
          have M5 := Lib.hid m5
          clear m5 y5 o5 x5
          go_upto_region 23 with (fail)
          obtain ⟨n2, f2, p2, a2, mt, vt, ft⟩ : ∃ n2 f2 p2 a2, PM W w5 hn gm bi n2 f2 p2 a2 ∧ PV f2 n2 p2 a2 ∧ f2 i7 = some ⟨p2, a2⟩ := ⟨_, _, _, _, M5.out, hV, hfi⟩
          clear M5 hfi y0 y1 c0 c1 e0 e1 e2 e3 f1 g0 g1 g2 g3 q5 q6 q7
          clear hV hq HV HOK HBO
          have G := get_any i7 i7ok _ mt.tab
          rw [ft] at G
          change Calls _ _ _ _ fun e w' => e = .returned (.tuple #[p2.ag, a2.ag, .int .i64 0]) ∧ _ at G
          have HG := Lib.hid G
          obtain ⟨d0, d1, d2, d3⟩ := Row4.all mt.ri
          have MT := Lib.hid mt
          clear G mt
          go_wp2_with fail
          refine HG.out.mono ?_; rintro e w6 ⟨rfl, b6⟩
          have b7 := below_alloc (below_alloc b6 (Bl.obj p2)) (Ac.obj a2)
          have m7 := MT.out.below b7
          have x7 := Row2.below (Row2.new w6 p2) (below_alloc (Below.refl _ _) (Ac.obj a2))
          have y7 := RowA.new (w6.alloc (Bl.obj p2)) a2
          rw [show (w6.alloc (Bl.obj p2)).heap.size = w6.heap.size + 1 by simp] at y7
          simp only [Ac.obj, Bl.obj] at m7 x7 y7
          clear d0 d1 d2 d3 b6 b7 HG MT
          go_upto_region 24 with (fail)
          generalize hb6 : w6.heap.size = b6 at *
          generalize (w6.alloc (.cells #[.int .u32 p2.round, .int .u8 p2.node] 38)).alloc (.cells #[.bool a2.is, .int .u32 a2.b.round, .int .u8 a2.b.node, .string a2.v] 45) = w7 at *
          obtain ⟨x0, x1, _, _⟩ := Row2.all x7
          obtain ⟨y0, y1, y2, y3, _⟩ := RowA.all y7
          obtain ⟨c0, c1, _, _⟩ := Row2.all m7.rp
          obtain ⟨e0, e1, e2, e3, _⟩ := RowA.all m7.ra
          have M7 := Lib.hid m7
          clear m7 x7 y7
          cases his : a2.is
          · rw [his] at y0 e0
            go_wp2_with fail
            go_roundw
            case rel => exact ⟨k + 1, n2, f2, p2, a2, by go_num, by omega, by omega, M7.out, vt⟩
            case measure => simp [intOf]; omega
          · rw [his] at y0 e0
            have HL := Lib.hid (fun w => by have := less_any p2 a2.b w; rw [vt.up his] at this; exact this)
            go_wp2_with fail
            refine (HL.out _).mono ?_; rintro e w8 ⟨rfl, b8⟩
            have m8 := Lib.hid (M7.out.below b8)
            clear b8 HL x0 x1 y0 y1 y2 y3 c0 c1 e0 e1 e2 e3
            go_wp2_with fail
            go_roundw
            case rel => exact ⟨k + 1, n2, f2, p2, a2, by go_num, by omega, by omega, m8.out, vt⟩
            case measure => simp [intOf]; omega
      · cases hL : low q.b p
        · skip
          have hC := accept_any i7 i7ok q.b q.v hq.v _ M2.out.tab
          rw [hV.st] at hC
          unfold acR acO at hC
          simp only [hL, Bool.false_eq_true, if_false] at hC
          have HC := Lib.hid hC
          clear hC
          go_wp2_with fail
          refine HC.out.mono ?_; rintro e w4 ⟨rfl, t4, k4⟩
          have m4 := M2.out.turn t4 k4
          have o4 : RowO w4 bo q := row_keep O2.out k4 (by have := M2.out.h2; have := HBO.out; simp; omega)
          have b5 := below_alloc (Below.refl w4.heap.size w4) (Bl.obj q.b)
          have m5 := m4.below b5
          have o5 := RowO.below o4 b5
          have y5 := Row2.new w4 q.b
          simp only [Bl.obj] at m5 o5 y5
          clear b5 m4 o4 t4 k4 HC M2 O2 d0 d1 d2 d3 c0 c1 q0 q5 q6 q7
          go_upto_region 17 with (fail)
          generalize hb4 : w4.heap.size = b4 at *
          generalize w4.alloc (.cells #[.int .u32 q.b.round, .int .u8 q.b.node] 38) = w5 at *
          obtain ⟨y0, y1, _, _⟩ := Row2.all y5
          obtain ⟨c0, c1, f1, f2⟩ := Row2.all m5.rp
          obtain ⟨e0, e1, e2, e3, g0, g1, g2, g3⟩ := RowA.all m5.ra
          obtain ⟨_, _, _, _, _, q5, q6, q7⟩ := o5.all
          have M5 := Lib.hid m5
          clear m5 y5 o5
          go_upto_region 23 with (fail)
          have mt' := (M5.out.setA ⟨true, q.b, q.v⟩).setP q.b
          have vt' := hV.yes q.b ⟨true, q.b, q.v⟩ hL (.inr rfl)
          clear M5 y0 y1 c0 c1 e0 e1 e2 e3 f1 f2 g0 g1 g2 g3 q5 q6 q7
          simp only [lay2, layA] at mt'
          generalize (((((w5.setCell ⟨bi + 2, 0, none⟩ (.bool true)).setCell ⟨bi + 2, 1, none⟩ (.int .u32 q.b.round)).setCell ⟨bi + 2, 2, none⟩ (.int .u8 q.b.node)).setCell ⟨bi + 2, 3, none⟩ (.string q.v)).setCell ⟨bi + 1, 0, none⟩ (.int .u32 q.b.round)).setCell ⟨bi + 1, 1, none⟩ (.int .u8 q.b.node) = w5' at *
          obtain ⟨n2, f2, p2, a2, mt, vt, ft⟩ : ∃ n2 f2 p2 a2, PM W w5' hn gm bi n2 f2 p2 a2 ∧ PV f2 n2 p2 a2 ∧ f2 i7 = some ⟨p2, a2⟩ := ⟨_, _, _, _, mt', vt', upd_same _ _ _⟩
          clear mt' vt'
          clear hV hq HV HOK HBO
          have G := get_any i7 i7ok _ mt.tab
          rw [ft] at G
          change Calls _ _ _ _ fun e w' => e = .returned (.tuple #[p2.ag, a2.ag, .int .i64 0]) ∧ _ at G
          have HG := Lib.hid G
          obtain ⟨d0, d1, d2, d3⟩ := Row4.all mt.ri
          have MT := Lib.hid mt
          clear G mt
          go_wp2_with fail
          refine HG.out.mono ?_; rintro e w6 ⟨rfl, b6⟩
          have b7 := below_alloc (below_alloc b6 (Bl.obj p2)) (Ac.obj a2)
          have m7 := MT.out.below b7
          have x7 := Row2.below (Row2.new w6 p2) (below_alloc (Below.refl _ _) (Ac.obj a2))
          have y7 := RowA.new (w6.alloc (Bl.obj p2)) a2
          rw [show (w6.alloc (Bl.obj p2)).heap.size = w6.heap.size + 1 by simp] at y7
          simp only [Ac.obj, Bl.obj] at m7 x7 y7
          clear d0 d1 d2 d3 b6 b7 HG MT
          go_upto_region 24 with (fail)
          generalize hb6 : w6.heap.size = b6 at *
          generalize (w6.alloc (.cells #[.int .u32 p2.round, .int .u8 p2.node] 38)).alloc (.cells #[.bool a2.is, .int .u32 a2.b.round, .int .u8 a2.b.node, .string a2.v] 45) = w7 at *
          obtain ⟨x0, x1, _, _⟩ := Row2.all x7
          obtain ⟨y0, y1, y2, y3, _⟩ := RowA.all y7
          obtain ⟨c0, c1, _, _⟩ := Row2.all m7.rp
          obtain ⟨e0, e1, e2, e3, _⟩ := RowA.all m7.ra
          have M7 := Lib.hid m7
          clear m7 x7 y7
          cases his : a2.is
          · rw [his] at y0 e0
            go_wp2_with fail
            go_roundw
            case rel => exact ⟨k + 1, n2, f2, p2, a2, by go_num, by omega, by omega, M7.out, vt⟩
            case measure => simp [intOf]; omega
          · rw [his] at y0 e0
            have HL := Lib.hid (fun w => by have := less_any p2 a2.b w; rw [vt.up his] at this; exact this)
            go_wp2_with fail
            refine (HL.out _).mono ?_; rintro e w8 ⟨rfl, b8⟩
            have m8 := Lib.hid (M7.out.below b8)
            clear b8 HL x0 x1 y0 y1 y2 y3 c0 c1 e0 e1 e2 e3
            go_wp2_with fail
            go_roundw
            case rel => exact ⟨k + 1, n2, f2, p2, a2, by go_num, by omega, by omega, m8.out, vt⟩
            case measure => simp [intOf]; omega
        · skip
          have hfi := hV.there hq.b1 hq.b2 hL
          have hC := accept_any i7 i7ok q.b q.v hq.v _ M2.out.tab
          rw [hV.st] at hC
          unfold acR acO at hC
          simp only [hL, if_true] at hC
          have HC := Lib.hid hC
          clear hC
          go_wp2_with fail
          refine HC.out.mono ?_; rintro e w4 ⟨rfl, t4, k4⟩
          have m4 := M2.out.turn t4 k4
          have o4 : RowO w4 bo q := row_keep O2.out k4 (by have := M2.out.h2; have := HBO.out; simp; omega)
          have b5 := below_alloc (Below.refl w4.heap.size w4) (Bl.obj p)
          have m5 := m4.below b5
          have o5 := RowO.below o4 b5
          have y5 := Row2.new w4 p
          simp only [Bl.obj] at m5 o5 y5
          clear b5 m4 o4 t4 k4 HC M2 O2 d0 d1 d2 d3 c0 c1 q0 q5 q6 q7
          go_upto_region 17 with (fail)
          generalize hb4 : w4.heap.size = b4 at *
          generalize w4.alloc (.cells #[.int .u32 p.round, .int .u8 p.node] 38) = w5 at *
          obtain ⟨y0, y1, _, _⟩ := Row2.all y5
          obtain ⟨c0, c1, f1, f2⟩ := Row2.all m5.rp
          obtain ⟨e0, e1, e2, e3, g0, g1, g2, g3⟩ := RowA.all m5.ra
          obtain ⟨_, _, _, _, _, q5, q6, q7⟩ := o5.all
          have M5 := Lib.hid m5
          clear m5 y5 o5
          go_upto_region 23 with (fail)
          obtain ⟨n2, f2, p2, a2, mt, vt, ft⟩ : ∃ n2 f2 p2 a2, PM W w5 hn gm bi n2 f2 p2 a2 ∧ PV f2 n2 p2 a2 ∧ f2 i7 = some ⟨p2, a2⟩ := ⟨_, _, _, _, M5.out, hV, hfi⟩
          clear M5 hfi y0 y1 c0 c1 e0 e1 e2 e3 f1 g0 g1 g2 g3 q5 q6 q7
          clear hV hq HV HOK HBO
          have G := get_any i7 i7ok _ mt.tab
          rw [ft] at G
          change Calls _ _ _ _ fun e w' => e = .returned (.tuple #[p2.ag, a2.ag, .int .i64 0]) ∧ _ at G
          have HG := Lib.hid G
          obtain ⟨d0, d1, d2, d3⟩ := Row4.all mt.ri
          have MT := Lib.hid mt
          clear G mt
          go_wp2_with fail
          refine HG.out.mono ?_; rintro e w6 ⟨rfl, b6⟩
          have b7 := below_alloc (below_alloc b6 (Bl.obj p2)) (Ac.obj a2)
          have m7 := MT.out.below b7
          have x7 := Row2.below (Row2.new w6 p2) (below_alloc (Below.refl _ _) (Ac.obj a2))
          have y7 := RowA.new (w6.alloc (Bl.obj p2)) a2
          rw [show (w6.alloc (Bl.obj p2)).heap.size = w6.heap.size + 1 by simp] at y7
          simp only [Ac.obj, Bl.obj] at m7 x7 y7
          clear d0 d1 d2 d3 b6 b7 HG MT
          go_upto_region 24 with (fail)
          generalize hb6 : w6.heap.size = b6 at *
          generalize (w6.alloc (.cells #[.int .u32 p2.round, .int .u8 p2.node] 38)).alloc (.cells #[.bool a2.is, .int .u32 a2.b.round, .int .u8 a2.b.node, .string a2.v] 45) = w7 at *
          obtain ⟨x0, x1, _, _⟩ := Row2.all x7
          obtain ⟨y0, y1, y2, y3, _⟩ := RowA.all y7
          obtain ⟨c0, c1, _, _⟩ := Row2.all m7.rp
          obtain ⟨e0, e1, e2, e3, _⟩ := RowA.all m7.ra
          have M7 := Lib.hid m7
          clear m7 x7 y7
          cases his : a2.is
          · rw [his] at y0 e0
            go_wp2_with fail
            go_roundw
            case rel => exact ⟨k + 1, n2, f2, p2, a2, by go_num, by omega, by omega, M7.out, vt⟩
            case measure => simp [intOf]; omega
          · rw [his] at y0 e0
            have HL := Lib.hid (fun w => by have := less_any p2 a2.b w; rw [vt.up his] at this; exact this)
            go_wp2_with fail
            refine (HL.out _).mono ?_; rintro e w8 ⟨rfl, b8⟩
            have m8 := Lib.hid (M7.out.below b8)
            clear b8 HL x0 x1 y0 y1 y2 y3 c0 c1 e0 e1 e2 e3
            go_wp2_with fail
            go_roundw
            case rel => exact ⟨k + 1, n2, f2, p2, a2, by go_num, by omega, by omega, m8.out, vt⟩
            case measure => simp [intOf]; omega
    · have HB := Lib.hid hM.bel
      clear hM hV
      by_cases h1 : k < len
      · have hd1 : (k : Int) < (len : Int) := by omega
        have hd2 : ¬ (k : Int) < 300 := by omega
        clear hlt
        go_wp2_with fail
        go_ret
        exact ⟨rfl, HB.out⟩
      · have hd1 : ¬ (k : Int) < (len : Int) := by omega
        clear hlt
        go_wp2_with fail
        go_ret
        exact ⟨rfl, HB.out⟩
end Go.Proofs.Ytgknmicblnldiaa
