/- ProposerPlays. -/
import Derived.Test.YtgfalpiifgoonaaRe
import Derived.Deep.CutRange
namespace Go.Proofs.Ytgfalpiifgoonaa
open Go.RowKit Go.Sort
set_option linter.unusedVariables false
set_option linter.unusedSectionVars false
set_option linter.unusedSimpArgs false
set_option maxRecDepth 100000

/-- both proposers and both learners, apart -/
structure WM (W w : World) (hn gm ln gl hb rb lb : Nat) (Bs : List Nat) (node n : Nat) (s : Pst) (l : Lst) (r : Rst) (rl : Rls) (c : Nat) : Prop where
  p : Pr w W.heap.size hn gm node n s
  l : Ln w W.heap.size ln gl n l c
  r : Rp w W.heap.size hb Bs node n r
  rl : RlW w W.heap.size rb lb n rl
  bel : Below W.heap.size W w
  d1 : ∀ q ∈ [hn, gm], q ∉ [ln, gl] ∧ q ∉ Bs ∧ q ∉ [rb, lb]
  d2 : ∀ q ∈ [ln, gl], q ∉ Bs ∧ q ∉ [rb, lb]
  d3 : ∀ q ∈ Bs, q ∉ [rb, lb]
section
variable {W w w' : World} {hn gm ln gl hb rb lb node n c c' : Nat} {Bs Bs' : List Nat} {s s' : Pst} {l l' : Lst} {r r' : Rst} {rl rl' : Rls}
theorem WM.lts (h : WM W w hn gm ln gl hb rb lb Bs node n s l r rl c) : ∀ q, (q ∈ [hn, gm] ∨ q ∈ [ln, gl] ∨ q ∈ Bs ∨ q ∈ [rb, lb]) → q < w.heap.size := by
  intro q hq
  rcases hq with hq | hq | hq | hq
  · simp at hq; rcases hq with rfl | rfl; exact h.p.hlt; exact h.p.glt
  · simp at hq; rcases hq with rfl | rfl; exact h.l.hlt; exact h.l.glt
  · exact (h.r.blocks q hq).2
  · simp at hq; rcases hq with rfl | rfl; exact h.rl.hlt; exact h.rl.llt
theorem WM.bases (h : WM W w hn gm ln gl hb rb lb Bs node n s l r rl c) : ∀ q, (q ∈ [hn, gm] ∨ q ∈ [ln, gl] ∨ q ∈ Bs ∨ q ∈ [rb, lb]) → W.heap.size ≤ q := by
  intro q hq
  rcases hq with hq | hq | hq | hq
  · simp at hq; rcases hq with rfl | rfl; exact h.p.base; exact h.p.gbase
  · simp at hq; rcases hq with rfl | rfl; exact h.l.base; exact h.l.gbase
  · exact (h.r.blocks q hq).1
  · simp at hq; rcases hq with rfl | rfl; exact h.rl.base; exact h.rl.lbase
theorem WM.keep {U : List Nat} (h : WM W w hn gm ln gl hb rb lb Bs node n s l r rl c) (k : Keep U w w') (hU : ∀ q, (q ∈ [hn, gm] ∨ q ∈ [ln, gl] ∨ q ∈ Bs ∨ q ∈ [rb, lb]) → q ∉ U) (hW : ∀ q ∈ U, W.heap.size ≤ q) : WM W w' hn gm ln gl hb rb lb Bs node n s l r rl c :=
  ⟨h.p.keep k (hU hn (by simp)) (hU gm (by simp)), h.l.keep k (hU ln (by simp)) (hU gl (by simp)), h.r.keep k (fun q hq => hU q (.inr (.inr (.inl hq)))), h.rl.keep k (hU rb (by simp)) (hU lb (by simp)), h.bel.trans (k.below h.bel.size hW), h.d1, h.d2, h.d3⟩
theorem WM.below (h : WM W w hn gm ln gl hb rb lb Bs node n s l r rl c) (b : Below w.heap.size w w') : WM W w' hn gm ln gl hb rb lb Bs node n s l r rl c := h.keep (Keep.of_below b []) (by simp) (by simp)
theorem WM.turnP (h : WM W w hn gm ln gl hb rb lb Bs node n s l r rl c) (hp : Pr w' W.heap.size hn gm node n s') (k : Keep [hn, gm] w w') : WM W w' hn gm ln gl hb rb lb Bs node n s' l r rl c :=
  ⟨hp, h.l.keep k (fun hm => (h.d1 _ hm).1 (by simp)) (fun hm => (h.d1 _ hm).1 (by simp)), h.r.keep k (fun q hq hm => (h.d1 q hm).2.1 hq), h.rl.keep k (fun hm => (h.d1 _ hm).2.2 (by simp)) (fun hm => (h.d1 _ hm).2.2 (by simp)), h.bel.trans (k.below h.bel.size fun q hq => h.bases q (.inl hq)), h.d1, h.d2, h.d3⟩
theorem WM.turnL (h : WM W w hn gm ln gl hb rb lb Bs node n s l r rl c) (hl : Ln w' W.heap.size ln gl n l' c') (k : Keep [ln, gl] w w') : WM W w' hn gm ln gl hb rb lb Bs node n s l' r rl c' :=
  ⟨h.p.keep k ((h.d1 hn (by simp)).1) ((h.d1 gm (by simp)).1), hl, h.r.keep k (fun q hq hm => (h.d2 q hm).1 hq), h.rl.keep k (fun hm => (h.d2 _ hm).2 (by simp)) (fun hm => (h.d2 _ hm).2 (by simp)), h.bel.trans (k.below h.bel.size fun q hq => h.bases q (.inr (.inl hq))), h.d1, h.d2, h.d3⟩
theorem WM.turnRL (h : WM W w hn gm ln gl hb rb lb Bs node n s l r rl c) (hl : RlW w' W.heap.size rb lb n rl') (k : Keep [rb, lb] w w') : WM W w' hn gm ln gl hb rb lb Bs node n s l r rl' c :=
  ⟨h.p.keep k ((h.d1 hn (by simp)).2.2) ((h.d1 gm (by simp)).2.2), h.l.keep k ((h.d2 ln (by simp)).2) ((h.d2 gl (by simp)).2), h.r.keep k (fun q hq => h.d3 q hq), hl, h.bel.trans (k.below h.bel.size fun q hq => h.bases q (.inr (.inr (.inr hq)))), h.d1, h.d2, h.d3⟩
theorem WM.turnR (h : WM W w hn gm ln gl hb rb lb Bs node n s l r rl c) (hr : Rp w' W.heap.size hb Bs' node n r') (t : Turned Bs Bs' w w') : WM W w' hn gm ln gl hb rb lb Bs' node n s l r' rl c :=
  have hl := h.lts
  have hd : ∀ q, (q ∈ [hn, gm] ∨ q ∈ [ln, gl] ∨ q ∈ [rb, lb]) → q ∉ Bs → q ∉ Bs' := fun q hq hb hb' => by
    rcases t.new q hb' with h1 | h1
    · exact hb h1
    · have := hl q (by rcases hq with h | h | h; exact .inl h; exact .inr (.inl h); exact .inr (.inr (.inr h)))
      omega
  ⟨h.p.keep t.keep ((h.d1 hn (by simp)).2.1) ((h.d1 gm (by simp)).2.1), h.l.keep t.keep ((h.d2 ln (by simp)).1) ((h.d2 gl (by simp)).1), hr, h.rl.keep t.keep (fun hm => h.d3 _ hm (by simp)) (fun hm => h.d3 _ hm (by simp)),
    h.bel.trans (t.keep.below h.bel.size fun q hq => h.bases q (.inr (.inr (.inl hq)))), fun q hq => ⟨(h.d1 q hq).1, hd q (.inl hq) (h.d1 q hq).2.1, (h.d1 q hq).2.2⟩, fun q hq => ⟨hd q (.inr (.inl hq)) (h.d2 q hq).1, (h.d2 q hq).2⟩,
    fun q hq hm => hd q (.inr (.inr hm)) (fun hb => h.d3 q hb hm) hq⟩
end
theorem WM.more {W w : World} {hn gm ln gl hb rb lb node n c : Nat} {Bs : List Nat} {s : Pst} {l : Lst} {r : Rst} {rl : Rls} (h : WM W w hn gm ln gl hb rb lb Bs node n s l r rl c) : WM W w hn gm ln gl hb rb lb Bs node n s l r rl (c + 1) :=
  ⟨h.p, LnW.more h.l (by omega), h.r, h.rl, h.bel, h.d1, h.d2, h.d3⟩
/-- a block that is none of theirs -/
theorem WM.apart {W w : World} {hn gm ln gl hb rb lb node n c bx : Nat} {Bs : List Nat} {s : Pst} {l : Lst} {r : Rst} {rl : Rls} (h : WM W w hn gm ln gl hb rb lb Bs node n s l r rl c) (hx : w.heap.size ≤ bx) : bx ∉ [hn, gm] ∧ bx ∉ [ln, gl] ∧ bx ∉ Bs ∧ bx ∉ [rb, lb] := by
  have hl := h.lts
  refine ⟨fun hm => ?_, fun hm => ?_, fun hm => ?_, fun hm => ?_⟩
  · have := hl bx (.inl hm); omega
  · have := hl bx (.inr (.inl hm)); omega
  · have := hl bx (.inr (.inr (.inl hm))); omega
  · have := hl bx (.inr (.inr (.inr hm))); omega
theorem RowR.ofRp {w : World} {B hb node n : Nat} {Bs : List Nat} {r : Rst} (h : Rp w B hb Bs node n r) : w.cell? ⟨hb, 2, none⟩ = some (.int .u32 r.bal.round) ∧ w.cell? ⟨hb, 3, none⟩ = some (.int .u8 r.bal.node) := by
  obtain ⟨fo, fc, lo, lc, rfl, h⟩ := h
  exact ⟨(RowR.all h.row).2.2.1, (RowR.all h.row).2.2.2.1⟩
set_option maxHeartbeats 32000000 in
theorem proposerPlays_law (nd0 : Int) (wnd : (Lit.int .i64 nd0).wf = true) (n0 : Int) (wn0 : (Lit.int .i64 n0).wf = true) (ao : Option Addr) (len cap : Nat) (hc : len ≤ cap) (hm : cap ≤ maxLen) (W : World) (hr : OpsRd W ao len) :
    Calls Try.prog 3 #[.int .i64 nd0, .int .i64 n0, .slice ao len cap] W (LawOk W) := by
  obtain ⟨sc, hsc⟩ := hr.fn
  have HSC := Lib.hid hsc
  have hlen : (len : Int) ≤ 9223372036854775807 := by unfold maxLen at hm; omega
  clear hr hc hm hsc wnd wn0
  by_cases hfit : 1 ≤ n0 ∧ n0 ≤ 9
  · by_cases hnd : 0 ≤ nd0 ∧ nd0 ≤ 255
    · obtain ⟨node, rfl⟩ : ∃ k : Nat, nd0 = (k : Int) := ⟨nd0.toNat, by omega⟩
      obtain ⟨n, rfl⟩ : ∃ k : Nat, n0 = (k : Int) := ⟨n0.toNat, by omega⟩
      have hn1 : 1 ≤ n := by omega
      have hn9 : n ≤ 9 := by omega
      have hn1i : (1 : Int) ≤ (n : Int) := by omega
      have hn9i : (n : Int) ≤ 9 := by omega
      have hd0 : (0 : Int) ≤ (node : Int) := by omega
      have hd255 : (node : Int) ≤ 255 := by omega
      have HN := Lib.hid (fun w => pnew_yes node n hn1 hn9 (by omega) w)
      have HL := Lib.hid (fun w => lnew_yes n hn1 hn9 w)
      have HRL := Lib.hid (fun w => rlnew_any n hn1 hn9 w)
      have HNR := Lib.hid (fun w => RpW.new w W.heap.size node n hn1 hn9 (by omega))
      clear hfit hnd
      go_enter Try.func3, Try.ntmps3
      go_wp2_with fail
      refine (HN.out _).mono ?_; rintro e w1 ⟨hn, gm, rfl, t1, b1⟩
      have T1 := Lib.hid t1; have B1 := Lib.hid b1
      clear t1 b1 HN
      go_wp2_with fail
      refine (HL.out _).mono ?_; rintro e w2 ⟨ln, gl, rfl, u2, b2⟩
      have T2 := Lib.hid (T1.out.below b2); have U2 := Lib.hid u2; have B2 := Lib.hid (below_next B1.out b2)
      have HA := Lib.hid (show hn < w1.heap.size ∧ gm < w1.heap.size ∧ w1.heap.size ≤ ln ∧ w1.heap.size ≤ gl ∧ W.heap.size ≤ w1.heap.size from ⟨T1.out.hlt, T1.out.glt, u2.base, u2.gbase, B1.out.size⟩)
      clear u2 b2 HL T1 B1
      go_wp2_with fail
      refine (alive_any _).mono ?_; rintro e w3 ⟨rfl, b3⟩
      have T3 := Lib.hid (T2.out.below b3); have U3 := Lib.hid (U2.out.below b3); have B3 := Lib.hid (below_next B2.out b3)
      clear b3 T2 U2 B2
      go_upto_region 10 with (fail)
      have b4 := below_alloc (Below.refl w3.heap.size w3) (.cells #[.int .i64 (node : Int), .int .i64 (n : Int), .int .u32 0, .int .u8 0, .string nov, .slice none 0 0, .slice none 0 0] 38)
      have R4 := Lib.hid (HNR.out w3 B3.out.size)
      have T4 := Lib.hid (T3.out.below b4); have U4 := Lib.hid (U3.out.below b4); have B4 := Lib.hid (below_next B3.out b4)
      have HB := Lib.hid (show hn < w3.heap.size ∧ gm < w3.heap.size ∧ ln < w3.heap.size ∧ gl < w3.heap.size from ⟨T3.out.hlt, T3.out.glt, U3.out.hlt, U3.out.glt⟩)
      simp only [nov] at R4 T4 U4 B4
      clear b4 T3 U3 B3 HNR
      generalize w3.alloc (.cells #[.int .i64 (node : Int), .int .i64 (n : Int), .int .u32 0, .int .u8 0, .string ⟨#[]⟩, .slice none 0 0, .slice none 0 0] 38) = w4 at *
      generalize w3.heap.size = hb at *
      go_wp2_with fail
      refine (HRL.out _).mono ?_; rintro e w5 ⟨rb, lb, rfl, v5, b5⟩
      have M5 := Lib.hid (show WM W w5 hn gm ln gl hb rb lb [hb] node n ⟨b0, noS, a0⟩ ⟨none9, a0⟩ ⟨b0, nov, [], []⟩ ⟨List.replicate n a0, false, nov⟩ 0 from by
        have ha := HA.out; have hbb := HB.out
        have hlt : hb < w4.heap.size := R4.out.hlt
        have l1 := v5.base; have l2 := v5.lbase
        have hWs : W.heap.size ≤ w4.heap.size := B4.out.size
        refine ⟨T4.out.down (Nat.le_refl _) |>.below b5, (U4.out.down ha.2.2.2.2).below b5, ⟨none, 0, none, 0, rfl, R4.out.below b5⟩, ⟨v5.row, v5.arr, v5.len, by omega, by omega, v5.ne, v5.n1, v5.n9⟩, below_next B4.out b5, ?_, ?_, ?_⟩
        · intro q hq; simp at hq ⊢; omega
        · intro q hq; simp at hq ⊢; omega
        · intro q hq; simp at hq ⊢; omega)
      clear v5 b5 R4 T4 U4 B4 HA HB HRL
      go_wp2_with fail
      go_loopw [15] (fun v15 wr => ∃ (k : Nat) (s : Pst) (l : Lst) (r : Rst) (rl : Rls) (Bs : List Nat), v15 = .int .i64 (k : Int) ∧ k ≤ len ∧ k ≤ 300 ∧ WM W wr hn gm ln gl hb rb lb Bs node n s l r rl k ∧ RelP n s r ∧ RelL n l rl) (fun v15 _ => len - (intOf v15).toNat)
      case atStart => exact ⟨0, _, _, _, _, _, rfl, by omega, by omega, M5.out, RelP.zero n, RelL.zero n hn9⟩
      case round =>
        obtain ⟨k, s, l, r, rl, Bs, rfl, hk1, hk2, hM, hRP, hRL⟩ := hrel
        clear M5
        by_cases hlt : k < len ∧ k < 300
        · obtain ⟨g, o, hao, hq, hg, hat⟩ := HSC.out k hlt.1
          subst hao
          have hlt1 : (k : Int) < (len : Int) := by omega
          have hlt2 : (k : Int) < 300 := by omega
          have hkp : (0 : Int) ≤ (k : Int) := by omega
          have hatw := hat.from hg hM.bel
          obtain ⟨q, hqe⟩ : ∃ q, q = sc k := ⟨_, rfl⟩
          rw [← hqe] at hatw hq
          have a1 := hatw 0 _ rfl; have a2 := hatw 1 _ rfl; have a3 := hatw 2 _ rfl; have a4 := hatw 3 _ rfl; have a5 := hatw 4 _ rfl; have a6 := hatw 5 _ rfl; have a7 := hatw 6 _ rfl; have a8 := hatw 7 _ rfl; have a9 := hatw 8 _ rfl; have a10 := hatw 9 _ rfl; have a11 := hatw 10 _ rfl
          rw [Nat.add_zero] at a1
          have b4 := below_alloc (below_alloc (Below.refl wr.heap.size wr) (.cells ⟨cO q⟩ 44)) (Bl.obj q.b)
          have M4 := Lib.hid (hM.below b4)
          have O4 := Lib.hid (show RowO ((wr.alloc (.cells ⟨cO q⟩ 44)).alloc (Bl.obj q.b)) wr.heap.size q from RowO.below (heap_alloc_new wr _) (below_alloc (Below.refl _ _) _))
          have Q4 := Lib.hid (show Row2 ((wr.alloc (.cells ⟨cO q⟩ 44)).alloc (Bl.obj q.b)) (wr.heap.size + 1) q.b by
            have := Row2.new (wr.alloc (.cells ⟨cO q⟩ 44)) q.b
            rw [show (wr.alloc (.cells ⟨cO q⟩ 44)).heap.size = wr.heap.size + 1 by simp] at this; exact this)
          have AP := Lib.hid (show (wr.heap.size ∉ [hn, gm] ∧ wr.heap.size ∉ [ln, gl] ∧ wr.heap.size ∉ Bs ∧ wr.heap.size ∉ [rb, lb]) ∧ (wr.heap.size + 1 ∉ [hn, gm] ∧ wr.heap.size + 1 ∉ [ln, gl] ∧ wr.heap.size + 1 ∉ Bs ∧ wr.heap.size + 1 ∉ [rb, lb]) from ⟨hM.apart (Nat.le_refl _), hM.apart (by omega)⟩)
          have HQ := Lib.hid hq; have HRP := Lib.hid hRP; have HRLq := Lib.hid hRL
          have HWB := Lib.hid (show W.heap.size ≤ wr.heap.size from hM.bel.size)
          have HLT := Lib.hid hM.lts
          clear hM hRP hRL hat hatw b4 hq hqe
          go_upto_region 16 with (fail)
          clear a1 a2 a3 a4 a5 a6 a7 a8 a9 a10 a11
          simp only [Bl.obj] at M4 O4 Q4
          generalize hbo : wr.heap.size = bo at *
          obtain ⟨w4, hw4⟩ : ∃ w4, (wr.alloc (.cells ⟨cO q⟩ 44)).alloc (.cells #[.int .u32 q.b.round, .int .u8 q.b.node] 34) = w4 := ⟨_, rfl⟩
          rw [hw4] at M4 O4 Q4
          have hw5 : (wr.alloc (.cells #[.int .i64 q.kind, .int .i64 q.from_, .int .u32 q.round, .int .u32 q.b.round, .int .u8 q.b.node, .bool q.own, .bool q.a.is, .int .u32 q.a.b.round, .int .u8 q.a.b.node, .string q.a.v, .string q.v] 44)).alloc (.cells #[.int .u32 q.b.round, .int .u8 q.b.node] 34) = w4 := hw4
          rw [hw5]
          clear hw4 hw5
          have o5 := RowO.at_ O4.out 5
          simp only [List.getElem?_cons_succ, List.getElem?_cons_zero] at o5
          obtain ⟨ow, how⟩ : ∃ ow, q.own = ow := ⟨_, rfl⟩
          rw [how] at o5
          clear how
          go_upto_if 127 with (fail)
          clear o5
          go_cut [] from 128 to 131 (fun wx => ∃ b2 : Bl, b2.Ok ∧ Row2 wx (bo + 1) b2 ∧ RowO wx bo q ∧ WM W wx hn gm ln gl hb rb lb Bs node n s l r rl k)
          case first =>
            cases ow
            rotate_left
            · skip
              obtain ⟨c2, c3⟩ := RowR.ofRp M4.out.r
              obtain ⟨y0, y1, f0, f1⟩ := Row2.all Q4.out
              go_wp2_with fail
              go_meet
              have kk := lay2_keep w4 (bo + 1) r.bal
              have hl := HLT.out
              refine ⟨r.bal, ?_, heap_setCell_same _ (bo + 1) 1 _ _ _ (heap_setCell_same w4 (bo + 1) 0 _ _ _ Q4.out), row_keep O4.out kk (by simp), M4.out.keep kk (fun q hq => by have := hl q hq; simp; omega) (fun q hq => by have := HWB.out; simp at hq; omega)⟩
              rw [← HRP.out.1]
              exact M4.out.p.bok
            · skip
              go_wp2_with fail
              go_meet
              exact ⟨q.b, HQ.out.b, Q4.out, O4.out, M4.out⟩
          case rest =>
            obtain ⟨b2, hb2, hQ2, hO2, hM2⟩ := hcut
            clear M4 O4 Q4
            have HB2 := Lib.hid hb2
            have M4 := Lib.hid hM2; have O4 := Lib.hid hO2; have Q4 := Lib.hid hQ2
            clear hb2 hQ2 hO2 hM2
            have o0 := RowO.at_ O4.out 0; have o1 := RowO.at_ O4.out 1; have o2 := RowO.at_ O4.out 2; have o6 := RowO.at_ O4.out 6; have o7 := RowO.at_ O4.out 7; have o8 := RowO.at_ O4.out 8; have o9 := RowO.at_ O4.out 9; have o10 := RowO.at_ O4.out 10
            simp only [List.getElem?_cons_succ, List.getElem?_cons_zero] at o0 o1 o2 o6 o7 o8 o9 o10
            by_cases k1 : q.kind = 1
            · rw [k1] at o0
              as_aux_lemma =>
                obtain ⟨e1, e2, RP2⟩ := HRP.out.begin_ (node := node) q.round (by have := HQ.out.r; simp [Lit.wf, IntKind.min, IntKind.max, IntKind.signed, IntKind.bits] at this; omega) q.v
                have C1 := begin_any (v := q.v) q.round HQ.out.r HQ.out.v _ M4.out.p
                have C2 := Lib.hid (fun w (h : Rp w W.heap.size hb Bs node n r) => by have := rbegin_any q.round HQ.out.r q.v w h; rw [← e1, ← e2] at this; exact this)
                have RP3 := Lib.hid RP2
                clear e1 e2 RP2
                generalize begP node s q.round q.v = p1 at *
                generalize begR node r q.round q.v = p2 at *
                simp only [Bl.ag] at C1 C2
                have HC1 := Lib.hid C1
                have E := neq_b1 p1.b
                clear C1
                go_wp2_with fail
                refine HC1.out.mono ?_; rintro e w5 ⟨rfl, t5, k5⟩
                have b6 := below_alloc (Below.refl w5.heap.size w5) (Bl.obj p1.b)
                have M6 := Lib.hid ((M4.out.turnP t5 k5).below b6)
                have O6 := Lib.hid (RowO.below (row_keep O4.out k5 AP.out.1.1) b6)
                have X6 := Lib.hid (Row2.new w5 p1.b)
                have HXB := Lib.hid (show ∀ q ∈ Bs, q < w5.heap.size from fun q hq => by have h1 := (M4.out.lts q (.inr (.inr (.inl hq)))); have := k5.size; omega)
                simp only [Bl.obj] at M6 O6 X6
                clear t5 k5 b6 M4 O4 Q4 HC1 o0 o1 o2 o6 o7 o8 o9 o10
                go_upto_region 21 with (fail)
                generalize w5.alloc (.cells #[.int .u32 p1.b.round, .int .u8 p1.b.node] 34) = w6 at *
                generalize w5.heap.size = bx at *
                have o2 := RowO.at_ O6.out 2; have o10 := RowO.at_ O6.out 10
                simp only [List.getElem?_cons_succ, List.getElem?_cons_zero] at o2 o10
                have C2' := C2.out w6 M6.out.r
                clear C2
                have HC2 := Lib.hid C2'
                clear C2'
                go_wp2_with fail
                refine HC2.out.mono ?_; rintro e w7 ⟨rfl, Bs7, t7, k7⟩
                have M7 := M6.out.turnR t7 k7
                have b8 := below_alloc (Below.refl w7.heap.size w7) (Bl.obj p1.b)
                have X8 := Lib.hid (Row2.below (show Row2 w7 bx p1.b from row_keep X6.out k7.keep (fun hm => by have := HXB.out bx hm; omega)) b8)
                have Y8 := Lib.hid (Row2.new w7 p1.b)
                have M8 := Lib.hid (M7.below b8)
                simp only [Bl.obj] at X8 Y8 M8
                clear M7 b8 t7 k7 M6 O6 X6 HC2 o2 o10
                go_upto_region 22 with (fail)
                generalize w7.alloc (.cells #[.int .u32 p1.b.round, .int .u8 p1.b.node] 34) = w8 at *
                generalize w7.heap.size = bY at *
                obtain ⟨x0, x1, _, _⟩ := Row2.all X8.out
                obtain ⟨y0, y1, _, _⟩ := Row2.all Y8.out
                go_upto_region 34 with (fail)
                clear x0 x1 y0 y1 E X8 Y8
                obtain ⟨s9, l9, r9, rl9, Bs9, m9, rp9, rll9⟩ : ∃ s9 l9 r9 rl9 Bs9, WM W w8 hn gm ln gl hb rb lb Bs9 node n s9 l9 r9 rl9 (k + 1) ∧ RelP n s9 r9 ∧ RelL n l9 rl9 := ⟨_, _, _, _, _, M8.out.more, RP3.out, HRLq.out⟩
                clear M8 RP3 HRLq HRP
                have hz : ∃ bz, (s9.bal.round != 0) = bz ∧ decide (0 < s9.bal.round) = bz := by
                  have h0 : 0 ≤ s9.bal.round := by rw [rp9.1]; exact rp9.2.1
                  by_cases h : s9.bal.round = 0
                  · exact ⟨false, by simp [h], by simp [h]⟩
                  · exact ⟨true, by simpa using h, by simp; omega⟩
                obtain ⟨bz, hz1, hz2⟩ := hz
                have CB := ballot_any _ m9.p
                rw [hz1] at CB
                simp only [Bl.ag] at CB
                have HCB := Lib.hid CB
                have RP9 := Lib.hid rp9; have RL9 := Lib.hid rll9; have M9 := Lib.hid m9
                clear CB rp9 rll9 m9 hz1
                go_wp2_with fail
                refine HCB.out.mono ?_; rintro e wa ⟨rfl, ba⟩
                have bb := below_alloc ba (Bl.obj s9.bal)
                have Ma := Lib.hid (M9.out.below bb)
                have Xa := Lib.hid (Row2.new wa s9.bal)
                simp only [Bl.obj] at Ma Xa
                clear ba bb M9 HCB
                go_upto_region 35 with (fail)
                generalize wa.alloc (.cells #[.int .u32 s9.bal.round, .int .u8 s9.bal.node] 34) = wb at *
                generalize wa.heap.size = ba at *
                go_wp2_with fail
                refine (chosen_any _ Ma.out.l).mono ?_; rintro e wd ⟨rfl, bd⟩
                have Mb := Lib.hid (Ma.out.below bd)
                have Xb := Lib.hid (Row2.below Xa.out bd)
                clear bd Ma Xa
                go_upto_region 36 with (fail)
                obtain ⟨y0, y1, _, _⟩ := Row2.all Xb.out
                obtain ⟨c2, c3⟩ := RowR.ofRp Mb.out.r
                rw [← RP9.out.1] at c2 c3
                obtain ⟨_, d1, d2⟩ := Mb.out.rl.all
                rw [RL9.out.1] at d1
                rw [RL9.out.2.1] at d2
                have x0 := cell_regrown y0; have x1 := cell_regrown y1; have x2 := cell_regrown c2; have x3 := cell_regrown c3; have x4 := cell_regrown d1; have x5 := cell_regrown d2
                have E := neq_b1 s9.bal
                clear y0 y1 c2 c3 d1 d2
                refine wp_region_quiet_below (by kernel_rfl) (by kernel_rfl) ?_
                repeat (go_big_quiet_step (fail))
                refine wpQuiet_nil ?_
                intro _ hw'
                obtain ⟨⟨dq, osq⟩, hw''⟩ := hw'
                subst hw''
                have Mc := Lib.hid (Mb.out.below (below_regrown wd dq osq))
                clear x0 x1 x2 x3 x4 x5 E Mb Xb hz2
                generalize grow (redrawn wd dq) osq = we at *
                go_wp2_with fail
                go_roundw
                case rel => exact ⟨k + 1, s9, l9, r9, rl9, Bs9, by go_num, by omega, by omega, Mc.out, RP9.out, RL9.out⟩
                case measure => simp [intOf]; omega
            · by_cases k2 : q.kind = 2
              · rw [k2] at o0
                as_aux_lemma =>
                  obtain ⟨e1, e2, RP2⟩ := HRP.out.prm q.from_ b2 q.a
                  have C1 := promise_any (a := q.a) q.from_ HQ.out.f HB2.out HQ.out.av _ M4.out.p
                  have hfew := HRP.out.few hn9
                  have hr0 := HRP.out.2.1
                  have C2 := Lib.hid (fun w (h : Rp w W.heap.size hb Bs node n r) (hB : W.heap.size ≤ w.heap.size) => by have := rpromise_any (b := b2) (a := q.a) q.from_ HQ.out.f w h hr0 hB hfew; rw [← e1, ← e2] at this; exact this)
                  have RP3 := Lib.hid RP2
                  clear e1 e2 RP2 hfew hr0
                  generalize prmP n s q.from_ b2 q.a = p1 at *
                  generalize rprm n r q.from_ b2 q.a = p2 at *
                  simp only [Bl.ag, Ac.ag] at C1 C2
                  have HC1 := Lib.hid C1
                  clear C1
                  obtain ⟨y0, y1, _, _⟩ := Row2.all Q4.out
                  go_wp2_with fail
                  refine HC1.out.mono ?_; rintro e w6 ⟨rfl, t5, k5⟩
                  have M6 := Lib.hid (M4.out.turnP t5 k5)
                  have O6 := Lib.hid (show RowO w6 bo q from row_keep O4.out k5 AP.out.1.1)
                  have Q6 := Lib.hid (show Row2 w6 (bo + 1) b2 from row_keep Q4.out k5 AP.out.2.1)
                  clear t5 k5 M4 O4 Q4 HC1 o0 o1 o2 o6 o7 o8 o9 o10 y0 y1
                  have o1 := RowO.at_ O6.out 1; have o6 := RowO.at_ O6.out 6; have o7 := RowO.at_ O6.out 7; have o8 := RowO.at_ O6.out 8; have o9 := RowO.at_ O6.out 9
                  simp only [List.getElem?_cons_succ, List.getElem?_cons_zero] at o1 o6 o7 o8 o9
                  obtain ⟨y0, y1, _, _⟩ := Row2.all Q6.out
                  have C2' := C2.out w6 M6.out.r M6.out.bel.size
                  clear C2
                  have HC2 := Lib.hid C2'
                  clear C2'
                  go_upto_region 26 with (fail)
                  go_wp2_with fail
                  refine HC2.out.mono ?_; rintro e w8 ⟨rfl, Bs7, t7, k7⟩
                  have M8 := Lib.hid (M6.out.turnR t7 k7)
                  clear t7 k7 M6 O6 Q6 HC2 o1 o6 o7 o8 o9 y0 y1
                  go_upto_region 34 with (fail)
                  obtain ⟨s9, l9, r9, rl9, Bs9, m9, rp9, rll9⟩ : ∃ s9 l9 r9 rl9 Bs9, WM W w8 hn gm ln gl hb rb lb Bs9 node n s9 l9 r9 rl9 (k + 1) ∧ RelP n s9 r9 ∧ RelL n l9 rl9 := ⟨_, _, _, _, _, M8.out.more, RP3.out, HRLq.out⟩
                  clear M8 RP3 HRLq HRP
                  have hz : ∃ bz, (s9.bal.round != 0) = bz ∧ decide (0 < s9.bal.round) = bz := by
                    have h0 : 0 ≤ s9.bal.round := by rw [rp9.1]; exact rp9.2.1
                    by_cases h : s9.bal.round = 0
                    · exact ⟨false, by simp [h], by simp [h]⟩
                    · exact ⟨true, by simpa using h, by simp; omega⟩
                  obtain ⟨bz, hz1, hz2⟩ := hz
                  have CB := ballot_any _ m9.p
                  rw [hz1] at CB
                  simp only [Bl.ag] at CB
                  have HCB := Lib.hid CB
                  have RP9 := Lib.hid rp9; have RL9 := Lib.hid rll9; have M9 := Lib.hid m9
                  clear CB rp9 rll9 m9 hz1
                  go_wp2_with fail
                  refine HCB.out.mono ?_; rintro e wa ⟨rfl, ba⟩
                  have bb := below_alloc ba (Bl.obj s9.bal)
                  have Ma := Lib.hid (M9.out.below bb)
                  have Xa := Lib.hid (Row2.new wa s9.bal)
                  simp only [Bl.obj] at Ma Xa
                  clear ba bb M9 HCB
                  go_upto_region 35 with (fail)
                  generalize wa.alloc (.cells #[.int .u32 s9.bal.round, .int .u8 s9.bal.node] 34) = wb at *
                  generalize wa.heap.size = ba at *
                  go_wp2_with fail
                  refine (chosen_any _ Ma.out.l).mono ?_; rintro e wd ⟨rfl, bd⟩
                  have Mb := Lib.hid (Ma.out.below bd)
                  have Xb := Lib.hid (Row2.below Xa.out bd)
                  clear bd Ma Xa
                  go_upto_region 36 with (fail)
                  obtain ⟨y0, y1, _, _⟩ := Row2.all Xb.out
                  obtain ⟨c2, c3⟩ := RowR.ofRp Mb.out.r
                  rw [← RP9.out.1] at c2 c3
                  obtain ⟨_, d1, d2⟩ := Mb.out.rl.all
                  rw [RL9.out.1] at d1
                  rw [RL9.out.2.1] at d2
                  have x0 := cell_regrown y0; have x1 := cell_regrown y1; have x2 := cell_regrown c2; have x3 := cell_regrown c3; have x4 := cell_regrown d1; have x5 := cell_regrown d2
                  have E := neq_b1 s9.bal
                  clear y0 y1 c2 c3 d1 d2
                  refine wp_region_quiet_below (by kernel_rfl) (by kernel_rfl) ?_
                  repeat (go_big_quiet_step (fail))
                  refine wpQuiet_nil ?_
                  intro _ hw'
                  obtain ⟨⟨dq, osq⟩, hw''⟩ := hw'
                  subst hw''
                  have Mc := Lib.hid (Mb.out.below (below_regrown wd dq osq))
                  clear x0 x1 x2 x3 x4 x5 E Mb Xb hz2
                  generalize grow (redrawn wd dq) osq = we at *
                  go_wp2_with fail
                  go_roundw
                  case rel => exact ⟨k + 1, s9, l9, r9, rl9, Bs9, by go_num, by omega, by omega, Mc.out, RP9.out, RL9.out⟩
                  case measure => simp [intOf]; omega
              · by_cases k3 : q.kind = 3
                · rw [k3] at o0
                  as_aux_lemma =>
                    obtain ⟨e1, e2, RL2⟩ := HRLq.out.acc q.from_ b2 q.v
                    have C1 := accepted_any (b := b2) (v := q.v) q.from_ HRLq.out.2.2.2.1 HB2.out HQ.out.v (by omega) _ M4.out.l
                    have C2 := Lib.hid (fun w (h : RlW w W.heap.size rb lb n rl) => by have := racc_any (b := b2) (v := q.v) q.from_ w h; rw [← e1, ← e2] at this; exact this)
                    have RL3 := Lib.hid RL2
                    clear e1 e2 RL2
                    generalize accL n l q.from_ b2 q.v = p1 at *
                    generalize raccL n rl q.from_ b2 q.v = p2 at *
                    simp only [Bl.ag] at C1 C2
                    have HC1 := Lib.hid C1
                    clear C1
                    obtain ⟨y0, y1, _, _⟩ := Row2.all Q4.out
                    go_wp2_with fail
                    refine HC1.out.mono ?_; rintro e w6 ⟨rfl, t5, k5⟩
                    have M6 := Lib.hid (M4.out.turnL t5 k5)
                    have O6 := Lib.hid (show RowO w6 bo q from row_keep O4.out k5 AP.out.1.2.1)
                    have Q6 := Lib.hid (show Row2 w6 (bo + 1) b2 from row_keep Q4.out k5 AP.out.2.2.1)
                    clear t5 k5 M4 O4 Q4 HC1 o0 o1 o2 o6 o7 o8 o9 o10 y0 y1
                    have o1 := RowO.at_ O6.out 1; have o10 := RowO.at_ O6.out 10
                    simp only [List.getElem?_cons_succ, List.getElem?_cons_zero] at o1 o10
                    obtain ⟨y0, y1, _, _⟩ := Row2.all Q6.out
                    have C2' := C2.out w6 M6.out.rl
                    clear C2
                    have HC2 := Lib.hid C2'
                    clear C2'
                    go_upto_region 31 with (fail)
                    go_wp2_with fail
                    refine HC2.out.mono ?_; rintro e w8 ⟨rfl, t7, k7⟩
                    have M8 := Lib.hid (M6.out.turnRL t7 k7)
                    clear t7 k7 M6 O6 Q6 HC2 o1 o10 y0 y1
                    go_upto_region 34 with (fail)
                    obtain ⟨s9, l9, r9, rl9, Bs9, m9, rp9, rll9⟩ : ∃ s9 l9 r9 rl9 Bs9, WM W w8 hn gm ln gl hb rb lb Bs9 node n s9 l9 r9 rl9 (k + 1) ∧ RelP n s9 r9 ∧ RelL n l9 rl9 := ⟨_, _, _, _, _, M8.out, HRP.out, RL3.out⟩
                    clear M8 RL3 HRLq HRP
                    have hz : ∃ bz, (s9.bal.round != 0) = bz ∧ decide (0 < s9.bal.round) = bz := by
                      have h0 : 0 ≤ s9.bal.round := by rw [rp9.1]; exact rp9.2.1
                      by_cases h : s9.bal.round = 0
                      · exact ⟨false, by simp [h], by simp [h]⟩
                      · exact ⟨true, by simpa using h, by simp; omega⟩
                    obtain ⟨bz, hz1, hz2⟩ := hz
                    have CB := ballot_any _ m9.p
                    rw [hz1] at CB
                    simp only [Bl.ag] at CB
                    have HCB := Lib.hid CB
                    have RP9 := Lib.hid rp9; have RL9 := Lib.hid rll9; have M9 := Lib.hid m9
                    clear CB rp9 rll9 m9 hz1
                    go_wp2_with fail
                    refine HCB.out.mono ?_; rintro e wa ⟨rfl, ba⟩
                    have bb := below_alloc ba (Bl.obj s9.bal)
                    have Ma := Lib.hid (M9.out.below bb)
                    have Xa := Lib.hid (Row2.new wa s9.bal)
                    simp only [Bl.obj] at Ma Xa
                    clear ba bb M9 HCB
                    go_upto_region 35 with (fail)
                    generalize wa.alloc (.cells #[.int .u32 s9.bal.round, .int .u8 s9.bal.node] 34) = wb at *
                    generalize wa.heap.size = ba at *
                    go_wp2_with fail
                    refine (chosen_any _ Ma.out.l).mono ?_; rintro e wd ⟨rfl, bd⟩
                    have Mb := Lib.hid (Ma.out.below bd)
                    have Xb := Lib.hid (Row2.below Xa.out bd)
                    clear bd Ma Xa
                    go_upto_region 36 with (fail)
                    obtain ⟨y0, y1, _, _⟩ := Row2.all Xb.out
                    obtain ⟨c2, c3⟩ := RowR.ofRp Mb.out.r
                    rw [← RP9.out.1] at c2 c3
                    obtain ⟨_, d1, d2⟩ := Mb.out.rl.all
                    rw [RL9.out.1] at d1
                    rw [RL9.out.2.1] at d2
                    have x0 := cell_regrown y0; have x1 := cell_regrown y1; have x2 := cell_regrown c2; have x3 := cell_regrown c3; have x4 := cell_regrown d1; have x5 := cell_regrown d2
                    have E := neq_b1 s9.bal
                    clear y0 y1 c2 c3 d1 d2
                    refine wp_region_quiet_below (by kernel_rfl) (by kernel_rfl) ?_
                    repeat (go_big_quiet_step (fail))
                    refine wpQuiet_nil ?_
                    intro _ hw'
                    obtain ⟨⟨dq, osq⟩, hw''⟩ := hw'
                    subst hw''
                    have Mc := Lib.hid (Mb.out.below (below_regrown wd dq osq))
                    clear x0 x1 x2 x3 x4 x5 E Mb Xb hz2
                    generalize grow (redrawn wd dq) osq = we at *
                    go_wp2_with fail
                    go_roundw
                    case rel => exact ⟨k + 1, s9, l9, r9, rl9, Bs9, by go_num, by omega, by omega, Mc.out, RP9.out, RL9.out⟩
                    case measure => simp [intOf]; omega
                · as_aux_lemma =>
                    go_upto_region 34 with (fail)
                    obtain ⟨w8, hw8⟩ : ∃ w8, wc = w8 := ⟨_, rfl⟩
                    rw [hw8] at M4 ⊢
                    obtain ⟨s9, l9, r9, rl9, Bs9, m9, rp9, rll9⟩ : ∃ s9 l9 r9 rl9 Bs9, WM W w8 hn gm ln gl hb rb lb Bs9 node n s9 l9 r9 rl9 (k + 1) ∧ RelP n s9 r9 ∧ RelL n l9 rl9 := ⟨_, _, _, _, _, M4.out.more, HRP.out, HRLq.out⟩
                    clear M4 O4 Q4 HRLq HRP o0 o1 o2 o6 o7 o8 o9 o10 hw8
                    have hz : ∃ bz, (s9.bal.round != 0) = bz ∧ decide (0 < s9.bal.round) = bz := by
                      have h0 : 0 ≤ s9.bal.round := by rw [rp9.1]; exact rp9.2.1
                      by_cases h : s9.bal.round = 0
                      · exact ⟨false, by simp [h], by simp [h]⟩
                      · exact ⟨true, by simpa using h, by simp; omega⟩
                    obtain ⟨bz, hz1, hz2⟩ := hz
                    have CB := ballot_any _ m9.p
                    rw [hz1] at CB
                    simp only [Bl.ag] at CB
                    have HCB := Lib.hid CB
                    have RP9 := Lib.hid rp9; have RL9 := Lib.hid rll9; have M9 := Lib.hid m9
                    clear CB rp9 rll9 m9 hz1
                    go_wp2_with fail
                    refine HCB.out.mono ?_; rintro e wa ⟨rfl, ba⟩
                    have bb := below_alloc ba (Bl.obj s9.bal)
                    have Ma := Lib.hid (M9.out.below bb)
                    have Xa := Lib.hid (Row2.new wa s9.bal)
                    simp only [Bl.obj] at Ma Xa
                    clear ba bb M9 HCB
                    go_upto_region 35 with (fail)
                    generalize wa.alloc (.cells #[.int .u32 s9.bal.round, .int .u8 s9.bal.node] 34) = wb at *
                    generalize wa.heap.size = ba at *
                    go_wp2_with fail
                    refine (chosen_any _ Ma.out.l).mono ?_; rintro e wd ⟨rfl, bd⟩
                    have Mb := Lib.hid (Ma.out.below bd)
                    have Xb := Lib.hid (Row2.below Xa.out bd)
                    clear bd Ma Xa
                    go_upto_region 36 with (fail)
                    obtain ⟨y0, y1, _, _⟩ := Row2.all Xb.out
                    obtain ⟨c2, c3⟩ := RowR.ofRp Mb.out.r
                    rw [← RP9.out.1] at c2 c3
                    obtain ⟨_, d1, d2⟩ := Mb.out.rl.all
                    rw [RL9.out.1] at d1
                    rw [RL9.out.2.1] at d2
                    have x0 := cell_regrown y0; have x1 := cell_regrown y1; have x2 := cell_regrown c2; have x3 := cell_regrown c3; have x4 := cell_regrown d1; have x5 := cell_regrown d2
                    have E := neq_b1 s9.bal
                    clear y0 y1 c2 c3 d1 d2
                    refine wp_region_quiet_below (by kernel_rfl) (by kernel_rfl) ?_
                    repeat (go_big_quiet_step (fail))
                    refine wpQuiet_nil ?_
                    intro _ hw'
                    obtain ⟨⟨dq, osq⟩, hw''⟩ := hw'
                    subst hw''
                    have Mc := Lib.hid (Mb.out.below (below_regrown wd dq osq))
                    clear x0 x1 x2 x3 x4 x5 E Mb Xb hz2
                    generalize grow (redrawn wd dq) osq = we at *
                    go_wp2_with fail
                    go_roundw
                    case rel => exact ⟨k + 1, s9, l9, r9, rl9, Bs9, by go_num, by omega, by omega, Mc.out, RP9.out, RL9.out⟩
                    case measure => simp [intOf]; omega
        · have HB := Lib.hid hM.bel
          clear hM hRP hRL
          by_cases h1 : k < len
          · have h2 : ¬ k < 300 := fun h => hlt ⟨h1, h⟩
            have h1i : (k : Int) < (len : Int) := by omega
            have h2i : (300 : Int) ≤ (k : Int) := by omega
            clear hlt
            go_wp2_with fail
            go_ret
            exact ⟨rfl, HB.out⟩
          · have h1i : (len : Int) ≤ (k : Int) := by omega
            clear hlt
            go_wp2_with fail
            go_ret
            exact ⟨rfl, HB.out⟩
    · have hnd2 : nd0 < 0 ∨ 255 < nd0 := by omega
      obtain ⟨n, rfl⟩ : ∃ k : Nat, n0 = (k : Int) := ⟨n0.toNat, by omega⟩
      have hn1i : (1 : Int) ≤ (n : Int) := by omega
      have hn9i : (n : Int) ≤ 9 := by omega
      have HN := Lib.hid (fun w => pnew_no nd0 (n : Int) (by omega) w)
      have HL := Lib.hid (fun w => lnew_yes n (by omega) (by omega) w)
      clear hfit hnd
      rcases hnd2 with hnd2 | hnd2
      · skip
        go_enter Try.func3, Try.ntmps3
        go_wp2_with fail
        refine (HN.out _).mono ?_; rintro e w1 ⟨rfl, rfl⟩
        go_wp2_with fail
        refine (HL.out _).mono ?_; rintro e w2 ⟨ln, gl, rfl, u2, b2⟩
        have B2 := Lib.hid b2
        clear u2 b2 HL HN
        go_wp2_with fail
        refine (alive_any _).mono ?_; rintro e w3 ⟨rfl, b3⟩
        have B3 := Lib.hid (below_next B2.out b3)
        clear b3 B2
        go_wp2_with fail
        go_ret
        exact ⟨rfl, B3.out⟩
      · have hnd3 : (0 : Int) ≤ nd0 := by omega
        have hnd4 : decide (nd0 ≤ 255) = false := decide_eq_false (by omega)
        go_enter Try.func3, Try.ntmps3
        go_wp2_with fail
        refine (HN.out _).mono ?_; rintro e w1 ⟨rfl, rfl⟩
        go_wp2_with fail
        refine (HL.out _).mono ?_; rintro e w2 ⟨ln, gl, rfl, u2, b2⟩
        have B2 := Lib.hid b2
        clear u2 b2 HL HN
        go_wp2_with fail
        refine (alive_any _).mono ?_; rintro e w3 ⟨rfl, b3⟩
        have B3 := Lib.hid (below_next B2.out b3)
        clear b3 B2
        go_wp2_with fail
        go_ret
        exact ⟨rfl, B3.out⟩
  · have HN := Lib.hid (fun w => pnew_no nd0 n0 (by omega) w)
    have HL := Lib.hid (fun w => lnew_no n0 hfit w)
    have hfi : n0 < 1 ∨ 9 < n0 := by omega
    clear hfit
    rcases hfi with hfi | hfi
    · skip
      go_enter Try.func3, Try.ntmps3
      go_wp2_with fail
      refine (HN.out _).mono ?_; rintro e w1 ⟨rfl, rfl⟩
      go_wp2_with fail
      refine (HL.out _).mono ?_; rintro e w2 ⟨rfl, rfl⟩
      clear HL HN
      go_wp2_with fail
      refine (alive_any _).mono ?_; rintro e w3 ⟨rfl, b3⟩
      have B3 := Lib.hid b3
      clear b3
      go_wp2_with fail
      go_ret
      exact ⟨rfl, B3.out⟩
    · have hfi2 : (1 : Int) ≤ n0 := by omega
      go_enter Try.func3, Try.ntmps3
      go_wp2_with fail
      refine (HN.out _).mono ?_; rintro e w1 ⟨rfl, rfl⟩
      go_wp2_with fail
      refine (HL.out _).mono ?_; rintro e w2 ⟨rfl, rfl⟩
      clear HL HN
      go_wp2_with fail
      refine (alive_any _).mono ?_; rintro e w3 ⟨rfl, b3⟩
      have B3 := Lib.hid b3
      clear b3
      go_wp2_with fail
      go_ret
      exact ⟨rfl, B3.out⟩
end Go.Proofs.Ytgfalpiifgoonaa
