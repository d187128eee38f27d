/- Begin, Ballot. -/
import Derived.Test.YtgfalpiifgoonaaPp
namespace Go.Proofs.Ytgfalpiifgoonaa
open Go.RowKit Go.Sort
set_option linter.unusedVariables false
set_option linter.unusedSectionVars false
set_option maxRecDepth 100000

/-- a proposer's block -/
abbrev RowP (w : World) (hn node n : Nat) (bal : Bl) (gm : Nat) (best : Ac) : Prop :=
  w.heap[hn]? = some (.cells #[.int .u8 (node : Int), .int .i64 (n : Int), .int .u32 bal.round, .int .u8 bal.node, .map (some gm), .bool best.is, .int .u32 best.b.round, .int .u8 best.b.node, .string best.v] 86 (0, 0))
abbrev layP (w : World) (hn : Nat) (b : Bl) : World := (w.setCell ⟨hn, 2, none⟩ (.int .u32 b.round)).setCell ⟨hn, 3, none⟩ (.int .u8 b.node)
abbrev layQ (w : World) (hn : Nat) (a : Ac) : World := (((w.setCell ⟨hn, 5, none⟩ (.bool a.is)).setCell ⟨hn, 6, none⟩ (.int .u32 a.b.round)).setCell ⟨hn, 7, none⟩ (.int .u8 a.b.node)).setCell ⟨hn, 8, none⟩ (.string a.v)
section
variable {w w' : World} {B hn gm node n : Nat} {bal b : Bl} {S : Nat → Bool} {best a : Ac}
theorem RowP.lt (h : RowP w hn node n bal gm best) : hn < w.heap.size := (Array.getElem?_eq_some_iff.1 h).1
theorem RowP.below (h : RowP w hn node n bal gm best) (k : Below w.heap.size w w') : RowP w' hn node n bal gm best := (k.block hn (RowP.lt h)).trans h
theorem RowP.all (h : RowP w hn node n bal gm best) : w.cell? ⟨hn, 0, none⟩ = some (.int .u8 (node : Int)) ∧ w.cell? ⟨hn, 1, none⟩ = some (.int .i64 (n : Int)) ∧ w.cell? ⟨hn, 2, none⟩ = some (.int .u32 bal.round) ∧ w.cell? ⟨hn, 3, none⟩ = some (.int .u8 bal.node) ∧ w.cell? ⟨hn, 4, none⟩ = some (.map (some gm)) ∧
    w.cell? ⟨hn, 5, none⟩ = some (.bool best.is) ∧ w.cell? ⟨hn, 6, none⟩ = some (.int .u32 best.b.round) ∧ w.cell? ⟨hn, 7, none⟩ = some (.int .u8 best.b.node) ∧ w.cell? ⟨hn, 8, none⟩ = some (.string best.v) :=
  ⟨cell_of_row w hn 0 _ _ (0, 0) h, cell_of_row w hn 1 _ _ (0, 0) h, cell_of_row w hn 2 _ _ (0, 0) h, cell_of_row w hn 3 _ _ (0, 0) h, cell_of_row w hn 4 _ _ (0, 0) h, cell_of_row w hn 5 _ _ (0, 0) h, cell_of_row w hn 6 _ _ (0, 0) h, cell_of_row w hn 7 _ _ (0, 0) h, cell_of_row w hn 8 _ _ (0, 0) h⟩
theorem RowP.fr (h : RowP w hn node n bal gm best) (i : Nat) : w.frozen? ⟨hn, i, none⟩ = false := frozen_of_row w hn i _ _ h
theorem layP_row (h : RowP w hn node n bal gm best) : RowP (layP w hn b) hn node n b gm best := heap_setCell_same _ hn 3 _ _ _ (heap_setCell_same w hn 2 _ _ _ h)
theorem layQ_row (h : RowP w hn node n bal gm best) : RowP (layQ w hn a) hn node n bal gm a :=
  heap_setCell_same _ hn 8 _ _ _ (heap_setCell_same _ hn 7 _ _ _ (heap_setCell_same _ hn 6 _ _ _ (heap_setCell_same w hn 5 _ _ _ h)))
theorem layP_keep (w : World) (hn : Nat) (b : Bl) : Keep [hn] w (layP w hn b) := (Keep.setCell w ⟨hn, 2, none⟩ _).trans (Keep.setCell _ ⟨hn, 3, none⟩ _)
theorem layQ_keep (w : World) (hn : Nat) (a : Ac) : Keep [hn] w (layQ w hn a) :=
  (((Keep.setCell w ⟨hn, 5, none⟩ _).trans (Keep.setCell _ ⟨hn, 6, none⟩ _)).trans (Keep.setCell _ ⟨hn, 7, none⟩ _)).trans (Keep.setCell _ ⟨hn, 8, none⟩ _)
theorem lay2_new (w : World) (o : Obj) (b : Bl) : Below w.heap.size w (lay2 (w.alloc o) w.heap.size b) :=
  (below_alloc (Below.refl _ _) o).trans ((lay2_keep (w.alloc o) w.heap.size b).below (by simp) (by simp))
set_option maxHeartbeats 800000 in
theorem begin_nil (r : Int) (v : ByteArray) (w : World) : Calls Try.prog 12 #[.pointer none, .int .u32 r, .string v] w fun e w' => e = .returned (.tuple #[b0.ag, .int .i64 1]) ∧ Below w.heap.size w w' := by
  go_enter Try.func12, Try.ntmps12
  go_wp2_with fail
  refine bodyPost_ret (v := .tuple #[b0.ag, .int .i64 1]) (res_c1t1 Try.results12 rfl ?_ rfl) rfl ⟨rfl, ?_⟩
  · go_simp
  · exact below_alloc (Below.refl _ _) _
set_option maxHeartbeats 800000 in
theorem begin_arg (v : ByteArray) (w : World) (h : PrW w B hn gm node n bal S best) : Calls Try.prog 12 #[.pointer (some ⟨hn, 0, none⟩), .int .u32 0, .string v] w fun e w' => e = .returned (.tuple #[b0.ag, .int .i64 1]) ∧ Below w.heap.size w w' := by
  clear h
  go_enter Try.func12, Try.ntmps12
  go_wp2_with fail
  refine bodyPost_ret (v := .tuple #[b0.ag, .int .i64 1]) (res_c1t1 Try.results12 rfl ?_ rfl) rfl ⟨rfl, ?_⟩
  · go_simp
  · exact below_alloc (Below.refl _ _) _
set_option maxHeartbeats 800000 in
theorem begin_state (r : Int) (hr : 0 < r) (hb : r ≤ bal.round) (v : ByteArray) (w : World) (h : PrW w B hn gm node n bal S best) : Calls Try.prog 12 #[.pointer (some ⟨hn, 0, none⟩), .int .u32 r, .string v] w fun e w' => e = .returned (.tuple #[b0.ag, .int .i64 111]) ∧ Below w.heap.size w w' := by
  have c2 := (h.below (below_alloc (Below.refl _ _) (Bl.obj b0))).all.2.2.1
  have hd : decide (r ≤ bal.round) = true := decide_eq_true hb
  clear h
  simp only [Bl.obj] at c2
  go_enter Try.func12, Try.ntmps12
  go_wp2_with fail
  refine bodyPost_ret (v := .tuple #[b0.ag, .int .i64 111]) (res_c1t1 Try.results12 rfl ?_ rfl) rfl ⟨rfl, ?_⟩
  · go_simp
  · exact below_alloc (Below.refl _ _) _
/-- those below k -/
def lo (k : Nat) : Nat → Bool := fun j => decide (j < k)
theorem cnt_lo (n k : Nat) (h : k ≤ n) : cnt n (lo k) = k := by
  induction n with
  | zero => obtain rfl : k = 0 := by omega
            rfl
  | succ n ih =>
    rw [cnt_succ]
    by_cases e : k = n + 1
    · subst e
      rw [cnt_congr (T := fun _ => true) (fun j hj => by simp [lo]; omega), cnt_all]
      simp [lo]
    · rw [ih (by omega)]
      have : lo k n = false := by simp [lo]; omega
      simp [this]
theorem aw_lo (n : Nat) (b : Bl) (k : Nat) (hk : k < n) (p : Pk) : aw n b (lo (k + 1)) p = up (aw n b (lo k)) ⟨(k : Int), b⟩ (some ()) p := by
  obtain ⟨fr, pb⟩ := p
  by_cases e : (⟨fr, pb⟩ : Pk) = ⟨(k : Int), b⟩
  · rw [e, up_same]
    simp [aw, lo]; omega
  · rw [up_other _ _ e]
    simp only [Pk.mk.injEq] at e
    simp only [aw, lo, decide_eq_true_eq]
    by_cases hb : pb = b
    · subst hb
      have : ¬ fr = k := fun h => e ⟨h, rfl⟩
      by_cases h0 : 0 ≤ fr
      · have : fr.toNat < k + 1 ↔ fr.toNat < k := by omega
        simp [this]
      · simp [h0]
    · simp [hb]
set_option maxHeartbeats 3200000 in
theorem begin_ok (r : Int) (hr : 0 < r) (hr2 : (Lit.int .u32 r).wf = true) (hb : bal.round < r) (v : ByteArray) (hv : v.size ≤ 281474976710656) (w : World) (h : PrW w B hn gm node n bal S best) :
    Calls Try.prog 12 #[.pointer (some ⟨hn, 0, none⟩), .int .u32 r, .string v] w fun e w' =>
      e = .returned (.tuple #[.agg #[.int .u32 r, .int .u8 (node : Int)], .int .i64 0]) ∧ PrW w' B hn gm node n ⟨r, node⟩ (fun _ => true) ⟨false, b0, v⟩ ∧ Keep [hn, gm] w w' := by
  have hnd : (Lit.int .u8 (node : Int)).wf = true := by
    have := h.nd
    simp [Lit.wf, IntKind.min, IntKind.max, IntKind.signed, IntKind.bits]; omega
  have HB := Lib.hid (below_alloc (Below.refl w.heap.size w) (Bl.obj b0))
  have t0 := h.below HB.out
  have q0 := Row2.new w b0
  have HP := Lib.hid (PrW.mk (w := w) h.map h.row h.base h.gbase h.ne h.n1 h.n9 h.nd h.bok h.vok)
  have HL := Lib.hid (And.intro h.hlt h.glt)
  have r0' : RowP (w.alloc (Bl.obj b0)) hn node n bal gm best := t0.row
  have m0 := t0.map
  have hn9 := h.n9
  have CL := Lib.hid (fun w => clone_any v w hv)
  simp only [Bl.obj] at r0' m0 q0 HB
  clear t0 h
  go_enter Try.func12, Try.ntmps12
  go_upto_region 1 with (fail)
  generalize hW : w.alloc (.cells #[.int .u32 0, .int .u8 0] 34) = W at *
  generalize hbi : w.heap.size = bi at *
  have R0 := Lib.hid r0'; have M0 := Lib.hid m0; have Q0 := Lib.hid q0
  obtain ⟨c0, c1, c2, c3, c4, c5, c6, c7, c8⟩ := RowP.all r0'
  have f2 := RowP.fr r0' 2
  have f3 := RowP.fr r0' 3
  clear r0' m0 q0 hW
  have hd : decide (r ≤ bal.round) = false := decide_eq_false (by omega)
  have k1 : 0 < r := hr
  go_upto_region 6 with (fail)
  have r1 := layP_row (b := ⟨r, node⟩) R0.out
  have kk1 := layP_keep W hn ⟨r, node⟩
  have m1 := M0.out.keep kk1 (by have := HP.out.ne; simp; omega)
  have q1 : Row2 _ bi b0 := row_keep Q0.out kk1 (by have := HL.out; simp; omega)
  simp only [layP] at r1 kk1 m1 q1
  have R1 := Lib.hid r1; have M1 := Lib.hid m1; have Q1 := Lib.hid q1; have K1 := Lib.hid kk1
  clear r1 m1 q1 kk1 R0 M0 Q0 c0 c1 c2 c3 c4 c5 c6 c7 c8 f2 f3 hd
  generalize (W.setCell ⟨hn, 2, none⟩ (.int .u32 r)).setCell ⟨hn, 3, none⟩ (.int .u8 (node : Int)) = W1 at *
  go_wp2_with fail
  refine (CL.out _).mono ?_; rintro e w2 ⟨rfl, b2⟩
  have r2 := RowP.below R1.out b2
  have m2 := M1.out.keep (Keep.of_below b2 []) (by simp)
  have q2 := Row2.below Q1.out b2
  have K2 := Lib.hid (K1.out.trans (Keep.of_below b2 [hn]))
  obtain ⟨c0, c1, c2, c3, c4, c5, c6, c7, c8⟩ := RowP.all r2
  have f5 := RowP.fr r2 5
  have f6 := RowP.fr r2 6
  have f7 := RowP.fr r2 7
  have f8 := RowP.fr r2 8
  have R2 := Lib.hid r2; have M2 := Lib.hid m2; have Q2 := Lib.hid q2
  clear r2 m2 q2 R1 M1 Q1 K1 b2 CL
  go_upto_region 7 with (fail)
  have r3 := layQ_row (a := ⟨false, b0, v⟩) R2.out
  have kk3 := layQ_keep w2 hn ⟨false, b0, v⟩
  have m3 := M2.out.keep kk3 (by have := HP.out.ne; simp; omega)
  have q3 : Row2 _ bi b0 := row_keep Q2.out kk3 (by have := HL.out; simp; omega)
  simp only [layQ] at r3 kk3 m3 q3
  have K3 := Lib.hid (K2.out.trans kk3)
  have R3 := Lib.hid r3; have Q3 := Lib.hid q3; have M3 := Lib.hid m3
  clear c4
  obtain ⟨_, _, _, _, c4, _⟩ := RowP.all r3
  clear r3 kk3 m3 q3 R2 M2 Q2 K2 c0 c1 c2 c3 c5 c6 c7 c8 f5 f6 f7 f8
  generalize (((w2.setCell ⟨hn, 5, none⟩ (.bool false)).setCell ⟨hn, 6, none⟩ (.int .u32 0)).setCell ⟨hn, 7, none⟩ (.int .u8 0)).setCell ⟨hn, 8, none⟩ (.string v) = W3 at *
  obtain ⟨w4, hr4, m4, k4⟩ := M3.out.clear kPk 0
  have hne : hn ≠ gm := HP.out.ne
  have r4 : RowP w4 hn node n ⟨r, node⟩ gm ⟨false, b0, v⟩ := row_keep R3.out k4 (by simpa using hne)
  have q4 : Row2 w4 bi b0 := row_keep Q3.out k4 (by have := HL.out; simp; omega)
  have K4 := Lib.hid ((K3.out.mono (T := [hn, gm]) (by simp)).trans (k4.mono (by simp)))
  have HR4 := Lib.hid hr4
  clear hr4 k4 K3 R3 Q3 M3 hne
  go_upto_region 8 with (refine wpList_clr rfl (.tmp 42) _ rfl rfl HR4.out ?_)
  clear c4
  obtain ⟨_, c1, _⟩ := RowP.all r4
  have R4 := Lib.hid r4; have Q4 := Lib.hid q4; have M4 := Lib.hid (m4.ext (f := fun _ => none) (g := aw n ⟨r, node⟩ (lo 0)) (fun i _ => by simp [aw, lo]))
  clear r4 q4 m4
  go_wp2_with fail
  clear c1 HR4
  go_loopw [47] (fun v47 wr => ∃ k : Nat, v47 = .int .i64 (k : Int) ∧ k ≤ n ∧ RowP wr hn node n ⟨r, node⟩ gm ⟨false, b0, v⟩ ∧ Row2 wr bi b0 ∧ SetP wr gm k (aw n ⟨r, node⟩ (lo k)) ∧ Keep [hn, gm] W wr) (fun v47 _ => n - (intOf v47).toNat)
  case atStart => exact ⟨0, rfl, Nat.zero_le _, R4.out, Q4.out, M4.out, K4.out⟩
  case round =>
    obtain ⟨k, rfl, hkn, hR, hQ, hM, hK⟩ := hrel
    clear R4 Q4 M4 K4
    by_cases hlt : k < n
    · have hlt1 : (k : Int) < (n : Int) := by omega
      have hkp : (0 : Int) ≤ (k : Int) := by omega
      obtain ⟨_, _, c2, c3, c4, _⟩ := RowP.all hR
      have x0 := cell_regrown c2; have x1 := cell_regrown c3; have x2 := cell_regrown c4
      have HR := Lib.hid hR; have HQ := Lib.hid hQ; have HM := Lib.hid hM; have HK := Lib.hid hK
      clear hR hQ hM hK c2 c3 c4
      go_upto_region 11 with (fail)
      refine region_tail 11 (by kernel_rfl) (by kernel_rfl) ?_
      simp only [List.take_succ_cons, List.take_zero, List.drop_succ_cons, List.drop_zero]
      repeat (go_big_quiet_step (fail))
      refine wpQuiet_nil ?_
      intro _ hw'
      obtain ⟨⟨dq, osq⟩, hw''⟩ := hw'
      subst hw''
      have lk := below_regrown wr dq osq
      obtain ⟨w5, hr5, m5, k5⟩ := (HM.out.keep (Keep.of_below lk []) (by simp)).put kPk ⟨(k : Int), ⟨r, node⟩⟩ () ⟨by simp [Lit.wf, IntKind.min, IntKind.max, IntKind.signed, IntKind.bits]; omega, ⟨hr2, hnd⟩⟩ (by omega)
      have hne : hn ≠ gm := HP.out.ne
      have r5 : RowP w5 hn node n ⟨r, node⟩ gm ⟨false, b0, v⟩ := row_keep (RowP.below HR.out lk) k5 (by simpa using hne)
      have q5 : Row2 w5 bi b0 := row_keep (Row2.below HQ.out lk) k5 (by have := HL.out; simp; omega)
      have K5 := Lib.hid (HK.out.trans ((Keep.of_below lk [hn, gm]).trans (k5.mono (by simp))))
      have m6 : SetP w5 gm (k + 1) (aw n ⟨r, node⟩ (lo (k + 1))) := by
        have e : (aw n ⟨r, node⟩ (lo k) ⟨(k : Int), ⟨r, node⟩⟩).isSome = false := by simp [aw, lo]
        rw [e] at m5
        exact m5.ext fun p _ => aw_lo n ⟨r, node⟩ k hlt p
      simp only [Pk.ag] at hr5
      have R5 := Lib.hid r5; have Q5 := Lib.hid q5; have M6 := Lib.hid m6
      clear x0 x1 x2 m5 m6 r5 q5 k5 lk HR HQ HM HK hne
      go_wp2_with fail
      go_roundw
      case rel => exact ⟨k + 1, by go_num, by omega, R5.out, Q5.out, M6.out, K5.out⟩
      case measure => simp [intOf]; omega
    · obtain rfl : k = n := by omega
      obtain ⟨_, _, c2, c3, _⟩ := RowP.all hR
      obtain ⟨_, _, f0, f1⟩ := Row2.all hQ
      obtain ⟨g0, g1, _, _⟩ := Row2.all hQ
      have HR := Lib.hid hR; have HQ := Lib.hid hQ; have HM := Lib.hid hM; have HK := Lib.hid hK
      clear hR hQ hM hK
      go_wp2_with fail
      have kk := lay2_keep wr bi ⟨r, node⟩
      have hne : hn ≠ gm := HP.out.ne
      have hl := HL.out
      have r6 : RowP (lay2 wr bi ⟨r, node⟩) hn node k ⟨r, node⟩ gm ⟨false, b0, v⟩ := row_keep HR.out kk (by simp; omega)
      have m6 := HM.out.keep kk (by simp; omega)
      refine bodyPost_ret (v := .tuple #[.agg #[.int .u32 r, .int .u8 (node : Int)], .int .i64 0]) (res_c1t1 Try.results12 rfl ?_ rfl) rfl ⟨rfl, ?_, ?_⟩
      · go_simp
      · have e : cnt k (fun _ => true) = k := cnt_all k
        refine ⟨?_, r6, HP.out.base, HP.out.gbase, hne, HP.out.n1, HP.out.n9, HP.out.nd, ⟨hr2, hnd⟩, hv⟩
        rw [e]
        refine MapK.ext m6 fun p _ => ?_
        simp only [aw, lo, decide_eq_true_eq]
        by_cases hb : p.b = ⟨r, node⟩ <;> by_cases h0 : 0 ≤ p.from_ <;> by_cases h1 : p.from_ < k <;> simp [hb, h0, h1]
      · have bw : Keep [hn, gm] w W := Keep.of_below (by rw [hbi]; exact HB.out) _
        exact bw.cut ((HK.out.mono (T := [hn, gm, bi]) (by simp)).trans (kk.mono (by simp))) (by rw [hbi]; simp)
set_option maxHeartbeats 800000 in
theorem ballot_nil (w : World) : Calls Try.prog 18 #[.pointer none] w fun e w' => e = .returned (.tuple #[b0.ag, .bool false]) ∧ Below w.heap.size w w' := by
  go_enter Try.func18, Try.ntmps18
  go_wp2_with fail
  refine bodyPost_ret (v := .tuple #[b0.ag, .bool false]) (res_c1t1 Try.results18 rfl ?_ rfl) rfl ⟨rfl, ?_⟩
  · go_simp
  · exact below_alloc (Below.refl _ _) _
set_option maxHeartbeats 800000 in
theorem ballot_any (w : World) (h : PrW w B hn gm node n bal S best) : Calls Try.prog 18 #[.pointer (some ⟨hn, 0, none⟩)] w fun e w' => e = .returned (.tuple #[bal.ag, .bool (bal.round != 0)]) ∧ Below w.heap.size w w' := by
  have HB := Lib.hid (below_alloc (Below.refl w.heap.size w) (Bl.obj b0))
  have t0 := h.below HB.out
  have q0 := Row2.new w b0
  obtain ⟨_, _, c2, c3, _⟩ := t0.all
  have HL := Lib.hid h.hlt
  simp only [Bl.obj] at c2 c3 q0 HB
  clear t0 h
  go_enter Try.func18, Try.ntmps18
  go_upto_region 3 with (fail)
  generalize hW : w.alloc (.cells #[.int .u32 0, .int .u8 0] 34) = W at *
  generalize hbi : w.heap.size = bi at *
  obtain ⟨g0, g1, f0, f1⟩ := Row2.all q0
  have ne1 : hn ≠ bi := by have := HL.out; omega
  clear hW q0
  go_region
  go_wp2_with fail
  refine bodyPost_ret (v := .tuple #[bal.ag, .bool (bal.round != 0)]) (res_c1t1 Try.results18 rfl ?_ ?_) rfl ⟨rfl, ?_⟩
  · go_simp
  · go_simp
  · exact HB.out.trans ((lay2_keep W bi bal).drew.below (by have := HB.out.size; omega) (by simp))
end
end Go.Proofs.Ytgfalpiifgoonaa
