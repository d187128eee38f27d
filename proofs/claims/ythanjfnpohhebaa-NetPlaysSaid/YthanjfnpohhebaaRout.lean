/- NetPlays: the document's net: out. -/
import Derived.Test.YthanjfnpohhebaaRsend
import Derived.Test.YthanjfnpohhebaaAwake
namespace Go.Proofs.Ythanjfnpohhebaa
open Go.RowKit Go.Sort
set_option linter.unusedVariables false
set_option linter.unusedSectionVars false
set_option linter.unusedSimpArgs false
set_option maxRecDepth 100000

theorem pks_elem : Try.prog.underlying 31 = some (.slice (Try.prog.elem 31)) := by kernel_rfl
theorem pks_size (w : World) : (sizeOf (Try.prog.elem 31)).run Try.prog w = .ok 4 w := by kernel_rfl
theorem run_cuthP (w : World) (g n cap hi : Nat) (h : hi ≤ cap) : (Instr.sliceAt 31 (.slice (some ⟨g, 0, none⟩) n cap) none (some (.int .i64 (hi : Int))) none).run Try.prog w = .ok (.slice (some ⟨g, 0, none⟩) hi cap) w := by
  rw [run_sliceAt_slice _ _ _ _ _ _ pks_elem, run_slice_h w _ _ n cap pks_elem .i64 (hi : Int) (by omega) (by omega), pks_size]
  simp [Result.andThen, sliced, Addr.add_lit]
/-- where a slice begins that was cut -/
def cutP (g cap lo : Nat) : Addr := if cap = lo then ⟨g, 0, none⟩ else ⟨g, lo * 4, none⟩
theorem run_cutlP (w : World) (g n cap lo : Nat) (h : lo ≤ n) : (Instr.sliceAt 31 (.slice (some ⟨g, 0, none⟩) n cap) (some (.int .i64 (lo : Int))) none none).run Try.prog w = .ok (.slice (some (cutP g cap lo)) (n - lo) (cap - lo)) w := by
  rw [run_sliceAt_slice _ _ _ _ _ _ pks_elem, run_slice_l w _ _ n cap pks_elem .i64 (lo : Int) (by omega) (by omega), pks_size]
  unfold cutP
  simp [Result.andThen, sliced, Addr.add_lit]
  split <;> rfl
section
variable {w w' : World} {B nb lc room last : Nat} {lo : Option Addr} {D : List Pkt} {T : Tr}
theorem bs_sub {D D' : List Pkt} (h : D'.Sublist D) : ∀ g ∈ bs D', g ∈ bs D := fun g hg => by
  obtain ⟨p, hp, hg⟩ := bs_mem.1 hg
  exact bs_mem.2 ⟨p, h.subset hp, hg⟩
/-- a new row, of some of the packets -/
theorem RnW.newL {w2 : World} {ao2 : Option Addr} {cap2 : Nat} {D2 : List Pkt} (h : RnW w B nb lo lc D room last T) (b : Below w.heap.size w w2) (hown : w2.ownsRow w.heap.size 52 4 (.slice ao2 D2.length cap2) D2.length (fl Pkt.list D2)) (hs : D2.Sublist D) :
    RnW (w2.setCell ⟨nb, 2, none⟩ (.slice ao2 D2.length cap2)) B nb ao2 cap2 D2 room last T ∧ Turned (rnB nb lo D) (rnB nb ao2 D2) w (w2.setCell ⟨nb, 2, none⟩ (.slice ao2 D2.length cap2)) := by
  have hlt := h.lt
  have hbs := owns_blk hown
  have k := Keep.setCell w2 ⟨nb, 2, none⟩ (.slice ao2 D2.length cap2)
  have hne : ∀ q ∈ blk ao2, q ∉ [nb] := fun q hq hm => by have := (hbs q hq).1; simp at hm; omega
  have hb2 := (h.below b)
  refine ⟨⟨heap_setCell_same w2 nb 2 _ _ _ hb2.row, h.base, owns_base (owns_keep hown k (blk_own _ _ _ hne)) (by have := h.base; omega), (hb2.pk.sub hs).keep k (fun g hg e => by simp at e; subst e; exact h.n2 (bs_sub hs _ hg)), fun hm => by have := (hbs nb hm).1; omega, fun hm => h.n2 (bs_sub hs _ hm), fun g hg hm => by have := (hbs g hg).1; have := (h.pk.lt g (bs_sub hs _ hm)).2; omega, fun p hp => h.lens p (hs.subset hp), Nat.le_trans hs.length_le h.few⟩, ⟨(Keep.of_below b _).trans (k.mono (by simp)), fun q hq => ?_⟩⟩
  simp only [rnB, List.mem_cons, List.mem_append] at hq ⊢
  rcases hq with rfl | hq | hq
  · exact .inl (.inl rfl)
  · exact .inr (hbs q hq).1
  · exact .inl (.inr (.inr (bs_sub hs _ hq)))
/-- the cells of a part of a row -/
theorem RnW.part {g f : Nat} (h : RnW w B nb (some ⟨g, 0, none⟩) lc D room last T) (b : Below w.heap.size w w') (hlo : f ≤ D.length) : ∀ (i : Nat) (u : Value), (fl Pkt.list (D.drop f))[i]? = some u → w'.cell? ((cutP g lc f).add i) = some u := by
  intro i u hu
  have hi : i < (fl Pkt.list (D.drop f)).length := (List.getElem?_eq_some_iff.1 hu).1
  rw [fl_len list_len, List.length_drop] at hi
  obtain ⟨g', v, e, hg, _, hv, hc, _⟩ := owns_cellz h.own (f * 4 + i) (by omega)
  cases e
  have hcap := (h.own.2).resolve_left (by intro hh; have := hh.2; omega)
  obtain ⟨_, _, _, e, _, _, hle, _⟩ := hcap
  cases e
  have he : cutP g lc f = ⟨g, f * 4, none⟩ := by unfold cutP; rw [if_neg (by omega)]
  rw [he, Addr.add_lit, b.cell (p := ⟨g, f * 4 + i, none⟩) hg, hc]
  have hs : (fl Pkt.list D)[f * 4 + i]? = (fl Pkt.list (D.drop f))[i]? := by
    have h1 : fl Pkt.list D = fl Pkt.list (D.take f) ++ fl Pkt.list (D.drop f) := by rw [← fl_app, List.take_append_drop]
    rw [h1, List.getElem?_append_right (by rw [fl_len list_len, List.length_take]; omega), fl_len list_len, List.length_take, Nat.min_eq_left hlo]
    congr 1; omega
  rw [hv] at hs
  rw [hs]; exact hu
theorem RnW.front {g j : Nat} (h : RnW w B nb (some ⟨g, 0, none⟩) lc D room last T) (b : Below w.heap.size w w') (hj : j ≤ D.length) : ∀ (i : Nat) (u : Value), (fl Pkt.list (D.take j))[i]? = some u → w'.cell? ((⟨g, 0, none⟩ : Addr).add i) = some u := by
  intro i u hu
  have hi : i < (fl Pkt.list (D.take j)).length := (List.getElem?_eq_some_iff.1 hu).1
  rw [fl_len list_len, List.length_take] at hi
  obtain ⟨g', v, e, hg, _, hv, hc, _⟩ := owns_cellz h.own i (by omega)
  cases e
  rw [Addr.add_lit, Nat.zero_add, b.cell (p := ⟨g, i, none⟩) hg, hc]
  have hs : (fl Pkt.list D)[i]? = (fl Pkt.list (D.take j))[i]? := by
    have h1 : fl Pkt.list D = fl Pkt.list (D.take j) ++ fl Pkt.list (D.drop j) := by rw [← fl_app, List.take_append_drop]
    rw [h1, List.getElem?_append_left (by rw [fl_len list_len, List.length_take]; omega)]
  rw [hv] at hs
  rw [hs]; exact hu
/-- what out ends in -/
def RoutEnd (w : World) (B nb : Nat) (lo : Option Addr) (D : List Pkt) (room last : Nat) (T : Tr) (k : Nat) (p : Pkt) (e : Ending) (w' : World) : Prop :=
  e = .returned (agv p) ∧ ∃ lo' lc', RnW w' B nb lo' lc' (D.take k ++ D.drop (k + 1)) room last T ∧ Turned (rnB nb lo D) (rnB nb lo' (D.take k ++ D.drop (k + 1))) w w' ∧ Keep [nb] w w'
set_option maxHeartbeats 4000000 in
theorem rout_any (w : World) {k : Nat} {p : Pkt} (h : RnW w B nb lo lc D room last T) (hk : D[k]? = some p) :
    Calls Try.prog 40 #[.pointer (some ⟨nb, 0, none⟩), .int .i64 (k : Int)] w (RoutEnd w B nb lo D room last T k p) := by
  have hkl := (List.getElem?_eq_some_iff.1 hk).1
  obtain ⟨g, rfl, hg, hc⟩ := h.pkt hk
  obtain ⟨m, hm⟩ : ∃ m, D.length = m := ⟨_, rfl⟩
  have HM := Lib.hid hm
  have hcap : m ≤ lc := by
    have hc := (h.own.2).resolve_left (by intro hh; have := hh.2; omega)
    obtain ⟨_, _, _, e, _, _, hle, _⟩ := hc
    cases e; omega
  have hmb : (m : Int) ≤ 4096 := by have := h.few; omega
  have hmn : m ≤ 4096 := by omega
  have hki : (k : Int) < (m : Int) := by omega
  have hkm : k < m := by omega
  have hk0 : (0 : Int) ≤ (k : Int) := by omega
  have H := Lib.hid h
  have HC := Lib.hid hc
  have hgl := hg
  have hnl := h.lt
  obtain ⟨i0, hi0, hz0, hz1, hz2⟩ := info_parts pkt_info
  have HI := Lib.hid hi0; have HZ0 := Lib.hid hz0; have HZ1 := Lib.hid hz1; have HZ2 := Lib.hid hz2
  have HLEN := Lib.hid (show (fl Pkt.list (D.take k)).length = k * 4 by rw [fl_len list_len, List.length_take]; congr 1; omega)
  have HLEN2 := Lib.hid (show (fl Pkt.list (D.drop (k + 1))).length = (m - (k + 1)) * 4 by rw [fl_len list_len, List.length_drop, hm])
  obtain ⟨n, hn⟩ : ∃ n, p.data.length = n := ⟨_, rfl⟩
  have HSL := Lib.hid (show p.sl = .slice p.ao n p.cap by rw [← hn])
  have HAG := Lib.hid (show agv p = .agg #[.int .u64 (p.id : Int), .int .i64 p.fr, .int .i64 p.to, .slice p.ao n p.cap] by rw [← hn])
  obtain ⟨pid, fr, dn, ao, cap, l⟩ := p
  simp only at HSL HAG
  have HK := Lib.hid hk
  have bA := below_alloc (Below.refl w.heap.size w) (.cells zcells 52)
  have c2 := (H.out.below bA).at_ 2
  simp only [rowR, List.getElem?_toArray, List.getElem?_cons_succ, List.getElem?_cons_zero] at c2
  rw [hm] at c2
  have d0 := (bA.cell (p := ⟨g, k * 4 + 0, none⟩) hgl).trans (hc 0 (by omega))
  have d1 := (bA.cell (p := ⟨g, k * 4 + 1, none⟩) hgl).trans (hc 1 (by omega))
  have d2 := (bA.cell (p := ⟨g, k * 4 + 2, none⟩) hgl).trans (hc 2 (by omega))
  have d3 := (bA.cell (p := ⟨g, k * 4 + 3, none⟩) hgl).trans (hc 3 (by omega))
  simp only [List.getElem?_cons_succ, List.getElem?_cons_zero, Nat.add_zero] at d0 d1 d2 d3
  rw [HSL.out] at d3
  have BA := Lib.hid bA
  clear h hc hi0 hz0 hz1 hz2 hm hn hk bA hkl
  go_enter Try.func40, Try.ntmps40
  go_upto_region 2 with (fail)
  have bB := BA.out.trans ((below_alloc (Below.refl _ (w.alloc (.cells zcells 52))) (.cells #[.int .u64 (pid : Int), .int .i64 fr, .int .i64 dn, .slice ao n cap] 52)).mono BA.out.size)
  have hzb : (w.alloc (.cells zcells 52)).heap.size = w.heap.size + 1 := by simp
  have q0 := (Row4.new w (.int .u64 0) (.int .i64 0) (.int .i64 0) (.slice none 0 0)).below (below_alloc (Below.refl _ (w.alloc (.cells zcells 52))) (.cells #[.int .u64 (pid : Int), .int .i64 fr, .int .i64 dn, .slice ao n cap] 52))
  have q1 := Row4.new (w.alloc (.cells zcells 52)) (.int .u64 (pid : Int)) (.int .i64 fr) (.int .i64 dn) (.slice ao n cap)
  rw [hzb] at q1
  have Q0 := Lib.hid q0; have Q1 := Lib.hid q1; have BB := Lib.hid bB
  clear q0 q1 bB c2 d0 d1 d2 d3 hzb hg hgl
  generalize (w.alloc (.cells #[.int .u64 0, .int .i64 0, .int .i64 0, .slice none 0 0] 52)).alloc (.cells #[.int .u64 (pid : Int), .int .i64 fr, .int .i64 dn, .slice ao n cap] 52) = w1 at *
  obtain ⟨x0, hx0⟩ : ∃ q, q = w.heap.size := ⟨_, rfl⟩
  obtain ⟨x1, hx1⟩ : ∃ q, q = w.heap.size + 1 := ⟨_, rfl⟩
  rw [← hx1, ← hx0]
  have HX0 := Lib.hid hx0; have HX1 := Lib.hid hx1
  have hn01 : nb < w1.heap.size := Nat.lt_of_lt_of_le hnl BB.out.size
  have H1 := Lib.hid (H.out.below BB.out)
  clear hx0 hx1
  have c2 := H1.out.at_ 2
  have f2 := H1.out.fr 2
  simp only [rowR, List.getElem?_toArray, List.getElem?_cons_succ, List.getElem?_cons_zero] at c2
  rw [HM.out] at c2
  have hn0 := World.ownsRow_nil w1 w1.heap.size 52 4
  have HC1 := Lib.hid (run_cuthP w1 g m lc k (by omega))
  go_upto_region 4 with (first
    | (refine wpList_value rfl _ (exec_slice (w := w1) (vx := .slice (some ⟨g, 0, none⟩) m lc) (lv := none) (hv := some (.int .i64 (k : Int))) 31 (.tmp 18) none (some (.tmp 19)) rfl rfl rfl rfl HC1.out) ?_)
    | (at_builtin; refine wpList_append_own _ rfl (.tmp 14) (.tmp 20) 31 rfl w1.heap.size 52 i0 (.agg #[.int .u64 0, .int .i64 0, .int .i64 0, .slice none 0 0]) 4 48 Try.underlying31 HI.out HZ0.out HZ1.out HZ2.out rfl (by omega) (.slice none 0 0) 0 [] rfl hn0 ⟨g, 0, none⟩ k lc (fl Pkt.list (D.take k)) rfl HLEN.out (H1.out.front (Below.refl _ _) (by have := HM.out; omega)) (fl_list_one _) (by unfold maxLen; omega) (by omega) (Nat.le_refl _) ?_; intro v2 w2 hown2 hg2 hv2))
  have hb2 : Below w1.heap.size w1 w2 := ⟨hg2.os, hg2.tape, hg2.output, hg2.size, fun k hk => hg2.block k hk (by simp [Value.ownBlock])⟩
  have hown2' : w2.ownsRow w1.heap.size 52 4 v2 k (fl Pkt.list (D.take k)) := by simpa using hown2
  have hcut := run_cutlP w2 g m lc (k + 1) (by omega)
  rw [show ((k + 1 : Nat) : Int) = (k : Int) + 1 by omega] at hcut
  have HC2 := Lib.hid hcut
  have HB2 := Lib.hid hb2
  have hsz2 : w1.heap.size ≤ w2.heap.size := hb2.size
  have HG2 := Lib.hid (fun g hg => (hown2'.lt g hg).1)
  have c2b := (hb2.cell (p := ⟨nb, 2, none⟩) hn01).trans c2
  have f2b := (hb2.frozen (p := ⟨nb, 2, none⟩) hn01).trans f2
  clear hg2 hv2 hb2 hcut hown2 c2 f2
  go_upto_region 5 with (first
    | (refine wpList_value rfl _ (exec_slice (w := w2) (vx := .slice (some ⟨g, 0, none⟩) m lc) (lv := some (.int .i64 ((k : Int) + 1))) (hv := none) 31 (.tmp 27) (some (.tmp 29)) none rfl rfl rfl rfl HC2.out) ?_)
    | (at_builtin; refine wpList_append_own _ rfl (.tmp 23) (.tmp 30) 31 rfl w1.heap.size 52 i0 (.agg #[.int .u64 0, .int .i64 0, .int .i64 0, .slice none 0 0]) 4 48 Try.underlying31 HI.out HZ0.out HZ1.out HZ2.out rfl (by omega) v2 k (fl Pkt.list (D.take k)) rfl hown2' (cutP g lc (k + 1)) (m - (k + 1)) (lc - (k + 1)) (fl Pkt.list (D.drop (k + 1))) rfl HLEN2.out (H1.out.part HB2.out (by have := HM.out; omega)) (fl_list_one _) (by unfold maxLen; omega) (by omega) hsz2 ?_; intro v3 w3 hown3 hg3 hv3; have hb3 : Below w1.heap.size w1 w3 := below_grown HB2.out hsz2 hg3 HG2.out; have hf3 : w3.frozen? ⟨nb, 2, none⟩ = false := (hb3.frozen (p := ⟨nb, 2, none⟩) hn01).trans (H1.out.fr 2); have d3 := (hb3.cell (p := ⟨nb, 2, none⟩) hn01).trans (H1.out.at_ 2); simp only [rowR, List.getElem?_toArray, List.getElem?_cons_succ, List.getElem?_cons_zero] at d3; obtain ⟨a3, p3, rfl, _, _⟩ := owns_shape hown3))
  have hlw : (D.take k ++ D.drop (k + 1)).length = k + (m - (k + 1)) := by rw [List.length_append, List.length_take, List.length_drop, HM.out]; omega
  rw [← fl_app, ← hlw] at hown3
  have hsub : (D.take k ++ D.drop (k + 1)).Sublist D := by rw [← List.eraseIdx_eq_take_drop_succ]; exact List.eraseIdx_sublist ..
  have hx := Lib.hid (H1.out.newL hb3 hown3 hsub)
  rw [hlw] at hx
  have k4 := Keep.setCell w3 ⟨nb, 2, none⟩ (.slice a3 (k + (m - (k + 1))) p3)
  have HKN := Lib.hid (((Keep.of_below BB.out [nb]).trans ((Keep.of_below hb3 [nb]))).trans k4)
  have hxn0 : x0 ∉ [nb] := by have := HX0.out; simp; omega
  have hxn1 : x1 ∉ [nb] := by have := HX1.out; simp; omega
  have r0 : Row4 w1 x0 (.int .u64 0) (.int .i64 0) (.int .i64 0) (.slice none 0 0) := HX0.out ▸ Q0.out
  have r1 : Row4 w1 x1 (.int .u64 (pid : Int)) (.int .i64 fr) (.int .i64 dn) (.slice ao n cap) := HX1.out ▸ Q1.out
  obtain ⟨z0, z1, z2, z3, e0, e1, e2, e3, hlz⟩ := ((r0.below hb3).keep k4 hxn0).all
  obtain ⟨d0, d1, d2, d3, g0, g1, g2, g3, hld⟩ := ((r1.below hb3).keep k4 hxn1).all
  have HSZ : Hid (w1.heap.size ≤ (w3.setCell ⟨nb, 2, none⟩ (.slice a3 (k + (m - (k + 1))) p3)).heap.size) := Lib.hid (Nat.le_trans hb3.size k4.size)
  have hne1 : x0 ≠ x1 := by have := HX0.out; have := HX1.out; omega
  clear r0 r1 hb3 k4 hown3 hg3 hv3 hf3 c2b f2b hlw hsub hn0 hown2'
  generalize w3.setCell ⟨nb, 2, none⟩ (.slice a3 (k + (m - (k + 1))) p3) = w4 at *
  have k5 := Lib.hid (lay4_keep w4 x0 (.int .u64 (pid : Int)) (.int .i64 fr) (.int .i64 dn) (.slice ao n cap))
  go_wp2_with fail
  have hB0 := H.out.blocks
  have hfin : ∀ q ∈ rnB nb a3 (D.take k ++ D.drop (k + 1)), q ∉ [x0] := by
    intro q hq e
    simp only [List.mem_singleton] at e
    have := HX0.out
    have := BB.out.size
    rcases hx.out.2.new q hq with h1 | h1
    · have := (hB0 q h1).2; omega
    · have hs : w.heap.size + 1 < w1.heap.size := (Array.getElem?_eq_some_iff.1 Q1.out).1
      omega
  have t1 : Turned (rnB nb (some ⟨g, 0, none⟩) D) (rnB nb (some ⟨g, 0, none⟩) D) w w1 := Turned.of_below _ BB.out
  have t2 := t1.trans hx.out.2
  refine bodyPost_ret (v := .agg #[.int .u64 (pid : Int), .int .i64 fr, .int .i64 dn, .slice ao n cap]) (results_cell1 Try.results40 rfl ?_) rfl ⟨HAG.out.symm ▸ rfl, a3, p3, hx.out.1.keep k5.out hfin, ⟨?_, t2.new⟩, ?_⟩
  · go_simp
  · refine ((t2.keep.mono (T := x0 :: rnB nb (some ⟨g, 0, none⟩) D) (fun q hq => .inl (List.mem_cons_of_mem _ hq))).trans (k5.out.mono (by simp))).mono (fun q hq => ?_)
    rcases List.mem_cons.1 hq with rfl | hq
    · exact .inr (Nat.le_of_eq HX0.out.symm)
    · exact .inl hq
  · refine ((HKN.out.mono (T := [x0, nb]) (fun q hq => .inl (List.mem_cons_of_mem _ hq))).trans (k5.out.mono (by simp))).mono (fun q hq => ?_)
    rcases List.mem_cons.1 hq with rfl | hq
    · exact .inr (Nat.le_of_eq HX0.out.symm)
    · exact .inl hq
end
end Go.Proofs.Ythanjfnpohhebaa
