/- StoreFenced. -/
import Derived.Test.YtbjcmomicjdepaaFe
import Derived.Test.YtbjcmomicjdepaaOz
import Derived.Test.YtbjcmomicjdepaaLawS
import Derived.StillTailTactics
namespace Go.Proofs.Ytbjcmomicjdepaa
open Go.RowKit Go.Sort
set_option linter.unusedVariables false
set_option linter.unusedSimpArgs false
set_option maxRecDepth 100000
def FenB (w : World) (fb : Nat) (x0 x1 x2 x3 : Int) : Prop := w.heap[fb]? = some (.cells #[.int .u32 x0, .int .u32 x1, .int .u32 x2, .int .u32 x3] 24 (0, 0))
theorem op_len {W : World} {oc : List Value} {kind bk rp of inc : Int} {is : Bool} {l : Lk} {s : Sd} {rest : List Value} (h : OpIs W oc kind bk rp of inc is l s rest) : oc.length = 58 := by
  rw [h.eq]; simp [h.len, Lk.list]
theorem op_size {W : World} {oc : List Value} {kind bk rp of inc : Int} {is : Bool} {l : Lk} {s : Sd} {rest : List Value} (h : OpIs W oc kind bk rp of inc is l s rest) : (Try.prog.info? 45).map (·.size) = some oc.length := by
  rw [op_len h]; kernel_rfl
def OpB (w : World) (g : Nat) (oc : List Value) : Prop := w.heap[g]? = some (.cells ⟨oc⟩ 45 (0, 0))
theorem op_there (w : World) (Z : Array Value) (oc : List Value) (hz : Z.size = 58) (ho : oc.length = 58) : (w.alloc (.cells Z 45)).there w.heap.size 0 oc.toArray.size := fun j hj => by
  have hh : (w.alloc (.cells Z 45)).heap[w.heap.size]? = some (.cells Z 45 (0, 0)) := heap_alloc_new w _
  rw [Nat.zero_add]
  refine ⟨?_, frozen_of_row _ _ j _ _ hh⟩
  rw [cell_of_row _ _ j _ _ (0, 0) hh]
  have : j < Z.size := by rw [hz, ← ho]; simpa using hj
  simp [this]
theorem ones_all {oc : List Value} (h : ∀ v ∈ oc, v.oneCell' = true) : oc.toArray.all (·.oneCell') = true := by
  refine Array.all_eq_true_iff_forall_mem.2 fun v hv => h v (by simpa using hv)
theorem op_box (w : World) (Z : Array Value) (oc : List Value) (hz : Z.size = 58) (ho : oc.length = 58) : OpB ((w.alloc (.cells Z 45)).setCells w.heap.size 0 oc) w.heap.size oc ∧ Below w.heap.size w ((w.alloc (.cells Z 45)).setCells w.heap.size 0 oc) := by
  have hh : (w.alloc (.cells Z 45)).heap[w.heap.size]? = some (.cells Z 45 (0, 0)) := heap_alloc_new w _
  have := heap_lay w.heap.size _ oc 0 _ _ hh
  rw [lay_all _ _ (by rw [hz, ho])] at this
  exact ⟨this, (below_alloc (Below.refl _ _) _).trans ((keep_setCells _ _ _ _).below (by simp) (by simp))⟩
theorem op_gen {w : World} {Z : Array Value} {oc : List Value} {P : World → Prop} (hz : Z.size = 58) (ho : oc.length = 58) (h : ∀ w5, OpB w5 w.heap.size oc → Below w.heap.size w w5 → P w5) : P ((w.alloc (.cells Z 45)).setCells w.heap.size 0 oc) :=
  h _ (op_box w Z oc hz ho).1 (op_box w Z oc hz ho).2
theorem op_cell {w : World} {g : Nat} {oc : List Value} (h : OpB w g oc) (i : Nat) (v : Value) (hv : oc[i]? = some v) : w.cell? ⟨g, i, none⟩ = some v := by
  rw [cell_of_row w g i _ _ (0, 0) h]; simpa using hv
theorem op_fr {w : World} {g : Nat} {oc : List Value} (h : OpB w g oc) (i : Nat) : w.frozen? ⟨g, i, none⟩ = false := frozen_of_row w g i _ _ h
theorem op_set {w : World} {g : Nat} {oc : List Value} (h : OpB w g oc) : OpB ((w.setCell ⟨g, 10, none⟩ (.int .i64 0)).setCell ⟨g, 14, none⟩ (.int .u32 1)) g (opSet oc) ∧ Keep [g] w ((w.setCell ⟨g, 10, none⟩ (.int .i64 0)).setCell ⟨g, 14, none⟩ (.int .u32 1)) := by
  refine ⟨?_, (Keep.setCell w ⟨g, 10, none⟩ (.int .i64 0)).trans (Keep.setCell _ ⟨g, 14, none⟩ (.int .u32 1))⟩
  have h1 := heap_setCell_same w g 10 _ _ (.int .i64 0) h
  have h2 := heap_setCell_same _ g 14 _ _ (.int .u32 1) h1
  refine h2.trans ?_
  simp [opSet]
theorem op_lock1 {w W : World} {g : Nat} {oc : List Value} {kind bk rp of inc : Int} {is : Bool} {l : Lk} {s : Sd} {rest : List Value} (h : OpB w g (opSet oc)) (ho : OpIs W oc kind bk rp of inc is l s rest) : w.rangeAt g 6 (Lk.list l.at1 s) := fun j v hv => by
  refine op_cell h (6 + j) v ?_
  rw [opSet_eq ho, Nat.add_comm 6 j]
  simp only [List.getElem?_cons_succ]
  rw [List.getElem?_append_left (List.getElem?_eq_some_iff.1 hv).1]
  exact hv
theorem fence0 {B sb gm b : Nat} {c : Cp} {s : Cs} (w : World) (h : StR w B sb gm b nm0 c s) (hs : c.state = 2) {of inc : Int} {ct c1 : Cp} {e : Int} (hv : fenceR 0 c of inc = (ct, e, c1)) :
    Calls Try.prog 22 #[.pointer (some ⟨sb, 0, none⟩), .int .i64 0, .int .i64 0, .int .i64 of, .int .u32 inc] w (FnEnd w B sb gm b nm0 s ct e c1) := by
  have := fence_any w h hs of inc
  rw [show nm0.r = 0 from rfl, hv] at this
  exact this
theorem FenB.c {w : World} {fb : Nat} {c : Cp} (h : FenB w fb c.f0 c.f1 c.f2 c.f3) (q : Nat) (hq : q < 4) : w.cell? ⟨fb, q, none⟩ = some (.int .u32 (c.fen q)) := by
  rw [cell_of_row w fb q _ _ (0, 0) h]
  have : q = 0 ∨ q = 1 ∨ q = 2 ∨ q = 3 := by omega
  rcases this with rfl | rfl | rfl | rfl <;> rfl
theorem FenB.fr {w : World} {fb : Nat} {x0 x1 x2 x3 : Int} (h : FenB w fb x0 x1 x2 x3) (q : Nat) : w.frozen? ⟨fb, q, none⟩ = false := frozen_of_row w fb q _ _ h
theorem FenB.set {w : World} {fb : Nat} {c : Cp} (h : FenB w fb c.f0 c.f1 c.f2 c.f3) (q : Nat) (hq : q < 4) (v : Int) : FenB (w.setCell ⟨fb, q, none⟩ (.int .u32 v)) fb (c.setF q v).f0 (c.setF q v).f1 (c.setF q v).f2 (c.setF q v).f3 := by
  have h1 := heap_setCell_same w fb q _ _ (.int .u32 v) h
  have : q = 0 ∨ q = 1 ∨ q = 2 ∨ q = 3 := by omega
  rcases this with rfl | rfl | rfl | rfl <;> exact h1.trans rfl
theorem setF_cell (c : Cp) (s : Cs) (q : Nat) (hq : q < 4) (v : Int) : ((c.setF q v).list s)[5 + q]? = some (.int .u32 v) := by
  have : q = 0 ∨ q = 1 ∨ q = 2 ∨ q = 3 := by omega
  rcases this with rfl | rfl | rfl | rfl <;> rfl
theorem str_fresh {w : World} {B sb gm b : Nat} {nm : Nm} {c : Cp} {s : Cs} (h : StR w B sb gm b nm c s) : w.heap.size ∉ sb :: gm :: (s.mut b ++ s.dat) := fun hg => by
  simp only [List.mem_cons, List.mem_append] at hg
  rcases hg with e | e | e | e
  · have := h.slt; omega
  · have := h.map.lt; omega
  · have := h.row.mlt _ e; omega
  · have := h.row.lt _ e; omega
theorem apart_turn {w w' : World} {sb gm b fb : Nat} {s s1 : Cs} (t : Trn b s s1 w w') (hl : fb < w.heap.size) (h : fb ∉ sb :: gm :: (s.mut b ++ s.dat)) : fb ∉ sb :: gm :: (s1.mut b ++ s1.dat) := fun hm => by
  simp only [List.mem_cons, List.mem_append, not_or] at h hm
  rcases hm with e | e | e | e
  · exact h.1 e
  · exact h.2.1 e
  · rcases t.m fb e with e | e
    · exact h.2.2.1 e
    · omega
  · rcases t.d fb e with e | e
    · exact h.2.2.2 e
    · omega
/-- has tx a vote? -/
def oldP (vs : List Vd) (tx : Int) : Bool := vs.any fun v => v.tx == tx
theorem old_not {vs : List Vd} {tx : Int} (h : oldP vs tx = false) : ∀ v ∈ vs, v.tx ≠ tx := fun v hv e => by
  unfold oldP at h
  rw [List.any_eq_false] at h
  exact h v hv (by simp [e])
theorem old_succ {vs : List Vd} {tx : Int} {j : Nat} {v : Vd} (h : vs[j]? = some v) : oldP (vs.take (j + 1)) tx = (oldP (vs.take j) tx || (v.tx == tx)) := by
  unfold oldP
  rw [List.take_add_one, h, List.any_append]
  simp
set_option maxHeartbeats 2000000 in
theorem storeFenced_law (ao : Option Addr) (n cap : Nat) (hc : n ≤ cap) (hm : n ≤ 140737488355328) (W0 : World) (hr : OpsRd1 W0 ao n) : Calls Try.prog 5 #[.slice ao n cap] W0 (LawOk W0) := by
  have HR := Lib.hid hr
  have hni : (n : Int) ≤ 140737488355328 := by omega
  clear hr hc hm
  have N := Lib.hid (new_any W0)
  have AL := Lib.hid alive_any
  go_enter Try.func5, Try.ntmps5
  go_wp2_with fail
  refine N.out.mono ?_; rintro e w1 ⟨sb, rfl, n1, hsb, b1⟩
  have HSB := Lib.hid hsb
  have N1 := Lib.hid n1; have B1 := Lib.hid b1
  clear hsb b1 n1 N
  go_wp2_with fail
  refine (AL.out _).mono ?_; rintro e w2 ⟨rfl, b2⟩
  have N2 := Lib.hid (N1.out.below b2)
  have B2 := Lib.hid (below_next B1.out b2)
  clear b2 N1 B1
  have O := Lib.hid (opened w2 N2.out)
  go_wp2_with fail
  refine O.out.mono ?_; rintro e w3 ⟨rfl, gm, b, h3, k3⟩
  have H3 := Lib.hid (h3.rebase HSB.out)
  have B3 := Lib.hid (B2.out.trans (k3.below B2.out.size (by have := HSB.out; simpa using this)))
  clear h3 k3 O B2 N2 AL
  have b4 := below_alloc (Below.refl w3.heap.size w3) (.cells #[.int .u32 0, .int .u32 0, .int .u32 0, .int .u32 0] 24)
  have hfb : (w3.alloc (.cells #[.int .u32 0, .int .u32 0, .int .u32 0, .int .u32 0] 24)).heap[w3.heap.size]? = some (.cells #[.int .u32 0, .int .u32 0, .int .u32 0, .int .u32 0] 24 (0, 0)) := heap_alloc_new w3 _
  have hn3 : w3.heap.size ∉ sb :: gm :: (newS.mut b ++ newS.dat) := str_fresh H3.out
  have HF4 := Lib.hid hfb
  have HS4 := Lib.hid (H3.out.below b4)
  have B4 := Lib.hid (below_next B3.out b4)
  have HN3 := Lib.hid hn3
  have HFW := Lib.hid (show W0.heap.size ≤ w3.heap.size from B3.out.size)
  clear hfb b4 hn3
  have HE := Lib.hid (show (newC 2 1).state = 2 ∧ (0 : Int) = (newC 2 1).f0 ∧ 0 = (newC 2 1).f1 ∧ 0 = (newC 2 1).f2 ∧ 0 = (newC 2 1).f3 from ⟨rfl, rfl, rfl, rfl, rfl⟩)
  clear H3 B3
  go_upto_region 5 with (fail)
  generalize w3.alloc (.cells #[.int .u32 0, .int .u32 0, .int .u32 0, .int .u32 0] 24) = w4 at *
  generalize w3.heap.size = fb at *
  have HB0 : Hid (∃ c s, StR w4 W0.heap.size sb gm b nm0 c s ∧ c.state = 2 ∧ FenB w4 fb c.f0 c.f1 c.f2 c.f3 ∧ fb ∉ sb :: gm :: (s.mut b ++ s.dat)) := Lib.hid ⟨newC 2 1, newS, HS4.out, rfl, HF4.out, HN3.out⟩
  clear HS4 HF4 HN3 HE
  go_wp2_with fail
  go_loopw [5] (fun v5 wr => ∃ (k : Nat), v5 = .int .i64 (k : Int) ∧ k ≤ n ∧ Hid (∃ c s, StR wr W0.heap.size sb gm b nm0 c s ∧ c.state = 2 ∧ FenB wr fb c.f0 c.f1 c.f2 c.f3 ∧ fb ∉ sb :: gm :: (s.mut b ++ s.dat)) ∧ Hid (Below W0.heap.size W0 wr)) (fun v5 _ => n - (intOf v5).toNat)
  case atStart => exact ⟨0, rfl, Nat.zero_le _, HB0, B4⟩
  case round =>
    obtain ⟨k, rfl, hk, HS, BR⟩ := hrel
    clear HB0 B4
    by_cases hkn : k < n
    · have hki : (k : Int) < (n : Int) := by omega
      have hk0 : (0 : Int) ≤ (k : Int) := by omega
      by_cases hk2 : k < 200
      · have hk2i : (k : Int) < 200 := by omega
        obtain ⟨g, o, oc, kind, bk, rp, of, inc, is, l, s, rest, rfl, hg, hrg, hop, hon⟩ := HR.out k hkn
        have HON := Lib.hid hon
        have HRA := Lib.hid (range_below hrg hg BR.out)
        have HOP := Lib.hid hop
        have HG := Lib.hid hg
        clear hg hrg hop hon
        go_upto_region 9 with (first
          | (refine wpList_load_mid rfl 45 (.tmp 40) rfl g (o + k * 58) rfl oc _ HRA.out Try.underlying45 rfl (op_size HOP.out) ?_)
          | (refine wpList_store_mid rfl 45 (.tmp 6) (.tmp 41) rfl wr.heap.size 0 oc.toArray rfl rfl (op_there wr _ _ (by rfl) (op_len HOP.out)) (op_size HOP.out) (ones_all HON.out) ?_
             ; refine op_gen (P := fun w5 => wpList _ _ _ _ _ w5) (by rfl) (op_len HOP.out) (fun w5 hfb hb5 => ?_)
             ; have FB := Lib.hid hfb
             ; have B5 := Lib.hid hb5
             ; clear hfb hb5
             ; dsimp only))
        obtain ⟨c, s0, hst, hcs, hfe, hfn⟩ := HS.out
        have y10 := op_cell FB.out 10 (.int .i64 l.it.bucket) (by rw [HOP.out.eq]; rfl)
        have y14 := op_cell FB.out 14 (.int .u32 l.it.i0) (by rw [HOP.out.eq]; rfl)
        have f10 := op_fr FB.out 10
        have f14 := op_fr FB.out 14
        have HST := Lib.hid hst; have HCS := Lib.hid hcs; have HFE := Lib.hid hfe; have HFN := Lib.hid hfn
        have hob : wr.heap.size ∉ s0.mut b := fun hm => by have := hst.row.mlt _ hm; omega
        have hof : wr.heap.size ≠ fb := fun hm => by have := (Array.getElem?_eq_some_iff.1 hfe).1; omega
        have HOB := Lib.hid hob; have HOF := Lib.hid hof
        clear hst hcs hfe hfn hob hof
        generalize hobe : wr.heap.size = ob at *
        have hk6 : Hid (OpB ((w5.setCell ⟨ob, 10, none⟩ (.int .i64 0)).setCell ⟨ob, 14, none⟩ (.int .u32 1)) ob (opSet oc) ∧ Keep [ob] w5 ((w5.setCell ⟨ob, 10, none⟩ (.int .i64 0)).setCell ⟨ob, 14, none⟩ (.int .u32 1))) := Lib.hid (op_set FB.out)
        go_upto_region 11 with fail
        clear y10 y14 f10 f14
        generalize (w5.setCell ⟨ob, 10, none⟩ (.int .i64 0)).setCell ⟨ob, 14, none⟩ (.int .u32 1) = w6 at *
        have b6 : Below ob wr w6 := B5.out.trans (hk6.out.2.below (hobe ▸ B5.out.size) (by simp))
        rw [← hobe] at b6
        have H6 := Lib.hid (HST.out.below b6)
        have F6 : Hid (FenB w6 fb c.f0 c.f1 c.f2 c.f3) := Lib.hid (row_keep HFE.out (Keep.of_below b6 []) (by simp))
        have B6 := Lib.hid (below_next BR.out b6)
        have K6 := Lib.hid hk6.out.1
        have ES6 := Lib.hid (HOP.out.es.below B6.out)
        have HOL := Lib.hid (show W0.heap.size ≤ ob from hobe ▸ BR.out.size)
        have x0 := op_cell K6.out 0 (.int .i64 kind) (by rw [opSet_eq HOP.out]; rfl)
        have RL := Lib.hid (op_lock1 K6.out HOP.out)
        clear b6 hk6 B5 HFE HST HS FB hobe BR
        by_cases hkd : kind = 6
        · subst hkd
          obtain ⟨ct, er, c1, hfr⟩ : ∃ ct er c1, fenceR 0 c of inc = (ct, er, c1) := ⟨_, _, _, rfl⟩
          have D := Lib.hid (fence0 w6 H6.out HCS.out hfr)
          have HFR := Lib.hid (fence_said hfr)
          have x3 := op_cell K6.out 3 (.int .i64 of) (by rw [opSet_eq HOP.out]; rfl)
          have x4 := op_cell K6.out 4 (.int .u32 inc) (by rw [opSet_eq HOP.out]; rfl)
          clear hfr
          go_wp2_with fail
          refine D.out.mono ?_; rintro e w7 ⟨s7, rfl, o7, h7, t7⟩
          clear x0 x3 x4 D
          have bk := H6.out.blw t7
          have b8 := below_alloc (Below.refl w7.heap.size w7) (.cells ⟨ct.list s7⟩ 42)
          have C8 : Hid (CpB (w7.alloc (.cells ⟨ct.list s7⟩ 42)) w7.heap.size ct s7) := Lib.hid (heap_alloc_new w7 _)
          have H8 := Lib.hid (h7.below b8)
          have F7 : FenB w7 fb c.f0 c.f1 c.f2 c.f3 := row_keep F6.out t7.keep (fun hm => HFN.out (by simp [hm]))
          have K7 : OpB w7 ob (opSet oc) := row_keep K6.out t7.keep HOB.out
          have F8 : Hid (FenB (w7.alloc (.cells ⟨ct.list s7⟩ 42)) fb c.f0 c.f1 c.f2 c.f3) := Lib.hid (row_keep F7 (Keep.of_below b8 []) (by simp))
          have K8 : Hid (OpB (w7.alloc (.cells ⟨ct.list s7⟩ 42)) ob (opSet oc)) := Lib.hid (row_keep K7 (Keep.of_below b8 []) (by simp))
          have B8 := Lib.hid (below_next (B6.out.trans bk) b8)
          have HCF := Lib.hid (show w7.heap.size ≠ fb from fun hm => by have := (Array.getElem?_eq_some_iff.1 F7).1; omega)
          clear h7 o7 t7 b8 bk F7 K7
          go_upto_region 13 with fail
          simp only [Cp.list] at C8 H8 F8 K8 B8
          generalize w7.alloc (.cells ⟨[.int .i64 ct.state, .int .u32 ct.inc, .int .u32 ct.ver, .slice s7.d.ao ct.es.length s7.d.cap, .slice s7.l.ao ct.ls.length s7.l.cap, .int .u32 ct.f0, .int .u32 ct.f1, .int .u32 ct.f2, .int .u32 ct.f3, .slice s7.v.ao ct.vs.length s7.v.cap]⟩ 42) = w8 at *
          generalize w7.heap.size = cb at *
          rcases HFR.out with ⟨hne, rfl⟩ | ⟨rfl, h0, h4, hlt, rfl, rfl⟩
          · have hnb : (er == 0) = false := by simpa using hne
            clear HFR
            go_wp2_with fail
            go_roundw
            case rel => exact ⟨k + 1, by go_num, by omega, Lib.hid ⟨c1, s0, H8.out, HCS.out, F8.out, HFN.out⟩, B8⟩
            case measure => simp [intOf]; omega
          · obtain ⟨q, rfl⟩ : ∃ q : Nat, of = (q : Int) := ⟨of.toNat, by omega⟩
            rw [Int.toNat_natCast] at *
            have hq4 : q < 4 := by omega
            have hx0 : ¬ ((q : Nat) : Int) < 0 := by omega
            have hx1 : ¬ 4 ≤ ((q : Nat) : Int) := by omega
            have hx2 : ((q : Nat) : Int) < 4 := by omega
            have hx3 : (0 : Int) ≤ ((q : Nat) : Int) := by omega
            have x3 := op_cell K8.out 3 (.int .i64 (q : Int)) (by rw [opSet_eq HOP.out]; rfl)
            have x4 := op_cell K8.out 4 (.int .u32 inc) (by rw [opSet_eq HOP.out]; rfl)
            have yf := FenB.c F8.out q hq4
            have yc := CpB.c C8.out (5 + q) (.int .u32 inc) (setF_cell c s7 q hq4 inc)
            have ff := FenB.fr F8.out q
            obtain ⟨fe, hfe⟩ : ∃ fe, c.fen q = fe := ⟨_, rfl⟩
            rw [hfe] at yf hlt
            have HQ := Lib.hid (show ∀ w', FenB w' fb c.f0 c.f1 c.f2 c.f3 → FenB (w'.setCell ⟨fb, q, none⟩ (.int .u32 inc)) fb (c.setF q inc).f0 (c.setF q inc).f1 (c.setF q inc).f2 (c.setF q inc).f3 from fun w' h => FenB.set h q hq4 inc)
            clear HFR h0 h4 hfe
            go_upto_region 14 with fail
            go_quiet (fail)
            clear x3 x4 yf yc ff
            have b9 := below_drewN w8 nq
            have H9 := Lib.hid (H8.out.below b9)
            have F9 := Lib.hid (show FenB _ fb c.f0 c.f1 c.f2 c.f3 from row_keep F8.out (Keep.of_below b9 []) (by simp))
            have K9 := Lib.hid (show OpB _ ob (opSet oc) from row_keep K8.out (Keep.of_below b9 []) (by simp))
            have B9 := Lib.hid (below_next B8.out b9)
            clear b9 H8 F8 K8 B8 C8
            generalize w8.drewN nq = w9 at *
            have x3 := op_cell K9.out 3 (.int .i64 (q : Int)) (by rw [opSet_eq HOP.out]; rfl)
            have x4 := op_cell K9.out 4 (.int .u32 inc) (by rw [opSet_eq HOP.out]; rfl)
            have yf := FenB.c F9.out q hq4
            have ff := FenB.fr F9.out q
            have kf := Keep.setCell w9 ⟨fb, q, none⟩ (.int .u32 inc)
            have HA := Lib.hid (H9.out.keep kf (fun g hg e => HFN.out ((show g = fb from List.mem_singleton.1 e) ▸ hg)))
            have HFA := Lib.hid (HQ.out w9 F9.out)
            have BA := Lib.hid (B9.out.trans (kf.below B9.out.size (fun g hg => (show g = fb from List.mem_singleton.1 hg) ▸ HFW.out)))
            clear kf
            go_wp2_with fail
            go_roundw
            case rel => exact ⟨k + 1, by go_num, by omega, Lib.hid ⟨c.setF q inc, s0, HA.out, (setF_state c q inc).trans HCS.out, HFA.out, HFN.out⟩, BA⟩
            case measure => simp [intOf]; omega
        · have hkb : (kind == 6) = false := by simpa using hkd
          have E : Hid (Calls Try.prog 20 #[.pointer (some ⟨sb, 0, none⟩), .int .i64 0, .int .i64 0] w6 (CpEnd w6 c 0)) := Lib.hid (extract_any (nm := nm0) w6 H6.out)
          go_upto_region 17 with fail
          clear x0
          go_wp2_with fail
          refine E.out.mono ?_; rintro e w7 ⟨s7, rfl, o7, b7⟩
          have b8 := below_alloc (Below.refl w7.heap.size w7) (.cells ⟨c.list s7⟩ 42)
          have b78 : Below w6.heap.size w6 (w7.alloc (.cells ⟨c.list s7⟩ 42)) := below_next b7 b8
          have C8 : Hid (CpB (w7.alloc (.cells ⟨c.list s7⟩ 42)) w7.heap.size c s7) := Lib.hid (heap_alloc_new w7 _)
          have O8 := Lib.hid (o7.below b8)
          have H8 := Lib.hid (H6.out.below b78)
          have F8 : Hid (FenB (w7.alloc (.cells ⟨c.list s7⟩ 42)) fb c.f0 c.f1 c.f2 c.f3) := Lib.hid (row_keep F6.out (Keep.of_below b78 []) (by simp))
          have K8 : Hid (OpB (w7.alloc (.cells ⟨c.list s7⟩ 42)) ob (opSet oc)) := Lib.hid (row_keep K6.out (Keep.of_below b78 []) (by simp))
          have B8 := Lib.hid (below_next B6.out b78)
          have HCM := Lib.hid (show w7.heap.size ∉ s0.mut b from fun hm => by have := H6.out.row.mlt _ hm; have := b7.size; omega)
          have H67 := Lib.hid (show w6.heap.size ≤ w7.heap.size from b7.size)
          clear o7 b7 b8 b78 E
          go_upto_region 18 with fail
          simp only [Cp.list] at C8 O8 H8 F8 K8 B8
          generalize w7.alloc (.cells ⟨[.int .i64 c.state, .int .u32 c.inc, .int .u32 c.ver, .slice s7.d.ao c.es.length s7.d.cap, .slice s7.l.ao c.ls.length s7.l.cap, .int .u32 c.f0, .int .u32 c.f1, .int .u32 c.f2, .int .u32 c.f3, .slice s7.v.ao c.vs.length s7.v.cap]⟩ 42) = w8 at *
          generalize w7.heap.size = cb at *
          obtain ⟨v, er, c1, hv⟩ : ∃ v er c1, voteR 0 c l.at1 = (v, er, c1) := ⟨_, _, _, rfl⟩
          have V := Lib.hid (vote0 w8 H8.out HCS.out (l := l.at1) (t := s) (HOP.out.es.below B8.out) rfl hv)
          have HV := Lib.hid hv
          have RL8 := Lib.hid (op_lock1 K8.out HOP.out)
          simp only [Lk.ag] at V
          clear hv
          go_wp2_with (refine wpList_load_mid rfl 38 (.tmp 92) rfl ob 6 rfl (Lk.list l.at1 s) _ RL8.out Try.underlying38 rfl (lk_size _ _) ?_)
          refine V.out.mono ?_; rintro e w9 ⟨rfl, s9, h9, t9⟩
          have H9 := Lib.hid h9
          have F9 : Hid (FenB w9 fb c.f0 c.f1 c.f2 c.f3) := Lib.hid (row_keep F8.out t9.keep (fun hm => HFN.out (by simp [hm])))
          have K9 : Hid (OpB w9 ob (opSet oc)) := Lib.hid (row_keep K8.out t9.keep HOB.out)
          have C9 : Hid (CpB w9 cb c s7) := Lib.hid (row_keep C8.out t9.keep HCM.out)
          have O9 := Lib.hid (O8.out.keep t9.keep (fun g hg => H6.out.row.mlt g hg))
          have B9 := Lib.hid (B8.out.trans (H8.out.blw t9))
          have HN9 := Lib.hid (apart_turn t9 (show fb < w8.heap.size from (Array.getElem?_eq_some_iff.1 F8.out).1) HFN.out)
          have HVF := Lib.hid (vote_fen HV.out)
          have F1 : Hid (FenB w9 fb c1.f0 c1.f1 c1.f2 c1.f3) := Lib.hid (by have h := HVF.out; rw [h.2.1, h.2.2.1, h.2.2.2.1, h.2.2.2.2]; exact F9.out)
          have HS1 := Lib.hid (HVF.out.1.trans HCS.out)
          clear h9 t9 V C8 O8 H8 F8 K8 B8 HCM RL8
          by_cases hok : er = 0
          · subst hok
            by_cases hvp : v = 1
            · subst hvp
              have HP : Hid (oldP c.vs l.tx = false → (l.it.i1 ≠ 0 → c.f1 ≤ l.it.i1) ∧ (l.it.i2 ≠ 0 → c.f2 ≤ l.it.i2) ∧ (l.it.i3 ≠ 0 → c.f3 ≤ l.it.i3)) := Lib.hid (fun ho => fenced_not (i := l.at1.it) (vote_prep HV.out (old_not ho)))
              obtain ⟨vao, hvao⟩ : ∃ x, s7.v.ao = x := ⟨_, rfl⟩
              obtain ⟨m, hm⟩ : ∃ m, c.vs.length = m := ⟨_, rfl⟩
              have RV := Lib.hid (show Rds w9 2 vao (c.vs.map Vd.list) from hvao ▸ O9.out.cpr.v)
              have HM := Lib.hid hm
              have C9c := Lib.hid (show w9.cell? ⟨cb, 9, none⟩ = some (.slice vao m s7.v.cap) from by rw [← hvao, ← hm]; exact CpB.c C9.out 9 _ rfl)
              have HCB := Lib.hid (show cb < w9.heap.size from (Array.getElem?_eq_some_iff.1 C9.out).1)
              have hmi : (m : Int) ≤ 1099511627776 := by have := O9.out.fev; omega
              clear hm hvao HV O9 C9
              go_wp2_with fail
              go_loopw [13, 14] (fun v13 v14 wx => ∃ j : Nat, v14 = .int .i64 (j : Int) ∧ j ≤ m ∧ v13 = .bool (oldP (c.vs.take j) l.tx) ∧ Hid (Below w9.heap.size w9 wx)) (fun _ v14 _ => m - (intOf v14).toNat)
              case atStart => exact ⟨0, rfl, Nat.zero_le _, rfl, Lib.hid (Below.refl _ _)⟩
              case round =>
                obtain ⟨j, rfl, hj, rfl, BX⟩ := hrel
                by_cases hjm : j < m
                · have hji : (j : Int) < (m : Int) := by omega
                  have hj0 : (0 : Int) ≤ (j : Int) := by omega
                  obtain ⟨vd, hvd⟩ : ∃ vd, c.vs[j]? = some vd := ⟨_, List.getElem?_eq_getElem (by rw [HM.out]; exact hjm)⟩
                  obtain ⟨g2, o2, rfl, hg2, hcl⟩ := RV.out.below BX.out j (Vd.list vd) (by rw [List.getElem?_map, hvd]; rfl)
                  have z0 := hcl 0 (.int .u64 vd.tx) rfl
                  rw [Nat.add_zero] at z0
                  have y9 := (BX.out.cell (p := ⟨cb, 9, none⟩) HCB.out).trans C9c.out
                  have x6 := op_cell (row_keep K9.out (Keep.of_below BX.out []) (by simp)) 6 (.int .u64 l.tx) (by rw [opSet_eq HOP.out]; rfl)
                  have HOS := Lib.hid (old_succ (tx := l.tx) hvd)
                  clear hg2 hcl hvd
                  obtain ⟨od, hod⟩ : ∃ od, oldP (c.vs.take j) l.tx = od := ⟨_, rfl⟩
                  rw [hod]
                  obtain ⟨tq, htq⟩ : ∃ tq, (vd.tx == l.tx) = tq := ⟨_, rfl⟩
                  cases od with
                  | true =>
                    go_upto_region 24 with fail
                    go_quiet (fail)
                    clear z0 y9 x6
                    go_wp2_with fail
                    go_roundw
                    case rel => exact ⟨j + 1, by go_num, by omega, by rw [HOS.out, hod]; rfl, Lib.hid (below_next BX.out (below_drewN _ _))⟩
                    case measure => simp [intOf]; omega
                  | false =>
                    go_upto_region 24 with fail
                    go_quiet (fail)
                    clear z0 y9 x6
                    go_wp2_with fail
                    go_roundw
                    case rel => exact ⟨j + 1, by go_num, by omega, by rw [HOS.out, hod]; simp [htq], Lib.hid (below_next BX.out (below_drewN _ _))⟩
                    case measure => simp [intOf]; omega
                · obtain rfl : m = j := by omega
                  rw [show c.vs.take m = c.vs from List.take_of_length_le (by rw [HM.out]; exact Nat.le_refl _)]
                  have HX := Lib.hid (H9.out.below BX.out)
                  have FX := Lib.hid (show FenB _ fb c.f0 c.f1 c.f2 c.f3 from row_keep F9.out (Keep.of_below BX.out []) (by simp))
                  have F1X := Lib.hid (show FenB _ fb c1.f0 c1.f1 c1.f2 c1.f3 from row_keep F1.out (Keep.of_below BX.out []) (by simp))
                  have KX := Lib.hid (show OpB _ ob (opSet oc) from row_keep K9.out (Keep.of_below BX.out []) (by simp))
                  have BW := Lib.hid (below_next B9.out BX.out)
                  have y9 := (BX.out.cell (p := ⟨cb, 9, none⟩) HCB.out).trans C9c.out
                  clear BX H9 F9 F1 K9 B9 C9c RV HCB
                  obtain ⟨od, hod⟩ : ∃ od, oldP c.vs l.tx = od := ⟨_, rfl⟩
                  rw [hod] at HP ⊢
                  go_upto_region 25 with fail
                  clear y9
                  go_wp2_with fail
                  go_loopw [15] (fun v15 wy => ∃ jj : Int, v15 = .int .i64 jj ∧ 1 ≤ jj ∧ jj ≤ 4 ∧ Hid (Below wr.heap.size wr wy)) (fun v15 _ => 4 - (intOf v15).toNat)
                  case atStart => exact ⟨1, rfl, by decide, by decide, Lib.hid (Below.refl _ _)⟩
                  case round =>
                    obtain ⟨jj, rfl, hj1, hj2, BY⟩ := hrel
                    cases od with
                    | true =>
                      have hjj : jj = 1 ∨ jj = 2 ∨ jj = 3 ∨ jj = 4 := by omega
                      clear hj1 hj2
                      rcases hjj with rfl | rfl | rfl | rfl
                      · go_wp2_with fail
                        go_roundw
                        case rel => exact ⟨k + 1, by go_num, by omega, Lib.hid ⟨c1, s9, HX.out.below BY.out, HS1.out, row_keep F1X.out (Keep.of_below BY.out []) (by simp), HN9.out⟩, below_next BW.out BY.out⟩
                        case measure => simp [intOf]; omega
                      · go_wp2_with fail
                        go_roundw
                        case rel => exact ⟨k + 1, by go_num, by omega, Lib.hid ⟨c1, s9, HX.out.below BY.out, HS1.out, row_keep F1X.out (Keep.of_below BY.out []) (by simp), HN9.out⟩, below_next BW.out BY.out⟩
                        case measure => simp [intOf]; omega
                      · go_wp2_with fail
                        go_roundw
                        case rel => exact ⟨k + 1, by go_num, by omega, Lib.hid ⟨c1, s9, HX.out.below BY.out, HS1.out, row_keep F1X.out (Keep.of_below BY.out []) (by simp), HN9.out⟩, below_next BW.out BY.out⟩
                        case measure => simp [intOf]; omega
                      · go_wp2_with fail
                        go_roundw
                        case rel => exact ⟨k + 1, by go_num, by omega, Lib.hid ⟨c1, s9, HX.out.below BY.out, HS1.out, row_keep F1X.out (Keep.of_below BY.out []) (by simp), HN9.out⟩, below_next BW.out BY.out⟩
                        case measure => simp [intOf]; omega
                    | false =>
                      have hjj : jj = 1 ∨ jj = 2 ∨ jj = 3 ∨ jj = 4 := by omega
                      clear hj1 hj2
                      rcases hjj with rfl | rfl | rfl | rfl
                      · have HK := Lib.hid (show OpB _ ob (opSet oc) from row_keep KX.out (Keep.of_below BY.out []) (by simp))
                        have HF := Lib.hid (show FenB _ fb c.f0 c.f1 c.f2 c.f3 from row_keep FX.out (Keep.of_below BY.out []) (by simp))
                        have xi := op_cell HK.out 15 (.int .u32 l.it.i1) (by rw [opSet_eq HOP.out]; rfl)
                        have yj : World.cell? _ ⟨fb, 1, none⟩ = some (.int .u32 c.f1) := FenB.c HF.out 1 (by decide)
                        by_cases hz : l.it.i1 = 0
                        · have hzb : (l.it.i1 == 0) = true := by simpa using hz
                          rw [hz] at xi
                          clear hzb hz
                          go_upto_region 28 with fail
                          go_quiet (fail)
                          clear xi yj
                          go_wp2_with fail
                          go_roundw
                          case rel => exact ⟨2, by first | rfl | go_num, by decide, by decide, Lib.hid (below_next BY.out (below_drewN _ _))⟩
                          case measure => simp [intOf]
                        · have hzb : (l.it.i1 == 0) = false := by simpa using hz
                          have hnl : ¬ l.it.i1 < c.f1 := Int.not_lt.mpr ((HP.out rfl).1 hz)
                          go_upto_region 28 with fail
                          go_quiet (fail)
                          clear xi yj
                          go_wp2_with fail
                          go_roundw
                          case rel => exact ⟨2, by first | rfl | go_num, by decide, by decide, Lib.hid (below_next BY.out (below_drewN _ _))⟩
                          case measure => simp [intOf]
                      · have HK := Lib.hid (show OpB _ ob (opSet oc) from row_keep KX.out (Keep.of_below BY.out []) (by simp))
                        have HF := Lib.hid (show FenB _ fb c.f0 c.f1 c.f2 c.f3 from row_keep FX.out (Keep.of_below BY.out []) (by simp))
                        have xi := op_cell HK.out 16 (.int .u32 l.it.i2) (by rw [opSet_eq HOP.out]; rfl)
                        have yj : World.cell? _ ⟨fb, 2, none⟩ = some (.int .u32 c.f2) := FenB.c HF.out 2 (by decide)
                        by_cases hz : l.it.i2 = 0
                        · have hzb : (l.it.i2 == 0) = true := by simpa using hz
                          rw [hz] at xi
                          clear hzb hz
                          go_upto_region 28 with fail
                          go_quiet (fail)
                          clear xi yj
                          go_wp2_with fail
                          go_roundw
                          case rel => exact ⟨3, by first | rfl | go_num, by decide, by decide, Lib.hid (below_next BY.out (below_drewN _ _))⟩
                          case measure => simp [intOf]
                        · have hzb : (l.it.i2 == 0) = false := by simpa using hz
                          have hnl : ¬ l.it.i2 < c.f2 := Int.not_lt.mpr ((HP.out rfl).2.1 hz)
                          go_upto_region 28 with fail
                          go_quiet (fail)
                          clear xi yj
                          go_wp2_with fail
                          go_roundw
                          case rel => exact ⟨3, by first | rfl | go_num, by decide, by decide, Lib.hid (below_next BY.out (below_drewN _ _))⟩
                          case measure => simp [intOf]
                      · have HK := Lib.hid (show OpB _ ob (opSet oc) from row_keep KX.out (Keep.of_below BY.out []) (by simp))
                        have HF := Lib.hid (show FenB _ fb c.f0 c.f1 c.f2 c.f3 from row_keep FX.out (Keep.of_below BY.out []) (by simp))
                        have xi := op_cell HK.out 17 (.int .u32 l.it.i3) (by rw [opSet_eq HOP.out]; rfl)
                        have yj : World.cell? _ ⟨fb, 3, none⟩ = some (.int .u32 c.f3) := FenB.c HF.out 3 (by decide)
                        by_cases hz : l.it.i3 = 0
                        · have hzb : (l.it.i3 == 0) = true := by simpa using hz
                          rw [hz] at xi
                          clear hzb hz
                          go_upto_region 28 with fail
                          go_quiet (fail)
                          clear xi yj
                          go_wp2_with fail
                          go_roundw
                          case rel => exact ⟨4, by first | rfl | go_num, by decide, by decide, Lib.hid (below_next BY.out (below_drewN _ _))⟩
                          case measure => simp [intOf]
                        · have hzb : (l.it.i3 == 0) = false := by simpa using hz
                          have hnl : ¬ l.it.i3 < c.f3 := Int.not_lt.mpr ((HP.out rfl).2.2 hz)
                          go_upto_region 28 with fail
                          go_quiet (fail)
                          clear xi yj
                          go_wp2_with fail
                          go_roundw
                          case rel => exact ⟨4, by first | rfl | go_num, by decide, by decide, Lib.hid (below_next BY.out (below_drewN _ _))⟩
                          case measure => simp [intOf]
                      · go_wp2_with fail
                        go_roundw
                        case rel => exact ⟨k + 1, by go_num, by omega, Lib.hid ⟨c1, s9, HX.out.below BY.out, HS1.out, row_keep F1X.out (Keep.of_below BY.out []) (by simp), HN9.out⟩, below_next BW.out BY.out⟩
                        case measure => simp [intOf]; omega
            · have hvb : (v == 1) = false := by simpa using hvp
              go_wp2_with fail
              go_roundw
              case rel => exact ⟨k + 1, by go_num, by omega, Lib.hid ⟨c1, s9, H9.out, HS1.out, F1.out, HN9.out⟩, B9⟩
              case measure => simp [intOf]; omega
          · have hrb : (er == 0) = false := by simpa using hok
            go_wp2_with fail
            go_roundw
            case rel => exact ⟨k + 1, by go_num, by omega, Lib.hid ⟨c1, s9, H9.out, HS1.out, F1.out, HN9.out⟩, B9⟩
            case measure => simp [intOf]; omega
      · have hk2i : ¬ (k : Int) < 200 := by omega
        go_wp2_with fail
        go_ret
        exact ⟨rfl, BR.out⟩
    · obtain rfl : n = k := by omega
      go_wp2_with fail
      go_ret
      exact ⟨rfl, BR.out⟩
end Go.Proofs.Ytbjcmomicjdepaa
