/- The document's Due: its walk. -/
import Derived.Test.YtjhdlohcjodgjaaRefE
namespace Go.Proofs.Ytjhdlohcjodgjaa
open Go.RowKit
set_option linter.unusedVariables false

section
variable {B rb cap : Nat} {ao : Option Addr} {T : List Cal} {C : Cfg}
set_option maxRecDepth 100000 in
set_option maxHeartbeats 800000 in
theorem rdue_bad (now : Int) (ht : timeB now = false) (rv : Value) (w : World) : Calls Try.prog 34 #[rv, .int .i64 now] w fun e w' => e = .returned (.tuple #[.slice none 0 0, .slice none 0 0]) ∧ w = w' := by
  have hn : now < 0 ∨ 1099511627776 < now := by unfold timeB at ht; simp at ht; omega
  clear ht
  rcases hn with hn | hn
  all_goals
    go_enter Try.func34, Try.ntmps34
    go_wp2_with fail
    go_ret2
    exact ⟨rfl, rfl⟩
theorem best_pick {T : List Cal} {dn : List Bool} {now i : Nat} {b : Nat} (h : Best T dn now i (some b)) : ∃ y, T[b]? = some y ∧ 0 < y.tries := by
  rcases h with ⟨h1, _⟩ | ⟨b', y, h1, _, h3, _⟩
  · cases h1
  · injection h1 with h1; subst h1; exact ⟨y, h3.1, h3.2.2.1⟩
/-- the slot 'at' -/
def atV : Option Nat → Value
  | none => .int .i64 (-1)
  | some b => .int .i64 (b : Int)
def atI : Option Nat → Int
  | none => -1
  | some b => (b : Int)
set_option maxRecDepth 100000 in
set_option maxHeartbeats 16000000 in
theorem rdue_any (now : Nat) (hnow : now ≤ 1099511627776) (w : World) (h : RefW w B rb ao cap T C) (hT : T.length ≤ 1000) (htr : ∀ x ∈ T, x.tries ≤ C.tries) (l : List Cal) (hp : l.Perm ((live T).filter fun x => decide (x.due ≤ now))) (hs : SortedBy cfDue l) :
    Calls Try.prog 34 #[.pointer (some ⟨rb, 0, none⟩), .int .i64 (now : Int)] w fun e w' => ∃ va vo, e = .returned (.tuple #[va, vo]) ∧ RefW w' B rb ao cap (rRun C now T l).T C ∧ Keep (blk ao) w w' ∧
      w'.ownsRow w.heap.size 70 5 va (rRun C now T l).again.length (lc (rRun C now T l).again) ∧ w'.ownsRow w.heap.size 70 5 vo (rRun C now T l).over.length (lc (rRun C now T l).over) := by
  have c4 := h.at_ 4
  simp only [rowR, List.getElem?_toArray, List.getElem?_cons_succ, List.getElem?_cons_zero] at c4
  have hlt := h.hlt
  have hblt : ∀ g ∈ blk ao, g < w.heap.size ∧ g ≠ rb := fun g hg => ⟨(owns_blk h.own g hg).2, h.ne g hg⟩
  have hIds : IdsO 0 T := fun i x hx => by have := h.ids i x hx; omega
  have hnd : (l.map (·.id)).Nodup := by
    have e1 : (((live T).filter fun x => decide (x.due ≤ now)).map (·.id)).Nodup := by
      have hinc : T.Pairwise fun a b => a.id < b.id := by
        rw [List.pairwise_iff_getElem]
        intro i j hi hj hij
        have := hIds i _ (List.getElem?_eq_getElem hi); have := hIds j _ (List.getElem?_eq_getElem hj); omega
      rw [List.nodup_iff_pairwise_ne, List.pairwise_map]
      exact (hinc.sublist (List.filter_sublist.trans List.filter_sublist)).imp fun h => by omega
    exact (hp.map (·.id)).nodup_iff.2 e1
  have hmem : ∀ x ∈ l, T[x.id - 1]? = some x ∧ 1 ≤ x.id ∧ 0 < x.tries := fun x hx => by
    have h1 := hp.mem_iff.1 hx
    rw [List.mem_filter, live_mem] at h1
    obtain ⟨i, hi, e⟩ := List.getElem_of_mem h1.1.1
    have h2 := List.getElem?_eq_getElem hi
    rw [e] at h2
    have h3 := hIds i x h2
    exact ⟨by rw [show x.id - 1 = i by omega]; exact h2, by omega, h1.1.2⟩
  have hll : l.length ≤ T.length := by
    rw [hp.length_eq]
    exact Nat.le_trans (List.length_filter_le _ _) (List.length_filter_le _ _)
  have NEXT := Lib.hid (fun (n : Nat) (a : Option Nat) (hn : n ≤ l.length) (hb : Best (rRun C now T (l.take n)).T (dnL T.length (Fn_ l n)) now T.length a) => hb.next hIds hp hs hnd hn (fun i hi => dnL_at hi))
  have hun : ∀ n x, l[n]? = some x → (rRun C now T (l.take n)).T[x.id - 1]? = some x := fun n x hx => by
    have hxl := List.mem_of_getElem? hx
    obtain ⟨h1, h2, h3⟩ := hmem x hxl
    rw [rRun_other C now T _ (fun y hy => (hmem y (List.mem_of_mem_take hy)).2.1) (fun hm => ?_)]
    · exact h1
    · rw [show x.id - 1 + 1 = x.id by omega] at hm
      obtain ⟨y, hy, hyx⟩ := List.mem_map.1 hm
      obtain ⟨j, hj, hjy⟩ := List.getElem_of_mem hy
      have hjn : j < n := by simp at hj; omega
      have hnl := (List.getElem?_eq_some_iff.1 hx).1
      have q1 : (l.map (·.id))[j]? = some x.id := by
        rw [List.getElem?_map, List.getElem?_eq_getElem (by omega)]
        rw [List.getElem_take] at hjy
        rw [hjy]; simp [hyx]
      have q2 : (l.map (·.id))[n]? = some x.id := by rw [List.getElem?_map, hx]; rfl
      have := (List.getElem?_inj (by simp; omega) hnd).1 (q1.trans q2.symm)
      omega
  have HUN := Lib.hid hun; have HMEM := Lib.hid hmem; have HTR := Lib.hid htr
  have H := Lib.hid h
  have hok := h.ok
  obtain ⟨i0, hi, hz0, hz1, hz2⟩ := info_parts call_info
  have HI := Lib.hid hi; have HZ0 := Lib.hid hz0; have HZ1 := Lib.hid hz1; have HZ2 := Lib.hid hz2
  obtain ⟨j0, hj, hy0, hy1, hy2⟩ := info_parts bool_info2
  have HJ := Lib.hid hj; have HY0 := Lib.hid hy0; have HY1 := Lib.hid hy1; have HY2 := Lib.hid hy2
  have HLEN := Lib.hid (fun n => rRun_len C now T (l.take n))
  obtain ⟨N, hN⟩ : ∃ N, T.length = N := ⟨_, rfl⟩
  rw [hN] at c4 hT hll NEXT HLEN
  have HN := Lib.hid hN; have HBL := Lib.hid hblt; have HLL := Lib.hid hll
  clear h hi hz0 hz1 hz2 hj hy0 hy1 hy2 hN hp hs hnd hmem htr hun hblt hIds
  go_enter Try.func34, Try.ntmps34
  go_wp2_with (at_make; refine wpList_make_full _ rfl _ _ 103 rfl w.heap.size 4 j0 (.bool false) 1 Try.underlying103 HJ.out HY0.out HY1.out .i64 .i64 _ _ N rfl rfl (by omega) (by omega) (by rw [HY2.out]; omega) (by unfold maxLen; omega) (Nat.le_refl _) ?_; intro w1 hown1 hgrow1)
  have hfl := Flag.made hown1
  have b1 := (Below.refl w.heap.size w).grown hgrow1 (Nat.le_refl _) (by intro k hk; cases hk)
  have hrel0 : RDue w w1 B rb ao cap C now T l w.heap.size N (.slice none 0 0) (.slice none 0 0) 0 w1 :=
    ⟨by simpa [rRun] using H.out.below b1, Keep.refl _ _, hfl.like (fun i _ => by simp [Fn_]), World.ownsRow_nil _ _ _ _, World.ownsRow_nil _ _ _ _, fun g hg => by cases hg⟩
  have hsz1 : w.heap.size < w1.heap.size := hfl.lt
  have HREL0 := Lib.hid hrel0; have HB1 := Lib.hid b1
  clear hown1 hgrow1 hfl b1 hrel0 c4
  go_wp2_with fail
  go_loopw [6, 7, 9, 10, 11] (fun v6 v7 v9 v10 v11 wr => ∃ n : Nat, v9 = .int .i64 (n : Int) ∧ n ≤ l.length ∧ RDue w w1 B rb ao cap C now T l w.heap.size N v6 v7 n wr) (fun v6 v7 v9 v10 v11 _ => N - (intOf v9).toNat)
  case atStart => exact ⟨0, rfl, Nat.zero_le _, HREL0.out⟩
  case round =>
    clear HREL0
    obtain ⟨n, rfl, hn, hrl⟩ := hrel
    obtain ⟨ao6, cap6, hv6, hle6, hmx6⟩ := owns_shape hrl.o6
    obtain ⟨ao7, cap7, hv7, hle7, hmx7⟩ := owns_shape hrl.o7
    subst hv6 hv7
    have HRL := Lib.hid hrl
    have c4 := hrl.st.at_ 4
    have hlen := HLEN.out n
    simp only [rowR, List.getElem?_toArray, List.getElem?_cons_succ, List.getElem?_cons_zero] at c4
    rw [hlen] at c4
    have hltr := hrl.st.hlt
    have hnN : n ≤ N := by omega
    by_cases hlt2 : n < N
    · clear hrl
      have HC4 := Lib.hid c4
      go_wp2_with fail
      go_loopw [10, 11] (fun v10 v11 wq => ∃ (i : Nat) (a : Option Nat), v11 = .int .i64 (i : Int) ∧ v10 = atV a ∧ i ≤ N ∧ Best (rRun C now T (l.take n)).T (dnL N (Fn_ l n)) now i a ∧ Below wr.heap.size wr wq ∧ (∀ b, a = some b → b < i)) (fun v10 v11 _ => N - (intOf v11).toNat)
      case atStart => exact ⟨0, none, rfl, rfl, Nat.zero_le _, Best.zero, Below.refl _ _, fun b hb => by cases hb⟩
      case round =>
        obtain ⟨i, a, rfl, rfl, hi, hbest, hbq, hab⟩ := hrel
        have st := HRL.out.st.below hbq
        have c4 := st.at_ 4
        simp only [rowR, List.getElem?_toArray, List.getElem?_cons_succ, List.getElem?_cons_zero] at c4
        rw [hlen] at c4
        have hltq := st.hlt
        have HB := Lib.hid hbest; have HBQ := Lib.hid hbq; have HAB := Lib.hid hab
        by_cases hi2 : i < N
        · obtain ⟨x, hx⟩ : ∃ x, (rRun C now T (l.take n)).T[i]? = some x := ⟨_, List.getElem?_eq_getElem (by rw [hlen]; exact hi2)⟩
          obtain ⟨g, hao, hgl, _, _, hcell⟩ := st.cell hx
          have x3 := hcell 3 (by omega); have x4 := hcell 4 (by omega)
          simp only [List.getElem?_cons_succ, List.getElem?_cons_zero] at x3 x4
          have hfl := HRL.out.fl.keep (Keep.of_below hbq []) (by simp)
          have cd := hfl.cell i hi2
          have hld := hfl.lt
          have ST := Lib.hid st
          clear hbest hbq hcell hfl st hab
          cases hdn : Fn_ l n i with
          | true =>
            rw [hdn] at cd
            have hno : ∀ z, ¬ Cand (rRun C now T (l.take n)).T (dnL N (Fn_ l n)) now i z := fun z hz => by have := hz.2.1; rw [dnL_at hi2, hdn] at this; cases this
            have HNX := Lib.hid (HB.out.skip hno)
            have HNB := Lib.hid (fun b hb => Nat.lt_succ_of_lt (HAB.out b hb))
            clear hno hx
            cases hao
            go_wp2_with fail
            go_roundw
            case rel => exact ⟨i + 1, a, by go_num, rfl, by omega, HNX.out, HBQ.out, HNB.out⟩
            case measure => simp [intOf]; omega
          | false =>
            rw [hdn] at cd
            cases hao
            by_cases ht0 : x.tries = 0
            · have hno : ∀ z, ¬ Cand (rRun C now T (l.take n)).T (dnL N (Fn_ l n)) now i z := fun z hz => by have e := hz.1.symm.trans hx; injection e with e; subst e; have := hz.2.2.1; omega
              have HNX := Lib.hid (HB.out.skip hno)
              have HNB := Lib.hid (fun b hb => Nat.lt_succ_of_lt (HAB.out b hb))
              rw [ht0] at x3
              clear hno hx
              go_wp2_with fail
              go_roundw
              case rel => exact ⟨i + 1, a, by go_num, rfl, by omega, HNX.out, HBQ.out, HNB.out⟩
              case measure => simp [intOf]; omega
            · have ht1 : ((x.tries : Int) == 0) = false := by simp; omega
              by_cases hdu : now < x.due
              · have hno : ∀ z, ¬ Cand (rRun C now T (l.take n)).T (dnL N (Fn_ l n)) now i z := fun z hz => by have e := hz.1.symm.trans hx; injection e with e; subst e; have := hz.2.2.2; omega
                have HNX := Lib.hid (HB.out.skip hno)
                have HNB := Lib.hid (fun b hb => Nat.lt_succ_of_lt (HAB.out b hb))
                clear hno hx
                go_wp2_with fail
                go_roundw
                case rel => exact ⟨i + 1, a, by go_num, rfl, by omega, HNX.out, HBQ.out, HNB.out⟩
                case measure => simp [intOf]; omega
              · have hc : Cand (rRun C now T (l.take n)).T (dnL N (Fn_ l n)) now i x := ⟨hx, by rw [dnL_at hi2, hdn], by omega, by omega⟩
                have HC := Lib.hid hc
                clear hc
                cases a with
                | none =>
                  have HNX := Lib.hid (HB.out.take HC.out (fun b y hb => by cases hb))
                  have hd1 : decide ((-1 : Int) < 0) = true := rfl
                  clear hx
                  show Code.wp _ _ _ _ _
                  unfold atV
                  go_wp2_with fail
                  go_quiet (fail)
                  go_wp2_with fail
                  go_roundw
                  case rel => exact ⟨i + 1, some i, by go_num, rfl, by omega, HNX.out, below_drewN HBQ.out _, fun b hb => by injection hb with hb; omega⟩
                  case measure => simp [intOf]; omega
                | some b =>
                  obtain ⟨y, hy, hy0⟩ := best_pick HB.out
                  have hbi := HAB.out b rfl
                  obtain ⟨g2, hao2, _, _, _, hcell2⟩ := ST.out.cell hy
                  cases hao2
                  have y4 := hcell2 4 (by omega)
                  simp only [List.getElem?_cons_succ, List.getElem?_cons_zero] at y4
                  have hd1 : decide ((b : Int) < 0) = false := by simp
                  have hbl : (b : Int) < (N : Int) := by omega
                  have hil : (i : Int) < (N : Int) := by omega
                  clear hcell2
                  unfold atV
                  by_cases hlt3 : x.due < y.due
                  · have HNX := Lib.hid (HB.out.take HC.out (fun b' y' hb' hy' => by injection hb' with hb'; subst hb'; have e := hy'.symm.trans hy; injection e with e; subst e; exact hlt3))
                    have hd2 : decide ((x.due : Int) < (y.due : Int)) = true := by simp; omega
                    clear hx hy
                    go_wp2_with fail
                    go_quiet (fail)
                    go_wp2_with fail
                    go_roundw
                    case rel => exact ⟨i + 1, some i, by go_num, rfl, by omega, HNX.out, below_drewN HBQ.out _, fun b hb => by injection hb with hb; omega⟩
                    case measure => simp [intOf]; omega
                  · have HNX := Lib.hid (HB.out.stay HC.out rfl hy hlt3)
                    have hd2 : decide ((x.due : Int) < (y.due : Int)) = false := by simp; omega
                    clear hx hy
                    go_wp2_with fail
                    go_quiet (fail)
                    go_wp2_with fail
                    go_roundw
                    case rel => exact ⟨i + 1, some b, by go_num, rfl, by omega, HNX.out, below_drewN HBQ.out _, fun b' hb => by injection hb with hb; omega⟩
                    case measure => simp [intOf]; omega
        · obtain rfl : N = i := by omega
          have NX := NEXT.out n a hn hbest
          have BQ := Lib.hid hbq
          have ST := Lib.hid st
          clear hbest HB HAB hab hbq
          rcases NX with ⟨rfl, hnl⟩ | ⟨x, hx, rfl⟩
          · have hlT : l.take n = l := by rw [hnl]; exact List.take_length
            have hst := ST.out
            have o6 := owns_keep HRL.out.o6 (Keep.of_below BQ.out []) (by simp); have o7 := owns_keep HRL.out.o7 (Keep.of_below BQ.out []) (by simp)
            have kp := HRL.out.keep
            rw [hlT] at hst o6 o7
            rw [hlT]
            have HST := Lib.hid hst; have HO6 := Lib.hid (owns_base o6 (Nat.le_of_lt hsz1)); have HO7 := Lib.hid (owns_base o7 (Nat.le_of_lt hsz1))
            have HK : Hid (Keep (blk ao) w wr) := Lib.hid ((((Keep.of_below HB1.out (w.heap.size :: blk ao)).trans kp).trans (Keep.of_below BQ.out _)).mono (fun q hq => by
              rcases List.mem_cons.1 hq with h | h
              · exact .inr (by omega)
              · exact .inl h))
            clear hst o6 o7 kp HRL ST st
            show Code.wp _ _ _ _ _
            unfold atV
            go_wp2_with fail
            go_ret2
            exact ⟨_, _, rfl, HST.out, HK.out, HO6.out, HO7.out⟩
          · have hxl := List.mem_of_getElem? hx
            obtain ⟨hx0, hx1, hx2⟩ := HMEM.out x hxl
            have hxT := HUN.out n x hx
            have htr := HTR.out x (List.mem_of_getElem? hx0)
            obtain ⟨j, hj⟩ : ∃ j, x.id - 1 = j := ⟨_, rfl⟩
            have HJ2 := Lib.hid hj
            rw [hj] at hxT
            have hjN : j < N := by have := (List.getElem?_eq_some_iff.1 hxT).1; rw [hlen] at this; exact this
            rw [hj]
            have hao : ∀ g ∈ blk ao, g < w.heap.size := fun g hg => (HBL.out g hg).1
            obtain ⟨g, haog, hgl, hgB, hgr, hcell⟩ := st.cell hxT
            have hgw : g < w.heap.size := hao g (by rw [haog]; simp [blk])
            have x0 := hcell 0 (by omega); have x1 := hcell 1 (by omega); have x2 := hcell 2 (by omega); have x3 := hcell 3 (by omega); have x4 := hcell 4 (by omega)
            simp only [Nat.add_zero, List.getElem?_cons_succ, List.getElem?_cons_zero] at x0 x1 x2 x3 x4
            have r0 := st.at_ 0; have r1 := st.at_ 1; have r2 := st.at_ 2
            simp only [rowR, List.getElem?_toArray, List.getElem?_cons_succ, List.getElem?_cons_zero] at r0 r1 r2
            have hfl := HRL.out.fl.keep (Keep.of_below BQ.out []) (by simp)
            have cd := hfl.cell j hjN; have cf := hfl.free j
            have hfs := (hfl.set j hjN).like (G := Fn_ l (n + 1)) (fun i hi => by rw [← HJ2.out]; exact Fn_succ l n hx hx1 i)
            have hjl : (j : Int) < (N : Int) := by omega
            have hdr : w.heap.size ≠ rb := by have := hlt; omega
            have hdg : w.heap.size ≠ g := by omega
            have hltq2 := hltq
            have HFS := Lib.hid hfs
            have st1 := (st.keep (Keep.setCell wr ⟨w.heap.size, j, none⟩ (.bool true)) (by simp; omega) (fun q hq hm => by simp at hm; have := hao q hq; omega))
            have HST1 := Lib.hid st1
            have h7 := HRL.out.o7; have h6 := HRL.out.o6
            have hwl1 : w1.heap.size ≤ wr.heap.size := Nat.le_trans HRL.out.keep.size BQ.out.size
            have hsz1' := hsz1
            have k01 := (Keep.of_below BQ.out (w.heap.size :: blk ao)).trans ((Keep.setCell wr ⟨w.heap.size, j, none⟩ (.bool true)).mono (T := w.heap.size :: blk ao) (by simp))
            have HK01 := Lib.hid k01
            have HHJ := Lib.hid hx
            have hll6 : (rRun C now T (l.take n)).again.length ≤ 1000 ∧ (rRun C now T (l.take n)).over.length ≤ 1000 := by
              have e1 := rRun_lists C now T T (l.take n)
              have e2 := dueRun_lens C now T (l.take n)
              rw [← e1.1, ← e1.2, List.length_take] at e2
              omega
            cases haog
            unfold atV
            by_cases hov : C.tries ≤ x.tries
            · have heq : C.tries = x.tries := by omega
              have HOV := Lib.hid hov
              have HO7 := Lib.hid (owns_keep (owns_keep h7 (Keep.of_below BQ.out []) (by simp)) (Keep.setCell wr ⟨w.heap.size, j, none⟩ (.bool true)) (fun q hq hm => by have := (owns_lt h7 q hq).1; simp at hm; omega))
              have HNV := Lib.hid (fun q (hq : (Value.slice ao7 (rRun C now T (l.take n)).over.length cap7).ownBlock = some q) => (owns_lt h7 q hq).1)
              rw [heq] at r2
              obtain ⟨xi, xt, xs, xtr, xd⟩ := x
              simp only at x0 x1 x2 x3 x4 r2 hx1
              clear h6 h7 hcell st st1 hfl hfs k01 hx hx0
              obtain ⟨ws, hws⟩ : ∃ ws, wr.setCell ⟨w.heap.size, j, none⟩ (.bool true) = ws := ⟨_, rfl⟩
              have hgs : g < ws.heap.size ∧ rb < ws.heap.size := by rw [← hws]; simp [World.setCell]; exact ⟨hgl, hltq⟩
              have hwl2 : w1.heap.size ≤ ws.heap.size := by rw [← hws]; simp [World.setCell]; exact hwl1
              have hwl3 : wr.heap.size ≤ ws.heap.size := by rw [← hws]; simp [World.setCell]
              rw [hws] at HO7 HST1 HFS HK01
              have HWS := Lib.hid hws
              have hc1 : ∀ i, i < 5 → ws.cell? ⟨g, j * 5 + i, none⟩ = (Cal.list ⟨xi, xt, xs, xtr, xd⟩)[i]? := by
                obtain ⟨g', hg', _, _, _, hc'⟩ := HST1.out.cell hxT
                injection hg' with hg'; injection hg' with hg'; subst hg'
                exact hc'
              have y0 := hc1 0 (by omega); have y1 := hc1 1 (by omega); have y2 := hc1 2 (by omega); have y3 := hc1 3 (by omega); have y4 := hc1 4 (by omega)
              simp only [Nat.add_zero, List.getElem?_cons_succ, List.getElem?_cons_zero] at y0 y1 y2 y3 y4
              have s4 := HST1.out.at_ 4
              simp only [rowR, List.getElem?_toArray, List.getElem?_cons_succ, List.getElem?_cons_zero] at s4
              rw [hlen] at s4
              have hyf : ws.frozen? ⟨g, j * 5 + 3, none⟩ = false := by
                rcases HST1.out.own.2 with ⟨h2, _⟩ | ⟨g', cap', cur, h2, hb, hg, _⟩
                · cases h2
                · cases h2; exact frozen_of_row ws g (j * 5 + 3) cur _ hg
              have HXT := Lib.hid hxT
              clear hc1 hxT
              obtain ⟨LL, hLL⟩ : ∃ LL, (rRun C now T (l.take n)).over = LL := ⟨_, rfl⟩
              have HLLE := Lib.hid hLL
              rw [hLL] at HO7 HNV hll6 
              generalize hL7 : LL.length = L7 at *
              have hLe : L7 ≤ 1000 := hll6.2
              rw [hLL, hL7]
              have APP := Lib.hid (fun (w5 : World) (v8 : Value) (hown5 : w5.ownsRow w1.heap.size 70 5 v8 (L7 + 1) (lc LL ++ Cal.list ⟨xi, xt, xs, xtr, xd⟩)) (hg5 : ((ws.alloc (boxc ⟨xi, xt, xs, xtr, xd⟩)).drew).grownBy w5 (Value.slice ao7 L7 cap7).ownBlock) =>
                show Keep (Value.slice ao7 L7 cap7).ownBlock.toList ws w5 from (Keep.of_below (below_alloc (Below.refl ws.heap.size ws) (boxc ⟨xi, xt, xs, xtr, xd⟩)).drew _).trans (keep_grownO hg5))
              have hnb : g ∉ (Value.slice ao7 L7 cap7).ownBlock.toList ∧ rb ∉ (Value.slice ao7 L7 cap7).ownBlock.toList ∧ w.heap.size ∉ (Value.slice ao7 L7 cap7).ownBlock.toList := by
                refine ⟨fun hm => ?_, fun hm => ?_, fun hm => ?_⟩ <;> (simp at hm; have := HNV.out _ hm; omega)
              have HNB := Lib.hid hnb
              clear hws hLL hll6 hnb
              go_wp2_with fail
              go_region
              simp only [HWS.out]
              clear x0 x1 x2 x3 x4 r0 r1 r2 cd cf c4
              go_wp2_with (at_builtin; refine wpList_append_own_at _ rfl (.tmp 111) (.tmp 119) 50 rfl w1.heap.size 70 i0 zpk 5 40 Try.underlying50 HI.out HZ0.out HZ1.out HZ2.out rfl (by omega) _ L7 _ rfl ((HO7.out.alloc _).drew) ⟨ws.heap.size, 0, none⟩ 1 1 (Cal.list ⟨xi, xt, xs, xtr, xd⟩) rfl rfl (World.news_of_block (cs := Cal.cells ⟨xi, xt, xs, xtr, xd⟩) (t := 70) (fr := (0, 0)) (heap_alloc_new ws _)) (by simp [Value.oneCell']) (by unfold maxLen; omega) (by omega) (by simp; omega) ?_; intro v8 w5 hown5 hg5 hv5 hob5; have kk5 := APP.out w5 v8 hown5 hg5; have d4 := (kk5.cell (a := ⟨rb, 4, none⟩) hgs.2 HNB.out.2.1).trans s4; have d3 := (kk5.cell (a := ⟨g, j * 5 + 3, none⟩) hgs.1 HNB.out.1).trans y3; have df := (kk5.frozen (a := ⟨g, j * 5 + 3, none⟩) hgs.1 HNB.out.1).trans hyf)
              have st5 := HST1.out.keep kk5 HNB.out.2.1 (fun q hq => by simp [blk] at hq; subst hq; exact HNB.out.1)
              have ho5 := owns_put st5.own (j * 5 + 3) (by rw [hlen]; omega) (.int .i64 0)
              rw [lc_set _ j 3 HXT.out (by omega) (Cal.ended ⟨xi, xt, xs, xtr, xd⟩) (.int .i64 0) rfl] at ho5
              have hf5 := st5.fine _ (List.mem_of_getElem? HXT.out)
              have k56 := Keep.setCell w5 ⟨g, j * 5 + 3, none⟩ (.int .i64 0)
              have st6 := st5.set (w' := w5.setCell ⟨g, j * 5 + 3, none⟩ (.int .i64 0)) rfl HXT.out (y := Cal.ended ⟨xi, xt, xs, xtr, xd⟩) rfl (by unfold Cal.ended Cal.fits0 at *; simp only at *; omega) ho5 (by simpa [blk] using k56)
              have kz := ((HK01.out.mono (T := (w.heap.size :: blk (some ⟨g, 0, none⟩)) ++ (Value.slice ao7 L7 cap7).ownBlock.toList) (fun q hq => .inl (List.mem_append_left _ hq))).trans (kk5.mono (fun q hq => .inl (List.mem_append_right _ hq)))).trans (k56.mono (fun q hq => .inl (by simp at hq; simp [blk, hq])))
              have fl6 := (HFS.out.keep kk5 HNB.out.2.2).keep k56 (by simp; omega)
              have ho6 := owns_keep hown5 k56 (fun q hq hm => by simp at hm; have := (owns_lt hown5 q hq).1; omega)
              have hrr := HRL.out
              rw [HLLE.out] at hrr
              have hob6 : v8.ownBlock = (Value.slice ao7 L7 cap7).ownBlock ∨ v8.ownBlock = some (ws.alloc (boxc ⟨xi, xt, xs, xtr, xd⟩)).drew.heap.size := hob5
              have RR := Lib.hid (hrr.over (v' := v8) (wz := w5.setCell ⟨g, j * 5 + 3, none⟩ (.int .i64 0)) hao hsz1 HHJ.out HOV.out (by rw [hL7]; exact kz) (by show RefW _ B rb _ cap ((rRun C now T (l.take n)).T.set (xi - 1) _) C; rw [HJ2.out]; exact st6) fl6 (by rw [HLLE.out, hL7]; exact ho6) (by rw [hL7]; exact hob6) (by have := BQ.out.size; simp; omega))
              clear kk5 d4 d3 df st5 ho5 hf5 k56 st6 kz fl6 ho6 hrr hown5 hg5 hv5 hob5 hob6
              go_wp2_with fail
              go_roundw
              case rel => exact ⟨n + 1, by go_num, (List.getElem?_eq_some_iff.1 HHJ.out).1, RR.out⟩
              case measure => simp [intOf]; omega
            · have HOV := Lib.hid hov
              have htrd : ((x.tries : Int) == (C.tries : Int)) = false := by simp; omega
              have W1 := Lib.hid (rwait_yes C.base C.most x.tries (by unfold fairB; simp; unfold Cfg.ok at hok; omega) (by unfold Cfg.ok at hok; omega))
              have hwle := waitN_le C.base C.most x.tries
              have hmo : C.most ≤ 1073741824 := by unfold Cfg.ok at hok; omega
              have HO6 := Lib.hid (owns_keep (owns_keep h6 (Keep.of_below BQ.out []) (by simp)) (Keep.setCell wr ⟨w.heap.size, j, none⟩ (.bool true)) (fun q hq hm => by have := (owns_lt h6 q hq).1; simp at hm; omega))
              have HNV := Lib.hid (fun q (hq : (Value.slice ao6 (rRun C now T (l.take n)).again.length cap6).ownBlock = some q) => (owns_lt h6 q hq).1)
              have HYE := Lib.hid (show triedC C x now = ⟨x.id, x.to, x.since, x.tries + 1, now + waitN C.base C.most x.tries⟩ from rfl)
              generalize waitN C.base C.most x.tries = wt at *
              have hwr : IntKind.i64.wrap ((now : Int) + (wt : Int)) = (now : Int) + (wt : Int) := IntWalk.i64_in _ (by omega)
              obtain ⟨xi, xt, xs, xtr, xd⟩ := x
              simp only at x0 x1 x2 x3 x4 r2 hx1 W1 htrd HYE
              have hxtr : xtr ≤ 16 := by unfold Cfg.ok at hok; simp only at htr; omega
              clear h6 h7 hcell st st1 hfl hfs k01 hx hx0
              obtain ⟨ws, hws⟩ : ∃ ws, wr.setCell ⟨w.heap.size, j, none⟩ (.bool true) = ws := ⟨_, rfl⟩
              have hgs : g < ws.heap.size ∧ rb < ws.heap.size := by rw [← hws]; simp [World.setCell]; exact ⟨hgl, hltq⟩
              have hwl2 : w1.heap.size ≤ ws.heap.size := by rw [← hws]; simp [World.setCell]; exact hwl1
              have hwl3 : wr.heap.size ≤ ws.heap.size := by rw [← hws]; simp [World.setCell]
              rw [hws] at HO6 HST1 HFS HK01
              have HWS := Lib.hid hws
              have hc1 : ∀ i, i < 5 → ws.cell? ⟨g, j * 5 + i, none⟩ = (Cal.list ⟨xi, xt, xs, xtr, xd⟩)[i]? := by
                obtain ⟨g', hg', _, _, _, hc'⟩ := HST1.out.cell hxT
                injection hg' with hg'; injection hg' with hg'; subst hg'
                exact hc'
              have y0 := hc1 0 (by omega); have y1 := hc1 1 (by omega); have y2 := hc1 2 (by omega); have y3 := hc1 3 (by omega); have y4 := hc1 4 (by omega)
              simp only [Nat.add_zero, List.getElem?_cons_succ, List.getElem?_cons_zero] at y0 y1 y2 y3 y4
              have s4 := HST1.out.at_ 4; have s0 := HST1.out.at_ 0; have s1 := HST1.out.at_ 1
              simp only [rowR, List.getElem?_toArray, List.getElem?_cons_succ, List.getElem?_cons_zero] at s4 s0 s1
              rw [hlen] at s4
              have hyf : ∀ q, ws.frozen? ⟨g, q, none⟩ = false := fun q => by
                rcases HST1.out.own.2 with ⟨h2, _⟩ | ⟨g', cap', cur, h2, hb, hg, _⟩
                · cases h2
                · cases h2; exact frozen_of_row ws g q cur _ hg
              have hf3 := hyf (j * 5 + 3); have hf4 := hyf (j * 5 + 4)
              have HXT := Lib.hid hxT
              have hfit := HST1.out.fine _ (List.mem_of_getElem? hxT)
              -- the row behind both stores
              have ho1 := owns_put HST1.out.own (j * 5 + 4) (by rw [hlen]; omega) (.int .i64 ((now : Int) + (wt : Int)))
              rw [lc_set _ j 4 hxT (by omega) ⟨xi, xt, xs, xtr, now + wt⟩ (.int .i64 ((now : Int) + (wt : Int))) (by simp)] at ho1
              have ho2 := owns_put ho1 (j * 5 + 3) (by rw [hlen]; omega) (.int .i64 ((xtr : Int) + 1))
              rw [lc_set _ j 3 (List.getElem?_set_self (by rw [hlen]; exact hjN)) (by omega) ⟨xi, xt, xs, xtr + 1, now + wt⟩ (.int .i64 ((xtr : Int) + 1)) (by simp), List.set_set] at ho2
              have k12 : Keep (blk (some ⟨g, 0, none⟩)) ws ((ws.setCell ⟨g, j * 5 + 4, none⟩ (.int .i64 ((now : Int) + (wt : Int)))).setCell ⟨g, j * 5 + 3, none⟩ (.int .i64 ((xtr : Int) + 1))) := by
                have := (Keep.setCell ws ⟨g, j * 5 + 4, none⟩ (.int .i64 ((now : Int) + (wt : Int)))).trans (Keep.setCell (ws.setCell ⟨g, j * 5 + 4, none⟩ (.int .i64 ((now : Int) + (wt : Int)))) ⟨g, j * 5 + 3, none⟩ (.int .i64 ((xtr : Int) + 1)))
                simpa [blk] using this
              have st2 := HST1.out.set rfl hxT (y := ⟨xi, xt, xs, xtr + 1, now + wt⟩) rfl (by unfold Cal.fits0 at *; simp only at *; unfold Cfg.ok at hok; omega) ho2 k12
              obtain ⟨LL, hLL⟩ : ∃ LL, (rRun C now T (l.take n)).again = LL := ⟨_, rfl⟩
              have HLLE := Lib.hid hLL
              rw [hLL] at HO6 HNV hll6
              generalize hL6 : LL.length = L6 at *
              have hLe : L6 ≤ 1000 := hll6.1
              rw [hLL, hL6]
              obtain ⟨wu, hwu⟩ : ∃ wu, (ws.setCell ⟨g, j * 5 + 4, none⟩ (.int .i64 ((now : Int) + (wt : Int)))).setCell ⟨g, j * 5 + 3, none⟩ (.int .i64 ((xtr : Int) + 1)) = wu := ⟨_, rfl⟩
              have HWU := Lib.hid hwu
              rw [hwu] at st2 k12
              have hnb : g ∉ (Value.slice ao6 L6 cap6).ownBlock.toList ∧ rb ∉ (Value.slice ao6 L6 cap6).ownBlock.toList ∧ w.heap.size ∉ (Value.slice ao6 L6 cap6).ownBlock.toList := by
                refine ⟨fun hm => ?_, fun hm => ?_, fun hm => ?_⟩ <;> (simp at hm; have := HNV.out _ hm; omega)
              have HNB := Lib.hid hnb
              have HO6U := Lib.hid (owns_keep HO6.out k12 (fun q hq hm => by simp [blk] at hm; subst hm; exact hnb.1 (by rw [hq]; simp)))
              have APP := Lib.hid (fun (w5 : World) (hg5 : (((wu.alloc (boxc ⟨xi, xt, xs, xtr + 1, now + wt⟩)).drew).drew).grownBy w5 (Value.slice ao6 L6 cap6).ownBlock) =>
                show Keep (Value.slice ao6 L6 cap6).ownBlock.toList wu w5 from (Keep.of_below (below_alloc (Below.refl wu.heap.size wu) (boxc ⟨xi, xt, xs, xtr + 1, now + wt⟩)).drew.drew _).trans (keep_grownO hg5))
              have hwl4 : ws.heap.size ≤ wu.heap.size := k12.size
              have ST2 := Lib.hid st2; have K12 := Lib.hid k12
              -- its cells
              have hcu : ∀ i, i < 5 → wu.cell? ⟨g, j * 5 + i, none⟩ = (Cal.list ⟨xi, xt, xs, xtr + 1, now + wt⟩)[i]? := by
                obtain ⟨g', hg', _, _, _, hc'⟩ := st2.cell (List.getElem?_set_self (by rw [hlen]; exact hjN))
                injection hg' with hg'; injection hg' with hg'; subst hg'
                exact hc'
              have z0 := hcu 0 (by omega); have z1 := hcu 1 (by omega); have z2 := hcu 2 (by omega); have z3 := hcu 3 (by omega); have z4 := hcu 4 (by omega)
              simp only [Nat.add_zero, List.getElem?_cons_succ, List.getElem?_cons_zero] at z0 z1 z2 z3 z4
              have u4 := st2.at_ 4
              simp only [rowR, List.getElem?_toArray, List.getElem?_cons_succ, List.getElem?_cons_zero] at u4
              rw [List.length_set, hlen] at u4
              clear hws hLL hll6 hnb hwu st2 k12 ho1 ho2 hc1 hcu hxT hyf
              go_wp2_with fail
              go_region
              simp only [HWS.out]
              clear x0 x1 x2 x3 x4 r0 r1 r2 cd cf c4
              go_wp2_with fail
              have hS : ws.drew.drew.cell? ⟨rb, 4, none⟩ = some (.slice (some ⟨g, 0, none⟩) N cap) ∧ ws.drew.drew.cell? ⟨rb, 0, none⟩ = some (.int .i64 (C.base : Int)) ∧ ws.drew.drew.cell? ⟨rb, 1, none⟩ = some (.int .i64 (C.most : Int)) ∧ ws.drew.drew.cell? ⟨g, j * 5 + 3, none⟩ = some (.int .i64 (xtr : Int)) := ⟨s4, s0, s1, y3⟩
              go_region_held3 (fun W => W.cell? ⟨rb, 4, none⟩ = some (.slice (some ⟨g, 0, none⟩) N cap) ∧ W.cell? ⟨rb, 0, none⟩ = some (.int .i64 (C.base : Int)) ∧ W.cell? ⟨rb, 1, none⟩ = some (.int .i64 (C.most : Int)) ∧ W.cell? ⟨g, j * 5 + 3, none⟩ = some (.int .i64 (xtr : Int)))
                (first | assumption | (refine ⟨?_, ?_, ?_, ?_⟩ <;> go_simp))
                (first | (go_at_call 23; refine (W1.out _).mono ?_; rintro e w2 ⟨rfl, rfl⟩))
              have HO6E : Hid (((ws.setCell ⟨g, j * 5 + 4, none⟩ (.int .i64 ((now : Int) + (wt : Int)))).setCell ⟨g, j * 5 + 3, none⟩ (.int .i64 ((xtr : Int) + 1))).ownsRow w1.heap.size 70 5 (.slice ao6 L6 cap6) L6 (lc LL)) := Lib.hid (by rw [HWU.out]; exact HO6U.out)
              have hwsz : (ws.setCell ⟨g, j * 5 + 4, none⟩ (.int .i64 ((now : Int) + (wt : Int)))).heap.size = ws.heap.size := by simp [World.setCell]
              go_wp2_with (at_builtin; refine wpList_append_own_at _ rfl (.tmp 165) (.tmp 173) 50 rfl w1.heap.size 70 i0 zpk 5 40 Try.underlying50 HI.out HZ0.out HZ1.out HZ2.out rfl (by omega) _ L6 _ rfl (((HO6E.out.alloc _).drew).drew) ⟨ws.heap.size, 0, none⟩ 1 1 [.int .u64 (xi : Int), .int .i64 xt, .int .i64 (xs : Int), .int .i64 ((xtr : Int) + 1), .int .i64 ((now : Int) + (wt : Int))] rfl rfl (World.news_of_block (cs := #[.int .u64 (xi : Int), .int .i64 xt, .int .i64 (xs : Int), .int .i64 ((xtr : Int) + 1), .int .i64 ((now : Int) + (wt : Int))]) (t := 70) (fr := (0, 0)) (by rw [show ws.heap.size = ((ws.setCell ⟨g, j * 5 + 4, none⟩ (.int .i64 ((now : Int) + (wt : Int)))).setCell ⟨g, j * 5 + 3, none⟩ (.int .i64 ((xtr : Int) + 1))).heap.size by simp [World.setCell]]; exact heap_alloc_new _ _)) (by simp [Value.oneCell']) (by unfold maxLen; omega) (by omega) (by simp [World.setCell]; omega) ?_; intro v8 w5 hown5 hg5 hv5 hob5)
              rw [HWU.out] at hg5 hob5
              have hye : (⟨xi, xt, xs, xtr + 1, now + wt⟩ : Cal).list = [.int .u64 (xi : Int), .int .i64 xt, .int .i64 (xs : Int), .int .i64 ((xtr : Int) + 1), .int .i64 ((now : Int) + (wt : Int))] := by simp
              have hbx : boxc ⟨xi, xt, xs, xtr + 1, now + wt⟩ = .cells #[.int .u64 (xi : Int), .int .i64 xt, .int .i64 (xs : Int), .int .i64 ((xtr : Int) + 1), .int .i64 ((now : Int) + (wt : Int))] 70 := by simp [boxc]
              have kk5 := APP.out w5 (by rw [hbx]; exact hg5)
              have st5 := ST2.out.keep kk5 HNB.out.2.1 (fun q hq => by simp [blk] at hq; subst hq; exact HNB.out.1)
              have kz := ((HK01.out.mono (T := (w.heap.size :: blk (some ⟨g, 0, none⟩)) ++ (Value.slice ao6 L6 cap6).ownBlock.toList) (fun q hq => .inl (List.mem_append_left _ hq))).trans (K12.out.mono (fun q hq => .inl (List.mem_append_left _ (List.mem_cons_of_mem _ hq))))).trans (kk5.mono (fun q hq => .inl (List.mem_append_right _ hq)))
              have fl6 := (HFS.out.keep K12.out (by simp [blk]; omega)).keep kk5 HNB.out.2.2
              have hrr := HRL.out
              rw [HLLE.out] at hrr
              have hob6 : v8.ownBlock = (Value.slice ao6 L6 cap6).ownBlock ∨ v8.ownBlock = some ((wu.alloc (.cells #[.int .u64 (xi : Int), .int .i64 xt, .int .i64 (xs : Int), .int .i64 ((xtr : Int) + 1), .int .i64 ((now : Int) + (wt : Int))] 70)).drew.drew).heap.size := hob5
              have RR := Lib.hid (hrr.again (v' := v8) (wz := w5) hao hsz1 HHJ.out HOV.out (by rw [hL6]; exact kz) (by show RefW _ B rb _ cap ((rRun C now T (l.take n)).T.set (xi - 1) _) C; rw [HJ2.out, HYE.out]; exact st5) fl6 (by rw [HLLE.out, hL6, HYE.out, hye]; exact hown5) (by rw [hL6]; exact hob6) (by have := BQ.out.size; simp; omega))
              clear kk5 st5 kz fl6 hrr hown5 hg5 hv5 hob5 hob6 hye hbx
              go_wp2_with fail
              go_roundw
              case rel => exact ⟨n + 1, by go_num, (List.getElem?_eq_some_iff.1 HHJ.out).1, RR.out⟩
              case measure => simp [intOf]; omega
    · obtain rfl : N = n := by omega
      have hlT : l.take N = l := List.take_of_length_le (by omega)
      have hst := hrl.st
      have o6 := hrl.o6; have o7 := hrl.o7
      have kp := hrl.keep
      rw [hlT] at hst o6 o7
      rw [hlT]
      have HST := Lib.hid hst; have HO6 := Lib.hid (owns_base o6 (Nat.le_of_lt hsz1)); have HO7 := Lib.hid (owns_base o7 (Nat.le_of_lt hsz1))
      have HK : Hid (Keep (blk ao) w wr) := Lib.hid (((Keep.of_below HB1.out (w.heap.size :: blk ao)).trans kp).mono (fun q hq => by
        rcases List.mem_cons.1 hq with h | h
        · exact .inr (by omega)
        · exact .inl h))
      clear hst o6 o7 kp HRL hrl
      go_wp2_with fail
      go_ret2
      exact ⟨_, _, rfl, HST.out, HK.out, HO6.out, HO7.out⟩
end
end Go.Proofs.Ytjhdlohcjodgjaa
